/-
  Plain facts on a right node's bytes, and what comes in with a Raw in later worlds. The walk of the reference's Encode. Int and Flag that are written and read, by states. Fields are written: what is no row of bytes stays.
-/
import Derived.Laws.BitsAllLaws
import Derived.Deep.CutRange
import Derived.Laws.CopyOwn
import Derived.Deep.RegionLaw
import Derived.Deep.DrawnRows
import Derived.Laws.Tables
import Derived.Test.YtglfeocfhlmloaaV00
import Derived.Test.YtglfeocfhlmloaaV01
import Derived.Test.YtglfeocfhlmloaaV02
import Derived.Test.YtglfeocfhlmloaaV03
import Derived.Test.YtglfeocfhlmloaaV04
import Derived.Test.YtglfeocfhlmloaaV05
import Derived.Test.YtglfeocfhlmloaaV06
import Derived.Test.YtglfeocfhlmloaaV07
import Derived.Test.YtglfeocfhlmloaaV08
import Derived.Test.YtglfeocfhlmloaaV09
import Derived.Test.YtglfeocfhlmloaaV10
import Derived.Test.YtglfeocfhlmloaaV11
import Derived.Test.YtglfeocfhlmloaaV12
import Derived.Test.YtglfeocfhlmloaaV13
import Derived.Test.YtglfeocfhlmloaaV14
import Derived.Test.YtglfeocfhlmloaaV15
import Derived.Test.YtglfeocfhlmloaaV16
import Derived.Test.YtglfeocfhlmloaaV17
import Derived.Test.YtglfeocfhlmloaaV18
import Derived.Test.YtglfeocfhlmloaaV19
import Derived.Test.YtglfeocfhlmloaaV20
import Derived.Test.YtglfeocfhlmloaaV21
import Derived.Test.YtglfeocfhlmloaaV22
import Derived.Test.YtglfeocfhlmloaaV23
import Derived.Test.YtglfeocfhlmloaaV24
import Derived.Test.YtglfeocfhlmloaaV25
import Derived.Test.YtglfeocfhlmloaaV26
import Derived.Test.YtglfeocfhlmloaaV27
namespace Go.Proofs.Ytglfeocfhlmloaa.Nd
open Go.RowKit
theorem app_lt {a b : List Nat} (ha : ∀ x ∈ a, x < 256) (hb : ∀ x ∈ b, x < 256) : ∀ x ∈ a ++ b, x < 256 := by
  intro x hx
  rcases List.mem_append.1 hx with h | h
  · exact ha x h
  · exact hb x h
theorem kind_cases {x : It} (h : itemOk x = true) : x.kind = 2 ∨ x.kind = 3 := by
  unfold itemOk at h
  simp only [Bool.and_eq_true, Bool.or_eq_true, beq_iff_eq] at h
  exact h.1
theorem name_len {x : It} (h : itemOk x = true) : x.name.size ≤ 16 := by
  unfold itemOk at h
  simp only [Bool.and_eq_true] at h
  have h2 := h.2
  unfold isNameS at h2
  simp only [Bool.and_eq_true, decide_eq_true_eq] at h2
  rw [← bl_length]
  exact h2.1.2
theorem itemsOk_mem {l : List It} (h : itemsOk l) {x : It} (hx : x ∈ l) : itemOk x = true := by
  obtain ⟨i, hi, rfl⟩ := List.getElem_of_mem hx
  exact (h.2 i hi _ (List.getElem?_eq_getElem hi)).1
theorem enc_lt {n : Nd} (hr : right n) (hok : n.ok) : ∀ x ∈ enc n, x < 256 := by
  rcases hr with ⟨hk, hd1, hd2, hs, hp, hi⟩ | ⟨hk, hd, hs0, hs1, hp, hi⟩ | ⟨hk, hd, hs, hp, hi⟩
  · rw [enc_1 hk]
    exact app_lt (num_lt 1 (by decide)) (app_lt (num_lt _ (by omega)) (bytesS_lt _))
  · rw [enc_2 hk]
    refine app_lt (app_lt (num_lt 2 (by decide)) (num_lt _ (by omega))) ?_
    intro x hx
    obtain ⟨d, hd, hx⟩ := List.mem_flatten.1 hx
    exact (hok.parts d hd).2 x hx
  · rw [enc_3 hk]
    refine app_lt (app_lt (num_lt 3 (by decide)) (num_lt _ (by have := hi.1; omega))) ?_
    intro x hx
    obtain ⟨y, hy, hx⟩ := List.mem_flatMap.1 hx
    have h1 := itemsOk_mem hi hy
    have h2 := name_len h1
    have h3 : y.kind.toNat < 18446744073709551616 := by rcases kind_cases h1 with h | h <;> rw [h] <;> decide
    exact app_lt (app_lt (app_lt (num_lt y.name.size (by omega)) (bytesS_lt y.name)) (num_lt y.kind.toNat h3)) (hok.items y hy).sum.2 x hx
theorem Bss.below {w w' : World} {v : Value} {ps : List (List Nat)} (h : Bss w v ps) (hb : Below w.heap.size w w') : Bss w' v ps := by
  obtain ⟨p, cap, b, o, rfl, h1, h2, h3, hat⟩ := h
  refine ⟨p, cap, b, o, rfl, h1, h2, fun hne => ⟨(h3 hne).1, Nat.lt_of_lt_of_le (h3 hne).2 hb.size⟩, fun i bs hi => ?_⟩
  obtain ⟨q, c, b', o', hc, hs⟩ := hat i bs hi
  exact ⟨q, c, b', o', (hb.cell (p := ⟨b, o + i, none⟩) (World.block_lt_of_cell? w _ hc)).trans hc, hs.below hb⟩
theorem Strs.below {w w' : World} {v : Value} {ns : List ByteArray} (h : Strs w v ns) (hb : Below w.heap.size w w') : Strs w' v ns := by
  obtain ⟨p, cap, b, o, rfl, h1, h2, h3, hat⟩ := h
  exact ⟨p, cap, b, o, rfl, h1, h2, fun hne => ⟨(h3 hne).1, Nat.lt_of_lt_of_le (h3 hne).2 hb.size⟩, fun i s hi => (hb.cell (p := ⟨b, o + i, none⟩) (World.block_lt_of_cell? w _ (hat i s hi))).trans (hat i s hi)⟩
theorem Ints.below {w w' : World} {v : Value} {ks : List Int} (h : Ints w v ks) (hb : Below w.heap.size w w') : Ints w' v ks := by
  obtain ⟨p, cap, b, o, rfl, h1, h2, h3, hat⟩ := h
  exact ⟨p, cap, b, o, rfl, h1, h2, fun hne => ⟨(h3 hne).1, Nat.lt_of_lt_of_le (h3 hne).2 hb.size⟩, fun i s hi => (hb.cell (p := ⟨b, o + i, none⟩) (World.block_lt_of_cell? w _ (hat i s hi))).trans (hat i s hi)⟩
end Go.Proofs.Ytglfeocfhlmloaa.Nd
namespace Go.Proofs.Ytglfeocfhlmloaa.Nd
open Go.RowKit
theorem wpList_app {ops : Array Oper} {rest : List Oper} {o : Oper} {a : Act} {w : World} {Q : Exit → Act → World → Prop} (B : Nat) (hgd : o.guard = none) (s x : Operand) (ho : o.op = .call { callee := .builtin .append, args := #[s, x], argTypes := #[43, 43] })
    (v : Value) (xs ys : List Nat) (hs : a.eval s = v) (hown : w.ownsRow B 5 1 v xs.length (xs.map u8v)) (p : Option Addr) (c b off : Nat) (n : Nat) (hx : a.eval x = .slice p n c) (hn : ys.length = n) (hsl : Sl w p ys c b off) (hno : p = none → ys.length = 0 ∧ c = 0) (hlen : xs.length + ys.length ≤ 140737488355328) (hB : B ≤ w.heap.size)
    (h : ∀ v' w', w'.ownsRow B 5 1 v' (xs ++ ys).length ((xs ++ ys).map u8v) → w.grownBy w' v.ownBlock → wpList Try.prog ops Q rest (a.put o.dst v') w') : wpList Try.prog ops Q (o :: rest) a w := by
  subst hn
  obtain ⟨i5i, HI5, HE1, HE2, HE3⟩ := i5h
  refine wpList_append_any hgd s x 43 ho B 5 i5i (.int .u8 0) Try.underlying43 HI5.out HE3.out HE1.out HE2.out rfl v xs.length (xs.map u8v) hs hown p ys.length c (ys.map u8v) hx (by simp) hno hsl.news (one_u8 ys) hlen hB ?_
  intro v' w' h1 h2
  refine h v' w' ?_ h2
  rw [List.length_append, List.map_append]
  exact h1
/-- bytes that the call itself gathers -/
structure RE (W0 W : World) (v : Value) (xs : List Nat) : Prop where
  own : W.ownsRow W0.heap.size 5 1 v xs.length (xs.map u8v)
  bel : Below W0.heap.size W0 W
theorem RE.below {W0 W W' : World} {v : Value} {xs : List Nat} (h : RE W0 W v xs) (hb : Below W.heap.size W W') : RE W0 W' v xs := ⟨own_belowK h.own hb, h.bel.trans (hb.mono h.bel.size)⟩
theorem RE.more {W0 W W' : World} {v v' : Value} {xs ys : List Nat} (h : RE W0 W v xs) (ho : W'.ownsRow W0.heap.size 5 1 v' (xs ++ ys).length ((xs ++ ys).map u8v)) (hg : W.grownBy W' v.ownBlock) : RE W0 W' v' (xs ++ ys) := ⟨ho, own_step h.bel hg h.bel.size rfl h.own⟩
theorem text_len (s : ByteArray) (hn : s.size ≤ 1000) : (Wire.num s.size ++ bytesS s).length ≤ 1010 := by
  have := num_length s.size
  rw [List.length_append, bytesS_length]
  omega
theorem RE.row {W0 W : World} {v : Value} {xs : List Nat} (h : RE W0 W v xs) {g : Nat} {vs : List Value} {t : TypeId} (hr : Row W0 g vs t) : Row W g vs t := hr.below h.bel hr.lt
end Go.Proofs.Ytglfeocfhlmloaa.Nd
namespace Go.Proofs.Ytglfeocfhlmloaa.Nd
open Go.RowKit
def sFlag (s : Sta) : Bool × Sta := if s.2 = 0 then Wire.rflag s.1 else (false, s)
theorem flag_s (w : World) (g B : Nat) (s : Sta) (hi : In B w g s) : Calls Try.prog 90 #[.pointer (some ⟨g, 0, none⟩)] w fun r w' => r = .returned (.bool (sFlag s).1) ∧ In B w' g (sFlag s).2 ∧ Grew w w' (· = g) := by
  obtain ⟨bs, e⟩ := s
  unfold sFlag
  split
  · rename_i h
    obtain rfl : e = 0 := h
    refine (iflag_any w g bs hi.lt hi).mono ?_
    rintro r w' ⟨rfl, h1, h2, _⟩
    exact ⟨rfl, h1, grew_of_grownS h2⟩
  · rename_i h
    refine (iflag_bad w g e bs h hi).mono ?_
    rintro r w' ⟨rfl, rfl⟩
    exact ⟨rfl, hi, Grew.refl _ _⟩
end Go.Proofs.Ytglfeocfhlmloaa.Nd
namespace Go.Proofs.Ytglfeocfhlmloaa.Up
open Go.RowKit
open Vp (Str B bl Val cmpL parseS showS withinS IsPath checkS)
open Nd (Row wp_world post_Row post_Row2 grownBy_setCell below_of_grown OutIs OutB OutS Grew bytesS)
/-- rows that are neither bytes nor an Out stay -/
def Keeps (w w' : World) : Prop := ∀ (b : Nat) (cs : Array Value) (t : TypeId) (fr : Nat × Nat), w.heap[b]? = some (.cells cs t fr) → t ≠ 5 → t ≠ 72 → w'.heap[b]? = some (.cells cs t fr)
theorem Keeps.trans {a b c : World} (h : Keeps a b) (k : Keeps b c) : Keeps a c := fun x cs t fr e h5 h72 => k x cs t fr (h x cs t fr e h5 h72) h5 h72
theorem Keeps.row {w w' : World} (h : Keeps w w') {b : Nat} {vs : List Value} {t : TypeId} (hr : Row w b vs t) (h5 : t ≠ 5) (h72 : t ≠ 72) : Row w' b vs t := by
  unfold Row at *
  exact h b _ t _ hr h5 h72
theorem out_keeps {w w' : World} {B g : Nat} {v : Value} {xs : List Nat} (hv : OutIs w B g v xs) (h : Grew w w' (OutS g v)) : Keeps w w' := fun b cs t fr e h5 h72 => by
  rw [h.block b (Array.getElem?_eq_some_iff.1 e).1 (fun hS => ?_), e]
  rcases hS with rfl | hS
  · have hr := hv.row
    unfold Row at hr
    rw [hr] at e
    cases e
    exact h72 rfl
  · obtain ⟨_, ⟨rfl, _⟩ | ⟨g', cap, cur, rfl, _, hh, _⟩⟩ := hv.own
    · cases hS
    · have e2 : b = g' := by simpa [Value.ownBlock] using hS
      subst e2
      rw [hh] at e
      cases e
      exact h5 rfl
theorem num_k (w : World) (B g : Nat) (xs : List Nat) (n : Nat) (hn : n < 18446744073709551616) (hg : B ≤ g) (ho : OutB w B g xs) (hl : xs.length + 10 ≤ 140737488355328) :
    Calls Try.prog 40 #[.pointer (some ⟨g, 0, none⟩), .int .u64 (n : Int)] w fun e w' => e = .returned (.tuple #[]) ∧ OutB w' B g (xs ++ Nd.Wire.num n) ∧ Below B w w' ∧ Keeps w w' := by
  obtain ⟨v, hv⟩ := ho
  refine (Nd.onum_any w B g v xs n hn hv hl).mono ?_
  rintro e w' ⟨rfl, v', h1, h2, _⟩
  exact ⟨rfl, ⟨v', h1⟩, Nd.out_below hg hv h2, out_keeps hv h2⟩
theorem text_k (w : World) (B g : Nat) (xs : List Nat) (s : ByteArray) (hg : B ≤ g) (ho : OutB w B g xs) (hl : xs.length + 10 + s.size ≤ 140737488355328) :
    Calls Try.prog 41 #[.pointer (some ⟨g, 0, none⟩), .string s] w fun e w' => e = .returned (.tuple #[]) ∧ OutB w' B g (xs ++ (Nd.Wire.num s.size ++ bytesS s)) ∧ Below B w w' ∧ Keeps w w' := by
  obtain ⟨v, hv⟩ := ho
  refine (Nd.otext_any w B g v xs s hv hl).mono ?_
  rintro e w' ⟨rfl, v', h1, h2, _⟩
  exact ⟨rfl, ⟨v', h1⟩, Nd.out_below hg hv h2, out_keeps hv h2⟩
theorem flag_k (w : World) (B g : Nat) (xs : List Nat) (f : Bool) (hg : B ≤ g) (ho : OutB w B g xs) (hl : xs.length + 1 ≤ 140737488355328) :
    Calls Try.prog 42 #[.pointer (some ⟨g, 0, none⟩), .bool f] w fun e w' => e = .returned (.tuple #[]) ∧ OutB w' B g (xs ++ [if f then 1 else 0]) ∧ Below B w w' ∧ Keeps w w' := by
  obtain ⟨v, hv⟩ := ho
  refine (Nd.oflag_any w B g v xs f hv hl).mono ?_
  rintro e w' ⟨rfl, v', h1, h2, _⟩
  exact ⟨rfl, ⟨v', h1⟩, Nd.out_below hg hv h2, out_keeps hv h2⟩
/-- an inode's bytes -/
def encI (f : Fil) : List Nat := (((Nd.Wire.num f.path.size ++ bytesS f.path) ++ Nd.Wire.num f.kind.toNat) ++ [if f.opq then 1 else 0]) ++ (Nd.Wire.num f.data.size ++ bytesS f.data)
/-- the bytes of an upper branch -/
def encU (N Z k : Nat) (fs : List Fil) : List Nat := ((Nd.Wire.num N ++ Nd.Wire.num Z) ++ Nd.Wire.num k) ++ fs.flatMap encI
theorem encI_len (f : Fil) (hp : f.path.size ≤ 200) (hd : f.data.size ≤ 1024) : (encI f).length ≤ 1300 := by
  have h1 := Nd.num_length f.path.size
  have h2 := Nd.num_length f.kind.toNat
  have h3 := Nd.num_length f.data.size
  have h4 : ∀ s : ByteArray, (bytesS s).length = s.size := fun s => Nd.bytesS_length s
  unfold encI
  simp only [List.length_append, h4, List.length_cons, List.length_nil]
  omega
theorem encs_len (fs : List Fil) (hp : ∀ f ∈ fs, f.path.size ≤ 200) (hd : ∀ f ∈ fs, f.data.size ≤ 1024) : (fs.flatMap encI).length ≤ 1300 * fs.length := by
  induction fs with
  | nil => simp
  | cons a r ih =>
    have h1 := ih (fun f hf => hp f (by simp [hf])) (fun f hf => hd f (by simp [hf]))
    have h2 := encI_len a (hp a (by simp)) (hd a (by simp))
    rw [List.flatMap_cons, List.length_append, List.length_cons]
    omega
end Go.Proofs.Ytglfeocfhlmloaa.Up
