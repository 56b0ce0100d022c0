/-
  The walks of sha.Sum, and of the calls on a hash that is not there. A store of blobs as it lies in the world; small calls: Bytes, Count, find, Has. The walks of the reference's turn and constant. The loops of a function's code, taken out by a function. Laws of the walk for append to a row of the call's own. Loads of digests in regions that draw; find, Has, bytes.Equal. The reference's Sum: the loop of the noughts. bytes.Clone.
-/
import Derived.Deep.Light
import Derived.Laws.BytesArg
import Derived.Laws.AppendOwnNone
import Derived.Lib.Strings
import Derived.Deep.DrawnRows
import Derived.Test.YtamaejlbojbbeaaGreatDoorQ00
import Derived.Test.YtamaejlbojbbeaaGreatDoorQ01
import Derived.Test.YtamaejlbojbbeaaGreatDoorQ02
namespace Go.Proofs.YtamaejlbojbbeaaGreatDoor.Sb
open Go.RowKit
theorem new_fed (w : World) :
    Calls Tryz.prog 121 #[] w fun e w' => e = .returned (.pointer (some ⟨w.heap.size, 0, none⟩)) ∧ Fed w' w.heap.size [] ∧ Below w.heap.size w w' ∧ w'.heap.size = w.heap.size + 1 :=
  (new_any w).mono fun _ _ ⟨he, hr, hb, hs⟩ => ⟨he, fed_new hr, hb, hs⟩
set_option maxHeartbeats 400000 in
set_option maxRecDepth 100000 in
theorem sum_any (bs : List Nat) (hbs : ∀ x ∈ bs, x < 256) (p : Option Addr) (b off cap : Nat) (w : World) (htab : Tab w) (hcap : bs.length ≤ cap) (hcap2 : cap ≤ 9223372036854775807)
    (hsz : bs.length < 1152921504606846000) (hp : 0 < bs.length → p = some ⟨b, off, none⟩) (hsrc : ∀ j, j < bs.length → w.cell? ⟨b, off + j, none⟩ = some (u8v (bs.getD j 0))) :
    Calls Tryz.prog 65 #[.slice p bs.length cap] w fun e w' => e = .returned (.agg ((Sha.sum bs).map u8v).toArray) ∧ Below w.heap.size w w' := by
  have hpos := htab.pos
  go_enter Tryz.func65, Tryz.ntmps65
  go_wp2_with fail
  refine (new_fed _).mono ?_
  rintro e w1 ⟨rfl, hfed1, hb1, hs1⟩
  rw [World.size_alloc] at hs1 hfed1 hb1 ⊢
  have hr0 : Row w1 w.heap.size ((List.replicate 32 0).map u8v) 30 := (Row.newAt w _ ((List.replicate 32 0).map u8v) 30 rfl).below hb1 (by omega)
  have hbw1 : Below w.heap.size w w1 := ((Below.refl _ _).alloc (Nat.le_refl _) _).trans (hb1.mono (by omega))
  have htab1 : Tab w1 := htab.below hbw1 hpos
  have hwr := write_any (w.heap.size + 1) [] bs hbs p b off cap w1 htab1 (by omega) hfed1 hcap hcap2 (by simp; omega) (fun h => ⟨hp h, fun e => by have := World.block_lt_of_cell? w _ (hsrc 0 h); simp at this; omega⟩) (fun j hj => by rw [hbw1.cell (World.block_lt_of_cell? w _ (hsrc j hj))]; exact hsrc j hj)
  clear hsrc hp hbs
  go_wp2_with fail
  refine hwr.mono ?_
  rintro e w2 ⟨rfl, hfed2, hg2⟩
  rw [List.nil_append] at hfed2
  have htab2 : Tab w2 := htab1.grown hg2 (by simp)
  have hr2 := hr0.grown hg2 (by simp)
  have hbw2 : Below w.heap.size w w2 := below_of_grown hbw1 hg2 (by omega) (by omega)
  clear hwr
  go_wp2_with fail
  refine (hsum_any (w.heap.size + 1) bs w2 htab2 hfed2 hsz).mono ?_
  rintro e w3 ⟨rfl, hb3⟩
  have hr3 := hr2.below hb3 hr2.lt
  have hbw3 : Below w.heap.size w w3 := hbw2.trans (hb3.mono hbw2.size)
  obtain ⟨D, HD, hdl⟩ : ∃ D, Hid (D = Sha.sum bs) ∧ D.length = 32 := ⟨_, rfl, digest_length _⟩
  rw [← HD.out]
  clear hfed2 hfed1 hb3 hr2
  go_wp2_with (first | (refine wpList_store_Row rfl 30 _ _ rfl w.heap.size 0 (D.map u8v) rfl rfl 30 _ hr3 32 info39 (by simpa using hdl) (by simp) (one_u8 D) ?_; intro w5 hr5 hg5 hs5))
  refine post_Row 2 30 Tryz.results65 w.heap.size rfl 30 _ hr5 _ Tryz.underlying30 rfl 32 info39 (by rw [splice_all _ _ (by simpa using hdl)]; simpa using hdl) rfl ⟨?_, below_of_grown hbw3 hg5 hbw3.size (Nat.le_refl _)⟩
  rw [splice_all _ _ (by simpa using hdl), HD.out]
end Go.Proofs.YtamaejlbojbbeaaGreatDoor.Sb
namespace Go.Proofs.YtamaejlbojbbeaaGreatDoor.Sb
open Go.RowKit
theorem hid_in {p : Prop} (h : p) : Hid p := h
/-- bytes as a string -/
def str (l : List Nat) : ByteArray := ⟨(l.map UInt8.ofNat).toArray⟩
theorem str_inj {a b : List Nat} (ha : ∀ x ∈ a, x < 256) (hb : ∀ x ∈ b, x < 256) (h : str a = str b) : a = b := by
  have h2 : a.map UInt8.ofNat = b.map UInt8.ofNat := by simpa [str] using h
  have h3 := congrArg (List.map UInt8.toNat) h2
  rw [List.map_map, List.map_map] at h3
  have key : ∀ l : List Nat, (∀ x ∈ l, x < 256) → l.map (UInt8.toNat ∘ UInt8.ofNat) = l := by
    intro l hl
    conv => rhs; rw [← List.map_id l]
    refine List.map_congr_left fun x hx => ?_
    have := hl x hx
    simp only [Function.comp_def, id, UInt8.toNat_ofNat']
    omega
  rw [key a ha, key b hb] at h3
  exact h3
theorem conv_sl {w : World} {p : Option Addr} {bs : List Nat} {cap b off : Nat} (h : Sl w p bs cap b off) : (convert 51 9 (.slice p bs.length cap)).run Tryz.prog w = .ok (.string (str bs)) w := by
  by_cases h0 : 0 < bs.length
  · obtain rfl := h.at_ h0
    rw [run_convert_bytes_arg w 51 5 Tryz.underlying51 Tryz.underlying5 b off bs.length cap (bs.map fun (n : Nat) => (n : Int)) (by simp) (fun i hi => by rw [h.src i hi]; simp [u8v, hi]) 9 Tryz.underlying9]
    congr 2
    simp [strOfNums, str, Function.comp_def]
  · obtain rfl : bs = [] := List.eq_nil_of_length_eq_zero (by omega)
    rcases p with _ | ⟨b', o', m'⟩
    · exact run_convert_bytes_nil w 51 5 Tryz.underlying51 Tryz.underlying5 0 cap 9 Tryz.underlying9
    · rw [run_convert_bytes_string w 51 9 5 _ _ _ Tryz.underlying51 Tryz.underlying5 Tryz.underlying9]
      rw [List.length_nil, run_bytesToString w _ 0 cap [] (by simp [loadCells, loadCellsFrom, Sem.run_pure])]
      rfl
/-- of what was there nothing has turned but blocks g and m -/
structure Kp (g m : Nat) (w w' : World) : Prop where
  os : w'.os = w.os
  tape : w'.tape = w.tape
  output : w'.output = w.output
  size : w.heap.size ≤ w'.heap.size
  block : ∀ k, k < w.heap.size → k ≠ g → k ≠ m → w'.heap[k]? = w.heap[k]?
theorem Kp.refl (g m : Nat) (w : World) : Kp g m w w := ⟨rfl, rfl, rfl, Nat.le_refl _, fun _ _ _ _ => rfl⟩
theorem Kp.trans {g m : Nat} {a b c : World} (h : Kp g m a b) (k : Kp g m b c) : Kp g m a c :=
  ⟨k.os.trans h.os, k.tape.trans h.tape, k.output.trans h.output, Nat.le_trans h.size k.size, fun i hi h1 h2 => (k.block i (Nat.lt_of_lt_of_le hi h.size) h1 h2).trans (h.block i hi h1 h2)⟩
theorem Kp.of_below {g m : Nat} {w w' : World} (h : Below w.heap.size w w') : Kp g m w w' := ⟨h.os, h.tape, h.output, h.size, fun k hk _ _ => h.block k hk⟩
theorem Kp.of_g {g m : Nat} {w w' : World} (h : w.grownBy w' (some g)) : Kp g m w w' := ⟨h.os, h.tape, h.output, h.size, fun k hk h1 _ => h.block k hk (fun e => h1 (Option.some.inj e))⟩
theorem Kp.of_m {g m : Nat} {w w' : World} (h : w.grownBy w' (some m)) : Kp g m w w' := ⟨h.os, h.tape, h.output, h.size, fun k hk _ h1 => h.block k hk (fun e => h1 (Option.some.inj e))⟩
theorem Kp.below {g m B : Nat} {w w' : World} (h : Kp g m w w') (hB : B ≤ w.heap.size) (hg : B ≤ g) (hm : B ≤ m) : Below B w w' := ⟨h.os, h.tape, h.output, h.size, fun k hk => h.block k (by omega) (by omega) (by omega)⟩
theorem Kp.cell {g m : Nat} {w w' : World} (h : Kp g m w w') {a : Addr} {v : Value} (hc : w.cell? a = some v) (h1 : a.block ≠ g) (h2 : a.block ≠ m) : w'.cell? a = some v :=
  (World.cell?_of_block (h.block a.block (World.block_lt_of_cell? w a hc) h1 h2)).trans hc
theorem Kp.row {g m b : Nat} {w w' : World} {vs : List Value} {t : TypeId} (h : Kp g m w w') (hr : Row w b vs t) (h1 : b ≠ g) (h2 : b ≠ m) : Row w' b vs t := hr.of_block (h.block b hr.lt h1 h2)
theorem Sl.kp {g m : Nat} {w w' : World} {p : Option Addr} {bs : List Nat} {cap b off : Nat} (h : Sl w p bs cap b off) (k : Kp g m w w') (hb : 0 < bs.length → b ≠ g ∧ b ≠ m) : Sl w' p bs cap b off :=
  ⟨h.lt, h.cap1, h.cap2, h.at_, fun j hj => k.cell (h.src j hj) (hb (by omega)).1 (hb (by omega)).2⟩
/-- block b is a row of bytes -/
def T5 (w : World) (b : Nat) : Prop := ∃ cs fr, w.heap[b]? = some (.cells cs 5 fr)
theorem T5.of_block {w w' : World} {b : Nat} (h : T5 w b) (k : w'.heap[b]? = w.heap[b]?) : T5 w' b := by
  obtain ⟨cs, fr, h⟩ := h
  exact ⟨cs, fr, by rw [k, h]⟩
/-- a value that reads as bytes that lie neither in g nor in m, in a row of bytes -/
def Bs (w : World) (g m : Nat) (v : Value) (bs : List Nat) : Prop := ∃ p cap b off, v = .slice p bs.length cap ∧ Sl w p bs cap b off ∧ (p = none → bs.length = 0 ∧ cap = 0) ∧ (0 < bs.length → b ≠ g ∧ b ≠ m ∧ T5 w b)
theorem Bs.kp {g m : Nat} {w w' : World} {v : Value} {bs : List Nat} (h : Bs w g m v bs) (k : Kp g m w w') : Bs w' g m v bs := by
  obtain ⟨p, cap, b, off, h1, h2, h3, h4⟩ := h
  refine ⟨p, cap, b, off, h1, h2.kp k (fun h => ⟨(h4 h).1, (h4 h).2.1⟩), h3, fun h => ⟨(h4 h).1, (h4 h).2.1, (h4 h).2.2.of_block (k.block b ?_ (h4 h).1 (h4 h).2.1)⟩⟩
  have := World.block_lt_of_cell? w _ (h2.src 0 h)
  simpa using this
/-- a store: its own block, its map, its blobs by their digests, how many, its quota, its bytes -/
structure St (w : World) (g m : Nat) (M : List Nat → Option (List Nat)) (n : Nat) (q u : Int) : Prop where
  row : Row w g [.map (some m), .int .i64 q, .int .i64 u] 85
  map : ∃ V, MapOk w m V n ∧ (∀ d bs, M d = some bs → ∃ v, V d = some v ∧ Bs w g m v bs) ∧ (∀ d, M d = none → V d = none)
theorem St.ne {w : World} {g m n : Nat} {M : List Nat → Option (List Nat)} {q u : Int} (h : St w g m M n q u) : g ≠ m := by
  intro e
  obtain ⟨V, ⟨es, c, hb, _⟩, _⟩ := h.map
  have := h.row
  unfold Row at this
  rw [e, hb] at this
  cases this
theorem St.below {w w' : World} {g m n : Nat} {M : List Nat → Option (List Nat)} {q u : Int} (h : St w g m M n q u) (k : Below w.heap.size w w') : St w' g m M n q u := by
  refine ⟨h.row.below k h.row.lt, ?_⟩
  obtain ⟨V, hV, h1, h2⟩ := h.map
  refine ⟨V, hV.of_block (k.block m hV.lt), fun d bs hd => ?_, h2⟩
  obtain ⟨v, hv, hb⟩ := h1 d bs hd
  exact ⟨v, hv, hb.kp (Kp.of_below k)⟩
/-- another block is written: one of digests -/
theorem St.grown39 {w w' : World} {g m n : Nat} {M : List Nat → Option (List Nat)} {q u : Int} (h : St w g m M n q u) {k : Nat} {Z : List Value} (hk : Row w k Z 30) (hg : w.grownBy w' (some k)) : St w' g m M n q u := by
  have hgk : g ≠ k := by
    rintro rfl
    have h1 := h.row
    unfold Row at h1 hk
    rw [hk] at h1
    simp at h1
  obtain ⟨V, hV, h1, h2⟩ := h.map
  have hmk : m ≠ k := by
    rintro rfl
    obtain ⟨es, c, hb, _⟩ := hV
    unfold Row at hk
    rw [hk] at hb
    cases hb
  refine ⟨h.row.grown hg (fun e => hgk (Option.some.inj e)), V, hV.of_block (hg.block m hV.lt (fun e => hmk (Option.some.inj e))), fun d bs hd => ?_, h2⟩
  obtain ⟨v, hv, p, cap, b, off, e1, e2, e3, e4⟩ := h1 d bs hd
  have hbk : 0 < bs.length → some b ≠ some k := by
    rintro h0 hbk
    obtain rfl := Option.some.inj hbk
    obtain ⟨_, _, cs, fr, h5⟩ := e4 h0
    unfold Row at hk
    rw [hk] at h5
    simp at h5
  refine ⟨v, hv, p, cap, b, off, e1, ⟨e2.lt, e2.cap1, e2.cap2, e2.at_, fun j hj => hg.cell (e2.src j hj) (hbk (by omega))⟩, e3, fun h0 => ⟨(e4 h0).1, (e4 h0).2.1, (e4 h0).2.2.of_block (hg.block b ?_ (hbk h0))⟩⟩
  have := World.block_lt_of_cell? w _ (e2.src 0 h0)
  simpa using this
theorem St.glt {w : World} {g m n : Nat} {M : List Nat → Option (List Nat)} {q u : Int} (h : St w g m M n q u) : g < w.heap.size := h.row.lt
theorem St.mlt {w : World} {g m n : Nat} {M : List Nat → Option (List Nat)} {q u : Int} (h : St w g m M n q u) : m < w.heap.size := by
  obtain ⟨V, hV, _⟩ := h.map; exact hV.lt
theorem count_any {w : World} {g m n : Nat} {M : List Nat → Option (List Nat)} {q u : Int} (h : St w g m M n q u) : Calls Tryz.prog 14 #[.pointer (some ⟨g, 0, none⟩)] w fun e w' => e = .returned (.int .i64 (n : Int)) ∧ w' = w := by
  have c0 : w.cell? ⟨g, 0, none⟩ = some (.map (some m)) := h.row.cell 0
  obtain ⟨V, hV, h1, h2⟩ := h.map
  have hl := fun ty => hV.len 83 51 Tryz.underlying83 ty
  clear h hV h1 h2
  go_enter Tryz.func14, Tryz.ntmps14
  go_wp2
  go_ret
  exact ⟨rfl, rfl⟩
end Go.Proofs.YtamaejlbojbbeaaGreatDoor.Sb
namespace Go.Proofs.YtamaejlbojbbeaaGreatDoor.Sb
open Go.RowKit
theorem turn_form (x n : Nat) (hx : x < 4294967296) : bits .or .u32 ((x : Int) / 2 ^ n) ((x : Int) * 2 ^ (32 - n) % 4294967296) = (Sha.rotr x n : Int) := by
  have e1 : (x : Int) * 2 ^ (32 - n) % 4294967296 = ((x * 2 ^ (32 - n) % 4294967296 : Nat) : Int) := by simp
  have e2 : (x : Int) / 2 ^ n = ((x / 2 ^ n : Nat) : Int) := by simp
  rw [e1, e2, u32_or_nat _ _ (Nat.lt_of_le_of_lt (Nat.div_le_self _ _) hx) (Nat.mod_lt _ (by decide)), Nat.or_comm]
  rfl
set_option maxHeartbeats 400000 in
theorem turn_any (x n : Nat) (hx : x < 4294967296) (h1 : 1 ≤ n) (h2 : n ≤ 31) (w : World) :
    Calls Tryz.prog 78 #[.int .u32 (x : Int), .int .u64 (n : Int)] w fun e w' => e = .returned (.int .u32 (Sha.rotr x n : Int)) ∧ w' = w := by
  have hr := turn_form x n hx
  have k1 : (1 : Int) ≤ (n : Int) := by omega
  have k2 : (n : Int) ≤ 31 := by omega
  go_enter Tryz.func78, Tryz.ntmps78
  go_wp2
  go_ret
  exact ⟨rfl, rfl⟩
theorem turn_k (x : Nat) (k : Int) (hx : x < 4294967296) (h1 : 1 ≤ k) (h2 : k ≤ 31) (w : World) :
    Calls Tryz.prog 78 #[.int .u32 (x : Int), .int .u64 k] w fun e w' => e = .returned (.int .u32 (Sha.rotr x k.toNat : Int)) ∧ w' = w := by
  obtain ⟨n, rfl⟩ := Int.eq_ofNat_of_zero_le (show 0 ≤ k by omega)
  exact turn_any x n hx (by omega) (by omega) w
set_option maxHeartbeats 400000 in
set_option maxRecDepth 100000 in
theorem constant_any (t : Nat) (ht : t < 64) (w : World) :
    Calls Tryz.prog 79 #[.int .i64 (t : Int)] w fun e w' => e = .returned (.int .u32 ((Sha.K.getD t 0 : Nat) : Int)) ∧ Below w.heap.size w w' := by
  have k1 : (t : Int) < 64 := by omega
  go_enter Tryz.func79, Tryz.ntmps79
  go_wp2_with (first | (refine wpList_store_Row rfl 157 _ _ rfl w.heap.size 0 (Sha.K.map u32v) rfl rfl 157 ((List.replicate 64 0).map u32v) (Row.newAt w _ _ 157 rfl) 64 info69 rfl (by simp) (one_u32 _) ?_; intro w3 hr4 hg4 hs4; have c0 : w3.cell? ⟨w.heap.size, t, none⟩ = some (.int .u32 ((Sha.K.getD t 0 : Nat) : Int)) := by { rw [splice_all _ _ (by simp [Sha.K])] at hr4; exact hr4.cellMap t ht }))
  go_ret
  refine ⟨?_, below_of_grown ((Below.refl _ _).alloc (Nat.le_refl _) _) hg4 (by simp) (Nat.le_refl _)⟩
  rw [List.getD_eq_getElem?_getD]
  rfl
end Go.Proofs.YtamaejlbojbbeaaGreatDoor.Sb
namespace Go.Proofs.YtamaejlbojbbeaaGreatDoor.Sb
open Go.RowKit
/-- the bodies of the loops of a code that lie within no other loop, in order -/
def loopsIn : Code → List Code
  | .loop c => [c]
  | .seq a b => loopsIn a ++ loopsIn b
  | .block _ c => loopsIn c
  | .scope c => loopsIn c
  | .cond _ a b => loopsIn a ++ loopsIn b
  | _ => []
/-- an end that is no panic -/
def noPanic (Q : Exit → Act → World → Prop) : Exit → Act → World → Prop
  | .panic _, _, _ => False
  | e, a, w => Q e a w
theorem noPanic_of (Q : Exit → Act → World → Prop) : ∀ e a w, noPanic Q e a w → Q e a w := by
  intro e a w h
  cases e <;> first | exact h | exact h.elim
theorem noPanic_exit (Q : Exit → Act → World → Prop) (n : Nat) (a : Act) (w : World) : noPanic Q (.exit n) a w = Q (.exit n) a w := rfl
theorem noPanic_normal (Q : Exit → Act → World → Prop) (a : Act) (w : World) : noPanic Q .normal a w = Q .normal a w := rfl
/-- a block's word while its first k bytes have been laid into it -/
def pw (bl : List Nat) (t : Nat) : Nat → Nat
  | 0 => 0
  | k + 1 => pw bl t k * 256 + bl.getD (4 * t + k) 0
theorem pw_lt (bl : List Nat) (h : ∀ x ∈ bl, x < 256) (t k : Nat) (hk : k < 4) : pw bl t k < 16777216 := by
  have h0 := getD_lt h (4 * t + 0)
  have h1 := getD_lt h (4 * t + 1)
  have h2 := getD_lt h (4 * t + 2)
  obtain rfl | rfl | rfl | rfl : k = 0 ∨ k = 1 ∨ k = 2 ∨ k = 3 := by omega
  all_goals simp only [pw]; omega
theorem pw_all (bl : List Nat) (t : Nat) : pw bl t 4 = Sha.word0 bl t := by
  simp only [pw, Sha.word0, Nat.add_zero]; omega
theorem pw_form (x y : Nat) (hx : x < 16777216) (hy : y < 256) : bits .or .u32 ((x : Int) * 256) (y : Int) = ((x * 256 + y : Nat) : Int) := by
  have e : (x : Int) * 256 = ((x * 256 : Nat) : Int) := by simp
  rw [e, or_join 8 _ _ (by omega) (by omega) (by omega) (by omega)]
theorem set_set {α : Type} (l : List α) (k : Nat) (x y : α) : (l.set k x).set k y = l.set k y := List.set_set ..
end Go.Proofs.YtamaejlbojbbeaaGreatDoor.Sb
namespace Go.Proofs.YtamaejlbojbbeaaGreatDoor.Sb
open Go.RowKit
theorem own_step {w w' : World} {B : Nat} {v : Value} {row : Option Nat} {a : World} (hb : Below B a w) (hg : w.grownBy w' row) (hB : B ≤ w.heap.size) (hv : row = v.ownBlock) {e : TypeId} {size n : Nat} {xs : List Value} (ho : w.ownsRow B e size v n xs) : Below B a w' := by
  subst hv
  exact hb.grown hg hB (fun k hk => (ho.lt k hk).1)
/-- append to a row of the call's own, from a slice that may be nil -/
theorem wpList_append_any {P : Program} {w : World} {ops : Array Oper} {rest : List Oper} {o : Oper} {a : Act} {Q : Exit → Act → World → Prop} (hgd : o.guard = none) (s x : Operand) (t : TypeId)
    (ho : o.op = .call { callee := .builtin .append, args := #[s, x], argTypes := #[t, t] })
    (base : Nat) (e : TypeId) (i : TypeInfo) (z : Value) (ht : P.underlying t = some (.slice e)) (hi : P.info? e = some i) (hz : i.zero = some z)
    (hsize : i.size = 1) (hby : i.bytes = 1) (hzs : z.cells.size = 1)
    (v : Value) (n : Nat) (xs : List Value) (hs : a.eval s = v) (hown : w.ownsRow base e 1 v n xs)
    (p : Option Addr) (m c : Nat) (news : List Value) (hx : a.eval x = .slice p m c) (hl : news.length = m) (hpn : p = none → m = 0 ∧ c = 0) (hnews : ∀ ad, p = some ad → ∀ j u, news[j]? = some u → w.cell? (ad.add j) = some u) (h1 : ∀ u ∈ news, u.oneCell' = true)
    (hbytes : n + m ≤ 140737488355328) (hbase : base ≤ w.heap.size)
    (h : ∀ v' w', w'.ownsRow base e 1 v' (n + m) (xs ++ news) → w.grownBy w' v.ownBlock → wpList P ops Q rest (a.put o.dst v') w') : wpList P ops Q (o :: rest) a w := by
  rcases p with _ | ad
  · obtain ⟨rfl, rfl⟩ := hpn rfl
    obtain rfl : news = [] := List.eq_nil_of_length_eq_zero hl
    refine wpList_append_own_none hgd s x t ho base e i 1 ht hi v n xs hs hown hx ?_
    exact h v w (by simpa using hown) (grownBy_refl w _)
  · refine wpList_append_own w hgd s x t ho base e i z 1 1 ht hi hz hsize hby hzs (by decide) v n xs hs hown ad m c news hx (by omega) (hnews ad rfl) h1 (by unfold maxLen; omega) (by omega) hbase ?_
    exact fun v' w' h2 h3 _ => h v' w' h2 h3
/-- append of one value that was just laid into a block of its own -/
theorem wpList_append_one {P : Program} {w : World} {ops : Array Oper} {rest : List Oper} {o : Oper} {a : Act} {Q : Exit → Act → World → Prop} (hgd : o.guard = none) (s x : Operand) (t : TypeId)
    (ho : o.op = .call { callee := .builtin .append, args := #[s, x], argTypes := #[t, t] })
    (base : Nat) (e : TypeId) (i : TypeInfo) (z : Value) (ht : P.underlying t = some (.slice e)) (hi : P.info? e = some i) (hz : i.zero = some z)
    (hsize : i.size = 1) (hby : i.bytes = 1) (hzs : z.cells.size = 1)
    (v : Value) (n : Nat) (xs : List Value) (hs : a.eval s = v) (hown : w.ownsRow base e 1 v n xs) (e' : TypeId) (u : Value) (hu : u.oneCell' = true)
    (hx : a.eval x = .slice (some ⟨w.heap.size, 0, none⟩) 1 1) (hbytes : n + 1 ≤ 140737488355328) (hbase : base ≤ w.heap.size)
    (h : ∀ v' w', w'.ownsRow base e 1 v' (n + 1) (xs ++ [u]) → (∀ a0, Below base a0 w → Below base a0 w') → base ≤ w'.heap.size → wpList P ops Q rest (a.put o.dst v') w') : wpList P ops Q (o :: rest) a (w.alloc (.cells #[u] e')) := by
  have hs1 : base ≤ (w.alloc (.cells #[u] e')).heap.size := by rw [World.size_alloc]; omega
  refine wpList_append_any hgd s x t ho base e i z ht hi hz hsize hby hzs v n xs hs (hown.alloc _) (some ⟨w.heap.size, 0, none⟩) 1 1 [u] hx rfl (fun h => by cases h) ?_ (fun v hv => by simp at hv; subst hv; exact hu) hbytes hs1 ?_
  · intro ad had j u' hj
    cases had
    have h0 : j = 0 := by have := (List.getElem?_eq_some_iff.1 hj).1; simp at this; omega
    subst h0
    rw [Addr.add_mid, (Row.newAt w w.heap.size [u] e' rfl).cell]
    exact hj
  · intro v' w' h2 h3
    refine h v' w' h2 (fun a0 hb => own_step (hb.alloc hbase _) h3 hs1 rfl (hown.alloc (.cells #[u] e'))) (Nat.le_trans hs1 h3.size)
theorem ending_zero (n t : Nat) (h1 : 1 ≤ t) (h2 : t < 1 + (119 - n % 64) % 64) : (Sha.ending n).getD t 0 = 0 := by
  obtain ⟨k, rfl⟩ : ∃ k, t = k + 1 := ⟨t - 1, by omega⟩
  have hk : k < (119 - n % 64) % 64 := by omega
  simp [Sha.ending, List.getElem?_append_left, hk]
theorem ending_take_succ (n t : Nat) (h : t < (Sha.ending n).length) : (Sha.ending n).take (t + 1) = (Sha.ending n).take t ++ [(Sha.ending n).getD t 0] := by
  rw [List.take_succ_eq_append_getElem h]; simp [h]
theorem ending_count (n i : Nat) (hi : i < 8) : (Sha.ending n).getD (1 + (119 - n % 64) % 64 + i) 0 = n * 8 / 2 ^ (56 - 8 * i) % 256 := by
  generalize hz : (119 - n % 64) % 64 = z
  unfold Sha.ending
  rw [hz, show 1 + z + i = (z + i) + 1 by omega, List.getD_cons_succ, List.getD_eq_getElem?_getD, List.getElem?_append_right (by simp), List.length_replicate, show z + i - z = i by omega]
  rcases lt8 hi with rfl | rfl | rfl | rfl | rfl | rfl | rfl | rfl <;> simp
end Go.Proofs.YtamaejlbojbbeaaGreatDoor.Sb
namespace Go.Proofs.YtamaejlbojbbeaaGreatDoor.Sb
open Go.RowKit
theorem str_toList (a : List Nat) : (str a).toList = a.map UInt8.ofNat := by rw [Lib.toList_data]; simp [str]
theorem str_eq {a b : List Nat} (ha : ∀ x ∈ a, x < 256) (hb : ∀ x ∈ b, x < 256) : ((str a).toList == (str b).toList) = decide (a = b) := by
  rw [Bool.eq_iff_iff, decide_eq_true_eq, beq_iff_eq, str_toList, str_toList]
  constructor
  · intro h; exact str_inj ha hb (by simp [str, h])
  · rintro rfl; rfl
theorem St.alloc {w : World} {g m n : Nat} {M : List Nat → Option (List Nat)} {q u : Int} (h : St w g m M n q u) (o : Obj) : St (w.alloc o) g m M n q u := h.below ((Below.refl _ _).alloc (Nat.le_refl _) _)
theorem St.drewN {w : World} {g m n : Nat} {M : List Nat → Option (List Nat)} {q u : Int} (h : St w g m M n q u) (k : Nat) : St (w.drewN k) g m M n q u := h.below (below_drewN (Below.refl _ _) k)
/-- block b holds one digest -/
def Is39 (w : World) (b : Nat) : Prop := ∃ V, Row w b V 30 ∧ V.length = 32
def rowOf (w : World) (b : Nat) : List Value := match w.heap[b]? with
  | some (.cells cs _ _) => cs.toList
  | _ => []
theorem rowOf_row {w : World} {b : Nat} {V : List Value} {t : TypeId} (h : Row w b V t) : rowOf w b = V := by
  unfold Row at h
  simp [rowOf, h]
theorem Is39_drewN (w : World) (b n : Nat) : Is39 (w.drewN n) b = Is39 w b := by simp [Is39, Row]
theorem rowOf_drewN (w : World) (b n : Nat) : rowOf (w.drewN n) b = rowOf w b := by simp [rowOf]
theorem Is39_drew (w : World) (b : Nat) : Is39 w.drew b = Is39 w b := rfl
theorem rowOf_drew (w : World) (b : Nat) : rowOf w.drew b = rowOf w b := rfl
def ptrB : Value → Nat
  | .pointer (some a) => a.block
  | _ => 0
theorem ptrB_pointer (a : Addr) : ptrB (.pointer (some a)) = a.block := rfl
theorem run_load39 {v : Value} {w : World} (h1 : v = .pointer (some ⟨ptrB v, 0, none⟩)) (h2 : Is39 w (ptrB v)) : (Instr.loadAt 30 v).run Tryz.prog w = .ok (.agg (rowOf w (ptrB v)).toArray) w := by
  obtain ⟨V, hr, hl⟩ := h2
  rw [rowOf_row hr]
  generalize ptrB v = b at h1 hr
  subst h1
  simp only [Instr.loadAt, Instr.sureAddr, Sem.run_bind, Sem.run_pure, Result.andThen_ok]
  exact run_loadVar_mid w b 0 30 V _ (fun j v hv => by rw [Nat.zero_add, hr.cell]; exact hv) Tryz.underlying30 rfl (by rw [info39, hl])
theorem quiet_load39 {W : World} {d : Option Tmp} {ty : TypeId} {ps : String} {af : Array Edge} {gd : Option (Nat × Bool)} {x : Operand} {a : Act} {K : Act → Prop} (h1 : a.eval x = .pointer (some ⟨ptrB (a.eval x), 0, none⟩)) (h2 : Is39 W (ptrB (a.eval x))) :
    Oper.quiet Tryz.prog { dst := d, op := Op.load 30 x, type := ty, pos := ps, after := af, guard := gd } a (fun w' => ∃ n, w' = W.drewN n) K = K (a.put d (.agg (rowOf W (ptrB (a.eval x))).toArray)) := by
  have hrun : ∀ n, (Instr.loadAt 30 (a.eval x)).run Tryz.prog (W.drewN n) = .ok (.agg (rowOf W (ptrB (a.eval x))).toArray) (W.drewN n) := fun n => by
    rw [run_load39 h1 (by rw [Is39_drewN]; exact h2), rowOf_drewN]
  generalize Value.agg (rowOf W (ptrB (a.eval x))).toArray = v at hrun
  have hat : ∀ n u, Oper.quietAt Tryz.prog { dst := d, op := Op.load 30 x, type := ty, pos := ps, after := af, guard := gd } a (fun w' => ∃ n, w' = W.drewN n) (W.drewN n) u ↔ v = u := by
    intro n u
    unfold Oper.quietAt execOp
    simp only [Sem.run_bind, hrun, Result.andThen_ok, Sem.run_pure, Oper.quietUpon, true_and]
  apply propext
  constructor
  · rintro ⟨u, h, hk⟩
    have := (hat 0 u).1 (h _ ⟨0, rfl⟩)
    rw [this]
    exact hk
  · intro hk
    exact ⟨v, fun w hw => by obtain ⟨n, rfl⟩ := hw; exact (hat n v).2 rfl, hk⟩
theorem wp_load39 {d : Option Tmp} {ty : TypeId} {ps : String} {af : Array Edge} {gd : Option (Nat × Bool)} {x : Operand} {a : Act} {w : World} {K : Act → World → Prop} {Q : Exit → Act → World → Prop} (h1 : a.eval x = .pointer (some ⟨ptrB (a.eval x), 0, none⟩)) (h2 : Is39 w (ptrB (a.eval x))) :
    Oper.wp Tryz.prog { dst := d, op := Op.load 30 x, type := ty, pos := ps, after := af, guard := gd } a w K Q = K (a.put d (.agg (rowOf w (ptrB (a.eval x))).toArray)) w := by
  have hrun := run_load39 h1 h2
  generalize Value.agg (rowOf w (ptrB (a.eval x))).toArray = v at hrun ⊢
  unfold Oper.wp execOp
  simp only [Sem.run_bind, hrun, Result.andThen_ok, Sem.run_pure]
  rfl
attribute [local go_sem ↓] run_load39 quiet_load39
attribute [local go_sem] Is39_drewN rowOf_drewN Is39_drew rowOf_drew ptrB_pointer
set_option maxHeartbeats 400000 in
theorem find_none {w : World} {g m n : Nat} {M : List Nat → Option (List Nat)} {q u : Int} (h : St w g m M n q u) (d : List Nat) (hd : d.length = 32) (V : List Value) (HV : Hid (V = d.map u8v)) (hM : M d = none) :
    Calls Tryz.prog 108 #[.pointer (some ⟨g, 0, none⟩), .agg V.toArray] w fun e w' => e = .returned (.tuple #[.slice none 0 0, .int .i64 50]) ∧ Below w.heap.size w w' := by
  have hs := h.alloc (.cells V.toArray 30)
  have hvl : V.length = 32 := by rw [HV.out]; simpa using hd
  have c0 : (w.alloc (.cells V.toArray 30)).cell? ⟨g, 0, none⟩ = some (.map (some m)) := hs.row.cell 0
  have hr := Row.newAt w _ V 30 rfl
  have hI : Is39 (w.alloc (.cells V.toArray 30)) w.heap.size := ⟨V, hr, hvl⟩
  have hR := rowOf_row hr
  have hl : ∀ k, (Instr.lookup 83 (.map (some m)) (.agg V.toArray) true).run Tryz.prog ((w.alloc (.cells V.toArray 30)).drewN k) = .ok (.tuple #[.slice none 0 0, .bool false]) ((w.alloc (.cells V.toArray 30)).drewN k) := by
    intro k
    obtain ⟨V', hV, h1, h2⟩ := (hs.drewN k).map
    have hl := hV.look 83 51 Tryz.underlying83 (.slice none 0 0) (by kernel_rfl) d hd
    rw [h2 d hM] at hl
    simpa only [Option.getD_none, Option.isSome_none, dv, ← HV.out] using hl
  clear h hM hs hd HV hr hvl
  go_enter Tryz.func108, Tryz.ntmps108
  go_wp2_with fail
  go_quiet (fail)
  go_wp2
  go_ret2
  exact ⟨rfl, below_drewN ((Below.refl _ _).alloc (Nat.le_refl _) _) _⟩
set_option maxHeartbeats 400000 in
theorem find_some {w : World} {g m n : Nat} {M : List Nat → Option (List Nat)} {q u : Int} (h : St w g m M n q u) (d : List Nat) (hd : d.length = 32) (V : List Value) (HV : Hid (V = d.map u8v)) (bs : List Nat) (hM : M d = some bs) :
    Calls Tryz.prog 108 #[.pointer (some ⟨g, 0, none⟩), .agg V.toArray] w fun e w' => Below w.heap.size w w' ∧ ∃ p cap b off, e = .returned (.tuple #[.slice p bs.length cap, .int .i64 0]) ∧ Sl w p bs cap b off ∧ (p = none → bs.length = 0 ∧ cap = 0) ∧ (0 < bs.length → b ≠ g ∧ b ≠ m ∧ T5 w b) := by
  have hs := h.alloc (.cells V.toArray 30)
  have hvl : V.length = 32 := by rw [HV.out]; simpa using hd
  have c0 : (w.alloc (.cells V.toArray 30)).cell? ⟨g, 0, none⟩ = some (.map (some m)) := hs.row.cell 0
  have hr := Row.newAt w _ V 30 rfl
  have hI : Is39 (w.alloc (.cells V.toArray 30)) w.heap.size := ⟨V, hr, hvl⟩
  have hR := rowOf_row hr
  obtain ⟨V', hV, h1, h2⟩ := h.map
  obtain ⟨v, hv, p, cap, b, off, rfl, hb⟩ := h1 d bs hM
  have hl : ∀ k, (Instr.lookup 83 (.map (some m)) (.agg V.toArray) true).run Tryz.prog ((w.alloc (.cells V.toArray 30)).drewN k) = .ok (.tuple #[.slice p bs.length cap, .bool true]) ((w.alloc (.cells V.toArray 30)).drewN k) := by
    intro k
    have hV2 : MapOk ((w.alloc (.cells V.toArray 30)).drewN k) m V' n := hV.of_block (by simp only [World.heap_drewN]; exact Below.heap_alloc _ _ _ hV.lt)
    have hl := hV2.look 83 51 Tryz.underlying83 (.slice none 0 0) (by kernel_rfl) d hd
    rw [hv] at hl
    simpa only [Option.getD_some, Option.isSome_some, dv, ← HV.out] using hl
  have HB := hid_in hb
  clear h hM hs hd HV hr hvl hV h1 h2 hv hb
  go_enter Tryz.func108, Tryz.ntmps108
  go_wp2_with fail
  go_quiet (fail)
  go_wp2
  go_ret2
  exact ⟨below_drewN ((Below.refl _ _).alloc (Nat.le_refl _) _) _, p, cap, b, off, rfl, HB.out⟩
set_option maxHeartbeats 400000 in
theorem has_any {w : World} {g m n : Nat} {M : List Nat → Option (List Nat)} {q u : Int} (h : St w g m M n q u) (d : List Nat) (hd : d.length = 32) (V : List Value) (HV : Hid (V = d.map u8v)) :
    Calls Tryz.prog 162 #[.pointer (some ⟨g, 0, none⟩), .agg V.toArray] w fun e w' => e = .returned (.bool (M d).isSome) ∧ Below w.heap.size w w' := by
  have hs := h.alloc (.cells V.toArray 30)
  have hvl : V.length = 32 := by rw [HV.out]; simpa using hd
  have hr := Row.newAt w _ V 30 rfl
  have hb0 : Below w.heap.size w (w.alloc (.cells V.toArray 30)) := (Below.refl _ _).alloc (Nat.le_refl _) _
  have HB0 := hid_in hb0
  cases hM : M d with
  | none =>
    have hf := find_none hs d hd V HV hM
    clear h hM hs hd HV hb0
    go_enter Tryz.func162, Tryz.ntmps162
    go_wp2_with (first | (refine wpList_load_Row rfl 30 _ rfl w.heap.size rfl 30 _ hr _ Tryz.underlying30 rfl 32 info39 hvl ?_) | (go_at_call 108; refine hf.mono ?_; rintro e w1 ⟨rfl, hb1⟩))
    go_ret
    exact ⟨rfl, HB0.out.trans (hb1.mono (by simp))⟩
  | some bs =>
    have hf := find_some hs d hd V HV bs hM
    clear h hM hs hd HV hb0
    go_enter Tryz.func162, Tryz.ntmps162
    go_wp2_with (first | (refine wpList_load_Row rfl 30 _ rfl w.heap.size rfl 30 _ hr _ Tryz.underlying30 rfl 32 info39 hvl ?_) | (go_at_call 108; refine hf.mono ?_; rintro e w1 ⟨hb1, p, cap, b, off, rfl, _⟩))
    go_ret
    exact ⟨rfl, HB0.out.trans (hb1.mono (by simp))⟩
set_option maxHeartbeats 400000 in
theorem equal_any {w : World} {p p' : Option Addr} {a b : List Nat} {cap cap' bl bl' off off' : Nat} (h1 : Sl w p a cap bl off) (h2 : Sl w p' b cap' bl' off') :
    Calls Tryz.prog 163 #[.slice p a.length cap, .slice p' b.length cap'] w fun e w' => e = .returned (.bool (decide (a = b))) ∧ w' = w := by
  have e1 := conv_sl h1
  have e2 := conv_sl h2
  have heq := str_eq h1.lt h2.lt
  generalize str a = A at e1 heq
  generalize str b = B at e2 heq
  have HE := hid_in heq
  clear heq h1 h2
  generalize decide (a = b) = t at *
  generalize a.length = la at *
  generalize b.length = lb at *
  go_enter Tryz.func163, Tryz.ntmps163
  go_wp2
  go_ret
  exact ⟨by rw [← HE.out]; rfl, rfl⟩
end Go.Proofs.YtamaejlbojbbeaaGreatDoor.Sb
namespace Go.Proofs.YtamaejlbojbbeaaGreatDoor.Sb
open Go.RowKit
attribute [local go_sem] noPanic_exit noPanic_normal
set_option maxHeartbeats 1000000 in
set_option maxRecDepth 1000000 in
theorem rloop1 (bs : List Nat) (z : Nat) (hz : Hid (z = (119 - bs.length % 64) % 64)) (B : Nat) (v0 : Value) (a0 w : World) (c0 c1 c2 c4 c5 c6 c7 c8 c9 c10 c11 c12 c13 c14 c15 c16 c17 c18 c19 c20 c21 c22 c23 c24 c25 c26 c27 c28 c29 c30 c31 c32 c33 c34 c35 c36 c37 c38 c39 c40 c41 c42 c43 c44 c45 c46 c47 c48 c49 c50 c51 c52 c53 c54 c55 c56 c57 c58 c59 c60 c61 c62 c63 c64 c65 c66 c67 c68 c69 c70 c71 c72 c73 c74 c75 c76 c77 c78 c79 c80 c81 c82 c83 c84 c85 c86 c87 c88 c89 c90 c91 c92 c93 c94 c95 c96 c97 c98 c99 c100 c101 c102 c103 c104 c105 c106 c107 c108 c109 c110 c111 c112 c113 c114 c115 c116 c117 c118 c119 c120 c121 c122 c123 c124 c125 c126 c127 c128 c129 c130 c131 c132 c133 c134 c135 c136 c137 c138 c139 c140 c141 c142 c143 c144 c145 c146 c147 c148 c149 c150 c151 c152 c153 c154 c155 c156 c157 c158 c159 c160 c161 c162 c163 c164 c165 c166 c167 c168 c169 c170 c171 c172 c173 c174 c175 c176 c177 c178 c179 c180 c181 c182 c183 c184 c185 c186 c187 c188 c189 c190 c191 c192 c193 c194 c195 c196 c197 c198 c199 c200 c201 c202 c203 c204 c205 c206 c207 c208 c209 c210 c211 c212 c213 c214 c215 c216 c217 c218 c219 c220 c221 c222 c223 c224 c225 c226 c227 c228 c229 c230 c231 c232 c233 c234 c235 c236 c237 c238 : Value) (Q : Exit → Act → World → Prop)
    (hlen : bs.length ≤ 140737488351232) (hown : w.ownsRow B 5 1 v0 (bs.length + 1) ((bs ++ (Sha.ending bs.length).take 1).map u8v)) (hbel : Below B a0 w) (hBs : B ≤ w.heap.size)
    (hexit : ∀ (v3 v29 v30 v31 v32 v33 v34 v35 : Value) (w' : World), w'.ownsRow B 5 1 v3 (bs.length + (1 + z)) ((bs ++ (Sha.ending bs.length).take (1 + z)).map u8v) ∧ Below B a0 w' ∧ B ≤ w'.heap.size → Q (.exit 0) ⟨List.toArray (c0 :: c1 :: c2 :: v3 :: c4 :: c5 :: c6 :: c7 :: c8 :: c9 :: c10 :: c11 :: c12 :: c13 :: c14 :: c15 :: c16 :: c17 :: c18 :: c19 :: c20 :: c21 :: c22 :: c23 :: c24 :: c25 :: c26 :: c27 :: c28 :: v29 :: v30 :: v31 :: v32 :: v33 :: v34 :: v35 :: c36 :: c37 :: c38 :: c39 :: c40 :: c41 :: c42 :: c43 :: c44 :: c45 :: c46 :: c47 :: c48 :: c49 :: c50 :: c51 :: c52 :: c53 :: c54 :: c55 :: c56 :: c57 :: c58 :: c59 :: c60 :: c61 :: c62 :: c63 :: c64 :: c65 :: c66 :: c67 :: c68 :: c69 :: c70 :: c71 :: c72 :: c73 :: c74 :: c75 :: c76 :: c77 :: c78 :: c79 :: c80 :: c81 :: c82 :: c83 :: c84 :: c85 :: c86 :: c87 :: c88 :: c89 :: c90 :: c91 :: c92 :: c93 :: c94 :: c95 :: c96 :: c97 :: c98 :: c99 :: c100 :: c101 :: c102 :: c103 :: c104 :: c105 :: c106 :: c107 :: c108 :: c109 :: c110 :: c111 :: c112 :: c113 :: c114 :: c115 :: c116 :: c117 :: c118 :: c119 :: c120 :: c121 :: c122 :: c123 :: c124 :: c125 :: c126 :: c127 :: c128 :: c129 :: c130 :: c131 :: c132 :: c133 :: c134 :: c135 :: c136 :: c137 :: c138 :: c139 :: c140 :: c141 :: c142 :: c143 :: c144 :: c145 :: c146 :: c147 :: c148 :: c149 :: c150 :: c151 :: c152 :: c153 :: c154 :: c155 :: c156 :: c157 :: c158 :: c159 :: c160 :: c161 :: c162 :: c163 :: c164 :: c165 :: c166 :: c167 :: c168 :: c169 :: c170 :: c171 :: c172 :: c173 :: c174 :: c175 :: c176 :: c177 :: c178 :: c179 :: c180 :: c181 :: c182 :: c183 :: c184 :: c185 :: c186 :: c187 :: c188 :: c189 :: c190 :: c191 :: c192 :: c193 :: c194 :: c195 :: c196 :: c197 :: c198 :: c199 :: c200 :: c201 :: c202 :: c203 :: c204 :: c205 :: c206 :: c207 :: c208 :: c209 :: c210 :: c211 :: c212 :: c213 :: c214 :: c215 :: c216 :: c217 :: c218 :: c219 :: c220 :: c221 :: c222 :: c223 :: c224 :: c225 :: c226 :: c227 :: c228 :: c229 :: c230 :: c231 :: c232 :: c233 :: c234 :: c235 :: c236 :: c237 :: c238 :: []), []⟩ w') :
    Code.wp Tryz.prog (.loop ((loopsIn (Tryz.f34.body.getD .skip)).getD 0 .skip)) Q ⟨List.toArray (c0 :: c1 :: c2 :: v0 :: c4 :: c5 :: c6 :: c7 :: c8 :: c9 :: c10 :: c11 :: c12 :: c13 :: c14 :: c15 :: c16 :: c17 :: c18 :: c19 :: c20 :: c21 :: c22 :: c23 :: c24 :: c25 :: c26 :: c27 :: c28 :: c29 :: c30 :: c31 :: c32 :: c33 :: c34 :: c35 :: c36 :: c37 :: c38 :: c39 :: c40 :: c41 :: c42 :: c43 :: c44 :: c45 :: c46 :: c47 :: c48 :: c49 :: c50 :: c51 :: c52 :: c53 :: c54 :: c55 :: c56 :: c57 :: c58 :: c59 :: c60 :: c61 :: c62 :: c63 :: c64 :: c65 :: c66 :: c67 :: c68 :: c69 :: c70 :: c71 :: c72 :: c73 :: c74 :: c75 :: c76 :: c77 :: c78 :: c79 :: c80 :: c81 :: c82 :: c83 :: c84 :: c85 :: c86 :: c87 :: c88 :: c89 :: c90 :: c91 :: c92 :: c93 :: c94 :: c95 :: c96 :: c97 :: c98 :: c99 :: c100 :: c101 :: c102 :: c103 :: c104 :: c105 :: c106 :: c107 :: c108 :: c109 :: c110 :: c111 :: c112 :: c113 :: c114 :: c115 :: c116 :: c117 :: c118 :: c119 :: c120 :: c121 :: c122 :: c123 :: c124 :: c125 :: c126 :: c127 :: c128 :: c129 :: c130 :: c131 :: c132 :: c133 :: c134 :: c135 :: c136 :: c137 :: c138 :: c139 :: c140 :: c141 :: c142 :: c143 :: c144 :: c145 :: c146 :: c147 :: c148 :: c149 :: c150 :: c151 :: c152 :: c153 :: c154 :: c155 :: c156 :: c157 :: c158 :: c159 :: c160 :: c161 :: c162 :: c163 :: c164 :: c165 :: c166 :: c167 :: c168 :: c169 :: c170 :: c171 :: c172 :: c173 :: c174 :: c175 :: c176 :: c177 :: c178 :: c179 :: c180 :: c181 :: c182 :: c183 :: c184 :: c185 :: c186 :: c187 :: c188 :: c189 :: c190 :: c191 :: c192 :: c193 :: c194 :: c195 :: c196 :: c197 :: c198 :: c199 :: c200 :: c201 :: c202 :: c203 :: c204 :: c205 :: c206 :: c207 :: c208 :: c209 :: c210 :: c211 :: c212 :: c213 :: c214 :: c215 :: c216 :: c217 :: c218 :: c219 :: c220 :: c221 :: c222 :: c223 :: c224 :: c225 :: c226 :: c227 :: c228 :: c229 :: c230 :: c231 :: c232 :: c233 :: c234 :: c235 :: c236 :: c237 :: c238 :: []), []⟩ w := by
  conv => arg 2; arg 1; whnf
  refine Code.wp_mono (noPanic_of Q) ?_
  obtain ⟨i5i, hi5, he5⟩ := Option.map_eq_some_iff.1 i5
  simp only [Prod.mk.injEq] at he5
  obtain ⟨e1, e2, e3⟩ := he5
  have HI5 : Hid (Tryz.prog.info? 5 = some i5i) := hi5
  have HE1 : Hid (i5i.size = 1) := e1
  have HE2 : Hid (i5i.bytes = 1) := e2
  have HE3 : Hid (i5i.zero = some (.int .u8 0)) := e3
  clear hi5 e1 e2 e3
  go_loopw [3] (fun v w' => ∃ t : Nat, 1 ≤ t ∧ t ≤ 1 + z ∧ w'.ownsRow B 5 1 v (bs.length + t) ((bs ++ (Sha.ending bs.length).take t).map u8v) ∧ Below B a0 w' ∧ B ≤ w'.heap.size) (fun v _ => bs.length + 1 + z - (match v with | .slice _ n _ => n | _ => 0))
  case atStart => exact ⟨1, by omega, by omega, hown, hbel, hBs⟩
  case round =>
    clear hown hbel hBs
    obtain ⟨t, h1, h2, hown, hbel, hBs⟩ := hrel
    obtain ⟨g, cap, rfl, _, _⟩ := hown.form (by omega)
    obtain ⟨N, hN⟩ : ∃ N, N = bs.length + t := ⟨_, rfl⟩
    have HN : Hid (N = bs.length + t) := hN
    have HZ := hz.out
    have HOWN : Hid (wr.ownsRow B 5 1 (.slice (some ⟨g, 0, none⟩) N cap) N ((bs ++ (Sha.ending bs.length).take t).map u8v)) := by rw [hN]; exact hown
    have HBEL : Hid (Below B a0 wr) := hbel
    rw [← hN]
    clear hown hbel
    by_cases hlt : t < 1 + z
    · have k1 : ¬ ((N : Int) % 64 = 56) := by omega
      have k2 : N + 1 ≤ 140737488355328 := by omega
      have HT : Hid ((Sha.ending bs.length).take (t + 1) = (Sha.ending bs.length).take t ++ [0]) := by
        show _ = _
        rw [ending_take_succ _ _ (by rw [ending_length]; omega), ending_zero _ _ h1 (by omega)]
      clear hexit hN HZ hlen
      go_wp2_with (at_builtin; refine wpList_append_one rfl _ _ 51 rfl B 5 i5i (.int .u8 0) Tryz.underlying51 HI5.out HE3.out HE1.out HE2.out rfl _ _ _ rfl HOWN.out 5 _ rfl rfl k2 hBs ?_; intro v1 w1 hown1 hb1 hs1)
      go_roundw
      case rel =>
        go_light
        refine ⟨t + 1, by omega, by omega, ?_, hb1 _ HBEL.out, hs1⟩
        have e := HN.out
        rw [HT.out, ← List.append_assoc, List.map_append, show bs.length + (t + 1) = N + 1 by omega]
        exact hown1
      case measure =>
        have e := HN.out
        obtain ⟨g', cap', rfl, _, _⟩ := hown1.form (by omega)
        simp; omega
    · have k1 : (N : Int) % 64 = 56 := by omega
      have HT : Hid (t = 1 + z) := by show t = _; omega
      clear hN HZ hlen
      go_wp2
      refine hexit _ _ _ _ _ _ _ _ _ ⟨?_, HBEL.out, hBs⟩
      have := HOWN.out
      rw [HT.out] at this
      rw [HN.out, HT.out] at this ⊢
      exact this
end Go.Proofs.YtamaejlbojbbeaaGreatDoor.Sb
namespace Go.Proofs.YtamaejlbojbbeaaGreatDoor.Sb
open Go.RowKit
theorem own_sl {w : World} {B : Nat} {v : Value} {xs : List Nat} (hlt : ∀ x ∈ xs, x < 256) (h : w.ownsRow B 5 1 v xs.length (xs.map u8v)) : ∃ p cap b, v = .slice p xs.length cap ∧ Sl w p xs cap b 0 ∧ (p = none → xs.length = 0 ∧ cap = 0) ∧ B ≤ b ∧ (0 < xs.length → T5 w b) := by
  have hh := h
  obtain ⟨hl, ⟨rfl, h0⟩ | ⟨g, cap, cur, rfl, hb, hg, h1, h2, h3, h4⟩⟩ := h
  · have hx : xs = [] := by simpa using h0
    subst hx
    exact ⟨none, 0, B, rfl, ⟨hlt, by simp, by omega, fun h => by simp at h, fun j hj => by simp at hj⟩, fun _ => ⟨rfl, rfl⟩, Nat.le_refl _, fun h => by simp at h⟩
  · refine ⟨_, cap, g, rfl, ⟨hlt, h1, by unfold maxLen at h2; omega, fun _ => rfl, fun j hj => ?_⟩, fun h => (by cases h), hb, fun _ => ⟨_, _, hg⟩⟩
    have e1 : (xs.map u8v)[j]? = some (u8v (xs.getD j 0)) := by simp [hj]
    rw [Nat.zero_add, hh.cellAt j (by omega), e1]
theorem nil_yes (w : World) : (binOp .eql 51 (.slice none 0 0) (.slice none 0 0)).run Tryz.prog w = .ok (.bool true) w := by kernel_rfl
theorem nil_no (ad : Addr) (n c : Nat) (w : World) : (binOp .eql 51 (.slice (some ad) n c) (.slice none 0 0)).run Tryz.prog w = .ok (.bool false) w := by kernel_rfl
set_option maxHeartbeats 400000 in
set_option maxRecDepth 100000 in
theorem clone_any (bs : List Nat) (p : Option Addr) (cap b off : Nat) (w : World) (hs : Sl w p bs cap b off) (hpn : p = none → bs.length = 0 ∧ cap = 0) (hre : bs.length ≤ 140737488355328) :
    Calls Tryz.prog 109 #[.slice p bs.length cap] w fun e w' => ∃ p' cap' b', e = .returned (.slice p' bs.length cap') ∧ Sl w' p' bs cap' b' 0 ∧ (p' = none → bs.length = 0 ∧ cap' = 0) ∧ w.heap.size ≤ b' ∧ (0 < bs.length → T5 w' b') ∧ Below w.heap.size w w' := by
  rcases p with _ | ad
  · obtain ⟨h0, rfl⟩ := hpn rfl
    obtain rfl : bs = [] := List.eq_nil_of_length_eq_zero h0
    clear hs hpn hre h0
    have hn := nil_yes
    go_enter Tryz.func109, Tryz.ntmps109
    go_wp2
    go_ret
    exact ⟨none, 0, w.heap.size, rfl, ⟨by simp, by simp, by omega, fun h => by simp at h, fun j hj => by simp at hj⟩, fun _ => by simp, Nat.le_refl _, fun h => by simp at h, Below.refl _ _⟩
  · obtain ⟨i5i, hi5, he5⟩ := Option.map_eq_some_iff.1 i5
    simp only [Prod.mk.injEq] at he5
    obtain ⟨e1, e2, e3⟩ := he5
    have HI5 : Hid (Tryz.prog.info? 5 = some i5i) := hi5
    have HE1 : Hid (i5i.size = 1) := e1
    have HE2 : Hid (i5i.bytes = 1) := e2
    have HE3 : Hid (i5i.zero = some (.int .u8 0)) := e3
    clear hi5 e1 e2 e3
    have hown0 : (w.alloc (.cells #[] 5)).ownsRow w.heap.size 5 1 (.slice (some ⟨w.heap.size, 0, none⟩) 0 0) 0 [] :=
      World.ownsRow_made (base := w.heap.size) (e := 5) (size := 1) w #[] 0 (Nat.le_refl _) (by simp) rfl
    have hb0 : Below w.heap.size w (w.alloc (.cells #[] 5)) := (Below.refl _ _).alloc (Nat.le_refl _) _
    have hBs : w.heap.size ≤ (w.alloc (.cells #[] 5)).heap.size := by simp
    have hsrc0 : ∀ ad', some ad = some ad' → ∀ j u, (bs.map u8v)[j]? = some u → (w.alloc (.cells #[] 5)).cell? (ad'.add j) = some u := by
      intro ad' had j u hu
      cases had
      have hj : j < bs.length := by simpa using (List.getElem?_eq_some_iff.1 hu).1
      obtain rfl : ad = ⟨b, off, none⟩ := by have := hs.at_ (by omega); exact Option.some.inj this
      have hc := hs.src j hj
      have hlt := World.block_lt_of_cell? w _ hc
      rw [Addr.add_mid, hb0.cell hlt, hc]
      simp [hj] at hu
      rw [← hu]
      simp [hj]
    have hl0 : (bs.map u8v).length = bs.length := by simp
    have hfit0 : 0 + bs.length ≤ 140737488355328 := by omega
    have HS := hid_in hs.lt
    have HF0 := hid_in hfit0
    have hn := nil_no ad
    clear hs hre hfit0
    go_enter Tryz.func109, Tryz.ntmps109
    go_wp2_with (first | (at_builtin; refine wpList_append_any rfl _ _ 51 rfl w.heap.size 5 i5i (.int .u8 0) Tryz.underlying51 HI5.out HE3.out HE1.out HE2.out rfl _ 0 [] rfl hown0 (some ad) bs.length cap (bs.map u8v) rfl hl0 hpn hsrc0 (one_u8 bs) HF0.out hBs ?_; intro v1 w1 hown1 hg1; have hb1 := own_step hb0 hg1 hBs rfl hown0; rw [Nat.zero_add, List.nil_append] at hown1))
    obtain ⟨p1, cap1, b1, rfl, hs1, hp1, hB1, hT1⟩ := own_sl HS.out hown1
    go_ret
    exact ⟨p1, cap1, b1, rfl, hs1, hp1, hB1, hT1, hb1⟩
end Go.Proofs.YtamaejlbojbbeaaGreatDoor.Sb
