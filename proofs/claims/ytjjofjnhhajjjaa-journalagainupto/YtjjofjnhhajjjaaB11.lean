/-
  Entries in memory: values that read as entries; a row of entries of the call's own, and what is put behind it. What is kept, records, and what a record makes of what is kept; their bytes.
-/
import Derived.Lib.AppendZeros
import Derived.Laws.Tables
import Derived.Laws.CopyOwn
import Derived.OwnWalk
import Derived.Deep.CutRange
import Derived.Laws.StructEq
import Derived.Lib.SlBytesConst
import Derived.Deep.RegionLaw
import Derived.Deep.DrawnRows
import Derived.Test.YtjjofjnhhajjjaaB00
import Derived.Test.YtjjofjnhhajjjaaB01
import Derived.Test.YtjjofjnhhajjjaaB02
import Derived.Test.YtjjofjnhhajjjaaB03
import Derived.Test.YtjjofjnhhajjjaaB04
import Derived.Test.YtjjofjnhhajjjaaB05
import Derived.Test.YtjjofjnhhajjjaaB06
import Derived.Test.YtjjofjnhhajjjaaB07
import Derived.Test.YtjjofjnhhajjjaaB08
import Derived.Test.YtjjofjnhhajjjaaB09
import Derived.Test.YtjjofjnhhajjjaaB10
namespace Go.Proofs.Ytjjofjnhhajjjaa.Jr
open Go.RowKit
open Nd (Row wp_world post_Row grownBy_setCell below_of_grown u8v Grew Sl hid_in i64r)
/-- an entry -/
structure Ent where
  cl : Int
  nu : Int
  op : Nd.Opn
  deriving DecidableEq
def Ent.cells (e : Ent) : List Value := [.int .i64 e.cl, .int .i64 e.nu, .int .i64 e.op.kind, .string e.op.path, .string e.op.dest, .string e.op.data, .int .i64 e.op.at_, .int .i64 e.op.size]
def Ent.val (e : Ent) : Value := .agg #[.int .i64 e.cl, .int .i64 e.nu, .int .i64 e.op.kind, .string e.op.path, .string e.op.dest, .string e.op.data, .int .i64 e.op.at_, .int .i64 e.op.size]
structure Ent.ok (e : Ent) : Prop where
  cl : i64r e.cl
  nu : i64r e.nu
  op : e.op.ok
def ecells (es : List Ent) : List Value := es.flatMap Ent.cells
theorem ecells_cons (e : Ent) (es : List Ent) : ecells (e :: es) = e.cells ++ ecells es := by simp [ecells]
theorem ecells_app (a b : List Ent) : ecells (a ++ b) = ecells a ++ ecells b := by simp [ecells]
theorem ecells_len (es : List Ent) : (ecells es).length = es.length * 8 := by
  induction es with
  | nil => rfl
  | cons f r ih =>
    rw [ecells_cons, List.length_append, ih, List.length_cons]
    simp [Ent.cells]
    omega
theorem ecells_one (es : List Ent) : ∀ u ∈ ecells es, u.oneCell' = true := by
  intro u hu
  obtain ⟨f, _, h⟩ := List.mem_flatMap.1 hu
  simp [Ent.cells] at h
  rcases h with rfl | rfl | rfl | rfl | rfl | rfl | rfl | rfl <;> rfl
theorem ecells_at {es : List Ent} {i : Nat} {e : Ent} (h : es[i]? = some e) (y : Nat) (u : Value) (hy : e.cells[y]? = some u) : (ecells es)[i * 8 + y]? = some u := by
  have h1 := Nd.flatten_get (k := 8) (xs := es.map Ent.cells) (fun us hus => by obtain ⟨g, _, rfl⟩ := List.mem_map.1 hus; rfl) i e.cells (by rw [List.getElem?_map, h]; rfl) y u hy
  rw [List.flatMap_def.symm] at h1
  exact h1
/-- a value that reads as entries -/
def Es (w : World) (v : Value) (es : List Ent) : Prop := ∃ p cap b o, v = .slice p es.length cap ∧ es.length ≤ cap ∧ cap ≤ 9223372036854775807 ∧ (es ≠ [] → p = some ⟨b, o, none⟩ ∧ b < w.heap.size) ∧ (∀ j u, (ecells es)[j]? = some u → w.cell? ⟨b, o + j, none⟩ = some u) ∧ (p = none → es = [] ∧ cap = 0)
theorem Es.keep {w w' : World} {S : Nat → Prop} {v : Value} {es : List Ent} (h : Es w v es) (hg : Grew w w' S) (hn : ∀ b, v.ownBlock = some b → ¬ S b) : Es w' v es := by
  obtain ⟨p, cap, b, o, rfl, h2, h3, h4, h5, h6⟩ := h
  refine ⟨p, cap, b, o, rfl, h2, h3, fun he => ⟨(h4 he).1, Nat.lt_of_lt_of_le (h4 he).2 hg.size⟩, fun j u hj => ?_, h6⟩
  have hne : es ≠ [] := by rintro rfl; simp [ecells] at hj
  obtain ⟨rfl, hb⟩ := h4 hne
  rw [World.cell?_of_block (a := ⟨b, o + j, none⟩) (hg.block b hb (hn b rfl))]
  exact h5 j u hj
theorem Es.below {w w' : World} {v : Value} {es : List Ent} (h : Es w v es) (hb : Below w.heap.size w w') : Es w' v es :=
  h.keep (Grew.of_below (fun _ => False) hb) (fun _ _ h => h)
theorem Es.grown {w w' : World} {z : Nat} {v : Value} {es : List Ent} (h : Es w v es) (hg : w.grownBy w' (some z)) (hz : v.ownBlock ≠ some z) : Es w' v es := by
  obtain ⟨p, cap, b, o, rfl, h2, h3, h4, h5, h6⟩ := h
  refine ⟨p, cap, b, o, rfl, h2, h3, fun he => ⟨(h4 he).1, Nat.lt_of_lt_of_le (h4 he).2 hg.size⟩, fun j u hj => ?_, h6⟩
  have hne : es ≠ [] := by rintro rfl; simp [ecells] at hj
  obtain ⟨rfl, hb⟩ := h4 hne
  rw [World.cell?_of_block (a := ⟨b, o + j, none⟩) (hg.block b hb (by intro e; exact hz (by simpa [Value.ownBlock] using e)))]
  exact h5 j u hj
theorem Es.form {w : World} {v : Value} {es : List Ent} (h : Es w v es) : ∃ p cap, v = .slice p es.length cap ∧ es.length ≤ cap ∧ cap ≤ 9223372036854775807 := by
  obtain ⟨p, cap, _, _, h1, h2, h3, _⟩ := h
  exact ⟨p, cap, h1, h2, h3⟩
theorem Es.nil (w : World) : Es w (.slice none 0 0) [] := ⟨none, 0, 0, 0, rfl, Nat.le_refl _, by decide, fun h => absurd rfl h, fun j u h => by simp [ecells] at h, fun _ => ⟨rfl, rfl⟩⟩
theorem Es.at {w : World} {n c : Nat} {p : Option Addr} {es : List Ent} (h : Es w (.slice p n c) es) {i : Nat} {e : Ent} (hi : es[i]? = some e) : ∃ b o, p = some ⟨b, o, none⟩ ∧ ∀ (y : Nat) u, e.cells[y]? = some u → w.cell? ⟨b, o + i * 8 + y, none⟩ = some u := by
  obtain ⟨p', cap, b, o, h1, h2, h3, h4, h5, h6⟩ := h
  simp only [Value.slice.injEq] at h1
  obtain ⟨rfl, rfl, rfl⟩ := h1
  have hne : es ≠ [] := by rintro rfl; simp at hi
  refine ⟨b, o, (h4 hne).1, fun y u hy => ?_⟩
  rw [Nat.add_assoc]
  exact h5 _ _ (ecells_at hi y u hy)
/-- a row of entries of the call's own -/
def EO (w : World) (B : Nat) (v : Value) (es : List Ent) : Prop := w.ownsRow B 51 8 v es.length (ecells es)
theorem EO.below {w w' : World} {B : Nat} {v : Value} {es : List Ent} (h : EO w B v es) (hb : Below w.heap.size w w') : EO w' B v es := Nd.own_belowK h hb
theorem EO.nil (w : World) (B : Nat) : EO w B (.slice none 0 0) [] := ⟨rfl, .inl ⟨rfl, rfl⟩⟩
theorem EO.es {w : World} {B : Nat} {v : Value} {es : List Ent} (h : EO w B v es) : Es w v es := by
  obtain ⟨_, ⟨rfl, h0⟩ | ⟨g, cap, cur, rfl, hB, hh, hn, hm, hs, ht⟩⟩ := h
  · obtain rfl := List.length_eq_zero_iff.1 h0
    exact ⟨none, 0, 0, 0, rfl, by simp, by omega, fun h => absurd rfl h, fun j u h => by simp [ecells] at h, fun _ => ⟨rfl, rfl⟩⟩
  · have hlt : g < w.heap.size := (Array.getElem?_eq_some_iff.1 hh).1
    refine ⟨_, cap, g, 0, rfl, hn, by unfold maxLen at hm; omega, fun _ => ⟨rfl, hlt⟩, fun j u hj => ?_, fun e => by cases e⟩
    have hjl : j < es.length * 8 := by rw [← ecells_len]; exact (List.getElem?_eq_some_iff.1 hj).1
    have ht2 : (cur.toList.take (es.length * 8))[j]? = (ecells es)[j]? := by rw [ht]
    rw [List.getElem?_take, if_pos hjl, hj, Array.getElem?_toList] at ht2
    rw [Nat.zero_add, cell_of_row w g j _ _ (0, 0) hh, ht2]
theorem info51h : ∃ i z, Hid (Try.prog.info? 51 = some i) ∧ Hid (i.size = 8) ∧ Hid (i.bytes = 88) ∧ Hid (i.zero = some z) ∧ Hid (z.cells.size = 8) := by
  have h : (Try.prog.info? 51).map (fun i => (i.size, i.bytes, i.zero.map (·.cells.size))) = some (8, 88, some 8) := by kernel_rfl
  cases hi : Try.prog.info? 51 with
  | none => rw [hi] at h; cases h
  | some i =>
    rw [hi] at h
    simp only [Option.map_some, Option.some.injEq, Prod.mk.injEq] at h
    obtain ⟨h1, h2, h3⟩ := h
    cases hz : i.zero with
    | none => rw [hz] at h3; cases h3
    | some z => rw [hz] at h3; exact ⟨i, z, rfl, h1, h2, hz, Option.some.inj h3⟩
/-- entries put behind a row of the call's own -/
theorem wpList_appE {ops : Array Oper} {rest : List Oper} {o : Oper} {a : Act} {w : World} {Q : Exit → Act → World → Prop} (B : Nat) (hgd : o.guard = none) (s x : Operand) (ho : o.op = .call { callee := .builtin .append, args := #[s, x], argTypes := #[28, 28] })
    (v : Value) (xs ys : List Ent) (hs : a.eval s = v) (hown : EO w B v xs) (sv : Value) (hx : a.eval x = sv) (hsv : Es w sv ys) (hlen : xs.length + ys.length ≤ 100000000000) (hB : B ≤ w.heap.size)
    (h : ∀ v' w', EO w' B v' (xs ++ ys) → w.grownBy w' v.ownBlock → wpList Try.prog ops Q rest (a.put o.dst v') w') : wpList Try.prog ops Q (o :: rest) a w := by
  obtain ⟨p, cap, b, of, rfl, h1, h2, h3, h4, h5⟩ := hsv
  obtain ⟨i, z, hi, hz1, hz2, hz3, hz4⟩ := info51h
  rcases p with _ | ad
  · obtain ⟨rfl, rfl⟩ := h5 rfl
    refine wpList_append_own_none hgd s x 28 ho B 51 i 8 Try.underlying28 hi.out v xs.length (ecells xs) hs hown hx ?_
    exact h v w (by simpa using hown) ⟨rfl, rfl, rfl, Nat.le_refl _, fun _ _ _ => rfl⟩
  · refine wpList_append_own w hgd s x 28 ho B 51 i z 8 88 Try.underlying28 hi.out hz3.out hz1.out hz2.out hz4.out (by decide) v xs.length (ecells xs) hs hown ad ys.length cap (ecells ys) hx (ecells_len ys) (fun j u hj => ?_) (ecells_one ys) (by unfold maxLen; omega) (by omega) hB ?_
    · have hne : ys ≠ [] := by rintro rfl; simp [ecells] at hj
      obtain rfl := Option.some.inj (h3 hne).1
      rw [Addr.add_mid]
      exact h4 j u hj
    · intro v' w' h6 h7 _
      refine h v' w' ?_ h7
      unfold EO
      rw [List.length_append, ecells_app]
      exact h6
theorem size51 (w : World) : (sizeOf 51).run Try.prog w = .ok 8 w := by kernel_rfl
theorem slice28_to (p : Option Addr) (L C n : Nat) (h1 : n ≤ C) (w : World) : (Instr.slice 28 (.slice p L C) none (some (.int .i64 (n : Int))) none).run Try.prog w = .ok (.slice p n C) w := by
  have ht : Try.prog.underlying 28 = some (.slice (Try.prog.elem 28)) := by kernel_rfl
  have he : Try.prog.elem 28 = 51 := by kernel_rfl
  rw [run_slice_h w 28 p L C ht .i64 (n : Int) (by omega) (by omega), he, size51]
  rcases p with _ | ⟨b, o, s⟩ <;> simp [sliced, Addr.add]
theorem Es.first {w : World} {p : Option Addr} {n cap : Nat} {es : List Ent} (h : Es w (.slice p n cap) es) (k : Nat) (hk : k ≤ es.length) : n = es.length ∧ k ≤ cap ∧ Es w (.slice p k cap) (es.take k) := by
  obtain ⟨p', cap', b, o, h1, h2, h3, h4, h5, h6⟩ := h
  simp only [Value.slice.injEq] at h1
  obtain ⟨rfl, rfl, rfl⟩ := h1
  refine ⟨rfl, by omega, p, cap, b, o, by rw [List.length_take, Nat.min_eq_left hk], by rw [List.length_take]; omega, h3, fun hne => h4 (by rintro rfl; simp at hne), fun j u hj => h5 j u ?_, fun e => ⟨by rw [(h6 e).1]; simp, (h6 e).2⟩⟩
  have e : ecells es = ecells (es.take k) ++ ecells (es.drop k) := by rw [← ecells_app, List.take_append_drop]
  rw [e, List.getElem?_append_left (List.getElem?_eq_some_iff.1 hj).1]
  exact hj
/-- one entry in a block of its own -/
theorem es_one (w : World) (e : Ent) : ∃ W, Hid (w.alloc (.cells #[.int .i64 e.cl, .int .i64 e.nu, .int .i64 e.op.kind, .string e.op.path, .string e.op.dest, .string e.op.data, .int .i64 e.op.at_, .int .i64 e.op.size] 51) = W) ∧ Hid (EO W w.heap.size (.slice (some ⟨w.heap.size, 0, none⟩) 1 1) [e]) ∧ Hid (Es W (.slice (some ⟨w.heap.size, 0, none⟩) 1 1) [e]) ∧ Hid (Below w.heap.size w W) := by
  have h1 : EO (w.alloc (.cells #[.int .i64 e.cl, .int .i64 e.nu, .int .i64 e.op.kind, .string e.op.path, .string e.op.dest, .string e.op.data, .int .i64 e.op.at_, .int .i64 e.op.size] 51)) w.heap.size (.slice (some ⟨w.heap.size, 0, none⟩) 1 1) [e] :=
    ⟨rfl, .inr ⟨w.heap.size, 1, _, rfl, Nat.le_refl _, (MapKept.heap_alloc w _).1, Nat.le_refl _, by unfold maxLen; omega, rfl, rfl⟩⟩
  exact ⟨_, rfl, h1, h1.es, (Below.refl _ _).alloc (Nat.le_refl _) _⟩
end Go.Proofs.Ytjjofjnhhajjjaa.Jr
namespace Go.Proofs.Ytjjofjnhhajjjaa.Jr
open Go.RowKit
open Nd (Row wp_world post_Row grownBy_setCell below_of_grown u8v Grew Sl hid_in i64r bytesS str encO)
/-- what is kept -/
structure Kt where
  view : Int
  normal : Int
  base : Int
  state : ByteArray
  ents : List Ent
def Kt.cells (k : Kt) (v : Value) : List Value := [.int .i64 k.view, .int .i64 k.normal, .int .i64 k.base, .string k.state, v]
def Kt.val (k : Kt) (v : Value) : Value := .agg #[.int .i64 k.view, .int .i64 k.normal, .int .i64 k.base, .string k.state, v]
def zeroK : Kt := ⟨0, 0, 0, ⟨#[]⟩, []⟩
structure Kt.ok (k : Kt) : Prop where
  view : i64r k.view
  normal : i64r k.normal
  base : i64r k.base
  state : k.state.size ≤ 9223372036854775807
  few : k.ents.length ≤ 9223372036854775807
  ents : ∀ e ∈ k.ents, e.ok
def shortE (e : Ent) : Bool := decide (e.op.path.size ≤ 1100 ∧ e.op.dest.size ≤ 1100 ∧ e.op.data.size ≤ 1100)
theorem shortE_iff (e : Ent) : shortE e = true ↔ e.op.short := by simp [shortE, Nd.Opn.short]
/-- may it be kept? -/
def may (k : Kt) : Bool := decide (0 ≤ k.normal ∧ k.normal ≤ k.view ∧ k.view ≤ 1099511627776 ∧ 0 ≤ k.base ∧ k.base + (k.ents.length : Int) ≤ 1099511627776 ∧ k.state.size ≤ 65536 ∧ (0 < k.base ∨ k.state.size = 0) ∧ k.ents.length ≤ 32) && k.ents.all shortE
structure May (k : Kt) : Prop where
  n0 : 0 ≤ k.normal
  nv : k.normal ≤ k.view
  vg : k.view ≤ 1099511627776
  b0 : 0 ≤ k.base
  bg : k.base + (k.ents.length : Int) ≤ 1099511627776
  st : k.state.size ≤ 65536
  sb : 0 < k.base ∨ k.state.size = 0
  few : k.ents.length ≤ 32
  sh : ∀ e ∈ k.ents, e.op.short
theorem may_iff (k : Kt) : may k = true ↔ May k := by
  unfold may
  rw [Bool.and_eq_true, decide_eq_true_eq, List.all_eq_true]
  constructor
  · rintro ⟨⟨h1, h2, h3, h4, h5, h6, h7, h8⟩, h9⟩
    exact ⟨h1, h2, h3, h4, h5, h6, h7, h8, fun e he => (shortE_iff e).1 (h9 e he)⟩
  · rintro ⟨h1, h2, h3, h4, h5, h6, h7, h8, h9⟩
    exact ⟨⟨h1, h2, h3, h4, h5, h6, h7, h8⟩, fun e he => (shortE_iff e).2 (h9 e he)⟩
theorem may_zero : may zeroK = true := by decide
theorem zeroK_ok : zeroK.ok := ⟨⟨by decide, by decide⟩, ⟨by decide, by decide⟩, ⟨by decide, by decide⟩, by decide, by decide, fun e he => by cases he⟩
/-- a record -/
structure Rc where
  kind : Int
  frm : Int
  told : Kt
def Rc.cells (r : Rc) (v : Value) : List Value := [.int .i64 r.kind, .int .i64 r.frm, .int .i64 r.told.view, .int .i64 r.told.normal, .int .i64 r.told.base, .string r.told.state, v]
def Rc.val (r : Rc) (v : Value) : Value := .agg #[.int .i64 r.kind, .int .i64 r.frm, .int .i64 r.told.view, .int .i64 r.told.normal, .int .i64 r.told.base, .string r.told.state, v]
structure Rc.ok (r : Rc) : Prop where
  kind : r.kind = 1 ∨ r.kind = 2 ∨ r.kind = 3 ∨ r.kind = 4
  frm : i64r r.frm
  told : r.told.ok
def riseS (r : Rc) (k : Kt) : Option Kt := if r.told.view ≤ k.view then none else some ⟨r.told.view, k.normal, k.base, k.state, k.ents⟩
def addS (r : Rc) (k : Kt) : Option Kt := some ⟨k.view, k.normal, k.base, k.state, k.ents ++ r.told.ents⟩
def adoptS (r : Rc) (k : Kt) : Option Kt := if r.frm < k.base ∨ k.base + (k.ents.length : Int) < r.frm ∨ r.told.view < k.view then none else some ⟨r.told.view, r.told.view, k.base, k.state, k.ents.take (r.frm - k.base).toNat ++ r.told.ents⟩
def nextS (r : Rc) (k : Kt) : Option Kt := if r.kind = 1 then riseS r k else if r.kind = 2 then addS r k else if r.kind = 3 then adoptS r k else some r.told
/-- what a record makes of what is kept -/
def foldS (r : Rc) (k : Kt) : Option Kt := match nextS r k with
  | none => none
  | some n => if may n = true then some n else none
theorem foldS_may {r : Rc} {k n : Kt} (h : foldS r k = some n) : may n = true ∧ nextS r k = some n := by
  unfold foldS at h
  cases hn : nextS r k with
  | none => rw [hn] at h; cases h
  | some m =>
    rw [hn] at h
    simp only at h
    split at h
    · rename_i hm
      injection h with h
      subst h
      exact ⟨hm, rfl⟩
    · cases h
theorem nextS_ok {r : Rc} {k n : Kt} (hr : r.ok) (hk : k.ok) (hk32 : k.ents.length ≤ 100000000000) (hr32 : r.told.ents.length ≤ 100000000000) (h : nextS r k = some n) : n.ok := by
  have happ : ∀ (a b : List Ent), (∀ e ∈ a, e.ok) → (∀ e ∈ b, e.ok) → ∀ e ∈ a ++ b, e.ok := fun a b ha hb e he => by
    rcases List.mem_append.1 he with h | h
    · exact ha e h
    · exact hb e h
  unfold nextS riseS addS adoptS at h
  split at h
  · split at h
    · cases h
    · injection h with h
      subst h
      exact ⟨hr.told.view, hk.normal, hk.base, hk.state, hk.few, hk.ents⟩
  · split at h
    · injection h with h
      subst h
      exact ⟨hk.view, hk.normal, hk.base, hk.state, by simp; omega, happ _ _ hk.ents hr.told.ents⟩
    · split at h
      · split at h
        · cases h
        · injection h with h
          subst h
          exact ⟨hr.told.view, hr.told.view, hk.base, hk.state, by simp; omega, happ _ _ (fun e he => hk.ents e (List.mem_of_mem_take he)) hr.told.ents⟩
      · injection h with h
        subst h
        exact hr.told
/-- the bytes of an entry -/
def entS (e : Ent) : List Nat := Nd.Wire.num (Nd.Wire.zz e.cl) ++ Nd.Wire.num (Nd.Wire.zz e.nu) ++ (Nd.Wire.num (encO e.op).length ++ encO e.op)
def entsS (es : List Ent) : List Nat := es.flatMap entS
def manyS (es : List Ent) : List Nat := Nd.Wire.num es.length ++ entsS es
/-- the bytes of a record -/
def payS (r : Rc) : List Nat :=
  Nd.Wire.num r.kind.toNat ++ (if r.kind = 1 then Nd.Wire.num r.told.view.toNat else if r.kind = 2 then entsS r.told.ents else if r.kind = 3 then Nd.Wire.num r.told.view.toNat ++ Nd.Wire.num r.frm.toNat ++ manyS r.told.ents
    else Nd.Wire.num r.told.view.toNat ++ Nd.Wire.num r.told.normal.toNat ++ Nd.Wire.num r.told.base.toNat ++ (Nd.Wire.num r.told.state.size ++ bytesS r.told.state) ++ manyS r.told.ents)
theorem entsS_cons (e : Ent) (es : List Ent) : entsS (e :: es) = entS e ++ entsS es := by simp [entsS]
theorem entsS_app (a b : List Ent) : entsS (a ++ b) = entsS a ++ entsS b := by simp [entsS]
end Go.Proofs.Ytjjofjnhhajjjaa.Jr
