/-
  A seat, the cells of a table of seats, and what is asked of them. The walks of isRight and of node.Check. Fields that are read, by states: what is still to be read and what was wrong; node.number. What a node reads as; the walk of node.read. The walk of node.Decode. Fields that are written; the walks of writeParts and writeItems. The walk of node.Encode.
-/
import Derived.Deep.RegionLaw
import Derived.Deep.DrawnRows
import Derived.Laws.CopyOwn
import Derived.OwnWalk
import Derived.Laws.Tables
import Derived.Test.YtiijlnlkhpneaaaF00
import Derived.Test.YtiijlnlkhpneaaaF01
import Derived.Test.YtiijlnlkhpneaaaF02
import Derived.Test.YtiijlnlkhpneaaaF03
import Derived.Test.YtiijlnlkhpneaaaF04
import Derived.Test.YtiijlnlkhpneaaaF05
import Derived.Test.YtiijlnlkhpneaaaF06
import Derived.Test.YtiijlnlkhpneaaaF07
namespace Go.Proofs.Ytiijlnlkhpneaaa.Se
open Go.RowKit
open Nd (Row wp_world post_Row grownBy_setCell below_of_grown)
theorem hid_in {p : Prop} (h : p) : Hid p := h
/-- a seat -/
structure Seat where
  client : Int
  number : Int
  at_ : Int
  kept : Bool
  reply : ByteArray
def Seat.cells (s : Seat) : List Value := [.int .i64 s.client, .int .i64 s.number, .int .i64 s.at_, .bool s.kept, .string s.reply]
def noSeat : Seat := ⟨0, 0, 0, false, ⟨#[]⟩⟩
theorem Seat.cells_len (s : Seat) : s.cells.length = 5 := rfl
def tcells (T : List Seat) : List Value := T.flatMap Seat.cells
theorem tcells_len (T : List Seat) : (tcells T).length = T.length * 5 := by
  induction T with
  | nil => rfl
  | cons a r ih =>
    have : tcells (a :: r) = a.cells ++ tcells r := rfl
    rw [this, List.length_append, ih, Seat.cells_len]
    simp
    omega
theorem tcells_at : ∀ {T : List Seat} {i : Nat} {s : Seat}, T[i]? = some s → ∀ (j : Nat) v, s.cells[j]? = some v → (tcells T)[i * 5 + j]? = some v
  | [], i, s, h, _, _, _ => by simp at h
  | a :: r, 0, s, h, j, v, hv => by
    simp at h
    subst h
    have e : tcells (a :: r) = a.cells ++ tcells r := rfl
    have hj : j < a.cells.length := (List.getElem?_eq_some_iff.1 hv).1
    rw [e, Nat.zero_mul, Nat.zero_add, List.getElem?_append_left hj]
    exact hv
  | a :: r, i + 1, s, h, j, v, hv => by
    have h' : r[i]? = some s := by simpa using h
    have e : tcells (a :: r) = a.cells ++ tcells r := rfl
    have h1 := tcells_at h' j v hv
    rw [e, List.getElem?_append_right (by rw [Seat.cells_len]; omega), Seat.cells_len, show (i + 1) * 5 + j - 5 = i * 5 + j by omega]
    exact h1
theorem tcells_set : ∀ (T : List Seat) (i : Nat) (s : Seat), i < T.length → splice (tcells T) (i * 5) s.cells = tcells (T.set i s)
  | [], i, s, h => by simp at h
  | a :: r, 0, s, _ => by
    have e : tcells (a :: r) = a.cells ++ tcells r := rfl
    have e2 : tcells ((a :: r).set 0 s) = s.cells ++ tcells r := rfl
    rw [e, e2]
    unfold splice
    rw [Nat.zero_mul, Nat.zero_add, List.take_zero, Seat.cells_len, ← Seat.cells_len a, List.drop_left]
    rfl
  | a :: r, i + 1, s, h => by
    have ih := tcells_set r i s (by simpa using h)
    have e : tcells (a :: r) = a.cells ++ tcells r := rfl
    have e2 : tcells ((a :: r).set (i + 1) s) = a.cells ++ tcells (r.set i s) := rfl
    rw [e, e2, ← ih]
    unfold splice
    have h5 : (i + 1) * 5 = a.cells.length + i * 5 := by rw [Seat.cells_len]; omega
    rw [h5, List.take_length_add_append, Nat.add_assoc, List.drop_length_add_append]
    simp
/-- block g holds the room and eight seats -/
structure Tab (w : World) (g : Nat) (room : Int) (T : List Seat) : Prop where
  row : Row w g (.int .i64 room :: tcells T) 61
  len : T.length = 8
theorem size59 : (Try.prog.info? 59).map (·.size) = some 40 := by kernel_rfl
theorem size48 : (Try.prog.info? 48).map (·.size) = some 5 := by kernel_rfl
theorem Tab.lt {w : World} {g : Nat} {room : Int} {T : List Seat} (h : Tab w g room T) : g < w.heap.size := h.row.lt
theorem Tab.below {w w' : World} {g B : Nat} {room : Int} {T : List Seat} (h : Tab w g room T) (hb : Below B w w') (hB : g < B) : Tab w' g room T := ⟨h.row.below hb hB, h.len⟩
theorem Tab.grown {w w' : World} {g : Nat} {row : Option Nat} {room : Int} {T : List Seat} (h : Tab w g room T) (hb : w.grownBy w' row) (hB : some g ≠ row) : Tab w' g room T := ⟨h.row.grown hb hB, h.len⟩
theorem Tab.alloc {w : World} {g : Nat} {room : Int} {T : List Seat} (h : Tab w g room T) (o : Obj) : Tab (w.alloc o) g room T := ⟨h.row.alloc o, h.len⟩
theorem Tab.room_ {w : World} {g : Nat} {room : Int} {T : List Seat} (h : Tab w g room T) : w.cell? ⟨g, 0, none⟩ = some (.int .i64 room) := h.row.cell 0
theorem Tab.seat {w : World} {g : Nat} {room : Int} {T : List Seat} (h : Tab w g room T) {i : Nat} {s : Seat} (hi : T[i]? = some s) : w.rangeAt g (1 + i * 5) s.cells := fun j v hv => by
  rw [h.row.cell, show 1 + i * 5 + j = (i * 5 + j) + 1 by omega, List.getElem?_cons_succ]
  exact tcells_at hi j v hv
theorem Tab.seats {w : World} {g : Nat} {room : Int} {T : List Seat} (h : Tab w g room T) : (Instr.loadAt 59 (.pointer (some ⟨g, 1, none⟩))).run Try.prog w = .ok (.agg (tcells T).toArray) w :=
  run_loadAt_mid w g 1 59 (tcells T) _ (fun j v hv => by rw [h.row.cell, show 1 + j = j + 1 by omega, List.getElem?_cons_succ]; exact hv) Try.underlying59 rfl (by rw [size59, tcells_len, h.len])
theorem Tab.range {w : World} {g : Nat} {room : Int} {T : List Seat} (h : Tab w g room T) : Hid (w.rangeAt g 1 (tcells T)) := hid_in fun j v hv => by rw [h.row.cell, show 1 + j = j + 1 by omega, List.getElem?_cons_succ]; exact hv
theorem Tab.fits {w : World} {g : Nat} {room : Int} {T : List Seat} (h : Tab w g room T) : Hid ((Try.prog.info? 59).map (·.size) = some (tcells T).length) := hid_in (by rw [size59, tcells_len, h.len])
theorem Tab.cs {w : World} {g : Nat} {room : Int} {T : List Seat} (h : Tab w g room T) {i : Nat} {s : Seat} (hi : T[i]? = some s) : w.cell? ⟨g, 1 + i * 5, none⟩ = some (.int .i64 s.client) ∧ w.cell? ⟨g, 1 + i * 5 + 1, none⟩ = some (.int .i64 s.number) ∧ w.cell? ⟨g, 1 + i * 5 + 2, none⟩ = some (.int .i64 s.at_) ∧ w.cell? ⟨g, 1 + i * 5 + 3, none⟩ = some (.bool s.kept) ∧ w.cell? ⟨g, 1 + i * 5 + 4, none⟩ = some (.string s.reply) :=
  ⟨h.seat hi 0 _ rfl, h.seat hi 1 _ rfl, h.seat hi 2 _ rfl, h.seat hi 3 _ rfl, h.seat hi 4 _ rfl⟩
theorem Tab.set {w w' : World} {g : Nat} {room : Int} {T : List Seat} (h : Tab w g room T) {i : Nat} (s : Seat) (hi : i < 8) (hr : Row w' g (splice (.int .i64 room :: tcells T) (1 + i * 5) s.cells) 61) : Tab w' g room (T.set i s) := by
  refine ⟨?_, by rw [List.length_set]; exact h.len⟩
  rw [← tcells_set T i s (by rw [h.len]; exact hi)]
  have e : splice (.int .i64 room :: tcells T) (1 + i * 5) s.cells = .int .i64 room :: splice (tcells T) (i * 5) s.cells := by
    unfold splice
    rw [show 1 + i * 5 = i * 5 + 1 by omega, List.take_succ_cons, show i * 5 + 1 + s.cells.length = (i * 5 + s.cells.length) + 1 by omega, List.drop_succ_cons]
    rfl
  rw [← e]
  exact hr
theorem index59 {T : List Seat} (hl : T.length = 8) {i : Nat} {s : Seat} (hi : T[i]? = some s) (W : World) : (Instr.index 59 (.agg (tcells T).toArray) (.int .i64 (i : Int))).run Try.prog W = .ok (.agg s.cells.toArray) W := by
  have hlt : i < 8 := by rw [← hl]; exact (List.getElem?_eq_some_iff.1 hi).1
  have hc : ∀ j, j < 5 → (tcells T)[i * 5 + j]? = s.cells[j]? := fun j hj => by
    rw [List.getElem?_eq_getElem (l := s.cells) (by rw [Seat.cells_len]; exact hj)]
    exact tcells_at hi j _ (List.getElem?_eq_getElem _)
  have hagg : (isAgg 48).run Try.prog W = .ok true W := by
    unfold isAgg
    rw [Sem.run_bind, run_underlying Try.underlying48 W]
    rfl
  have hsz : (sizeOf 48).run Try.prog W = .ok 5 W := by
    obtain ⟨x, hx⟩ : ∃ x, Try.prog.info? 48 = some x := by
      have h := size48
      cases hq : Try.prog.info? 48 with
      | none => rw [hq] at h; cases h
      | some x => exact ⟨x, rfl⟩
    have h5 : x.size = 5 := by have h := size48; rw [hx] at h; simpa using h
    simp [sizeOf, typeInfo, hx, h5, Sem.run_bind]
  have hex : (tcells T).toArray.extract (i * 5) (i * 5 + 5) = s.cells.toArray := by
    refine Array.ext' ?_
    refine List.ext_getElem? fun j => ?_
    by_cases hj : j < 5
    · have := hc j hj
      simp [List.getElem?_take_of_lt, List.getElem?_drop, hj]
      exact this
    · rw [List.getElem?_eq_none (by simp; omega), List.getElem?_eq_none (by simp [Seat.cells_len]; omega)]
  have h0 : (0 : Int) ≤ (i : Int) ∧ (i : Int) < (8 : Nat) := by omega
  simp only [Instr.index, asIntOf, Sem.run_bind, Sem.run_pure, Result.andThen_ok, run_underlying Try.underlying59, if_pos h0, hsz, part, hagg, if_true, Int.toNat_natCast, hex]
end Go.Proofs.Ytiijlnlkhpneaaa.Se
namespace Go.Proofs.Ytiijlnlkhpneaaa.Nd
open Go.RowKit
/-- how long the texts of a node are -/
def Nd.short (n : Nd) : Prop := n.data.size ≤ 9223372036854775807 ∧ ∀ x ∈ n.items, x.name.size ≤ 9223372036854775807
theorem Says.mono {e : Ending} {P Q : Prop} (h : Says e P) (hpq : P ↔ Q) : Says e Q := by
  obtain ⟨R, h1, h2⟩ := h
  exact ⟨R, h1, h2.trans hpq⟩
end Go.Proofs.Ytiijlnlkhpneaaa.Nd
namespace Go.Proofs.Ytiijlnlkhpneaaa.Nd
open Go.RowKit
theorem InIs.lt {B : Nat} {w : World} {g e : Nat} {bs : List Nat} (h : InIs B w g bs e) : ∀ x ∈ bs, x < 256 := by
  obtain ⟨_, _, _, _, _, hsl, _⟩ := h.ex
  exact hsl.lt
theorem InIs.blk {B : Nat} {w : World} {g e : Nat} {bs : List Nat} (h : InIs B w g bs e) : g < w.heap.size := by
  obtain ⟨_, _, _, _, hr, _⟩ := h.ex
  exact hr.lt
/-- the In at block g is in state s -/
def In (B : Nat) (w : World) (g : Nat) (s : Sta) : Prop := InIs B w g s.1 s.2
theorem grew_of_grownS {w w' : World} {g : Nat} (h : w.grownBy w' (some g)) : Grew w w' (· = g) := (Grew.of_grown h).mono (fun q hq => by simpa using hq)
theorem num_s (w : World) (g B : Nat) (s : Sta) (hi : In B w g s) : Calls Try.prog 54 #[.pointer (some ⟨g, 0, none⟩)] w fun r w' => r = .returned (.int .u64 ((sNum s).1 : Int)) ∧ In B w' g (sNum s).2 ∧ Grew w w' (· = g) := by
  obtain ⟨bs, e⟩ := s
  unfold sNum
  split
  · rename_i h
    obtain rfl : e = 0 := h
    refine (inum_any w g bs hi.lt hi).mono ?_
    rintro r w' ⟨rfl, h1, h2, _⟩
    exact ⟨rfl, h1, grew_of_grownS h2⟩
  · rename_i h
    refine (inum_bad w g e bs h hi).mono ?_
    rintro r w' ⟨rfl, rfl⟩
    exact ⟨rfl, hi, Grew.refl _ _⟩
theorem text_s (w : World) (g B : Nat) (s : Sta) (m : Nat) (hm : m ≤ 9223372036854775807) (hi : In B w g s) : Calls Try.prog 57 #[.pointer (some ⟨g, 0, none⟩), .int .i64 (m : Int)] w fun r w' => r = .returned (.string (str (sText m s).1)) ∧ In B w' g (sText m s).2 ∧ Grew w w' (· = g) := by
  obtain ⟨bs, e⟩ := s
  unfold sText
  split
  · rename_i h
    obtain rfl : e = 0 := h
    refine (itext_any w g bs m (by omega) (by omega) hi.lt hi).mono ?_
    rintro r w' ⟨rfl, h1, h2, _⟩
    exact ⟨rfl, h1, grew_of_grownS h2⟩
  · rename_i h
    refine (itext_bad w g e bs m (by omega) (by omega) h hi).mono ?_
    rintro r w' ⟨rfl, rfl⟩
    exact ⟨rfl, hi, Grew.refl _ _⟩
end Go.Proofs.Ytiijlnlkhpneaaa.Nd
namespace Go.Proofs.Ytiijlnlkhpneaaa.Nd
open Go.RowKit
def okS (s : Sta) : Prop := ∀ x ∈ s.1, x < 256
theorem okS_drop {s t : Sta} (h : okS s) (n : Nat) (ht : t.1 = s.1.drop n) : okS t := fun x hx => h x (List.mem_of_mem_drop (by rw [← ht]; exact hx))
theorem okS_nil {t : Sta} (ht : t.1 = []) : okS t := fun x hx => by rw [ht] at hx; cases hx
theorem sNum_ok {s : Sta} (h : okS s) : okS (sNum s).2 := by
  unfold sNum
  split
  · obtain ⟨n, h1, _⟩ := rnumF_sub 10 0 0 s.1
    exact okS_drop h n h1
  · exact h
theorem sText_ok {s : Sta} (m : Nat) (h : okS s) : okS (sText m s).2 := by
  unfold sText Wire.rtext
  obtain ⟨n, h1, _⟩ := rnumF_sub 10 0 0 s.1
  split
  · split
    · exact okS_drop h n h1
    · split
      · exact okS_nil rfl
      · split
        · exact okS_nil rfl
        · exact okS_drop h (n + (Wire.rnum s.1).1) (by show List.drop _ (Wire.rnum s.1).2.1 = _; rw [show (Wire.rnum s.1).2.1 = List.drop n s.1 from h1, List.drop_drop])
  · exact h
theorem In.ok {B : Nat} {w : World} {g : Nat} {s : Sta} (h : In B w g s) : okS s := InIs.lt h
/-- the slices of a node lie in blocks from lo on -/
def Fresh (lo : Nat) (v : Value) : Prop := ∀ k d s vp vi, v = .agg #[.int .i64 k, .string d, .int .i64 s, vp, vi] → (∀ q, Value.ownBlock vp = some q → lo ≤ q) ∧ ∀ q, Value.ownBlock vi = some q → lo ≤ q
theorem Fresh.mono {lo lo' : Nat} {v : Value} (h : Fresh lo v) (hl : lo' ≤ lo) : Fresh lo' v := fun k d s vp vi e => ⟨fun q hq => Nat.le_trans hl ((h k d s vp vi e).1 q hq), fun q hq => Nat.le_trans hl ((h k d s vp vi e).2 q hq)⟩
theorem IsN.grown {w w' : World} {v : Value} {n : Nd} {lo z : Nat} (h : IsN w v n) (hg : w.grownBy w' (some z)) (hf : Fresh lo v) (hz : z < lo) : IsN w' v n := by
  obtain ⟨vp, vi, e, hp, hi⟩ := h.ex
  obtain ⟨f1, f2⟩ := hf _ _ _ _ _ e
  exact ⟨⟨vp, vi, e, hp.grown hg (fun q hq => by have := f1 q hq; omega), hi.grown hg (fun q hq => by have := f2 q hq; omega)⟩, h.ok⟩
theorem In.grown {B : Nat} {w w' : World} {g k : Nat} {s : Sta} (h : In B w g s) (hg : w.grownBy w' (some k)) (hk : B ≤ k) (hgk : g ≠ k) : In B w' g s := ((InIs.toB h).grown hg hk hgk).is
end Go.Proofs.Ytiijlnlkhpneaaa.Nd
namespace Go.Proofs.Ytiijlnlkhpneaaa.Nd
open Go.RowKit
theorem IsN.form {w : World} {v : Value} {n : Nd} (h : IsN w v n) : ∃ pp cp pi ci, v = .agg #[.int .i64 n.kind, .string n.data, .int .i64 n.size, .slice pp n.parts.length cp, .slice pi n.items.length ci] := by
  obtain ⟨vp, vi, rfl, hp, hi⟩ := h.ex
  obtain ⟨pp, cp, _, _, rfl, _⟩ := hp.ex
  obtain ⟨pi, ci, _, _, rfl, _⟩ := hi.ex
  exact ⟨pp, cp, pi, ci, by simp⟩
theorem sText_len (m : Nat) (s : Sta) : (sText m s).1.length ≤ m := by
  unfold sText Wire.rtext
  split
  · split
    · simp
    · split
      · simp
      · split
        · simp
        · rename_i h1 h2
          simp only [List.length_take]
          omega
  · simp
theorem str_size (l : List Nat) : (str l).size = l.length := by
  show (str l).data.size = l.length
  simp [str]
end Go.Proofs.Ytiijlnlkhpneaaa.Nd
namespace Go.Proofs.Ytiijlnlkhpneaaa.Nd
open Go.RowKit
theorem Els.own {w : World} {v : Value} {k : Nat} {xs : List (List Value)} (h : Els w v k xs) (hne : xs ≠ []) : ∀ q, v.ownBlock = some q → q < w.heap.size := by
  obtain ⟨p, cap, b, o, rfl, _, _, h3, _⟩ := h.ex
  obtain ⟨rfl, hb⟩ := h3 hne
  intro q hq
  cases hq
  exact hb
/-- the Out at block g has made the bytes xs, in blocks from B on -/
def OutB (w : World) (B g : Nat) (xs : List Nat) : Prop := ∃ v, OutIs w B g v xs
theorem OutB.below {w w' : World} {B g : Nat} {xs : List Nat} (h : OutB w B g xs) (hb : Below w.heap.size w w') : OutB w' B g xs := by
  obtain ⟨v, hv⟩ := h
  exact ⟨v, hv.below hb⟩
theorem OutB.base {w : World} {B g : Nat} {xs : List Nat} (h : OutB w B g xs) : B ≤ w.heap.size := by
  obtain ⟨v, hv⟩ := h
  exact hv.base
theorem out_below {w w' : World} {B g : Nat} {v : Value} {xs : List Nat} (hg : B ≤ g) (ho : OutIs w B g v xs) (h : Grew w w' (OutS g v)) : Below B w w' :=
  h.below (Below.refl _ _) ho.base (outS_ge ho hg)
/-- the same, apart from block I -/
def OutA (w : World) (B g : Nat) (xs : List Nat) (I : Nat) : Prop := ∃ v, OutIs w B g v xs ∧ v.ownBlock ≠ some I
theorem OutA.toB {w : World} {B g I : Nat} {xs : List Nat} (h : OutA w B g xs I) : OutB w B g xs := by
  obtain ⟨v, hv, _⟩ := h
  exact ⟨v, hv⟩
theorem OutA.below {w w' : World} {B g I : Nat} {xs : List Nat} (h : OutA w B g xs I) (hb : Below w.heap.size w w') : OutA w' B g xs I := by
  obtain ⟨v, hv, hn⟩ := h
  exact ⟨v, hv.below hb, hn⟩
theorem OutB.blk {w : World} {B g : Nat} {xs : List Nat} (h : OutB w B g xs) : g < w.heap.size := by
  obtain ⟨v, hv⟩ := h
  exact hv.row.lt
end Go.Proofs.Ytiijlnlkhpneaaa.Nd
namespace Go.Proofs.Ytiijlnlkhpneaaa.Nd
open Go.RowKit
theorem Els.keep {w w' : World} {v : Value} {k B : Nat} {xs : List (List Value)} (h : Els w v k xs) (hb : Below B w w') (hB : w.heap.size ≤ B) : Els w' v k xs := h.below (hb.mono hB)
end Go.Proofs.Ytiijlnlkhpneaaa.Nd
