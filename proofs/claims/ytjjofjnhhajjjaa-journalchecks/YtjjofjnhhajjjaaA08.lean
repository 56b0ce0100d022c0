/-
  The walk of op.Encode. The reference's Decode. What a platter is: two areas of bytes, which of them is live, whether the power is gone, in which change it goes.
-/
import Derived.Laws.StructEq
import Derived.Laws.Tables
import Derived.Laws.CopyOwn
import Derived.OwnWalk
import Derived.Deep.RegionLaw
import Derived.Deep.DrawnRows
import Derived.Deep.CutRange
import Derived.Lib.SlBytesConst
import Derived.Test.YtjjofjnhhajjjaaA00
import Derived.Test.YtjjofjnhhajjjaaA01
import Derived.Test.YtjjofjnhhajjjaaA02
import Derived.Test.YtjjofjnhhajjjaaA03
import Derived.Test.YtjjofjnhhajjjaaA04
import Derived.Test.YtjjofjnhhajjjaaA05
import Derived.Test.YtjjofjnhhajjjaaA06
namespace Go.Proofs.Ytjjofjnhhajjjaa.Nd
open Go.RowKit
set_option maxHeartbeats 4000000 in
set_option maxRecDepth 100000 in
theorem encode_ok (o : Opn) (hok : o.ok) (hs : o.short) (w : World) : Calls Try.prog 56 #[o.val] w fun e w' => (∃ u, e = .returned (.tuple #[u, .int .i64 0]) ∧ w'.ownsRow w.heap.size 5 1 u (encO o).length ((encO o).map u8v)) ∧ Below w.heap.size w w' := by
  obtain ⟨k, p, t, d, a, z⟩ := o
  simp only [Opn.val]
  obtain ⟨W0, H0, HR0, HB0, HZ0⟩ := op_row w k a z p t d
  have c1 : W0.cell? ⟨w.heap.size, 1, none⟩ = some (.string p) := HR0.out.cell 1
  have c2 : W0.cell? ⟨w.heap.size, 2, none⟩ = some (.string t) := HR0.out.cell 2
  have c3 : W0.cell? ⟨w.heap.size, 3, none⟩ = some (.string d) := HR0.out.cell 3
  have HAF := hid_in (areFields_any _ _ _ (strs3 W0 p t d) (by have h1 := hok.path; have h2 := hok.dest; have h3 := hok.data; simp only at h1 h2 h3; simp [h1, h2, h3]))
  have HYES : Hid (shortS [p, t, d]) := (short3 p t d).2 hs
  have HIk := hid_in hok.kind
  have HIa := hid_in hok.at_
  have HIz := hid_in hok.size
  simp only at HIk HIa HIz
  obtain ⟨z1, z2, z3⟩ := hs
  simp only at z1 z2 z3
  have y1 := num_length (Wire.zz k)
  have y2 := num_length p.size
  have y3 := num_length t.size
  have y4 := num_length d.size
  have y5 := num_length (Wire.zz a)
  have y6 := num_length (Wire.zz z)
  have HL0 : Hid (([] : List Nat).length + 10 ≤ 140737488355328) := by
    show _ ≤ _
    simp only [List.length_nil]
    omega
  have HL1 : Hid ((([] ++ Wire.num (Wire.zz k)) : List Nat).length + 10 + p.size ≤ 140737488355328) := by
    show _ ≤ _
    simp only [List.length_append, List.length_nil]
    omega
  have HL2 : Hid (((([] ++ Wire.num (Wire.zz k)) ++ (Wire.num p.size ++ bytesS p)) : List Nat).length + 10 + t.size ≤ 140737488355328) := by
    show _ ≤ _
    simp only [List.length_append, List.length_nil, bytesS_length]
    omega
  have HL3 : Hid ((((([] ++ Wire.num (Wire.zz k)) ++ (Wire.num p.size ++ bytesS p)) ++ (Wire.num t.size ++ bytesS t)) : List Nat).length + 10 + d.size ≤ 140737488355328) := by
    show _ ≤ _
    simp only [List.length_append, List.length_nil, bytesS_length]
    omega
  have HL4 : Hid (((((([] ++ Wire.num (Wire.zz k)) ++ (Wire.num p.size ++ bytesS p)) ++ (Wire.num t.size ++ bytesS t)) ++ (Wire.num d.size ++ bytesS d)) : List Nat).length + 10 ≤ 140737488355328) := by
    show _ ≤ _
    simp only [List.length_append, List.length_nil, bytesS_length]
    omega
  have HL5 : Hid ((((((([] ++ Wire.num (Wire.zz k)) ++ (Wire.num p.size ++ bytesS p)) ++ (Wire.num t.size ++ bytesS t)) ++ (Wire.num d.size ++ bytesS d)) ++ Wire.num (Wire.zz a)) : List Nat).length + 10 ≤ 140737488355328) := by
    show _ ≤ _
    simp only [List.length_append, List.length_nil, bytesS_length]
    omega
  have HL6 : Hid (((((((([] ++ Wire.num (Wire.zz k)) ++ (Wire.num p.size ++ bytesS p)) ++ (Wire.num t.size ++ bytesS t)) ++ (Wire.num d.size ++ bytesS d)) ++ Wire.num (Wire.zz a)) ++ Wire.num (Wire.zz z)) : List Nat).length ≤ 140737488355328) := by
    show _ ≤ _
    simp only [List.length_append, List.length_nil, bytesS_length]
    omega
  clear hok z1 z2 z3 y1 y2 y3 y4 y5 y6
  go_enter Try.func56, Try.ntmps56
  go_upto_region 1 with fail
  refine wp_world H0.out ?_
  clear H0
  go_upto_region 4 with (first | (go_at_call 74; refine HAF.out.mono ?_; rintro e w1 ⟨hs, hw1⟩; obtain rfl := hs.isYes' HYES.out; have HB1 : Hid (Below w.heap.size w w1) := (by rw [hw1]; exact HB0.out.alloc HB0.out.size _); have HR1 : Hid (Row w1 w.heap.size [.int .i64 k, .string p, .string t, .string d, .int .i64 a, .int .i64 z] 49) := (by rw [hw1]; exact HR0.out.alloc _); clear hs hw1 c1 c2 c3 HAF))
  have HSZ : Hid (w.heap.size < w1.heap.size) := HR1.out.lt
  obtain ⟨W2, HW2⟩ : ∃ W2, Hid (w1.alloc (.cells #[.slice none 0 0] 112) = W2) := ⟨_, rfl⟩
  have HO2 : Hid (OutB W2 w1.heap.size w1.heap.size []) := ⟨.slice none 0 0, by rw [← HW2.out]; exact out_new w1⟩
  have HB2 : Hid (Below w1.heap.size w1 W2) := by show Below _ _ _; rw [← HW2.out]; exact (Below.refl _ _).alloc (Nat.le_refl _) _
  refine wp_world HW2.out ?_
  clear HW2
  generalize w1.heap.size = B at *
  have HBE : Hid (∀ W, Below B w1 W → Row W w.heap.size [.int .i64 k, .string p, .string t, .string d, .int .i64 a, .int .i64 z] 49) := fun W hW => HR1.out.below hW HSZ.out
  have HBF : Hid (∀ W W', Below B w1 W → Below W.heap.size W W' → Below w.heap.size w W') := fun W W' h1 h2 => by
    have h3 : Below w.heap.size w W := HB1.out.trans (h1.mono (Nat.le_of_lt HSZ.out))
    exact h3.trans (h2.mono h3.size)
  have hr2 := HBE.out W2 HB2.out
  have c0_ : W2.cell? ⟨w.heap.size, 0, none⟩ = some (.int .i64 k) := hr2.cell 0
  clear hr2
  go_wp2_with (first | (go_at_call 75; refine (int_o _ B B _ k HIk.out (Nat.le_refl _) HO2.out HL0.out).mono ?_; rintro e w3 ⟨rfl, h1, h2⟩; have HO3 := hid_in h1; have HB3 := hid_in (HB2.out.trans h2); clear h1 h2 c0_ HO2; have hr3 := HBE.out w3 HB3.out; have c1_ : w3.cell? ⟨w.heap.size, 1, none⟩ = some (.string p) := hr3.cell 1; clear hr3) | (go_at_call 76; refine (text_o _ B B _ p (Nat.le_refl _) HO3.out HL1.out).mono ?_; rintro e w4 ⟨rfl, h1, h2⟩; have HO4 := hid_in h1; have HB4 := hid_in (HB3.out.trans h2); clear h1 h2 c1_ HO3; have hr4 := HBE.out w4 HB4.out; have c2_ : w4.cell? ⟨w.heap.size, 2, none⟩ = some (.string t) := hr4.cell 2; clear hr4) | (go_at_call 76; refine (text_o _ B B _ t (Nat.le_refl _) HO4.out HL2.out).mono ?_; rintro e w5 ⟨rfl, h1, h2⟩; have HO5 := hid_in h1; have HB5 := hid_in (HB4.out.trans h2); clear h1 h2 c2_ HO4; have hr5 := HBE.out w5 HB5.out; have c3_ : w5.cell? ⟨w.heap.size, 3, none⟩ = some (.string d) := hr5.cell 3; clear hr5) | (go_at_call 76; refine (text_o _ B B _ d (Nat.le_refl _) HO5.out HL3.out).mono ?_; rintro e w6 ⟨rfl, h1, h2⟩; have HO6 := hid_in h1; have HB6 := hid_in (HB5.out.trans h2); clear h1 h2 c3_ HO5; have hr6 := HBE.out w6 HB6.out; have c4_ : w6.cell? ⟨w.heap.size, 4, none⟩ = some (.int .i64 a) := hr6.cell 4; clear hr6) | (go_at_call 75; refine (int_o _ B B _ a HIa.out (Nat.le_refl _) HO6.out HL4.out).mono ?_; rintro e w7 ⟨rfl, h1, h2⟩; have HO7 := hid_in h1; have HB7 := hid_in (HB6.out.trans h2); clear h1 h2 c4_ HO6; have hr7 := HBE.out w7 HB7.out; have c5_ : w7.cell? ⟨w.heap.size, 5, none⟩ = some (.int .i64 z) := hr7.cell 5; clear hr7) | (go_at_call 75; refine (int_o _ B B _ z HIz.out (Nat.le_refl _) HO7.out HL5.out).mono ?_; rintro e w8 ⟨rfl, h1, h2⟩; have HO8 := hid_in h1; have HB8 := hid_in (HB7.out.trans h2); clear h1 h2 c5_ HO7) | (go_at_call 77; obtain ⟨v9, hv9⟩ := HO8.out; refine (obytes_any w8 B B v9 _ hv9 HL6.out).mono ?_; rintro e w9 ⟨u9, rfl, h1, h2⟩; have HW9 := hid_in h1; have HB9 := hid_in h2; have HE9 := hid_in HB8.out; clear h1 h2 hv9 HO8))
  go_ret2
  refine ⟨⟨_, rfl, ?_⟩, HBF.out _ _ HE9.out HB9.out⟩
  exact own_mono HW9.out (Nat.le_trans HB1.out.size HE9.out.size)
end Go.Proofs.Ytjjofjnhhajjjaa.Nd
namespace Go.Proofs.Ytjjofjnhhajjjaa.Nd
open Go.RowKit
/-- what the reference's Decode answers -/
def RDPost (bs : List Nat) (w : World) (e : Ending) (w' : World) : Prop := (∃ v k, e = .returned (.tuple #[v, .bool k]) ∧ ((k = true ∧ ∃ n, Means bs n ∧ IsN w' v n) ∨ (k = false ∧ (∀ n, ¬ Means bs n) ∧ IsN w' v zeroN))) ∧ Below w.heap.size w w'
theorem RDPost.no {bs : List Nat} {w : World} {e : Ending} {w' : World} (v : Value) (he : e = .returned (.tuple #[v, .bool false])) (h : ∀ n, ¬ Means bs n) (hz : IsN w' v zeroN) (hb : Below w.heap.size w w') : RDPost bs w e w' := ⟨⟨v, false, he, .inr ⟨rfl, h, hz⟩⟩, hb⟩
theorem RDPost.yes {bs : List Nat} {w : World} {e : Ending} {w' : World} (v : Value) (n : Nd) (he : e = .returned (.tuple #[v, .bool true])) (h : Means bs n) (hz : IsN w' v n) (hb : Below w.heap.size w w') : RDPost bs w e w' := ⟨⟨v, true, he, .inl ⟨rfl, n, h, hz⟩⟩, hb⟩
end Go.Proofs.Ytjjofjnhhajjjaa.Nd
namespace Go.Proofs.Ytjjofjnhhajjjaa.Pt
open Go.RowKit
open Nd (Row wp_world post_Row grownBy_setCell below_of_grown grownBy_trans grown_of_below grownBy_refl u8v Grew Moved Sl hid_in i5h)
/-- an area: its bytes, and how many of them last -/
structure Ar where
  bs : List Nat
  sy : Nat
structure Dk where
  a0 : Ar
  a1 : Ar
  live : Bool
  down : Bool
  left : Nat
def Ar.ok (x : Ar) : Prop := x.sy ≤ x.bs.length ∧ (∀ b ∈ x.bs, b < 256) ∧ x.bs.length ≤ 140737488355328
structure Dk.ok (d : Dk) : Prop where
  o0 : d.a0.ok
  o1 : d.a1.ok
  left : d.left ≤ 9223372036854775807
def liv (b : Bool) : Int := if b then 1 else 0
def newD : Dk := ⟨⟨[], 0⟩, ⟨[], 0⟩, false, false, 0⟩
theorem newD_ok : newD.ok := ⟨⟨by decide, by simp [newD], by simp [newD]⟩, ⟨by decide, by simp [newD], by simp [newD]⟩, by decide⟩
/-- the cells of a platter -/
def pcells (v0 v1 : Value) (d : Dk) : List Value := [v0, .int .i64 (d.a0.sy : Int), v1, .int .i64 (d.a1.sy : Int), .int .i64 (liv d.live), .bool d.down, .int .i64 (d.left : Int)]
/-- block g is a platter that has d; its bytes are v0 and v1, in blocks of their own from B on -/
structure PtV (w : World) (B g : Nat) (v0 v1 : Value) (d : Dk) : Prop where
  row : Row w g (pcells v0 v1 d) 60
  w0 : w.ownsRow B 5 1 v0 d.a0.bs.length (d.a0.bs.map u8v)
  w1 : w.ownsRow B 5 1 v1 d.a1.bs.length (d.a1.bs.map u8v)
  n0 : v0.ownBlock ≠ some g
  n1 : v1.ownBlock ≠ some g
  ap : ∀ q, v0.ownBlock = some q → v1.ownBlock ≠ some q
  base : B ≤ g
  ok : d.ok
/-- the blocks of a platter -/
def FS (g : Nat) (v0 v1 : Value) : Nat → Prop := fun k => k = g ∨ some k = v0.ownBlock ∨ some k = v1.ownBlock
def Sub (w : World) (S T : Nat → Prop) : Prop := ∀ k, T k → S k ∨ w.heap.size ≤ k
theorem PtV.lt {w : World} {B g : Nat} {v0 v1 : Value} {d : Dk} (h : PtV w B g v0 v1 d) : g < w.heap.size := h.row.lt
theorem own_keepG {w w' : World} {B n : Nat} {v : Value} {xs : List Value} {S : Nat → Prop} (h : w.ownsRow B 5 1 v n xs) (hg : Grew w w' S) (hn : ∀ q, v.ownBlock = some q → ¬ S q) : w'.ownsRow B 5 1 v n xs := by
  refine ⟨h.1, ?_⟩
  rcases h.2 with h2 | ⟨g, cap, cur, rfl, hB, hh, r⟩
  · exact .inl h2
  · refine .inr ⟨g, cap, cur, rfl, hB, ?_, r⟩
    rw [hg.block g (Array.getElem?_eq_some_iff.1 hh).1 (hn g rfl)]
    exact hh
theorem PtV.keep {w w' : World} {B g : Nat} {v0 v1 : Value} {d : Dk} {S : Nat → Prop} (h : PtV w B g v0 v1 d) (hg : Grew w w' S) (hn : ∀ k, FS g v0 v1 k → ¬ S k) : PtV w' B g v0 v1 d :=
  ⟨h.row.grew hg (hn g (.inl rfl)), own_keepG h.w0 hg (fun q hq => hn q (.inr (.inl hq.symm))), own_keepG h.w1 hg (fun q hq => hn q (.inr (.inr hq.symm))), h.n0, h.n1, h.ap, h.base, h.ok⟩
theorem PtV.below {w w' : World} {B g : Nat} {v0 v1 : Value} {d : Dk} (h : PtV w B g v0 v1 d) (hb : Below w.heap.size w w') : PtV w' B g v0 v1 d :=
  h.keep (Grew.of_below (fun _ => False) hb) (fun _ _ h => h)
theorem PtV.fs_lt {w : World} {B g : Nat} {v0 v1 : Value} {d : Dk} (h : PtV w B g v0 v1 d) : ∀ k, FS g v0 v1 k → B ≤ k ∧ k < w.heap.size := by
  rintro k (rfl | h1 | h1)
  · exact ⟨h.base, h.lt⟩
  · exact h.w0.lt k h1.symm
  · exact h.w1.lt k h1.symm
theorem own_type {w : World} {B n k : Nat} {v : Value} {xs : List Value} (h : w.ownsRow B 5 1 v n xs) (hk : v.ownBlock = some k) : ∃ cur, w.heap[k]? = some (.cells cur 5 (0, 0)) := by
  rcases h.2 with ⟨rfl, _⟩ | ⟨g, cap, cur, rfl, hB, hh, r⟩
  · cases hk
  · have e : g = k := by simpa [Value.ownBlock] using hk
    subst e
    exact ⟨cur, hh⟩
/-- a row of another type is no block of the platter -/
theorem PtV.typed {w : World} {B g b : Nat} {v0 v1 : Value} {d : Dk} {vs : List Value} {t : TypeId} (h : PtV w B g v0 v1 d) (hr : Row w b vs t) (h5 : t ≠ 5) (h58 : t ≠ 60) : ¬ FS g v0 v1 b := by
  rintro (rfl | h1 | h1)
  · have h2 := h.row
    unfold Row at h2 hr
    rw [hr] at h2
    injection h2 with h2
    injection h2 with _ h2
    exact h58 h2
  · obtain ⟨cur, h2⟩ := own_type h.w0 h1.symm
    unfold Row at hr
    rw [hr] at h2
    injection h2 with h2
    injection h2 with _ h2
    exact h5 h2
  · obtain ⟨cur, h2⟩ := own_type h.w1 h1.symm
    unfold Row at hr
    rw [hr] at h2
    injection h2 with h2
    injection h2 with _ h2
    exact h5 h2
/-- what a call leaves of a platter: it has d', and nothing but its own blocks was turned -/
def Stp (w w' : World) (B g : Nat) (v0 v1 : Value) (d' : Dk) : Prop := ∃ u0 u1, PtV w' B g u0 u1 d' ∧ Grew w w' (FS g v0 v1) ∧ Sub w (FS g v0 v1) (FS g u0 u1)
theorem Stp.refl {w : World} {B g : Nat} {v0 v1 : Value} {d : Dk} (h : PtV w B g v0 v1 d) : Stp w w B g v0 v1 d := ⟨v0, v1, h, Grew.refl _ _, fun _ h => .inl h⟩
theorem Stp.of_below {w w' : World} {B g : Nat} {v0 v1 : Value} {d : Dk} (h : PtV w B g v0 v1 d) (hb : Below w.heap.size w w') : Stp w w' B g v0 v1 d := ⟨v0, v1, h.below hb, Grew.of_below _ hb, fun _ h => .inl h⟩
theorem Stp.trans {a b c : World} {B g : Nat} {v0 v1 u0 u1 : Value} {d e : Dk} (_hp : PtV b B g u0 u1 d) (hg : Grew a b (FS g v0 v1)) (hs : Sub a (FS g v0 v1) (FS g u0 u1)) (k : Stp b c B g u0 u1 e) : Stp a c B g v0 v1 e := by
  obtain ⟨x0, x1, h1, h2, h3⟩ := k
  refine ⟨x0, x1, h1, hg.trans h2 (fun q hq hT => ?_), fun q hq => ?_⟩
  · rcases hs q hT with h | h
    · exact h
    · omega
  · rcases h3 q hq with h | h
    · exact hs q h
    · exact .inr (Nat.le_trans hg.size h)
theorem Stp.then {a b c : World} {B g : Nat} {v0 v1 : Value} {d e : Dk} (h : Stp a b B g v0 v1 d) (k : ∀ u0 u1, PtV b B g u0 u1 d → Stp b c B g u0 u1 e) : Stp a c B g v0 v1 e := by
  obtain ⟨u0, u1, h1, h2, h3⟩ := h
  exact Stp.trans h1 h2 h3 (k u0 u1 h1)
theorem Stp.pt {a b : World} {B g : Nat} {v0 v1 : Value} {d : Dk} (h : Stp a b B g v0 v1 d) : ∃ u0 u1, PtV b B g u0 u1 d := by
  obtain ⟨u0, u1, h1, _⟩ := h
  exact ⟨u0, u1, h1⟩
theorem Stp.size {a b : World} {B g : Nat} {v0 v1 : Value} {d : Dk} (h : Stp a b B g v0 v1 d) : a.heap.size ≤ b.heap.size := by
  obtain ⟨u0, u1, _, h2, _⟩ := h
  exact h2.size
theorem Stp.row {w w' : World} {B g b : Nat} {v0 v1 : Value} {d d' : Dk} {vs : List Value} {t : TypeId} (hp : PtV w B g v0 v1 d) (h : Stp w w' B g v0 v1 d') (hr : Row w b vs t) (h5 : t ≠ 5) (h58 : t ≠ 60) : Row w' b vs t := by
  obtain ⟨u0, u1, _, h2, _⟩ := h
  exact hr.grew h2 (hp.typed hr h5 h58)
/-- the same call, one world ahead (only new memory came) -/
theorem Stp.ahead {a b c : World} {B g : Nat} {v0 v1 : Value} {d : Dk} (hb : Below a.heap.size a b) (h : Stp b c B g v0 v1 d) : Stp a c B g v0 v1 d := by
  obtain ⟨u0, u1, h1, h2, h3⟩ := h
  refine ⟨u0, u1, h1, (Grew.of_below (FS g v0 v1) hb).trans h2 (fun q _ hq => hq), fun k hk => ?_⟩
  rcases h3 k hk with h | h
  · exact .inl h
  · exact .inr (Nat.le_trans hb.size h)
theorem Stp.behind {a b c : World} {B g : Nat} {v0 v1 : Value} {d : Dk} (h : Stp a b B g v0 v1 d) (hb : Below b.heap.size b c) : Stp a c B g v0 v1 d :=
  h.then (fun _ _ hp => Stp.of_below hp hb)
/-- where a row of bytes lies -/
theorem own_some {w : World} {B n : Nat} {v : Value} {xs : List Value} (h : w.ownsRow B 5 1 v n xs) : ∃ p c, v = .slice p n c ∧ (p = none → n = 0 ∧ c = 0) ∧ n ≤ c := by
  rcases h.2 with ⟨rfl, rfl⟩ | ⟨g, cap, cur, rfl, hB, hh, hn, r⟩
  · exact ⟨none, 0, rfl, fun _ => ⟨rfl, rfl⟩, Nat.le_refl _⟩
  · exact ⟨_, cap, rfl, (fun h => by cases h), hn⟩
/-- append of bytes to a row of one's own -/
theorem wp_app34 {o : Oper} {a : Act} {K : Act → World → Prop} {Q : Exit → Act → World → Prop} (w : World) (s x : Operand)
    (ho : o.op = .call { callee := .builtin .append, args := #[s, x], argTypes := #[54, 54] })
    (B : Nat) (v : Value) (n : Nat) (xs : List Value) (hs : a.eval s = v) (hown : w.ownsRow B 5 1 v n xs)
    (p : Option Addr) (m c : Nat) (news : List Value) (hx : a.eval x = .slice p m c) (hl : news.length = m) (hno : p = none → m = 0 ∧ c = 0) (hnews : ∀ ad, p = some ad → ∀ j u, news[j]? = some u → w.cell? (ad.add j) = some u) (h1 : ∀ u ∈ news, u.oneCell' = true)
    (hbytes : n + m ≤ 140737488355328) (hbase : B ≤ w.heap.size)
    (h : ∀ v' w', w'.ownsRow B 5 1 v' (n + m) (xs ++ news) → w.grownBy w' v.ownBlock → Moved w v v' → K (a.put o.dst v') w') : o.wp Try.prog a w K Q := by
  obtain ⟨i5i, HI5, HE1, HE2, HE3⟩ := i5h
  rcases p with _ | ad
  · obtain ⟨rfl, rfl⟩ := hno rfl
    obtain rfl : news = [] := List.eq_nil_of_length_eq_zero hl
    have hrun := run_append_owned_none (P := Try.prog) (w := w) B 54 o.type 5 i5i 1 Try.underlying54 HI5.out v n xs hown
    unfold Oper.wp
    simp [execOp, ho, resolve, invoke, builtin, hs, hx, hrun, Result.andThen]
    exact h v w (by simpa using hown) (grownBy_refl w _) (Moved.refl _ _)
  · obtain ⟨v', w', hr, h2, h3, h4, h5⟩ := run_append_own_at (P := Try.prog) w B 54 o.type 5 i5i (.int .u8 0) 1 1 Try.underlying54 HI5.out HE3.out HE1.out HE2.out rfl (by decide) v n xs hown ad m c news (by omega) (hnews ad rfl) h1 (by unfold maxLen; omega) (by omega) hbase
    unfold Oper.wp execOp
    simp only [ho, resolve, invoke, builtin, Sem.run_bind, Sem.run_pure, Result.andThen_ok, List.map_toArray, List.map_cons, List.map_nil, hs, hx, hr]
    refine h v' w' h2 h3 ?_
    rcases h5 with h5 | h5
    · exact .inl h5
    · exact .inr ⟨_, h5, Nat.le_refl _⟩
end Go.Proofs.Ytjjofjnhhajjjaa.Pt
