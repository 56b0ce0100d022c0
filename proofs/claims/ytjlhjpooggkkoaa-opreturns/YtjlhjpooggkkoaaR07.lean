/-
  Results; the walk of op.Pack. A result that comes in. The walk of op.Check.
-/
import Derived.Laws.CopyOwn
import Derived.Deep.CutRange
import Derived.Test.YtjlhjpooggkkoaaRows
import Derived.OwnWalk
import Derived.Deep.RegionLaw
import Derived.Deep.DrawnRows
import Derived.Laws.Tables
import Derived.Deep.RegionHeld3
import Derived.Test.YtjlhjpooggkkoaaR00
import Derived.Test.YtjlhjpooggkkoaaR01
import Derived.Test.YtjlhjpooggkkoaaR02
import Derived.Test.YtjlhjpooggkkoaaR03
import Derived.Test.YtjlhjpooggkkoaaR04
import Derived.Test.YtjlhjpooggkkoaaR05
import Derived.Test.YtjlhjpooggkkoaaR06
namespace Go.Proofs.Ytjlhjpooggkkoaa.Nd
open Go.RowKit
/-- a result -/
structure Res where
  code : Int
  dir : Bool
  size : Int
  data : ByteArray
  names : List ByteArray
def Res.cells (r : Res) (vn : Value) : List Value := [.int .i64 r.code, .bool r.dir, .int .i64 r.size, .string r.data, vn]
def Res.val (r : Res) (vn : Value) : Value := .agg #[.int .i64 r.code, .bool r.dir, .int .i64 r.size, .string r.data, vn]
structure Res.ok (r : Res) : Prop where
  code : i64r r.code
  size : i64r r.size
  data : r.data.size ≤ 9223372036854775807
  names : ∀ s ∈ r.names, s.size ≤ 9223372036854775807
def Res.short (r : Res) : Prop := r.data.size ≤ 1100 ∧ shortS r.names
theorem res_row (w : World) (k z : Int) (f : Bool) (d : ByteArray) (vn : Value) : ∃ w2, Hid (w.alloc (.cells #[.int .i64 k, .bool f, .int .i64 z, .string d, vn] 42) = w2) ∧ Hid (Row w2 w.heap.size [.int .i64 k, .bool f, .int .i64 z, .string d, vn] 42) ∧ Hid (Below w.heap.size w w2) ∧ Hid (w2.heap.size = w.heap.size + 1) :=
  ⟨_, rfl, Row.new w [.int .i64 k, .bool f, .int .i64 z, .string d, vn] 42, (Below.refl _ _).alloc (Nat.le_refl _) _, by show _ = _; simp⟩
theorem strs1 (w : World) (d : ByteArray) : Strs (w.alloc (.cells #[.string d] 9)) (.slice (some ⟨w.heap.size, 0, none⟩) 1 1) [d] := by
  have hr := Row.new w [.string d] 9
  refine ⟨_, 1, w.heap.size, 0, rfl, by simp, by omega, fun _ => ⟨rfl, by simp⟩, fun i s hi => ?_⟩
  have hi3 : i < 1 := by have := (List.getElem?_eq_some_iff.1 hi).1; simpa using this
  rw [Nat.zero_add, hr.cell]
  obtain rfl : i = 0 := by omega
  simp at hi ⊢
  exact hi
theorem short1 (d : ByteArray) : shortS [d] ↔ d.size ≤ 1100 := by simp [shortS]
def textB (s : ByteArray) : List Nat := Wire.num s.size ++ bytesS s
/-- the bytes of a result -/
def preR (r : Res) : List Nat := Wire.num (Wire.zz r.code) ++ [if r.dir then 1 else 0] ++ Wire.num (Wire.zz r.size) ++ (Wire.num r.data.size ++ bytesS r.data) ++ Wire.num r.names.length
def encR (r : Res) : List Nat := preR r ++ r.names.flatMap textB
theorem textB_len (s : ByteArray) (h : s.size ≤ 1100) : (textB s).length ≤ 1110 := by
  have := num_length s.size
  unfold textB
  rw [List.length_append, bytesS_length]
  omega
theorem flat_le (ns : List ByteArray) (h : shortS ns) : (ns.flatMap textB).length ≤ 1110 * ns.length := by
  induction ns with
  | nil => simp
  | cons s r ih =>
    have h1 := ih (fun x hx => h x (by simp [hx]))
    have h2 := textB_len s (h s (by simp))
    rw [List.flatMap_cons, List.length_append, List.length_cons]
    omega
theorem preR_len (r : Res) (hd : r.data.size ≤ 1100) : (preR r).length ≤ 2000 := by
  have y1 := num_length (Wire.zz r.code)
  have y2 := num_length (Wire.zz r.size)
  have y3 := num_length r.data.size
  have y4 := num_length r.names.length
  unfold preR
  simp only [List.length_append, bytesS_length, List.length_cons, List.length_nil]
  omega
theorem flat_snocB {ns : List ByteArray} {i : Nat} {s : ByteArray} (h : ns[i]? = some s) : (ns.take (i + 1)).flatMap textB = (ns.take i).flatMap textB ++ (Wire.num s.size ++ bytesS s) := by
  rw [List.take_add_one, h]
  simp [textB]
set_option maxHeartbeats 2000000 in
set_option maxRecDepth 100000 in
theorem pack_data (r : Res) (vn : Value) (hok : r.ok) (hl : ¬ r.data.size ≤ 1100) (w : World) : Calls Try.prog 20 #[r.val vn] w fun e w' => e = .returned (.tuple #[.slice none 0 0, .int .i64 2]) ∧ Below w.heap.size w w' := by
  obtain ⟨k, f, z, d, ns⟩ := r
  simp only [Res.val] at *
  obtain ⟨W0, H0, HR0, HB0, HZ0⟩ := res_row w k z f d vn
  have c3 : W0.cell? ⟨w.heap.size, 3, none⟩ = some (.string d) := HR0.out.cell 3
  have HAF := hid_in (areFields_any _ _ _ (strs1 W0 d) (by have h1 := hok.data; simp only at h1; simp [h1]))
  have HNO : Hid (¬ shortS [d]) := fun h => hl ((short1 d).1 h)
  clear hok hl
  go_enter Try.func20, Try.ntmps20
  go_upto_region 1 with fail
  refine wp_world H0.out ?_
  clear H0
  go_wp2_with (first | (go_at_call 29; refine HAF.out.mono ?_; rintro e w1 ⟨hs, hw1⟩; obtain rfl := hs.isNo' HNO.out; subst hw1; clear hs))
  go_ret2
  exact ⟨rfl, HB0.out.alloc HB0.out.size _⟩
set_option maxHeartbeats 4000000 in
set_option maxRecDepth 100000 in
theorem pack_names (r : Res) (vn : Value) (hok : r.ok) (hd : r.data.size ≤ 1100) (hl : ¬ shortS r.names) (w : World) (hst : Strs w vn r.names) : Calls Try.prog 20 #[r.val vn] w fun e w' => e = .returned (.tuple #[.slice none 0 0, .int .i64 2]) ∧ Below w.heap.size w w' := by
  obtain ⟨k, f, z, d, ns⟩ := r
  simp only [Res.val] at *
  obtain ⟨W0, H0, HR0, HB0, HZ0⟩ := res_row w k z f d vn
  have c3 : W0.cell? ⟨w.heap.size, 3, none⟩ = some (.string d) := HR0.out.cell 3
  have HAF := hid_in (areFields_any _ _ _ (strs1 W0 d) (by have h1 := hok.data; simp only at h1; simp [h1]))
  have HYES : Hid (shortS [d]) := (short1 d).2 hd
  have HBA : Hid (Below w.heap.size w (W0.alloc (.cells #[.string d] 9))) := HB0.out.alloc HB0.out.size _
  have HAN := hid_in (areFields_any (W0.alloc (.cells #[.string d] 9)) vn ns (hst.below HBA.out) hok.names)
  have hr1 : Row (W0.alloc (.cells #[.string d] 9)) w.heap.size [.int .i64 k, .bool f, .int .i64 z, .string d, vn] 42 := HR0.out.alloc _
  have d4 : (W0.alloc (.cells #[.string d] 9)).cell? ⟨w.heap.size, 4, none⟩ = some vn := hr1.cell 4
  have HR1 := hid_in hr1
  obtain ⟨pn, cn, bn, on_, hvn, hn1, hn2, hn3, hn4⟩ := hst
  have HN3 := hid_in hn3
  have HN4 := hid_in hn4
  subst hvn
  have HNO := hid_in hl
  clear hok hd hl
  clear hr1 hn3 hn4
  go_enter Try.func20, Try.ntmps20
  go_upto_region 1 with fail
  refine wp_world H0.out ?_
  clear H0
  go_wp2_with (first | (go_at_call 29; refine HAF.out.mono ?_; rintro e w1 ⟨hs, hw1⟩; obtain rfl := hs.isYes' HYES.out; subst hw1; clear hs HAF) | (go_at_call 29; have hx := HBA.out; refine HAN.out.mono ?_; rintro e w2 ⟨hs, hw2⟩; obtain rfl := hs.isNo' HNO.out; subst hw2; clear hs hx HAN))
  go_ret2
  exact ⟨rfl, HBA.out⟩
set_option maxHeartbeats 4000000 in
set_option maxRecDepth 100000 in
theorem pack_many (r : Res) (vn : Value) (hok : r.ok) (hd : r.data.size ≤ 1100) (hs : shortS r.names) (hm : 512 < r.names.length) (w : World) (hst : Strs w vn r.names) : Calls Try.prog 20 #[r.val vn] w fun e w' => e = .returned (.tuple #[.slice none 0 0, .int .i64 8]) ∧ Below w.heap.size w w' := by
  obtain ⟨k, f, z, d, ns⟩ := r
  simp only [Res.val] at *
  obtain ⟨W0, H0, HR0, HB0, HZ0⟩ := res_row w k z f d vn
  have c3 : W0.cell? ⟨w.heap.size, 3, none⟩ = some (.string d) := HR0.out.cell 3
  have HAF := hid_in (areFields_any _ _ _ (strs1 W0 d) (by have h1 := hok.data; simp only at h1; simp [h1]))
  have HYES : Hid (shortS [d]) := (short1 d).2 hd
  have HBA : Hid (Below w.heap.size w (W0.alloc (.cells #[.string d] 9))) := HB0.out.alloc HB0.out.size _
  have HAN := hid_in (areFields_any (W0.alloc (.cells #[.string d] 9)) vn ns (hst.below HBA.out) hok.names)
  have hr1 : Row (W0.alloc (.cells #[.string d] 9)) w.heap.size [.int .i64 k, .bool f, .int .i64 z, .string d, vn] 42 := HR0.out.alloc _
  have d4 : (W0.alloc (.cells #[.string d] 9)).cell? ⟨w.heap.size, 4, none⟩ = some vn := hr1.cell 4
  have HR1 := hid_in hr1
  obtain ⟨pn, cn, bn, on_, hvn, hn1, hn2, hn3, hn4⟩ := hst
  have HN3 := hid_in hn3
  have HN4 := hid_in hn4
  subst hvn
  have HNO := hid_in hs
  have k1 : (512 : Int) < (ns.length : Int) := by omega
  clear hok hd hs hm
  clear hr1 hn3 hn4
  go_enter Try.func20, Try.ntmps20
  go_upto_region 1 with fail
  refine wp_world H0.out ?_
  clear H0
  go_wp2_with (first | (go_at_call 29; refine HAF.out.mono ?_; rintro e w1 ⟨hs, hw1⟩; obtain rfl := hs.isYes' HYES.out; subst hw1; clear hs HAF) | (go_at_call 29; have hx := HBA.out; refine HAN.out.mono ?_; rintro e w2 ⟨hs, hw2⟩; obtain rfl := hs.isYes' HNO.out; subst hw2; clear hs hx HAN))
  go_ret2
  exact ⟨rfl, HBA.out⟩
set_option maxHeartbeats 4000000 in
set_option maxRecDepth 100000 in
theorem pack_ok (r : Res) (vn : Value) (hok : r.ok) (hd : r.data.size ≤ 1100) (hs : shortS r.names) (hm : r.names.length ≤ 512) (w : World) (hst : Strs w vn r.names) : Calls Try.prog 20 #[r.val vn] w fun e w' => (∃ u, e = .returned (.tuple #[u, .int .i64 0]) ∧ w'.ownsRow w.heap.size 5 1 u (encR r).length ((encR r).map u8v)) ∧ Below w.heap.size w w' := by
  have HLN : Hid ((preR r).length ≤ 2000) := preR_len r hd
  obtain ⟨k, f, z, d, ns⟩ := r
  simp only [Res.val] at *
  obtain ⟨W0, H0, HR0, HB0, HZ0⟩ := res_row w k z f d vn
  have c3 : W0.cell? ⟨w.heap.size, 3, none⟩ = some (.string d) := HR0.out.cell 3
  have HAF := hid_in (areFields_any _ _ _ (strs1 W0 d) (by have h1 := hok.data; simp only at h1; simp [h1]))
  have HYES : Hid (shortS [d]) := (short1 d).2 hd
  have HBA : Hid (Below w.heap.size w (W0.alloc (.cells #[.string d] 9))) := HB0.out.alloc HB0.out.size _
  have HAN := hid_in (areFields_any (W0.alloc (.cells #[.string d] 9)) vn ns (hst.below HBA.out) hok.names)
  have hr1 : Row (W0.alloc (.cells #[.string d] 9)) w.heap.size [.int .i64 k, .bool f, .int .i64 z, .string d, vn] 42 := HR0.out.alloc _
  have d4 : (W0.alloc (.cells #[.string d] 9)).cell? ⟨w.heap.size, 4, none⟩ = some vn := hr1.cell 4
  have HR1 := hid_in hr1
  obtain ⟨pn, cn, bn, on_, hvn, hn1, hn2, hn3, hn4⟩ := hst
  have HN3 := hid_in hn3
  have HN4 := hid_in hn4
  subst hvn
  have HNO := hid_in hs
  have HM := hid_in hm
  have k1 : ¬ ((512 : Int) < (ns.length : Int)) := by omega
  have HIk := hid_in hok.code
  have HIz := hid_in hok.size
  simp only at HIk HIz
  have HNL : Hid (ns.length < 18446744073709551616) := by show _ < _; omega
  have hww : IntKind.u64.wrap (ns.length : Int) = (ns.length : Int) := by rw [IntKind.wrap_u64]; omega
  have y1 := num_length (Wire.zz k)
  have y2 := num_length (Wire.zz z)
  have y3 := num_length d.size
  have HL0 : Hid (([] : List Nat).length + 10 ≤ 140737488355328) := by
    show _ ≤ _
    simp only [List.length_nil]
    omega
  have HL1 : Hid ((([] ++ Wire.num (Wire.zz k)) : List Nat).length + 1 ≤ 140737488355328) := by
    show _ ≤ _
    simp only [List.length_append, List.length_nil]
    omega
  have HL2 : Hid (((([] ++ Wire.num (Wire.zz k)) ++ [if f then 1 else 0]) : List Nat).length + 10 ≤ 140737488355328) := by
    show _ ≤ _
    simp only [List.length_append, List.length_cons, List.length_nil]
    omega
  have HL3 : Hid ((((([] ++ Wire.num (Wire.zz k)) ++ [if f then 1 else 0]) ++ Wire.num (Wire.zz z)) : List Nat).length + 10 + d.size ≤ 140737488355328) := by
    show _ ≤ _
    simp only [List.length_append, List.length_cons, List.length_nil]
    omega
  have HL4 : Hid (((((([] ++ Wire.num (Wire.zz k)) ++ [if f then 1 else 0]) ++ Wire.num (Wire.zz z)) ++ (Wire.num d.size ++ bytesS d)) : List Nat).length + 10 ≤ 140737488355328) := by
    show _ ≤ _
    simp only [List.length_append, List.length_cons, List.length_nil, bytesS_length]
    omega
  clear hok hd hs hm y1 y2 y3
  clear hr1 hn3 hn4
  go_enter Try.func20, Try.ntmps20
  go_upto_region 1 with fail
  refine wp_world H0.out ?_
  clear H0
  go_upto_region 6 with (first | (go_at_call 29; refine HAF.out.mono ?_; rintro e w1 ⟨hs, hw1⟩; obtain rfl := hs.isYes' HYES.out; subst hw1; clear hs HAF) | (go_at_call 29; have hx := HBA.out; refine HAN.out.mono ?_; rintro e w2 ⟨hs, hw2⟩; obtain rfl := hs.isYes' HNO.out; have HB2 : Hid (Below w.heap.size w w2) := (by rw [hw2]; exact HBA.out); have HR2 : Hid (Row w2 w.heap.size [.int .i64 k, .bool f, .int .i64 z, .string d, .slice pn ns.length cn] 42) := (by rw [hw2]; exact HR1.out); have d4' : w2.cell? ⟨w.heap.size, 4, none⟩ = some (.slice pn ns.length cn) := HR2.out.cell 4; clear hw2; clear hs hx HAN))
  clear d4' d4 c3
  have hsz1 : Hid (w.heap.size < w2.heap.size) := by show _ < _; exact HR2.out.lt
  obtain ⟨w3, HW3⟩ : ∃ w3, Hid (w2.alloc (.cells #[.slice none 0 0] 56) = w3) := ⟨_, rfl⟩
  have HO3 : Hid (OutB w3 w2.heap.size w2.heap.size []) := ⟨.slice none 0 0, by rw [← HW3.out]; exact out_new w2⟩
  have HB3 : Hid (Below w2.heap.size w2 w3) := by show Below _ _ _; rw [← HW3.out]; exact (Below.refl _ _).alloc (Nat.le_refl _) _
  refine wp_world HW3.out ?_
  clear HW3
  generalize w2.heap.size = B at *
  have HBE : Hid (∀ W, Below B w2 W → Row W w.heap.size [.int .i64 k, .bool f, .int .i64 z, .string d, .slice pn ns.length cn] 42) := fun W hW => HR2.out.below hW hsz1.out
  have HBF : Hid (∀ W W', Below B w2 W → Below W.heap.size W W' → Below w.heap.size w W') := fun W W' h1 h2 => by
    have h3 : Below w.heap.size w W := HB2.out.trans (h1.mono (Nat.le_of_lt hsz1.out))
    exact h3.trans (h2.mono h3.size)
  have HNC : Hid (∀ W, Below B w2 W → ∀ (i : Nat) s, ns[i]? = some s → W.cell? ⟨bn, on_ + i, none⟩ = some (.string s)) := fun W hW i s hi => by
    have h3 : Below w.heap.size w W := HB2.out.trans (hW.mono (Nat.le_of_lt hsz1.out))
    rw [h3.cell (p := ⟨bn, on_ + i, none⟩) (HN3.out (by rintro rfl; simp at hi)).2]
    exact HN4.out i s hi
  have hr_ := HBE.out _ HB3.out
  have c_ : w3.cell? ⟨w.heap.size, 0, none⟩ = some (.int .i64 k) := hr_.cell 0
  clear hr_
  go_upto_region 7 with (first | (go_at_call 30; refine (int_o _ B B _ k HIk.out (Nat.le_refl _) HO3.out HL0.out).mono ?_; rintro e w4 ⟨rfl, h1, h2⟩; have HO4 := hid_in h1; have HB4 := hid_in (HB3.out.trans h2); clear h1 h2 c_ HO3))
  have hr_ := HBE.out _ HB4.out
  have c_ : w4.cell? ⟨w.heap.size, 1, none⟩ = some (.bool f) := hr_.cell 1
  clear hr_
  go_upto_region 8 with (first | (go_at_call 42; refine (flag_o _ B B _ f (Nat.le_refl _) HO4.out HL1.out).mono ?_; rintro e w5 ⟨rfl, h1, h2⟩; have HO5 := hid_in h1; have HB5 := hid_in (HB4.out.trans h2); clear h1 h2 c_ HO4))
  have hr_ := HBE.out _ HB5.out
  have c_ : w5.cell? ⟨w.heap.size, 2, none⟩ = some (.int .i64 z) := hr_.cell 2
  clear hr_
  go_upto_region 9 with (first | (go_at_call 30; refine (int_o _ B B _ z HIz.out (Nat.le_refl _) HO5.out HL2.out).mono ?_; rintro e w6 ⟨rfl, h1, h2⟩; have HO6 := hid_in h1; have HB6 := hid_in (HB5.out.trans h2); clear h1 h2 c_ HO5))
  have hr_ := HBE.out _ HB6.out
  have c_ : w6.cell? ⟨w.heap.size, 3, none⟩ = some (.string d) := hr_.cell 3
  clear hr_
  go_upto_region 10 with (first | (go_at_call 31; refine (text_o _ B B _ d (Nat.le_refl _) HO6.out HL3.out).mono ?_; rintro e w7 ⟨rfl, h1, h2⟩; have HO7 := hid_in h1; have HB7 := hid_in (HB6.out.trans h2); clear h1 h2 c_ HO6))
  have hr_ := HBE.out _ HB7.out
  have c_ : w7.cell? ⟨w.heap.size, 4, none⟩ = some (.slice pn ns.length cn) := hr_.cell 4
  clear hr_
  go_upto_region 11 with (first | (go_at_call 43; refine (num_o _ B B _ ns.length HNL.out (Nat.le_refl _) HO7.out HL4.out).mono ?_; rintro e w8 ⟨rfl, h1, h2⟩; have HO8 := hid_in h1; have HB8 := hid_in (HB7.out.trans h2); clear h1 h2 c_ HO7))
  have hr_ := HBE.out _ HB8.out
  have c_ : w8.cell? ⟨w.heap.size, 4, none⟩ = some (.slice pn ns.length cn) := hr_.cell 4
  clear hr_
  go_upto_region 12 with fail
  clear c_
  obtain ⟨PR, HPR⟩ : ∃ PR : List Nat, Hid ((((((([] ++ Wire.num (Wire.zz k)) ++ [if f then 1 else 0]) ++ Wire.num (Wire.zz z)) ++ (Wire.num d.size ++ bytesS d)) ++ Wire.num ns.length) : List Nat) = PR) := ⟨((((([] ++ Wire.num (Wire.zz k)) ++ [if f then 1 else 0]) ++ Wire.num (Wire.zz z)) ++ (Wire.num d.size ++ bytesS d)) ++ Wire.num ns.length), by show _ = _; rfl⟩
  rw [HPR.out] at HO8
  have HPL : Hid (PR.length ≤ 2000) := by show _ ≤ _; rw [← HPR.out]; exact HLN.out
  go_loopw [49] (fun vk W => ∃ j : Nat, vk = .int .i64 (j : Int) ∧ j ≤ ns.length ∧ OutB W B B (PR ++ (ns.take j).flatMap textB) ∧ Below B w2 W) (fun vk _ => ns.length - (intOf vk).toNat)
  case atStart => exact ⟨0, rfl, by omega, by simpa using HO8.out, HB8.out⟩
  case round =>
    obtain ⟨j, rfl, hj, hout, hbel⟩ := hrel
    have HOJ := hid_in hout
    have HBJ := hid_in hbel
    have HLJ : Hid ((PR ++ (ns.take j).flatMap textB).length ≤ 1000000) := by
      have h1 := flat_le (ns.take j) (fun x hx => HNO.out x (List.mem_of_mem_take hx))
      have h2 := HPL.out
      have h3 := HM.out
      show _ ≤ _
      rw [List.length_append]
      rw [List.length_take] at h1
      omega
    clear hout hbel HO8 HB8
    by_cases hl : j < ns.length
    · have k1 : (j : Int) < (ns.length : Int) := by omega
      obtain ⟨s, hs⟩ : ∃ s, ns[j]? = some s := ⟨_, List.getElem?_eq_getElem hl⟩
      have c0 := HNC.out _ HBJ.out j s hs
      have hne : ns ≠ [] := by rintro rfl; simp at hl
      obtain ⟨rfl, _⟩ := HN3.out hne
      have HSN := hid_in (flat_snocB hs)
      have HSS : Hid (s.size ≤ 1100) := HNO.out s (List.mem_of_getElem? hs)
      have HTX := hid_in (text_o wr B B _ s (Nat.le_refl _) HOJ.out (by have := HLJ.out; have := HSS.out; omega))
      clear hs hne
      go_wp2_with (first | (go_at_call 31; refine HTX.out.mono ?_; rintro e w9 ⟨rfl, h1, h2⟩; have HO9 := hid_in h1; have HB9 := hid_in (HBJ.out.trans h2); clear h1 h2))
      refine ⟨⟨j + 1, by go_num, by omega, ?_, HB9.out⟩, by simp [intOf]; omega⟩
      rw [HSN.out, ← List.append_assoc]
      exact HO9.out
    · have k1 : ¬ ((j : Int) < (ns.length : Int)) := by omega
      have HJ : Hid ((ns.take j).flatMap textB = ns.flatMap textB) := by show _ = _; rw [List.take_of_length_le (by omega)]
      obtain ⟨v9, hv9⟩ := HOJ.out
      have HOB := hid_in (obytes_any wr B B v9 _ hv9 (by have := HLJ.out; omega))
      clear hv9
      go_wp2_with (first | (go_at_call 32; refine HOB.out.mono ?_; rintro e w9 ⟨u9, rfl, h1, h2⟩; have HW9 := hid_in h1; have HB9 := hid_in h2; clear h1 h2))
      go_ret2
      refine ⟨⟨_, rfl, ?_⟩, HBF.out _ _ HBJ.out HB9.out⟩
      have h := own_mono HW9.out (Nat.le_trans HB2.out.size HBJ.out.size)
      rw [HJ.out, ← HPR.out] at h
      exact h
end Go.Proofs.Ytjlhjpooggkkoaa.Nd
namespace Go.Proofs.Ytjlhjpooggkkoaa.Nd
open Go.ChangeShapes Go.WideShapes Go.ChangeAt Go.RowKit Go.Deep
theorem cells42 : Try.prog.cellsOf 42 = 5 := by kernel_rfl
theorem strsR_in {H : Type} {enc : TypeId × Value → H} {W : World} {fuel : Nat} {cs : List Value} {d : DataW H} {p : List MemPlace} (hf : DataW.trod enc Try.prog W 0 (fun _ => true) true fuel 40 cs = some (d, p)) :
    ∃ v ns, cs = [v] ∧ Strs W v ns ∧ ∀ s ∈ ns, s.size ≤ 9223372036854775807 := by
  rcases open_slice Try.underlying40 hf with ⟨hcs, hx⟩ | ⟨x, l, c, m, n, D, Pl, hcs, _, hl, hm, hmm, hx, hr⟩
  · exact ⟨_, [], hcs, ⟨none, 0, 0, 0, rfl, by simp, by omega, fun h => absurd rfl h, fun i s h => by simp at h⟩, fun s h => by cases h⟩
  · simp only [if_true] at hmm
    subst hmm
    rw [cells9] at hr
    have each : ∀ r, r < l → ∃ s : ByteArray, W.cell? (x.add r) = some (.string s) ∧ s.size ≤ 9223372036854775807 := by
      intro r hlt
      obtain ⟨cs', h1, h2⟩ := hr r (by omega)
      obtain ⟨_, hlen, hcell⟩ := World.cells?_some h1
      obtain ⟨S, e2, _, hS⟩ := DataW.trod_string Try.underlying9 h2
      subst e2
      unfold maxLen at hS
      refine ⟨S, ?_, by omega⟩
      have := hcell 0 (by omega)
      rw [Nat.mul_one, add_zero'] at this
      simpa using this
    obtain ⟨y, hy⟩ := choose_lt each
    obtain ⟨b, o, hpx⟩ := none_of_cell (W := W) (x := x) (len := l) (fun h0 => ⟨_, by have := (hy 0 h0).1; rwa [add_zero'] at this⟩)
    have hcap : m ≤ 9223372036854775807 := by unfold maxLen at hm; omega
    refine ⟨_, (List.range l).map y, hcs, ⟨some x, m, b, o, by simp, by simpa using hl, hcap, fun hne => ?_, fun i s hi => ?_⟩, fun s hs => ?_⟩
    · have h0 : 0 < l := by
        rcases Nat.eq_zero_or_pos l with h | h
        · subst h; exact absurd rfl hne
        · exact h
      have hc := (hy 0 h0).1
      rw [add_zero', hpx h0] at hc
      exact ⟨by rw [hpx h0], World.block_lt_of_cell? W _ hc⟩
    · have hlt : i < l := by have := (List.getElem?_eq_some_iff.1 hi).1; simpa using this
      simp [hlt] at hi
      subst hi
      have hc := (hy i hlt).1
      rw [hpx (by omega), Addr.add_mid] at hc
      exact hc
    · simp only [List.mem_map, List.mem_range] at hs
      obtain ⟨i, hi, rfl⟩ := hs
      exact (hy i hi).2
theorem res_in {H : Type} {enc : TypeId × Value → H} {W : World} {fuel : Nat} {cs : List Value} {d : DataW H} {p : List MemPlace} (hf : DataW.trod enc Try.prog W 0 (fun _ => true) true fuel 42 cs = some (d, p)) :
    ∃ (r : Res) (vn : Value), cs = r.cells vn ∧ r.ok ∧ Strs W vn r.names := by
  obtain ⟨xs, n, _, hxy, hl, hxl, hg⟩ := DataW.trod_struct Try.underlying42 hf
  have hxl' : xs.length = 5 := hxl
  rw [cells42] at hl
  match xs, hxl', cs, hl with
  | [y0, y1, y2, y3, y4], _, [v0, v1, v2, v3, v4], _ =>
    have g0 := hg 0 _ rfl
    have g1 := hg 1 _ rfl
    have g2 := hg 2 _ rfl
    have g3 := hg 3 _ rfl
    have g4 := hg 4 _ rfl
    obtain ⟨K, e0, _, hK⟩ := DataW.trod_int Try.underlying25 g0
    obtain ⟨F, e1, _⟩ := DataW.trod_bool Try.underlying4 g1
    obtain ⟨Z, e2, _, hZ⟩ := DataW.trod_int Try.underlying3 g2
    obtain ⟨D, e3, _, hD⟩ := DataW.trod_string Try.underlying9 g3
    obtain ⟨vn, ns, e4, h4, h5⟩ := strsR_in g4
    simp [cells3, cells9, cells4, cells25, cells40] at e0 e1 e2 e3 e4
    subst e0 e1 e2 e3 e4
    unfold maxLen at hD
    exact ⟨⟨K, F, Z, D, ns⟩, _, rfl, ⟨bounds_i64 hK, bounds_i64 hZ, by show D.size ≤ _; omega, h5⟩, h4⟩
end Go.Proofs.Ytjlhjpooggkkoaa.Nd
namespace Go.Proofs.Ytjlhjpooggkkoaa.Nd
open Go.RowKit
theorem neq_yes (o q : Opn) (h : q ≠ o) (w : World) : (binOp .neq 23 (.agg #[.int .i64 o.kind, .string o.path, .string o.dest, .string o.data, .int .i64 o.at_, .int .i64 o.size]) (.agg #[.int .i64 q.kind, .string q.path, .string q.dest, .string q.data, .int .i64 q.at_, .int .i64 q.size])).run Try.prog w = .ok (.bool true) w := by
  go_simp
  intro h1 h2 h3 h4 h5 h6
  exact h (by cases o; cases q; simp only [Opn.mk.injEq]; exact ⟨h1.symm, (toL_inj h2).symm, (toL_inj h3).symm, (toL_inj h4).symm, h5.symm, h6.symm⟩)
theorem neq_no (o : Opn) (w : World) : (binOp .neq 23 (.agg #[.int .i64 o.kind, .string o.path, .string o.dest, .string o.data, .int .i64 o.at_, .int .i64 o.size]) (.agg #[.int .i64 o.kind, .string o.path, .string o.dest, .string o.data, .int .i64 o.at_, .int .i64 o.size])).run Try.prog w = .ok (.bool false) w := by
  go_simp
theorem kinds_in {k : Int} (h : 1 ≤ k ∧ k ≤ 11) : k = 1 ∨ k = 2 ∨ k = 3 ∨ k = 4 ∨ k = 5 ∨ k = 6 ∨ k = 7 ∨ k = 8 ∨ k = 9 ∨ k = 10 ∨ k = 11 := by omega
theorem named_any (o : Opn) (hk : 1 ≤ o.kind ∧ o.kind ≤ 11) (w : World) : Calls Try.prog 25 #[.agg #[.int .i64 o.kind, .string o.path, .string o.dest, .string o.data, .int .i64 o.at_, .int .i64 o.size]] w fun e w' => e = .returned (.agg #[.int .i64 (namedS o).kind, .string (namedS o).path, .string (namedS o).dest, .string (namedS o).data, .int .i64 (namedS o).at_, .int .i64 (namedS o).size]) ∧ Below w.heap.size w w' := by
  obtain ⟨k, p, t, d, a, z⟩ := o
  simp only at hk ⊢
  rcases kinds_in hk with rfl | rfl | rfl | rfl | rfl | rfl | rfl | rfl | rfl | rfl | rfl
  · exact named_1 p t d a z w
  · exact named_2 p t d a z w
  · exact named_3 p t d a z w
  · exact named_4 p t d a z w
  · exact named_5 p t d a z w
  · exact named_6 p t d a z w
  · exact named_7 p t d a z w
  · exact named_8 p t d a z w
  · exact named_9 p t d a z w
  · exact named_10 p t d a z w
  · exact named_11 p t d a z w
theorem word_none {k : Int} (h : ¬ (1 ≤ k ∧ k ≤ 11)) : wordOf k = ⟨#[]⟩ := by
  unfold wordOf
  repeat rw [if_neg (by omega)]
theorem word_some {k : Int} (h : 1 ≤ k ∧ k ≤ 11) : wordOf k ≠ ⟨#[]⟩ := by
  rcases kinds_in h with rfl | rfl | rfl | rfl | rfl | rfl | rfl | rfl | rfl | rfl | rfl <;> decide
instance (k a z : Int) : Decidable (numsOk k a z) := by unfold numsOk; infer_instance
/-- what Check answers -/
def checkS (o : Opn) : Int :=
  if ¬ (1 ≤ o.kind ∧ o.kind ≤ 11) then 100 else if namedS o ≠ o ∨ ¬ numsOk o.kind o.at_ o.size then 1 else
  if 1024 < o.data.size ∨ 1024 < o.at_ ∨ 1024 < o.size then 134 else pathsS o.kind o.path o.dest
set_option maxHeartbeats 2000000 in
set_option maxRecDepth 100000 in
theorem check_kind (o : Opn) (hk : ¬ (1 ≤ o.kind ∧ o.kind ≤ 11)) (w : World) : Calls Try.prog 10 #[o.val] w fun e w' => e = .returned (.int .i64 100) ∧ Below w.heap.size w w' := by
  obtain ⟨k, p, t, d, a, z⟩ := o
  simp only [Opn.val] at hk ⊢
  obtain ⟨W0, H0, HR0, HB0, HZ0⟩ := op_row w k a z p t d
  have c0 : W0.cell? ⟨w.heap.size, 0, none⟩ = some (.int .i64 k) := HR0.out.cell 0
  have HW := hid_in (fun W => word_any k W)
  rw [word_none hk] at HW
  go_enter Try.func10, Try.ntmps10
  go_upto_region 1 with fail
  refine wp_world H0.out ?_
  clear H0
  go_wp2_with (first | (go_at_call 12; refine (HW.out _).mono ?_; rintro e w1 ⟨rfl, rfl⟩))
  go_ret
  exact ⟨rfl, HB0.out⟩
set_option maxHeartbeats 2000000 in
set_option maxRecDepth 100000 in
theorem check_arg (o : Opn) (hk : 1 ≤ o.kind ∧ o.kind ≤ 11) (hn : namedS o ≠ o) (w : World) : Calls Try.prog 10 #[o.val] w fun e w' => e = .returned (.int .i64 1) ∧ Below w.heap.size w w' := by
  have HNM := hid_in (fun W => named_any o hk W)
  have hne := neq_yes o (namedS o) hn
  have hws := word_some hk
  obtain ⟨k, p, t, d, a, z⟩ := o
  obtain ⟨⟨k', p', t', d', a', z'⟩, HQ⟩ : ∃ q, Hid (namedS ⟨k, p, t, d, a, z⟩ = q) := ⟨_, rfl⟩
  rw [HQ.out] at HNM hne
  simp only [Opn.val] at hk HNM hne hws ⊢
  obtain ⟨W0, H0, HR0, HB0, HZ0⟩ := op_row w k a z p t d
  have c0 : W0.cell? ⟨w.heap.size, 0, none⟩ = some (.int .i64 k) := HR0.out.cell 0
  have c1 : W0.cell? ⟨w.heap.size, 1, none⟩ = some (.string p) := HR0.out.cell 1
  have c2 : W0.cell? ⟨w.heap.size, 2, none⟩ = some (.string t) := HR0.out.cell 2
  have c3 : W0.cell? ⟨w.heap.size, 3, none⟩ = some (.string d) := HR0.out.cell 3
  have c4 : W0.cell? ⟨w.heap.size, 4, none⟩ = some (.int .i64 a) := HR0.out.cell 4
  have c5 : W0.cell? ⟨w.heap.size, 5, none⟩ = some (.int .i64 z) := HR0.out.cell 5
  obtain ⟨WD, HWD⟩ : ∃ WD, Hid (wordOf k = WD) := ⟨_, rfl⟩
  have HW := hid_in (fun W => word_any k W)
  rw [HWD.out] at HW hws
  have hw1 : WD.toList.isEmpty = false := by
    rw [List.isEmpty_eq_false_iff]; exact fun e => hws (toL_inj (b := ⟨#[]⟩) (e.trans (by rw [Lib.toList_data])))
  clear hws HWD HQ hk hn
  go_enter Try.func10, Try.ntmps10
  go_upto_region 1 with fail
  refine wp_world H0.out ?_
  clear H0
  go_upto_region 3 with (first | (go_at_call 12; refine (HW.out _).mono ?_; rintro e w1 ⟨rfl, rfl⟩))
  go_region_with (first | (go_at_call 25; refine (HNM.out _).mono ?_; rintro e w6 ⟨rfl, hb6⟩; have HB6 := hid_in (((Below.refl w1.heap.size w1).drew).trans (hb6.mono (by simp))); have hr6 := HR0.out.below HB6.out HR0.out.lt; have d0 : w6.cell? ⟨w.heap.size, 0, none⟩ = some (.int .i64 k) := hr6.cell 0; have d1 : w6.cell? ⟨w.heap.size, 1, none⟩ = some (.string p) := hr6.cell 1; have d2 : w6.cell? ⟨w.heap.size, 2, none⟩ = some (.string t) := hr6.cell 2; have d3 : w6.cell? ⟨w.heap.size, 3, none⟩ = some (.string d) := hr6.cell 3; have d4 : w6.cell? ⟨w.heap.size, 4, none⟩ = some (.int .i64 a) := hr6.cell 4; have d5 : w6.cell? ⟨w.heap.size, 5, none⟩ = some (.int .i64 z) := hr6.cell 5; clear hb6 hr6))
  all_goals
    go_wp2_with fail
    go_ret
    exact ⟨rfl, HB0.out.trans (HB6.out.mono HB0.out.size)⟩
end Go.Proofs.Ytjlhjpooggkkoaa.Nd
