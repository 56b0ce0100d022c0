/-
  The reference's Do.
-/
import Derived.Test.YtcdmdmbdgmihfaaA00
import Derived.Test.YtcdmdmbdgmihfaaA01
import Derived.Test.YtcdmdmbdgmihfaaA02
import Derived.Test.YtcdmdmbdgmihfaaA03
import Derived.Test.YtcdmdmbdgmihfaaA04
import Derived.Test.YtcdmdmbdgmihfaaA05
import Derived.Test.YtcdmdmbdgmihfaaA06
import Derived.Test.YtcdmdmbdgmihfaaA07
namespace Go.Proofs.Ytcdmdmbdgmihfaa.Pt
open Go.RowKit
open Nd (Row wp_world grownBy_setCell below_of_grown grownBy_trans grown_of_below grownBy_refl u8v Grew Moved Sl hid_in i5h str)
def kmod (K : Int) : Int := (IntKind.u64.wrap K).tmod 6
/-- a call's answer -/
def doE (m a : Int) (d : Dk) : Int := if m = 0 then appE a d else if m = 1 then begE 1 a d else if m = 2 then begE 2 a d else if m = 3 then begE 3 (oth d) d else 0
/-- what is there behind it -/
def doD (m a : Int) (xs : List Nat) (n : Int) (ks : List Int) (d : Dk) : Dk := if m = 0 then appD a xs d else if m = 1 then synD a d else if m = 2 then wipD a d else if m = 3 then fliD d else if m = 4 then armD n d else cutD ks d
theorem kmod_cases (K : Int) : kmod K = 0 ∨ kmod K = 1 ∨ kmod K = 2 ∨ kmod K = 3 ∨ kmod K = 4 ∨ kmod K = 5 := by
  unfold kmod
  have h : (0 : Int) ≤ IntKind.u64.wrap K := by rw [IntKind.wrap_u64]; omega
  rw [Int.tmod_eq_emod_of_nonneg h]
  omega
/-- a value that reads as bytes, whatever becomes of block r -/
def Cv (w : World) (r : Nat) (bv : Value) (xs : List Nat) : Prop := ∀ W, w.grownBy W (some r) → (convert 34 9 bv).run Try.prog W = .ok (.string (str xs)) W
theorem str_app (x y : List Nat) : str (x ++ y) = str x ++ str y := by
  have e : ∀ x y : ByteArray, x.data.toList = y.data.toList → x = y := fun x y h => by cases x; cases y; congr 1; exact Array.ext' h
  refine e _ _ ?_
  simp [str, ByteArray.data_append]
theorem str_add (x y : ByteArray) (h : x.size + y.size ≤ 9223372036854775807) (w : World) : (binOp .add 9 (.string x) (.string y)).run Try.prog w = .ok (.string (x ++ y)) w := by
  have h2 : ¬ (((x.size + y.size : Nat) : Int) > IntKind.i64.max) := by
    have : IntKind.i64.max = 9223372036854775807 := rfl
    omega
  simp only [binOp, Op.stringOp, if_neg h2, Sem.run_pure]
/-- what Do leaves -/
def RP (w : World) (r : Nat) (c : Int) (d' : Dk) (e : Ending) (w' : World) : Prop := e = .returned (.int .i64 c) ∧ Row w' r (rcells d') 31 ∧ w.grownBy w' (some r)
set_option maxHeartbeats 1000000 in
set_option maxRecDepth 100000 in
theorem rdo4_down {w : World} {r : Nat} {d : Dk} (h : Row w r (rcells d) 31) (hk : d.ok) (K a n : Int) (bv kv : Value) (hK : (IntKind.u64.wrap K).tmod 6 = 4) (hd : d.down = true) : Calls Try.prog 11 #[.pointer (some ⟨r, 0, none⟩), .agg #[.int .i64 K, .int .i64 a, bv, .int .i64 n, kv]] w fun e w' => RP w r 0 d e w' := by
  obtain ⟨w1, hw1⟩ : ∃ w1, Hid (w.alloc (.cells #[.int .i64 K, .int .i64 a, bv, .int .i64 n, kv] 37) = w1) := ⟨_, hid_in rfl⟩
  have hlr := liv_range d.live
  have HW1 : Hid (w.alloc (.cells #[.int .i64 K, .int .i64 a, bv, .int .i64 n, kv] 37) = w1) := hw1
  have HR1 : Hid (Row w1 r (rcells d) 31) := hid_in (by rw [← HW1.out]; exact h.alloc _)
  have HX1 : Hid (Row w1 w.heap.size [.int .i64 K, .int .i64 a, bv, .int .i64 n, kv] 37) := hid_in (by rw [← HW1.out]; exact Row.new w _ 37)
  have HG1 : Hid (w.grownBy w1 (some r)) := hid_in (by rw [← HW1.out]; exact grown_of_below ((Below.refl _ _).alloc (Nat.le_refl _) _))
  have HNE : Hid (w.heap.size ≠ r) := hid_in (by have := h.lt; omega)
  obtain ⟨bx, HBX⟩ : ∃ bx, Hid (w.heap.size = bx) := ⟨_, hid_in rfl⟩
  have hd2 := hd
  have HOK := hid_in hk
  clear h hk hw1
  go_enter Try.func11, Try.ntmps11
  go_upto_region 1 with fail
  refine wp_world HW1.out ?_
  rw [HBX.out]
  rw [HBX.out] at HX1 HNE
  have k0 := HX1.out.cell 0
  have k1 := HX1.out.cell 1
  have k2 := HX1.out.cell 2
  have k3 := HX1.out.cell 3
  have k4 := HX1.out.cell 4
  have c0 := HR1.out.cell 0
  have c1 := HR1.out.cell 1
  have c2 := HR1.out.cell 2
  have c3 := HR1.out.cell 3
  have c4 := HR1.out.cell 4
  have c5 := HR1.out.cell 5
  have c6 := HR1.out.cell 6
  have f5 := HR1.out.frozen 5
  simp only [rcells, List.getElem?_cons_succ, List.getElem?_cons_zero] at k0 k1 k2 k3 k4 c0 c1 c2 c3 c4 c5 c6
  rw [hd] at c6
  go_wp2
  go_ret
  exact ⟨rfl, HR1.out, HG1.out⟩
set_option maxHeartbeats 1000000 in
set_option maxRecDepth 100000 in
theorem rdo4_low {w : World} {r : Nat} {d : Dk} (h : Row w r (rcells d) 31) (hk : d.ok) (K a n : Int) (bv kv : Value) (hK : (IntKind.u64.wrap K).tmod 6 = 4) (hd : d.down = false) (hn : n < 1) : Calls Try.prog 11 #[.pointer (some ⟨r, 0, none⟩), .agg #[.int .i64 K, .int .i64 a, bv, .int .i64 n, kv]] w fun e w' => RP w r 0 { d with left := n.toNat } e w' := by
  obtain ⟨w1, hw1⟩ : ∃ w1, Hid (w.alloc (.cells #[.int .i64 K, .int .i64 a, bv, .int .i64 n, kv] 37) = w1) := ⟨_, hid_in rfl⟩
  have hlr := liv_range d.live
  have HW1 : Hid (w.alloc (.cells #[.int .i64 K, .int .i64 a, bv, .int .i64 n, kv] 37) = w1) := hw1
  have HR1 : Hid (Row w1 r (rcells d) 31) := hid_in (by rw [← HW1.out]; exact h.alloc _)
  have HX1 : Hid (Row w1 w.heap.size [.int .i64 K, .int .i64 a, bv, .int .i64 n, kv] 37) := hid_in (by rw [← HW1.out]; exact Row.new w _ 37)
  have HG1 : Hid (w.grownBy w1 (some r)) := hid_in (by rw [← HW1.out]; exact grown_of_below ((Below.refl _ _).alloc (Nat.le_refl _) _))
  have HNE : Hid (w.heap.size ≠ r) := hid_in (by have := h.lt; omega)
  obtain ⟨bx, HBX⟩ : ∃ bx, Hid (w.heap.size = bx) := ⟨_, hid_in rfl⟩
  have HOK := hid_in hk
  clear h hk hw1
  go_enter Try.func11, Try.ntmps11
  go_upto_region 1 with fail
  refine wp_world HW1.out ?_
  rw [HBX.out]
  rw [HBX.out] at HX1 HNE
  have k0 := HX1.out.cell 0
  have k1 := HX1.out.cell 1
  have k2 := HX1.out.cell 2
  have k3 := HX1.out.cell 3
  have k4 := HX1.out.cell 4
  have c0 := HR1.out.cell 0
  have c1 := HR1.out.cell 1
  have c2 := HR1.out.cell 2
  have c3 := HR1.out.cell 3
  have c4 := HR1.out.cell 4
  have c5 := HR1.out.cell 5
  have c6 := HR1.out.cell 6
  have f5 := HR1.out.frozen 5
  simp only [rcells, List.getElem?_cons_succ, List.getElem?_cons_zero] at k0 k1 k2 k3 k4 c0 c1 c2 c3 c4 c5 c6
  rw [hd] at c6
  clear hd
  go_upto_region 5 with fail
  obtain ⟨w2, HW2⟩ : ∃ w2, Hid (w1.setCell ⟨r, 5, none⟩ (.int .i64 n) = w2) := ⟨_, hid_in rfl⟩
  have HG2 : Hid (w1.grownBy w2 (some r)) := hid_in (by rw [← HW2.out]; exact grownBy_setCell _ _ _)
  have HR2 : Hid (Row w2 r ((rcells d).set 5 (.int .i64 n)) 31) := hid_in (by rw [← HW2.out]; exact HR1.out.set_same 5 _)
  have HX2 := hid_in (HX1.out.grown HG2.out (fun e => HNE.out (Option.some.inj e)))
  refine wp_world HW2.out ?_
  clear k0 k1 k2 k3 k4 c0 c1 c2 c3 c4 c5 c6 f5
  have k3 := HX2.out.cell 3
  have c5 := HR2.out.cell 5
  have f5 := HR2.out.frozen 5
  simp only [rcells, List.set_cons_zero, List.set_cons_succ, List.getElem?_cons_succ, List.getElem?_cons_zero] at k3 c5
  have HR3 : Hid (Row (w2.setCell ⟨r, 5, none⟩ (.int .i64 0)) r (rcells { d with left := n.toNat }) 31) := hid_in (by
    have e : n.toNat = 0 := by omega
    rw [e]
    exact HR2.out.set_same 5 _)
  go_wp2
  go_ret
  exact ⟨rfl, HR3.out, grownBy_trans HG1.out (grownBy_trans HG2.out (grownBy_setCell _ _ _))⟩
set_option maxHeartbeats 1000000 in
set_option maxRecDepth 100000 in
theorem rdo4_high {w : World} {r : Nat} {d : Dk} (h : Row w r (rcells d) 31) (hk : d.ok) (K a n : Int) (bv kv : Value) (hK : (IntKind.u64.wrap K).tmod 6 = 4) (hd : d.down = false) (hn : ¬ n < 1) (hn2 : n ≤ 9223372036854775807) : Calls Try.prog 11 #[.pointer (some ⟨r, 0, none⟩), .agg #[.int .i64 K, .int .i64 a, bv, .int .i64 n, kv]] w fun e w' => RP w r 0 { d with left := n.toNat } e w' := by
  obtain ⟨w1, hw1⟩ : ∃ w1, Hid (w.alloc (.cells #[.int .i64 K, .int .i64 a, bv, .int .i64 n, kv] 37) = w1) := ⟨_, hid_in rfl⟩
  have hlr := liv_range d.live
  have HW1 : Hid (w.alloc (.cells #[.int .i64 K, .int .i64 a, bv, .int .i64 n, kv] 37) = w1) := hw1
  have HR1 : Hid (Row w1 r (rcells d) 31) := hid_in (by rw [← HW1.out]; exact h.alloc _)
  have HX1 : Hid (Row w1 w.heap.size [.int .i64 K, .int .i64 a, bv, .int .i64 n, kv] 37) := hid_in (by rw [← HW1.out]; exact Row.new w _ 37)
  have HG1 : Hid (w.grownBy w1 (some r)) := hid_in (by rw [← HW1.out]; exact grown_of_below ((Below.refl _ _).alloc (Nat.le_refl _) _))
  have HNE : Hid (w.heap.size ≠ r) := hid_in (by have := h.lt; omega)
  obtain ⟨bx, HBX⟩ : ∃ bx, Hid (w.heap.size = bx) := ⟨_, hid_in rfl⟩
  have HOK := hid_in hk
  clear h hk hw1
  go_enter Try.func11, Try.ntmps11
  go_upto_region 1 with fail
  refine wp_world HW1.out ?_
  rw [HBX.out]
  rw [HBX.out] at HX1 HNE
  have k0 := HX1.out.cell 0
  have k1 := HX1.out.cell 1
  have k2 := HX1.out.cell 2
  have k3 := HX1.out.cell 3
  have k4 := HX1.out.cell 4
  have c0 := HR1.out.cell 0
  have c1 := HR1.out.cell 1
  have c2 := HR1.out.cell 2
  have c3 := HR1.out.cell 3
  have c4 := HR1.out.cell 4
  have c5 := HR1.out.cell 5
  have c6 := HR1.out.cell 6
  have f5 := HR1.out.frozen 5
  simp only [rcells, List.getElem?_cons_succ, List.getElem?_cons_zero] at k0 k1 k2 k3 k4 c0 c1 c2 c3 c4 c5 c6
  rw [hd] at c6
  clear hd
  go_upto_region 5 with fail
  obtain ⟨w2, HW2⟩ : ∃ w2, Hid (w1.setCell ⟨r, 5, none⟩ (.int .i64 n) = w2) := ⟨_, hid_in rfl⟩
  have HG2 : Hid (w1.grownBy w2 (some r)) := hid_in (by rw [← HW2.out]; exact grownBy_setCell _ _ _)
  have HR2 : Hid (Row w2 r ((rcells d).set 5 (.int .i64 n)) 31) := hid_in (by rw [← HW2.out]; exact HR1.out.set_same 5 _)
  have HX2 := hid_in (HX1.out.grown HG2.out (fun e => HNE.out (Option.some.inj e)))
  refine wp_world HW2.out ?_
  clear k0 k1 k2 k3 k4 c0 c1 c2 c3 c4 c5 c6 f5
  have k3 := HX2.out.cell 3
  have c5 := HR2.out.cell 5
  have f5 := HR2.out.frozen 5
  simp only [rcells, List.set_cons_zero, List.set_cons_succ, List.getElem?_cons_succ, List.getElem?_cons_zero] at k3 c5
  have HR3 : Hid (Row w2 r (rcells { d with left := n.toNat }) 31) := hid_in (by
    have e : ((n.toNat : Nat) : Int) = n := by omega
    show Row w2 r [_, _, _, _, _, .int .i64 ((n.toNat : Nat) : Int), _] 31
    rw [e]
    exact HR2.out)
  clear hn2
  go_wp2
  go_ret
  exact ⟨rfl, HR3.out, grownBy_trans HG1.out HG2.out⟩
set_option maxHeartbeats 1000000 in
set_option maxRecDepth 100000 in
theorem rdo5 {w : World} {r : Nat} {d : Dk} (h : Row w r (rcells d) 31) (hk : d.ok) (K a n : Int) (bv kv : Value) (hK : (IntKind.u64.wrap K).tmod 6 = 5) (ks : List Int) (hks : Kp w (fun k => some k = some r) kv ks) : Calls Try.prog 11 #[.pointer (some ⟨r, 0, none⟩), .agg #[.int .i64 K, .int .i64 a, bv, .int .i64 n, kv]] w fun e w' => RP w r 0 (cutD ks d) e w' := by
  obtain ⟨w1, hw1⟩ : ∃ w1, Hid (w.alloc (.cells #[.int .i64 K, .int .i64 a, bv, .int .i64 n, kv] 37) = w1) := ⟨_, hid_in rfl⟩
  have hlr := liv_range d.live
  have HW1 : Hid (w.alloc (.cells #[.int .i64 K, .int .i64 a, bv, .int .i64 n, kv] 37) = w1) := hw1
  have HR1 : Hid (Row w1 r (rcells d) 31) := hid_in (by rw [← HW1.out]; exact h.alloc _)
  have HX1 : Hid (Row w1 w.heap.size [.int .i64 K, .int .i64 a, bv, .int .i64 n, kv] 37) := hid_in (by rw [← HW1.out]; exact Row.new w _ 37)
  have HG1 : Hid (w.grownBy w1 (some r)) := hid_in (by rw [← HW1.out]; exact grown_of_below ((Below.refl _ _).alloc (Nat.le_refl _) _))
  have HNE : Hid (w.heap.size ≠ r) := hid_in (by have := h.lt; omega)
  obtain ⟨bx, HBX⟩ : ∃ bx, Hid (w.heap.size = bx) := ⟨_, hid_in rfl⟩
  have HC : Hid (Calls Try.prog 24 #[.pointer (some ⟨r, 0, none⟩), kv] w1 fun e w' => e = .returned (.tuple #[]) ∧ Row w' r (rcells (cutD ks d)) 31 ∧ w1.grownBy w' (some r)) := hid_in (rcut_any HR1.out hk kv ks (by
    obtain ⟨p, cap, h1, h2, h3⟩ := hks
    refine ⟨p, cap, h1, h2, fun hne => ?_⟩
    obtain ⟨b, o, h4, h5⟩ := h3 hne
    exact ⟨b, o, h4, fun W hW => h5 W ((Grew.of_grown HG1.out).trans hW (fun _ _ e => e))⟩))
  clear hks
  have HOK := hid_in hk
  clear h hk hw1
  go_enter Try.func11, Try.ntmps11
  go_upto_region 1 with fail
  refine wp_world HW1.out ?_
  rw [HBX.out]
  rw [HBX.out] at HX1 HNE
  have k0 := HX1.out.cell 0
  have k1 := HX1.out.cell 1
  have k2 := HX1.out.cell 2
  have k3 := HX1.out.cell 3
  have k4 := HX1.out.cell 4
  have c0 := HR1.out.cell 0
  have c1 := HR1.out.cell 1
  have c2 := HR1.out.cell 2
  have c3 := HR1.out.cell 3
  have c4 := HR1.out.cell 4
  have c5 := HR1.out.cell 5
  have c6 := HR1.out.cell 6
  have f5 := HR1.out.frozen 5
  simp only [rcells, List.getElem?_cons_succ, List.getElem?_cons_zero] at k0 k1 k2 k3 k4 c0 c1 c2 c3 c4 c5 c6
  go_wp2_with (first | (go_at_call 24; refine HC.out.mono ?_; rintro e w2 ⟨rfl, hr2, hg2⟩; have HR2 := hid_in hr2; have HG2 := hid_in hg2; clear hr2 hg2))
  go_ret
  exact ⟨rfl, HR2.out, grownBy_trans HG1.out HG2.out⟩
set_option maxHeartbeats 1000000 in
set_option maxRecDepth 100000 in
theorem rdo0_lo {w : World} {r : Nat} {d : Dk} (h : Row w r (rcells d) 31) (hk : d.ok) (K a n : Int) (bv kv : Value) (hK : (IntKind.u64.wrap K).tmod 6 = 0) (ha : a < 0) : Calls Try.prog 11 #[.pointer (some ⟨r, 0, none⟩), .agg #[.int .i64 K, .int .i64 a, bv, .int .i64 n, kv]] w fun e w' => RP w r 1 d e w' := by
  obtain ⟨w1, hw1⟩ : ∃ w1, Hid (w.alloc (.cells #[.int .i64 K, .int .i64 a, bv, .int .i64 n, kv] 37) = w1) := ⟨_, hid_in rfl⟩
  have hlr := liv_range d.live
  have HW1 : Hid (w.alloc (.cells #[.int .i64 K, .int .i64 a, bv, .int .i64 n, kv] 37) = w1) := hw1
  have HR1 : Hid (Row w1 r (rcells d) 31) := hid_in (by rw [← HW1.out]; exact h.alloc _)
  have HX1 : Hid (Row w1 w.heap.size [.int .i64 K, .int .i64 a, bv, .int .i64 n, kv] 37) := hid_in (by rw [← HW1.out]; exact Row.new w _ 37)
  have HG1 : Hid (w.grownBy w1 (some r)) := hid_in (by rw [← HW1.out]; exact grown_of_below ((Below.refl _ _).alloc (Nat.le_refl _) _))
  have HNE : Hid (w.heap.size ≠ r) := hid_in (by have := h.lt; omega)
  obtain ⟨bx, HBX⟩ : ∃ bx, Hid (w.heap.size = bx) := ⟨_, hid_in rfl⟩
  have HOK := hid_in hk
  clear h hk hw1
  go_enter Try.func11, Try.ntmps11
  go_upto_region 1 with fail
  refine wp_world HW1.out ?_
  rw [HBX.out]
  rw [HBX.out] at HX1 HNE
  have k0 := HX1.out.cell 0
  have k1 := HX1.out.cell 1
  have k2 := HX1.out.cell 2
  have k3 := HX1.out.cell 3
  have k4 := HX1.out.cell 4
  have c0 := HR1.out.cell 0
  have c1 := HR1.out.cell 1
  have c2 := HR1.out.cell 2
  have c3 := HR1.out.cell 3
  have c4 := HR1.out.cell 4
  have c5 := HR1.out.cell 5
  have c6 := HR1.out.cell 6
  have f5 := HR1.out.frozen 5
  simp only [rcells, List.getElem?_cons_succ, List.getElem?_cons_zero] at k0 k1 k2 k3 k4 c0 c1 c2 c3 c4 c5 c6
  go_wp2
  go_ret
  exact ⟨rfl, HR1.out, HG1.out⟩
set_option maxHeartbeats 1000000 in
set_option maxRecDepth 100000 in
theorem rdo0_hi {w : World} {r : Nat} {d : Dk} (h : Row w r (rcells d) 31) (hk : d.ok) (K a n : Int) (bv kv : Value) (hK : (IntKind.u64.wrap K).tmod 6 = 0) (ha0 : ¬ a < 0) (ha : 1 < a) : Calls Try.prog 11 #[.pointer (some ⟨r, 0, none⟩), .agg #[.int .i64 K, .int .i64 a, bv, .int .i64 n, kv]] w fun e w' => RP w r 1 d e w' := by
  obtain ⟨w1, hw1⟩ : ∃ w1, Hid (w.alloc (.cells #[.int .i64 K, .int .i64 a, bv, .int .i64 n, kv] 37) = w1) := ⟨_, hid_in rfl⟩
  have hlr := liv_range d.live
  have HW1 : Hid (w.alloc (.cells #[.int .i64 K, .int .i64 a, bv, .int .i64 n, kv] 37) = w1) := hw1
  have HR1 : Hid (Row w1 r (rcells d) 31) := hid_in (by rw [← HW1.out]; exact h.alloc _)
  have HX1 : Hid (Row w1 w.heap.size [.int .i64 K, .int .i64 a, bv, .int .i64 n, kv] 37) := hid_in (by rw [← HW1.out]; exact Row.new w _ 37)
  have HG1 : Hid (w.grownBy w1 (some r)) := hid_in (by rw [← HW1.out]; exact grown_of_below ((Below.refl _ _).alloc (Nat.le_refl _) _))
  have HNE : Hid (w.heap.size ≠ r) := hid_in (by have := h.lt; omega)
  obtain ⟨bx, HBX⟩ : ∃ bx, Hid (w.heap.size = bx) := ⟨_, hid_in rfl⟩
  have HOK := hid_in hk
  clear h hk hw1
  go_enter Try.func11, Try.ntmps11
  go_upto_region 1 with fail
  refine wp_world HW1.out ?_
  rw [HBX.out]
  rw [HBX.out] at HX1 HNE
  have k0 := HX1.out.cell 0
  have k1 := HX1.out.cell 1
  have k2 := HX1.out.cell 2
  have k3 := HX1.out.cell 3
  have k4 := HX1.out.cell 4
  have c0 := HR1.out.cell 0
  have c1 := HR1.out.cell 1
  have c2 := HR1.out.cell 2
  have c3 := HR1.out.cell 3
  have c4 := HR1.out.cell 4
  have c5 := HR1.out.cell 5
  have c6 := HR1.out.cell 6
  have f5 := HR1.out.frozen 5
  simp only [rcells, List.getElem?_cons_succ, List.getElem?_cons_zero] at k0 k1 k2 k3 k4 c0 c1 c2 c3 c4 c5 c6
  go_wp2
  go_ret
  exact ⟨rfl, HR1.out, HG1.out⟩
set_option maxHeartbeats 1000000 in
set_option maxRecDepth 100000 in
theorem rdo0_down {w : World} {r : Nat} {d : Dk} (h : Row w r (rcells d) 31) (hk : d.ok) (K a n : Int) (bv kv : Value) (hK : (IntKind.u64.wrap K).tmod 6 = 0) (ha0 : ¬ a < 0) (ha : ¬ 1 < a) (hd : d.down = true) : Calls Try.prog 11 #[.pointer (some ⟨r, 0, none⟩), .agg #[.int .i64 K, .int .i64 a, bv, .int .i64 n, kv]] w fun e w' => RP w r 170 d e w' := by
  obtain ⟨w1, hw1⟩ : ∃ w1, Hid (w.alloc (.cells #[.int .i64 K, .int .i64 a, bv, .int .i64 n, kv] 37) = w1) := ⟨_, hid_in rfl⟩
  have hlr := liv_range d.live
  have HW1 : Hid (w.alloc (.cells #[.int .i64 K, .int .i64 a, bv, .int .i64 n, kv] 37) = w1) := hw1
  have HR1 : Hid (Row w1 r (rcells d) 31) := hid_in (by rw [← HW1.out]; exact h.alloc _)
  have HX1 : Hid (Row w1 w.heap.size [.int .i64 K, .int .i64 a, bv, .int .i64 n, kv] 37) := hid_in (by rw [← HW1.out]; exact Row.new w _ 37)
  have HG1 : Hid (w.grownBy w1 (some r)) := hid_in (by rw [← HW1.out]; exact grown_of_below ((Below.refl _ _).alloc (Nat.le_refl _) _))
  have HNE : Hid (w.heap.size ≠ r) := hid_in (by have := h.lt; omega)
  obtain ⟨bx, HBX⟩ : ∃ bx, Hid (w.heap.size = bx) := ⟨_, hid_in rfl⟩
  have HOK := hid_in hk
  clear h hk hw1
  go_enter Try.func11, Try.ntmps11
  go_upto_region 1 with fail
  refine wp_world HW1.out ?_
  rw [HBX.out]
  rw [HBX.out] at HX1 HNE
  have k0 := HX1.out.cell 0
  have k1 := HX1.out.cell 1
  have k2 := HX1.out.cell 2
  have k3 := HX1.out.cell 3
  have k4 := HX1.out.cell 4
  have c0 := HR1.out.cell 0
  have c1 := HR1.out.cell 1
  have c2 := HR1.out.cell 2
  have c3 := HR1.out.cell 3
  have c4 := HR1.out.cell 4
  have c5 := HR1.out.cell 5
  have c6 := HR1.out.cell 6
  have f5 := HR1.out.frozen 5
  simp only [rcells, List.getElem?_cons_succ, List.getElem?_cons_zero] at k0 k1 k2 k3 k4 c0 c1 c2 c3 c4 c5 c6
  rw [hd] at c6
  go_wp2
  go_ret
  exact ⟨rfl, HR1.out, HG1.out⟩
set_option maxHeartbeats 1000000 in
set_option maxRecDepth 100000 in
theorem rdo1_lo {w : World} {r : Nat} {d : Dk} (h : Row w r (rcells d) 31) (hk : d.ok) (K a n : Int) (bv kv : Value) (hK : (IntKind.u64.wrap K).tmod 6 = 1) (ha : a < 0) : Calls Try.prog 11 #[.pointer (some ⟨r, 0, none⟩), .agg #[.int .i64 K, .int .i64 a, bv, .int .i64 n, kv]] w fun e w' => RP w r 1 d e w' := by
  obtain ⟨w1, hw1⟩ : ∃ w1, Hid (w.alloc (.cells #[.int .i64 K, .int .i64 a, bv, .int .i64 n, kv] 37) = w1) := ⟨_, hid_in rfl⟩
  have hlr := liv_range d.live
  have HW1 : Hid (w.alloc (.cells #[.int .i64 K, .int .i64 a, bv, .int .i64 n, kv] 37) = w1) := hw1
  have HR1 : Hid (Row w1 r (rcells d) 31) := hid_in (by rw [← HW1.out]; exact h.alloc _)
  have HX1 : Hid (Row w1 w.heap.size [.int .i64 K, .int .i64 a, bv, .int .i64 n, kv] 37) := hid_in (by rw [← HW1.out]; exact Row.new w _ 37)
  have HG1 : Hid (w.grownBy w1 (some r)) := hid_in (by rw [← HW1.out]; exact grown_of_below ((Below.refl _ _).alloc (Nat.le_refl _) _))
  have HNE : Hid (w.heap.size ≠ r) := hid_in (by have := h.lt; omega)
  obtain ⟨bx, HBX⟩ : ∃ bx, Hid (w.heap.size = bx) := ⟨_, hid_in rfl⟩
  have HOK := hid_in hk
  clear h hk hw1
  go_enter Try.func11, Try.ntmps11
  go_upto_region 1 with fail
  refine wp_world HW1.out ?_
  rw [HBX.out]
  rw [HBX.out] at HX1 HNE
  have k0 := HX1.out.cell 0
  have k1 := HX1.out.cell 1
  have k2 := HX1.out.cell 2
  have k3 := HX1.out.cell 3
  have k4 := HX1.out.cell 4
  have c0 := HR1.out.cell 0
  have c1 := HR1.out.cell 1
  have c2 := HR1.out.cell 2
  have c3 := HR1.out.cell 3
  have c4 := HR1.out.cell 4
  have c5 := HR1.out.cell 5
  have c6 := HR1.out.cell 6
  have f5 := HR1.out.frozen 5
  simp only [rcells, List.getElem?_cons_succ, List.getElem?_cons_zero] at k0 k1 k2 k3 k4 c0 c1 c2 c3 c4 c5 c6
  go_wp2
  go_ret
  exact ⟨rfl, HR1.out, HG1.out⟩
set_option maxHeartbeats 1000000 in
set_option maxRecDepth 100000 in
theorem rdo1_hi {w : World} {r : Nat} {d : Dk} (h : Row w r (rcells d) 31) (hk : d.ok) (K a n : Int) (bv kv : Value) (hK : (IntKind.u64.wrap K).tmod 6 = 1) (ha0 : ¬ a < 0) (ha : 1 < a) : Calls Try.prog 11 #[.pointer (some ⟨r, 0, none⟩), .agg #[.int .i64 K, .int .i64 a, bv, .int .i64 n, kv]] w fun e w' => RP w r 1 d e w' := by
  obtain ⟨w1, hw1⟩ : ∃ w1, Hid (w.alloc (.cells #[.int .i64 K, .int .i64 a, bv, .int .i64 n, kv] 37) = w1) := ⟨_, hid_in rfl⟩
  have hlr := liv_range d.live
  have HW1 : Hid (w.alloc (.cells #[.int .i64 K, .int .i64 a, bv, .int .i64 n, kv] 37) = w1) := hw1
  have HR1 : Hid (Row w1 r (rcells d) 31) := hid_in (by rw [← HW1.out]; exact h.alloc _)
  have HX1 : Hid (Row w1 w.heap.size [.int .i64 K, .int .i64 a, bv, .int .i64 n, kv] 37) := hid_in (by rw [← HW1.out]; exact Row.new w _ 37)
  have HG1 : Hid (w.grownBy w1 (some r)) := hid_in (by rw [← HW1.out]; exact grown_of_below ((Below.refl _ _).alloc (Nat.le_refl _) _))
  have HNE : Hid (w.heap.size ≠ r) := hid_in (by have := h.lt; omega)
  obtain ⟨bx, HBX⟩ : ∃ bx, Hid (w.heap.size = bx) := ⟨_, hid_in rfl⟩
  have HOK := hid_in hk
  clear h hk hw1
  go_enter Try.func11, Try.ntmps11
  go_upto_region 1 with fail
  refine wp_world HW1.out ?_
  rw [HBX.out]
  rw [HBX.out] at HX1 HNE
  have k0 := HX1.out.cell 0
  have k1 := HX1.out.cell 1
  have k2 := HX1.out.cell 2
  have k3 := HX1.out.cell 3
  have k4 := HX1.out.cell 4
  have c0 := HR1.out.cell 0
  have c1 := HR1.out.cell 1
  have c2 := HR1.out.cell 2
  have c3 := HR1.out.cell 3
  have c4 := HR1.out.cell 4
  have c5 := HR1.out.cell 5
  have c6 := HR1.out.cell 6
  have f5 := HR1.out.frozen 5
  simp only [rcells, List.getElem?_cons_succ, List.getElem?_cons_zero] at k0 k1 k2 k3 k4 c0 c1 c2 c3 c4 c5 c6
  go_wp2
  go_ret
  exact ⟨rfl, HR1.out, HG1.out⟩
set_option maxHeartbeats 1000000 in
set_option maxRecDepth 100000 in
theorem rdo1_down {w : World} {r : Nat} {d : Dk} (h : Row w r (rcells d) 31) (hk : d.ok) (K a n : Int) (bv kv : Value) (hK : (IntKind.u64.wrap K).tmod 6 = 1) (ha0 : ¬ a < 0) (ha : ¬ 1 < a) (hd : d.down = true) : Calls Try.prog 11 #[.pointer (some ⟨r, 0, none⟩), .agg #[.int .i64 K, .int .i64 a, bv, .int .i64 n, kv]] w fun e w' => RP w r 170 d e w' := by
  obtain ⟨w1, hw1⟩ : ∃ w1, Hid (w.alloc (.cells #[.int .i64 K, .int .i64 a, bv, .int .i64 n, kv] 37) = w1) := ⟨_, hid_in rfl⟩
  have hlr := liv_range d.live
  have HW1 : Hid (w.alloc (.cells #[.int .i64 K, .int .i64 a, bv, .int .i64 n, kv] 37) = w1) := hw1
  have HR1 : Hid (Row w1 r (rcells d) 31) := hid_in (by rw [← HW1.out]; exact h.alloc _)
  have HX1 : Hid (Row w1 w.heap.size [.int .i64 K, .int .i64 a, bv, .int .i64 n, kv] 37) := hid_in (by rw [← HW1.out]; exact Row.new w _ 37)
  have HG1 : Hid (w.grownBy w1 (some r)) := hid_in (by rw [← HW1.out]; exact grown_of_below ((Below.refl _ _).alloc (Nat.le_refl _) _))
  have HNE : Hid (w.heap.size ≠ r) := hid_in (by have := h.lt; omega)
  obtain ⟨bx, HBX⟩ : ∃ bx, Hid (w.heap.size = bx) := ⟨_, hid_in rfl⟩
  have HOK := hid_in hk
  clear h hk hw1
  go_enter Try.func11, Try.ntmps11
  go_upto_region 1 with fail
  refine wp_world HW1.out ?_
  rw [HBX.out]
  rw [HBX.out] at HX1 HNE
  have k0 := HX1.out.cell 0
  have k1 := HX1.out.cell 1
  have k2 := HX1.out.cell 2
  have k3 := HX1.out.cell 3
  have k4 := HX1.out.cell 4
  have c0 := HR1.out.cell 0
  have c1 := HR1.out.cell 1
  have c2 := HR1.out.cell 2
  have c3 := HR1.out.cell 3
  have c4 := HR1.out.cell 4
  have c5 := HR1.out.cell 5
  have c6 := HR1.out.cell 6
  have f5 := HR1.out.frozen 5
  simp only [rcells, List.getElem?_cons_succ, List.getElem?_cons_zero] at k0 k1 k2 k3 k4 c0 c1 c2 c3 c4 c5 c6
  rw [hd] at c6
  go_wp2
  go_ret
  exact ⟨rfl, HR1.out, HG1.out⟩
set_option maxHeartbeats 1000000 in
set_option maxRecDepth 100000 in
theorem rdo2_lo {w : World} {r : Nat} {d : Dk} (h : Row w r (rcells d) 31) (hk : d.ok) (K a n : Int) (bv kv : Value) (hK : (IntKind.u64.wrap K).tmod 6 = 2) (ha : a < 0) : Calls Try.prog 11 #[.pointer (some ⟨r, 0, none⟩), .agg #[.int .i64 K, .int .i64 a, bv, .int .i64 n, kv]] w fun e w' => RP w r 1 d e w' := by
  obtain ⟨w1, hw1⟩ : ∃ w1, Hid (w.alloc (.cells #[.int .i64 K, .int .i64 a, bv, .int .i64 n, kv] 37) = w1) := ⟨_, hid_in rfl⟩
  have hlr := liv_range d.live
  have HW1 : Hid (w.alloc (.cells #[.int .i64 K, .int .i64 a, bv, .int .i64 n, kv] 37) = w1) := hw1
  have HR1 : Hid (Row w1 r (rcells d) 31) := hid_in (by rw [← HW1.out]; exact h.alloc _)
  have HX1 : Hid (Row w1 w.heap.size [.int .i64 K, .int .i64 a, bv, .int .i64 n, kv] 37) := hid_in (by rw [← HW1.out]; exact Row.new w _ 37)
  have HG1 : Hid (w.grownBy w1 (some r)) := hid_in (by rw [← HW1.out]; exact grown_of_below ((Below.refl _ _).alloc (Nat.le_refl _) _))
  have HNE : Hid (w.heap.size ≠ r) := hid_in (by have := h.lt; omega)
  obtain ⟨bx, HBX⟩ : ∃ bx, Hid (w.heap.size = bx) := ⟨_, hid_in rfl⟩
  have HOK := hid_in hk
  clear h hk hw1
  go_enter Try.func11, Try.ntmps11
  go_upto_region 1 with fail
  refine wp_world HW1.out ?_
  rw [HBX.out]
  rw [HBX.out] at HX1 HNE
  have k0 := HX1.out.cell 0
  have k1 := HX1.out.cell 1
  have k2 := HX1.out.cell 2
  have k3 := HX1.out.cell 3
  have k4 := HX1.out.cell 4
  have c0 := HR1.out.cell 0
  have c1 := HR1.out.cell 1
  have c2 := HR1.out.cell 2
  have c3 := HR1.out.cell 3
  have c4 := HR1.out.cell 4
  have c5 := HR1.out.cell 5
  have c6 := HR1.out.cell 6
  have f5 := HR1.out.frozen 5
  simp only [rcells, List.getElem?_cons_succ, List.getElem?_cons_zero] at k0 k1 k2 k3 k4 c0 c1 c2 c3 c4 c5 c6
  go_wp2
  go_ret
  exact ⟨rfl, HR1.out, HG1.out⟩
set_option maxHeartbeats 1000000 in
set_option maxRecDepth 100000 in
theorem rdo2_hi {w : World} {r : Nat} {d : Dk} (h : Row w r (rcells d) 31) (hk : d.ok) (K a n : Int) (bv kv : Value) (hK : (IntKind.u64.wrap K).tmod 6 = 2) (ha0 : ¬ a < 0) (ha : 1 < a) : Calls Try.prog 11 #[.pointer (some ⟨r, 0, none⟩), .agg #[.int .i64 K, .int .i64 a, bv, .int .i64 n, kv]] w fun e w' => RP w r 1 d e w' := by
  obtain ⟨w1, hw1⟩ : ∃ w1, Hid (w.alloc (.cells #[.int .i64 K, .int .i64 a, bv, .int .i64 n, kv] 37) = w1) := ⟨_, hid_in rfl⟩
  have hlr := liv_range d.live
  have HW1 : Hid (w.alloc (.cells #[.int .i64 K, .int .i64 a, bv, .int .i64 n, kv] 37) = w1) := hw1
  have HR1 : Hid (Row w1 r (rcells d) 31) := hid_in (by rw [← HW1.out]; exact h.alloc _)
  have HX1 : Hid (Row w1 w.heap.size [.int .i64 K, .int .i64 a, bv, .int .i64 n, kv] 37) := hid_in (by rw [← HW1.out]; exact Row.new w _ 37)
  have HG1 : Hid (w.grownBy w1 (some r)) := hid_in (by rw [← HW1.out]; exact grown_of_below ((Below.refl _ _).alloc (Nat.le_refl _) _))
  have HNE : Hid (w.heap.size ≠ r) := hid_in (by have := h.lt; omega)
  obtain ⟨bx, HBX⟩ : ∃ bx, Hid (w.heap.size = bx) := ⟨_, hid_in rfl⟩
  have HOK := hid_in hk
  clear h hk hw1
  go_enter Try.func11, Try.ntmps11
  go_upto_region 1 with fail
  refine wp_world HW1.out ?_
  rw [HBX.out]
  rw [HBX.out] at HX1 HNE
  have k0 := HX1.out.cell 0
  have k1 := HX1.out.cell 1
  have k2 := HX1.out.cell 2
  have k3 := HX1.out.cell 3
  have k4 := HX1.out.cell 4
  have c0 := HR1.out.cell 0
  have c1 := HR1.out.cell 1
  have c2 := HR1.out.cell 2
  have c3 := HR1.out.cell 3
  have c4 := HR1.out.cell 4
  have c5 := HR1.out.cell 5
  have c6 := HR1.out.cell 6
  have f5 := HR1.out.frozen 5
  simp only [rcells, List.getElem?_cons_succ, List.getElem?_cons_zero] at k0 k1 k2 k3 k4 c0 c1 c2 c3 c4 c5 c6
  go_wp2
  go_ret
  exact ⟨rfl, HR1.out, HG1.out⟩
set_option maxHeartbeats 1000000 in
set_option maxRecDepth 100000 in
theorem rdo2_down {w : World} {r : Nat} {d : Dk} (h : Row w r (rcells d) 31) (hk : d.ok) (K a n : Int) (bv kv : Value) (hK : (IntKind.u64.wrap K).tmod 6 = 2) (ha0 : ¬ a < 0) (ha : ¬ 1 < a) (hd : d.down = true) : Calls Try.prog 11 #[.pointer (some ⟨r, 0, none⟩), .agg #[.int .i64 K, .int .i64 a, bv, .int .i64 n, kv]] w fun e w' => RP w r 170 d e w' := by
  obtain ⟨w1, hw1⟩ : ∃ w1, Hid (w.alloc (.cells #[.int .i64 K, .int .i64 a, bv, .int .i64 n, kv] 37) = w1) := ⟨_, hid_in rfl⟩
  have hlr := liv_range d.live
  have HW1 : Hid (w.alloc (.cells #[.int .i64 K, .int .i64 a, bv, .int .i64 n, kv] 37) = w1) := hw1
  have HR1 : Hid (Row w1 r (rcells d) 31) := hid_in (by rw [← HW1.out]; exact h.alloc _)
  have HX1 : Hid (Row w1 w.heap.size [.int .i64 K, .int .i64 a, bv, .int .i64 n, kv] 37) := hid_in (by rw [← HW1.out]; exact Row.new w _ 37)
  have HG1 : Hid (w.grownBy w1 (some r)) := hid_in (by rw [← HW1.out]; exact grown_of_below ((Below.refl _ _).alloc (Nat.le_refl _) _))
  have HNE : Hid (w.heap.size ≠ r) := hid_in (by have := h.lt; omega)
  obtain ⟨bx, HBX⟩ : ∃ bx, Hid (w.heap.size = bx) := ⟨_, hid_in rfl⟩
  have HOK := hid_in hk
  clear h hk hw1
  go_enter Try.func11, Try.ntmps11
  go_upto_region 1 with fail
  refine wp_world HW1.out ?_
  rw [HBX.out]
  rw [HBX.out] at HX1 HNE
  have k0 := HX1.out.cell 0
  have k1 := HX1.out.cell 1
  have k2 := HX1.out.cell 2
  have k3 := HX1.out.cell 3
  have k4 := HX1.out.cell 4
  have c0 := HR1.out.cell 0
  have c1 := HR1.out.cell 1
  have c2 := HR1.out.cell 2
  have c3 := HR1.out.cell 3
  have c4 := HR1.out.cell 4
  have c5 := HR1.out.cell 5
  have c6 := HR1.out.cell 6
  have f5 := HR1.out.frozen 5
  simp only [rcells, List.getElem?_cons_succ, List.getElem?_cons_zero] at k0 k1 k2 k3 k4 c0 c1 c2 c3 c4 c5 c6
  rw [hd] at c6
  go_wp2
  go_ret
  exact ⟨rfl, HR1.out, HG1.out⟩
set_option maxHeartbeats 1000000 in
set_option maxRecDepth 100000 in
theorem rdo3_down {w : World} {r : Nat} {d : Dk} (h : Row w r (rcells d) 31) (hk : d.ok) (K a n : Int) (bv kv : Value) (hK : (IntKind.u64.wrap K).tmod 6 = 3) (hd : d.down = true) : Calls Try.prog 11 #[.pointer (some ⟨r, 0, none⟩), .agg #[.int .i64 K, .int .i64 a, bv, .int .i64 n, kv]] w fun e w' => RP w r 170 d e w' := by
  obtain ⟨w1, hw1⟩ : ∃ w1, Hid (w.alloc (.cells #[.int .i64 K, .int .i64 a, bv, .int .i64 n, kv] 37) = w1) := ⟨_, hid_in rfl⟩
  have hlr := liv_range d.live
  have HW1 : Hid (w.alloc (.cells #[.int .i64 K, .int .i64 a, bv, .int .i64 n, kv] 37) = w1) := hw1
  have HR1 : Hid (Row w1 r (rcells d) 31) := hid_in (by rw [← HW1.out]; exact h.alloc _)
  have HX1 : Hid (Row w1 w.heap.size [.int .i64 K, .int .i64 a, bv, .int .i64 n, kv] 37) := hid_in (by rw [← HW1.out]; exact Row.new w _ 37)
  have HG1 : Hid (w.grownBy w1 (some r)) := hid_in (by rw [← HW1.out]; exact grown_of_below ((Below.refl _ _).alloc (Nat.le_refl _) _))
  have HNE : Hid (w.heap.size ≠ r) := hid_in (by have := h.lt; omega)
  obtain ⟨bx, HBX⟩ : ∃ bx, Hid (w.heap.size = bx) := ⟨_, hid_in rfl⟩
  have HOK := hid_in hk
  clear h hk hw1
  go_enter Try.func11, Try.ntmps11
  go_upto_region 1 with fail
  refine wp_world HW1.out ?_
  rw [HBX.out]
  rw [HBX.out] at HX1 HNE
  have k0 := HX1.out.cell 0
  have k1 := HX1.out.cell 1
  have k2 := HX1.out.cell 2
  have k3 := HX1.out.cell 3
  have k4 := HX1.out.cell 4
  have c0 := HR1.out.cell 0
  have c1 := HR1.out.cell 1
  have c2 := HR1.out.cell 2
  have c3 := HR1.out.cell 3
  have c4 := HR1.out.cell 4
  have c5 := HR1.out.cell 5
  have c6 := HR1.out.cell 6
  have f5 := HR1.out.frozen 5
  simp only [rcells, List.getElem?_cons_succ, List.getElem?_cons_zero] at k0 k1 k2 k3 k4 c0 c1 c2 c3 c4 c5 c6
  rw [hd] at c6
  go_wp2
  go_ret
  exact ⟨rfl, HR1.out, HG1.out⟩
theorem spendD_0 (d : Dk) : (spendD d).a0 = d.a0 := by unfold spendD; split <;> rfl
theorem spendD_1 (d : Dk) : (spendD d).a1 = d.a1 := by unfold spendD; split <;> rfl
theorem spendD_l (d : Dk) : (spendD d).live = d.live := by unfold spendD; split <;> rfl
theorem rset0 (d : Dk) (x : Ar) : rcells (setAr 0 x (spendD d)) = ((rcells (spendD d)).set 0 (.string (str x.bs))).set 2 (.int .i64 (x.sy : Int)) := rfl
theorem rset1 (d : Dk) (x : Ar) : rcells (setAr 1 x (spendD d)) = ((rcells (spendD d)).set 1 (.string (str x.bs))).set 3 (.int .i64 (x.sy : Int)) := rfl
theorem spend_set (a : Int) (x : Ar) (d : Dk) : spendD (setAr a x d) = setAr a x (spendD d) := by
  unfold spendD setAr
  split <;> split <;> simp_all
set_option maxHeartbeats 1000000 in
set_option maxRecDepth 100000 in
theorem rdo0_0_gone {w : World} {r : Nat} {d : Dk} (h : Row w r (rcells d) 31) (hk : d.ok) (K n : Int) (bv kv : Value) (hK : (IntKind.u64.wrap K).tmod 6 = 0) (hd : d.down = false) (hg : decide (d.left = 1) = true) (xs : List Nat) (hcv : Cv w r bv xs) (hlx : d.a0.bs.length + xs.length ≤ 140737488355328) : Calls Try.prog 11 #[.pointer (some ⟨r, 0, none⟩), .agg #[.int .i64 K, .int .i64 0, bv, .int .i64 n, kv]] w fun e w' => RP w r 170 (spendD (setAr 0 ⟨d.a0.bs ++ xs, d.a0.sy⟩ d)) e w' := by
  obtain ⟨w1, hw1⟩ : ∃ w1, Hid (w.alloc (.cells #[.int .i64 K, .int .i64 0, bv, .int .i64 n, kv] 37) = w1) := ⟨_, hid_in rfl⟩
  have hlr := liv_range d.live
  have HW1 : Hid (w.alloc (.cells #[.int .i64 K, .int .i64 0, bv, .int .i64 n, kv] 37) = w1) := hw1
  have HR1 : Hid (Row w1 r (rcells d) 31) := hid_in (by rw [← HW1.out]; exact h.alloc _)
  have HX1 : Hid (Row w1 w.heap.size [.int .i64 K, .int .i64 0, bv, .int .i64 n, kv] 37) := hid_in (by rw [← HW1.out]; exact Row.new w _ 37)
  have HG1 : Hid (w.grownBy w1 (some r)) := hid_in (by rw [← HW1.out]; exact grown_of_below ((Below.refl _ _).alloc (Nat.le_refl _) _))
  have HNE : Hid (w.heap.size ≠ r) := hid_in (by have := h.lt; omega)
  obtain ⟨bx, HBX⟩ : ∃ bx, Hid (w.heap.size = bx) := ⟨_, hid_in rfl⟩
  have HOK := hid_in hk
  have HL := hid_in hg
  clear h hk hw1 hg
  go_enter Try.func11, Try.ntmps11
  go_upto_region 1 with fail
  refine wp_world HW1.out ?_
  rw [HBX.out]
  rw [HBX.out] at HX1 HNE
  have k0 := HX1.out.cell 0
  have k1 := HX1.out.cell 1
  have k2 := HX1.out.cell 2
  have k3 := HX1.out.cell 3
  have k4 := HX1.out.cell 4
  have c0 := HR1.out.cell 0
  have c1 := HR1.out.cell 1
  have c2 := HR1.out.cell 2
  have c3 := HR1.out.cell 3
  have c4 := HR1.out.cell 4
  have c5 := HR1.out.cell 5
  have c6 := HR1.out.cell 6
  have f5 := HR1.out.frozen 5
  simp only [rcells, List.getElem?_cons_succ, List.getElem?_cons_zero] at k0 k1 k2 k3 k4 c0 c1 c2 c3 c4 c5 c6
  rw [hd] at c6
  have HD := hid_in hd
  have hl2 : IntKind.i64.wrap (1 - liv d.live) = oth d := by rw [IntKind.wrap_i64]; unfold oth; omega
  have hl3 : wrap64 (1 - liv d.live) = oth d := by unfold wrap64 oth; omega
  generalize oth d = o at *
  generalize liv d.live = l at *
  clear hd hlr
  go_upto_region 16 with fail
  go_quiet (fail)
  have hb2 : Below w1.heap.size w1 (w1.drewN nq) := Nd.below_drewN (Below.refl _ _) _
  have HR2 : Hid (Row (w1.drewN nq) r (rcells d) 31) := hid_in (HR1.out.below hb2 HR1.out.lt)
  have HX2 : Hid (Row (w1.drewN nq) bx [.int .i64 K, .int .i64 0, bv, .int .i64 n, kv] 37) := hid_in (HX1.out.below hb2 HX1.out.lt)
  have HG2 : Hid (w.grownBy (w1.drewN nq) (some r)) := hid_in (grownBy_trans HG1.out (grown_of_below hb2))
  clear hb2 k0 k1 k2 k3 k4 c0 c1 c2 c3 c4 c5 c6 f5
  generalize w1.drewN nq = w2 at *
  go_upto_region 20 with (first | (go_at_call 25; refine (goes_any HR2.out HOK.out HD.out).mono ?_; rintro e w3 ⟨he, hr3, hg3⟩; rw [HL.out] at he; subst he; have HR3 := hid_in hr3; have HG3 := hid_in hg3; have HX3 := hid_in (HX2.out.grown hg3 (fun e => HNE.out (Option.some.inj e))); clear hr3 hg3))
  have HG3w : Hid (w.grownBy w3 (some r)) := hid_in (grownBy_trans HG2.out HG3.out)
  have k1 := HX3.out.cell 1
  have k2 := HX3.out.cell 2
  have c0 := HR3.out.cell 0
  have c1 := HR3.out.cell 1
  have c2 := HR3.out.cell 2
  have c3 := HR3.out.cell 3
  have c4 := HR3.out.cell 4
  have f0 := HR3.out.frozen 0
  have f1 := HR3.out.frozen 1
  have f2 := HR3.out.frozen 2
  have f3 := HR3.out.frozen 3
  have f4 := HR3.out.frozen 4
  simp only [rcells, spendD_0, spendD_1, spendD_l, List.getElem?_cons_succ, List.getElem?_cons_zero] at k1 k2 c0 c1 c2 c3 c4
  have HS3 : Hid (∀ W, Below w3.heap.size w3 W → W.cell? ⟨r, 0, none⟩ = some (.string (str d.a0.bs)) ∧ W.cell? ⟨bx, 1, none⟩ = some (.int .i64 0) ∧ W.cell? ⟨bx, 2, none⟩ = some bv ∧ (convert 34 9 bv).run Try.prog W = .ok (.string (str xs)) W ∧ (binOp .add 9 (.string (str d.a0.bs)) (.string (str xs))).run Try.prog W = .ok (.string (str d.a0.bs ++ str xs)) W) := hid_in (fun W hW => ⟨(hW.cell (p := ⟨r, 0, none⟩) HR3.out.lt).trans c0, (hW.cell (p := ⟨bx, 1, none⟩) HX3.out.lt).trans k1, (hW.cell (p := ⟨bx, 2, none⟩) HX3.out.lt).trans k2, hcv W (grownBy_trans HG3w.out (grown_of_below hW)), str_add _ _ (by rw [Nd.str_size, Nd.str_size]; omega) W⟩)
  obtain ⟨X, HX⟩ : ∃ X, Hid (str d.a0.bs = X) := ⟨_, hid_in rfl⟩
  obtain ⟨Z, HZ⟩ : ∃ Z, Hid (str xs = Z) := ⟨_, hid_in rfl⟩
  have hsz : X.size + Z.size ≤ 9223372036854775807 := by rw [← HX.out, ← HZ.out, Nd.str_size, Nd.str_size]; omega
  have hsz3 : ¬ (9223372036854775807 : Int) < (X.size : Int) + (Z.size : Int) := by omega
  have hsz4 : ¬ (9223372036854775807 : Nat) < X.size + Z.size := by omega
  have hsz2 : ¬ IntKind.i64.max < ((X.size : Int) + (Z.size : Int)) := by
    have : IntKind.i64.max = 9223372036854775807 := rfl
    omega
  rw [HX.out, HZ.out] at HS3
  rw [HX.out] at c0
  have hR4 : Row (w3.setCell ⟨r, 0, none⟩ (.string (X ++ Z))) r (rcells (spendD (setAr 0 ⟨d.a0.bs ++ xs, d.a0.sy⟩ d))) 31 := by
    have e := HR3.out.set_same 0 (.string (X ++ Z))
    rw [← HX.out, ← HZ.out, ← str_app] at e ⊢
    rw [spend_set]
    have e2 : rcells (setAr 0 ⟨d.a0.bs ++ xs, d.a0.sy⟩ (spendD d)) = (rcells (spendD d)).set 0 (.string (str (d.a0.bs ++ xs))) := by
      rw [rset0]
      simp only [rcells, spendD_0, List.set_cons_zero, List.set_cons_succ]
    rw [e2]
    exact e
  have HR4 := hid_in hR4
  clear hR4 hcv hlx hsz
  have HCN := (HS3.out w3.drew (Below.refl _ _).drew).2.2.2.1
  have HAN := (HS3.out w3.drew (Below.refl _ _).drew).2.2.2.2
  go_region
  go_wp2
  go_ret
  exact ⟨rfl, HR4.out.drew, grownBy_trans HG3w.out (grownBy_trans (grownBy_setCell _ _ _) (grown_of_below (Below.refl _ _).drew))⟩
set_option maxHeartbeats 1000000 in
set_option maxRecDepth 100000 in
theorem rdo0_0_ok {w : World} {r : Nat} {d : Dk} (h : Row w r (rcells d) 31) (hk : d.ok) (K n : Int) (bv kv : Value) (hK : (IntKind.u64.wrap K).tmod 6 = 0) (hd : d.down = false) (hg : decide (d.left = 1) = false) (xs : List Nat) (hcv : Cv w r bv xs) (hlx : d.a0.bs.length + xs.length ≤ 140737488355328) : Calls Try.prog 11 #[.pointer (some ⟨r, 0, none⟩), .agg #[.int .i64 K, .int .i64 0, bv, .int .i64 n, kv]] w fun e w' => RP w r 0 (spendD (setAr 0 ⟨d.a0.bs ++ xs, d.a0.sy⟩ d)) e w' := by
  obtain ⟨w1, hw1⟩ : ∃ w1, Hid (w.alloc (.cells #[.int .i64 K, .int .i64 0, bv, .int .i64 n, kv] 37) = w1) := ⟨_, hid_in rfl⟩
  have hlr := liv_range d.live
  have HW1 : Hid (w.alloc (.cells #[.int .i64 K, .int .i64 0, bv, .int .i64 n, kv] 37) = w1) := hw1
  have HR1 : Hid (Row w1 r (rcells d) 31) := hid_in (by rw [← HW1.out]; exact h.alloc _)
  have HX1 : Hid (Row w1 w.heap.size [.int .i64 K, .int .i64 0, bv, .int .i64 n, kv] 37) := hid_in (by rw [← HW1.out]; exact Row.new w _ 37)
  have HG1 : Hid (w.grownBy w1 (some r)) := hid_in (by rw [← HW1.out]; exact grown_of_below ((Below.refl _ _).alloc (Nat.le_refl _) _))
  have HNE : Hid (w.heap.size ≠ r) := hid_in (by have := h.lt; omega)
  obtain ⟨bx, HBX⟩ : ∃ bx, Hid (w.heap.size = bx) := ⟨_, hid_in rfl⟩
  have HOK := hid_in hk
  have HL := hid_in hg
  clear h hk hw1 hg
  go_enter Try.func11, Try.ntmps11
  go_upto_region 1 with fail
  refine wp_world HW1.out ?_
  rw [HBX.out]
  rw [HBX.out] at HX1 HNE
  have k0 := HX1.out.cell 0
  have k1 := HX1.out.cell 1
  have k2 := HX1.out.cell 2
  have k3 := HX1.out.cell 3
  have k4 := HX1.out.cell 4
  have c0 := HR1.out.cell 0
  have c1 := HR1.out.cell 1
  have c2 := HR1.out.cell 2
  have c3 := HR1.out.cell 3
  have c4 := HR1.out.cell 4
  have c5 := HR1.out.cell 5
  have c6 := HR1.out.cell 6
  have f5 := HR1.out.frozen 5
  simp only [rcells, List.getElem?_cons_succ, List.getElem?_cons_zero] at k0 k1 k2 k3 k4 c0 c1 c2 c3 c4 c5 c6
  rw [hd] at c6
  have HD := hid_in hd
  have hl2 : IntKind.i64.wrap (1 - liv d.live) = oth d := by rw [IntKind.wrap_i64]; unfold oth; omega
  have hl3 : wrap64 (1 - liv d.live) = oth d := by unfold wrap64 oth; omega
  generalize oth d = o at *
  generalize liv d.live = l at *
  clear hd hlr
  go_upto_region 16 with fail
  go_quiet (fail)
  have hb2 : Below w1.heap.size w1 (w1.drewN nq) := Nd.below_drewN (Below.refl _ _) _
  have HR2 : Hid (Row (w1.drewN nq) r (rcells d) 31) := hid_in (HR1.out.below hb2 HR1.out.lt)
  have HX2 : Hid (Row (w1.drewN nq) bx [.int .i64 K, .int .i64 0, bv, .int .i64 n, kv] 37) := hid_in (HX1.out.below hb2 HX1.out.lt)
  have HG2 : Hid (w.grownBy (w1.drewN nq) (some r)) := hid_in (grownBy_trans HG1.out (grown_of_below hb2))
  clear hb2 k0 k1 k2 k3 k4 c0 c1 c2 c3 c4 c5 c6 f5
  generalize w1.drewN nq = w2 at *
  go_upto_region 20 with (first | (go_at_call 25; refine (goes_any HR2.out HOK.out HD.out).mono ?_; rintro e w3 ⟨he, hr3, hg3⟩; rw [HL.out] at he; subst he; have HR3 := hid_in hr3; have HG3 := hid_in hg3; have HX3 := hid_in (HX2.out.grown hg3 (fun e => HNE.out (Option.some.inj e))); clear hr3 hg3))
  have HG3w : Hid (w.grownBy w3 (some r)) := hid_in (grownBy_trans HG2.out HG3.out)
  have k1 := HX3.out.cell 1
  have k2 := HX3.out.cell 2
  have c0 := HR3.out.cell 0
  have c1 := HR3.out.cell 1
  have c2 := HR3.out.cell 2
  have c3 := HR3.out.cell 3
  have c4 := HR3.out.cell 4
  have f0 := HR3.out.frozen 0
  have f1 := HR3.out.frozen 1
  have f2 := HR3.out.frozen 2
  have f3 := HR3.out.frozen 3
  have f4 := HR3.out.frozen 4
  simp only [rcells, spendD_0, spendD_1, spendD_l, List.getElem?_cons_succ, List.getElem?_cons_zero] at k1 k2 c0 c1 c2 c3 c4
  have HS3 : Hid (∀ W, Below w3.heap.size w3 W → W.cell? ⟨r, 0, none⟩ = some (.string (str d.a0.bs)) ∧ W.cell? ⟨bx, 1, none⟩ = some (.int .i64 0) ∧ W.cell? ⟨bx, 2, none⟩ = some bv ∧ (convert 34 9 bv).run Try.prog W = .ok (.string (str xs)) W ∧ (binOp .add 9 (.string (str d.a0.bs)) (.string (str xs))).run Try.prog W = .ok (.string (str d.a0.bs ++ str xs)) W) := hid_in (fun W hW => ⟨(hW.cell (p := ⟨r, 0, none⟩) HR3.out.lt).trans c0, (hW.cell (p := ⟨bx, 1, none⟩) HX3.out.lt).trans k1, (hW.cell (p := ⟨bx, 2, none⟩) HX3.out.lt).trans k2, hcv W (grownBy_trans HG3w.out (grown_of_below hW)), str_add _ _ (by rw [Nd.str_size, Nd.str_size]; omega) W⟩)
  obtain ⟨X, HX⟩ : ∃ X, Hid (str d.a0.bs = X) := ⟨_, hid_in rfl⟩
  obtain ⟨Z, HZ⟩ : ∃ Z, Hid (str xs = Z) := ⟨_, hid_in rfl⟩
  have hsz : X.size + Z.size ≤ 9223372036854775807 := by rw [← HX.out, ← HZ.out, Nd.str_size, Nd.str_size]; omega
  have hsz3 : ¬ (9223372036854775807 : Int) < (X.size : Int) + (Z.size : Int) := by omega
  have hsz4 : ¬ (9223372036854775807 : Nat) < X.size + Z.size := by omega
  have hsz2 : ¬ IntKind.i64.max < ((X.size : Int) + (Z.size : Int)) := by
    have : IntKind.i64.max = 9223372036854775807 := rfl
    omega
  rw [HX.out, HZ.out] at HS3
  rw [HX.out] at c0
  have hR4 : Row (w3.setCell ⟨r, 0, none⟩ (.string (X ++ Z))) r (rcells (spendD (setAr 0 ⟨d.a0.bs ++ xs, d.a0.sy⟩ d))) 31 := by
    have e := HR3.out.set_same 0 (.string (X ++ Z))
    rw [← HX.out, ← HZ.out, ← str_app] at e ⊢
    rw [spend_set]
    have e2 : rcells (setAr 0 ⟨d.a0.bs ++ xs, d.a0.sy⟩ (spendD d)) = (rcells (spendD d)).set 0 (.string (str (d.a0.bs ++ xs))) := by
      rw [rset0]
      simp only [rcells, spendD_0, List.set_cons_zero, List.set_cons_succ]
    rw [e2]
    exact e
  have HR4 := hid_in hR4
  clear hR4 hcv hlx hsz
  have HCN := (HS3.out w3.drew (Below.refl _ _).drew).2.2.2.1
  have HAN := (HS3.out w3.drew (Below.refl _ _).drew).2.2.2.2
  go_region
  go_wp2
  go_ret
  exact ⟨rfl, HR4.out.drew, grownBy_trans HG3w.out (grownBy_trans (grownBy_setCell _ _ _) (grown_of_below (Below.refl _ _).drew))⟩
set_option maxHeartbeats 1000000 in
set_option maxRecDepth 100000 in
theorem rdo0_1_gone {w : World} {r : Nat} {d : Dk} (h : Row w r (rcells d) 31) (hk : d.ok) (K n : Int) (bv kv : Value) (hK : (IntKind.u64.wrap K).tmod 6 = 0) (hd : d.down = false) (hg : decide (d.left = 1) = true) (xs : List Nat) (hcv : Cv w r bv xs) (hlx : d.a1.bs.length + xs.length ≤ 140737488355328) : Calls Try.prog 11 #[.pointer (some ⟨r, 0, none⟩), .agg #[.int .i64 K, .int .i64 1, bv, .int .i64 n, kv]] w fun e w' => RP w r 170 (spendD (setAr 1 ⟨d.a1.bs ++ xs, d.a1.sy⟩ d)) e w' := by
  obtain ⟨w1, hw1⟩ : ∃ w1, Hid (w.alloc (.cells #[.int .i64 K, .int .i64 1, bv, .int .i64 n, kv] 37) = w1) := ⟨_, hid_in rfl⟩
  have hlr := liv_range d.live
  have HW1 : Hid (w.alloc (.cells #[.int .i64 K, .int .i64 1, bv, .int .i64 n, kv] 37) = w1) := hw1
  have HR1 : Hid (Row w1 r (rcells d) 31) := hid_in (by rw [← HW1.out]; exact h.alloc _)
  have HX1 : Hid (Row w1 w.heap.size [.int .i64 K, .int .i64 1, bv, .int .i64 n, kv] 37) := hid_in (by rw [← HW1.out]; exact Row.new w _ 37)
  have HG1 : Hid (w.grownBy w1 (some r)) := hid_in (by rw [← HW1.out]; exact grown_of_below ((Below.refl _ _).alloc (Nat.le_refl _) _))
  have HNE : Hid (w.heap.size ≠ r) := hid_in (by have := h.lt; omega)
  obtain ⟨bx, HBX⟩ : ∃ bx, Hid (w.heap.size = bx) := ⟨_, hid_in rfl⟩
  have HOK := hid_in hk
  have HL := hid_in hg
  clear h hk hw1 hg
  go_enter Try.func11, Try.ntmps11
  go_upto_region 1 with fail
  refine wp_world HW1.out ?_
  rw [HBX.out]
  rw [HBX.out] at HX1 HNE
  have k0 := HX1.out.cell 0
  have k1 := HX1.out.cell 1
  have k2 := HX1.out.cell 2
  have k3 := HX1.out.cell 3
  have k4 := HX1.out.cell 4
  have c0 := HR1.out.cell 0
  have c1 := HR1.out.cell 1
  have c2 := HR1.out.cell 2
  have c3 := HR1.out.cell 3
  have c4 := HR1.out.cell 4
  have c5 := HR1.out.cell 5
  have c6 := HR1.out.cell 6
  have f5 := HR1.out.frozen 5
  simp only [rcells, List.getElem?_cons_succ, List.getElem?_cons_zero] at k0 k1 k2 k3 k4 c0 c1 c2 c3 c4 c5 c6
  rw [hd] at c6
  have HD := hid_in hd
  have hl2 : IntKind.i64.wrap (1 - liv d.live) = oth d := by rw [IntKind.wrap_i64]; unfold oth; omega
  have hl3 : wrap64 (1 - liv d.live) = oth d := by unfold wrap64 oth; omega
  generalize oth d = o at *
  generalize liv d.live = l at *
  clear hd hlr
  go_upto_region 16 with fail
  go_quiet (fail)
  have hb2 : Below w1.heap.size w1 (w1.drewN nq) := Nd.below_drewN (Below.refl _ _) _
  have HR2 : Hid (Row (w1.drewN nq) r (rcells d) 31) := hid_in (HR1.out.below hb2 HR1.out.lt)
  have HX2 : Hid (Row (w1.drewN nq) bx [.int .i64 K, .int .i64 1, bv, .int .i64 n, kv] 37) := hid_in (HX1.out.below hb2 HX1.out.lt)
  have HG2 : Hid (w.grownBy (w1.drewN nq) (some r)) := hid_in (grownBy_trans HG1.out (grown_of_below hb2))
  clear hb2 k0 k1 k2 k3 k4 c0 c1 c2 c3 c4 c5 c6 f5
  generalize w1.drewN nq = w2 at *
  go_upto_region 20 with (first | (go_at_call 25; refine (goes_any HR2.out HOK.out HD.out).mono ?_; rintro e w3 ⟨he, hr3, hg3⟩; rw [HL.out] at he; subst he; have HR3 := hid_in hr3; have HG3 := hid_in hg3; have HX3 := hid_in (HX2.out.grown hg3 (fun e => HNE.out (Option.some.inj e))); clear hr3 hg3))
  have HG3w : Hid (w.grownBy w3 (some r)) := hid_in (grownBy_trans HG2.out HG3.out)
  have k1 := HX3.out.cell 1
  have k2 := HX3.out.cell 2
  have c0 := HR3.out.cell 0
  have c1 := HR3.out.cell 1
  have c2 := HR3.out.cell 2
  have c3 := HR3.out.cell 3
  have c4 := HR3.out.cell 4
  have f0 := HR3.out.frozen 0
  have f1 := HR3.out.frozen 1
  have f2 := HR3.out.frozen 2
  have f3 := HR3.out.frozen 3
  have f4 := HR3.out.frozen 4
  simp only [rcells, spendD_0, spendD_1, spendD_l, List.getElem?_cons_succ, List.getElem?_cons_zero] at k1 k2 c0 c1 c2 c3 c4
  have HS3 : Hid (∀ W, Below w3.heap.size w3 W → W.cell? ⟨r, 1, none⟩ = some (.string (str d.a1.bs)) ∧ W.cell? ⟨bx, 1, none⟩ = some (.int .i64 1) ∧ W.cell? ⟨bx, 2, none⟩ = some bv ∧ (convert 34 9 bv).run Try.prog W = .ok (.string (str xs)) W ∧ (binOp .add 9 (.string (str d.a1.bs)) (.string (str xs))).run Try.prog W = .ok (.string (str d.a1.bs ++ str xs)) W) := hid_in (fun W hW => ⟨(hW.cell (p := ⟨r, 1, none⟩) HR3.out.lt).trans c1, (hW.cell (p := ⟨bx, 1, none⟩) HX3.out.lt).trans k1, (hW.cell (p := ⟨bx, 2, none⟩) HX3.out.lt).trans k2, hcv W (grownBy_trans HG3w.out (grown_of_below hW)), str_add _ _ (by rw [Nd.str_size, Nd.str_size]; omega) W⟩)
  obtain ⟨X, HX⟩ : ∃ X, Hid (str d.a1.bs = X) := ⟨_, hid_in rfl⟩
  obtain ⟨Z, HZ⟩ : ∃ Z, Hid (str xs = Z) := ⟨_, hid_in rfl⟩
  have hsz : X.size + Z.size ≤ 9223372036854775807 := by rw [← HX.out, ← HZ.out, Nd.str_size, Nd.str_size]; omega
  have hsz3 : ¬ (9223372036854775807 : Int) < (X.size : Int) + (Z.size : Int) := by omega
  have hsz4 : ¬ (9223372036854775807 : Nat) < X.size + Z.size := by omega
  have hsz2 : ¬ IntKind.i64.max < ((X.size : Int) + (Z.size : Int)) := by
    have : IntKind.i64.max = 9223372036854775807 := rfl
    omega
  rw [HX.out, HZ.out] at HS3
  rw [HX.out] at c1
  have hR4 : Row (w3.setCell ⟨r, 1, none⟩ (.string (X ++ Z))) r (rcells (spendD (setAr 1 ⟨d.a1.bs ++ xs, d.a1.sy⟩ d))) 31 := by
    have e := HR3.out.set_same 1 (.string (X ++ Z))
    rw [← HX.out, ← HZ.out, ← str_app] at e ⊢
    rw [spend_set]
    have e2 : rcells (setAr 1 ⟨d.a1.bs ++ xs, d.a1.sy⟩ (spendD d)) = (rcells (spendD d)).set 1 (.string (str (d.a1.bs ++ xs))) := by
      rw [rset1]
      simp only [rcells, spendD_1, List.set_cons_zero, List.set_cons_succ]
    rw [e2]
    exact e
  have HR4 := hid_in hR4
  clear hR4 hcv hlx hsz
  have HCN := (HS3.out w3.drew (Below.refl _ _).drew).2.2.2.1
  have HAN := (HS3.out w3.drew (Below.refl _ _).drew).2.2.2.2
  go_region
  go_wp2
  go_ret
  exact ⟨rfl, HR4.out.drew, grownBy_trans HG3w.out (grownBy_trans (grownBy_setCell _ _ _) (grown_of_below (Below.refl _ _).drew))⟩
set_option maxHeartbeats 1000000 in
set_option maxRecDepth 100000 in
theorem rdo0_1_ok {w : World} {r : Nat} {d : Dk} (h : Row w r (rcells d) 31) (hk : d.ok) (K n : Int) (bv kv : Value) (hK : (IntKind.u64.wrap K).tmod 6 = 0) (hd : d.down = false) (hg : decide (d.left = 1) = false) (xs : List Nat) (hcv : Cv w r bv xs) (hlx : d.a1.bs.length + xs.length ≤ 140737488355328) : Calls Try.prog 11 #[.pointer (some ⟨r, 0, none⟩), .agg #[.int .i64 K, .int .i64 1, bv, .int .i64 n, kv]] w fun e w' => RP w r 0 (spendD (setAr 1 ⟨d.a1.bs ++ xs, d.a1.sy⟩ d)) e w' := by
  obtain ⟨w1, hw1⟩ : ∃ w1, Hid (w.alloc (.cells #[.int .i64 K, .int .i64 1, bv, .int .i64 n, kv] 37) = w1) := ⟨_, hid_in rfl⟩
  have hlr := liv_range d.live
  have HW1 : Hid (w.alloc (.cells #[.int .i64 K, .int .i64 1, bv, .int .i64 n, kv] 37) = w1) := hw1
  have HR1 : Hid (Row w1 r (rcells d) 31) := hid_in (by rw [← HW1.out]; exact h.alloc _)
  have HX1 : Hid (Row w1 w.heap.size [.int .i64 K, .int .i64 1, bv, .int .i64 n, kv] 37) := hid_in (by rw [← HW1.out]; exact Row.new w _ 37)
  have HG1 : Hid (w.grownBy w1 (some r)) := hid_in (by rw [← HW1.out]; exact grown_of_below ((Below.refl _ _).alloc (Nat.le_refl _) _))
  have HNE : Hid (w.heap.size ≠ r) := hid_in (by have := h.lt; omega)
  obtain ⟨bx, HBX⟩ : ∃ bx, Hid (w.heap.size = bx) := ⟨_, hid_in rfl⟩
  have HOK := hid_in hk
  have HL := hid_in hg
  clear h hk hw1 hg
  go_enter Try.func11, Try.ntmps11
  go_upto_region 1 with fail
  refine wp_world HW1.out ?_
  rw [HBX.out]
  rw [HBX.out] at HX1 HNE
  have k0 := HX1.out.cell 0
  have k1 := HX1.out.cell 1
  have k2 := HX1.out.cell 2
  have k3 := HX1.out.cell 3
  have k4 := HX1.out.cell 4
  have c0 := HR1.out.cell 0
  have c1 := HR1.out.cell 1
  have c2 := HR1.out.cell 2
  have c3 := HR1.out.cell 3
  have c4 := HR1.out.cell 4
  have c5 := HR1.out.cell 5
  have c6 := HR1.out.cell 6
  have f5 := HR1.out.frozen 5
  simp only [rcells, List.getElem?_cons_succ, List.getElem?_cons_zero] at k0 k1 k2 k3 k4 c0 c1 c2 c3 c4 c5 c6
  rw [hd] at c6
  have HD := hid_in hd
  have hl2 : IntKind.i64.wrap (1 - liv d.live) = oth d := by rw [IntKind.wrap_i64]; unfold oth; omega
  have hl3 : wrap64 (1 - liv d.live) = oth d := by unfold wrap64 oth; omega
  generalize oth d = o at *
  generalize liv d.live = l at *
  clear hd hlr
  go_upto_region 16 with fail
  go_quiet (fail)
  have hb2 : Below w1.heap.size w1 (w1.drewN nq) := Nd.below_drewN (Below.refl _ _) _
  have HR2 : Hid (Row (w1.drewN nq) r (rcells d) 31) := hid_in (HR1.out.below hb2 HR1.out.lt)
  have HX2 : Hid (Row (w1.drewN nq) bx [.int .i64 K, .int .i64 1, bv, .int .i64 n, kv] 37) := hid_in (HX1.out.below hb2 HX1.out.lt)
  have HG2 : Hid (w.grownBy (w1.drewN nq) (some r)) := hid_in (grownBy_trans HG1.out (grown_of_below hb2))
  clear hb2 k0 k1 k2 k3 k4 c0 c1 c2 c3 c4 c5 c6 f5
  generalize w1.drewN nq = w2 at *
  go_upto_region 20 with (first | (go_at_call 25; refine (goes_any HR2.out HOK.out HD.out).mono ?_; rintro e w3 ⟨he, hr3, hg3⟩; rw [HL.out] at he; subst he; have HR3 := hid_in hr3; have HG3 := hid_in hg3; have HX3 := hid_in (HX2.out.grown hg3 (fun e => HNE.out (Option.some.inj e))); clear hr3 hg3))
  have HG3w : Hid (w.grownBy w3 (some r)) := hid_in (grownBy_trans HG2.out HG3.out)
  have k1 := HX3.out.cell 1
  have k2 := HX3.out.cell 2
  have c0 := HR3.out.cell 0
  have c1 := HR3.out.cell 1
  have c2 := HR3.out.cell 2
  have c3 := HR3.out.cell 3
  have c4 := HR3.out.cell 4
  have f0 := HR3.out.frozen 0
  have f1 := HR3.out.frozen 1
  have f2 := HR3.out.frozen 2
  have f3 := HR3.out.frozen 3
  have f4 := HR3.out.frozen 4
  simp only [rcells, spendD_0, spendD_1, spendD_l, List.getElem?_cons_succ, List.getElem?_cons_zero] at k1 k2 c0 c1 c2 c3 c4
  have HS3 : Hid (∀ W, Below w3.heap.size w3 W → W.cell? ⟨r, 1, none⟩ = some (.string (str d.a1.bs)) ∧ W.cell? ⟨bx, 1, none⟩ = some (.int .i64 1) ∧ W.cell? ⟨bx, 2, none⟩ = some bv ∧ (convert 34 9 bv).run Try.prog W = .ok (.string (str xs)) W ∧ (binOp .add 9 (.string (str d.a1.bs)) (.string (str xs))).run Try.prog W = .ok (.string (str d.a1.bs ++ str xs)) W) := hid_in (fun W hW => ⟨(hW.cell (p := ⟨r, 1, none⟩) HR3.out.lt).trans c1, (hW.cell (p := ⟨bx, 1, none⟩) HX3.out.lt).trans k1, (hW.cell (p := ⟨bx, 2, none⟩) HX3.out.lt).trans k2, hcv W (grownBy_trans HG3w.out (grown_of_below hW)), str_add _ _ (by rw [Nd.str_size, Nd.str_size]; omega) W⟩)
  obtain ⟨X, HX⟩ : ∃ X, Hid (str d.a1.bs = X) := ⟨_, hid_in rfl⟩
  obtain ⟨Z, HZ⟩ : ∃ Z, Hid (str xs = Z) := ⟨_, hid_in rfl⟩
  have hsz : X.size + Z.size ≤ 9223372036854775807 := by rw [← HX.out, ← HZ.out, Nd.str_size, Nd.str_size]; omega
  have hsz3 : ¬ (9223372036854775807 : Int) < (X.size : Int) + (Z.size : Int) := by omega
  have hsz4 : ¬ (9223372036854775807 : Nat) < X.size + Z.size := by omega
  have hsz2 : ¬ IntKind.i64.max < ((X.size : Int) + (Z.size : Int)) := by
    have : IntKind.i64.max = 9223372036854775807 := rfl
    omega
  rw [HX.out, HZ.out] at HS3
  rw [HX.out] at c1
  have hR4 : Row (w3.setCell ⟨r, 1, none⟩ (.string (X ++ Z))) r (rcells (spendD (setAr 1 ⟨d.a1.bs ++ xs, d.a1.sy⟩ d))) 31 := by
    have e := HR3.out.set_same 1 (.string (X ++ Z))
    rw [← HX.out, ← HZ.out, ← str_app] at e ⊢
    rw [spend_set]
    have e2 : rcells (setAr 1 ⟨d.a1.bs ++ xs, d.a1.sy⟩ (spendD d)) = (rcells (spendD d)).set 1 (.string (str (d.a1.bs ++ xs))) := by
      rw [rset1]
      simp only [rcells, spendD_1, List.set_cons_zero, List.set_cons_succ]
    rw [e2]
    exact e
  have HR4 := hid_in hR4
  clear hR4 hcv hlx hsz
  have HCN := (HS3.out w3.drew (Below.refl _ _).drew).2.2.2.1
  have HAN := (HS3.out w3.drew (Below.refl _ _).drew).2.2.2.2
  go_region
  go_wp2
  go_ret
  exact ⟨rfl, HR4.out.drew, grownBy_trans HG3w.out (grownBy_trans (grownBy_setCell _ _ _) (grown_of_below (Below.refl _ _).drew))⟩
set_option maxHeartbeats 1000000 in
set_option maxRecDepth 100000 in
theorem rdo1_0_gone {w : World} {r : Nat} {d : Dk} (h : Row w r (rcells d) 31) (hk : d.ok) (K n : Int) (bv kv : Value) (hK : (IntKind.u64.wrap K).tmod 6 = 1) (hd : d.down = false) (hg : decide (d.left = 1) = true) : Calls Try.prog 11 #[.pointer (some ⟨r, 0, none⟩), .agg #[.int .i64 K, .int .i64 0, bv, .int .i64 n, kv]] w fun e w' => RP w r 170 (spendD d) e w' := by
  obtain ⟨w1, hw1⟩ : ∃ w1, Hid (w.alloc (.cells #[.int .i64 K, .int .i64 0, bv, .int .i64 n, kv] 37) = w1) := ⟨_, hid_in rfl⟩
  have hlr := liv_range d.live
  have HW1 : Hid (w.alloc (.cells #[.int .i64 K, .int .i64 0, bv, .int .i64 n, kv] 37) = w1) := hw1
  have HR1 : Hid (Row w1 r (rcells d) 31) := hid_in (by rw [← HW1.out]; exact h.alloc _)
  have HX1 : Hid (Row w1 w.heap.size [.int .i64 K, .int .i64 0, bv, .int .i64 n, kv] 37) := hid_in (by rw [← HW1.out]; exact Row.new w _ 37)
  have HG1 : Hid (w.grownBy w1 (some r)) := hid_in (by rw [← HW1.out]; exact grown_of_below ((Below.refl _ _).alloc (Nat.le_refl _) _))
  have HNE : Hid (w.heap.size ≠ r) := hid_in (by have := h.lt; omega)
  obtain ⟨bx, HBX⟩ : ∃ bx, Hid (w.heap.size = bx) := ⟨_, hid_in rfl⟩
  have HOK := hid_in hk
  have HL := hid_in hg
  clear h hk hw1 hg
  go_enter Try.func11, Try.ntmps11
  go_upto_region 1 with fail
  refine wp_world HW1.out ?_
  rw [HBX.out]
  rw [HBX.out] at HX1 HNE
  have k0 := HX1.out.cell 0
  have k1 := HX1.out.cell 1
  have k2 := HX1.out.cell 2
  have k3 := HX1.out.cell 3
  have k4 := HX1.out.cell 4
  have c0 := HR1.out.cell 0
  have c1 := HR1.out.cell 1
  have c2 := HR1.out.cell 2
  have c3 := HR1.out.cell 3
  have c4 := HR1.out.cell 4
  have c5 := HR1.out.cell 5
  have c6 := HR1.out.cell 6
  have f5 := HR1.out.frozen 5
  simp only [rcells, List.getElem?_cons_succ, List.getElem?_cons_zero] at k0 k1 k2 k3 k4 c0 c1 c2 c3 c4 c5 c6
  rw [hd] at c6
  have HD := hid_in hd
  have hl2 : IntKind.i64.wrap (1 - liv d.live) = oth d := by rw [IntKind.wrap_i64]; unfold oth; omega
  have hl3 : wrap64 (1 - liv d.live) = oth d := by unfold wrap64 oth; omega
  generalize oth d = o at *
  generalize liv d.live = l at *
  clear hd hlr
  go_upto_region 16 with fail
  go_quiet (fail)
  have hb2 : Below w1.heap.size w1 (w1.drewN nq) := Nd.below_drewN (Below.refl _ _) _
  have HR2 : Hid (Row (w1.drewN nq) r (rcells d) 31) := hid_in (HR1.out.below hb2 HR1.out.lt)
  have HX2 : Hid (Row (w1.drewN nq) bx [.int .i64 K, .int .i64 0, bv, .int .i64 n, kv] 37) := hid_in (HX1.out.below hb2 HX1.out.lt)
  have HG2 : Hid (w.grownBy (w1.drewN nq) (some r)) := hid_in (grownBy_trans HG1.out (grown_of_below hb2))
  clear hb2 k0 k1 k2 k3 k4 c0 c1 c2 c3 c4 c5 c6 f5
  generalize w1.drewN nq = w2 at *
  go_wp2_with (first | (go_at_call 25; refine (goes_any HR2.out HOK.out HD.out).mono ?_; rintro e w3 ⟨he, hr3, hg3⟩; rw [HL.out] at he; subst he; have HR3 := hid_in hr3; have HG3 := hid_in hg3; clear hr3 hg3))
  go_ret
  exact ⟨rfl, HR3.out, grownBy_trans HG2.out HG3.out⟩
set_option maxHeartbeats 1000000 in
set_option maxRecDepth 100000 in
theorem rdo1_0_ok {w : World} {r : Nat} {d : Dk} (h : Row w r (rcells d) 31) (hk : d.ok) (K n : Int) (bv kv : Value) (hK : (IntKind.u64.wrap K).tmod 6 = 1) (hd : d.down = false) (hg : decide (d.left = 1) = false) : Calls Try.prog 11 #[.pointer (some ⟨r, 0, none⟩), .agg #[.int .i64 K, .int .i64 0, bv, .int .i64 n, kv]] w fun e w' => RP w r 0 (setAr 0 ⟨d.a0.bs, d.a0.bs.length⟩ (spendD d)) e w' := by
  obtain ⟨w1, hw1⟩ : ∃ w1, Hid (w.alloc (.cells #[.int .i64 K, .int .i64 0, bv, .int .i64 n, kv] 37) = w1) := ⟨_, hid_in rfl⟩
  have hlr := liv_range d.live
  have HW1 : Hid (w.alloc (.cells #[.int .i64 K, .int .i64 0, bv, .int .i64 n, kv] 37) = w1) := hw1
  have HR1 : Hid (Row w1 r (rcells d) 31) := hid_in (by rw [← HW1.out]; exact h.alloc _)
  have HX1 : Hid (Row w1 w.heap.size [.int .i64 K, .int .i64 0, bv, .int .i64 n, kv] 37) := hid_in (by rw [← HW1.out]; exact Row.new w _ 37)
  have HG1 : Hid (w.grownBy w1 (some r)) := hid_in (by rw [← HW1.out]; exact grown_of_below ((Below.refl _ _).alloc (Nat.le_refl _) _))
  have HNE : Hid (w.heap.size ≠ r) := hid_in (by have := h.lt; omega)
  obtain ⟨bx, HBX⟩ : ∃ bx, Hid (w.heap.size = bx) := ⟨_, hid_in rfl⟩
  have HOK := hid_in hk
  have HL := hid_in hg
  clear h hk hw1 hg
  go_enter Try.func11, Try.ntmps11
  go_upto_region 1 with fail
  refine wp_world HW1.out ?_
  rw [HBX.out]
  rw [HBX.out] at HX1 HNE
  have k0 := HX1.out.cell 0
  have k1 := HX1.out.cell 1
  have k2 := HX1.out.cell 2
  have k3 := HX1.out.cell 3
  have k4 := HX1.out.cell 4
  have c0 := HR1.out.cell 0
  have c1 := HR1.out.cell 1
  have c2 := HR1.out.cell 2
  have c3 := HR1.out.cell 3
  have c4 := HR1.out.cell 4
  have c5 := HR1.out.cell 5
  have c6 := HR1.out.cell 6
  have f5 := HR1.out.frozen 5
  simp only [rcells, List.getElem?_cons_succ, List.getElem?_cons_zero] at k0 k1 k2 k3 k4 c0 c1 c2 c3 c4 c5 c6
  rw [hd] at c6
  have HD := hid_in hd
  have hl2 : IntKind.i64.wrap (1 - liv d.live) = oth d := by rw [IntKind.wrap_i64]; unfold oth; omega
  have hl3 : wrap64 (1 - liv d.live) = oth d := by unfold wrap64 oth; omega
  generalize oth d = o at *
  generalize liv d.live = l at *
  clear hd hlr
  go_upto_region 16 with fail
  go_quiet (fail)
  have hb2 : Below w1.heap.size w1 (w1.drewN nq) := Nd.below_drewN (Below.refl _ _) _
  have HR2 : Hid (Row (w1.drewN nq) r (rcells d) 31) := hid_in (HR1.out.below hb2 HR1.out.lt)
  have HX2 : Hid (Row (w1.drewN nq) bx [.int .i64 K, .int .i64 0, bv, .int .i64 n, kv] 37) := hid_in (HX1.out.below hb2 HX1.out.lt)
  have HG2 : Hid (w.grownBy (w1.drewN nq) (some r)) := hid_in (grownBy_trans HG1.out (grown_of_below hb2))
  clear hb2 k0 k1 k2 k3 k4 c0 c1 c2 c3 c4 c5 c6 f5
  generalize w1.drewN nq = w2 at *
  go_upto_region 24 with (first | (go_at_call 25; refine (goes_any HR2.out HOK.out HD.out).mono ?_; rintro e w3 ⟨he, hr3, hg3⟩; rw [HL.out] at he; subst he; have HR3 := hid_in hr3; have HG3 := hid_in hg3; have HX3 := hid_in (HX2.out.grown hg3 (fun e => HNE.out (Option.some.inj e))); clear hr3 hg3))
  have HG3w : Hid (w.grownBy w3 (some r)) := hid_in (grownBy_trans HG2.out HG3.out)
  have k1 := HX3.out.cell 1
  have k2 := HX3.out.cell 2
  have c0 := HR3.out.cell 0
  have c1 := HR3.out.cell 1
  have c2 := HR3.out.cell 2
  have c3 := HR3.out.cell 3
  have c4 := HR3.out.cell 4
  have f0 := HR3.out.frozen 0
  have f1 := HR3.out.frozen 1
  have f2 := HR3.out.frozen 2
  have f3 := HR3.out.frozen 3
  have f4 := HR3.out.frozen 4
  simp only [rcells, spendD_0, spendD_1, spendD_l, List.getElem?_cons_succ, List.getElem?_cons_zero] at k1 k2 c0 c1 c2 c3 c4
  have hXs : (str d.a0.bs).size = d.a0.bs.length := Nd.str_size _
  have HR4 : Hid (Row (w3.setCell ⟨r, 2, none⟩ (.int .i64 (d.a0.bs.length : Int))).drew r (rcells (setAr 0 ⟨d.a0.bs, d.a0.bs.length⟩ (spendD d))) 31) := hid_in (by
    have e := HR3.out.set_same 2 (.int .i64 (d.a0.bs.length : Int))
    have e2 : rcells (setAr 0 ⟨d.a0.bs, d.a0.bs.length⟩ (spendD d)) = (rcells (spendD d)).set 2 (.int .i64 (d.a0.bs.length : Int)) := by
      rw [rset0]
      simp only [rcells, spendD_0, List.set_cons_zero, List.set_cons_succ]
    rw [e2]
    exact e)
  go_region
  go_wp2
  go_ret
  exact ⟨rfl, HR4.out, grownBy_trans HG3w.out (grownBy_trans (grownBy_setCell _ _ _) (grown_of_below (Below.refl _ _).drew))⟩
set_option maxHeartbeats 1000000 in
set_option maxRecDepth 100000 in
theorem rdo1_1_gone {w : World} {r : Nat} {d : Dk} (h : Row w r (rcells d) 31) (hk : d.ok) (K n : Int) (bv kv : Value) (hK : (IntKind.u64.wrap K).tmod 6 = 1) (hd : d.down = false) (hg : decide (d.left = 1) = true) : Calls Try.prog 11 #[.pointer (some ⟨r, 0, none⟩), .agg #[.int .i64 K, .int .i64 1, bv, .int .i64 n, kv]] w fun e w' => RP w r 170 (spendD d) e w' := by
  obtain ⟨w1, hw1⟩ : ∃ w1, Hid (w.alloc (.cells #[.int .i64 K, .int .i64 1, bv, .int .i64 n, kv] 37) = w1) := ⟨_, hid_in rfl⟩
  have hlr := liv_range d.live
  have HW1 : Hid (w.alloc (.cells #[.int .i64 K, .int .i64 1, bv, .int .i64 n, kv] 37) = w1) := hw1
  have HR1 : Hid (Row w1 r (rcells d) 31) := hid_in (by rw [← HW1.out]; exact h.alloc _)
  have HX1 : Hid (Row w1 w.heap.size [.int .i64 K, .int .i64 1, bv, .int .i64 n, kv] 37) := hid_in (by rw [← HW1.out]; exact Row.new w _ 37)
  have HG1 : Hid (w.grownBy w1 (some r)) := hid_in (by rw [← HW1.out]; exact grown_of_below ((Below.refl _ _).alloc (Nat.le_refl _) _))
  have HNE : Hid (w.heap.size ≠ r) := hid_in (by have := h.lt; omega)
  obtain ⟨bx, HBX⟩ : ∃ bx, Hid (w.heap.size = bx) := ⟨_, hid_in rfl⟩
  have HOK := hid_in hk
  have HL := hid_in hg
  clear h hk hw1 hg
  go_enter Try.func11, Try.ntmps11
  go_upto_region 1 with fail
  refine wp_world HW1.out ?_
  rw [HBX.out]
  rw [HBX.out] at HX1 HNE
  have k0 := HX1.out.cell 0
  have k1 := HX1.out.cell 1
  have k2 := HX1.out.cell 2
  have k3 := HX1.out.cell 3
  have k4 := HX1.out.cell 4
  have c0 := HR1.out.cell 0
  have c1 := HR1.out.cell 1
  have c2 := HR1.out.cell 2
  have c3 := HR1.out.cell 3
  have c4 := HR1.out.cell 4
  have c5 := HR1.out.cell 5
  have c6 := HR1.out.cell 6
  have f5 := HR1.out.frozen 5
  simp only [rcells, List.getElem?_cons_succ, List.getElem?_cons_zero] at k0 k1 k2 k3 k4 c0 c1 c2 c3 c4 c5 c6
  rw [hd] at c6
  have HD := hid_in hd
  have hl2 : IntKind.i64.wrap (1 - liv d.live) = oth d := by rw [IntKind.wrap_i64]; unfold oth; omega
  have hl3 : wrap64 (1 - liv d.live) = oth d := by unfold wrap64 oth; omega
  generalize oth d = o at *
  generalize liv d.live = l at *
  clear hd hlr
  go_upto_region 16 with fail
  go_quiet (fail)
  have hb2 : Below w1.heap.size w1 (w1.drewN nq) := Nd.below_drewN (Below.refl _ _) _
  have HR2 : Hid (Row (w1.drewN nq) r (rcells d) 31) := hid_in (HR1.out.below hb2 HR1.out.lt)
  have HX2 : Hid (Row (w1.drewN nq) bx [.int .i64 K, .int .i64 1, bv, .int .i64 n, kv] 37) := hid_in (HX1.out.below hb2 HX1.out.lt)
  have HG2 : Hid (w.grownBy (w1.drewN nq) (some r)) := hid_in (grownBy_trans HG1.out (grown_of_below hb2))
  clear hb2 k0 k1 k2 k3 k4 c0 c1 c2 c3 c4 c5 c6 f5
  generalize w1.drewN nq = w2 at *
  go_wp2_with (first | (go_at_call 25; refine (goes_any HR2.out HOK.out HD.out).mono ?_; rintro e w3 ⟨he, hr3, hg3⟩; rw [HL.out] at he; subst he; have HR3 := hid_in hr3; have HG3 := hid_in hg3; clear hr3 hg3))
  go_ret
  exact ⟨rfl, HR3.out, grownBy_trans HG2.out HG3.out⟩
set_option maxHeartbeats 1000000 in
set_option maxRecDepth 100000 in
theorem rdo1_1_ok {w : World} {r : Nat} {d : Dk} (h : Row w r (rcells d) 31) (hk : d.ok) (K n : Int) (bv kv : Value) (hK : (IntKind.u64.wrap K).tmod 6 = 1) (hd : d.down = false) (hg : decide (d.left = 1) = false) : Calls Try.prog 11 #[.pointer (some ⟨r, 0, none⟩), .agg #[.int .i64 K, .int .i64 1, bv, .int .i64 n, kv]] w fun e w' => RP w r 0 (setAr 1 ⟨d.a1.bs, d.a1.bs.length⟩ (spendD d)) e w' := by
  obtain ⟨w1, hw1⟩ : ∃ w1, Hid (w.alloc (.cells #[.int .i64 K, .int .i64 1, bv, .int .i64 n, kv] 37) = w1) := ⟨_, hid_in rfl⟩
  have hlr := liv_range d.live
  have HW1 : Hid (w.alloc (.cells #[.int .i64 K, .int .i64 1, bv, .int .i64 n, kv] 37) = w1) := hw1
  have HR1 : Hid (Row w1 r (rcells d) 31) := hid_in (by rw [← HW1.out]; exact h.alloc _)
  have HX1 : Hid (Row w1 w.heap.size [.int .i64 K, .int .i64 1, bv, .int .i64 n, kv] 37) := hid_in (by rw [← HW1.out]; exact Row.new w _ 37)
  have HG1 : Hid (w.grownBy w1 (some r)) := hid_in (by rw [← HW1.out]; exact grown_of_below ((Below.refl _ _).alloc (Nat.le_refl _) _))
  have HNE : Hid (w.heap.size ≠ r) := hid_in (by have := h.lt; omega)
  obtain ⟨bx, HBX⟩ : ∃ bx, Hid (w.heap.size = bx) := ⟨_, hid_in rfl⟩
  have HOK := hid_in hk
  have HL := hid_in hg
  clear h hk hw1 hg
  go_enter Try.func11, Try.ntmps11
  go_upto_region 1 with fail
  refine wp_world HW1.out ?_
  rw [HBX.out]
  rw [HBX.out] at HX1 HNE
  have k0 := HX1.out.cell 0
  have k1 := HX1.out.cell 1
  have k2 := HX1.out.cell 2
  have k3 := HX1.out.cell 3
  have k4 := HX1.out.cell 4
  have c0 := HR1.out.cell 0
  have c1 := HR1.out.cell 1
  have c2 := HR1.out.cell 2
  have c3 := HR1.out.cell 3
  have c4 := HR1.out.cell 4
  have c5 := HR1.out.cell 5
  have c6 := HR1.out.cell 6
  have f5 := HR1.out.frozen 5
  simp only [rcells, List.getElem?_cons_succ, List.getElem?_cons_zero] at k0 k1 k2 k3 k4 c0 c1 c2 c3 c4 c5 c6
  rw [hd] at c6
  have HD := hid_in hd
  have hl2 : IntKind.i64.wrap (1 - liv d.live) = oth d := by rw [IntKind.wrap_i64]; unfold oth; omega
  have hl3 : wrap64 (1 - liv d.live) = oth d := by unfold wrap64 oth; omega
  generalize oth d = o at *
  generalize liv d.live = l at *
  clear hd hlr
  go_upto_region 16 with fail
  go_quiet (fail)
  have hb2 : Below w1.heap.size w1 (w1.drewN nq) := Nd.below_drewN (Below.refl _ _) _
  have HR2 : Hid (Row (w1.drewN nq) r (rcells d) 31) := hid_in (HR1.out.below hb2 HR1.out.lt)
  have HX2 : Hid (Row (w1.drewN nq) bx [.int .i64 K, .int .i64 1, bv, .int .i64 n, kv] 37) := hid_in (HX1.out.below hb2 HX1.out.lt)
  have HG2 : Hid (w.grownBy (w1.drewN nq) (some r)) := hid_in (grownBy_trans HG1.out (grown_of_below hb2))
  clear hb2 k0 k1 k2 k3 k4 c0 c1 c2 c3 c4 c5 c6 f5
  generalize w1.drewN nq = w2 at *
  go_upto_region 24 with (first | (go_at_call 25; refine (goes_any HR2.out HOK.out HD.out).mono ?_; rintro e w3 ⟨he, hr3, hg3⟩; rw [HL.out] at he; subst he; have HR3 := hid_in hr3; have HG3 := hid_in hg3; have HX3 := hid_in (HX2.out.grown hg3 (fun e => HNE.out (Option.some.inj e))); clear hr3 hg3))
  have HG3w : Hid (w.grownBy w3 (some r)) := hid_in (grownBy_trans HG2.out HG3.out)
  have k1 := HX3.out.cell 1
  have k2 := HX3.out.cell 2
  have c0 := HR3.out.cell 0
  have c1 := HR3.out.cell 1
  have c2 := HR3.out.cell 2
  have c3 := HR3.out.cell 3
  have c4 := HR3.out.cell 4
  have f0 := HR3.out.frozen 0
  have f1 := HR3.out.frozen 1
  have f2 := HR3.out.frozen 2
  have f3 := HR3.out.frozen 3
  have f4 := HR3.out.frozen 4
  simp only [rcells, spendD_0, spendD_1, spendD_l, List.getElem?_cons_succ, List.getElem?_cons_zero] at k1 k2 c0 c1 c2 c3 c4
  have hXs : (str d.a1.bs).size = d.a1.bs.length := Nd.str_size _
  have HR4 : Hid (Row (w3.setCell ⟨r, 3, none⟩ (.int .i64 (d.a1.bs.length : Int))).drew r (rcells (setAr 1 ⟨d.a1.bs, d.a1.bs.length⟩ (spendD d))) 31) := hid_in (by
    have e := HR3.out.set_same 3 (.int .i64 (d.a1.bs.length : Int))
    have e2 : rcells (setAr 1 ⟨d.a1.bs, d.a1.bs.length⟩ (spendD d)) = (rcells (spendD d)).set 3 (.int .i64 (d.a1.bs.length : Int)) := by
      rw [rset1]
      simp only [rcells, spendD_1, List.set_cons_zero, List.set_cons_succ]
    rw [e2]
    exact e)
  go_region
  go_wp2
  go_ret
  exact ⟨rfl, HR4.out, grownBy_trans HG3w.out (grownBy_trans (grownBy_setCell _ _ _) (grown_of_below (Below.refl _ _).drew))⟩
set_option maxHeartbeats 1000000 in
set_option maxRecDepth 100000 in
theorem rdo2_0_gone {w : World} {r : Nat} {d : Dk} (h : Row w r (rcells d) 31) (hk : d.ok) (K n : Int) (bv kv : Value) (hK : (IntKind.u64.wrap K).tmod 6 = 2) (hd : d.down = false) (hg : decide (d.left = 1) = true) (hll : (0 == liv d.live) = false) : Calls Try.prog 11 #[.pointer (some ⟨r, 0, none⟩), .agg #[.int .i64 K, .int .i64 0, bv, .int .i64 n, kv]] w fun e w' => RP w r 170 (spendD d) e w' := by
  obtain ⟨w1, hw1⟩ : ∃ w1, Hid (w.alloc (.cells #[.int .i64 K, .int .i64 0, bv, .int .i64 n, kv] 37) = w1) := ⟨_, hid_in rfl⟩
  have hlr := liv_range d.live
  have HW1 : Hid (w.alloc (.cells #[.int .i64 K, .int .i64 0, bv, .int .i64 n, kv] 37) = w1) := hw1
  have HR1 : Hid (Row w1 r (rcells d) 31) := hid_in (by rw [← HW1.out]; exact h.alloc _)
  have HX1 : Hid (Row w1 w.heap.size [.int .i64 K, .int .i64 0, bv, .int .i64 n, kv] 37) := hid_in (by rw [← HW1.out]; exact Row.new w _ 37)
  have HG1 : Hid (w.grownBy w1 (some r)) := hid_in (by rw [← HW1.out]; exact grown_of_below ((Below.refl _ _).alloc (Nat.le_refl _) _))
  have HNE : Hid (w.heap.size ≠ r) := hid_in (by have := h.lt; omega)
  obtain ⟨bx, HBX⟩ : ∃ bx, Hid (w.heap.size = bx) := ⟨_, hid_in rfl⟩
  have HOK := hid_in hk
  have HL := hid_in hg
  clear h hk hw1 hg
  go_enter Try.func11, Try.ntmps11
  go_upto_region 1 with fail
  refine wp_world HW1.out ?_
  rw [HBX.out]
  rw [HBX.out] at HX1 HNE
  have k0 := HX1.out.cell 0
  have k1 := HX1.out.cell 1
  have k2 := HX1.out.cell 2
  have k3 := HX1.out.cell 3
  have k4 := HX1.out.cell 4
  have c0 := HR1.out.cell 0
  have c1 := HR1.out.cell 1
  have c2 := HR1.out.cell 2
  have c3 := HR1.out.cell 3
  have c4 := HR1.out.cell 4
  have c5 := HR1.out.cell 5
  have c6 := HR1.out.cell 6
  have f5 := HR1.out.frozen 5
  simp only [rcells, List.getElem?_cons_succ, List.getElem?_cons_zero] at k0 k1 k2 k3 k4 c0 c1 c2 c3 c4 c5 c6
  rw [hd] at c6
  have HD := hid_in hd
  have hl2 : IntKind.i64.wrap (1 - liv d.live) = oth d := by rw [IntKind.wrap_i64]; unfold oth; omega
  have hl3 : wrap64 (1 - liv d.live) = oth d := by unfold wrap64 oth; omega
  generalize oth d = o at *
  generalize liv d.live = l at *
  clear hd hlr
  go_upto_region 16 with fail
  go_quiet (fail)
  have hb2 : Below w1.heap.size w1 (w1.drewN nq) := Nd.below_drewN (Below.refl _ _) _
  have HR2 : Hid (Row (w1.drewN nq) r (rcells d) 31) := hid_in (HR1.out.below hb2 HR1.out.lt)
  have HX2 : Hid (Row (w1.drewN nq) bx [.int .i64 K, .int .i64 0, bv, .int .i64 n, kv] 37) := hid_in (HX1.out.below hb2 HX1.out.lt)
  have HG2 : Hid (w.grownBy (w1.drewN nq) (some r)) := hid_in (grownBy_trans HG1.out (grown_of_below hb2))
  clear hb2 k0 k1 k2 k3 k4 c0 c1 c2 c3 c4 c5 c6 f5
  generalize w1.drewN nq = w2 at *
  go_wp2_with (first | (go_at_call 25; refine (goes_any HR2.out HOK.out HD.out).mono ?_; rintro e w3 ⟨he, hr3, hg3⟩; rw [HL.out] at he; subst he; have HR3 := hid_in hr3; have HG3 := hid_in hg3; clear hr3 hg3))
  go_ret
  exact ⟨rfl, HR3.out, grownBy_trans HG2.out HG3.out⟩
set_option maxHeartbeats 1000000 in
set_option maxRecDepth 100000 in
theorem rdo2_0_ok {w : World} {r : Nat} {d : Dk} (h : Row w r (rcells d) 31) (hk : d.ok) (K n : Int) (bv kv : Value) (hK : (IntKind.u64.wrap K).tmod 6 = 2) (hd : d.down = false) (hg : decide (d.left = 1) = false) (hll : (0 == liv d.live) = false) : Calls Try.prog 11 #[.pointer (some ⟨r, 0, none⟩), .agg #[.int .i64 K, .int .i64 0, bv, .int .i64 n, kv]] w fun e w' => RP w r 0 (setAr 0 ⟨[], 0⟩ (spendD d)) e w' := by
  obtain ⟨w1, hw1⟩ : ∃ w1, Hid (w.alloc (.cells #[.int .i64 K, .int .i64 0, bv, .int .i64 n, kv] 37) = w1) := ⟨_, hid_in rfl⟩
  have hlr := liv_range d.live
  have HW1 : Hid (w.alloc (.cells #[.int .i64 K, .int .i64 0, bv, .int .i64 n, kv] 37) = w1) := hw1
  have HR1 : Hid (Row w1 r (rcells d) 31) := hid_in (by rw [← HW1.out]; exact h.alloc _)
  have HX1 : Hid (Row w1 w.heap.size [.int .i64 K, .int .i64 0, bv, .int .i64 n, kv] 37) := hid_in (by rw [← HW1.out]; exact Row.new w _ 37)
  have HG1 : Hid (w.grownBy w1 (some r)) := hid_in (by rw [← HW1.out]; exact grown_of_below ((Below.refl _ _).alloc (Nat.le_refl _) _))
  have HNE : Hid (w.heap.size ≠ r) := hid_in (by have := h.lt; omega)
  obtain ⟨bx, HBX⟩ : ∃ bx, Hid (w.heap.size = bx) := ⟨_, hid_in rfl⟩
  have HOK := hid_in hk
  have HL := hid_in hg
  clear h hk hw1 hg
  go_enter Try.func11, Try.ntmps11
  go_upto_region 1 with fail
  refine wp_world HW1.out ?_
  rw [HBX.out]
  rw [HBX.out] at HX1 HNE
  have k0 := HX1.out.cell 0
  have k1 := HX1.out.cell 1
  have k2 := HX1.out.cell 2
  have k3 := HX1.out.cell 3
  have k4 := HX1.out.cell 4
  have c0 := HR1.out.cell 0
  have c1 := HR1.out.cell 1
  have c2 := HR1.out.cell 2
  have c3 := HR1.out.cell 3
  have c4 := HR1.out.cell 4
  have c5 := HR1.out.cell 5
  have c6 := HR1.out.cell 6
  have f5 := HR1.out.frozen 5
  simp only [rcells, List.getElem?_cons_succ, List.getElem?_cons_zero] at k0 k1 k2 k3 k4 c0 c1 c2 c3 c4 c5 c6
  rw [hd] at c6
  have HD := hid_in hd
  have hl2 : IntKind.i64.wrap (1 - liv d.live) = oth d := by rw [IntKind.wrap_i64]; unfold oth; omega
  have hl3 : wrap64 (1 - liv d.live) = oth d := by unfold wrap64 oth; omega
  generalize oth d = o at *
  generalize liv d.live = l at *
  clear hd hlr
  go_upto_region 16 with fail
  go_quiet (fail)
  have hb2 : Below w1.heap.size w1 (w1.drewN nq) := Nd.below_drewN (Below.refl _ _) _
  have HR2 : Hid (Row (w1.drewN nq) r (rcells d) 31) := hid_in (HR1.out.below hb2 HR1.out.lt)
  have HX2 : Hid (Row (w1.drewN nq) bx [.int .i64 K, .int .i64 0, bv, .int .i64 n, kv] 37) := hid_in (HX1.out.below hb2 HX1.out.lt)
  have HG2 : Hid (w.grownBy (w1.drewN nq) (some r)) := hid_in (grownBy_trans HG1.out (grown_of_below hb2))
  clear hb2 k0 k1 k2 k3 k4 c0 c1 c2 c3 c4 c5 c6 f5
  generalize w1.drewN nq = w2 at *
  go_upto_region 26 with (first | (go_at_call 25; refine (goes_any HR2.out HOK.out HD.out).mono ?_; rintro e w3 ⟨he, hr3, hg3⟩; rw [HL.out] at he; subst he; have HR3 := hid_in hr3; have HG3 := hid_in hg3; have HX3 := hid_in (HX2.out.grown hg3 (fun e => HNE.out (Option.some.inj e))); clear hr3 hg3))
  have HG3w : Hid (w.grownBy w3 (some r)) := hid_in (grownBy_trans HG2.out HG3.out)
  have k1 := HX3.out.cell 1
  have k2 := HX3.out.cell 2
  have c0 := HR3.out.cell 0
  have c1 := HR3.out.cell 1
  have c2 := HR3.out.cell 2
  have c3 := HR3.out.cell 3
  have c4 := HR3.out.cell 4
  have f0 := HR3.out.frozen 0
  have f1 := HR3.out.frozen 1
  have f2 := HR3.out.frozen 2
  have f3 := HR3.out.frozen 3
  have f4 := HR3.out.frozen 4
  simp only [rcells, spendD_0, spendD_1, spendD_l, List.getElem?_cons_succ, List.getElem?_cons_zero] at k1 k2 c0 c1 c2 c3 c4
  go_region
  obtain ⟨w4, HW4⟩ : ∃ w4, Hid ((w3.setCell ⟨r, 0, none⟩ (.string ⟨#[]⟩)).drew = w4) := ⟨_, hid_in rfl⟩
  have HG4 : Hid (w3.grownBy w4 (some r)) := hid_in (by rw [← HW4.out]; exact grownBy_trans (grownBy_setCell _ _ _) (grown_of_below (Below.refl _ _).drew))
  have HR4 : Hid (Row w4 r ((rcells (spendD d)).set 0 (.string ⟨#[]⟩)) 31) := hid_in (by rw [← HW4.out]; exact (HR3.out.set_same 0 _).drew)
  have HX4 := hid_in (HX3.out.grown HG4.out (fun e => HNE.out (Option.some.inj e)))
  go_upto_region 27 with fail
  refine wp_world HW4.out ?_
  clear k1 k2 c0 c1 c2 c3 c4 f0 f1 f2 f3 f4
  have k1 := HX4.out.cell 1
  have c2 := HR4.out.cell 2
  have f2 := HR4.out.frozen 2
  simp only [rcells, spendD_0, spendD_1, spendD_l, List.set_cons_zero, List.getElem?_cons_succ, List.getElem?_cons_zero] at k1 c2
  have HR5 : Hid (Row (w4.setCell ⟨r, 2, none⟩ (.int .i64 0)).drew r (rcells (setAr 0 ⟨[], 0⟩ (spendD d))) 31) := hid_in ((HR4.out.set_same 2 _).drew)
  go_region
  go_wp2
  go_ret
  exact ⟨rfl, HR5.out, grownBy_trans HG3w.out (grownBy_trans HG4.out (grownBy_trans (grownBy_setCell _ _ _) (grown_of_below (Below.refl _ _).drew)))⟩
set_option maxHeartbeats 1000000 in
set_option maxRecDepth 100000 in
theorem rdo2_1_gone {w : World} {r : Nat} {d : Dk} (h : Row w r (rcells d) 31) (hk : d.ok) (K n : Int) (bv kv : Value) (hK : (IntKind.u64.wrap K).tmod 6 = 2) (hd : d.down = false) (hg : decide (d.left = 1) = true) (hll : (1 == liv d.live) = false) : Calls Try.prog 11 #[.pointer (some ⟨r, 0, none⟩), .agg #[.int .i64 K, .int .i64 1, bv, .int .i64 n, kv]] w fun e w' => RP w r 170 (spendD d) e w' := by
  obtain ⟨w1, hw1⟩ : ∃ w1, Hid (w.alloc (.cells #[.int .i64 K, .int .i64 1, bv, .int .i64 n, kv] 37) = w1) := ⟨_, hid_in rfl⟩
  have hlr := liv_range d.live
  have HW1 : Hid (w.alloc (.cells #[.int .i64 K, .int .i64 1, bv, .int .i64 n, kv] 37) = w1) := hw1
  have HR1 : Hid (Row w1 r (rcells d) 31) := hid_in (by rw [← HW1.out]; exact h.alloc _)
  have HX1 : Hid (Row w1 w.heap.size [.int .i64 K, .int .i64 1, bv, .int .i64 n, kv] 37) := hid_in (by rw [← HW1.out]; exact Row.new w _ 37)
  have HG1 : Hid (w.grownBy w1 (some r)) := hid_in (by rw [← HW1.out]; exact grown_of_below ((Below.refl _ _).alloc (Nat.le_refl _) _))
  have HNE : Hid (w.heap.size ≠ r) := hid_in (by have := h.lt; omega)
  obtain ⟨bx, HBX⟩ : ∃ bx, Hid (w.heap.size = bx) := ⟨_, hid_in rfl⟩
  have HOK := hid_in hk
  have HL := hid_in hg
  clear h hk hw1 hg
  go_enter Try.func11, Try.ntmps11
  go_upto_region 1 with fail
  refine wp_world HW1.out ?_
  rw [HBX.out]
  rw [HBX.out] at HX1 HNE
  have k0 := HX1.out.cell 0
  have k1 := HX1.out.cell 1
  have k2 := HX1.out.cell 2
  have k3 := HX1.out.cell 3
  have k4 := HX1.out.cell 4
  have c0 := HR1.out.cell 0
  have c1 := HR1.out.cell 1
  have c2 := HR1.out.cell 2
  have c3 := HR1.out.cell 3
  have c4 := HR1.out.cell 4
  have c5 := HR1.out.cell 5
  have c6 := HR1.out.cell 6
  have f5 := HR1.out.frozen 5
  simp only [rcells, List.getElem?_cons_succ, List.getElem?_cons_zero] at k0 k1 k2 k3 k4 c0 c1 c2 c3 c4 c5 c6
  rw [hd] at c6
  have HD := hid_in hd
  have hl2 : IntKind.i64.wrap (1 - liv d.live) = oth d := by rw [IntKind.wrap_i64]; unfold oth; omega
  have hl3 : wrap64 (1 - liv d.live) = oth d := by unfold wrap64 oth; omega
  generalize oth d = o at *
  generalize liv d.live = l at *
  clear hd hlr
  go_upto_region 16 with fail
  go_quiet (fail)
  have hb2 : Below w1.heap.size w1 (w1.drewN nq) := Nd.below_drewN (Below.refl _ _) _
  have HR2 : Hid (Row (w1.drewN nq) r (rcells d) 31) := hid_in (HR1.out.below hb2 HR1.out.lt)
  have HX2 : Hid (Row (w1.drewN nq) bx [.int .i64 K, .int .i64 1, bv, .int .i64 n, kv] 37) := hid_in (HX1.out.below hb2 HX1.out.lt)
  have HG2 : Hid (w.grownBy (w1.drewN nq) (some r)) := hid_in (grownBy_trans HG1.out (grown_of_below hb2))
  clear hb2 k0 k1 k2 k3 k4 c0 c1 c2 c3 c4 c5 c6 f5
  generalize w1.drewN nq = w2 at *
  go_wp2_with (first | (go_at_call 25; refine (goes_any HR2.out HOK.out HD.out).mono ?_; rintro e w3 ⟨he, hr3, hg3⟩; rw [HL.out] at he; subst he; have HR3 := hid_in hr3; have HG3 := hid_in hg3; clear hr3 hg3))
  go_ret
  exact ⟨rfl, HR3.out, grownBy_trans HG2.out HG3.out⟩
set_option maxHeartbeats 1000000 in
set_option maxRecDepth 100000 in
theorem rdo2_1_ok {w : World} {r : Nat} {d : Dk} (h : Row w r (rcells d) 31) (hk : d.ok) (K n : Int) (bv kv : Value) (hK : (IntKind.u64.wrap K).tmod 6 = 2) (hd : d.down = false) (hg : decide (d.left = 1) = false) (hll : (1 == liv d.live) = false) : Calls Try.prog 11 #[.pointer (some ⟨r, 0, none⟩), .agg #[.int .i64 K, .int .i64 1, bv, .int .i64 n, kv]] w fun e w' => RP w r 0 (setAr 1 ⟨[], 0⟩ (spendD d)) e w' := by
  obtain ⟨w1, hw1⟩ : ∃ w1, Hid (w.alloc (.cells #[.int .i64 K, .int .i64 1, bv, .int .i64 n, kv] 37) = w1) := ⟨_, hid_in rfl⟩
  have hlr := liv_range d.live
  have HW1 : Hid (w.alloc (.cells #[.int .i64 K, .int .i64 1, bv, .int .i64 n, kv] 37) = w1) := hw1
  have HR1 : Hid (Row w1 r (rcells d) 31) := hid_in (by rw [← HW1.out]; exact h.alloc _)
  have HX1 : Hid (Row w1 w.heap.size [.int .i64 K, .int .i64 1, bv, .int .i64 n, kv] 37) := hid_in (by rw [← HW1.out]; exact Row.new w _ 37)
  have HG1 : Hid (w.grownBy w1 (some r)) := hid_in (by rw [← HW1.out]; exact grown_of_below ((Below.refl _ _).alloc (Nat.le_refl _) _))
  have HNE : Hid (w.heap.size ≠ r) := hid_in (by have := h.lt; omega)
  obtain ⟨bx, HBX⟩ : ∃ bx, Hid (w.heap.size = bx) := ⟨_, hid_in rfl⟩
  have HOK := hid_in hk
  have HL := hid_in hg
  clear h hk hw1 hg
  go_enter Try.func11, Try.ntmps11
  go_upto_region 1 with fail
  refine wp_world HW1.out ?_
  rw [HBX.out]
  rw [HBX.out] at HX1 HNE
  have k0 := HX1.out.cell 0
  have k1 := HX1.out.cell 1
  have k2 := HX1.out.cell 2
  have k3 := HX1.out.cell 3
  have k4 := HX1.out.cell 4
  have c0 := HR1.out.cell 0
  have c1 := HR1.out.cell 1
  have c2 := HR1.out.cell 2
  have c3 := HR1.out.cell 3
  have c4 := HR1.out.cell 4
  have c5 := HR1.out.cell 5
  have c6 := HR1.out.cell 6
  have f5 := HR1.out.frozen 5
  simp only [rcells, List.getElem?_cons_succ, List.getElem?_cons_zero] at k0 k1 k2 k3 k4 c0 c1 c2 c3 c4 c5 c6
  rw [hd] at c6
  have HD := hid_in hd
  have hl2 : IntKind.i64.wrap (1 - liv d.live) = oth d := by rw [IntKind.wrap_i64]; unfold oth; omega
  have hl3 : wrap64 (1 - liv d.live) = oth d := by unfold wrap64 oth; omega
  generalize oth d = o at *
  generalize liv d.live = l at *
  clear hd hlr
  go_upto_region 16 with fail
  go_quiet (fail)
  have hb2 : Below w1.heap.size w1 (w1.drewN nq) := Nd.below_drewN (Below.refl _ _) _
  have HR2 : Hid (Row (w1.drewN nq) r (rcells d) 31) := hid_in (HR1.out.below hb2 HR1.out.lt)
  have HX2 : Hid (Row (w1.drewN nq) bx [.int .i64 K, .int .i64 1, bv, .int .i64 n, kv] 37) := hid_in (HX1.out.below hb2 HX1.out.lt)
  have HG2 : Hid (w.grownBy (w1.drewN nq) (some r)) := hid_in (grownBy_trans HG1.out (grown_of_below hb2))
  clear hb2 k0 k1 k2 k3 k4 c0 c1 c2 c3 c4 c5 c6 f5
  generalize w1.drewN nq = w2 at *
  go_upto_region 26 with (first | (go_at_call 25; refine (goes_any HR2.out HOK.out HD.out).mono ?_; rintro e w3 ⟨he, hr3, hg3⟩; rw [HL.out] at he; subst he; have HR3 := hid_in hr3; have HG3 := hid_in hg3; have HX3 := hid_in (HX2.out.grown hg3 (fun e => HNE.out (Option.some.inj e))); clear hr3 hg3))
  have HG3w : Hid (w.grownBy w3 (some r)) := hid_in (grownBy_trans HG2.out HG3.out)
  have k1 := HX3.out.cell 1
  have k2 := HX3.out.cell 2
  have c0 := HR3.out.cell 0
  have c1 := HR3.out.cell 1
  have c2 := HR3.out.cell 2
  have c3 := HR3.out.cell 3
  have c4 := HR3.out.cell 4
  have f0 := HR3.out.frozen 0
  have f1 := HR3.out.frozen 1
  have f2 := HR3.out.frozen 2
  have f3 := HR3.out.frozen 3
  have f4 := HR3.out.frozen 4
  simp only [rcells, spendD_0, spendD_1, spendD_l, List.getElem?_cons_succ, List.getElem?_cons_zero] at k1 k2 c0 c1 c2 c3 c4
  go_region
  obtain ⟨w4, HW4⟩ : ∃ w4, Hid ((w3.setCell ⟨r, 1, none⟩ (.string ⟨#[]⟩)).drew = w4) := ⟨_, hid_in rfl⟩
  have HG4 : Hid (w3.grownBy w4 (some r)) := hid_in (by rw [← HW4.out]; exact grownBy_trans (grownBy_setCell _ _ _) (grown_of_below (Below.refl _ _).drew))
  have HR4 : Hid (Row w4 r ((rcells (spendD d)).set 1 (.string ⟨#[]⟩)) 31) := hid_in (by rw [← HW4.out]; exact (HR3.out.set_same 1 _).drew)
  have HX4 := hid_in (HX3.out.grown HG4.out (fun e => HNE.out (Option.some.inj e)))
  go_upto_region 27 with fail
  refine wp_world HW4.out ?_
  clear k1 k2 c0 c1 c2 c3 c4 f0 f1 f2 f3 f4
  have k1 := HX4.out.cell 1
  have c3 := HR4.out.cell 3
  have f3 := HR4.out.frozen 3
  simp only [rcells, spendD_0, spendD_1, spendD_l, List.set_cons_zero, List.set_cons_succ, List.getElem?_cons_succ, List.getElem?_cons_zero] at k1 c3
  have HR5 : Hid (Row (w4.setCell ⟨r, 3, none⟩ (.int .i64 0)).drew r (rcells (setAr 1 ⟨[], 0⟩ (spendD d))) 31) := hid_in ((HR4.out.set_same 3 _).drew)
  go_region
  go_wp2
  go_ret
  exact ⟨rfl, HR5.out, grownBy_trans HG3w.out (grownBy_trans HG4.out (grownBy_trans (grownBy_setCell _ _ _) (grown_of_below (Below.refl _ _).drew)))⟩
set_option maxHeartbeats 1000000 in
set_option maxRecDepth 100000 in
theorem rdo2_ref {w : World} {r : Nat} {d : Dk} (h : Row w r (rcells d) 31) (hk : d.ok) (K a n : Int) (bv kv : Value) (hK : (IntKind.u64.wrap K).tmod 6 = 2) (ha0 : ¬ a < 0) (ha : ¬ 1 < a) (hd : d.down = false) (hll : (a == liv d.live) = true) : Calls Try.prog 11 #[.pointer (some ⟨r, 0, none⟩), .agg #[.int .i64 K, .int .i64 a, bv, .int .i64 n, kv]] w fun e w' => RP w r 6 d e w' := by
  obtain ⟨w1, hw1⟩ : ∃ w1, Hid (w.alloc (.cells #[.int .i64 K, .int .i64 a, bv, .int .i64 n, kv] 37) = w1) := ⟨_, hid_in rfl⟩
  have hlr := liv_range d.live
  have HW1 : Hid (w.alloc (.cells #[.int .i64 K, .int .i64 a, bv, .int .i64 n, kv] 37) = w1) := hw1
  have HR1 : Hid (Row w1 r (rcells d) 31) := hid_in (by rw [← HW1.out]; exact h.alloc _)
  have HX1 : Hid (Row w1 w.heap.size [.int .i64 K, .int .i64 a, bv, .int .i64 n, kv] 37) := hid_in (by rw [← HW1.out]; exact Row.new w _ 37)
  have HG1 : Hid (w.grownBy w1 (some r)) := hid_in (by rw [← HW1.out]; exact grown_of_below ((Below.refl _ _).alloc (Nat.le_refl _) _))
  have HNE : Hid (w.heap.size ≠ r) := hid_in (by have := h.lt; omega)
  obtain ⟨bx, HBX⟩ : ∃ bx, Hid (w.heap.size = bx) := ⟨_, hid_in rfl⟩
  have HOK := hid_in hk
  clear h hk hw1
  go_enter Try.func11, Try.ntmps11
  go_upto_region 1 with fail
  refine wp_world HW1.out ?_
  rw [HBX.out]
  rw [HBX.out] at HX1 HNE
  have k0 := HX1.out.cell 0
  have k1 := HX1.out.cell 1
  have k2 := HX1.out.cell 2
  have k3 := HX1.out.cell 3
  have k4 := HX1.out.cell 4
  have c0 := HR1.out.cell 0
  have c1 := HR1.out.cell 1
  have c2 := HR1.out.cell 2
  have c3 := HR1.out.cell 3
  have c4 := HR1.out.cell 4
  have c5 := HR1.out.cell 5
  have c6 := HR1.out.cell 6
  have f5 := HR1.out.frozen 5
  simp only [rcells, List.getElem?_cons_succ, List.getElem?_cons_zero] at k0 k1 k2 k3 k4 c0 c1 c2 c3 c4 c5 c6
  rw [hd] at c6
  have HD := hid_in hd
  have hl2 : IntKind.i64.wrap (1 - liv d.live) = oth d := by rw [IntKind.wrap_i64]; unfold oth; omega
  have hl3 : wrap64 (1 - liv d.live) = oth d := by unfold wrap64 oth; omega
  generalize oth d = o at *
  generalize liv d.live = l at *
  clear hd hlr
  go_upto_region 16 with fail
  go_quiet (fail)
  have hb2 : Below w1.heap.size w1 (w1.drewN nq) := Nd.below_drewN (Below.refl _ _) _
  have HR2 : Hid (Row (w1.drewN nq) r (rcells d) 31) := hid_in (HR1.out.below hb2 HR1.out.lt)
  have HX2 : Hid (Row (w1.drewN nq) bx [.int .i64 K, .int .i64 a, bv, .int .i64 n, kv] 37) := hid_in (HX1.out.below hb2 HX1.out.lt)
  have HG2 : Hid (w.grownBy (w1.drewN nq) (some r)) := hid_in (grownBy_trans HG1.out (grown_of_below hb2))
  clear hb2 k0 k1 k2 k3 k4 c0 c1 c2 c3 c4 c5 c6 f5
  generalize w1.drewN nq = w2 at *
  go_wp2
  go_ret
  exact ⟨rfl, HR2.out, HG2.out⟩
set_option maxHeartbeats 1000000 in
set_option maxRecDepth 100000 in
theorem rdo3_0_ref {w : World} {r : Nat} {d : Dk} (h : Row w r (rcells d) 31) (hk : d.ok) (K a n : Int) (bv kv : Value) (hK : (IntKind.u64.wrap K).tmod 6 = 3) (hd : d.down = false) (hlv : d.live = false) (hs : d.a1.sy < d.a1.bs.length) : Calls Try.prog 11 #[.pointer (some ⟨r, 0, none⟩), .agg #[.int .i64 K, .int .i64 a, bv, .int .i64 n, kv]] w fun e w' => RP w r 6 d e w' := by
  obtain ⟨w1, hw1⟩ : ∃ w1, Hid (w.alloc (.cells #[.int .i64 K, .int .i64 a, bv, .int .i64 n, kv] 37) = w1) := ⟨_, hid_in rfl⟩
  have hlr := liv_range d.live
  have HW1 : Hid (w.alloc (.cells #[.int .i64 K, .int .i64 a, bv, .int .i64 n, kv] 37) = w1) := hw1
  have HR1 : Hid (Row w1 r (rcells d) 31) := hid_in (by rw [← HW1.out]; exact h.alloc _)
  have HX1 : Hid (Row w1 w.heap.size [.int .i64 K, .int .i64 a, bv, .int .i64 n, kv] 37) := hid_in (by rw [← HW1.out]; exact Row.new w _ 37)
  have HG1 : Hid (w.grownBy w1 (some r)) := hid_in (by rw [← HW1.out]; exact grown_of_below ((Below.refl _ _).alloc (Nat.le_refl _) _))
  have HNE : Hid (w.heap.size ≠ r) := hid_in (by have := h.lt; omega)
  obtain ⟨bx, HBX⟩ : ∃ bx, Hid (w.heap.size = bx) := ⟨_, hid_in rfl⟩
  have hlv2 := hlv
  have ys : ((d.a1.sy : Int) != (d.a1.bs.length : Int)) = true := by simp; omega
  have HOK := hid_in hk
  clear h hk hw1 hs hlv2
  go_enter Try.func11, Try.ntmps11
  go_upto_region 1 with fail
  refine wp_world HW1.out ?_
  rw [HBX.out]
  rw [HBX.out] at HX1 HNE
  have k0 := HX1.out.cell 0
  have k1 := HX1.out.cell 1
  have k2 := HX1.out.cell 2
  have k3 := HX1.out.cell 3
  have k4 := HX1.out.cell 4
  have c0 := HR1.out.cell 0
  have c1 := HR1.out.cell 1
  have c2 := HR1.out.cell 2
  have c3 := HR1.out.cell 3
  have c4 := HR1.out.cell 4
  have c5 := HR1.out.cell 5
  have c6 := HR1.out.cell 6
  have f5 := HR1.out.frozen 5
  simp only [rcells, List.getElem?_cons_succ, List.getElem?_cons_zero] at k0 k1 k2 k3 k4 c0 c1 c2 c3 c4 c5 c6
  rw [hlv] at c4
  have el : liv false = 0 := rfl
  rw [el] at c4
  rw [hd] at c6
  have HD := hid_in hd
  have hXs : (str d.a1.bs).size = d.a1.bs.length := Nd.str_size _
  clear hlv
  generalize str d.a1.bs = X at *
  generalize (d.a1.sy : Int) = s at *
  generalize d.a1.bs.length = n0 at *
  clear hd hlr el
  go_upto_region 16 with fail
  go_quiet (fail)
  have hb2 : Below w1.heap.size w1 (w1.drewN nq) := Nd.below_drewN (Below.refl _ _) _
  go_wp2
  go_ret
  exact ⟨rfl, HR1.out.below hb2 HR1.out.lt, grownBy_trans HG1.out (grown_of_below hb2)⟩
set_option maxHeartbeats 1000000 in
set_option maxRecDepth 100000 in
theorem rdo3_0_gone {w : World} {r : Nat} {d : Dk} (h : Row w r (rcells d) 31) (hk : d.ok) (K a n : Int) (bv kv : Value) (hK : (IntKind.u64.wrap K).tmod 6 = 3) (hd : d.down = false) (hlv : d.live = false) (hs : ¬ d.a1.sy < d.a1.bs.length) (hg : decide (d.left = 1) = true) : Calls Try.prog 11 #[.pointer (some ⟨r, 0, none⟩), .agg #[.int .i64 K, .int .i64 a, bv, .int .i64 n, kv]] w fun e w' => RP w r 170 (spendD d) e w' := by
  obtain ⟨w1, hw1⟩ : ∃ w1, Hid (w.alloc (.cells #[.int .i64 K, .int .i64 a, bv, .int .i64 n, kv] 37) = w1) := ⟨_, hid_in rfl⟩
  have hlr := liv_range d.live
  have HW1 : Hid (w.alloc (.cells #[.int .i64 K, .int .i64 a, bv, .int .i64 n, kv] 37) = w1) := hw1
  have HR1 : Hid (Row w1 r (rcells d) 31) := hid_in (by rw [← HW1.out]; exact h.alloc _)
  have HX1 : Hid (Row w1 w.heap.size [.int .i64 K, .int .i64 a, bv, .int .i64 n, kv] 37) := hid_in (by rw [← HW1.out]; exact Row.new w _ 37)
  have HG1 : Hid (w.grownBy w1 (some r)) := hid_in (by rw [← HW1.out]; exact grown_of_below ((Below.refl _ _).alloc (Nat.le_refl _) _))
  have HNE : Hid (w.heap.size ≠ r) := hid_in (by have := h.lt; omega)
  obtain ⟨bx, HBX⟩ : ∃ bx, Hid (w.heap.size = bx) := ⟨_, hid_in rfl⟩
  have ys : ((d.a1.sy : Int) != (d.a1.bs.length : Int)) = false := by have := hk.o1.1; simp; omega
  have HL := hid_in hg
  have HLV := hid_in hlv
  have HOK := hid_in hk
  clear h hk hw1 hs hg
  go_enter Try.func11, Try.ntmps11
  go_upto_region 1 with fail
  refine wp_world HW1.out ?_
  rw [HBX.out]
  rw [HBX.out] at HX1 HNE
  have k0 := HX1.out.cell 0
  have k1 := HX1.out.cell 1
  have k2 := HX1.out.cell 2
  have k3 := HX1.out.cell 3
  have k4 := HX1.out.cell 4
  have c0 := HR1.out.cell 0
  have c1 := HR1.out.cell 1
  have c2 := HR1.out.cell 2
  have c3 := HR1.out.cell 3
  have c4 := HR1.out.cell 4
  have c5 := HR1.out.cell 5
  have c6 := HR1.out.cell 6
  have f5 := HR1.out.frozen 5
  simp only [rcells, List.getElem?_cons_succ, List.getElem?_cons_zero] at k0 k1 k2 k3 k4 c0 c1 c2 c3 c4 c5 c6
  rw [hlv] at c4
  have el : liv false = 0 := rfl
  rw [el] at c4
  rw [hd] at c6
  have HD := hid_in hd
  have hXs : (str d.a1.bs).size = d.a1.bs.length := Nd.str_size _
  clear hlv
  generalize str d.a1.bs = X at *
  generalize (d.a1.sy : Int) = s at *
  generalize d.a1.bs.length = n0 at *
  clear hd hlr el
  go_upto_region 16 with fail
  go_quiet (fail)
  have hb2 : Below w1.heap.size w1 (w1.drewN nq) := Nd.below_drewN (Below.refl _ _) _
  have HR2 : Hid (Row (w1.drewN nq) r (rcells d) 31) := hid_in (HR1.out.below hb2 HR1.out.lt)
  have HX2 : Hid (Row (w1.drewN nq) bx [.int .i64 K, .int .i64 a, bv, .int .i64 n, kv] 37) := hid_in (HX1.out.below hb2 HX1.out.lt)
  have HG2 : Hid (w.grownBy (w1.drewN nq) (some r)) := hid_in (grownBy_trans HG1.out (grown_of_below hb2))
  clear hb2 k0 k1 k2 k3 k4 c0 c1 c2 c3 c4 c5 c6 f5
  generalize w1.drewN nq = w2 at *
  go_wp2_with (first | (go_at_call 25; refine (goes_any HR2.out HOK.out HD.out).mono ?_; rintro e w3 ⟨he, hr3, hg3⟩; rw [HL.out] at he; subst he; have HR3 := hid_in hr3; have HG3 := hid_in hg3; clear hr3 hg3))
  go_ret
  exact ⟨rfl, HR3.out, grownBy_trans HG2.out HG3.out⟩
set_option maxHeartbeats 1000000 in
set_option maxRecDepth 100000 in
theorem rdo3_0_ok {w : World} {r : Nat} {d : Dk} (h : Row w r (rcells d) 31) (hk : d.ok) (K a n : Int) (bv kv : Value) (hK : (IntKind.u64.wrap K).tmod 6 = 3) (hd : d.down = false) (hlv : d.live = false) (hs : ¬ d.a1.sy < d.a1.bs.length) (hg : decide (d.left = 1) = false) : Calls Try.prog 11 #[.pointer (some ⟨r, 0, none⟩), .agg #[.int .i64 K, .int .i64 a, bv, .int .i64 n, kv]] w fun e w' => RP w r 0 { spendD d with live := !d.live } e w' := by
  obtain ⟨w1, hw1⟩ : ∃ w1, Hid (w.alloc (.cells #[.int .i64 K, .int .i64 a, bv, .int .i64 n, kv] 37) = w1) := ⟨_, hid_in rfl⟩
  have hlr := liv_range d.live
  have HW1 : Hid (w.alloc (.cells #[.int .i64 K, .int .i64 a, bv, .int .i64 n, kv] 37) = w1) := hw1
  have HR1 : Hid (Row w1 r (rcells d) 31) := hid_in (by rw [← HW1.out]; exact h.alloc _)
  have HX1 : Hid (Row w1 w.heap.size [.int .i64 K, .int .i64 a, bv, .int .i64 n, kv] 37) := hid_in (by rw [← HW1.out]; exact Row.new w _ 37)
  have HG1 : Hid (w.grownBy w1 (some r)) := hid_in (by rw [← HW1.out]; exact grown_of_below ((Below.refl _ _).alloc (Nat.le_refl _) _))
  have HNE : Hid (w.heap.size ≠ r) := hid_in (by have := h.lt; omega)
  obtain ⟨bx, HBX⟩ : ∃ bx, Hid (w.heap.size = bx) := ⟨_, hid_in rfl⟩
  have ys : ((d.a1.sy : Int) != (d.a1.bs.length : Int)) = false := by have := hk.o1.1; simp; omega
  have HL := hid_in hg
  have HLV := hid_in hlv
  have HOK := hid_in hk
  clear h hk hw1 hs hg
  go_enter Try.func11, Try.ntmps11
  go_upto_region 1 with fail
  refine wp_world HW1.out ?_
  rw [HBX.out]
  rw [HBX.out] at HX1 HNE
  have k0 := HX1.out.cell 0
  have k1 := HX1.out.cell 1
  have k2 := HX1.out.cell 2
  have k3 := HX1.out.cell 3
  have k4 := HX1.out.cell 4
  have c0 := HR1.out.cell 0
  have c1 := HR1.out.cell 1
  have c2 := HR1.out.cell 2
  have c3 := HR1.out.cell 3
  have c4 := HR1.out.cell 4
  have c5 := HR1.out.cell 5
  have c6 := HR1.out.cell 6
  have f5 := HR1.out.frozen 5
  simp only [rcells, List.getElem?_cons_succ, List.getElem?_cons_zero] at k0 k1 k2 k3 k4 c0 c1 c2 c3 c4 c5 c6
  rw [hlv] at c4
  have el : liv false = 0 := rfl
  rw [el] at c4
  rw [hd] at c6
  have HD := hid_in hd
  have hXs : (str d.a1.bs).size = d.a1.bs.length := Nd.str_size _
  clear hlv
  generalize str d.a1.bs = X at *
  generalize (d.a1.sy : Int) = s at *
  generalize d.a1.bs.length = n0 at *
  clear hd hlr el
  go_upto_region 16 with fail
  go_quiet (fail)
  have hb2 : Below w1.heap.size w1 (w1.drewN nq) := Nd.below_drewN (Below.refl _ _) _
  have HR2 : Hid (Row (w1.drewN nq) r (rcells d) 31) := hid_in (HR1.out.below hb2 HR1.out.lt)
  have HX2 : Hid (Row (w1.drewN nq) bx [.int .i64 K, .int .i64 a, bv, .int .i64 n, kv] 37) := hid_in (HX1.out.below hb2 HX1.out.lt)
  have HG2 : Hid (w.grownBy (w1.drewN nq) (some r)) := hid_in (grownBy_trans HG1.out (grown_of_below hb2))
  clear hb2 k0 k1 k2 k3 k4 c0 c1 c2 c3 c4 c5 c6 f5
  generalize w1.drewN nq = w2 at *
  go_upto_region 29 with (first | (go_at_call 25; refine (goes_any HR2.out HOK.out HD.out).mono ?_; rintro e w3 ⟨he, hr3, hg3⟩; rw [HL.out] at he; subst he; have HR3 := hid_in hr3; have HG3 := hid_in hg3; clear hr3 hg3))
  have HG3w : Hid (w.grownBy w3 (some r)) := hid_in (grownBy_trans HG2.out HG3.out)
  have c4 := HR3.out.cell 4
  have f4 := HR3.out.frozen 4
  simp only [rcells, List.getElem?_cons_succ, List.getElem?_cons_zero] at c4
  have HR4 : Hid (Row (w3.setCell ⟨r, 4, none⟩ (.int .i64 1)) r (rcells { spendD d with live := !d.live }) 31) := hid_in (by
    have e := HR3.out.set_same 4 (.int .i64 1)
    rw [HLV.out]
    exact e)
  go_wp2
  go_ret
  exact ⟨rfl, HR4.out, grownBy_trans HG3w.out (grownBy_setCell _ _ _)⟩
set_option maxHeartbeats 1000000 in
set_option maxRecDepth 100000 in
theorem rdo3_1_ref {w : World} {r : Nat} {d : Dk} (h : Row w r (rcells d) 31) (hk : d.ok) (K a n : Int) (bv kv : Value) (hK : (IntKind.u64.wrap K).tmod 6 = 3) (hd : d.down = false) (hlv : d.live = true) (hs : d.a0.sy < d.a0.bs.length) : Calls Try.prog 11 #[.pointer (some ⟨r, 0, none⟩), .agg #[.int .i64 K, .int .i64 a, bv, .int .i64 n, kv]] w fun e w' => RP w r 6 d e w' := by
  obtain ⟨w1, hw1⟩ : ∃ w1, Hid (w.alloc (.cells #[.int .i64 K, .int .i64 a, bv, .int .i64 n, kv] 37) = w1) := ⟨_, hid_in rfl⟩
  have hlr := liv_range d.live
  have HW1 : Hid (w.alloc (.cells #[.int .i64 K, .int .i64 a, bv, .int .i64 n, kv] 37) = w1) := hw1
  have HR1 : Hid (Row w1 r (rcells d) 31) := hid_in (by rw [← HW1.out]; exact h.alloc _)
  have HX1 : Hid (Row w1 w.heap.size [.int .i64 K, .int .i64 a, bv, .int .i64 n, kv] 37) := hid_in (by rw [← HW1.out]; exact Row.new w _ 37)
  have HG1 : Hid (w.grownBy w1 (some r)) := hid_in (by rw [← HW1.out]; exact grown_of_below ((Below.refl _ _).alloc (Nat.le_refl _) _))
  have HNE : Hid (w.heap.size ≠ r) := hid_in (by have := h.lt; omega)
  obtain ⟨bx, HBX⟩ : ∃ bx, Hid (w.heap.size = bx) := ⟨_, hid_in rfl⟩
  have hlv2 := hlv
  have ys : ((d.a0.sy : Int) != (d.a0.bs.length : Int)) = true := by simp; omega
  have HOK := hid_in hk
  clear h hk hw1 hs hlv2
  go_enter Try.func11, Try.ntmps11
  go_upto_region 1 with fail
  refine wp_world HW1.out ?_
  rw [HBX.out]
  rw [HBX.out] at HX1 HNE
  have k0 := HX1.out.cell 0
  have k1 := HX1.out.cell 1
  have k2 := HX1.out.cell 2
  have k3 := HX1.out.cell 3
  have k4 := HX1.out.cell 4
  have c0 := HR1.out.cell 0
  have c1 := HR1.out.cell 1
  have c2 := HR1.out.cell 2
  have c3 := HR1.out.cell 3
  have c4 := HR1.out.cell 4
  have c5 := HR1.out.cell 5
  have c6 := HR1.out.cell 6
  have f5 := HR1.out.frozen 5
  simp only [rcells, List.getElem?_cons_succ, List.getElem?_cons_zero] at k0 k1 k2 k3 k4 c0 c1 c2 c3 c4 c5 c6
  rw [hlv] at c4
  have el : liv true = 1 := rfl
  rw [el] at c4
  rw [hd] at c6
  have HD := hid_in hd
  have hXs : (str d.a0.bs).size = d.a0.bs.length := Nd.str_size _
  clear hlv
  generalize str d.a0.bs = X at *
  generalize (d.a0.sy : Int) = s at *
  generalize d.a0.bs.length = n0 at *
  clear hd hlr el
  go_upto_region 16 with fail
  go_quiet (fail)
  have hb2 : Below w1.heap.size w1 (w1.drewN nq) := Nd.below_drewN (Below.refl _ _) _
  go_wp2
  go_ret
  exact ⟨rfl, HR1.out.below hb2 HR1.out.lt, grownBy_trans HG1.out (grown_of_below hb2)⟩
set_option maxHeartbeats 1000000 in
set_option maxRecDepth 100000 in
theorem rdo3_1_gone {w : World} {r : Nat} {d : Dk} (h : Row w r (rcells d) 31) (hk : d.ok) (K a n : Int) (bv kv : Value) (hK : (IntKind.u64.wrap K).tmod 6 = 3) (hd : d.down = false) (hlv : d.live = true) (hs : ¬ d.a0.sy < d.a0.bs.length) (hg : decide (d.left = 1) = true) : Calls Try.prog 11 #[.pointer (some ⟨r, 0, none⟩), .agg #[.int .i64 K, .int .i64 a, bv, .int .i64 n, kv]] w fun e w' => RP w r 170 (spendD d) e w' := by
  obtain ⟨w1, hw1⟩ : ∃ w1, Hid (w.alloc (.cells #[.int .i64 K, .int .i64 a, bv, .int .i64 n, kv] 37) = w1) := ⟨_, hid_in rfl⟩
  have hlr := liv_range d.live
  have HW1 : Hid (w.alloc (.cells #[.int .i64 K, .int .i64 a, bv, .int .i64 n, kv] 37) = w1) := hw1
  have HR1 : Hid (Row w1 r (rcells d) 31) := hid_in (by rw [← HW1.out]; exact h.alloc _)
  have HX1 : Hid (Row w1 w.heap.size [.int .i64 K, .int .i64 a, bv, .int .i64 n, kv] 37) := hid_in (by rw [← HW1.out]; exact Row.new w _ 37)
  have HG1 : Hid (w.grownBy w1 (some r)) := hid_in (by rw [← HW1.out]; exact grown_of_below ((Below.refl _ _).alloc (Nat.le_refl _) _))
  have HNE : Hid (w.heap.size ≠ r) := hid_in (by have := h.lt; omega)
  obtain ⟨bx, HBX⟩ : ∃ bx, Hid (w.heap.size = bx) := ⟨_, hid_in rfl⟩
  have ys : ((d.a0.sy : Int) != (d.a0.bs.length : Int)) = false := by have := hk.o0.1; simp; omega
  have HL := hid_in hg
  have HLV := hid_in hlv
  have HOK := hid_in hk
  clear h hk hw1 hs hg
  go_enter Try.func11, Try.ntmps11
  go_upto_region 1 with fail
  refine wp_world HW1.out ?_
  rw [HBX.out]
  rw [HBX.out] at HX1 HNE
  have k0 := HX1.out.cell 0
  have k1 := HX1.out.cell 1
  have k2 := HX1.out.cell 2
  have k3 := HX1.out.cell 3
  have k4 := HX1.out.cell 4
  have c0 := HR1.out.cell 0
  have c1 := HR1.out.cell 1
  have c2 := HR1.out.cell 2
  have c3 := HR1.out.cell 3
  have c4 := HR1.out.cell 4
  have c5 := HR1.out.cell 5
  have c6 := HR1.out.cell 6
  have f5 := HR1.out.frozen 5
  simp only [rcells, List.getElem?_cons_succ, List.getElem?_cons_zero] at k0 k1 k2 k3 k4 c0 c1 c2 c3 c4 c5 c6
  rw [hlv] at c4
  have el : liv true = 1 := rfl
  rw [el] at c4
  rw [hd] at c6
  have HD := hid_in hd
  have hXs : (str d.a0.bs).size = d.a0.bs.length := Nd.str_size _
  clear hlv
  generalize str d.a0.bs = X at *
  generalize (d.a0.sy : Int) = s at *
  generalize d.a0.bs.length = n0 at *
  clear hd hlr el
  go_upto_region 16 with fail
  go_quiet (fail)
  have hb2 : Below w1.heap.size w1 (w1.drewN nq) := Nd.below_drewN (Below.refl _ _) _
  have HR2 : Hid (Row (w1.drewN nq) r (rcells d) 31) := hid_in (HR1.out.below hb2 HR1.out.lt)
  have HX2 : Hid (Row (w1.drewN nq) bx [.int .i64 K, .int .i64 a, bv, .int .i64 n, kv] 37) := hid_in (HX1.out.below hb2 HX1.out.lt)
  have HG2 : Hid (w.grownBy (w1.drewN nq) (some r)) := hid_in (grownBy_trans HG1.out (grown_of_below hb2))
  clear hb2 k0 k1 k2 k3 k4 c0 c1 c2 c3 c4 c5 c6 f5
  generalize w1.drewN nq = w2 at *
  go_wp2_with (first | (go_at_call 25; refine (goes_any HR2.out HOK.out HD.out).mono ?_; rintro e w3 ⟨he, hr3, hg3⟩; rw [HL.out] at he; subst he; have HR3 := hid_in hr3; have HG3 := hid_in hg3; clear hr3 hg3))
  go_ret
  exact ⟨rfl, HR3.out, grownBy_trans HG2.out HG3.out⟩
set_option maxHeartbeats 1000000 in
set_option maxRecDepth 100000 in
theorem rdo3_1_ok {w : World} {r : Nat} {d : Dk} (h : Row w r (rcells d) 31) (hk : d.ok) (K a n : Int) (bv kv : Value) (hK : (IntKind.u64.wrap K).tmod 6 = 3) (hd : d.down = false) (hlv : d.live = true) (hs : ¬ d.a0.sy < d.a0.bs.length) (hg : decide (d.left = 1) = false) : Calls Try.prog 11 #[.pointer (some ⟨r, 0, none⟩), .agg #[.int .i64 K, .int .i64 a, bv, .int .i64 n, kv]] w fun e w' => RP w r 0 { spendD d with live := !d.live } e w' := by
  obtain ⟨w1, hw1⟩ : ∃ w1, Hid (w.alloc (.cells #[.int .i64 K, .int .i64 a, bv, .int .i64 n, kv] 37) = w1) := ⟨_, hid_in rfl⟩
  have hlr := liv_range d.live
  have HW1 : Hid (w.alloc (.cells #[.int .i64 K, .int .i64 a, bv, .int .i64 n, kv] 37) = w1) := hw1
  have HR1 : Hid (Row w1 r (rcells d) 31) := hid_in (by rw [← HW1.out]; exact h.alloc _)
  have HX1 : Hid (Row w1 w.heap.size [.int .i64 K, .int .i64 a, bv, .int .i64 n, kv] 37) := hid_in (by rw [← HW1.out]; exact Row.new w _ 37)
  have HG1 : Hid (w.grownBy w1 (some r)) := hid_in (by rw [← HW1.out]; exact grown_of_below ((Below.refl _ _).alloc (Nat.le_refl _) _))
  have HNE : Hid (w.heap.size ≠ r) := hid_in (by have := h.lt; omega)
  obtain ⟨bx, HBX⟩ : ∃ bx, Hid (w.heap.size = bx) := ⟨_, hid_in rfl⟩
  have ys : ((d.a0.sy : Int) != (d.a0.bs.length : Int)) = false := by have := hk.o0.1; simp; omega
  have HL := hid_in hg
  have HLV := hid_in hlv
  have HOK := hid_in hk
  clear h hk hw1 hs hg
  go_enter Try.func11, Try.ntmps11
  go_upto_region 1 with fail
  refine wp_world HW1.out ?_
  rw [HBX.out]
  rw [HBX.out] at HX1 HNE
  have k0 := HX1.out.cell 0
  have k1 := HX1.out.cell 1
  have k2 := HX1.out.cell 2
  have k3 := HX1.out.cell 3
  have k4 := HX1.out.cell 4
  have c0 := HR1.out.cell 0
  have c1 := HR1.out.cell 1
  have c2 := HR1.out.cell 2
  have c3 := HR1.out.cell 3
  have c4 := HR1.out.cell 4
  have c5 := HR1.out.cell 5
  have c6 := HR1.out.cell 6
  have f5 := HR1.out.frozen 5
  simp only [rcells, List.getElem?_cons_succ, List.getElem?_cons_zero] at k0 k1 k2 k3 k4 c0 c1 c2 c3 c4 c5 c6
  rw [hlv] at c4
  have el : liv true = 1 := rfl
  rw [el] at c4
  rw [hd] at c6
  have HD := hid_in hd
  have hXs : (str d.a0.bs).size = d.a0.bs.length := Nd.str_size _
  clear hlv
  generalize str d.a0.bs = X at *
  generalize (d.a0.sy : Int) = s at *
  generalize d.a0.bs.length = n0 at *
  clear hd hlr el
  go_upto_region 16 with fail
  go_quiet (fail)
  have hb2 : Below w1.heap.size w1 (w1.drewN nq) := Nd.below_drewN (Below.refl _ _) _
  have HR2 : Hid (Row (w1.drewN nq) r (rcells d) 31) := hid_in (HR1.out.below hb2 HR1.out.lt)
  have HX2 : Hid (Row (w1.drewN nq) bx [.int .i64 K, .int .i64 a, bv, .int .i64 n, kv] 37) := hid_in (HX1.out.below hb2 HX1.out.lt)
  have HG2 : Hid (w.grownBy (w1.drewN nq) (some r)) := hid_in (grownBy_trans HG1.out (grown_of_below hb2))
  clear hb2 k0 k1 k2 k3 k4 c0 c1 c2 c3 c4 c5 c6 f5
  generalize w1.drewN nq = w2 at *
  go_upto_region 29 with (first | (go_at_call 25; refine (goes_any HR2.out HOK.out HD.out).mono ?_; rintro e w3 ⟨he, hr3, hg3⟩; rw [HL.out] at he; subst he; have HR3 := hid_in hr3; have HG3 := hid_in hg3; clear hr3 hg3))
  have HG3w : Hid (w.grownBy w3 (some r)) := hid_in (grownBy_trans HG2.out HG3.out)
  have c4 := HR3.out.cell 4
  have f4 := HR3.out.frozen 4
  simp only [rcells, List.getElem?_cons_succ, List.getElem?_cons_zero] at c4
  have HR4 : Hid (Row (w3.setCell ⟨r, 4, none⟩ (.int .i64 0)) r (rcells { spendD d with live := !d.live }) 31) := hid_in (by
    have e := HR3.out.set_same 4 (.int .i64 0)
    rw [HLV.out]
    exact e)
  go_wp2
  go_ret
  exact ⟨rfl, HR4.out, grownBy_trans HG3w.out (grownBy_setCell _ _ _)⟩
end Go.Proofs.Ytcdmdmbdgmihfaa.Pt
