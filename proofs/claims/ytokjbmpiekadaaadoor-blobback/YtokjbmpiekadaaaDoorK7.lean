/-
  lay: a blob that is there.
-/
import Derived.Test.YtokjbmpiekadaaaDoorK3
import Derived.Test.YtokjbmpiekadaaaDoorK6
namespace Go.Proofs.YtokjbmpiekadaaaDoor
open Go.RowKit
attribute [local go_sem ↓] run_load39 quiet_load39 wp_load39 Go.wp_at_zero Go.wp_at_succ
attribute [local go_sem] Is39_drewN rowOf_drewN Is39_drew rowOf_drew ptrB_pointer

set_option maxHeartbeats 1000000 in
set_option maxRecDepth 100000 in
theorem lay_other {w : World} {g m n : Nat} {M : List Nat → Option (List Nat)} {q u : Int} (h : St w g m M n q u) (d : List Nat) (hd : d.length = 32) (V : List Value) (HV : Hid (V = d.map u8v)) (cs : List Nat) (hM : M d = some cs)
    (bs : List Nat) (hcs : cs ≠ bs) (p : Option Addr) (cap b off : Nat) (hsl : Sl w p bs cap b off) (hpn : p = none → bs.length = 0 ∧ cap = 0) (hre : bs.length ≤ 140737488355328) :
    Calls Tryd.prog 49 #[.pointer (some ⟨g, 0, none⟩), .agg V.toArray, .slice p bs.length cap] w fun e w' => e = .returned (.tuple #[]) ∧ St w' g m (updM M d bs) n q u ∧ Kp g m w w' := by
  have hs := h.alloc (.cells V.toArray 39)
  have hvl : V.length = 32 := by rw [HV.out]; simpa using hd
  have c0 : (w.alloc (.cells V.toArray 39)).cell? ⟨g, 0, none⟩ = some (.map (some m)) := hs.row.cell 0
  have hr := Row.newAt w _ V 39 rfl
  have hI : Is39 (w.alloc (.cells V.toArray 39)) w.heap.size := ⟨V, hr, hvl⟩
  have hR := rowOf_row hr
  obtain ⟨V', hV, h1, h2⟩ := h.map
  obtain ⟨v, hv, p0, cap0, b0, off0, rfl, hb1, hb2, hb3⟩ := h1 d cs hM
  have hl : ∀ k, (Instr.lookup 57 (.map (some m)) (.agg V.toArray) true).run Tryd.prog ((w.alloc (.cells V.toArray 39)).drewN k) = .ok (.tuple #[.slice p0 cs.length cap0, .bool true]) ((w.alloc (.cells V.toArray 39)).drewN k) := by
    intro k
    have hV2 : MapOk ((w.alloc (.cells V.toArray 39)).drewN k) m V' n := hV.of_block (by simp only [World.heap_drewN]; exact Below.heap_alloc _ _ _ hV.lt)
    have hl := hV2.look 57 30 Tryd.underlying57 (.slice none 0 0) (by kernel_rfl) d hd
    rw [hv] at hl
    simpa only [Option.getD_some, Option.isSome_some, dv, ← HV.out] using hl
  have hall : ∀ k, Below w.heap.size w ((w.alloc (.cells V.toArray 39)).drewN k) := fun k => below_drewN ((Below.refl _ _).alloc (Nat.le_refl _) _) k
  have HEQ : Hid (∀ k, Calls Tryd.prog 61 #[.slice p0 cs.length cap0, .slice p bs.length cap] ((w.alloc (.cells V.toArray 39)).drewN k) fun e w' => e = .returned (.bool false) ∧ w' = (w.alloc (.cells V.toArray 39)).drewN k) := fun k => by
    have := equal_any (hb1.below (hall k)) (hsl.below (hall k))
    rwa [decide_eq_false hcs] at this
  clear hcs
  clear hb1 hb2 hb3 hV h1 h2 hv hall
  have HST := hid_in h
  have HM := hid_in hM
  have HS := hid_in hs
  have HD := hid_in hd
  have HR := hid_in hr
  have HVL := hid_in hvl
  clear h hM hs hd hr hvl
  go_enter Tryd.func49, Tryd.ntmps49
  go_wp2_with fail
  go_quiet (fail)
  go_wp2_with (first | (go_at_call 61; refine (HEQ.out _).mono ?_; rintro e w1 ⟨rfl, rfl⟩))
  obtain ⟨W, HW⟩ : ∃ W, Hid ((w.alloc (.cells V.toArray 39)).drewN nq = W) := ⟨_, rfl⟩
  refine wp_world HW.out ?_
  have hsW : St W g m M n q u := by rw [← HW.out]; exact HS.out.drewN _
  have hrW : Row W w.heap.size V 39 := by rw [← HW.out]; exact HR.out.drewN _
  have hbW : Below w.heap.size w W := by rw [← HW.out]; exact below_drewN ((Below.refl _ _).alloc (Nat.le_refl _) _) _
  have hslW := hsl.kp (Kp.of_below (g := w.heap.size) (m := w.heap.size) hbW) (fun hj => by have := World.block_lt_of_cell? w _ (hsl.src 0 hj); simp only at this; omega)
  clear hsl hl hI hR c0 HS HR HW HEQ HST
  have c0 : W.cell? ⟨g, 0, none⟩ = some (.map (some m)) := hsW.row.cell 0
  have hI : Is39 W w.heap.size := ⟨V, hrW, HVL.out⟩
  have hR := rowOf_row hrW
  have HSW := hid_in hsW
  have HRW := hid_in hrW
  have HCL : Hid (∀ W1, (∃ k, W1 = W.drewN k) → _) := fun W1 hW1 => clone_any bs p cap b off W1 (by obtain ⟨k, rfl⟩ := hW1; exact hslW.below (below_drewN (Below.refl _ _) k)) hpn hre
  have HBW := hid_in hbW
  clear hsW hrW hslW hpn hre hbW
  go_region_with (first | (go_at_call 39; refine (HCL.out _ ⟨1, rfl⟩).mono ?_; rintro e w2 ⟨p', cap', b', rfl, hs2, hp2, hB2, hT2, hb2⟩; have hrw2 := (HRW.out.drewN 1).below hb2 (HRW.out.drewN 1).lt; have hI2 : Is39 w2 w.heap.size := ⟨V, hrw2, HVL.out⟩; have hR2 : rowOf w2 w.heap.size = V := rowOf_row hrw2; have hst2 := (HSW.out.drewN 1).below hb2; have c02 : w2.cell? ⟨g, 0, none⟩ = some (.map (some m)) := hst2.row.cell 0; obtain ⟨w3, hup, hst3, hk3⟩ := hst2.put d HD.out V HV (.slice p' bs.length cap') bs ⟨p', cap', b', 0, rfl, hs2, hp2, fun h0 => ⟨by have := (HSW.out.drewN 1).glt; omega, by have := (HSW.out.drewN 1).mlt; omega, hT2 h0⟩⟩; have HST3 := hid_in hst3; have HK3 := hid_in hk3; have HB2 := hid_in hb2; clear hs2 hp2 hB2 hT2 hb2 hst3 hk3 hst2 hrw2))
  all_goals
    go_wp2
    go_end0
    have h3 := HST3.out
    rw [HM.out] at h3
    exact ⟨rfl, h3, (Kp.of_below HBW.out).trans ((Kp.of_below (below_drewN (Below.refl _ _) 1)).trans ((Kp.of_below HB2.out).trans HK3.out))⟩
set_option maxHeartbeats 1000000 in
set_option maxRecDepth 100000 in
theorem lay_same {w : World} {g m n : Nat} {M : List Nat → Option (List Nat)} {q u : Int} (h : St w g m M n q u) (d : List Nat) (hd : d.length = 32) (V : List Value) (HV : Hid (V = d.map u8v)) 
    (bs : List Nat) (hM : M d = some bs) (p : Option Addr) (cap b off : Nat) (hsl : Sl w p bs cap b off) :
    Calls Tryd.prog 49 #[.pointer (some ⟨g, 0, none⟩), .agg V.toArray, .slice p bs.length cap] w fun e w' => e = .returned (.tuple #[]) ∧ St w' g m (updM M d bs) n q u ∧ Kp g m w w' := by
  have hs := h.alloc (.cells V.toArray 39)
  have hvl : V.length = 32 := by rw [HV.out]; simpa using hd
  have c0 : (w.alloc (.cells V.toArray 39)).cell? ⟨g, 0, none⟩ = some (.map (some m)) := hs.row.cell 0
  have hr := Row.newAt w _ V 39 rfl
  have hI : Is39 (w.alloc (.cells V.toArray 39)) w.heap.size := ⟨V, hr, hvl⟩
  have hR := rowOf_row hr
  obtain ⟨V', hV, h1, h2⟩ := h.map
  obtain ⟨v, hv, p0, cap0, b0, off0, rfl, hb1, hb2, hb3⟩ := h1 d bs hM
  have hl : ∀ k, (Instr.lookup 57 (.map (some m)) (.agg V.toArray) true).run Tryd.prog ((w.alloc (.cells V.toArray 39)).drewN k) = .ok (.tuple #[.slice p0 bs.length cap0, .bool true]) ((w.alloc (.cells V.toArray 39)).drewN k) := by
    intro k
    have hV2 : MapOk ((w.alloc (.cells V.toArray 39)).drewN k) m V' n := hV.of_block (by simp only [World.heap_drewN]; exact Below.heap_alloc _ _ _ hV.lt)
    have hl := hV2.look 57 30 Tryd.underlying57 (.slice none 0 0) (by kernel_rfl) d hd
    rw [hv] at hl
    simpa only [Option.getD_some, Option.isSome_some, dv, ← HV.out] using hl
  have hall : ∀ k, Below w.heap.size w ((w.alloc (.cells V.toArray 39)).drewN k) := fun k => below_drewN ((Below.refl _ _).alloc (Nat.le_refl _) _) k
  have HEQ : Hid (∀ k, Calls Tryd.prog 61 #[.slice p0 bs.length cap0, .slice p bs.length cap] ((w.alloc (.cells V.toArray 39)).drewN k) fun e w' => e = .returned (.bool true) ∧ w' = (w.alloc (.cells V.toArray 39)).drewN k) := fun k => by
    have := equal_any (hb1.below (hall k)) (hsl.below (hall k))
    rwa [decide_eq_true rfl] at this
  have HALL := hid_in hall
  clear hb1 hb2 hb3 hV h1 h2 hv hall
  have HST := hid_in h
  have HM := hid_in hM
  have HS := hid_in hs
  have HD := hid_in hd
  have HR := hid_in hr
  have HVL := hid_in hvl
  clear h hM hs hd hr hvl
  go_enter Tryd.func49, Tryd.ntmps49
  go_wp2_with fail
  clear hsl
  go_quiet (fail)
  go_wp2_with (first | (go_at_call 61; refine (HEQ.out _).mono ?_; rintro e w1 ⟨rfl, rfl⟩))
  go_end0
  refine ⟨rfl, ?_, Kp.of_below (HALL.out _)⟩
  have e1 : updM M d bs = M := by
    funext x
    unfold updM
    split
    · rename_i hx; rw [hx, HM.out]
    · rfl
  rw [e1]
  exact HST.out.below (HALL.out _)
theorem lay_any {w : World} {g m n : Nat} {M : List Nat → Option (List Nat)} {q u : Int} (h : St w g m M n q u) (d : List Nat) (hd : d.length = 32) (V : List Value) (HV : Hid (V = d.map u8v))
    (bs : List Nat) (p : Option Addr) (cap b off : Nat) (hsl : Sl w p bs cap b off) (hpn : p = none → bs.length = 0 ∧ cap = 0) (hre : bs.length ≤ 140737488355328) :
    Calls Tryd.prog 49 #[.pointer (some ⟨g, 0, none⟩), .agg V.toArray, .slice p bs.length cap] w fun e w' => e = .returned (.tuple #[]) ∧ St w' g m (updM M d bs) (if (M d).isSome then n else n + 1) q u ∧ Kp g m w w' := by
  cases hM : M d with
  | none => exact lay_none h d hd V HV hM bs p cap b off hsl hpn hre
  | some cs =>
    by_cases hc : cs = bs
    · subst hc; exact lay_same h d hd V HV cs hM p cap b off hsl
    · exact lay_other h d hd V HV cs hM bs hc p cap b off hsl hpn hre
end Go.Proofs.YtokjbmpiekadaaaDoor
