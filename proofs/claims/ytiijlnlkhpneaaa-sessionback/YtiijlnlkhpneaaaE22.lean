/-
  Both tables' Clone. A script that comes in. The walk of SessionPlays.
-/
import Derived.OwnWalk
import Derived.Laws.Tables
import Derived.Laws.CopyOwn
import Derived.Deep.CutRange
import Derived.Deep.RegionLaw
import Derived.Deep.DrawnRows
import Derived.ProofKit
import Derived.OpenShut
import Derived.ShutString
import Derived.ChangeOld
import Derived.Deep.DeepHandedRow
import Derived.Deep.Slices
import Derived.SizedLaws
import Derived.Lib.LaidTab
import Derived.Test.YtiijlnlkhpneaaaE00
import Derived.Test.YtiijlnlkhpneaaaE01
import Derived.Test.YtiijlnlkhpneaaaE02
import Derived.Test.YtiijlnlkhpneaaaE03
import Derived.Test.YtiijlnlkhpneaaaE04
import Derived.Test.YtiijlnlkhpneaaaE05
import Derived.Test.YtiijlnlkhpneaaaE06
import Derived.Test.YtiijlnlkhpneaaaE07
import Derived.Test.YtiijlnlkhpneaaaE08
import Derived.Test.YtiijlnlkhpneaaaE09
import Derived.Test.YtiijlnlkhpneaaaE10
import Derived.Test.YtiijlnlkhpneaaaE11
import Derived.Test.YtiijlnlkhpneaaaE12
import Derived.Test.YtiijlnlkhpneaaaE13
import Derived.Test.YtiijlnlkhpneaaaE14
import Derived.Test.YtiijlnlkhpneaaaE15
import Derived.Test.YtiijlnlkhpneaaaE16
import Derived.Test.YtiijlnlkhpneaaaE17
import Derived.Test.YtiijlnlkhpneaaaE18
import Derived.Test.YtiijlnlkhpneaaaE19
import Derived.Test.YtiijlnlkhpneaaaE20
import Derived.Test.YtiijlnlkhpneaaaE21
namespace Go.Proofs.Ytiijlnlkhpneaaa.Se
open Go.RowKit
open Nd (take_put Row wp_world post_Row grownBy_setCell below_of_grown grownBy_trans grown_of_below grownBy_refl)
theorem size61 : (Try.prog.info? 61).map (·.size) = some 41 := by kernel_rfl
theorem size61c {A : List Value} (h : A.length = 41) : (Try.prog.info? 61).map (·.size) = some A.length := by rw [size61, h]
set_option maxHeartbeats 2000000 in
set_option maxRecDepth 100000 in
theorem clone_any {w : World} {g : Nat} {room : Int} {T : List Seat} (h : Tab w g room T) :
    Calls Try.prog 22 #[.pointer (some ⟨g, 0, none⟩)] w fun e w' => ∃ c, e = .returned (.pointer (some ⟨c, 0, none⟩)) ∧ Tab w' c room T ∧ Below w.heap.size w w' ∧ w.heap.size ≤ c := by
  have HL := hid_in h.len
  have HRG : Hid (w.rangeAt g 0 (.int .i64 room :: tcells T)) := hid_in (fun j v hv => by rw [Nat.zero_add, h.row.cell]; exact hv)
  have HAL : Hid ((Value.int .i64 room :: tcells T).length = 41) := hid_in (by rw [List.length_cons, tcells_len, h.len])
  have HON : Hid (∀ v ∈ (Value.int .i64 room :: tcells T), v.oneCell' = true) := hid_in (fun v hv => by
    rcases List.mem_cons.1 hv with rfl | hv
    · rfl
    · exact tcells_one T v hv)
  obtain ⟨A, HA⟩ : ∃ A, Hid (Value.int .i64 room :: tcells T = A) := ⟨_, hid_in rfl⟩
  rw [HA.out] at HRG HAL HON
  have HFT := hid_in (size61c HAL.out)
  clear h
  go_enter Try.func22, Try.ntmps22
  go_wp2_with (first | (refine wpList_load_mid rfl 61 _ rfl g 0 rfl A _ HRG.out Try.underlying61 rfl HFT.out ?_) | (refine Nd.wpList_store_new rfl rfl 61 41 _ _ rfl _ A size61 rfl HAL HON rfl rfl ?_; intro w6 hr6 hb6 hs6; have HR6 := hid_in hr6; have HB6 := hid_in hb6; clear hr6 hb6 hs6))
  go_ret
  exact ⟨_, rfl, ⟨by rw [HA.out]; exact HR6.out, HL.out⟩, HB6.out, Nat.le_refl _⟩
theorem empty30 (w : World) : (Instr.buildSlice 30 0 #[]).run Try.prog w = .ok (.slice (some ⟨w.heap.size, 0, none⟩) 0 0) (w.alloc (.cells #[] 48)) := by kernel_rfl
theorem wp_appT {op : Oper} {a : Act} {w : World} {K : Act → World → Prop} {Q : Exit → Act → World → Prop} (t : TypeId) (s x : Operand) (ho : op.op = .call { callee := .builtin .append, args := #[s, x], argTypes := #[t, t] }) (vs vx v' : Value) (w' : World) (ty : TypeId) (hty : op.type = ty) (hs : a.eval s = vs ∧ a.eval x = vx) (hr : (Builtin.append_ #[t, t] ty #[vs, vx]).run Try.prog w = .ok v' w') (h : K (a.put op.dst v') w') : op.wp Try.prog a w K Q := by
  unfold Oper.wp execOp
  subst hty
  simp only [ho, resolve, invoke, builtin, Sem.run_bind, Sem.run_pure, Result.andThen_ok, List.map_toArray, List.map_cons, List.map_nil, hs.1, hs.2, hr]
  exact h
theorem wp_slice0 {op : Oper} {a : Act} {w : World} {K : Act → World → Prop} {Q : Exit → Act → World → Prop} (ho : op.op = .buildSlice 30 0 #[]) (w' : World) (hr : (Instr.buildSlice 30 0 #[]).run Try.prog w = .ok (.slice (some ⟨w.heap.size, 0, none⟩) 0 0) w') (h : K (a.put op.dst (.slice (some ⟨w.heap.size, 0, none⟩) 0 0)) w') : op.wp Try.prog a w K Q := by
  unfold Oper.wp execOp
  simp only [ho, List.map_toArray, List.map_nil, Sem.run_bind, hr, Result.andThen_ok]
  exact h
theorem copy48 {W : World} {B h : Nat} (hh : W.heap[h]? = some (.cells #[] 48 (0, 0))) (hB : B ≤ h) {v : Value} {X : List Seat} (hv : Sls W v X) (hl : X.length ≤ 1000) :
    ∃ p' c' w', (Builtin.append_ #[30, 30] 30 #[.slice (some ⟨h, 0, none⟩) 0 0, v]).run Try.prog W = .ok (.slice p' X.length c') w' ∧ SO w' B (.slice p' X.length c') X ∧ W.grownBy w' (some h) := by
  have hlt : h < W.heap.size := (Array.getElem?_eq_some_iff.1 hh).1
  have hown : W.ownsRow B 48 5 (.slice (some ⟨h, 0, none⟩) 0 0) 0 (tcells []) := ⟨rfl, .inr ⟨h, 0, #[], rfl, hB, hh, Nat.le_refl _, by decide, rfl, rfl⟩⟩
  obtain ⟨p, cap, b, of, rfl, h1, h2, h3, h4, h5⟩ := hv
  obtain ⟨i, z, hi, hz1, hz2, hz3, hz4⟩ := info48h
  cases p with
  | none =>
    obtain ⟨rfl, rfl⟩ := h5 rfl
    have hr := Nd.run_app_none B 30 30 48 i 5 0 Try.underlying30 hi.out W _ 0 (tcells []) hown
    exact ⟨some ⟨h, 0, none⟩, 0, W, hr, hown, grownBy_refl _ _⟩
  | some ad =>
    obtain ⟨v', w', hr, ho, hg, _⟩ := run_append_own (P := Try.prog) (w := W) B 30 30 48 i z 5 48 Try.underlying30 hi.out hz3.out hz1.out hz2.out hz4.out (by decide) _ 0 (tcells []) hown ad X.length cap (tcells X) (tcells_len X) (fun j u hj => by
      have hne : X ≠ [] := by rintro rfl; simp [tcells] at hj
      obtain rfl := Option.some.inj (h3 hne).1
      rw [Addr.add_mid]
      exact h4 j u hj) (tcells_one X) (by unfold maxLen; omega) (by omega) (by omega)
    rw [Nat.zero_add] at ho
    have ho2 : SO w' B v' X := ho
    obtain ⟨p', c', rfl, -⟩ := ho2.own
    exact ⟨p', c', w', hr, ho2, hg⟩
set_option maxHeartbeats 4000000 in
set_option maxRecDepth 100000 in
theorem rclone_any {w : World} {B r : Nat} {room : Int} {X : List Seat} (h : RT w B r room X) (hl : X.length ≤ 1000) :
    Calls Try.prog 23 #[.pointer (some ⟨r, 0, none⟩)] w fun e w' => ∃ q, e = .returned (.pointer (some ⟨q, 0, none⟩)) ∧ RT w' w.heap.size q room X ∧ Below w.heap.size w w' := by
  obtain ⟨v, hrow, hso⟩ := h.ex
  obtain ⟨p, cap, rfl, -⟩ := hso.own
  obtain ⟨w3, HW3⟩ : ∃ w3, Hid (w.drew.alloc (.cells #[] 48) = w3) := ⟨_, hid_in rfl⟩
  have hB3 : Below w.heap.size w w3 := by rw [← HW3.out]; exact ((Below.refl _ _).drew).alloc (Nat.le_refl _) _
  have hh3 : w3.heap[w.heap.size]? = some (.cells #[] 48 (0, 0)) := by rw [← HW3.out]; have h9 := Row.new w.drew [] 48; unfold Row at h9; exact h9
  obtain ⟨p', c', w4, hap, hso4, hg4⟩ := copy48 hh3 (Nat.le_refl _) (hso.below hB3).sls hl
  have hB4 : Below w.heap.size w w4 := below_of_grown hB3 hg4 hB3.size (Nat.le_refl _)
  have hsv : ∀ W, Below w.heap.size w W → W.cell? ⟨r, 0, none⟩ = some (.int .i64 room) ∧ W.cell? ⟨r, 1, none⟩ = some (.slice p X.length cap) := fun W k => ⟨(hrow.below k hrow.lt).cell 0, (hrow.below k hrow.lt).cell 1⟩
  have HSD := hid_in (hsv w.drew (Below.refl _ _).drew)
  have HS3 := hid_in (hsv w3 hB3)
  have HS4 := hid_in (hsv w4 hB4)
  have HB5 : Hid (Below w.heap.size w (w4.alloc (.cells #[.int .i64 room, .slice p' X.length c'] 32))) := hid_in (hB4.alloc hB4.size _)
  have HS5 := hid_in (hsv _ HB5.out)
  have HSL0 : Hid ((Instr.buildSlice 30 0 #[]).run Try.prog w.drew = .ok (.slice (some ⟨w.drew.heap.size, 0, none⟩) 0 0) w3) := hid_in (by rw [empty30 w.drew, HW3.out])
  have HA4 : Hid ((Builtin.append_ #[30, 30] 30 #[.slice (some ⟨w.drew.heap.size, 0, none⟩) 0 0, .slice p X.length cap]).run Try.prog w3 = .ok (.slice p' X.length c') w4) := hid_in hap
  have HRT : Hid (RT (w4.alloc (.cells #[.int .i64 room, .slice p' X.length c'] 32)) w.heap.size w4.heap.size room X) := hid_in ⟨⟨_, Row.new w4 [.int .i64 room, .slice p' X.length c'] 32, hso4.below ((Below.refl _ _).alloc (Nat.le_refl _) _)⟩, hB4.size⟩
  generalize X.length = m at *
  clear h hrow hso hB3 hh3 hap hso4 hg4 hB4 hsv hl HW3
  go_enter Try.func23, Try.ntmps23
  go_upto_region 1 with fail
  refine wp_region_held_drew (S := fun W => W.cell? ⟨r, 0, none⟩ = some (.int .i64 room) ∧ W.cell? ⟨r, 1, none⟩ = some (.slice p m cap)) (by kernel_rfl) HSD.out (fun hHeld => ?_)
  refine take_put (i := 0) (d := 3) (v := ?_) rfl rfl (by kernel_rfl) (by kernel_rfl) (by kernel_rfl) (fun _ _ _ h => h) (Or.inl ⟨by kernel_rfl, ?_⟩) hHeld ?_
  rotate_left
  · (intro w hSw; (try dsimp only at hSw); go_simp; (try with_reducible rfl))
  simp only [Act.put, List.setIfInBounds_toArray, List.set_cons_zero, List.set_cons_succ]
  refine take_put (i := 1) (d := 4) (v := ?_) rfl rfl (by kernel_rfl) (by kernel_rfl) (by kernel_rfl) (fun _ _ _ h => h) (Or.inl ⟨by kernel_rfl, ?_⟩) hHeld ?_
  rotate_left
  · (intro w hSw; (try dsimp only at hSw); go_simp; (try with_reducible rfl))
  simp only [Act.put, List.setIfInBounds_toArray, List.set_cons_zero, List.set_cons_succ]
  refine take_put (i := 2) (d := 5) (v := ?_) rfl rfl (by kernel_rfl) (by kernel_rfl) (by kernel_rfl) (fun _ _ _ h => h) (Or.inl ⟨by kernel_rfl, ?_⟩) hHeld ?_
  rotate_left
  · (intro w hSw; (try dsimp only at hSw); go_simp; (try with_reducible rfl))
  simp only [Act.put, List.setIfInBounds_toArray, List.set_cons_zero, List.set_cons_succ]
  refine take_put (i := 3) (d := 6) (v := ?_) rfl rfl (by kernel_rfl) (by kernel_rfl) (by kernel_rfl) (fun _ _ _ h => h) (Or.inl ⟨by kernel_rfl, ?_⟩) hHeld ?_
  rotate_left
  · (intro w hSw; (try dsimp only at hSw); go_simp; (try with_reducible rfl))
  simp only [Act.put, List.setIfInBounds_toArray, List.set_cons_zero, List.set_cons_succ]
  refine take_put (i := 5) (d := 8) (v := ?_) rfl rfl (by kernel_rfl) (by kernel_rfl) (by kernel_rfl) (fun _ _ _ h => h) (Or.inl ⟨by kernel_rfl, ?_⟩) hHeld ?_
  rotate_left
  · (intro w hSw; (try dsimp only at hSw); go_simp; (try with_reducible rfl))
  simp only [Act.put, List.setIfInBounds_toArray, List.set_cons_zero, List.set_cons_succ]
  refine take_put (i := 6) (d := 9) (v := ?_) rfl rfl (by kernel_rfl) (by kernel_rfl) (by kernel_rfl) (fun _ _ _ h => h) (Or.inl ⟨by kernel_rfl, ?_⟩) hHeld ?_
  rotate_left
  · (intro w hSw; (try dsimp only at hSw); go_simp; (try with_reducible rfl))
  simp only [Act.put, List.setIfInBounds_toArray, List.set_cons_zero, List.set_cons_succ]
  refine take_put (i := 7) (d := 10) (v := ?_) rfl rfl (by kernel_rfl) (by kernel_rfl) (by kernel_rfl) (fun _ _ _ h => h) (Or.inl ⟨by kernel_rfl, ?_⟩) hHeld ?_
  rotate_left
  · (intro w hSw; (try dsimp only at hSw); go_simp; (try with_reducible rfl))
  simp only [Act.put, List.setIfInBounds_toArray, List.set_cons_zero, List.set_cons_succ]
  refine take_put (i := 8) (d := 11) (v := ?_) rfl rfl (by kernel_rfl) (by kernel_rfl) (by kernel_rfl) (fun _ _ _ h => h) (Or.inl ⟨by kernel_rfl, ?_⟩) hHeld ?_
  rotate_left
  · (intro w hSw; (try dsimp only at hSw); go_simp; (try with_reducible rfl))
  simp only [Act.put, List.setIfInBounds_toArray, List.set_cons_zero, List.set_cons_succ]
  refine wpAnyH_ready (rs := [4]) (by kernel_rfl) (by simp) ?_
  refine AllReadyH.cons rfl (fun K hK => ?_) AllReadyH.nil
  rw [if_pos (by rfl)]
  refine wp_slice0 rfl w3 HSL0.out ?_
  simp only [Act.put, List.setIfInBounds_toArray]
  refine hK.out _ _ HS3.out (fun hHeld => ?_)
  clear hK K
  refine wpAnyH_ready (rs := [9]) (by kernel_rfl) (by simp) ?_
  refine AllReadyH.cons rfl (fun K hK => ?_) AllReadyH.nil
  rw [if_pos (by rfl)]
  refine wp_appT 30 (.tmp 7) (.tmp 11) rfl _ _ _ _ 30 rfl ⟨rfl, rfl⟩ HA4.out ?_
  simp only [Act.put]
  refine hK.out _ _ HS4.out (fun hHeld => ?_)
  clear hK K
  refine take_put (i := 10) (d := 13) (v := ?_) rfl rfl (by kernel_rfl) (by kernel_rfl) (by kernel_rfl) (fun _ _ _ h => h) (Or.inl ⟨by kernel_rfl, ?_⟩) hHeld ?_
  rotate_left
  · (intro w hSw; (try dsimp only at hSw); go_simp; (try with_reducible rfl))
  simp only [Act.put]
  refine wpAnyH_ready (rs := [11]) (by kernel_rfl) (by simp) ?_
  refine AllReadyH.cons rfl (fun K hK => ?_) AllReadyH.nil
  rw [if_pos (by rfl)]
  go_simp
  refine hK.out _ _ HS5.out (fun hHeld => ?_)
  clear hK K
  refine take_put (i := 12) (d := 2) (v := ?_) rfl rfl (by kernel_rfl) (by kernel_rfl) (by kernel_rfl) (fun _ _ _ h => h) (Or.inl ⟨by kernel_rfl, ?_⟩) hHeld ?_
  rotate_left
  · (intro w hSw; (try dsimp only at hSw); go_simp; (try with_reducible rfl))
  simp only [Act.put, List.setIfInBounds_toArray, List.set_cons_zero, List.set_cons_succ]
  refine wpAnyH_done (by kernel_rfl) ?_ _
  go_wp2_with fail
  go_ret
  exact ⟨_, rfl, HRT.out, HB5.out⟩
end Go.Proofs.Ytiijlnlkhpneaaa.Se
namespace Go.Proofs.Ytiijlnlkhpneaaa.Se
open Go.ChangeShapes Go.WideShapes Go.ChangeAt Go.RowKit Go.Deep
theorem cells9 : Try.prog.cellsOf 9 = 1 := by kernel_rfl
theorem cells3 : Try.prog.cellsOf 3 = 1 := by kernel_rfl
theorem cells4 : Try.prog.cellsOf 4 = 1 := by kernel_rfl
theorem cells2 : Try.prog.cellsOf 2 = 1 := by kernel_rfl
theorem cells44 : Try.prog.cellsOf 44 = 5 := by kernel_rfl
end Go.Proofs.Ytiijlnlkhpneaaa.Se
namespace Go.Proofs.Ytiijlnlkhpneaaa.Se
open Go.RowKit
open Nd (take_put Row wp_world post_Row grownBy_setCell below_of_grown grownBy_trans grown_of_below grownBy_refl)
/-- both tables are the same -/
def LK (a : World) (B g r : Nat) (room : Int) (T : List Seat) (W : World) : Prop := Tab W g room T ∧ RT W B r room (T.filter seated) ∧ Below a.heap.size a W
theorem LK.below {a : World} {B g r : Nat} {room : Int} {T : List Seat} {W W' : World} (h : LK a B g r room T W) (hb : Below W.heap.size W W') : LK a B g r room T W' :=
  ⟨h.1.below hb h.1.lt, h.2.1.below hb, h.2.2.trans (hb.mono h.2.2.size)⟩
end Go.Proofs.Ytiijlnlkhpneaaa.Se
