/-
  Proved: for every script of puts and drops the statement UpperRefused answers true: what is refused changes nothing, a clone goes on apart, without an upper branch there is an error or nothing. No condition.
-/
import Derived.ProofKit
import Derived.OpenShut
import Derived.ShutString
import Derived.ChangeOld
import Derived.Deep.DeepHandedRow
import Derived.Deep.Slices
import Derived.SizedLaws
import Derived.Lib.LaidTab
import Derived.Laws.CopyOwn
import Derived.Deep.RegionLaw
import Derived.Deep.DrawnRows
import Derived.Deep.CutRange
import Derived.Laws.Tables
import Derived.Test.YtglfeocfhlmloaaU00
import Derived.Test.YtglfeocfhlmloaaU01
import Derived.Test.YtglfeocfhlmloaaU02
import Derived.Test.YtglfeocfhlmloaaU03
import Derived.Test.YtglfeocfhlmloaaU04
import Derived.Test.YtglfeocfhlmloaaU05
import Derived.Test.YtglfeocfhlmloaaU06
import Derived.Test.YtglfeocfhlmloaaU07
import Derived.Test.YtglfeocfhlmloaaU08
import Derived.Test.YtglfeocfhlmloaaU09
import Derived.Test.YtglfeocfhlmloaaU10
import Derived.Test.YtglfeocfhlmloaaU11
import Derived.Test.YtglfeocfhlmloaaU12
import Derived.Test.YtglfeocfhlmloaaU13
import Derived.Test.YtglfeocfhlmloaaU14
import Derived.Test.YtglfeocfhlmloaaU15
import Derived.Test.YtglfeocfhlmloaaU16
import Derived.Test.YtglfeocfhlmloaaU17
import Derived.Test.YtglfeocfhlmloaaU18
import Derived.Test.YtglfeocfhlmloaaU19
import Derived.Test.YtglfeocfhlmloaaU20
import Derived.Test.YtglfeocfhlmloaaU21
import Derived.Test.YtglfeocfhlmloaaU22
import Derived.Test.YtglfeocfhlmloaaU23
import Derived.Test.YtglfeocfhlmloaaU24
import Derived.Test.YtglfeocfhlmloaaU25
import Derived.Test.YtglfeocfhlmloaaU26
import Derived.Test.YtglfeocfhlmloaaU27
import Derived.Test.YtglfeocfhlmloaaU28
import Derived.Test.YtglfeocfhlmloaaU29
import Derived.Test.YtglfeocfhlmloaaU30
import Derived.Test.YtglfeocfhlmloaaU31
namespace Go.Proofs.Ytglfeocfhlmloaa.Up.upperRefused
open Go.ChangeShapes Go.WideShapes Go.ChangeAt Go.RowKit
open Go.ChangeMaps (open_string shut_string)
theorem laidOut : laidOutB Try.prog = true := by kernel_rfl
theorem own : ownKnob Try.prog.godebug = none := by kernel_rfl
set_option maxRecDepth 100000 in
theorem contract (H : Type) (enc : TypeId × Value → H) (W : World) (base : Nat) (args : Array Value) (ds gs : List (DataW H)) (before : List MemPlace)
    (hval : ∀ (j : Nat) t v, Try.f4.params[j]? = some t → args[j]? = some v → Value.okWide Try.prog W .any base t v)
    (hW : DataW.Whole enc Try.prog Try.f4.params.toList Rows.upperRefusedSpec.vars false W args.toList ds gs before) (_hL : laidMetH Try.prog Rows.upperRefusedRow.laid W)
    (_hsz : (DataW.weightsEach Try.prog (Try.f4.params.toList ++ (OpenSpec.ofChange Rows.upperRefusedSpec).bare.plain.varTypes Try.prog) (ds ++ gs)).all (· ≤ reachBytes) = true) :
    Calls Try.prog 4 args W fun e W' => ∃ v, e = .returned v ∧ Rows.upperRefusedSpec.post enc Try.prog Try.f4 false true false false W args v W' := by
  have hW' := hW
  obtain ⟨p, q, hA0, hV, rfl, hfz, hnd⟩ := hW
  have hA : DataW.TrodAll enc Try.prog W 0 (fun _ => true) true Try.f4.params.toList args.toList ds p := hA0
  rw [Try.params4] at hA hval
  obtain ⟨v0, vs0, d0, ds0, p0, q0, hargs, rfl, rfl, h0, r0⟩ := trodAll_cons hA
  obtain ⟨rfl, rfl, rfl⟩ := trodAll_nil r0
  obtain rfl : args = #[v0] := by cases args; exact congrArg List.toArray hargs
  obtain ⟨rfl, rfl⟩ := trodVars_none hV
  obtain ⟨a0, len0, cap0, rfl⟩ := okWide_slice Try.underlying22 (hval 0 22 v0 rfl rfl)
  have k0 := h0
  have lt0 : ∀ x ∈ p0, x.block < W.heap.size := by obtain ⟨m, hm⟩ := k0; exact DataW.trod_lt m _ _ _ hm
  obtain ⟨ss, hss, hps⟩ := steps_in h0
  clear hA0
  refine (refused_any ss _ W hss hps).mono fun e W' ⟨he, bel⟩ => ?_
  subst he
  exact ⟨_, rfl, _, _, _, [], _, [], hW', trodAll_mk1 (shut_bool Try.underlying4 _), (trodAll_cons_mk (Below.trod laidOut (by kernel_rfl) (of_decide_eq_true (by kernel_rfl)) k0 bel lt0) trodAll_mk0), rfl, bel.frame _, fun h => by cases h⟩
theorem laid_met (os : Os) : laidMet Try.prog Rows.upperRefusedRow.laid ((World.holding Try.prog os ⟨#[], #[], []⟩).forCall (fun _ _ => 0) ⟨#[], #[.slice none 0 0], []⟩).memory :=
  laidMet_of_run' 8 (by kernel_rfl) (by kernel_rfl)
theorem reads (os : Os) {H : Type} (enc : TypeId × Value → H) : ∃ places, DataW.whole enc Try.prog ((World.holding Try.prog os ⟨#[], #[], []⟩).forCall (fun _ _ => 0) ⟨#[], #[.slice none 0 0], []⟩).memory Try.f4.params.toList Rows.upperRefusedSpec.vars false (#[Value.slice none 0 0]).toList 8 = some ([.nil], [], places) :=
  ⟨[], by kernel_rfl⟩
set_option maxRecDepth 100000 in
theorem lifted (os : Os) (started : os.Started) (H : Type) (enc : TypeId × Value → H) (F : Stop.Interp) :
    ReturnsInHanded {} Try.checked os 4 .any ((OpenSpec.ofChange Rows.upperRefusedSpec).preRow enc Try.prog Try.f4 Rows.upperRefusedRow.domain false Rows.upperRefusedRow.laid) (((OpenSpec.ofChange Rows.upperRefusedSpec).at F).post enc Try.prog Try.f4 false true false false) := by
  obtain ⟨places, hx⟩ := reads os enc
  refine returnsInHanded_of_row (C := Try.checked) (s := OpenSpec.ofChange Rows.upperRefusedSpec) own started (by kernel_rfl) Try.func4
    (witness_row_at (enc := enc) (C := Try.checked) false (World.holding Try.prog os ⟨#[], #[], []⟩) #[.slice none 0 0] rfl (by kernel_rfl) (by kernel_rfl) (by kernel_rfl)
      (OpenSpec.preRow_of_cond 8 hx (by kernel_rfl) (fun k hk => by cases hk) (by kernel_rfl) (laid_met os))) ?_
  intro W base args ds gs before hval hW _ _ hsz hL _ _
  exact contract H enc W base args ds gs before hval hW hL hsz
theorem said : Rows.UpperRefusedSaid :=
  OpenClaim.holds_of_cond 4 Try.f4 rfl rfl rfl rfl rfl rfl rfl ⟨rfl, rfl, rfl, rfl, rfl⟩ rfl rfl rfl rfl rfl (by kernel_rfl) Try.func4 (by kernel_rfl)
    (of_decide_eq_true (by kernel_rfl)) (by unfold Func.isWrapper; first | (rw [if_pos (by decide +kernel)]; kernel_rfl) | (rw [if_neg (by decide +kernel)]; exact ⟨rfl, rfl⟩))
    (fun os started H enc _ F => by rw [OpenClaim.pre_eq_preRow]; exact lifted os started H enc F)
end Go.Proofs.Ytglfeocfhlmloaa.Up.upperRefused
namespace Go.Proofs.Ytglfeocfhlmloaa
theorem upperRefused_said : Rows.UpperRefusedSaid := Up.upperRefused.said
end Go.Proofs.Ytglfeocfhlmloaa
