/-
  Proved: for all quotas, every script of puts and drops and all names the statement UpperPlays answers true: every answer, and what is there behind it, at any path and below it, is what the document says. No condition.
-/
import Derived.ProofKit
import Derived.OpenShut
import Derived.ShutString
import Derived.ChangeOld
import Derived.Deep.DeepHandedRow
import Derived.Deep.Slices
import Derived.SizedLaws
import Derived.Lib.LaidTab
import Derived.Shelf.SlMaps.Clone
import Derived.Laws.Tables
import Derived.Lib.AppendZeros
import Derived.Deep.DrawnRows
import Derived.Deep.CutRange
import Derived.Laws.CopyOwn
import Derived.Deep.RegionLaw
import Derived.Test.YtglfeocfhlmloaaW00
import Derived.Test.YtglfeocfhlmloaaW01
import Derived.Test.YtglfeocfhlmloaaW02
import Derived.Test.YtglfeocfhlmloaaW03
import Derived.Test.YtglfeocfhlmloaaW04
import Derived.Test.YtglfeocfhlmloaaW05
import Derived.Test.YtglfeocfhlmloaaW06
import Derived.Test.YtglfeocfhlmloaaW07
import Derived.Test.YtglfeocfhlmloaaW08
import Derived.Test.YtglfeocfhlmloaaW09
import Derived.Test.YtglfeocfhlmloaaW10
import Derived.Test.YtglfeocfhlmloaaW11
import Derived.Test.YtglfeocfhlmloaaW12
import Derived.Test.YtglfeocfhlmloaaW13
import Derived.Test.YtglfeocfhlmloaaW14
import Derived.Test.YtglfeocfhlmloaaW15
import Derived.Test.YtglfeocfhlmloaaW16
import Derived.Test.YtglfeocfhlmloaaW17
import Derived.Test.YtglfeocfhlmloaaW18
import Derived.Test.YtglfeocfhlmloaaW19
import Derived.Test.YtglfeocfhlmloaaW20
import Derived.Test.YtglfeocfhlmloaaW21
import Derived.Test.YtglfeocfhlmloaaW22
import Derived.Test.YtglfeocfhlmloaaW23
import Derived.Test.YtglfeocfhlmloaaW24
import Derived.Test.YtglfeocfhlmloaaW25
import Derived.Test.YtglfeocfhlmloaaW26
import Derived.Test.YtglfeocfhlmloaaW27
import Derived.Test.YtglfeocfhlmloaaW28
import Derived.Test.YtglfeocfhlmloaaW29
import Derived.Test.YtglfeocfhlmloaaW30
import Derived.Test.YtglfeocfhlmloaaW31
import Derived.Test.YtglfeocfhlmloaaW32
import Derived.Test.YtglfeocfhlmloaaW33
import Derived.Test.YtglfeocfhlmloaaW34
import Derived.Test.YtglfeocfhlmloaaW35
import Derived.Test.YtglfeocfhlmloaaW36
import Derived.Test.YtglfeocfhlmloaaW37
import Derived.Test.YtglfeocfhlmloaaW38
import Derived.Test.YtglfeocfhlmloaaW39
import Derived.Test.YtglfeocfhlmloaaW40
import Derived.Test.YtglfeocfhlmloaaW41
namespace Go.Proofs.Ytglfeocfhlmloaa.Up.upperPlays
open Go.ChangeShapes Go.WideShapes Go.ChangeAt Go.RowKit
open Go.ChangeMaps (open_string shut_string)
theorem laidOut : laidOutB Try.prog = true := by kernel_rfl
theorem own : ownKnob Try.prog.godebug = none := by kernel_rfl
set_option maxRecDepth 100000 in
theorem contract (H : Type) (enc : TypeId × Value → H) (W : World) (base : Nat) (args : Array Value) (ds gs : List (DataW H)) (before : List MemPlace)
    (hval : ∀ (j : Nat) t v, Try.f3.params[j]? = some t → args[j]? = some v → Value.okWide Try.prog W .any base t v)
    (hW : DataW.Whole enc Try.prog Try.f3.params.toList Rows.upperPlaysSpec.vars false W args.toList ds gs before) (_hL : laidMetH Try.prog Rows.upperPlaysRow.laid W)
    (_hsz : (DataW.weightsEach Try.prog (Try.f3.params.toList ++ (OpenSpec.ofChange Rows.upperPlaysSpec).bare.plain.varTypes Try.prog) (ds ++ gs)).all (· ≤ reachBytes) = true) :
    Calls Try.prog 3 args W fun e W' => ∃ v, e = .returned v ∧ Rows.upperPlaysSpec.post enc Try.prog Try.f3 false true false false W args v W' := by
  have hW' := hW
  obtain ⟨p, q, hA0, hV, rfl, hfz, hnd⟩ := hW
  have hA : DataW.TrodAll enc Try.prog W 0 (fun _ => true) true Try.f3.params.toList args.toList ds p := hA0
  rw [Try.params3] at hA hval
  obtain ⟨v0, vs0, d0, ds0, p0, q0, hargs, rfl, rfl, h0, r0⟩ := trodAll_cons hA
  obtain ⟨v1, vs1, d1, ds1, p1, q1, rfl, rfl, rfl, h1, r1⟩ := trodAll_cons r0
  obtain ⟨v2, vs2, d2, ds2, p2, q2, rfl, rfl, rfl, h2, r2⟩ := trodAll_cons r1
  obtain ⟨v3, vs3, d3, ds3, p3, q3, rfl, rfl, rfl, h3, r3⟩ := trodAll_cons r2
  obtain ⟨rfl, rfl, rfl⟩ := trodAll_nil r3
  obtain rfl : args = #[v0, v1, v2, v3] := by cases args; exact congrArg List.toArray hargs
  obtain ⟨rfl, rfl⟩ := trodVars_none hV
  obtain ⟨x0, rfl, rfl, rfl, w0⟩ := open_int Try.underlying3 (hval 0 3 v0 rfl rfl) h0
  obtain ⟨x1, rfl, rfl, rfl, w1⟩ := open_int Try.underlying3 (hval 1 3 v1 rfl rfl) h1
  obtain ⟨a2, len2, cap2, rfl⟩ := okWide_slice Try.underlying22 (hval 2 22 v2 rfl rfl)
  have k2 := h2
  have lt2 : ∀ x ∈ p2, x.block < W.heap.size := by obtain ⟨m, hm⟩ := k2; exact DataW.trod_lt m _ _ _ hm
  obtain ⟨ss, hss, hps⟩ := steps_in h2
  obtain ⟨a3, len3, cap3, rfl⟩ := okWide_slice Try.underlying23 (hval 3 23 v3 rfl rfl)
  have k3 := h3
  have lt3 : ∀ x ∈ p3, x.block < W.heap.size := by obtain ⟨m, hm⟩ := k3; exact DataW.trod_lt m _ _ _ hm
  obtain ⟨xs, hxv, hxl⟩ := names_in h3
  clear hA0
  refine (plays_any x0 x1 ss _ _ xs W hss hps hxv hxl).mono fun e W' ⟨he, bel⟩ => ?_
  subst he
  exact ⟨_, rfl, _, _, _, [], _, [], hW', trodAll_mk1 (shut_bool Try.underlying4 _), (trodAll_cons_mk (shut_int Try.underlying3 w0) (trodAll_cons_mk (shut_int Try.underlying3 w1) (trodAll_cons_mk (Below.trod laidOut (by kernel_rfl) (of_decide_eq_true (by kernel_rfl)) k2 bel lt2) (trodAll_cons_mk (Below.trod laidOut (by kernel_rfl) (of_decide_eq_true (by kernel_rfl)) k3 bel lt3) trodAll_mk0)))), rfl, bel.frame _, fun h => by cases h⟩
theorem laid_met (os : Os) : laidMet Try.prog Rows.upperPlaysRow.laid ((World.holding Try.prog os ⟨#[], #[], []⟩).forCall (fun _ _ => 0) ⟨#[], #[.int .i64 0, .int .i64 0, .slice none 0 0, .slice none 0 0], []⟩).memory :=
  laidMet_of_run' 8 (by kernel_rfl) (by kernel_rfl)
theorem reads (os : Os) {H : Type} (enc : TypeId × Value → H) : ∃ places, DataW.whole enc Try.prog ((World.holding Try.prog os ⟨#[], #[], []⟩).forCall (fun _ _ => 0) ⟨#[], #[.int .i64 0, .int .i64 0, .slice none 0 0, .slice none 0 0], []⟩).memory Try.f3.params.toList Rows.upperPlaysSpec.vars false (#[Value.int .i64 0, Value.int .i64 0, Value.slice none 0 0, Value.slice none 0 0]).toList 8 = some ([.lit (.int .i64 0), .lit (.int .i64 0), .nil, .nil], [], places) :=
  ⟨[], by kernel_rfl⟩
set_option maxRecDepth 100000 in
theorem lifted (os : Os) (started : os.Started) (H : Type) (enc : TypeId × Value → H) (F : Stop.Interp) :
    ReturnsInHanded {} Try.checked os 3 .any ((OpenSpec.ofChange Rows.upperPlaysSpec).preRow enc Try.prog Try.f3 Rows.upperPlaysRow.domain false Rows.upperPlaysRow.laid) (((OpenSpec.ofChange Rows.upperPlaysSpec).at F).post enc Try.prog Try.f3 false true false false) := by
  obtain ⟨places, hx⟩ := reads os enc
  refine returnsInHanded_of_row (C := Try.checked) (s := OpenSpec.ofChange Rows.upperPlaysSpec) own started (by kernel_rfl) Try.func3
    (witness_row_at (enc := enc) (C := Try.checked) false (World.holding Try.prog os ⟨#[], #[], []⟩) #[.int .i64 0, .int .i64 0, .slice none 0 0, .slice none 0 0] rfl (by kernel_rfl) (by kernel_rfl) (by kernel_rfl)
      (OpenSpec.preRow_of_cond 8 hx (by kernel_rfl) (fun k hk => by cases hk) (by kernel_rfl) (laid_met os))) ?_
  intro W base args ds gs before hval hW _ _ hsz hL _ _
  exact contract H enc W base args ds gs before hval hW hL hsz
theorem said : Rows.UpperPlaysSaid :=
  OpenClaim.holds_of_cond 3 Try.f3 rfl rfl rfl rfl rfl rfl rfl ⟨rfl, rfl, rfl, rfl, rfl⟩ rfl rfl rfl rfl rfl (by kernel_rfl) Try.func3 (by kernel_rfl)
    (of_decide_eq_true (by kernel_rfl)) (by unfold Func.isWrapper; first | (rw [if_pos (by decide +kernel)]; kernel_rfl) | (rw [if_neg (by decide +kernel)]; exact ⟨rfl, rfl⟩))
    (fun os started H enc _ F => by rw [OpenClaim.pre_eq_preRow]; exact lifted os started H enc F)
end Go.Proofs.Ytglfeocfhlmloaa.Up.upperPlays
namespace Go.Proofs.Ytglfeocfhlmloaa
theorem upperPlays_said : Rows.UpperPlaysSaid := Up.upperPlays.said
end Go.Proofs.Ytglfeocfhlmloaa
