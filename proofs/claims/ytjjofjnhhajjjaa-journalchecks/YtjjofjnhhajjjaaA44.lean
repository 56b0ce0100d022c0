/-
  Proved: whatever it is told may be kept or may not, the statement JournalChecks answers true. No condition.
-/
import Derived.Laws.Tables
import Derived.Laws.CopyOwn
import Derived.Deep.CutRange
import Derived.Laws.StructEq
import Derived.OwnWalk
import Derived.Deep.RegionLaw
import Derived.Deep.DrawnRows
import Derived.Lib.SlBytesConst
import Derived.Test.YtjjofjnhhajjjaaA00
import Derived.Test.YtjjofjnhhajjjaaA01
import Derived.Test.YtjjofjnhhajjjaaA02
import Derived.Test.YtjjofjnhhajjjaaA03
import Derived.Test.YtjjofjnhhajjjaaA04
import Derived.Test.YtjjofjnhhajjjaaA05
import Derived.Test.YtjjofjnhhajjjaaA06
import Derived.Test.YtjjofjnhhajjjaaA07
import Derived.Test.YtjjofjnhhajjjaaA08
import Derived.Test.YtjjofjnhhajjjaaA09
import Derived.Test.YtjjofjnhhajjjaaA10
import Derived.Test.YtjjofjnhhajjjaaA11
import Derived.Test.YtjjofjnhhajjjaaA12
import Derived.Test.YtjjofjnhhajjjaaA13
import Derived.Test.YtjjofjnhhajjjaaA14
import Derived.Test.YtjjofjnhhajjjaaA15
import Derived.Test.YtjjofjnhhajjjaaA16
import Derived.Test.YtjjofjnhhajjjaaA17
import Derived.Test.YtjjofjnhhajjjaaA18
import Derived.Test.YtjjofjnhhajjjaaA19
import Derived.Test.YtjjofjnhhajjjaaA20
import Derived.Test.YtjjofjnhhajjjaaA21
import Derived.Test.YtjjofjnhhajjjaaA22
import Derived.Test.YtjjofjnhhajjjaaA23
import Derived.Test.YtjjofjnhhajjjaaA24
import Derived.Test.YtjjofjnhhajjjaaA25
import Derived.Test.YtjjofjnhhajjjaaA26
import Derived.Test.YtjjofjnhhajjjaaA27
import Derived.Test.YtjjofjnhhajjjaaA28
import Derived.Test.YtjjofjnhhajjjaaA29
import Derived.Test.YtjjofjnhhajjjaaA30
import Derived.Test.YtjjofjnhhajjjaaA31
import Derived.Test.YtjjofjnhhajjjaaA32
import Derived.Test.YtjjofjnhhajjjaaA33
import Derived.Test.YtjjofjnhhajjjaaA34
import Derived.Test.YtjjofjnhhajjjaaA35
import Derived.Test.YtjjofjnhhajjjaaA36
import Derived.Test.YtjjofjnhhajjjaaA37
import Derived.Test.YtjjofjnhhajjjaaA38
import Derived.Test.YtjjofjnhhajjjaaA39
import Derived.Test.YtjjofjnhhajjjaaA40
import Derived.Test.YtjjofjnhhajjjaaA41
import Derived.Test.YtjjofjnhhajjjaaA42
import Derived.Test.YtjjofjnhhajjjaaA43
namespace Go.Proofs.Ytjjofjnhhajjjaa.Jr.journalChecks
open Go.ChangeShapes Go.WideShapes Go.ChangeAt Go.RowKit
open Jr
theorem laidOut : laidOutB Try.prog = true := by kernel_rfl
theorem own : ownKnob Try.prog.godebug = none := by kernel_rfl
set_option maxRecDepth 100000 in
theorem contract (H : Type) (enc : TypeId × Value → H) (W : World) (base : Nat) (args : Array Value) (ds gs : List (DataW H)) (before : List MemPlace)
    (hval : ∀ (j : Nat) t v, Try.f4.params[j]? = some t → args[j]? = some v → Value.okWide Try.prog W .any base t v)
    (hW : DataW.Whole enc Try.prog Try.f4.params.toList Rows.journalChecksSpec.vars false W args.toList ds gs before) (_hL : laidMetH Try.prog Rows.journalChecksRow.laid W)
    (_hsz : (DataW.weightsEach Try.prog (Try.f4.params.toList ++ (OpenSpec.ofChange Rows.journalChecksSpec).bare.plain.varTypes Try.prog) (ds ++ gs)).all (· ≤ reachBytes) = true) :
    Calls Try.prog 4 args W fun e W' => ∃ v, e = .returned v ∧ Rows.journalChecksSpec.post enc Try.prog Try.f4 false true false false W args v W' := by
  have hW' := hW
  obtain ⟨p, q, hA0, hV, rfl, hfz, hnd⟩ := hW
  have hA : DataW.TrodAll enc Try.prog W 0 (fun _ => true) true Try.f4.params.toList args.toList ds p := hA0
  rw [Try.params4] at hA hval
  obtain ⟨v0, vs0, d0, ds0, p0, q0, hargs, rfl, rfl, h0, r0⟩ := trodAll_cons hA
  obtain ⟨rfl, rfl, rfl⟩ := trodAll_nil r0
  obtain rfl : args = #[v0] := by cases args; exact congrArg List.toArray hargs
  obtain ⟨rfl, rfl⟩ := trodVars_none hV
  obtain ⟨cs0, rfl, _⟩ := okWide_struct Try.underlying30 (hval 0 30 v0 rfl rfl)
  have k0 := h0
  have lt0 : ∀ x ∈ p0, x.block < W.heap.size := by obtain ⟨m, hm⟩ := k0; exact DataW.trod_lt m _ _ _ hm
  obtain ⟨fu0, hf0⟩ := h0
  obtain ⟨k, vn, hcs0, ok0, es0⟩ := kept_in hf0
  obtain rfl : cs0 = (k.cells vn).toArray := by
    cases cs0
    simpa [Value.cells] using hcs0
  clear hA0
  refine (checks_any k vn W ok0 es0).mono fun e W' ⟨he, bel⟩ => ?_
  subst he
  exact ⟨_, rfl, _, _, _, [], _, [], hW', trodAll_mk1 (shut_bool Try.underlying4 _), (trodAll_cons_mk (Below.trod laidOut (by kernel_rfl) (of_decide_eq_true (by kernel_rfl)) k0 bel lt0) trodAll_mk0), rfl, bel.frame _, fun h => by cases h⟩
theorem laid_met (os : Os) : laidMet Try.prog Rows.journalChecksRow.laid ((World.holding Try.prog os ⟨#[], #[], []⟩).forCall (fun _ _ => 0) ⟨#[], #[.agg #[.int .i64 0, .int .i64 0, .int .i64 0, .string ⟨#[]⟩, .slice none 0 0]], []⟩).memory :=
  laidMet_of_run' 8 (by kernel_rfl) (by kernel_rfl)
theorem reads (os : Os) {H : Type} (enc : TypeId × Value → H) : ∃ places, DataW.whole enc Try.prog ((World.holding Try.prog os ⟨#[], #[], []⟩).forCall (fun _ _ => 0) ⟨#[], #[.agg #[.int .i64 0, .int .i64 0, .int .i64 0, .string ⟨#[]⟩, .slice none 0 0]], []⟩).memory Try.f4.params.toList Rows.journalChecksSpec.vars false (#[Value.agg #[.int .i64 0, .int .i64 0, .int .i64 0, .string ⟨#[]⟩, .slice none 0 0]]).toList 8 = some ([.agg [.lit (.int .i64 0), .lit (.int .i64 0), .lit (.int .i64 0), .lit (.string []), .nil]], [], places) :=
  ⟨[], by kernel_rfl⟩
set_option maxRecDepth 100000 in
theorem lifted (os : Os) (started : os.Started) (H : Type) (enc : TypeId × Value → H) (F : Stop.Interp) :
    ReturnsInHanded {} Try.checked os 4 .any ((OpenSpec.ofChange Rows.journalChecksSpec).preRow enc Try.prog Try.f4 Rows.journalChecksRow.domain false Rows.journalChecksRow.laid) (((OpenSpec.ofChange Rows.journalChecksSpec).at F).post enc Try.prog Try.f4 false true false false) := by
  obtain ⟨places, hx⟩ := reads os enc
  refine returnsInHanded_of_row (C := Try.checked) (s := OpenSpec.ofChange Rows.journalChecksSpec) own started (by kernel_rfl) Try.func4
    (witness_row_at (enc := enc) (C := Try.checked) false (World.holding Try.prog os ⟨#[], #[], []⟩) #[.agg #[.int .i64 0, .int .i64 0, .int .i64 0, .string ⟨#[]⟩, .slice none 0 0]] rfl (by kernel_rfl) (by kernel_rfl) (by kernel_rfl)
      (OpenSpec.preRow_of_cond 8 hx (by kernel_rfl) (fun k hk => by cases hk) (by kernel_rfl) (laid_met os))) ?_
  intro W base args ds gs before hval hW _ _ hsz hL _ _
  exact contract H enc W base args ds gs before hval hW hL hsz
theorem said : Rows.JournalChecksSaid :=
  OpenClaim.holds_of_cond 4 Try.f4 rfl rfl rfl rfl rfl rfl rfl ⟨rfl, rfl, rfl, rfl, rfl⟩ rfl rfl rfl rfl rfl (by kernel_rfl) Try.func4 (by kernel_rfl)
    (of_decide_eq_true (by kernel_rfl)) (by unfold Func.isWrapper; first | (rw [if_pos (by decide +kernel)]; kernel_rfl) | (rw [if_neg (by decide +kernel)]; exact ⟨rfl, rfl⟩))
    (fun os started H enc _ F => by rw [OpenClaim.pre_eq_preRow]; exact lifted os started H enc F)
end Go.Proofs.Ytjjofjnhhajjjaa.Jr.journalChecks
namespace Go.Proofs.Ytjjofjnhhajjjaa
theorem journalChecks_said : Rows.JournalChecksSaid := Jr.journalChecks.said
end Go.Proofs.Ytjjofjnhhajjjaa
