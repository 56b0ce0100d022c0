/-
  Proved: for every two scripts of acts the statement JournalAgain answers true: what is kept of a journal is what Lay brings to another, the two go on alike (30 acts and 30), and Open anew finds it. Condition: the arguments are together of bulk at most 1048576 (the second form).
-/
import Derived.OwnWalk
import Derived.Deep.RegionLaw
import Derived.Deep.DrawnRows
import Derived.Laws.StructEq
import Derived.Laws.Tables
import Derived.Laws.CopyOwn
import Derived.Deep.CutRange
import Derived.Lib.SlBytesConst
import Derived.Test.YtjjofjnhhajjjaaB00
import Derived.Test.YtjjofjnhhajjjaaB01
import Derived.Test.YtjjofjnhhajjjaaB02
import Derived.Test.YtjjofjnhhajjjaaB03
import Derived.Test.YtjjofjnhhajjjaaB04
import Derived.Test.YtjjofjnhhajjjaaB05
import Derived.Test.YtjjofjnhhajjjaaB06
import Derived.Test.YtjjofjnhhajjjaaB07
import Derived.Test.YtjjofjnhhajjjaaB08
import Derived.Test.YtjjofjnhhajjjaaB09
import Derived.Test.YtjjofjnhhajjjaaB10
import Derived.Test.YtjjofjnhhajjjaaB11
import Derived.Test.YtjjofjnhhajjjaaB12
import Derived.Test.YtjjofjnhhajjjaaB13
import Derived.Test.YtjjofjnhhajjjaaB14
import Derived.Test.YtjjofjnhhajjjaaB15
import Derived.Test.YtjjofjnhhajjjaaB16
import Derived.Test.YtjjofjnhhajjjaaB17
import Derived.Test.YtjjofjnhhajjjaaB18
import Derived.Test.YtjjofjnhhajjjaaB19
import Derived.Test.YtjjofjnhhajjjaaB20
import Derived.Test.YtjjofjnhhajjjaaB21
import Derived.Test.YtjjofjnhhajjjaaB22
import Derived.Test.YtjjofjnhhajjjaaB23
import Derived.Test.YtjjofjnhhajjjaaB24
import Derived.Test.YtjjofjnhhajjjaaB25
import Derived.Test.YtjjofjnhhajjjaaB26
import Derived.Test.YtjjofjnhhajjjaaB27
import Derived.Test.YtjjofjnhhajjjaaB28
import Derived.Test.YtjjofjnhhajjjaaB29
import Derived.Test.YtjjofjnhhajjjaaB30
import Derived.Test.YtjjofjnhhajjjaaB31
import Derived.Test.YtjjofjnhhajjjaaB32
import Derived.Test.YtjjofjnhhajjjaaB33
import Derived.Test.YtjjofjnhhajjjaaB34
import Derived.Test.YtjjofjnhhajjjaaB35
import Derived.Test.YtjjofjnhhajjjaaB36
import Derived.Test.YtjjofjnhhajjjaaB37
import Derived.Test.YtjjofjnhhajjjaaB38
import Derived.Test.YtjjofjnhhajjjaaB39
import Derived.Test.YtjjofjnhhajjjaaB40
import Derived.Test.YtjjofjnhhajjjaaB41
import Derived.Test.YtjjofjnhhajjjaaB42
import Derived.Test.YtjjofjnhhajjjaaB43
import Derived.Test.YtjjofjnhhajjjaaB44
import Derived.Test.YtjjofjnhhajjjaaB45
import Derived.Test.YtjjofjnhhajjjaaB46
namespace Go.Proofs.Ytjjofjnhhajjjaa.Jr.journalAgain
open Go.ChangeShapes Go.WideShapes Go.ChangeAt Go.RowKit
theorem laidOut : laidOutB Try.prog = true := by kernel_rfl
theorem own : ownKnob Try.prog.godebug = none := by kernel_rfl
set_option maxRecDepth 100000 in
theorem contract (H : Type) (enc : TypeId × Value → H) (W : World) (base : Nat) (args : Array Value) (ds gs : List (DataW H)) (before : List MemPlace)
    (hval : ∀ (j : Nat) t v, Try.f5.params[j]? = some t → args[j]? = some v → Value.okWide Try.prog W .any base t v)
    (hW : DataW.Whole enc Try.prog Try.f5.params.toList Rows.journalAgainSpec.vars false W args.toList ds gs before) (_hL : laidMetH Try.prog Rows.journalAgainUptoRow.laid W)
    (hk : Rows.uptoSmall H (ds ++ gs) = true) :
    Calls Try.prog 5 args W fun e W' => ∃ v, e = .returned v ∧ Rows.journalAgainSpec.post enc Try.prog Try.f5 false true false false W args v W' := by
  have hW' := hW
  obtain ⟨p, q, hA0, hV, rfl, hfz, hnd⟩ := hW
  have hA : DataW.TrodAll enc Try.prog W 0 (fun _ => true) true Try.f5.params.toList args.toList ds p := hA0
  rw [Try.params5] at hA hval
  obtain ⟨v0, vs0, d0, ds0, p0, q0, hargs, rfl, rfl, h0, r0⟩ := trodAll_cons hA
  obtain ⟨v1, vs1, d1, ds1, p1, q1, rfl, rfl, rfl, h1, r1⟩ := trodAll_cons r0
  obtain ⟨rfl, rfl, rfl⟩ := trodAll_nil r1
  obtain rfl : args = #[v0, v1] := by cases args; exact congrArg List.toArray hargs
  obtain ⟨rfl, rfl⟩ := trodVars_none hV
  obtain ⟨a0, len0, cap0, rfl⟩ := okWide_slice Try.underlying22 (hval 0 22 v0 rfl rfl)
  have k0 := h0
  have lt0 : ∀ x ∈ p0, x.block < W.heap.size := by obtain ⟨m, hm⟩ := k0; exact DataW.trod_lt m _ _ _ hm
  obtain ⟨ss0, hss0, hbb0⟩ := acts_in h0
  obtain ⟨a1, len1, cap1, rfl⟩ := okWide_slice Try.underlying22 (hval 1 22 v1 rfl rfl)
  have k1 := h1
  have lt1 : ∀ x ∈ p1, x.block < W.heap.size := by obtain ⟨m, hm⟩ := k1; exact DataW.trod_lt m _ _ _ hm
  obtain ⟨ss1, hss1, hbb1⟩ := acts_in h1
  have hbulk : Rows.uptoBulkAll ([d0, d1] ++ ([] : List (DataW H))) ≤ 1048576 := of_decide_eq_true hk
  simp only [List.append_nil, Rows.uptoBulkAll] at hbulk
  clear hA0
  refine (again_any W _ _ ss0 ss1 hss0 hss1 (fun x hx => by have := hbb0 x hx; omega) (fun x hx => by have := hbb1 x hx; omega)).mono fun e W' ⟨he, bel⟩ => ?_
  subst he
  exact ⟨_, rfl, _, _, _, [], _, [], hW', trodAll_mk1 (shut_bool Try.underlying4 _), (trodAll_cons_mk (Below.trod laidOut (by kernel_rfl) (of_decide_eq_true (by kernel_rfl)) k0 bel lt0) (trodAll_cons_mk (Below.trod laidOut (by kernel_rfl) (of_decide_eq_true (by kernel_rfl)) k1 bel lt1) trodAll_mk0)), rfl, bel.frame _, fun h => by cases h⟩
theorem laid_met (os : Os) : laidMet Try.prog Rows.journalAgainUptoRow.laid ((World.holding Try.prog os ⟨#[], #[], []⟩).forCall (fun _ _ => 0) ⟨#[], #[.slice none 0 0, .slice none 0 0], []⟩).memory :=
  laidMet_of_run' 8 (by kernel_rfl) (by kernel_rfl)
theorem reads (os : Os) {H : Type} (enc : TypeId × Value → H) : ∃ places, DataW.whole enc Try.prog ((World.holding Try.prog os ⟨#[], #[], []⟩).forCall (fun _ _ => 0) ⟨#[], #[.slice none 0 0, .slice none 0 0], []⟩).memory Try.f5.params.toList Rows.journalAgainSpec.vars false (#[Value.slice none 0 0, Value.slice none 0 0]).toList 8 = some ([.nil, .nil], [], places) :=
  ⟨[], by kernel_rfl⟩
set_option maxRecDepth 100000 in
theorem lifted (os : Os) (started : os.Started) (H : Type) (enc : TypeId × Value → H) (F : Stop.Interp) :
    ReturnsInHanded {} Try.checked os 5 .any ((Rows.OpenSpec.upto Rows.journalAgainSpec).preRow enc Try.prog Try.f5 Rows.journalAgainUptoRow.domain false Rows.journalAgainUptoRow.laid) (((Rows.OpenSpec.upto Rows.journalAgainSpec).at F).post enc Try.prog Try.f5 false true false false) := by
  obtain ⟨places, hx⟩ := reads os enc
  refine returnsInHanded_of_row (C := Try.checked) (s := Rows.OpenSpec.upto Rows.journalAgainSpec) own started (by kernel_rfl) Try.func5
    (witness_row_at (enc := enc) (C := Try.checked) false (World.holding Try.prog os ⟨#[], #[], []⟩) #[.slice none 0 0, .slice none 0 0] rfl (by kernel_rfl) (by kernel_rfl) (by kernel_rfl)
      (OpenSpec.preRow_of_cond 8 hx (by kernel_rfl) (fun k hk => by cases hk; kernel_rfl) (by kernel_rfl) (laid_met os))) ?_
  intro W base args ds gs before hval hW _ hcond _ hL _ _
  exact contract H enc W base args ds gs before hval hW hL (hcond _ rfl)
theorem said : Rows.JournalAgainUptoSaid :=
  OpenClaim.holds_of_cond 5 Try.f5 rfl rfl rfl rfl rfl rfl rfl ⟨rfl, rfl, rfl, rfl, rfl⟩ rfl rfl rfl rfl rfl (by kernel_rfl) Try.func5 (by kernel_rfl)
    (of_decide_eq_true (by kernel_rfl)) (by unfold Func.isWrapper; first | (rw [if_pos (by decide +kernel)]; kernel_rfl) | (rw [if_neg (by decide +kernel)]; exact ⟨rfl, rfl⟩))
    (fun os started H enc _ F => by rw [OpenClaim.pre_eq_preRow]; exact lifted os started H enc F)
end Go.Proofs.Ytjjofjnhhajjjaa.Jr.journalAgain
namespace Go.Proofs.Ytjjofjnhhajjjaa
theorem journalAgain_said : Rows.JournalAgainUptoSaid := Jr.journalAgain.said
end Go.Proofs.Ytjjofjnhhajjjaa
