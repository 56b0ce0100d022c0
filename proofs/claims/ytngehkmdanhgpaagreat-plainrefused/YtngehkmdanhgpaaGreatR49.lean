/-
  Proved: for every list of files and every list of operations the statement PlainRefused answers true: what only reads, and what is refused, changes nothing; a clone goes on apart. No condition.
-/
import Derived.ProofKit
import Derived.OpenShut
import Derived.ShutString
import Derived.ChangeOld
import Derived.Deep.DeepHandedRow
import Derived.Deep.Slices
import Derived.SizedLaws
import Derived.Lib.LaidTab
import Derived.Deep.CutRange
import Derived.Laws.CopyOwn
import Derived.Deep.RegionLaw
import Derived.Deep.DrawnRows
import Derived.Lib.SlBytesConst
import Derived.Lib.AppendZeros
import Derived.Laws.Tables
import Derived.Test.YtngehkmdanhgpaaGreatR00
import Derived.Test.YtngehkmdanhgpaaGreatR01
import Derived.Test.YtngehkmdanhgpaaGreatR02
import Derived.Test.YtngehkmdanhgpaaGreatR03
import Derived.Test.YtngehkmdanhgpaaGreatR04
import Derived.Test.YtngehkmdanhgpaaGreatR05
import Derived.Test.YtngehkmdanhgpaaGreatR06
import Derived.Test.YtngehkmdanhgpaaGreatR07
import Derived.Test.YtngehkmdanhgpaaGreatR08
import Derived.Test.YtngehkmdanhgpaaGreatR09
import Derived.Test.YtngehkmdanhgpaaGreatR10
import Derived.Test.YtngehkmdanhgpaaGreatR11
import Derived.Test.YtngehkmdanhgpaaGreatR12
import Derived.Test.YtngehkmdanhgpaaGreatR13
import Derived.Test.YtngehkmdanhgpaaGreatR14
import Derived.Test.YtngehkmdanhgpaaGreatR15
import Derived.Test.YtngehkmdanhgpaaGreatR16
import Derived.Test.YtngehkmdanhgpaaGreatR17
import Derived.Test.YtngehkmdanhgpaaGreatR18
import Derived.Test.YtngehkmdanhgpaaGreatR19
import Derived.Test.YtngehkmdanhgpaaGreatR20
import Derived.Test.YtngehkmdanhgpaaGreatR21
import Derived.Test.YtngehkmdanhgpaaGreatR22
import Derived.Test.YtngehkmdanhgpaaGreatR23
import Derived.Test.YtngehkmdanhgpaaGreatR24
import Derived.Test.YtngehkmdanhgpaaGreatR25
import Derived.Test.YtngehkmdanhgpaaGreatR26
import Derived.Test.YtngehkmdanhgpaaGreatR27
import Derived.Test.YtngehkmdanhgpaaGreatR28
import Derived.Test.YtngehkmdanhgpaaGreatR29
import Derived.Test.YtngehkmdanhgpaaGreatR30
import Derived.Test.YtngehkmdanhgpaaGreatR31
import Derived.Test.YtngehkmdanhgpaaGreatR32
import Derived.Test.YtngehkmdanhgpaaGreatR33
import Derived.Test.YtngehkmdanhgpaaGreatR34
import Derived.Test.YtngehkmdanhgpaaGreatR35
import Derived.Test.YtngehkmdanhgpaaGreatR36
import Derived.Test.YtngehkmdanhgpaaGreatR37
import Derived.Test.YtngehkmdanhgpaaGreatR38
import Derived.Test.YtngehkmdanhgpaaGreatR39
import Derived.Test.YtngehkmdanhgpaaGreatR40
import Derived.Test.YtngehkmdanhgpaaGreatR41
import Derived.Test.YtngehkmdanhgpaaGreatR42
import Derived.Test.YtngehkmdanhgpaaGreatR43
import Derived.Test.YtngehkmdanhgpaaGreatR44
import Derived.Test.YtngehkmdanhgpaaGreatR45
import Derived.Test.YtngehkmdanhgpaaGreatR46
import Derived.Test.YtngehkmdanhgpaaGreatR47
import Derived.Test.YtngehkmdanhgpaaGreatR48
namespace Go.Proofs.YtngehkmdanhgpaaGreat.Pl.plainRefused
open Go.ChangeShapes Go.WideShapes Go.ChangeAt Go.RowKit
open Go.ChangeMaps (open_string shut_string)
theorem laidOut : laidOutB Tryz.prog = true := by kernel_rfl
theorem own : ownKnob Tryz.prog.godebug = none := by kernel_rfl
set_option maxRecDepth 100000 in
theorem contract (H : Type) (enc : TypeId × Value → H) (W : World) (base : Nat) (args : Array Value) (ds gs : List (DataW H)) (before : List MemPlace)
    (hval : ∀ (j : Nat) t v, Tryz.f4.params[j]? = some t → args[j]? = some v → Value.okWide Tryz.prog W .any base t v)
    (hW : DataW.Whole enc Tryz.prog Tryz.f4.params.toList Rows.plainRefusedSpec.vars false W args.toList ds gs before) (_hL : laidMetH Tryz.prog Rows.plainRefusedRow.laid W)
    (_hsz : (DataW.weightsEach Tryz.prog (Tryz.f4.params.toList ++ (OpenSpec.ofChange Rows.plainRefusedSpec).bare.plain.varTypes Tryz.prog) (ds ++ gs)).all (· ≤ reachBytes) = true) :
    Calls Tryz.prog 4 args W fun e W' => ∃ v, e = .returned v ∧ Rows.plainRefusedSpec.post enc Tryz.prog Tryz.f4 false true false false W args v W' := by
  have hW' := hW
  obtain ⟨p, q, hA0, hV, rfl, hfz, hnd⟩ := hW
  have hA : DataW.TrodAll enc Tryz.prog W 0 (fun _ => true) true Tryz.f4.params.toList args.toList ds p := hA0
  rw [Tryz.params4] at hA hval
  obtain ⟨v0, vs0, d0, ds0, p0, q0, hargs, rfl, rfl, h0, r0⟩ := trodAll_cons hA
  obtain ⟨v1, vs1, d1, ds1, p1, q1, rfl, rfl, rfl, h1, r1⟩ := trodAll_cons r0
  obtain ⟨rfl, rfl, rfl⟩ := trodAll_nil r1
  obtain rfl : args = #[v0, v1] := by cases args; exact congrArg List.toArray hargs
  obtain ⟨rfl, rfl⟩ := trodVars_none hV
  obtain ⟨a0, len0, cap0, rfl⟩ := okWide_slice Tryz.underlying22 (hval 0 22 v0 rfl rfl)
  obtain ⟨a1, len1, cap1, rfl⟩ := okWide_slice Tryz.underlying23 (hval 1 23 v1 rfl rfl)
  have k0 := h0
  have lt0 : ∀ x ∈ p0, x.block < W.heap.size := by obtain ⟨m, hm⟩ := k0; exact DataW.trod_lt m _ _ _ hm
  have k1 := h1
  have lt1 : ∀ x ∈ p1, x.block < W.heap.size := by obtain ⟨m, hm⟩ := k1; exact DataW.trod_lt m _ _ _ hm
  obtain ⟨fs, hfs, hps⟩ := files_in h0
  obtain ⟨os, hos, hoo⟩ := ops_in h1
  clear hA0
  refine (refused_any fs os _ _ W hfs hos hps hoo).mono fun e W' ⟨he, bel⟩ => ?_
  subst he
  exact ⟨_, rfl, _, _, _, [], _, [], hW', trodAll_mk1 (shut_bool Tryz.underlying4 _), (trodAll_cons_mk (Below.trod laidOut (by kernel_rfl) (of_decide_eq_true (by kernel_rfl)) k0 bel lt0) (trodAll_cons_mk (Below.trod laidOut (by kernel_rfl) (of_decide_eq_true (by kernel_rfl)) k1 bel lt1) trodAll_mk0)), rfl, bel.frame _, fun h => by cases h⟩
theorem laid_met (os : Os) : laidMet Tryz.prog Rows.plainRefusedRow.laid ((World.holding Tryz.prog os ⟨#[], #[], []⟩).forCall (fun _ _ => 0) ⟨#[], #[.slice none 0 0, .slice none 0 0], []⟩).memory :=
  laidMet_of_run' 8 (by kernel_rfl) (by kernel_rfl)
theorem reads (os : Os) {H : Type} (enc : TypeId × Value → H) : ∃ places, DataW.whole enc Tryz.prog ((World.holding Tryz.prog os ⟨#[], #[], []⟩).forCall (fun _ _ => 0) ⟨#[], #[.slice none 0 0, .slice none 0 0], []⟩).memory Tryz.f4.params.toList Rows.plainRefusedSpec.vars false (#[Value.slice none 0 0, .slice none 0 0]).toList 8 = some ([.nil, .nil], [], places) :=
  ⟨[], by kernel_rfl⟩
set_option maxRecDepth 100000 in
theorem lifted (os : Os) (started : os.Started) (H : Type) (enc : TypeId × Value → H) (F : Stop.Interp) :
    ReturnsInHanded {} Tryz.checked os 4 .any ((OpenSpec.ofChange Rows.plainRefusedSpec).preRow enc Tryz.prog Tryz.f4 Rows.plainRefusedRow.domain false Rows.plainRefusedRow.laid) (((OpenSpec.ofChange Rows.plainRefusedSpec).at F).post enc Tryz.prog Tryz.f4 false true false false) := by
  obtain ⟨places, hx⟩ := reads os enc
  refine returnsInHanded_of_row (C := Tryz.checked) (s := OpenSpec.ofChange Rows.plainRefusedSpec) own started (by kernel_rfl) Tryz.func4
    (witness_row_at (enc := enc) (C := Tryz.checked) false (World.holding Tryz.prog os ⟨#[], #[], []⟩) #[.slice none 0 0, .slice none 0 0] rfl (by kernel_rfl) (by kernel_rfl) (by kernel_rfl)
      (OpenSpec.preRow_of_cond 8 hx (by kernel_rfl) (fun k hk => by cases hk) (by kernel_rfl) (laid_met os))) ?_
  intro W base args ds gs before hval hW _ _ hsz hL _ _
  exact contract H enc W base args ds gs before hval hW hL hsz
theorem said : Rows.PlainRefusedSaid :=
  OpenClaim.holds_of_cond 4 Tryz.f4 rfl rfl rfl rfl rfl rfl rfl ⟨rfl, rfl, rfl, rfl, rfl⟩ rfl rfl rfl rfl rfl (by kernel_rfl) Tryz.func4 (by kernel_rfl)
    (of_decide_eq_true (by kernel_rfl)) (by unfold Func.isWrapper; first | (rw [if_pos (by decide +kernel)]; kernel_rfl) | (rw [if_neg (by decide +kernel)]; exact ⟨rfl, rfl⟩))
    (fun os started H enc _ F => by rw [OpenClaim.pre_eq_preRow]; exact lifted os started H enc F)
end Go.Proofs.YtngehkmdanhgpaaGreat.Pl.plainRefused
namespace Go.Proofs.YtngehkmdanhgpaaGreat
theorem plainRefused_said : Rows.PlainRefusedSaid := Pl.plainRefused.said
end Go.Proofs.YtngehkmdanhgpaaGreat
