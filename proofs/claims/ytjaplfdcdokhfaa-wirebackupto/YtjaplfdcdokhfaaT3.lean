/-
  The walk of the reference's Lists.
-/
import Derived.Test.YtjaplfdcdokhfaaT2
import Derived.Deep.QuietTactic
namespace Go.Proofs.Ytjaplfdcdokhfaa
open Go.RowKit

set_option maxHeartbeats 1000000 in
set_option maxRecDepth 100000 in
theorem lists_any (ps qs : List Part) (pa qa : Option Addr) (ca cb ab ao bb bo : Nat) (w : World) (hps : Parts w ab ao ps) (hqs : Parts w bb bo qs) (hpa : 0 < ps.length → pa = some ⟨ab, ao, none⟩) (hqa : 0 < qs.length → qa = some ⟨bb, bo, none⟩) (heq : ps.map (·.bs) = qs.map (·.bs)) (hn : ps.length ≤ 9223372036854775807) :
    Calls Try.prog 32 #[.slice pa ps.length ca, .slice qa qs.length cb] w fun e w' => e = .returned (.bool true) ∧ Below w.heap.size w w' := by
  have hlen : qs.length = ps.length := by have := congrArg List.length heq; simpa using this.symm
  rw [hlen] at hqa ⊢
  have HEQ := hid_in heq
  have HPS := hid_in hps
  have HQS := hid_in hqs
  have HPA := hid_in hpa
  have HQA := hid_in hqa
  have HLEN := hid_in hlen
  clear heq hps hqs hpa hqa hlen
  go_enter Try.func32, Try.ntmps32
  go_wp2_with fail
  go_loopw [5] (fun v w' => ∃ k : Nat, k ≤ ps.length ∧ v = .int .i64 (k : Int) ∧ Below w.heap.size w w') (fun v _ => ps.length - (intOf v).toNat)
  case atStart => exact ⟨0, by omega, rfl, Below.refl _ _⟩
  case round =>
    obtain ⟨k, hk, rfl, hbel⟩ := hrel
    by_cases hlt : k < ps.length
    · obtain ⟨x, hx⟩ : ∃ x, ps[k]? = some x := ⟨_, List.getElem?_eq_getElem hlt⟩
      obtain ⟨y, hy⟩ : ∃ y, qs[k]? = some y := ⟨_, List.getElem?_eq_getElem (by have := HLEN.out; omega)⟩
      have hxy : x.bs = y.bs := by
        have h := congrArg (fun l => l[k]?) HEQ.out
        simp only [List.getElem?_map, hx, hy, Option.map_some, Option.some.injEq] at h
        exact h
      have hp1 := HPS.out.below hbel
      have hq1 := HQS.out.below hbel
      have c1 : wr.cell? ⟨ab, ao + k, none⟩ = some (.slice x.p x.bs.length x.cap) := hp1.at_ k x hx
      have c2 : wr.cell? ⟨bb, bo + k, none⟩ = some (.slice y.p y.bs.length y.cap) := hq1.at_ k y hy
      have hxo : Sl wr x.p x.bs x.cap x.b x.off := hp1.ok x (List.mem_of_getElem? hx)
      have hyo : Sl wr y.p y.bs y.cap y.b y.off := hq1.ok y (List.mem_of_getElem? hy)
      obtain ⟨S, HS⟩ : ∃ S : ByteArray, Hid (S = str x.bs) := ⟨_, rfl⟩
      have hv1 : ∀ m, (convert 25 9 (.slice x.p x.bs.length x.cap)).run Try.prog (wr.drewN m) = .ok (.string S) (wr.drewN m) := fun m => by
        rw [HS.out]; exact conv_sl (hxo.below (below_drewN (Below.refl _ _) m))
      have hv2 : ∀ m, (convert 25 9 (.slice y.p y.bs.length y.cap)).run Try.prog (wr.drewN m) = .ok (.string S) (wr.drewN m) := fun m => by
        rw [HS.out, hxy]; exact conv_sl (hyo.below (below_drewN (Below.refl _ _) m))
      obtain rfl := HPA.out (by omega)
      obtain rfl := HQA.out (by omega)
      have hss : (S.toList == S.toList) = true := by simp
      have k1 : (k : Int) < (ps.length : Int) := by omega
      clear hp1 hq1 hxo hyo hx hy hxy
      go_wp2
      go_quiet (fail)
      go_wp2
      go_roundw
      case rel =>
        go_light
        exact ⟨k + 1, by omega, by go_num, below_drewN hbel _⟩
      case measure => simp [intOf]; omega
    · have k1 : (ps.length : Int) ≤ (k : Int) := by omega
      go_wp2
      go_ret
      exact ⟨rfl, hbel⟩
end Go.Proofs.Ytjaplfdcdokhfaa
