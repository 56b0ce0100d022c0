/-
  The walk of slices.Concat.
-/
import Derived.Test.YtjaplfdcdokhfaaS3
namespace Go.Proofs.Ytjaplfdcdokhfaa
open Go.RowKit

set_option maxHeartbeats 1000000 in
theorem concat_any (ps : List Part) (pb po cap : Nat) (w : World) (hps : Parts w pb po ps) (hn : ps.length ≤ 9223372036854775807) (h0 : 0 < (bytesOf ps).length) (hre : (bytesOf ps).length ≤ 140737488355328) :
    Calls Try.prog 52 #[.slice (some ⟨pb, po, none⟩) ps.length cap] w fun e w' => ∃ v, e = .returned v ∧ w'.ownsRow w.heap.size 5 1 v (bytesOf ps).length ((bytesOf ps).map u8v) ∧ Below w.heap.size w w' := by
  obtain ⟨i5i, HI5, HE1, HE2, HE3⟩ := i5h
  have HPS : Hid (Parts w pb po ps) := hps
  clear hps
  go_enter Try.func52, Try.ntmps52
  go_wp2_with fail
  go_loopw [3, 11] (fun v i w' => ∃ k : Nat, k ≤ ps.length ∧ i = .int .i64 (k : Int) ∧ v = .int .i64 (((bytesOf (ps.take k)).length : Nat) : Int) ∧ w' = w) (fun _ i _ => ps.length - (intOf i).toNat)
  case atStart => exact ⟨0, by omega, rfl, rfl, rfl⟩
  case round =>
    obtain ⟨k, hk, rfl, rfl, hwr⟩ := hrel
    have hwr' := hwr.symm
    subst hwr'
    by_cases hlt : k < ps.length
    · obtain ⟨x, hx⟩ : ∃ x, ps[k]? = some x := ⟨_, List.getElem?_eq_getElem hlt⟩
      have c0 : w.cell? ⟨pb, po + k, none⟩ = some (.slice x.p x.bs.length x.cap) := HPS.out.at_ k x hx
      have HB : Hid (bytesOf (ps.take (k + 1)) = bytesOf (ps.take k) ++ x.bs) := bytesOf_succ hx
      have hle := bytesOf_le ps (k + 1)
      rw [HB.out, List.length_append] at hle
      have k1 : (k : Int) < (ps.length : Int) := by omega
      have k2 : ((bytesOf (ps.take k)).length : Int) + (x.bs.length : Int) ≤ 140737488355328 := by omega
      generalize hm : (bytesOf (ps.take k)).length = m at k2 hle
      clear hx
      go_wp2
      go_roundw
      case rel =>
        go_light
        refine ⟨k + 1, by omega, by go_num, ?_, by trivial⟩
        rw [HB.out, List.length_append, hm]
        go_num
      case measure => simp [intOf]; omega
    · have HK : Hid (k = ps.length) := by show k = _; omega
      have k1 : (ps.length : Int) ≤ (k : Int) := by omega
      have HA : Hid ((bytesOf (ps.take k)).length = (bytesOf ps).length) := by show _ = _; rw [HK.out, List.take_of_length_le (Nat.le_refl _)]
      rw [HA.out]
      obtain ⟨T, hT⟩ : ∃ T, T = (bytesOf ps).length := ⟨_, rfl⟩
      rw [← hT] at h0 hre ⊢
      have HT : Hid (T = (bytesOf ps).length) := hT
      clear hT HK hk hlt
      go_wp2_with fail
      refine (grow_any T h0 hre w).mono ?_
      rintro e w1 ⟨v1, rfl, hown1, hb1⟩
      go_wp2_with fail
      go_loopw [6, 27] (fun v i w' => ∃ k : Nat, k ≤ ps.length ∧ i = .int .i64 (k : Int) ∧ w'.ownsRow w.heap.size 5 1 v (bytesOf (ps.take k)).length ((bytesOf (ps.take k)).map u8v) ∧ Below w.heap.size w w') (fun _ i _ => ps.length - (intOf i).toNat)
      case atStart => exact ⟨0, by omega, rfl, hown1, hb1⟩
      case round =>
        clear hown1 hb1
        obtain ⟨k2, hk2, rfl, hown, hbel⟩ := hrel
        have HBEL : Hid (Below w.heap.size w wr) := hbel
        by_cases hlt2 : k2 < ps.length
        · obtain ⟨x, hx⟩ : ∃ x, ps[k2]? = some x := ⟨_, List.getElem?_eq_getElem hlt2⟩
          have hpr := HPS.out.below hbel
          have hxm := List.mem_of_getElem? hx
          have c0 : wr.cell? ⟨pb, po + k2, none⟩ = some (.slice x.p x.bs.length x.cap) := hpr.at_ k2 x hx
          have hnews := Sl.news (hpr.ok x hxm)
          have hno := hpr.no x hxm
          have HB : Hid (bytesOf (ps.take (k2 + 1)) = bytesOf (ps.take k2) ++ x.bs) := bytesOf_succ hx
          have hle := bytesOf_le ps (k2 + 1)
          rw [HB.out, List.length_append] at hle
          have k3 : (k2 : Int) < (ps.length : Int) := by omega
          have hfit : (bytesOf (ps.take k2)).length + x.bs.length ≤ 140737488355328 := by have := HT.out; omega
          have hl : (x.bs.map u8v).length = x.bs.length := by simp
          have hsz : w.heap.size ≤ wr.heap.size := hbel.size
          clear hx hxm hpr hbel hle
          go_wp2_with (at_builtin; refine wpList_append_any rfl _ _ 25 rfl w.heap.size 5 i5i (.int .u8 0) Try.underlying25 HI5.out HE3.out HE1.out HE2.out rfl _ _ _ rfl hown x.p x.bs.length x.cap (x.bs.map u8v) rfl hl hno hnews (one_u8 x.bs) hfit hsz ?_; intro v6 w6 hown6 hg6)
          have hb6 := own_step HBEL.out hg6 hsz rfl hown
          go_roundw
          case rel =>
            go_light
            refine ⟨k2 + 1, by omega, by go_num, ?_, hb6⟩
            rw [HB.out, List.length_append, List.map_append]
            exact hown6
          case measure => simp [intOf]; omega
        · have HK2 : Hid (k2 = ps.length) := by show k2 = _; omega
          have k3 : (ps.length : Int) ≤ (k2 : Int) := by omega
          have HOWN : Hid (wr.ownsRow w.heap.size 5 1 u6 (bytesOf (ps.take k2)).length ((bytesOf (ps.take k2)).map u8v)) := hown
          clear hown
          go_wp2
          go_ret
          have h := HOWN.out
          rw [HK2.out, List.take_of_length_le (Nat.le_refl _)] at h
          rw [HT.out]
          exact ⟨_, rfl, h, HBEL.out⟩
end Go.Proofs.Ytjaplfdcdokhfaa
