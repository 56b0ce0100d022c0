/-
  The walk of long.
-/
import Derived.Test.YtaaojfgakgjlkaaDoorD3
namespace Go.Proofs.YtaaojfgakgjlkaaDoor
open Go.RowKit

set_option maxHeartbeats 2000000 in
set_option maxRecDepth 100000 in
theorem long_any (p : Option Addr) (cap b o : Nat) (ss : List St) (w : World) (hp : ss ≠ [] → p = some ⟨b, o, none⟩ ∧ b < w.heap.size) (hs : Steps w b o ss) (hcap : ss.length ≤ cap) (hbig : cap ≤ 9223372036854775807) :
    Calls Tryd.prog 6 #[.slice p ss.length cap] w fun e w' => (∃ x, e = .returned (.bool x)) ∧ Below w.heap.size w w' := by
  have HP := hid_in (fun h => (hp h).1)
  have HPB := hid_in (fun h => (hp h).2)
  have HS := hid_in hs
  generalize hn : ss.length = n at *
  have Hn := hid_in hn
  clear hn hp hs
  go_enter Tryd.func6, Tryd.ntmps6
  go_wp2_with fail
  go_loopw [3, 4] (fun vn vi W => Hid (Below w.heap.size w W) ∧ (∃ m, vn = .int .i64 m) ∧ ∃ i : Nat, i ≤ n ∧ vi = .int .i64 (i : Int)) (fun _ vi _ => n - (intOf vi).toNat)
  case atStart => exact ⟨Below.refl _ _, ⟨_, rfl⟩, 0, by omega, rfl⟩
  case round =>
    obtain ⟨hbw, ⟨m, rfl⟩, i, hi, rfl⟩ := hrel
    by_cases hlt : i < n
    · obtain ⟨s, hsi⟩ : ∃ s, ss[i]? = some s := ⟨_, List.getElem?_eq_getElem (by rw [Hn.out]; exact hlt)⟩
      have hne : ss ≠ [] := by rintro rfl; simp at hsi
      obtain rfl := HP.out hne
      obtain ⟨s0, s1, s2, s3, s4⟩ := HS.out i s hsi
      have hbl := HPB.out hne
      have c1 : wr.cell? ⟨b, o + i * 5 + 1, none⟩ = some (.string (B s.op)) := (hbw.out.cell (p := ⟨b, o + i * 5 + 1, none⟩) hbl).trans s1
      have c2 : wr.cell? ⟨b, o + i * 5 + 2, none⟩ = some (.string (B s.path)) := (hbw.out.cell (p := ⟨b, o + i * 5 + 2, none⟩) hbl).trans s2
      clear hne hsi s0 s1 s2 s3 s4
      go_wp2_with fail
      go_region
      all_goals
        go_wp2_with fail
        exact ⟨⟨hbw.out.drew, ⟨_, rfl⟩, i + 1, by omega, by go_num⟩, by simp [intOf]; omega⟩
    · go_wp2_with fail
      go_ret
      exact ⟨⟨_, rfl⟩, hbw.out⟩
end Go.Proofs.YtaaojfgakgjlkaaDoor
