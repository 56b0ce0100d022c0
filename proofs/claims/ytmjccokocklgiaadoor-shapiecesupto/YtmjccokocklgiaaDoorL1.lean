/-
  The walk of the statement ShaSums.
-/
import Derived.Test.YtmjccokocklgiaaDoorW18
import Derived.Test.YtmjccokocklgiaaDoorW10
import Derived.Test.YtmjccokocklgiaaDoorEq25
namespace Go.Proofs.YtmjccokocklgiaaDoor
open Go.RowKit

theorem sum_length (bs : List Nat) : (Sha.sum bs).length = 32 := digestOf_length _
theorem sum_eq (V : List Value) (bs : List Nat) (h : Hid (V = (Sha.sum bs).map u8v)) (w : World) : (Op.equalIn 10000 25 (.agg V.toArray) (.agg V.toArray)).run Tryd.prog w = .ok true w := by
  have := eq25 (Sha.sum bs) (Sha.sum bs) (sum_length bs) (sum_length bs) w
  rw [decide_eq_true rfl, ← h.out] at this
  exact this
theorem sum_V (bs : List Nat) (V : List Value) (h : Hid (V = (Sha.sum bs).map u8v)) (hbs : ∀ x ∈ bs, x < 256) (p : Option Addr) (b off cap : Nat) (w : World) (htab : Tab w) (hcap : bs.length ≤ cap) (hcap2 : cap ≤ 9223372036854775807)
    (hsz : bs.length < 1152921504606846000) (hp : 0 < bs.length → p = some ⟨b, off, none⟩) (hsrc : ∀ j, j < bs.length → w.cell? ⟨b, off + j, none⟩ = some (u8v (bs.getD j 0))) :
    Calls Tryd.prog 10 #[.slice p bs.length cap] w fun e w' => e = .returned (.agg V.toArray) ∧ Below w.heap.size w w' := by
  rw [h.out]; exact sum_any bs hbs p b off cap w htab hcap hcap2 hsz hp hsrc
theorem rsum_V (bs : List Nat) (V : List Value) (h : Hid (V = (Sha.sum bs).map u8v)) (hbs : ∀ x ∈ bs, x < 256) (p : Option Addr) (b off cap : Nat) (w : World) (hcap2 : bs.length ≤ 140737488351232)
    (hpn : p = none → bs.length = 0 ∧ cap = 0) (hp : 0 < bs.length → p = some ⟨b, off, none⟩) (hsrc : ∀ j, j < bs.length → w.cell? ⟨b, off + j, none⟩ = some (u8v (bs.getD j 0))) :
    Calls Tryd.prog 11 #[.slice p bs.length cap] w fun e w' => e = .returned (.agg V.toArray) ∧ Below w.heap.size w w' := by
  rw [h.out]; exact rsum_any bs hbs p b off cap w hcap2 hpn hp hsrc

set_option maxHeartbeats 400000 in
set_option maxRecDepth 100000 in
theorem sums_any (bs : List Nat) (p : Option Addr) (cap b off : Nat) (w : World) (htab : Tab w) (hsl : Sl w p bs cap b off) (hpn : p = none → bs.length = 0 ∧ cap = 0) (hre : bs.length ≤ 140737488351232) :
    Calls Tryd.prog 3 #[.slice p bs.length cap] w fun e w' => e = .returned (.bool true) ∧ Below w.heap.size w w' := by
  obtain ⟨V, HV⟩ : ∃ V, Hid (V = (Sha.sum bs).map u8v) := ⟨_, rfl⟩
  have heq := sum_eq V bs HV
  have hpos := htab.pos
  go_enter Tryd.func3, Tryd.ntmps3
  go_wp2_with fail
  refine (awake_any w htab).mono ?_
  rintro e w1 ⟨rfl, hb1⟩
  have h1 := hsl.below hb1
  have htab1 := htab.below hb1 hpos
  go_wp2_with fail
  refine (sum_V bs V HV h1.lt p b off cap w1 htab1 h1.cap1 h1.cap2 (by omega) h1.at_ h1.src).mono ?_
  rintro e w2 ⟨rfl, hb2⟩
  have h2 := h1.below hb2
  have hbw2 : Below w.heap.size w w2 := hb1.trans (hb2.mono hb1.size)
  go_wp2_with fail
  refine (rsum_V bs V HV h2.lt p b off cap w2 hre hpn h2.at_ h2.src).mono ?_
  rintro e w3 ⟨rfl, hb3⟩
  clear h1 h2 hsl htab htab1
  go_wp2
  go_ret
  exact ⟨rfl, hbw2.trans (hb3.mono hbw2.size)⟩
end Go.Proofs.YtmjccokocklgiaaDoor
