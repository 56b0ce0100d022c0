/-
  The walk of the statement OpReturns.
-/
import Derived.Laws.CopyOwn
import Derived.Deep.CutRange
import Derived.Test.YtjlhjpooggkkoaaRows
import Derived.OwnWalk
import Derived.Deep.RegionLaw
import Derived.Deep.DrawnRows
import Derived.Laws.Tables
import Derived.Test.YtjlhjpooggkkoaaR00
import Derived.Test.YtjlhjpooggkkoaaR01
import Derived.Test.YtjlhjpooggkkoaaR02
import Derived.Test.YtjlhjpooggkkoaaR03
import Derived.Test.YtjlhjpooggkkoaaR04
import Derived.Test.YtjlhjpooggkkoaaR05
import Derived.Test.YtjlhjpooggkkoaaR06
import Derived.Test.YtjlhjpooggkkoaaR07
import Derived.Test.YtjlhjpooggkkoaaR08
import Derived.Test.YtjlhjpooggkkoaaR09
import Derived.Test.YtjlhjpooggkkoaaR10
import Derived.Test.YtjlhjpooggkkoaaR11
namespace Go.Proofs.Ytjlhjpooggkkoaa.Nd
open Go.RowKit
theorem unpA_of {bs : List Nat} {q : Res} (h0 : okR bs) (h : rdR bs = (q, ([], 0))) : UnpA bs q 0 true := by
  obtain ⟨q', G, K, hD, ⟨rfl, rfl, _, rfl⟩ | ⟨_, _, h2, _⟩⟩ := unp_both bs
  · rw [h] at hD
    exact hD
  · exact absurd h0 h2
theorem encR_pos (r : Res) : 0 < (encR r).length := by
  unfold encR preR
  simp only [List.length_append]
  have := numF_pos 9 (Wire.zz r.code)
  show 0 < _
  unfold Wire.num
  omega
theorem encR_len (r : Res) (hs : r.short) (hn : r.names.length ≤ 512) : (encR r).length ≤ 1000000 := by
  have h1 := preR_len r hs.1
  have h2 := flat_le r.names hs.2
  unfold encR
  rw [List.length_append]
  omega
set_option maxHeartbeats 4000000 in
set_option maxRecDepth 100000 in
theorem returns_any (r : Res) (vn : Value) (hok : r.ok) (bs : List Nat) (p : Option Addr) (cap b off : Nat) (w : World) (hst : Strs w vn r.names) (hsl : Sl w p bs cap b off) (hno : p = none → bs.length = 0 ∧ cap = 0) (hre : bs.length ≤ 140737488355328) :
    Calls Try.prog 8 #[r.val vn, .slice p bs.length cap] w fun e w' => e = .returned (.bool true) ∧ Below w.heap.size w w' := by
  obtain ⟨X, E, hE, hXE⟩ := pak_both r hok
  obtain ⟨q, G, K, hD, hG⟩ := unp_both bs
  have HA := hid_in (fun W => awakeO_any W)
  have HEP := hid_in (fun W (hb : Below w.heap.size w W) => hE.prog W vn (hst.below hb))
  have HDP := hid_in (fun W (hb : Below w.heap.size w W) => hD.prog W p cap b off (hsl.below hb) hno hre)
  have HG : Hid ((G = 0 ∧ ((∀ W vn, Strs W vn q.names → Calls Try.prog 20 #[q.val vn] W fun e w' => (∃ v, e = .returned (.tuple #[v, .int .i64 0]) ∧ Byt w' v bs) ∧ Below W.heap.size W w') ∧ ∀ W, Below w.heap.size w W → (convert 32 9 (.slice p bs.length cap)).run Try.prog W = .ok (.string (str bs)) W)) ∨ (G = 21 ∧ q.code = 0 ∧ q.dir = false ∧ q.size = 0 ∧ q.data = ⟨#[]⟩ ∧ q.names = [])) := by
    rcases hG with ⟨h1, _, h2, h3⟩ | ⟨h1, _, h2, h3⟩
    · obtain ⟨e1, e2, e3, e4⟩ := enc_rdR hsl.lt h2
      rw [← h3] at e1 e2 e3 e4
      refine .inl ⟨h1, fun W vn hv => ?_, fun W hb => conv_sl (hsl.below hb)⟩
      have h5 := (pak_ok q e2 e3 e4).prog W vn hv
      rw [e1] at h5
      exact h5
    · subst h3
      exact .inr ⟨h1, rfl, rfl, rfl, rfl, rfl⟩
  have HX : Hid ((E = 0 ∧ 0 < X.length ∧ X.length ≤ 1000000 ∧ (∀ x ∈ X, x < 256) ∧ UnpA X r 0 true) ∨ E ≠ 0) := by
    rcases hXE with ⟨h1, h2, rfl, h3⟩ | h3
    · have h4 := rdR_enc hok h1 h2
      exact .inl ⟨h3, encR_pos r, encR_len r h1 h2, encR_lt hok h1 h2, unpA_of h4.1 h4.2⟩
    · exact .inr h3
  have HSM := hid_in (fun W va vb (h1 : Strs W va r.names) (h2 : Strs W vb r.names) => same_yesR r va vb W h1 h2)
  have HST := hid_in hst
  obtain ⟨k, f, z, d, ns⟩ := r
  obtain ⟨qk, qf, qz, qd, qn⟩ := q
  obtain ⟨pn, cn, bn, on_, rfl, _⟩ := hst
  simp only [Res.val] at HEP HDP HG HSM HST ⊢
  obtain ⟨W0, H0, HR0, HB0, HZ0⟩ := res_row w k z f d (.slice pn ns.length cn)
  clear hE hD hsl hno hre hXE hG hok
  generalize bs.length = n at *
  go_enter Try.func8, Try.ntmps8
  go_upto_region 1 with fail
  refine wp_world H0.out ?_
  clear H0
  go_upto_region 3 with (first | (go_at_call 9; refine (HA.out _).mono ?_; rintro e w1 ⟨rfl, hb1⟩; have HB1 := hid_in (HB0.out.trans (hb1.mono HB0.out.size)); have HR1 := hid_in (HR0.out.below hb1 HR0.out.lt); clear hb1))
  have hr1 := HR1.out
  have c0 : w1.cell? ⟨w.heap.size, 0, none⟩ = some (.int .i64 k) := hr1.cell 0
  have c1 : w1.cell? ⟨w.heap.size, 1, none⟩ = some (.bool f) := hr1.cell 1
  have c2 : w1.cell? ⟨w.heap.size, 2, none⟩ = some (.int .i64 z) := hr1.cell 2
  have c3 : w1.cell? ⟨w.heap.size, 3, none⟩ = some (.string d) := hr1.cell 3
  have c4 : w1.cell? ⟨w.heap.size, 4, none⟩ = some (.slice pn ns.length cn) := hr1.cell 4
  clear hr1
  go_upto_region 4 with (first | (go_at_call 20; refine (HEP.out _ HB1.out).mono ?_; rintro e w2 ⟨⟨x2, rfl, hx2⟩, hb2⟩; have HX2 := hid_in hx2; have HB2 := hid_in (HB1.out.trans (hb2.mono HB1.out.size)); have HR2 := hid_in (HR1.out.below hb2 HR1.out.lt); clear hb2 hx2))
  clear c0 c1 c2 c3 c4
  rcases HX.out with ⟨hE0, hp1, hl1, hlt1, hd1⟩ | hE2
  · obtain rfl := hE0
    obtain ⟨p2, c2, b2, rfl, hs2, hn2⟩ := HX2.out
    have HD1 := hid_in (hd1.prog w2 p2 c2 b2 0 hs2 hn2 (by omega))
    simp only [Res.val] at HD1
    clear hp1 hd1 hs2 hn2 hlt1 HX2
    go_upto_region 5 with fail
    go_upto_region 6 with (first | (go_at_call 22; refine HD1.out.mono ?_; rintro e w3 ⟨⟨v3, rfl, hv3⟩, hb3⟩; obtain ⟨p3, c3, hf3⟩ := hv3.form; subst hf3; have HV3 := hid_in hv3; have HB3 := hid_in hb3; clear hb3 hv3))
    obtain ⟨W4, H4, HR4, HB4, HZ4⟩ := res_row w3 k z f d (.slice p3 ns.length c3)
    have HB4' := hid_in (HB3.out.trans (HB4.out.mono HB3.out.size))
    have HB4w := hid_in (HB2.out.trans (HB4'.out.mono HB2.out.size))
    have HSM4 := hid_in (HSM.out W4 _ _ (HV3.out.below HB4.out) (HST.out.below HB4w.out))
    have hr4 := HR4.out
    have hr4w := HR2.out.below HB4'.out HR2.out.lt
    obtain ⟨g3, Hg3⟩ : ∃ g, w3.heap.size = g := ⟨_, rfl⟩
    rw [Hg3] at hr4 ⊢
    refine wp_world H4.out ?_
    have d0 : W4.cell? ⟨g3, 0, none⟩ = some (.int .i64 k) := hr4.cell 0
    have d1 : W4.cell? ⟨g3, 1, none⟩ = some (.bool f) := hr4.cell 1
    have d2 : W4.cell? ⟨g3, 2, none⟩ = some (.int .i64 z) := hr4.cell 2
    have d3 : W4.cell? ⟨g3, 3, none⟩ = some (.string d) := hr4.cell 3
    have d4 : W4.cell? ⟨g3, 4, none⟩ = some (.slice p3 ns.length c3) := hr4.cell 4
    have e0 : W4.cell? ⟨w.heap.size, 0, none⟩ = some (.int .i64 k) := hr4w.cell 0
    have e1 : W4.cell? ⟨w.heap.size, 1, none⟩ = some (.bool f) := hr4w.cell 1
    have e2 : W4.cell? ⟨w.heap.size, 2, none⟩ = some (.int .i64 z) := hr4w.cell 2
    have e3 : W4.cell? ⟨w.heap.size, 3, none⟩ = some (.string d) := hr4w.cell 3
    have e4 : W4.cell? ⟨w.heap.size, 4, none⟩ = some (.slice pn ns.length cn) := hr4w.cell 4
    clear H4 HB4 HZ4 Hg3 hr4 hr4w HR4 HB3 HV3
    go_upto_region 8 with (first | (go_at_call 24; refine HSM4.out.mono ?_; rintro e w8 ⟨rfl, hb8⟩; have HB8 := hid_in (HB4w.out.trans (hb8.mono HB4w.out.size)); clear hb8))
    clear d0 d1 d2 d3 d4 e0 e1 e2 e3 e4
    go_upto_region 9 with (first | (go_at_call 22; refine (HDP.out _ HB8.out).mono ?_; rintro e v4 ⟨⟨y4, rfl, hv4⟩, hb4⟩; obtain ⟨p4, c4, hf4⟩ := hv4.form; subst hf4; have HN4 := hid_in hv4; have HV4 := hid_in (HB8.out.trans (hb4.mono HB8.out.size)); clear hb4 hv4))
    obtain ⟨W5, H5, HR5, HB5, HZ5⟩ := res_row v4 qk qz qf qd (.slice p4 qn.length c4)
    have HB5' := hid_in (HV4.out.trans (HB5.out.mono HV4.out.size))
    have HN5 := hid_in (HN4.out.below HB5.out)
    obtain ⟨g4, Hg4⟩ : ∃ g, v4.heap.size = g := ⟨_, rfl⟩
    have hr5 := HR5.out
    rw [Hg4] at hr5 ⊢
    refine wp_world H5.out ?_
    have x0 : W5.cell? ⟨g4, 0, none⟩ = some (.int .i64 qk) := hr5.cell 0
    have x1 : W5.cell? ⟨g4, 1, none⟩ = some (.bool qf) := hr5.cell 1
    have x2 : W5.cell? ⟨g4, 2, none⟩ = some (.int .i64 qz) := hr5.cell 2
    have x3 : W5.cell? ⟨g4, 3, none⟩ = some (.string qd) := hr5.cell 3
    have x4 : W5.cell? ⟨g4, 4, none⟩ = some (.slice p4 qn.length c4) := hr5.cell 4
    clear H5 HB5 HZ5 HR5 hr5 Hg4 HN4
    rcases HG.out with ⟨hG, hY⟩ | ⟨hG, hz⟩
    · obtain rfl := hG
      have HQ := hid_in hY
      have HPQ := hid_in (HQ.out.1 W5 _ HN5.out)
      clear hY
      go_wp2_with (first | (go_at_call 20; refine HPQ.out.mono ?_; rintro e v6 ⟨⟨y6, rfl, hy6⟩, hb6⟩; have hcv1 := hy6.conv; have HB6 := hid_in (HB5'.out.trans (hb6.mono HB5'.out.size)); have hcv2 := HQ.out.2 _ HB6.out; clear hb6 hy6))
      go_ret
      exact ⟨rfl, HB6.out⟩
    · obtain rfl := hG
      obtain ⟨rfl, rfl, rfl, rfl, rfl⟩ := hz
      have HSZ := hid_in (same_yesR ⟨0, false, 0, ⟨#[]⟩, []⟩ _ _ W5 HN5.out (strs_nil W5))
      simp only [Res.val] at HSZ
      go_wp2_with (first | (go_at_call 24; refine HSZ.out.mono ?_; rintro e v6 ⟨rfl, hb6⟩; have HB6 := hid_in (HB5'.out.trans (hb6.mono HB5'.out.size)); clear hb6))
      go_ret
      exact ⟨rfl, HB6.out⟩
  · have k9 : (E == 0) = false := beq_eq_false_iff_ne.2 hE2
    clear hE2
    go_upto_region 8 with fail
    go_upto_region 9 with (first | (go_at_call 22; refine (HDP.out _ HB2.out).mono ?_; rintro e v4 ⟨⟨y4, rfl, hv4⟩, hb4⟩; obtain ⟨p4, c4, hf4⟩ := hv4.form; subst hf4; have HN4 := hid_in hv4; have HV4 := hid_in (HB2.out.trans (hb4.mono HB2.out.size)); clear hb4 hv4))
    obtain ⟨W5, H5, HR5, HB5, HZ5⟩ := res_row v4 qk qz qf qd (.slice p4 qn.length c4)
    have HB5' := hid_in (HV4.out.trans (HB5.out.mono HV4.out.size))
    have HN5 := hid_in (HN4.out.below HB5.out)
    obtain ⟨g4, Hg4⟩ : ∃ g, v4.heap.size = g := ⟨_, rfl⟩
    have hr5 := HR5.out
    rw [Hg4] at hr5 ⊢
    refine wp_world H5.out ?_
    have x0 : W5.cell? ⟨g4, 0, none⟩ = some (.int .i64 qk) := hr5.cell 0
    have x1 : W5.cell? ⟨g4, 1, none⟩ = some (.bool qf) := hr5.cell 1
    have x2 : W5.cell? ⟨g4, 2, none⟩ = some (.int .i64 qz) := hr5.cell 2
    have x3 : W5.cell? ⟨g4, 3, none⟩ = some (.string qd) := hr5.cell 3
    have x4 : W5.cell? ⟨g4, 4, none⟩ = some (.slice p4 qn.length c4) := hr5.cell 4
    clear H5 HB5 HZ5 HR5 hr5 Hg4 HN4
    rcases HG.out with ⟨hG, hY⟩ | ⟨hG, hz⟩
    · obtain rfl := hG
      have HQ := hid_in hY
      have HPQ := hid_in (HQ.out.1 W5 _ HN5.out)
      clear hY
      go_wp2_with (first | (go_at_call 20; refine HPQ.out.mono ?_; rintro e v6 ⟨⟨y6, rfl, hy6⟩, hb6⟩; have hcv1 := hy6.conv; have HB6 := hid_in (HB5'.out.trans (hb6.mono HB5'.out.size)); have hcv2 := HQ.out.2 _ HB6.out; clear hb6 hy6))
      go_ret
      exact ⟨rfl, HB6.out⟩
    · obtain rfl := hG
      obtain ⟨rfl, rfl, rfl, rfl, rfl⟩ := hz
      have HSZ := hid_in (same_yesR ⟨0, false, 0, ⟨#[]⟩, []⟩ _ _ W5 HN5.out (strs_nil W5))
      simp only [Res.val] at HSZ
      go_wp2_with (first | (go_at_call 24; refine HSZ.out.mono ?_; rintro e v6 ⟨rfl, hb6⟩; have HB6 := hid_in (HB5'.out.trans (hb6.mono HB5'.out.size)); clear hb6))
      go_ret
      exact ⟨rfl, HB6.out⟩
end Go.Proofs.Ytjlhjpooggkkoaa.Nd
