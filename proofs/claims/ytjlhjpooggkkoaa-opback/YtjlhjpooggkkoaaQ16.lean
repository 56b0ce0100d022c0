/-
  The walk of the statement OpBack.
-/
import Derived.Deep.RegionLaw
import Derived.Deep.DrawnRows
import Derived.Test.YtjlhjpooggkkoaaRows
import Derived.OwnWalk
import Derived.Deep.CutRange
import Derived.Laws.Tables
import Derived.Laws.CopyOwn
import Derived.Test.YtjlhjpooggkkoaaQ00
import Derived.Test.YtjlhjpooggkkoaaQ01
import Derived.Test.YtjlhjpooggkkoaaQ02
import Derived.Test.YtjlhjpooggkkoaaQ03
import Derived.Test.YtjlhjpooggkkoaaQ04
import Derived.Test.YtjlhjpooggkkoaaQ05
import Derived.Test.YtjlhjpooggkkoaaQ06
import Derived.Test.YtjlhjpooggkkoaaQ07
import Derived.Test.YtjlhjpooggkkoaaQ08
import Derived.Test.YtjlhjpooggkkoaaQ09
import Derived.Test.YtjlhjpooggkkoaaQ10
import Derived.Test.YtjlhjpooggkkoaaQ14
namespace Go.Proofs.Ytjlhjpooggkkoaa.Nd
open Go.RowKit
theorem decA_of {bs : List Nat} {q : Opn} (h : rdO (bs, 0) = (q, ([], 0))) : DecA bs q 0 true := by
  obtain ⟨q', G, K, hD, ⟨rfl, rfl, _, rfl⟩ | ⟨_, _, h2, _⟩⟩ := dec_both bs
  · rw [h] at hD
    exact hD
  · exact absurd (by rw [h]) h2
theorem decA_no {bs : List Nat} (h : (rdO (bs, 0)).2 ≠ ([], 0)) : DecA bs zeroO 21 false := by
  obtain ⟨q', G, K, hD, ⟨_, _, h2, _⟩ | ⟨rfl, rfl, _, rfl⟩⟩ := dec_both bs
  · exact absurd h2 h
  · exact hD
set_option maxHeartbeats 4000000 in
set_option maxRecDepth 100000 in
theorem back_any (o : Opn) (hok : o.ok) (bs : List Nat) (p : Option Addr) (cap b off : Nat) (w : World) (hsl : Sl w p bs cap b off) (hno : p = none → bs.length = 0 ∧ cap = 0) (hre : bs.length ≤ 140737488355328) :
    Calls Try.prog 6 #[o.val, .slice p bs.length cap] w fun e w' => e = .returned (.bool true) ∧ Below w.heap.size w w' := by
  obtain ⟨X, E, hE, hXE⟩ := enc_both o hok
  obtain ⟨q, G, K, hD, hG⟩ := dec_both bs
  have HA := hid_in (fun W => awakeO_any W)
  have HEP := hid_in (fun W => hE.prog W)
  have HDP := hid_in (fun W (hb : Below w.heap.size w W) => hD.prog W p cap b off (hsl.below hb) hno hre)
  obtain ⟨S, HS⟩ : ∃ S, Hid (str bs = S) := ⟨_, rfl⟩
  have HCB : Hid (∀ W, Below w.heap.size w W → (convert 32 9 (.slice p bs.length cap)).run Try.prog W = .ok (.string S) W) := fun W hb => by rw [← HS.out]; exact conv_sl (hsl.below hb)
  have HG : Hid ((G = 0 ∧ ((∀ W, Calls Try.prog 16 #[q.val] W fun e w' => (∃ v, e = .returned (.tuple #[v, .int .i64 0]) ∧ Byt w' v bs) ∧ Below W.heap.size W w') ∧ ∀ W, Below w.heap.size w W → (convert 32 9 (.slice p bs.length cap)).run Try.prog W = .ok (.string (str bs)) W)) ∨ (G = 21 ∧ q.kind = 0 ∧ q.path = ⟨#[]⟩ ∧ q.dest = ⟨#[]⟩ ∧ q.data = ⟨#[]⟩ ∧ q.at_ = 0 ∧ q.size = 0)) := by
    rcases hG with ⟨h1, _, h2, h3⟩ | ⟨h1, _, h2, h3⟩
    · obtain ⟨e1, e2, e3⟩ := enc_rdO hsl.lt h2
      rw [← h3] at e1 e2 e3
      refine .inl ⟨h1, fun W => ?_, fun W hb => conv_sl (hsl.below hb)⟩
      refine (encode_ok q e2 e3 W).mono ?_
      rintro e w' ⟨⟨u, rfl, ho⟩, hb⟩
      have h4 := own_byt (encO_lt e2 e3) ho
      rw [e1] at h4
      exact ⟨⟨u, rfl, h4⟩, hb⟩
    · subst h3
      exact .inr ⟨h1, rfl, rfl, rfl, rfl, rfl, rfl⟩
  have HX : Hid ((E = 0 ∧ 0 < X.length ∧ X.length ≤ 4000 ∧ (∀ x ∈ X, x < 256) ∧ DecA X o 0 true ∧ DecA (X ++ [0]) zeroO 21 false ∧ DecA (X.take (X.length - 1)) zeroO 21 false) ∨ E = 2) := by
    rcases hXE with ⟨h1, rfl, h3⟩ | ⟨_, _, h3⟩
    · have hlt := encO_lt hok h1
      have hcut := rdO_cut hok h1 hlt
      have hpos : 0 < (encO o).length := by
        unfold encO
        simp only [List.length_append]
        have := numF_pos 9 (Wire.zz o.kind)
        show 0 < _
        unfold Wire.num
        omega
      refine .inl ⟨h3, hpos, encO_len o h1, hlt, decA_of ?_, decA_no ?_, decA_no hcut⟩
      · have h := rdO_enc hok h1 []
        rwa [List.append_nil] at h
      · rw [rdO_enc hok h1 [0]]
        simp
    · exact .inr h3
  obtain ⟨k, pa, t, d, a, z⟩ := o
  obtain ⟨qk, qp, qt, qd, qa, qz⟩ := q
  simp only [Opn.val] at HEP HDP HG ⊢
  obtain ⟨W0, H0, HR0, HB0, HZ0⟩ := op_row w k a z pa t d
  obtain ⟨i5i, HI5, HE1, HE2, HE3⟩ := i5h
  clear hE hD hsl hno hre hXE hG hok HS HCB
  generalize bs.length = n at *
  go_enter Try.func6, Try.ntmps6
  go_upto_region 1 with fail
  refine wp_world H0.out ?_
  clear H0
  go_upto_region 3 with (first | (go_at_call 9; refine (HA.out _).mono ?_; rintro e w1 ⟨rfl, hb1⟩; have HB1 := hid_in (HB0.out.trans (hb1.mono HB0.out.size)); have HR1 := hid_in (HR0.out.below hb1 HR0.out.lt); clear hb1))
  have hr1 := HR1.out
  have c0 : w1.cell? ⟨w.heap.size, 0, none⟩ = some (.int .i64 k) := hr1.cell 0
  have c1 : w1.cell? ⟨w.heap.size, 1, none⟩ = some (.string pa) := hr1.cell 1
  have c2 : w1.cell? ⟨w.heap.size, 2, none⟩ = some (.string t) := hr1.cell 2
  have c3 : w1.cell? ⟨w.heap.size, 3, none⟩ = some (.string d) := hr1.cell 3
  have c4 : w1.cell? ⟨w.heap.size, 4, none⟩ = some (.int .i64 a) := hr1.cell 4
  have c5 : w1.cell? ⟨w.heap.size, 5, none⟩ = some (.int .i64 z) := hr1.cell 5
  clear hr1
  go_upto_region 4 with (first | (go_at_call 16; refine (HEP.out _).mono ?_; rintro e w2 ⟨⟨x2, rfl, hx2⟩, hb2⟩; have HX2 := hid_in hx2; have HB2 := hid_in (HB1.out.trans (hb2.mono HB1.out.size)); have HR2 := hid_in (HR1.out.below hb2 HR1.out.lt); clear hb2 hx2))
  clear c0 c1 c2 c3 c4 c5
  rcases HX.out with ⟨hE0, hp1, hl1, hlt1, hd1, hd2, hd3⟩ | hE2
  · obtain rfl := hE0
    obtain ⟨p2, c2, b2, rfl, hs2, hn2⟩ := HX2.out
    obtain rfl := hs2.at_ hp1
    have hc21 := hs2.cap1
    have hc22 := hs2.cap2
    have HS2 := hid_in hs2
    have HD1 := hid_in (fun W (hb : Below w2.heap.size w2 W) => hd1.prog W _ c2 b2 0 (hs2.below hb) hn2 (by omega))
    have HD3 : Hid (∀ W, Below w2.heap.size w2 W → Calls Try.prog 18 #[.slice (some ⟨b2, 0, none⟩) (X.length - 1) c2] W fun e w' => e = .returned (.tuple #[zeroO.val, .int .i64 21]) ∧ Below W.heap.size W w') := fun W hb => by
      have h := (hs2.below hb).part 0 (X.length - 1) c2 (by omega) (by omega) hc22
      rw [List.drop_zero] at h
      have h2 := hd3.prog W _ c2 b2 0 h (fun h => by cases h) (by rw [List.length_take]; omega)
      rw [List.length_take, Nat.min_eq_left (by omega)] at h2
      exact h2
    obtain ⟨Y, HY⟩ : ∃ Y : List Nat, Hid ((X ++ [0] : List Nat) = Y) := ⟨X ++ [0], by show _ = _; rfl⟩
    have HD2 := hid_in hd2
    rw [HY.out] at HD2
    have HYL : Hid (Y.length ≤ 140737488355328) := by show _ ≤ _; rw [← HY.out, List.length_append]; simp; omega
    have HYT : Hid (∀ y ∈ Y, y < 256) := by show ∀ y ∈ Y, _; rw [← HY.out]; exact app_lt hlt1 (by decide)
    have HLT := hid_in hlt1
    have hs9 : ∀ W, (Instr.slice 32 (.slice (some ⟨b2, 0, none⟩) X.length c2) none (some (.int .i64 ((X.length : Int) - 1))) none).run Try.prog W = .ok (.slice (some ⟨b2, 0, none⟩) (X.length - 1) c2) W := fun W => by
      have h := slice_to b2 0 X.length c2 (X.length - 1) (by omega) W
      rwa [show ((X.length - 1 : Nat) : Int) = (X.length : Int) - 1 by omega] at h
    have k1 : (1 : Int) ≤ (X.length : Int) := by omega
    have k2 : (X.length : Int) ≤ 4000 := by omega
    simp only [Opn.val, zeroO] at HD1 HD3
    clear hp1 hd1 hd2 hd3 hs2 hn2 hlt1 HX2
    go_upto_region 5 with fail
    go_upto_region 6 with (first | (go_at_call 18; refine (HD1.out _ (Below.refl _ _)).mono ?_; rintro e w3 ⟨rfl, hb3⟩; have HB3 := hid_in hb3; clear hb3))
    obtain ⟨W4, H4, HR4, HB4, HZ4⟩ := op_row w3 k a z pa t d
    have HB4' := hid_in (HB3.out.trans (HB4.out.mono HB3.out.size))
    have hr4 := HR4.out
    have hr4w := HR2.out.below HB4'.out HR2.out.lt
    obtain ⟨g3, Hg3⟩ : ∃ g, w3.heap.size = g := ⟨_, rfl⟩
    rw [Hg3] at hr4 ⊢
    refine wp_world H4.out ?_
    have d0 : W4.cell? ⟨g3, 0, none⟩ = some (.int .i64 k) := hr4.cell 0
    have d1 : W4.cell? ⟨g3, 1, none⟩ = some (.string pa) := hr4.cell 1
    have d2 : W4.cell? ⟨g3, 2, none⟩ = some (.string t) := hr4.cell 2
    have d3 : W4.cell? ⟨g3, 3, none⟩ = some (.string d) := hr4.cell 3
    have d4 : W4.cell? ⟨g3, 4, none⟩ = some (.int .i64 a) := hr4.cell 4
    have d5 : W4.cell? ⟨g3, 5, none⟩ = some (.int .i64 z) := hr4.cell 5
    have e0 : W4.cell? ⟨w.heap.size, 0, none⟩ = some (.int .i64 k) := hr4w.cell 0
    have e1 : W4.cell? ⟨w.heap.size, 1, none⟩ = some (.string pa) := hr4w.cell 1
    have e2 : W4.cell? ⟨w.heap.size, 2, none⟩ = some (.string t) := hr4w.cell 2
    have e3 : W4.cell? ⟨w.heap.size, 3, none⟩ = some (.string d) := hr4w.cell 3
    have e4 : W4.cell? ⟨w.heap.size, 4, none⟩ = some (.int .i64 a) := hr4w.cell 4
    have e5 : W4.cell? ⟨w.heap.size, 5, none⟩ = some (.int .i64 z) := hr4w.cell 5
    clear H4 HB4 HZ4 Hg3 hr4 hr4w HR4 HB3
    go_upto_region 8 with fail
    clear d0 d1 d2 d3 d4 d5 e0 e1 e2 e3 e4 e5
    have hown0 := own_empty W4
    have hb0 : Below W4.heap.size W4 (W4.alloc (.cells #[] 5)) := (Below.refl _ _).alloc (Nat.le_refl _) _
    have hsrc0 := ((HS2.out.below HB4'.out).below hb0).news
    have hl0 : (X.map u8v).length = X.length := by simp
    have hBs : W4.heap.size ≤ (W4.alloc (.cells #[] 5)).heap.size := by simp
    have hf0 : 0 + X.length ≤ 140737488355328 := by omega
    have hno0 : (some ({ block := b2, off := 0 } : Addr)) = none → X.length = 0 ∧ c2 = 0 := fun h => by cases h
    have HB0' := hid_in hb0
    clear hb0
    go_upto_region 9 with (first | (at_builtin; refine wpList_append_any rfl (.tmp 39) (.tmp 40) 32 rfl W4.heap.size 5 i5i (.int .u8 0) Try.underlying32 HI5.out HE3.out HE1.out HE2.out rfl _ 0 [] rfl hown0 (some ⟨b2, 0, none⟩) X.length c2 (X.map u8v) rfl hl0 hno0 hsrc0 (one_u8 X) hf0 hBs ?_; intro v5 w5 hown5 hg5; rw [Nat.zero_add, List.nil_append] at hown5; have HB5 : Hid (Below W4.heap.size W4 w5) := own_step HB0'.out hg5 hBs rfl hown0; have HO5 := hid_in hown5; have hsz5 : W4.heap.size ≤ w5.heap.size := HB5.out.size; clear hg5 hown0 hsrc0 hBs hown5; simp only [Act.put, List.setIfInBounds_toArray, List.set_cons_succ, List.set_cons_zero]) | (at_builtin; refine wpList_append_one rfl (.tmp 41) (.tmp 42) 32 rfl W4.heap.size 5 i5i (.int .u8 0) Try.underlying32 HI5.out HE3.out HE1.out HE2.out rfl _ X.length _ rfl HO5.out 5 (.int .u8 0) rfl rfl (by omega) hsz5 ?_; intro v6 w6 hown6 hb6 hs6; have HB6 := hid_in (hb6 _ HB5.out); have HO6 : Hid (w6.ownsRow W4.heap.size 5 1 v6 Y.length (Y.map u8v)) := (by show World.ownsRow _ _ _ _ _ _ _; rw [← HY.out, List.length_append, List.map_append]; exact hown6); clear hown6 hb6 hs6 HO5 HB5; simp only [Act.put, List.setIfInBounds_toArray, List.set_cons_succ, List.set_cons_zero]; obtain ⟨p6, c6, b6, hv6, hs6, hn6⟩ := own_sl HYT.out HO6.out; subst hv6; have HC6 := hid_in (HD2.out.prog _ p6 c6 b6 0 hs6 hn6 HYL.out); simp only [Opn.val, zeroO] at HC6; clear hs6 hn6) | (go_at_call 18; refine HC6.out.mono ?_; rintro e w7 ⟨rfl, hb7⟩; have HB7 := hid_in (HB6.out.trans (hb7.mono HB6.out.size)); clear hb7))
    obtain ⟨W8, H8, HR8, HB8, HZ8⟩ := op_row w7 0 0 0 ⟨#[]⟩ ⟨#[]⟩ ⟨#[]⟩
    have HB8' : Hid (Below w2.heap.size w2 W8) := HB4'.out.trans ((HB7.out.trans (HB8.out.mono HB7.out.size)).mono HB4'.out.size)
    refine wp_world H8.out ?_
    clear H8 HB8 HR8 HZ8 HB7 HB6 HO6 HC6 HB0'
    go_upto_region 10 with (first | (go_at_call 18; refine (HD3.out _ HB8'.out).mono ?_; rintro e w9 ⟨rfl, hb9⟩; have HB9 := hid_in (HB8'.out.trans (hb9.mono HB8'.out.size)); clear hb9))
    obtain ⟨W10, H10, HR10, HB10, HZ10⟩ := op_row w9 0 0 0 ⟨#[]⟩ ⟨#[]⟩ ⟨#[]⟩
    have HB10' : Hid (Below w.heap.size w W10) := HB2.out.trans ((HB9.out.trans (HB10.out.mono HB9.out.size)).mono HB2.out.size)
    refine wp_world H10.out ?_
    clear H10 HB10 HR10 HZ10 HB9 HB8' HD1 HD2 HD3 hs9 hf0 hno0 hl0
    go_upto_region 12 with fail
    go_upto_region 13 with (first | (go_at_call 18; refine (HDP.out _ HB10'.out).mono ?_; rintro e v4 ⟨rfl, hb4⟩; have HV4 := hid_in (HB10'.out.trans (hb4.mono HB10'.out.size)); clear hb4))
    obtain ⟨W5, H5, HR5, HB5, HZ5⟩ := op_row v4 qk qa qz qp qt qd
    have HB5' := hid_in (HV4.out.trans (HB5.out.mono HV4.out.size))
    obtain ⟨g4, Hg4⟩ : ∃ g, v4.heap.size = g := ⟨_, rfl⟩
    have hr5 := HR5.out
    rw [Hg4] at hr5 ⊢
    refine wp_world H5.out ?_
    have x0 : W5.cell? ⟨g4, 0, none⟩ = some (.int .i64 qk) := hr5.cell 0
    have x1 : W5.cell? ⟨g4, 1, none⟩ = some (.string qp) := hr5.cell 1
    have x2 : W5.cell? ⟨g4, 2, none⟩ = some (.string qt) := hr5.cell 2
    have x3 : W5.cell? ⟨g4, 3, none⟩ = some (.string qd) := hr5.cell 3
    have x4 : W5.cell? ⟨g4, 4, none⟩ = some (.int .i64 qa) := hr5.cell 4
    have x5 : W5.cell? ⟨g4, 5, none⟩ = some (.int .i64 qz) := hr5.cell 5
    clear H5 HB5 HZ5 HR5 hr5 Hg4
    rcases HG.out with ⟨hG, hY⟩ | ⟨hG, hz⟩
    · obtain rfl := hG
      have HQ := hid_in hY
      clear hY
      go_wp2_with (first | (go_at_call 16; refine (HQ.out.1 _).mono ?_; rintro e v6 ⟨⟨y6, rfl, hy6⟩, hb6⟩; have hcv1 := hy6.conv; have HB6 := hid_in (HB5'.out.trans (hb6.mono HB5'.out.size)); have hcv2 := HQ.out.2 _ HB6.out; clear hb6 hy6))
      go_ret
      exact ⟨rfl, HB6.out⟩
    · obtain rfl := hG
      obtain ⟨rfl, rfl, rfl, rfl, rfl, rfl⟩ := hz
      go_wp2_with fail
      go_ret
      exact ⟨rfl, HB5'.out⟩
  · obtain rfl := hE2
    go_upto_region 12 with fail
    go_upto_region 13 with (first | (go_at_call 18; refine (HDP.out _ HB2.out).mono ?_; rintro e v4 ⟨rfl, hb4⟩; have HV4 := hid_in (HB2.out.trans (hb4.mono HB2.out.size)); clear hb4))
    obtain ⟨W5, H5, HR5, HB5, HZ5⟩ := op_row v4 qk qa qz qp qt qd
    have HB5' := hid_in (HV4.out.trans (HB5.out.mono HV4.out.size))
    obtain ⟨g4, Hg4⟩ : ∃ g, v4.heap.size = g := ⟨_, rfl⟩
    have hr5 := HR5.out
    rw [Hg4] at hr5 ⊢
    refine wp_world H5.out ?_
    have x0 : W5.cell? ⟨g4, 0, none⟩ = some (.int .i64 qk) := hr5.cell 0
    have x1 : W5.cell? ⟨g4, 1, none⟩ = some (.string qp) := hr5.cell 1
    have x2 : W5.cell? ⟨g4, 2, none⟩ = some (.string qt) := hr5.cell 2
    have x3 : W5.cell? ⟨g4, 3, none⟩ = some (.string qd) := hr5.cell 3
    have x4 : W5.cell? ⟨g4, 4, none⟩ = some (.int .i64 qa) := hr5.cell 4
    have x5 : W5.cell? ⟨g4, 5, none⟩ = some (.int .i64 qz) := hr5.cell 5
    clear H5 HB5 HZ5 HR5 hr5 Hg4
    rcases HG.out with ⟨hG, hY⟩ | ⟨hG, hz⟩
    · obtain rfl := hG
      have HQ := hid_in hY
      clear hY
      go_wp2_with (first | (go_at_call 16; refine (HQ.out.1 _).mono ?_; rintro e v6 ⟨⟨y6, rfl, hy6⟩, hb6⟩; have hcv1 := hy6.conv; have HB6 := hid_in (HB5'.out.trans (hb6.mono HB5'.out.size)); have hcv2 := HQ.out.2 _ HB6.out; clear hb6 hy6))
      go_ret
      exact ⟨rfl, HB6.out⟩
    · obtain rfl := hG
      obtain ⟨rfl, rfl, rfl, rfl, rfl, rfl⟩ := hz
      go_wp2_with fail
      go_ret
      exact ⟨rfl, HB5'.out⟩
end Go.Proofs.Ytjlhjpooggkkoaa.Nd
