/-
  The walk of NodeBack.
-/
import Derived.Test.YtbccjomnfclkdaaM0
import Derived.Deep.CutRange
namespace Go.Proofs.Ytbccjomnfclkdaa
open Go.RowKit
theorem str_inj {a b : List Nat} (ha : ∀ x ∈ a, x < 256) (hb : ∀ x ∈ b, x < 256) (h : str a = str b) : a = b := by
  have h2 : bytesS (str a) = bytesS (str b) := by rw [h]
  rwa [bytesS_str ha, bytesS_str hb] at h2
theorem toList_ne {a b : ByteArray} (h : ¬ a = b) : (a.toList == b.toList) = false := by
  rw [beq_eq_false_iff_ne]
  intro e
  apply h
  rw [Lib.toList_data, Lib.toList_data] at e
  cases a
  cases b
  simp only [ByteArray.mk.injEq]
  exact Array.toList_inj.1 e
theorem right_short {n : Nd} (h : right n) : n.short := by
  rcases h with ⟨_, _, h2, _, _, hi⟩ | ⟨_, h2, _, _, _, hi⟩ | ⟨_, h2, _, _, hi⟩
  · exact ⟨by omega, fun x hx => by rw [hi] at hx; cases hx⟩
  · exact ⟨by omega, fun x hx => by rw [hi] at hx; cases hx⟩
  · exact ⟨by omega, fun x hx => by have := name_len (itemsOk_mem hi hx); omega⟩
set_option maxHeartbeats 8000000 in
set_option maxRecDepth 100000 in
theorem nback_any (w : World) (k s : Int) (d : ByteArray) (pP : Option Addr) (lP cP : Nat) (pN : Option Addr) (lN cN : Nat) (pK : Option Addr) (lK cK : Nat) (pS : Option Addr) (lS cS : Nat) (n : Nd) (hsh : n.short)
    (hC : NodeC w (.agg #[.int .i64 k, .string d, .int .i64 s, .slice pP lP cP, .slice pN lN cN, .slice pK lK cK, .slice pS lS cS]) n)
    (bs : List Nat) (p : Option Addr) (cap b off : Nat) (hsl : Sl w p bs cap b off) (hno : p = none → bs.length = 0 ∧ cap = 0) (hre : bs.length ≤ 140737488355328) :
    Calls Try.prog 5 #[.agg #[.int .i64 k, .string d, .int .i64 s, .slice pP lP cP, .slice pN lN cN, .slice pK lK cK, .slice pS lS cS], .slice p bs.length cap] w fun e w' => e = .returned (.bool true) ∧ Below w.heap.size w w' := by
  have HC := hid_in hC
  have HSH := hid_in hsh
  have HSL := hid_in hsl
  have HNO := hid_in hno
  have HRE := hid_in hre
  clear hC hsh hsl hno hre
  go_enter Try.func5, Try.ntmps5
  go_upto_region 1 with fail
  obtain ⟨W0, HW0, HR0, HB0, HS0⟩ := raw_row w k s d (.slice pP lP cP) (.slice pN lN cN) (.slice pK lK cK) (.slice pS lS cS)
  refine wp_world HW0.out ?_
  clear HW0
  go_upto_region 3 with (first | (go_at_call 9; refine (awake_any W0).mono ?_; rintro e w1 ⟨rfl, hb1⟩; have HB1 := hid_in hb1; clear hb1))
  have hr1 := HR0.out.below HB1.out HR0.out.lt
  have HBW1 : Hid (Below w.heap.size w w1) := HB0.out.trans (HB1.out.mono HB0.out.size)
  have r0 : w1.cell? ⟨w.heap.size, 0, none⟩ = some (.int .i64 k) := hr1.cell 0
  have r1 : w1.cell? ⟨w.heap.size, 1, none⟩ = some (.string d) := hr1.cell 1
  have r2 : w1.cell? ⟨w.heap.size, 2, none⟩ = some (.int .i64 s) := hr1.cell 2
  have r3 : w1.cell? ⟨w.heap.size, 3, none⟩ = some (.slice pP lP cP) := hr1.cell 3
  have r4 : w1.cell? ⟨w.heap.size, 4, none⟩ = some (.slice pN lN cN) := hr1.cell 4
  have r5 : w1.cell? ⟨w.heap.size, 5, none⟩ = some (.slice pK lK cK) := hr1.cell 5
  have r6 : w1.cell? ⟨w.heap.size, 6, none⟩ = some (.slice pS lS cS) := hr1.cell 6
  clear hr1
  obtain ⟨nk, nd, ns, np, ni⟩ := n
  have HC1 := hid_in (HC.out w1 HBW1.out)
  clear HC
  simp only at HC1
  go_upto_region 4 with (first | (go_at_call 10; refine HC1.out.mono ?_; rintro e w2 ⟨⟨pp, cp, pi, ci, rfl, hn2, _⟩, hb2⟩; have HN2 := hid_in hn2; have HB2 := hid_in (HBW1.out.trans (hb2.mono HBW1.out.size)); clear hn2 hb2))
  obtain ⟨W2, HW2, HR2, HBW2, HS2⟩ := node_row w2 nk ns nd (.slice pp np.length cp) (.slice pi ni.length ci)
  refine wp_world HW2.out ?_
  clear HW2
  have HB3 : Hid (Below w.heap.size w W2) := HB2.out.trans (HBW2.out.mono HB2.out.size)
  have a0 : W2.cell? ⟨w2.heap.size, 0, none⟩ = some (.int .i64 nk) := HR2.out.cell 0
  have a1 : W2.cell? ⟨w2.heap.size, 1, none⟩ = some (.string nd) := HR2.out.cell 1
  have a2 : W2.cell? ⟨w2.heap.size, 2, none⟩ = some (.int .i64 ns) := HR2.out.cell 2
  have a3 : W2.cell? ⟨w2.heap.size, 3, none⟩ = some (.slice pp np.length cp) := HR2.out.cell 3
  have a4 : W2.cell? ⟨w2.heap.size, 4, none⟩ = some (.slice pi ni.length ci) := HR2.out.cell 4
  have HN3 := hid_in (HN2.out.below HBW2.out)
  have HE := hid_in (encode_any W2 _ _ HN3.out HSH.out)
  clear r0 r1 r2 r3 r4 r5 r6 HC1 HN2
  go_upto_if 24 with (first | (go_at_call 11; refine HE.out.mono ?_; rintro e w4 ⟨⟨u, ke, rfl, hu⟩, hb4⟩; have HB4 := hid_in hb4; have HU := hid_in hu; clear hb4 hu))
  have HB5 : Hid (Below w.heap.size w w4) := HB3.out.trans (HB4.out.mono HB3.out.size)
  clear a0 a1 a2 a3 a4 HE
  have HR4 := hid_in (HR2.out.below HB4.out HR2.out.lt)
  have HN4 := hid_in (HN3.out.below HB4.out)
  clear HR2 HN3
  obtain ⟨pu, lu, cu, hform⟩ : ∃ pu lu cu, u = .slice pu lu cu := by
    rcases HU.out with ⟨_, _, h⟩ | ⟨_, _, h⟩
    · obtain ⟨q, c, h⟩ := own_form h
      exact ⟨q, _, c, h⟩
    · exact ⟨_, _, _, h⟩
  subst hform
  go_cut [8, 9] from 23 to 42 (fun _ _ W => Hid (Below w4.heap.size w4 W))
  case first =>
    rcases HU.out with ⟨rfl, hrt, hown⟩ | ⟨rfl, _, hu⟩
    · have hlt := enc_lt hrt HN4.out.ok
      have hlen := enc_len hrt HN4.out.ok
      have hme : Means (enc ⟨nk, nd, ns, np, ni⟩) ⟨nk, nd, ns, np, ni⟩ := ⟨hrt, HN4.out.ok, rfl⟩
      obtain ⟨q, c, b4, hfo, hs4, hn4⟩ := own_sl hlt hown
      simp only [Value.slice.injEq] at hfo
      obtain ⟨rfl, rfl, rfl⟩ := hfo
      have HD := hid_in (dec_c _ _ _ _ _ _ hs4 hn4 (by omega))
      have HME := hid_in hme
      have HLEN : Hid ((enc ⟨nk, nd, ns, np, ni⟩).length ≤ 4096) := hlen
      clear hme hs4 hn4 hown hlt hlen hrt HU
      generalize enc ⟨nk, nd, ns, np, ni⟩ = F at *
      have kl : ((F.length : Nat) : Int) ≤ 4096 := by have := HLEN.out; omega
      have HF := hid_in (rfl : F.length = F.length)
      go_upto_region 7 with (first | (go_at_call 15; refine HD.out.mono ?_; rintro e w5 ⟨⟨z, k5, qp, dp, qi, di, rfl, hz, _, hd5⟩, hb5⟩; have HZ := hid_in hz; have HB6 := hid_in hb5; obtain ⟨rfl, rfl⟩ : k5 = 0 ∧ z = ⟨nk, nd, ns, np, ni⟩ := (hd5.elim (fun h => ⟨h.1, h.2.unique HME.out⟩) (fun h => absurd HME.out (h.2.2 _))); clear hz hd5 hb5))
      obtain ⟨W5, HW5, HR5, HBW5, HS5⟩ := node_row w5 nk ns nd (.slice qp np.length dp) (.slice qi ni.length di)
      refine wp_world HW5.out ?_
      clear HW5
      have HB7 : Hid (Below w4.heap.size w4 W5) := HB6.out.trans (HBW5.out.mono HB6.out.size)
      have hr5 := HR4.out.below HB7.out HR4.out.lt
      have a0 : W5.cell? ⟨w2.heap.size, 0, none⟩ = some (.int .i64 nk) := hr5.cell 0
      have a1 : W5.cell? ⟨w2.heap.size, 1, none⟩ = some (.string nd) := hr5.cell 1
      have a2 : W5.cell? ⟨w2.heap.size, 2, none⟩ = some (.int .i64 ns) := hr5.cell 2
      have a3 : W5.cell? ⟨w2.heap.size, 3, none⟩ = some (.slice pp np.length cp) := hr5.cell 3
      have a4 : W5.cell? ⟨w2.heap.size, 4, none⟩ = some (.slice pi ni.length ci) := hr5.cell 4
      have b0 : W5.cell? ⟨w5.heap.size, 0, none⟩ = some (.int .i64 nk) := HR5.out.cell 0
      have b1 : W5.cell? ⟨w5.heap.size, 1, none⟩ = some (.string nd) := HR5.out.cell 1
      have b2 : W5.cell? ⟨w5.heap.size, 2, none⟩ = some (.int .i64 ns) := HR5.out.cell 2
      have b3 : W5.cell? ⟨w5.heap.size, 3, none⟩ = some (.slice qp np.length dp) := HR5.out.cell 3
      have b4 : W5.cell? ⟨w5.heap.size, 4, none⟩ = some (.slice qi ni.length di) := HR5.out.cell 4
      have HSM := hid_in (same_yes W5 _ _ _ _ (HN4.out.below HB7.out) (HZ.out.below HBW5.out) rfl)
      clear hr5 HR5 HZ HB6 HBW5 HS5 HD HME
      go_wp2_with (first | (go_at_call 17; refine HSM.out.mono ?_; rintro e w6 ⟨rfl, hb6⟩; have HB8 := hid_in (HB7.out.trans (hb6.mono HB7.out.size)); clear hb6))
      go_meet
      exact HB8
    · go_wp2_with fail
      go_meet
      exact Below.refl _ _
  case rest =>
    have HBC := hid_in hcut.out
    clear hcut
    have HBW : Hid (Below w.heap.size w wc) := HB5.out.trans (HBC.out.mono HB5.out.size)
    have HSC := hid_in (HSL.out.below HBW.out)
    have HD := hid_in (dec_c _ _ _ _ _ _ HSC.out HNO.out HRE.out)
    go_upto_region 10 with (first | (go_at_call 15; refine HD.out.mono ?_; rintro e w7 ⟨⟨z, k7, qp, dp, qi, di, rfl, hz, _, hd7⟩, hb7⟩; have HZ := hid_in hz; have HB7 := hid_in hb7; have HD7 := hid_in hd7; clear hz hd7 hb7))
    obtain ⟨zk, zd, zs, zp, zi⟩ := z
    obtain ⟨W7, HW7, HR7, HBW7, HS7⟩ := node_row w7 zk zs zd (.slice qp zp.length dp) (.slice qi zi.length di)
    refine wp_world HW7.out ?_
    clear HW7 HD
    have HBC7 : Hid (Below wc.heap.size wc W7) := HB7.out.trans (HBW7.out.mono HB7.out.size)
    have HB47 : Hid (Below w4.heap.size w4 W7) := HBC.out.trans (HBC7.out.mono HBC.out.size)
    have HBW8 : Hid (Below w.heap.size w W7) := HBW.out.trans (HBC7.out.mono HBW.out.size)
    rcases HD7.out with ⟨rfl, hme⟩ | ⟨rfl, hzz, _⟩
    · have HZ7 := hid_in (HZ.out.below HBW7.out)
      have HE := hid_in (encode_any W7 _ _ HZ7.out (right_short hme.1))
      have HME := hid_in hme
      clear hme HD7 HZ
      have b0 : W7.cell? ⟨w7.heap.size, 0, none⟩ = some (.int .i64 zk) := HR7.out.cell 0
      have b1 : W7.cell? ⟨w7.heap.size, 1, none⟩ = some (.string zd) := HR7.out.cell 1
      have b2 : W7.cell? ⟨w7.heap.size, 2, none⟩ = some (.int .i64 zs) := HR7.out.cell 2
      have b3 : W7.cell? ⟨w7.heap.size, 3, none⟩ = some (.slice qp zp.length dp) := HR7.out.cell 3
      have b4 : W7.cell? ⟨w7.heap.size, 4, none⟩ = some (.slice qi zi.length di) := HR7.out.cell 4
      go_upto_region 13 with (first | (go_at_call 11; refine HE.out.mono ?_; rintro e w8 ⟨⟨u8, k8, rfl, hu8⟩, hb8⟩; have HB8 := hid_in hb8; obtain ⟨rfl, ho8⟩ : k8 = 0 ∧ w8.ownsRow W7.heap.size 5 1 u8 (enc ⟨zk, zd, zs, zp, zi⟩).length ((enc ⟨zk, zd, zs, zp, zi⟩).map u8v) := (hu8.elim (fun h => ⟨h.1, h.2.2⟩) (fun h => absurd HME.out.1 h.2.1)); have HO8 := hid_in ho8; clear hb8 hu8 ho8))
      clear b0 b1 b2 b3 b4 HE
      have ho8 := HO8.out
      have hlt := HSL.out.lt
      rw [HME.out.2.2] at ho8
      obtain ⟨p8, c8, g8, rfl, hs8, _⟩ := own_sl hlt ho8
      clear ho8
      have HBW9 : Hid (Below w.heap.size w w8) := HBW8.out.trans (HB8.out.mono HBW8.out.size)
      have HB48 : Hid (Below w4.heap.size w4 w8) := HB47.out.trans (HB8.out.mono HB47.out.size)
      have HS8 := hid_in hs8
      have HSB := hid_in (HSL.out.below HBW9.out)
      clear hs8 hlt HO8
      obtain ⟨SB, HSBE⟩ : ∃ SB, Hid (str bs = SB) := ⟨_, rfl⟩
      have HCC : Hid (∀ W, Below w8.heap.size w8 W → (convert 33 9 (.slice p8 bs.length c8)).run Try.prog W = .ok (.string SB) W ∧ (convert 33 9 (.slice p bs.length cap)).run Try.prog W = .ok (.string SB) W) := fun W hW => by
        rw [← HSBE.out]
        exact ⟨conv_sl (HS8.out.below hW), conv_sl (HSB.out.below hW)⟩
      have HBD : Hid (Below w8.heap.size w8 w8.drew) := below_drewN (Below.refl _ w8) 1
      rcases HU.out with ⟨rfl, hrt, hown⟩ | ⟨rfl, _, hu⟩
      · have hlt := enc_lt hrt HN4.out.ok
        obtain ⟨q, c, b4, hfo, hs4, hn4⟩ := own_sl hlt hown
        simp only [Value.slice.injEq] at hfo
        obtain ⟨rfl, rfl, rfl⟩ := hfo
        obtain ⟨SA, HSAE⟩ : ∃ SA, Hid (str (enc ⟨nk, nd, ns, np, ni⟩) = SA) := ⟨_, rfl⟩
        have HIFF : Hid (((⟨nk, nd, ns, np, ni⟩ : Nd) = ⟨zk, zd, zs, zp, zi⟩) ↔ SA = SB) := by
          rw [← HSAE.out, ← HSBE.out]
          constructor
          · intro h
            rw [h, HME.out.2.2]
          · intro h
            have h2 := str_inj hlt HSL.out.lt h
            exact enc_inj hrt HN4.out.ok HME.out.1 HME.out.2.1 (h2.trans HME.out.2.2.symm)
        have HCA : Hid (∀ W, Below w8.heap.size w8 W → (convert 33 9 (.slice pu (enc ⟨nk, nd, ns, np, ni⟩).length cu)).run Try.prog W = .ok (.string SA) W) := fun W hW => by
          rw [← HSAE.out]
          exact conv_sl ((hs4.below HB48.out).below hW)
        have HR8 := hid_in (HR4.out.below HB48.out HR4.out.lt)
        have HR9 := hid_in (HR7.out.below HB8.out HR7.out.lt)
        have HN8 := hid_in (HN4.out.below HB48.out)
        have HZ8 := hid_in (HZ7.out.below HB8.out)
        generalize (enc ⟨nk, nd, ns, np, ni⟩).length = lu at *
        clear hlt hs4 hn4 hown hrt HU
        have HKK : Hid (∀ W, Below w8.heap.size w8 W → ((convert 33 9 (.slice p8 bs.length c8)).run Try.prog W = .ok (.string SB) W ∧ (convert 33 9 (.slice p bs.length cap)).run Try.prog W = .ok (.string SB) W ∧ (convert 33 9 (.slice pu lu cu)).run Try.prog W = .ok (.string SA) W) ∧ (W.cell? ⟨w2.heap.size, 0, none⟩ = some (.int .i64 nk) ∧ W.cell? ⟨w2.heap.size, 1, none⟩ = some (.string nd) ∧ W.cell? ⟨w2.heap.size, 2, none⟩ = some (.int .i64 ns) ∧ W.cell? ⟨w2.heap.size, 3, none⟩ = some (.slice pp np.length cp) ∧ W.cell? ⟨w2.heap.size, 4, none⟩ = some (.slice pi ni.length ci)) ∧ (W.cell? ⟨w7.heap.size, 0, none⟩ = some (.int .i64 zk) ∧ W.cell? ⟨w7.heap.size, 1, none⟩ = some (.string zd) ∧ W.cell? ⟨w7.heap.size, 2, none⟩ = some (.int .i64 zs) ∧ W.cell? ⟨w7.heap.size, 3, none⟩ = some (.slice qp zp.length dp) ∧ W.cell? ⟨w7.heap.size, 4, none⟩ = some (.slice qi zi.length di))) := fun W hW => by
          have h1 := HR8.out.below hW HR8.out.lt
          have h2 := HR9.out.below hW HR9.out.lt
          exact ⟨⟨(HCC.out W hW).1, (HCC.out W hW).2, HCA.out W hW⟩, ⟨h1.cell 0, h1.cell 1, h1.cell 2, h1.cell 3, h1.cell 4⟩, ⟨h2.cell 0, h2.cell 1, h2.cell 2, h2.cell 3, h2.cell 4⟩⟩
        by_cases hEq : (⟨nk, nd, ns, np, ni⟩ : Nd) = ⟨zk, zd, zs, zp, zi⟩
        · have HSM := hid_in (same_yes w8.drew _ _ _ _ (HN8.out.below HBD.out) (HZ8.out.below HBD.out) hEq)
          have hAB := HIFF.out.1 hEq
          clear hEq HIFF HSAE HCA
          subst hAB
          refine wp_region_held_drew (S := (fun W => ((convert 33 9 (.slice p8 bs.length c8)).run Try.prog W = .ok (.string SA) W ∧ (convert 33 9 (.slice p bs.length cap)).run Try.prog W = .ok (.string SA) W ∧ (convert 33 9 (.slice pu lu cu)).run Try.prog W = .ok (.string SA) W) ∧ (W.cell? ⟨w2.heap.size, 0, none⟩ = some (.int .i64 nk) ∧ W.cell? ⟨w2.heap.size, 1, none⟩ = some (.string nd) ∧ W.cell? ⟨w2.heap.size, 2, none⟩ = some (.int .i64 ns) ∧ W.cell? ⟨w2.heap.size, 3, none⟩ = some (.slice pp np.length cp) ∧ W.cell? ⟨w2.heap.size, 4, none⟩ = some (.slice pi ni.length ci)) ∧ (W.cell? ⟨w7.heap.size, 0, none⟩ = some (.int .i64 zk) ∧ W.cell? ⟨w7.heap.size, 1, none⟩ = some (.string zd) ∧ W.cell? ⟨w7.heap.size, 2, none⟩ = some (.int .i64 zs) ∧ W.cell? ⟨w7.heap.size, 3, none⟩ = some (.slice qp zp.length dp) ∧ W.cell? ⟨w7.heap.size, 4, none⟩ = some (.slice qi zi.length di)))) (by kernel_rfl) (HKK.out _ HBD.out) (fun hHeld => ?_)
          refine take_put (i := 0) (d := 55) (v := ?_) rfl rfl (by kernel_rfl) (by kernel_rfl) (by kernel_rfl) (fun _ _ _ h => h) (Or.inl ⟨by kernel_rfl, ?_⟩) hHeld ?_
          rotate_left
          · (intro w hSw; (try dsimp only at hSw); go_simp; (try with_reducible rfl))
          simp only [Act.put, List.setIfInBounds_toArray, List.set_cons_zero, List.set_cons_succ]
          refine take_put (i := 1) (d := 56) (v := ?_) rfl rfl (by kernel_rfl) (by kernel_rfl) (by kernel_rfl) (fun _ _ _ h => h) (Or.inl ⟨by kernel_rfl, ?_⟩) hHeld ?_
          rotate_left
          · (intro w hSw; (try dsimp only at hSw); go_simp; (try with_reducible rfl))
          simp only [Act.put, List.setIfInBounds_toArray, List.set_cons_zero, List.set_cons_succ]
          refine take_put (i := 2) (d := 57) (v := ?_) rfl rfl (by kernel_rfl) (by kernel_rfl) (by kernel_rfl) (fun _ _ _ h => h) (Or.inl ⟨by kernel_rfl, ?_⟩) hHeld ?_
          rotate_left
          · (intro w hSw; (try dsimp only at hSw); go_simp; (try with_reducible rfl))
          simp only [Act.put, List.setIfInBounds_toArray, List.set_cons_zero, List.set_cons_succ]
          refine take_put (i := 3) (d := 58) (v := ?_) rfl rfl (by kernel_rfl) (by kernel_rfl) (by kernel_rfl) (fun _ _ _ h => h) (Or.inl ⟨by kernel_rfl, ?_⟩) hHeld ?_
          rotate_left
          · (intro w hSw; (try dsimp only at hSw); go_simp; (try with_reducible rfl))
          simp only [Act.put, List.setIfInBounds_toArray, List.set_cons_zero, List.set_cons_succ]
          refine take_put (i := 4) (d := 59) (v := ?_) rfl rfl (by kernel_rfl) (by kernel_rfl) (by kernel_rfl) (fun _ _ _ h => h) (Or.inl ⟨by kernel_rfl, ?_⟩) hHeld ?_
          rotate_left
          · (intro w hSw; (try dsimp only at hSw); go_simp; (try with_reducible rfl))
          simp only [Act.put, List.setIfInBounds_toArray, List.set_cons_zero, List.set_cons_succ]
          refine take_put (i := 5) (d := 60) (v := ?_) rfl rfl (by kernel_rfl) (by kernel_rfl) (by kernel_rfl) (fun _ _ _ h => h) (Or.inl ⟨by kernel_rfl, ?_⟩) hHeld ?_
          rotate_left
          · (intro w hSw; (try dsimp only at hSw); go_simp; (try with_reducible rfl))
          simp only [Act.put, List.setIfInBounds_toArray, List.set_cons_zero, List.set_cons_succ]
          refine take_put (i := 6) (d := 61) (v := ?_) rfl rfl (by kernel_rfl) (by kernel_rfl) (by kernel_rfl) (fun _ _ _ h => h) (Or.inl ⟨by kernel_rfl, ?_⟩) hHeld ?_
          rotate_left
          · (intro w hSw; (try dsimp only at hSw); go_simp; (try with_reducible rfl))
          simp only [Act.put, List.setIfInBounds_toArray, List.set_cons_zero, List.set_cons_succ]
          refine take_put (i := 7) (d := 62) (v := ?_) rfl rfl (by kernel_rfl) (by kernel_rfl) (by kernel_rfl) (fun _ _ _ h => h) (Or.inl ⟨by kernel_rfl, ?_⟩) hHeld ?_
          rotate_left
          · (intro w hSw; (try dsimp only at hSw); go_simp; (try with_reducible rfl))
          simp only [Act.put, List.setIfInBounds_toArray, List.set_cons_zero, List.set_cons_succ]
          refine take_put (i := 8) (d := 63) (v := ?_) rfl rfl (by kernel_rfl) (by kernel_rfl) (by kernel_rfl) (fun _ _ _ h => h) (Or.inl ⟨by kernel_rfl, ?_⟩) hHeld ?_
          rotate_left
          · (intro w hSw; (try dsimp only at hSw); go_simp; (try with_reducible rfl))
          simp only [Act.put, List.setIfInBounds_toArray, List.set_cons_zero, List.set_cons_succ]
          refine take_put (i := 9) (d := 64) (v := ?_) rfl rfl (by kernel_rfl) (by kernel_rfl) (by kernel_rfl) (fun _ _ _ h => h) (Or.inl ⟨by kernel_rfl, ?_⟩) hHeld ?_
          rotate_left
          · (intro w hSw; (try dsimp only at hSw); go_simp; (try with_reducible rfl))
          simp only [Act.put, List.setIfInBounds_toArray, List.set_cons_zero, List.set_cons_succ]
          refine take_put (i := 10) (d := 65) (v := ?_) rfl rfl (by kernel_rfl) (by kernel_rfl) (by kernel_rfl) (fun _ _ _ h => h) (Or.inl ⟨by kernel_rfl, ?_⟩) hHeld ?_
          rotate_left
          · (intro w hSw; (try dsimp only at hSw); go_simp; (try with_reducible rfl))
          simp only [Act.put, List.setIfInBounds_toArray, List.set_cons_zero, List.set_cons_succ]
          refine take_put (i := 11) (d := 66) (v := ?_) rfl rfl (by kernel_rfl) (by kernel_rfl) (by kernel_rfl) (fun _ _ _ h => h) (Or.inl ⟨by kernel_rfl, ?_⟩) hHeld ?_
          rotate_left
          · (intro w hSw; (try dsimp only at hSw); go_simp; (try with_reducible rfl))
          simp only [Act.put, List.setIfInBounds_toArray, List.set_cons_zero, List.set_cons_succ]
          refine take_put (i := 12) (d := 67) (v := ?_) rfl rfl (by kernel_rfl) (by kernel_rfl) (by kernel_rfl) (fun _ _ _ h => h) (Or.inl ⟨by kernel_rfl, ?_⟩) hHeld ?_
          rotate_left
          · (intro w hSw; (try dsimp only at hSw); go_simp; (try with_reducible rfl))
          simp only [Act.put, List.setIfInBounds_toArray, List.set_cons_zero, List.set_cons_succ]
          refine take_put (i := 13) (d := 68) (v := ?_) rfl rfl (by kernel_rfl) (by kernel_rfl) (by kernel_rfl) (fun _ _ _ h => h) (Or.inl ⟨by kernel_rfl, ?_⟩) hHeld ?_
          rotate_left
          · (intro w hSw; (try dsimp only at hSw); go_simp; (try with_reducible rfl))
          simp only [Act.put, List.setIfInBounds_toArray, List.set_cons_zero, List.set_cons_succ]
          refine take_put (i := 14) (d := 69) (v := ?_) rfl rfl (by kernel_rfl) (by kernel_rfl) (by kernel_rfl) (fun _ _ _ h => h) (Or.inl ⟨by kernel_rfl, ?_⟩) hHeld ?_
          rotate_left
          · (intro w hSw; (try dsimp only at hSw); go_simp; (try with_reducible rfl))
          simp only [Act.put, List.setIfInBounds_toArray, List.set_cons_zero, List.set_cons_succ]
          refine take_put (i := 16) (d := 71) (v := ?_) rfl rfl (by kernel_rfl) (by kernel_rfl) (by kernel_rfl) (fun _ _ _ h => h) (Or.inl ⟨by kernel_rfl, ?_⟩) hHeld ?_
          rotate_left
          · (intro w hSw; (try dsimp only at hSw); go_simp; (try with_reducible rfl))
          simp only [Act.put, List.setIfInBounds_toArray, List.set_cons_zero, List.set_cons_succ]
          refine take_put (i := 17) (d := 72) (v := ?_) rfl rfl (by kernel_rfl) (by kernel_rfl) (by kernel_rfl) (fun _ _ _ h => h) (Or.inl ⟨by kernel_rfl, ?_⟩) hHeld ?_
          rotate_left
          · (intro w hSw; (try dsimp only at hSw); go_simp; (try with_reducible rfl))
          simp only [Act.put, List.setIfInBounds_toArray, List.set_cons_zero, List.set_cons_succ]
          refine take_put (i := 18) (d := 73) (v := ?_) rfl rfl (by kernel_rfl) (by kernel_rfl) (by kernel_rfl) (fun _ _ _ h => h) (Or.inl ⟨by kernel_rfl, ?_⟩) hHeld ?_
          rotate_left
          · (intro w hSw; (try dsimp only at hSw); go_simp; (try with_reducible rfl))
          simp only [Act.put, List.setIfInBounds_toArray, List.set_cons_zero, List.set_cons_succ]
          refine take_put (i := 19) (d := 74) (v := ?_) rfl rfl (by kernel_rfl) (by kernel_rfl) (by kernel_rfl) (fun _ _ _ h => h) (Or.inl ⟨by kernel_rfl, ?_⟩) hHeld ?_
          rotate_left
          · (intro w hSw; (try dsimp only at hSw); go_simp; (try with_reducible rfl))
          simp only [Act.put, List.setIfInBounds_toArray, List.set_cons_zero, List.set_cons_succ]
          refine take_put (i := 20) (d := 75) (v := ?_) rfl rfl (by kernel_rfl) (by kernel_rfl) (by kernel_rfl) (fun _ _ _ h => h) (Or.inl ⟨by kernel_rfl, ?_⟩) hHeld ?_
          rotate_left
          · (intro w hSw; (try dsimp only at hSw); go_simp; (try with_reducible rfl))
          simp only [Act.put, List.setIfInBounds_toArray, List.set_cons_zero, List.set_cons_succ]
          refine wpAnyH_ready (rs := [15]) (by kernel_rfl) (by simp) ?_
          refine AllReadyH.cons rfl (fun K hK => ?_) AllReadyH.nil
          rw [if_pos (by rfl)]
          go_simp
          refine HSM.out.mono ?_
          rintro e w9 ⟨rfl, hb9⟩
          have HB9 : Hid (Below w8.heap.size w8 w9) := HBD.out.trans (hb9.mono HBD.out.size)
          clear hb9
          go_simp
          refine hK.out _ _ (HKK.out _ HB9.out) (fun hHeld => ?_)
          clear hK K
          refine take_put (i := 21) (d := 76) (v := ?_) rfl rfl (by kernel_rfl) (by kernel_rfl) (by kernel_rfl) (fun _ _ _ h => h) (Or.inl ⟨by kernel_rfl, ?_⟩) hHeld ?_
          rotate_left
          · (intro w hSw; (try dsimp only at hSw); go_simp; (try with_reducible rfl))
          simp only [Act.put, List.setIfInBounds_toArray, List.set_cons_zero, List.set_cons_succ]
          refine take_put (i := 22) (d := 77) (v := ?_) rfl rfl (by kernel_rfl) (by kernel_rfl) (by kernel_rfl) (fun _ _ _ h => h) (Or.inl ⟨by kernel_rfl, ?_⟩) hHeld ?_
          rotate_left
          · (intro w hSw; (try dsimp only at hSw); go_simp; (try with_reducible rfl))
          simp only [Act.put, List.setIfInBounds_toArray, List.set_cons_zero, List.set_cons_succ]
          refine take_put (i := 23) (d := 78) (v := ?_) rfl rfl (by kernel_rfl) (by kernel_rfl) (by kernel_rfl) (fun _ _ _ h => h) (Or.inl ⟨by kernel_rfl, ?_⟩) hHeld ?_
          rotate_left
          · (intro w hSw; (try dsimp only at hSw); go_simp; (try with_reducible rfl))
          simp only [Act.put, List.setIfInBounds_toArray, List.set_cons_zero, List.set_cons_succ]
          refine take_put (i := 24) (d := 4) (v := ?_) rfl rfl (by kernel_rfl) (by kernel_rfl) (by kernel_rfl) (fun _ _ _ h => h) (Or.inl ⟨by kernel_rfl, ?_⟩) hHeld ?_
          rotate_left
          · (intro w hSw; (try dsimp only at hSw); go_simp; (try with_reducible rfl))
          simp only [Act.put, List.setIfInBounds_toArray, List.set_cons_zero, List.set_cons_succ]
          refine wpAnyH_done (by kernel_rfl) ?_ _
          go_wp2_with fail
          go_ret
          exact ⟨rfl, HBW9.out.trans (HB9.out.mono HBW9.out.size)⟩
        · have HSM := hid_in (same_no w8.drew _ _ _ _ (HN8.out.below HBD.out) (HZ8.out.below HBD.out) hEq)
          have hAB2 := toList_ne (fun h : SA = SB => hEq (HIFF.out.2 h))
          clear hEq HIFF HSAE HCA
          refine wp_region_held_drew (S := (fun W => ((convert 33 9 (.slice p8 bs.length c8)).run Try.prog W = .ok (.string SB) W ∧ (convert 33 9 (.slice p bs.length cap)).run Try.prog W = .ok (.string SB) W ∧ (convert 33 9 (.slice pu lu cu)).run Try.prog W = .ok (.string SA) W) ∧ (W.cell? ⟨w2.heap.size, 0, none⟩ = some (.int .i64 nk) ∧ W.cell? ⟨w2.heap.size, 1, none⟩ = some (.string nd) ∧ W.cell? ⟨w2.heap.size, 2, none⟩ = some (.int .i64 ns) ∧ W.cell? ⟨w2.heap.size, 3, none⟩ = some (.slice pp np.length cp) ∧ W.cell? ⟨w2.heap.size, 4, none⟩ = some (.slice pi ni.length ci)) ∧ (W.cell? ⟨w7.heap.size, 0, none⟩ = some (.int .i64 zk) ∧ W.cell? ⟨w7.heap.size, 1, none⟩ = some (.string zd) ∧ W.cell? ⟨w7.heap.size, 2, none⟩ = some (.int .i64 zs) ∧ W.cell? ⟨w7.heap.size, 3, none⟩ = some (.slice qp zp.length dp) ∧ W.cell? ⟨w7.heap.size, 4, none⟩ = some (.slice qi zi.length di)))) (by kernel_rfl) (HKK.out _ HBD.out) (fun hHeld => ?_)
          refine take_put (i := 0) (d := 55) (v := ?_) rfl rfl (by kernel_rfl) (by kernel_rfl) (by kernel_rfl) (fun _ _ _ h => h) (Or.inl ⟨by kernel_rfl, ?_⟩) hHeld ?_
          rotate_left
          · (intro w hSw; (try dsimp only at hSw); go_simp; (try with_reducible rfl))
          simp only [Act.put, List.setIfInBounds_toArray, List.set_cons_zero, List.set_cons_succ]
          refine take_put (i := 1) (d := 56) (v := ?_) rfl rfl (by kernel_rfl) (by kernel_rfl) (by kernel_rfl) (fun _ _ _ h => h) (Or.inl ⟨by kernel_rfl, ?_⟩) hHeld ?_
          rotate_left
          · (intro w hSw; (try dsimp only at hSw); go_simp; (try with_reducible rfl))
          simp only [Act.put, List.setIfInBounds_toArray, List.set_cons_zero, List.set_cons_succ]
          refine take_put (i := 2) (d := 57) (v := ?_) rfl rfl (by kernel_rfl) (by kernel_rfl) (by kernel_rfl) (fun _ _ _ h => h) (Or.inl ⟨by kernel_rfl, ?_⟩) hHeld ?_
          rotate_left
          · (intro w hSw; (try dsimp only at hSw); go_simp; (try with_reducible rfl))
          simp only [Act.put, List.setIfInBounds_toArray, List.set_cons_zero, List.set_cons_succ]
          refine take_put (i := 3) (d := 58) (v := ?_) rfl rfl (by kernel_rfl) (by kernel_rfl) (by kernel_rfl) (fun _ _ _ h => h) (Or.inl ⟨by kernel_rfl, ?_⟩) hHeld ?_
          rotate_left
          · (intro w hSw; (try dsimp only at hSw); go_simp; (try with_reducible rfl))
          simp only [Act.put, List.setIfInBounds_toArray, List.set_cons_zero, List.set_cons_succ]
          refine take_put (i := 4) (d := 59) (v := ?_) rfl rfl (by kernel_rfl) (by kernel_rfl) (by kernel_rfl) (fun _ _ _ h => h) (Or.inl ⟨by kernel_rfl, ?_⟩) hHeld ?_
          rotate_left
          · (intro w hSw; (try dsimp only at hSw); go_simp; (try with_reducible rfl))
          simp only [Act.put, List.setIfInBounds_toArray, List.set_cons_zero, List.set_cons_succ]
          refine take_put (i := 5) (d := 60) (v := ?_) rfl rfl (by kernel_rfl) (by kernel_rfl) (by kernel_rfl) (fun _ _ _ h => h) (Or.inl ⟨by kernel_rfl, ?_⟩) hHeld ?_
          rotate_left
          · (intro w hSw; (try dsimp only at hSw); go_simp; (try with_reducible rfl))
          simp only [Act.put, List.setIfInBounds_toArray, List.set_cons_zero, List.set_cons_succ]
          refine take_put (i := 6) (d := 61) (v := ?_) rfl rfl (by kernel_rfl) (by kernel_rfl) (by kernel_rfl) (fun _ _ _ h => h) (Or.inl ⟨by kernel_rfl, ?_⟩) hHeld ?_
          rotate_left
          · (intro w hSw; (try dsimp only at hSw); go_simp; (try with_reducible rfl))
          simp only [Act.put, List.setIfInBounds_toArray, List.set_cons_zero, List.set_cons_succ]
          refine take_put (i := 7) (d := 62) (v := ?_) rfl rfl (by kernel_rfl) (by kernel_rfl) (by kernel_rfl) (fun _ _ _ h => h) (Or.inl ⟨by kernel_rfl, ?_⟩) hHeld ?_
          rotate_left
          · (intro w hSw; (try dsimp only at hSw); go_simp; (try with_reducible rfl))
          simp only [Act.put, List.setIfInBounds_toArray, List.set_cons_zero, List.set_cons_succ]
          refine take_put (i := 8) (d := 63) (v := ?_) rfl rfl (by kernel_rfl) (by kernel_rfl) (by kernel_rfl) (fun _ _ _ h => h) (Or.inl ⟨by kernel_rfl, ?_⟩) hHeld ?_
          rotate_left
          · (intro w hSw; (try dsimp only at hSw); go_simp; (try with_reducible rfl))
          simp only [Act.put, List.setIfInBounds_toArray, List.set_cons_zero, List.set_cons_succ]
          refine take_put (i := 9) (d := 64) (v := ?_) rfl rfl (by kernel_rfl) (by kernel_rfl) (by kernel_rfl) (fun _ _ _ h => h) (Or.inl ⟨by kernel_rfl, ?_⟩) hHeld ?_
          rotate_left
          · (intro w hSw; (try dsimp only at hSw); go_simp; (try with_reducible rfl))
          simp only [Act.put, List.setIfInBounds_toArray, List.set_cons_zero, List.set_cons_succ]
          refine take_put (i := 10) (d := 65) (v := ?_) rfl rfl (by kernel_rfl) (by kernel_rfl) (by kernel_rfl) (fun _ _ _ h => h) (Or.inl ⟨by kernel_rfl, ?_⟩) hHeld ?_
          rotate_left
          · (intro w hSw; (try dsimp only at hSw); go_simp; (try with_reducible rfl))
          simp only [Act.put, List.setIfInBounds_toArray, List.set_cons_zero, List.set_cons_succ]
          refine take_put (i := 11) (d := 66) (v := ?_) rfl rfl (by kernel_rfl) (by kernel_rfl) (by kernel_rfl) (fun _ _ _ h => h) (Or.inl ⟨by kernel_rfl, ?_⟩) hHeld ?_
          rotate_left
          · (intro w hSw; (try dsimp only at hSw); go_simp; (try with_reducible rfl))
          simp only [Act.put, List.setIfInBounds_toArray, List.set_cons_zero, List.set_cons_succ]
          refine take_put (i := 12) (d := 67) (v := ?_) rfl rfl (by kernel_rfl) (by kernel_rfl) (by kernel_rfl) (fun _ _ _ h => h) (Or.inl ⟨by kernel_rfl, ?_⟩) hHeld ?_
          rotate_left
          · (intro w hSw; (try dsimp only at hSw); go_simp; (try with_reducible rfl))
          simp only [Act.put, List.setIfInBounds_toArray, List.set_cons_zero, List.set_cons_succ]
          refine take_put (i := 13) (d := 68) (v := ?_) rfl rfl (by kernel_rfl) (by kernel_rfl) (by kernel_rfl) (fun _ _ _ h => h) (Or.inl ⟨by kernel_rfl, ?_⟩) hHeld ?_
          rotate_left
          · (intro w hSw; (try dsimp only at hSw); go_simp; (try with_reducible rfl))
          simp only [Act.put, List.setIfInBounds_toArray, List.set_cons_zero, List.set_cons_succ]
          refine take_put (i := 14) (d := 69) (v := ?_) rfl rfl (by kernel_rfl) (by kernel_rfl) (by kernel_rfl) (fun _ _ _ h => h) (Or.inl ⟨by kernel_rfl, ?_⟩) hHeld ?_
          rotate_left
          · (intro w hSw; (try dsimp only at hSw); go_simp; (try with_reducible rfl))
          simp only [Act.put, List.setIfInBounds_toArray, List.set_cons_zero, List.set_cons_succ]
          refine take_put (i := 16) (d := 71) (v := ?_) rfl rfl (by kernel_rfl) (by kernel_rfl) (by kernel_rfl) (fun _ _ _ h => h) (Or.inl ⟨by kernel_rfl, ?_⟩) hHeld ?_
          rotate_left
          · (intro w hSw; (try dsimp only at hSw); go_simp; (try with_reducible rfl))
          simp only [Act.put, List.setIfInBounds_toArray, List.set_cons_zero, List.set_cons_succ]
          refine take_put (i := 17) (d := 72) (v := ?_) rfl rfl (by kernel_rfl) (by kernel_rfl) (by kernel_rfl) (fun _ _ _ h => h) (Or.inl ⟨by kernel_rfl, ?_⟩) hHeld ?_
          rotate_left
          · (intro w hSw; (try dsimp only at hSw); go_simp; (try with_reducible rfl))
          simp only [Act.put, List.setIfInBounds_toArray, List.set_cons_zero, List.set_cons_succ]
          refine take_put (i := 18) (d := 73) (v := ?_) rfl rfl (by kernel_rfl) (by kernel_rfl) (by kernel_rfl) (fun _ _ _ h => h) (Or.inl ⟨by kernel_rfl, ?_⟩) hHeld ?_
          rotate_left
          · (intro w hSw; (try dsimp only at hSw); go_simp; (try with_reducible rfl))
          simp only [Act.put, List.setIfInBounds_toArray, List.set_cons_zero, List.set_cons_succ]
          refine take_put (i := 19) (d := 74) (v := ?_) rfl rfl (by kernel_rfl) (by kernel_rfl) (by kernel_rfl) (fun _ _ _ h => h) (Or.inl ⟨by kernel_rfl, ?_⟩) hHeld ?_
          rotate_left
          · (intro w hSw; (try dsimp only at hSw); go_simp; (try with_reducible rfl))
          simp only [Act.put, List.setIfInBounds_toArray, List.set_cons_zero, List.set_cons_succ]
          refine take_put (i := 20) (d := 75) (v := ?_) rfl rfl (by kernel_rfl) (by kernel_rfl) (by kernel_rfl) (fun _ _ _ h => h) (Or.inl ⟨by kernel_rfl, ?_⟩) hHeld ?_
          rotate_left
          · (intro w hSw; (try dsimp only at hSw); go_simp; (try with_reducible rfl))
          simp only [Act.put, List.setIfInBounds_toArray, List.set_cons_zero, List.set_cons_succ]
          refine wpAnyH_ready (rs := [15]) (by kernel_rfl) (by simp) ?_
          refine AllReadyH.cons rfl (fun K hK => ?_) AllReadyH.nil
          rw [if_pos (by rfl)]
          go_simp
          refine HSM.out.mono ?_
          rintro e w9 ⟨rfl, hb9⟩
          have HB9 : Hid (Below w8.heap.size w8 w9) := HBD.out.trans (hb9.mono HBD.out.size)
          clear hb9
          go_simp
          refine hK.out _ _ (HKK.out _ HB9.out) (fun hHeld => ?_)
          clear hK K
          refine take_put (i := 21) (d := 76) (v := ?_) rfl rfl (by kernel_rfl) (by kernel_rfl) (by kernel_rfl) (fun _ _ _ h => h) (Or.inl ⟨by kernel_rfl, ?_⟩) hHeld ?_
          rotate_left
          · (intro w hSw; (try dsimp only at hSw); go_simp; (try with_reducible rfl))
          simp only [Act.put, List.setIfInBounds_toArray, List.set_cons_zero, List.set_cons_succ]
          refine take_put (i := 22) (d := 77) (v := ?_) rfl rfl (by kernel_rfl) (by kernel_rfl) (by kernel_rfl) (fun _ _ _ h => h) (Or.inl ⟨by kernel_rfl, ?_⟩) hHeld ?_
          rotate_left
          · (intro w hSw; (try dsimp only at hSw); go_simp; (try with_reducible rfl))
          simp only [Act.put, List.setIfInBounds_toArray, List.set_cons_zero, List.set_cons_succ]
          refine take_put (i := 23) (d := 78) (v := ?_) rfl rfl (by kernel_rfl) (by kernel_rfl) (by kernel_rfl) (fun _ _ _ h => h) (Or.inl ⟨by kernel_rfl, ?_⟩) hHeld ?_
          rotate_left
          · (intro w hSw; (try dsimp only at hSw); go_simp; (try with_reducible rfl))
          simp only [Act.put, List.setIfInBounds_toArray, List.set_cons_zero, List.set_cons_succ]
          refine take_put (i := 24) (d := 4) (v := ?_) rfl rfl (by kernel_rfl) (by kernel_rfl) (by kernel_rfl) (fun _ _ _ h => h) (Or.inl ⟨by kernel_rfl, ?_⟩) hHeld ?_
          rotate_left
          · (intro w hSw; (try dsimp only at hSw); go_simp; (try with_reducible rfl))
          simp only [Act.put, List.setIfInBounds_toArray, List.set_cons_zero, List.set_cons_succ]
          refine wpAnyH_done (by kernel_rfl) ?_ _
          go_wp2_with fail
          go_ret
          exact ⟨rfl, HBW9.out.trans (HB9.out.mono HBW9.out.size)⟩
      · clear HU HN4 HR4 HZ7 HR7
        refine wp_region_held_drew (S := (fun W => (convert 33 9 (.slice p8 bs.length c8)).run Try.prog W = .ok (.string SB) W ∧ (convert 33 9 (.slice p bs.length cap)).run Try.prog W = .ok (.string SB) W)) (by kernel_rfl) (HCC.out _ HBD.out) (fun hHeld => ?_)
        refine take_put (i := 0) (d := 55) (v := ?_) rfl rfl (by kernel_rfl) (by kernel_rfl) (by kernel_rfl) (fun _ _ _ h => h) (Or.inl ⟨by kernel_rfl, ?_⟩) hHeld ?_
        rotate_left
        · (intro w hSw; (try dsimp only at hSw); go_simp; (try with_reducible rfl))
        simp only [Act.put, List.setIfInBounds_toArray, List.set_cons_zero, List.set_cons_succ]
        refine take_put (i := 1) (d := 56) (v := ?_) rfl rfl (by kernel_rfl) (by kernel_rfl) (by kernel_rfl) (fun _ _ _ h => h) (Or.inl ⟨by kernel_rfl, ?_⟩) hHeld ?_
        rotate_left
        · (intro w hSw; (try dsimp only at hSw); go_simp; (try with_reducible rfl))
        simp only [Act.put, List.setIfInBounds_toArray, List.set_cons_zero, List.set_cons_succ]
        refine take_put (i := 2) (d := 57) (v := ?_) rfl rfl (by kernel_rfl) (by kernel_rfl) (by kernel_rfl) (fun _ _ _ h => h) (Or.inl ⟨by kernel_rfl, ?_⟩) hHeld ?_
        rotate_left
        · (intro w hSw; (try dsimp only at hSw); go_simp; (try with_reducible rfl))
        simp only [Act.put, List.setIfInBounds_toArray, List.set_cons_zero, List.set_cons_succ]
        refine take_put (i := 3) (d := 58) (v := ?_) rfl rfl (by kernel_rfl) (by kernel_rfl) (by kernel_rfl) (fun _ _ _ h => h) (Or.inl ⟨by kernel_rfl, ?_⟩) hHeld ?_
        rotate_left
        · (intro w hSw; (try dsimp only at hSw); go_simp; (try with_reducible rfl))
        simp only [Act.put, List.setIfInBounds_toArray, List.set_cons_zero, List.set_cons_succ]
        refine take_put (i := 4) (d := 59) (v := ?_) rfl rfl (by kernel_rfl) (by kernel_rfl) (by kernel_rfl) (fun _ _ _ h => h) (Or.inl ⟨by kernel_rfl, ?_⟩) hHeld ?_
        rotate_left
        · (intro w hSw; (try dsimp only at hSw); go_simp; (try with_reducible rfl))
        simp only [Act.put, List.setIfInBounds_toArray, List.set_cons_zero, List.set_cons_succ]
        refine take_put (i := 5) (d := 60) (v := ?_) rfl rfl (by kernel_rfl) (by kernel_rfl) (by kernel_rfl) (fun _ _ _ h => h) (Or.inl ⟨by kernel_rfl, ?_⟩) hHeld ?_
        rotate_left
        · (intro w hSw; (try dsimp only at hSw); go_simp; (try with_reducible rfl))
        simp only [Act.put, List.setIfInBounds_toArray, List.set_cons_zero, List.set_cons_succ]
        refine take_put (i := 6) (d := 61) (v := ?_) rfl rfl (by kernel_rfl) (by kernel_rfl) (by kernel_rfl) (fun _ _ _ h => h) (Or.inl ⟨by kernel_rfl, ?_⟩) hHeld ?_
        rotate_left
        · (intro w hSw; (try dsimp only at hSw); go_simp; (try with_reducible rfl))
        simp only [Act.put, List.setIfInBounds_toArray, List.set_cons_zero, List.set_cons_succ]
        refine take_put (i := 7) (d := 62) (v := ?_) rfl rfl (by kernel_rfl) (by kernel_rfl) (by kernel_rfl) (fun _ _ _ h => h) (Or.inl ⟨by kernel_rfl, ?_⟩) hHeld ?_
        rotate_left
        · (intro w hSw; (try dsimp only at hSw); go_simp; (try with_reducible rfl))
        simp only [Act.put, List.setIfInBounds_toArray, List.set_cons_zero, List.set_cons_succ]
        refine take_put (i := 8) (d := 63) (v := ?_) rfl rfl (by kernel_rfl) (by kernel_rfl) (by kernel_rfl) (fun _ _ _ h => h) (Or.inl ⟨by kernel_rfl, ?_⟩) hHeld ?_
        rotate_left
        · (intro w hSw; (try dsimp only at hSw); go_simp; (try with_reducible rfl))
        simp only [Act.put, List.setIfInBounds_toArray, List.set_cons_zero, List.set_cons_succ]
        refine take_put (i := 9) (d := 64) (v := ?_) rfl rfl (by kernel_rfl) (by kernel_rfl) (by kernel_rfl) (fun _ _ _ h => h) (Or.inl ⟨by kernel_rfl, ?_⟩) hHeld ?_
        rotate_left
        · (intro w hSw; (try dsimp only at hSw); go_simp; (try with_reducible rfl))
        simp only [Act.put, List.setIfInBounds_toArray, List.set_cons_zero, List.set_cons_succ]
        refine take_put (i := 10) (d := 65) (v := ?_) rfl rfl (by kernel_rfl) (by kernel_rfl) (by kernel_rfl) (fun _ _ _ h => h) (Or.inl ⟨by kernel_rfl, ?_⟩) hHeld ?_
        rotate_left
        · (intro w hSw; (try dsimp only at hSw); go_simp; (try with_reducible rfl))
        simp only [Act.put, List.setIfInBounds_toArray, List.set_cons_zero, List.set_cons_succ]
        refine take_put (i := 11) (d := 66) (v := ?_) rfl rfl (by kernel_rfl) (by kernel_rfl) (by kernel_rfl) (fun _ _ _ h => h) (Or.inl ⟨by kernel_rfl, ?_⟩) hHeld ?_
        rotate_left
        · (intro w hSw; (try dsimp only at hSw); go_simp; (try with_reducible rfl))
        simp only [Act.put, List.setIfInBounds_toArray, List.set_cons_zero, List.set_cons_succ]
        refine take_put (i := 12) (d := 67) (v := ?_) rfl rfl (by kernel_rfl) (by kernel_rfl) (by kernel_rfl) (fun _ _ _ h => h) (Or.inl ⟨by kernel_rfl, ?_⟩) hHeld ?_
        rotate_left
        · (intro w hSw; (try dsimp only at hSw); go_simp; (try with_reducible rfl))
        simp only [Act.put, List.setIfInBounds_toArray, List.set_cons_zero, List.set_cons_succ]
        refine take_put (i := 13) (d := 68) (v := undef) rfl rfl (by kernel_rfl) (by kernel_rfl) (by kernel_rfl) (fun _ _ _ h => h) (Or.inr ⟨by kernel_rfl, rfl⟩) hHeld ?_
        simp only [Act.put, List.setIfInBounds_toArray, List.set_cons_zero, List.set_cons_succ]
        refine take_put (i := 14) (d := 69) (v := undef) rfl rfl (by kernel_rfl) (by kernel_rfl) (by kernel_rfl) (fun _ _ _ h => h) (Or.inr ⟨by kernel_rfl, rfl⟩) hHeld ?_
        simp only [Act.put, List.setIfInBounds_toArray, List.set_cons_zero, List.set_cons_succ]
        refine take_put (i := 15) (d := 70) (v := undef) rfl rfl (by kernel_rfl) (by kernel_rfl) (by kernel_rfl) (fun _ _ _ h => h) (Or.inr ⟨by kernel_rfl, rfl⟩) hHeld ?_
        simp only [Act.put, List.setIfInBounds_toArray, List.set_cons_zero, List.set_cons_succ]
        refine take_put (i := 16) (d := 71) (v := undef) rfl rfl (by kernel_rfl) (by kernel_rfl) (by kernel_rfl) (fun _ _ _ h => h) (Or.inr ⟨by kernel_rfl, rfl⟩) hHeld ?_
        simp only [Act.put, List.setIfInBounds_toArray, List.set_cons_zero, List.set_cons_succ]
        refine take_put (i := 17) (d := 72) (v := undef) rfl rfl (by kernel_rfl) (by kernel_rfl) (by kernel_rfl) (fun _ _ _ h => h) (Or.inr ⟨by kernel_rfl, rfl⟩) hHeld ?_
        simp only [Act.put, List.setIfInBounds_toArray, List.set_cons_zero, List.set_cons_succ]
        refine take_put (i := 18) (d := 73) (v := undef) rfl rfl (by kernel_rfl) (by kernel_rfl) (by kernel_rfl) (fun _ _ _ h => h) (Or.inr ⟨by kernel_rfl, rfl⟩) hHeld ?_
        simp only [Act.put, List.setIfInBounds_toArray, List.set_cons_zero, List.set_cons_succ]
        refine take_put (i := 19) (d := 74) (v := undef) rfl rfl (by kernel_rfl) (by kernel_rfl) (by kernel_rfl) (fun _ _ _ h => h) (Or.inr ⟨by kernel_rfl, rfl⟩) hHeld ?_
        simp only [Act.put, List.setIfInBounds_toArray, List.set_cons_zero, List.set_cons_succ]
        refine take_put (i := 20) (d := 75) (v := undef) rfl rfl (by kernel_rfl) (by kernel_rfl) (by kernel_rfl) (fun _ _ _ h => h) (Or.inr ⟨by kernel_rfl, rfl⟩) hHeld ?_
        simp only [Act.put, List.setIfInBounds_toArray, List.set_cons_zero, List.set_cons_succ]
        refine take_put (i := 21) (d := 76) (v := undef) rfl rfl (by kernel_rfl) (by kernel_rfl) (by kernel_rfl) (fun _ _ _ h => h) (Or.inr ⟨by kernel_rfl, rfl⟩) hHeld ?_
        simp only [Act.put, List.setIfInBounds_toArray, List.set_cons_zero, List.set_cons_succ]
        refine take_put (i := 22) (d := 77) (v := ?_) rfl rfl (by kernel_rfl) (by kernel_rfl) (by kernel_rfl) (fun _ _ _ h => h) (Or.inl ⟨by kernel_rfl, ?_⟩) hHeld ?_
        rotate_left
        · (intro w hSw; (try dsimp only at hSw); go_simp; (try with_reducible rfl))
        simp only [Act.put, List.setIfInBounds_toArray, List.set_cons_zero, List.set_cons_succ]
        refine take_put (i := 23) (d := 78) (v := ?_) rfl rfl (by kernel_rfl) (by kernel_rfl) (by kernel_rfl) (fun _ _ _ h => h) (Or.inl ⟨by kernel_rfl, ?_⟩) hHeld ?_
        rotate_left
        · (intro w hSw; (try dsimp only at hSw); go_simp; (try with_reducible rfl))
        simp only [Act.put, List.setIfInBounds_toArray, List.set_cons_zero, List.set_cons_succ]
        refine take_put (i := 24) (d := 4) (v := ?_) rfl rfl (by kernel_rfl) (by kernel_rfl) (by kernel_rfl) (fun _ _ _ h => h) (Or.inl ⟨by kernel_rfl, ?_⟩) hHeld ?_
        rotate_left
        · (intro w hSw; (try dsimp only at hSw); go_simp; (try with_reducible rfl))
        simp only [Act.put, List.setIfInBounds_toArray, List.set_cons_zero, List.set_cons_succ]
        refine wpAnyH_done (by kernel_rfl) ?_ _
        go_wp2_with fail
        go_ret
        exact ⟨rfl, HBW9.out.trans (HBD.out.mono HBW9.out.size)⟩
    · go_wp2_with fail
      go_ret
      exact ⟨rfl, HBW8.out⟩
end Go.Proofs.Ytbccjomnfclkdaa
