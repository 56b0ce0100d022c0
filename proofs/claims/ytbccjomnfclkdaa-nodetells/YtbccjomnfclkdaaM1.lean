/-
  The walk of NodeTells.
-/
import Derived.Test.YtbccjomnfclkdaaM0
namespace Go.Proofs.Ytbccjomnfclkdaa
open Go.RowKit
theorem getD_lt {l : List Nat} {m : Nat} (h : ∀ x ∈ l, x < m) (j : Nat) (hm : 0 < m) : l.getD j 0 < m := by
  by_cases hj : j < l.length
  · simp only [List.getD_eq_getElem?_getD, List.getElem?_eq_getElem hj, Option.getD_some]; exact h _ (List.getElem_mem hj)
  · simp only [List.getD_eq_getElem?_getD, List.getElem?_eq_none (Nat.le_of_not_lt hj), Option.getD_none]; exact hm
theorem xor_ne (x y : Nat) (hy : y ≠ 0) : x ^^^ y ≠ x := by
  intro h
  have h' : x ^^^ (x ^^^ y) = x ^^^ x := by rw [h]
  rw [← Nat.xor_assoc, Nat.xor_self, Nat.zero_xor] at h'
  exact hy h'
theorem set_lt {l : List Nat} {j c : Nat} (h : ∀ x ∈ l, x < 256) (hc : c < 256) : ∀ x ∈ l.set j c, x < 256 := by
  intro x hx
  rcases List.mem_or_eq_of_mem_set hx with hx | rfl
  · exact h x hx
  · exact hc
theorem set_ne {l : List Nat} {j c : Nat} (hj : j < l.length) (hc : c ≠ l.getD j 0) : l.set j c ≠ l := by
  intro h
  apply hc
  have h2 : (l.set j c)[j]? = l[j]? := by rw [h]
  rw [List.getElem?_set_self hj] at h2
  simp [List.getD, ← h2]
theorem umod (at_ : Int) (n : Nat) (hn : 0 < n) : ∃ k : Nat, (IntKind.u64.wrap at_).tmod (n : Int) = (k : Int) ∧ k < n := by
  have h0 : 0 ≤ IntKind.u64.wrap at_ := by rw [IntKind.wrap_u64]; omega
  have h1 : 0 ≤ (IntKind.u64.wrap at_).tmod (n : Int) := Int.tmod_nonneg _ h0
  have h2 : (IntKind.u64.wrap at_).tmod (n : Int) < (n : Int) := Int.tmod_lt_of_pos _ (by omega)
  exact ⟨((IntKind.u64.wrap at_).tmod (n : Int)).toNat, by omega, by omega⟩
set_option maxHeartbeats 4000000 in
set_option maxRecDepth 100000 in
theorem ntells_any (w : World) (k s : Int) (d : ByteArray) (pP : Option Addr) (lP cP : Nat) (pN : Option Addr) (lN cN : Nat) (pK : Option Addr) (lK cK : Nat) (pS : Option Addr) (lS cS : Nat) (n : Nd) (hsh : n.short) (at_ : Int) (t : Nat) (ht : t < 256)
    (hC : NodeC w (.agg #[.int .i64 k, .string d, .int .i64 s, .slice pP lP cP, .slice pN lN cN, .slice pK lK cK, .slice pS lS cS]) n) :
    Calls Try.prog 7 #[.agg #[.int .i64 k, .string d, .int .i64 s, .slice pP lP cP, .slice pN lN cN, .slice pK lK cK, .slice pS lS cS], .int .i64 at_, .int .u8 (t : Int)] w fun e w' => e = .returned (.bool true) ∧ Below w.heap.size w w' := by
  have HC := hid_in hC
  have HSH := hid_in hsh
  clear hC hsh
  go_enter Try.func7, Try.ntmps7
  go_upto_region 1 with fail
  obtain ⟨W0, HW0, HR0, HB0, HS0⟩ := raw_row w k s d (.slice pP lP cP) (.slice pN lN cN) (.slice pK lK cK) (.slice pS lS cS)
  refine wp_world HW0.out ?_
  clear HW0
  go_upto_region 3 with (first | (go_at_call 9; refine (awake_any W0).mono ?_; rintro e w1 ⟨rfl, hb1⟩; have HB1 := hid_in hb1; clear hb1))
  have hr1 := HR0.out.below HB1.out HR0.out.lt
  have HBW1 : Hid (Below w.heap.size w w1) := HB0.out.trans (HB1.out.mono HB0.out.size)
  have r0 : w1.cell? ⟨w.heap.size, 0, none⟩ = some (.int .i64 k) := hr1.cell 0
  have r1 : w1.cell? ⟨w.heap.size, 1, none⟩ = some (.string d) := hr1.cell 1
  have r2 : w1.cell? ⟨w.heap.size, 2, none⟩ = some (.int .i64 s) := hr1.cell 2
  have r3 : w1.cell? ⟨w.heap.size, 3, none⟩ = some (.slice pP lP cP) := hr1.cell 3
  have r4 : w1.cell? ⟨w.heap.size, 4, none⟩ = some (.slice pN lN cN) := hr1.cell 4
  have r5 : w1.cell? ⟨w.heap.size, 5, none⟩ = some (.slice pK lK cK) := hr1.cell 5
  have r6 : w1.cell? ⟨w.heap.size, 6, none⟩ = some (.slice pS lS cS) := hr1.cell 6
  clear hr1
  obtain ⟨nk, nd, ns, np, ni⟩ := n
  have HC1 := hid_in (HC.out w1 HBW1.out)
  clear HC
  simp only at HC1
  go_upto_region 4 with (first | (go_at_call 10; refine HC1.out.mono ?_; rintro e w2 ⟨⟨pp, cp, pi, ci, rfl, hn2, _⟩, hb2⟩; have HN2 := hid_in hn2; have HB2 := hid_in (HBW1.out.trans (hb2.mono HBW1.out.size)); clear hn2 hb2))
  obtain ⟨W2, HW2, HR2, HBW2, HS2⟩ := node_row w2 nk ns nd (.slice pp np.length cp) (.slice pi ni.length ci)
  refine wp_world HW2.out ?_
  clear HW2
  have HB3 : Hid (Below w.heap.size w W2) := HB2.out.trans (HBW2.out.mono HB2.out.size)
  have a0 : W2.cell? ⟨w2.heap.size, 0, none⟩ = some (.int .i64 nk) := HR2.out.cell 0
  have a1 : W2.cell? ⟨w2.heap.size, 1, none⟩ = some (.string nd) := HR2.out.cell 1
  have a2 : W2.cell? ⟨w2.heap.size, 2, none⟩ = some (.int .i64 ns) := HR2.out.cell 2
  have a3 : W2.cell? ⟨w2.heap.size, 3, none⟩ = some (.slice pp np.length cp) := HR2.out.cell 3
  have a4 : W2.cell? ⟨w2.heap.size, 4, none⟩ = some (.slice pi ni.length ci) := HR2.out.cell 4
  have HN3 := hid_in (HN2.out.below HBW2.out)
  have HE := hid_in (encode_any W2 _ _ HN3.out HSH.out)
  clear r0 r1 r2 r3 r4 r5 r6 HC1 HN2
  go_upto_region 5 with (first | (go_at_call 11; refine HE.out.mono ?_; rintro e w4 ⟨⟨u, ke, rfl, hu⟩, hb4⟩; have HB4 := hid_in hb4; have HU := hid_in hu; clear hb4 hu))
  have HB5 : Hid (Below w.heap.size w w4) := HB3.out.trans (HB4.out.mono HB3.out.size)
  clear a0 a1 a2 a3 a4 HE
  rcases HU.out with ⟨rfl, hrt, hown⟩ | ⟨rfl, _, rfl⟩
  · have HRT := hid_in hrt
    have HOK := hid_in HN3.out.ok
    have hlt := enc_lt hrt HN3.out.ok
    have hpos := enc_pos hrt
    have hlen := enc_len hrt HN3.out.ok
    obtain ⟨F, HF⟩ : ∃ F, Hid (F = enc ⟨nk, nd, ns, np, ni⟩) := ⟨_, rfl⟩
    rw [← HF.out] at hown hlt hpos hlen
    obtain ⟨g, cg, vs, rfl, hgB, hglt, hrg, hn1, hn2, hvl, hvt⟩ := own_row hown hpos
    have hge : w.heap.size ≤ g := Nat.le_trans HB3.out.size hgB
    have hgne : w2.heap.size < g := by have := HS2.out; omega
    clear hown HU hrt
    by_cases h0 : t = 0
    · subst h0
      clear hrg hvt
      go_wp2
      go_ret
      exact ⟨rfl, HB5.out⟩
    · have k0 : ¬ ((t : Int) = 0) := by omega
      obtain ⟨m, hm⟩ : ∃ m, m = F.length := ⟨_, rfl⟩
      rw [← hm] at hn1 hvt ⊢
      have HM := hid_in hm
      have kn1 : (1 : Int) ≤ (m : Int) := by omega
      have kn2 : (m : Int) ≤ 4096 := by omega
      clear hm
      obtain ⟨j, hj, hjm⟩ := umod at_ m (by omega)
      have kk : (j : Int) < (m : Int) := by omega
      have hFl : F.length = m := HM.out.symm
      have c1 : w4.cell? ⟨g, j, none⟩ = some (.int .u8 ((F.getD j 0 : Nat) : Int)) := by
        rw [hrg.cell, ← List.getElem?_take_of_lt hjm, hvt]
        simp [show j < F.length by omega, u8v]
      have f1 := hrg.frozen j
      have hx := getD_lt hlt j (by decide)
      have HNE := hid_in (xor_ne (F.getD j 0) t h0)
      have hxor := u8_xor_nat (F.getD j 0) t hx ht
      have hc : F.getD j 0 ^^^ t < 256 := Nat.xor_lt_two_pow (n := 8) hx ht
      obtain ⟨x, HXE⟩ : ∃ x, Hid (F.getD j 0 = x) := ⟨_, rfl⟩
      rw [HXE.out] at c1 hxor hc HNE
      obtain ⟨c, HCC⟩ : ∃ c, Hid (x ^^^ t = c) := ⟨_, rfl⟩
      rw [HCC.out] at hxor hc HNE
      have hr3 := hrg.set_same j (.int .u8 (c : Int))
      have ht3 : (vs.set j (.int .u8 (c : Int))).take m = (F.set j c).map u8v := by
        rw [List.take_set, hvt, List.map_set]; rfl
      have hl3 : (F.set j c).length = m := by rw [List.length_set]; exact hFl
      have hsl3 := row_sl (cap := cg) hr3 ht3 (by omega) (set_lt hlt hc) (by omega) hn2
      have HSN := hid_in (set_ne (l := F) (j := j) (c := c) (by omega) (by rw [HXE.out]; exact HNE.out))
      have HB6 : Hid (Below w.heap.size w (w4.setCell ⟨g, j, none⟩ (.int .u8 (c : Int)))) := HB5.out.setCell hge _
      have HB46 : Hid (Below W2.heap.size W2 (w4.setCell ⟨g, j, none⟩ (.int .u8 (c : Int)))) := HB4.out.setCell hgB _
      have HD := dec_c _ _ _ _ _ _ hsl3 (fun h => by cases h) (by omega)
      rw [hl3] at HD
      have HDD := hid_in HD
      obtain ⟨W6, HW6⟩ : ∃ W6, Hid (w4.setCell ⟨g, j, none⟩ (.int .u8 (c : Int)) = W6) := ⟨_, rfl⟩
      clear HD hsl3 hr3 hl3 hrg hvt ht3 hlt hFl hge hgne hglt hgB hvl
      go_upto_region 8 with fail
      refine wp_world HW6.out ?_
      rw [HW6.out] at HDD HB46 HB6
      clear c1 f1 HW6 hxor hj
      have HR6 := hid_in (HR2.out.below HB46.out HR2.out.lt)
      have HN6 := hid_in (HN3.out.below HB46.out)
      clear HR2 HN3 HB46
      go_upto_region 9 with (first | (go_at_call 15; refine HDD.out.mono ?_; rintro e w7 ⟨⟨z, k7, qp, dp, qi, di, rfl, hz, _, hd7⟩, hb7⟩; have HZ := hid_in hz; have HD7 := hid_in hd7; have HB7 := hid_in hb7; clear hz hd7 hb7))
      obtain ⟨W8, HW8, HR8, HBW8, HS8⟩ := node_row w7 z.kind z.size z.data (.slice qp z.parts.length dp) (.slice qi z.items.length di)
      refine wp_world HW8.out ?_
      clear HW8
      have HB68 : Hid (Below W6.heap.size W6 W8) := HB7.out.trans (HBW8.out.mono HB7.out.size)
      have hr8 := HR6.out.below HB68.out HR6.out.lt
      have a0 : W8.cell? ⟨w2.heap.size, 0, none⟩ = some (.int .i64 nk) := hr8.cell 0
      have a1 : W8.cell? ⟨w2.heap.size, 1, none⟩ = some (.string nd) := hr8.cell 1
      have a2 : W8.cell? ⟨w2.heap.size, 2, none⟩ = some (.int .i64 ns) := hr8.cell 2
      have a3 : W8.cell? ⟨w2.heap.size, 3, none⟩ = some (.slice pp np.length cp) := hr8.cell 3
      have a4 : W8.cell? ⟨w2.heap.size, 4, none⟩ = some (.slice pi ni.length ci) := hr8.cell 4
      have b0 : W8.cell? ⟨w7.heap.size, 0, none⟩ = some (.int .i64 z.kind) := HR8.out.cell 0
      have b1 : W8.cell? ⟨w7.heap.size, 1, none⟩ = some (.string z.data) := HR8.out.cell 1
      have b2 : W8.cell? ⟨w7.heap.size, 2, none⟩ = some (.int .i64 z.size) := HR8.out.cell 2
      have b3 : W8.cell? ⟨w7.heap.size, 3, none⟩ = some (.slice qp z.parts.length dp) := HR8.out.cell 3
      have b4 : W8.cell? ⟨w7.heap.size, 4, none⟩ = some (.slice qi z.items.length di) := HR8.out.cell 4
      have HB8 : Hid (Below w.heap.size w W8) := HB6.out.trans (HB68.out.mono HB6.out.size)
      rcases HD7.out with ⟨rfl, hme⟩ | ⟨rfl, rfl, _⟩
      · have HSM := hid_in (same_no W8 _ _ _ _ (HN6.out.below HB68.out) (HZ.out.below HBW8.out) (by
          intro h
          apply HSN.out
          rw [← hme.2.2, ← h]
          exact HF.out.symm))
        clear hme HZ hr8 HR8 HR6 HN6 HB68 HD7
        obtain ⟨zk, zd, zs, zp, zi⟩ := z
        go_wp2_with (first | (go_at_call 17; refine HSM.out.mono ?_; rintro e w9 ⟨rfl, hb9⟩; have HB9 := hid_in (HB8.out.trans (hb9.mono HB8.out.size)); clear hb9))
        go_ret
        exact ⟨rfl, HB9.out⟩
      · clear HZ hr8 HR8 HR6 HN6 HB68 HD7 a0 a1 a2 a3 a4 b1 b2 b3 b4
        have b0' : W8.cell? ⟨w7.heap.size, 0, none⟩ = some (.int .i64 0) := b0
        clear b0
        go_wp2_with fail
        go_ret
        exact ⟨rfl, HB8.out⟩
  · go_wp2_with fail
    go_ret
    exact ⟨rfl, HB5.out⟩
end Go.Proofs.Ytbccjomnfclkdaa
