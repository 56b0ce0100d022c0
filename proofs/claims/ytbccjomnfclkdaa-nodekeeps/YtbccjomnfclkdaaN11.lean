/-
  The walk of node.Encode.
-/
import Derived.Test.YtbccjomnfclkdaaN10
namespace Go.Proofs.Ytbccjomnfclkdaa
open Go.RowKit
theorem Els.keep {w w' : World} {v : Value} {k B : Nat} {xs : List (List Value)} (h : Els w v k xs) (hb : Below B w w') (hB : w.heap.size ≤ B) : Els w' v k xs := h.below (hb.mono hB)
theorem enc_1 {n : Nd} (h : n.kind = 1) : enc n = Wire.num 1 ++ (Wire.num n.data.size ++ bytesS n.data) := by simp [enc, h]
theorem enc_2 {n : Nd} (h : n.kind = 2) : enc n = Wire.num 2 ++ Wire.num n.size.toNat ++ n.parts.flatten := by simp [enc, h]
theorem enc_3 {n : Nd} (h : n.kind = 3) : enc n = Wire.num 3 ++ Wire.num n.items.length ++ n.items.flatMap It.bytes := by simp [enc, h]
theorem itemsOk_kind {l : List It} (h : itemsOk l) : ∀ x ∈ l, 0 ≤ x.kind ∧ x.name.size ≤ 16 := by
  intro x hx
  obtain ⟨i, hi, rfl⟩ := List.getElem_of_mem hx
  have h1 := (h.2 i hi _ (List.getElem?_eq_getElem hi)).1
  unfold itemOk at h1
  simp only [Bool.and_eq_true, Bool.or_eq_true, beq_iff_eq] at h1
  obtain ⟨h2, h3⟩ := h1
  unfold isNameS at h3
  simp only [Bool.and_eq_true, decide_eq_true_eq] at h3
  have h4 := h3.1.2
  rw [bl_length] at h4
  exact ⟨by rcases h2 with h | h <;> omega, h4⟩
set_option maxHeartbeats 2000000 in
set_option maxRecDepth 100000 in
theorem encode_any (w : World) (v : Value) (n : Nd) (h : IsN w v n) (hs : n.short) :
    Calls Try.prog 11 #[v] w fun e w' => (∃ u k, e = .returned (.tuple #[u, .int .i64 k]) ∧ ((k = 0 ∧ right n ∧ w'.ownsRow w.heap.size 5 1 u (enc n).length ((enc n).map u8v)) ∨ (k = 21 ∧ ¬ right n ∧ u = .slice none 0 0))) ∧ Below w.heap.size w w' := by
  obtain ⟨vp, vi, hv, hp, hi⟩ := h.ex
  obtain ⟨pp, cp, pi, ci, hform⟩ := h.form
  rw [hv] at hform
  simp only [Value.agg.injEq, Array.mk.injEq, List.cons.injEq, and_true, true_and] at hform
  obtain ⟨rfl, rfl⟩ := hform
  have HC := hid_in (fun W (hW : Below w.heap.size w W) => check_any W v n (h.below hW) hs)
  rw [hv] at HC ⊢
  obtain ⟨W0, H0, HR0, HB0, HZ0⟩ := node_row w n.kind n.size n.data (.slice pp n.parts.length cp) (.slice pi n.items.length ci)
  have HP := hid_in hp
  have HI := hid_in hi
  have HOK := hid_in h.ok
  have HSH := hid_in hs
  clear h hv hp hi hs
  have c0 : W0.cell? ⟨w.heap.size, 0, none⟩ = some (.int .i64 n.kind) := HR0.out.cell 0
  have c1 : W0.cell? ⟨w.heap.size, 1, none⟩ = some (.string n.data) := HR0.out.cell 1
  have c2 : W0.cell? ⟨w.heap.size, 2, none⟩ = some (.int .i64 n.size) := HR0.out.cell 2
  have c3 : W0.cell? ⟨w.heap.size, 3, none⟩ = some (.slice pp n.parts.length cp) := HR0.out.cell 3
  have c4 : W0.cell? ⟨w.heap.size, 4, none⟩ = some (.slice pi n.items.length ci) := HR0.out.cell 4
  have HCK := hid_in (HC.out W0 HB0.out)
  clear HC
  go_enter Try.func11, Try.ntmps11
  go_upto_region 1 with fail
  refine wp_world H0.out ?_
  clear H0
  go_upto_region 5 with (first | (go_at_call 13; refine HCK.out.mono ?_; rintro e w1 ⟨⟨r, rfl, hr⟩, hb1⟩; have HR1 := hid_in (HR0.out.below hb1 HR0.out.lt); have HB1 := hid_in (HB0.out.trans (hb1.mono HB0.out.size)); clear hb1 c0 c1 c2 c3 c4; rcases hr with ⟨rfl, hP⟩ | ⟨rfl, hP⟩; all_goals (have HPP := hid_in hP; clear hP)))
  · have HSZ : Hid (w.heap.size < w1.heap.size) := HR1.out.lt
    obtain ⟨W2, HW2⟩ : ∃ W2, Hid (w1.alloc (.cells #[.slice none 0 0] 62) = W2) := ⟨_, rfl⟩
    have HO2 : Hid (OutB W2 w1.heap.size w1.heap.size []) := ⟨.slice none 0 0, by rw [← HW2.out]; exact out_new w1⟩
    have HBB : Hid (Below w1.heap.size w1 W2) := by show Below _ _ _; rw [← HW2.out]; exact (Below.refl _ _).alloc (Nat.le_refl _) _
    refine wp_world HW2.out ?_
    clear HW2
    generalize w1.heap.size = B at *
    have HBE : Hid (∀ W, Below B w1 W → Row W w.heap.size [.int .i64 n.kind, .string n.data, .int .i64 n.size, .slice pp n.parts.length cp, .slice pi n.items.length ci] 31) := fun W hW => HR1.out.below hW HSZ.out
    have HBF : Hid (∀ W W', Below B w1 W → Below W.heap.size W W' → Below w.heap.size w W') := fun W W' h1 h2 => by
      have h3 : Below w.heap.size w W := HB1.out.trans (h1.mono (Nat.le_of_lt HSZ.out))
      exact h3.trans (h2.mono h3.size)
    have hr2 := HBE.out W2 HBB.out
    have c0 : W2.cell? ⟨w.heap.size, 0, none⟩ = some (.int .i64 n.kind) := hr2.cell 0
    clear hr2
    rcases HPP.out with ⟨hk, hd1, hd2, hs0, hp0, hi0⟩ | ⟨hk, hd0, hs0, hs1, hp0, hi0⟩ | ⟨hk, hd0, hs0, hp0, hi0⟩
    · have HK := hid_in hk
      rw [hk] at c0 HBE
      have HEN : Hid (enc n = ([] ++ Wire.num 1) ++ (Wire.num n.data.size ++ bytesS n.data)) := enc_1 HK.out
      have HLEN : Hid ((([] ++ Wire.num 1) ++ (Wire.num n.data.size ++ bytesS n.data)).length ≤ 140737488355328) := by
        have h1 := num_length 1
        have h2 := num_length n.data.size
        show _ ≤ _
        simp only [List.length_append, List.length_nil, bytesS_length]
        omega
      have HL1 : Hid (([] ++ Wire.num 1 : List Nat).length + 10 + n.data.size ≤ 140737488355328) := by
        have h1 := num_length 1
        show _ ≤ _
        simp only [List.length_append, List.length_nil]
        omega
      clear hk hd1 hd2 hs0 hp0 hi0
      go_wp2_with (first | (go_at_call 23; refine (num_o _ B B [] 1 (by decide) (Nat.le_refl _) HO2.out (by decide)).mono ?_; rintro e w3 ⟨rfl, h1, h2⟩; have HO3 := hid_in h1; have HB3 := hid_in (HBB.out.trans h2); clear h1 h2 c0 HO2; have hr3 := HBE.out w3 HB3.out; have c0 : w3.cell? ⟨w.heap.size, 0, none⟩ = some (.int .i64 1) := hr3.cell 0; have c1 : w3.cell? ⟨w.heap.size, 1, none⟩ = some (.string n.data) := hr3.cell 1; have c2 : w3.cell? ⟨w.heap.size, 2, none⟩ = some (.int .i64 n.size) := hr3.cell 2; have c3 : w3.cell? ⟨w.heap.size, 3, none⟩ = some (.slice pp n.parts.length cp) := hr3.cell 3; have c4 : w3.cell? ⟨w.heap.size, 4, none⟩ = some (.slice pi n.items.length ci) := hr3.cell 4; clear hr3) | (go_at_call 24; refine (text_o _ B B _ n.data (Nat.le_refl _) HO3.out HL1.out).mono ?_; rintro e w4 ⟨rfl, h1, h2⟩; have HO4 := hid_in h1; have HB4 := hid_in (HB3.out.trans h2); clear h1 h2) | (go_at_call 27; obtain ⟨v9, hv9⟩ := HO4.out; refine (obytes_any w4 B B v9 _ hv9 HLEN.out).mono ?_; rintro e w9 ⟨u9, rfl, h1, h2⟩; have HW9 := hid_in h1; have HB9 := hid_in h2; have HE9 := hid_in HB4.out; clear h1 h2 hv9))
      go_ret2
      refine ⟨⟨_, 0, rfl, .inl ⟨rfl, HPP.out, ?_⟩⟩, HBF.out _ _ HE9.out HB9.out⟩
      have h9 := own_mono HW9.out (Nat.le_trans HB1.out.size (Nat.le_trans HE9.out.size (Nat.le_refl _)))
      rw [HEN.out]
      exact h9
    · have HK := hid_in hk
      rw [hk] at c0 HBE
      have HEN : Hid (enc n = ([] ++ Wire.num 2) ++ Wire.num n.size.toNat ++ n.parts.flatten) := enc_2 HK.out
      have HNP : Hid (n.parts.length ≤ 1000) := by show _ ≤ _; rw [hp0]; unfold pieces; omega
      have HX1 : Hid ((([] ++ Wire.num 2) ++ Wire.num n.size.toNat).length ≤ 1000) := by
        have h1 := num_length 2
        have h2 := num_length n.size.toNat
        show _ ≤ _
        simp only [List.length_append, List.length_nil]
        omega
      have HLEN : Hid ((([] ++ Wire.num 2) ++ Wire.num n.size.toNat ++ n.parts.flatten).length ≤ 140737488355328) := by
        show _ ≤ _
        rw [List.length_append, flatten_len HOK.out.parts]
        have := HX1.out
        have := HNP.out
        omega
      have HL1 : Hid (([] ++ Wire.num 2 : List Nat).length + 10 ≤ 140737488355328) := by
        have h1 := num_length 2
        show _ ≤ _
        simp only [List.length_append, List.length_nil]
        omega
      have hkk : ((n.size.toNat : Nat) : Int) = n.size := by omega
      have hwk : IntKind.u64.wrap n.size = n.size := by rw [IntKind.wrap_u64]; omega
      have HNU := hid_in (fun W (h : OutB W B B ([] ++ Wire.num 2)) => num_o W B B _ n.size.toNat (by omega) (Nat.le_refl _) h HL1.out)
      rw [hkk] at HNU
      have HVP := hid_in (fun hne q hq => Nat.lt_trans (HP.out.own hne q hq) HSZ.out)
      have HPW := hid_in (fun W (hW : Below B w1 W) (h : OutB W B B (([] ++ Wire.num 2) ++ Wire.num n.size.toNat)) => writeParts_any W B B _ n.parts _ (Nat.le_refl _) h (HP.out.keep (HB1.out.trans (hW.mono (Nat.le_of_lt HSZ.out))) (Nat.le_refl _)) HVP.out HOK.out.parts HNP.out HX1.out)
      clear hk hs0 hs1 hp0 hi0 hkk
      go_wp2_with (first | (go_at_call 23; refine (num_o _ B B [] 2 (by decide) (Nat.le_refl _) HO2.out (by decide)).mono ?_; rintro e w3 ⟨rfl, h1, h2⟩; have HO3 := hid_in h1; have HB3 := hid_in (HBB.out.trans h2); clear h1 h2 c0 HO2; have hr3 := HBE.out w3 HB3.out; have c0 : w3.cell? ⟨w.heap.size, 0, none⟩ = some (.int .i64 2) := hr3.cell 0; have c1 : w3.cell? ⟨w.heap.size, 1, none⟩ = some (.string n.data) := hr3.cell 1; have c2 : w3.cell? ⟨w.heap.size, 2, none⟩ = some (.int .i64 n.size) := hr3.cell 2; have c3 : w3.cell? ⟨w.heap.size, 3, none⟩ = some (.slice pp n.parts.length cp) := hr3.cell 3; have c4 : w3.cell? ⟨w.heap.size, 4, none⟩ = some (.slice pi n.items.length ci) := hr3.cell 4; clear hr3) | (go_at_call 23; refine (HNU.out _ HO3.out).mono ?_; rintro e w4 ⟨rfl, h1, h2⟩; have HO4 := hid_in h1; have HB4 := hid_in (HB3.out.trans h2); clear h1 h2 c0 c1 c2 c3 c4; have hr3 := HBE.out w4 HB4.out; have c0 : w4.cell? ⟨w.heap.size, 0, none⟩ = some (.int .i64 2) := hr3.cell 0; have c1 : w4.cell? ⟨w.heap.size, 1, none⟩ = some (.string n.data) := hr3.cell 1; have c2 : w4.cell? ⟨w.heap.size, 2, none⟩ = some (.int .i64 n.size) := hr3.cell 2; have c3 : w4.cell? ⟨w.heap.size, 3, none⟩ = some (.slice pp n.parts.length cp) := hr3.cell 3; have c4 : w4.cell? ⟨w.heap.size, 4, none⟩ = some (.slice pi n.items.length ci) := hr3.cell 4; clear hr3) | (go_at_call 25; refine (HPW.out _ HB4.out HO4.out).mono ?_; rintro e w5 ⟨rfl, h1, h2⟩; have HO5 := hid_in h1; have HB5 := hid_in (HB4.out.trans h2); clear h1 h2) | (go_at_call 27; obtain ⟨v9, hv9⟩ := HO5.out; refine (obytes_any w5 B B v9 _ hv9 HLEN.out).mono ?_; rintro e w9 ⟨u9, rfl, h1, h2⟩; have HW9 := hid_in h1; have HB9 := hid_in h2; have HE9 := hid_in HB5.out; clear h1 h2 hv9))
      go_ret2
      refine ⟨⟨_, 0, rfl, .inl ⟨rfl, HPP.out, ?_⟩⟩, HBF.out _ _ HE9.out HB9.out⟩
      have h9 := own_mono HW9.out (Nat.le_trans HB1.out.size (Nat.le_trans HE9.out.size (Nat.le_refl _)))
      rw [HEN.out]
      exact h9
    · have HK := hid_in hk
      rw [hk] at c0 HBE
      have HEN : Hid (enc n = ([] ++ Wire.num 3) ++ Wire.num n.items.length ++ n.items.flatMap It.bytes) := enc_3 HK.out
      have HNP : Hid (n.items.length ≤ 64) := hi0.1
      have HKI := hid_in (itemsOk_kind hi0)
      have HX1 : Hid ((([] ++ Wire.num 3) ++ Wire.num n.items.length).length ≤ 1000) := by
        have h1 := num_length 3
        have h2 := num_length n.items.length
        show _ ≤ _
        simp only [List.length_append, List.length_nil]
        omega
      have HLEN : Hid ((([] ++ Wire.num 3) ++ Wire.num n.items.length ++ n.items.flatMap It.bytes).length ≤ 140737488355328) := by
        show _ ≤ _
        rw [List.length_append]
        have h1 := items_len n.items HOK.out.items 16 (fun x hx => (HKI.out x hx).2)
        have := HX1.out
        have := HNP.out
        omega
      have HL1 : Hid (([] ++ Wire.num 3 : List Nat).length + 10 ≤ 140737488355328) := by
        have h1 := num_length 3
        show _ ≤ _
        simp only [List.length_append, List.length_nil]
        omega
      have hnl := HNP.out
      have HNU := hid_in (fun W (h : OutB W B B ([] ++ Wire.num 3)) => num_o W B B _ n.items.length (by omega) (Nat.le_refl _) h HL1.out)
      have HVP := hid_in (fun hne q hq => Nat.lt_trans (HI.out.own hne q hq) HSZ.out)
      have HPW := hid_in (fun W (hW : Below B w1 W) (h : OutB W B B (([] ++ Wire.num 3) ++ Wire.num n.items.length)) => writeItems_any W B B _ n.items _ (Nat.le_refl _) h (HI.out.keep (HB1.out.trans (hW.mono (Nat.le_of_lt HSZ.out))) (Nat.le_refl _)) HVP.out HOK.out.items HKI.out (by omega) HX1.out)
      clear hk hs0 hp0 hi0
      go_wp2_with (first | (go_at_call 23; refine (num_o _ B B [] 3 (by decide) (Nat.le_refl _) HO2.out (by decide)).mono ?_; rintro e w3 ⟨rfl, h1, h2⟩; have HO3 := hid_in h1; have HB3 := hid_in (HBB.out.trans h2); clear h1 h2 c0 HO2; have hr3 := HBE.out w3 HB3.out; have c0 : w3.cell? ⟨w.heap.size, 0, none⟩ = some (.int .i64 3) := hr3.cell 0; have c1 : w3.cell? ⟨w.heap.size, 1, none⟩ = some (.string n.data) := hr3.cell 1; have c2 : w3.cell? ⟨w.heap.size, 2, none⟩ = some (.int .i64 n.size) := hr3.cell 2; have c3 : w3.cell? ⟨w.heap.size, 3, none⟩ = some (.slice pp n.parts.length cp) := hr3.cell 3; have c4 : w3.cell? ⟨w.heap.size, 4, none⟩ = some (.slice pi n.items.length ci) := hr3.cell 4; clear hr3) | (go_at_call 23; refine (HNU.out _ HO3.out).mono ?_; rintro e w4 ⟨rfl, h1, h2⟩; have HO4 := hid_in h1; have HB4 := hid_in (HB3.out.trans h2); clear h1 h2 c0 c1 c2 c3 c4; have hr3 := HBE.out w4 HB4.out; have c0 : w4.cell? ⟨w.heap.size, 0, none⟩ = some (.int .i64 3) := hr3.cell 0; have c1 : w4.cell? ⟨w.heap.size, 1, none⟩ = some (.string n.data) := hr3.cell 1; have c2 : w4.cell? ⟨w.heap.size, 2, none⟩ = some (.int .i64 n.size) := hr3.cell 2; have c3 : w4.cell? ⟨w.heap.size, 3, none⟩ = some (.slice pp n.parts.length cp) := hr3.cell 3; have c4 : w4.cell? ⟨w.heap.size, 4, none⟩ = some (.slice pi n.items.length ci) := hr3.cell 4; clear hr3) | (go_at_call 26; refine (HPW.out _ HB4.out HO4.out).mono ?_; rintro e w5 ⟨rfl, h1, h2⟩; have HO5 := hid_in h1; have HB5 := hid_in (HB4.out.trans h2); clear h1 h2) | (go_at_call 27; obtain ⟨v9, hv9⟩ := HO5.out; refine (obytes_any w5 B B v9 _ hv9 HLEN.out).mono ?_; rintro e w9 ⟨u9, rfl, h1, h2⟩; have HW9 := hid_in h1; have HB9 := hid_in h2; have HE9 := hid_in HB5.out; clear h1 h2 hv9))
      go_ret2
      refine ⟨⟨_, 0, rfl, .inl ⟨rfl, HPP.out, ?_⟩⟩, HBF.out _ _ HE9.out HB9.out⟩
      have h9 := own_mono HW9.out (Nat.le_trans HB1.out.size (Nat.le_trans HE9.out.size (Nat.le_refl _)))
      rw [HEN.out]
      exact h9
  · go_wp2_with fail
    go_ret2
    exact ⟨⟨_, 21, rfl, .inr ⟨rfl, HPP.out, rfl⟩⟩, HB1.out⟩
end Go.Proofs.Ytbccjomnfclkdaa
