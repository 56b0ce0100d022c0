/-
  The walk of readItems.
-/
import Derived.Test.YtbccjomnfclkdaaN6
import Derived.Laws.Tables
namespace Go.Proofs.Ytbccjomnfclkdaa
open Go.RowKit
set_option maxRecDepth 20000 in
theorem list32 {α : Type} (D : List α) (h : D.length = 32) : ∃ d0 d1 d2 d3 d4 d5 d6 d7 d8 d9 d10 d11 d12 d13 d14 d15 d16 d17 d18 d19 d20 d21 d22 d23 d24 d25 d26 d27 d28 d29 d30 d31 : α, D = [d0, d1, d2, d3, d4, d5, d6, d7, d8, d9, d10, d11, d12, d13, d14, d15, d16, d17, d18, d19, d20, d21, d22, d23, d24, d25, d26, d27, d28, d29, d30, d31] := by
  obtain ⟨d0, D0, rfl⟩ : ∃ x r, D = x :: r := List.exists_cons_of_length_pos (by omega)
  obtain ⟨d1, D1, rfl⟩ : ∃ x r, D0 = x :: r := List.exists_cons_of_length_pos (by simp at h; omega)
  obtain ⟨d2, D2, rfl⟩ : ∃ x r, D1 = x :: r := List.exists_cons_of_length_pos (by simp at h; omega)
  obtain ⟨d3, D3, rfl⟩ : ∃ x r, D2 = x :: r := List.exists_cons_of_length_pos (by simp at h; omega)
  obtain ⟨d4, D4, rfl⟩ : ∃ x r, D3 = x :: r := List.exists_cons_of_length_pos (by simp at h; omega)
  obtain ⟨d5, D5, rfl⟩ : ∃ x r, D4 = x :: r := List.exists_cons_of_length_pos (by simp at h; omega)
  obtain ⟨d6, D6, rfl⟩ : ∃ x r, D5 = x :: r := List.exists_cons_of_length_pos (by simp at h; omega)
  obtain ⟨d7, D7, rfl⟩ : ∃ x r, D6 = x :: r := List.exists_cons_of_length_pos (by simp at h; omega)
  obtain ⟨d8, D8, rfl⟩ : ∃ x r, D7 = x :: r := List.exists_cons_of_length_pos (by simp at h; omega)
  obtain ⟨d9, D9, rfl⟩ : ∃ x r, D8 = x :: r := List.exists_cons_of_length_pos (by simp at h; omega)
  obtain ⟨d10, D10, rfl⟩ : ∃ x r, D9 = x :: r := List.exists_cons_of_length_pos (by simp at h; omega)
  obtain ⟨d11, D11, rfl⟩ : ∃ x r, D10 = x :: r := List.exists_cons_of_length_pos (by simp at h; omega)
  obtain ⟨d12, D12, rfl⟩ : ∃ x r, D11 = x :: r := List.exists_cons_of_length_pos (by simp at h; omega)
  obtain ⟨d13, D13, rfl⟩ : ∃ x r, D12 = x :: r := List.exists_cons_of_length_pos (by simp at h; omega)
  obtain ⟨d14, D14, rfl⟩ : ∃ x r, D13 = x :: r := List.exists_cons_of_length_pos (by simp at h; omega)
  obtain ⟨d15, D15, rfl⟩ : ∃ x r, D14 = x :: r := List.exists_cons_of_length_pos (by simp at h; omega)
  obtain ⟨d16, D16, rfl⟩ : ∃ x r, D15 = x :: r := List.exists_cons_of_length_pos (by simp at h; omega)
  obtain ⟨d17, D17, rfl⟩ : ∃ x r, D16 = x :: r := List.exists_cons_of_length_pos (by simp at h; omega)
  obtain ⟨d18, D18, rfl⟩ : ∃ x r, D17 = x :: r := List.exists_cons_of_length_pos (by simp at h; omega)
  obtain ⟨d19, D19, rfl⟩ : ∃ x r, D18 = x :: r := List.exists_cons_of_length_pos (by simp at h; omega)
  obtain ⟨d20, D20, rfl⟩ : ∃ x r, D19 = x :: r := List.exists_cons_of_length_pos (by simp at h; omega)
  obtain ⟨d21, D21, rfl⟩ : ∃ x r, D20 = x :: r := List.exists_cons_of_length_pos (by simp at h; omega)
  obtain ⟨d22, D22, rfl⟩ : ∃ x r, D21 = x :: r := List.exists_cons_of_length_pos (by simp at h; omega)
  obtain ⟨d23, D23, rfl⟩ : ∃ x r, D22 = x :: r := List.exists_cons_of_length_pos (by simp at h; omega)
  obtain ⟨d24, D24, rfl⟩ : ∃ x r, D23 = x :: r := List.exists_cons_of_length_pos (by simp at h; omega)
  obtain ⟨d25, D25, rfl⟩ : ∃ x r, D24 = x :: r := List.exists_cons_of_length_pos (by simp at h; omega)
  obtain ⟨d26, D26, rfl⟩ : ∃ x r, D25 = x :: r := List.exists_cons_of_length_pos (by simp at h; omega)
  obtain ⟨d27, D27, rfl⟩ : ∃ x r, D26 = x :: r := List.exists_cons_of_length_pos (by simp at h; omega)
  obtain ⟨d28, D28, rfl⟩ : ∃ x r, D27 = x :: r := List.exists_cons_of_length_pos (by simp at h; omega)
  obtain ⟨d29, D29, rfl⟩ : ∃ x r, D28 = x :: r := List.exists_cons_of_length_pos (by simp at h; omega)
  obtain ⟨d30, D30, rfl⟩ : ∃ x r, D29 = x :: r := List.exists_cons_of_length_pos (by simp at h; omega)
  obtain ⟨d31, D31, rfl⟩ : ∃ x r, D30 = x :: r := List.exists_cons_of_length_pos (by simp at h; omega)
  obtain rfl : D31 = [] := by simpa using h
  exact ⟨d0, d1, d2, d3, d4, d5, d6, d7, d8, d9, d10, d11, d12, d13, d14, d15, d16, d17, d18, d19, d20, d21, d22, d23, d24, d25, d26, d27, d28, d29, d30, d31, rfl⟩
theorem build_item (nm : ByteArray) (k : Int) (D : List Value) (hD : D.length = 32) (w : World) : (Instr.build 51 #[(0, .string nm), (1, .int .i64 k), (2, .agg D.toArray)]).run Try.prog w = .ok (.agg (.string nm :: .int .i64 k :: D).toArray) w := by
  obtain ⟨d0, d1, d2, d3, d4, d5, d6, d7, d8, d9, d10, d11, d12, d13, d14, d15, d16, d17, d18, d19, d20, d21, d22, d23, d24, d25, d26, d27, d28, d29, d30, d31, rfl⟩ := list32 D hD
  exact run_build w 51 _ _ (by kernel_rfl)
/-- a value is built -/
theorem wpList_build {P : Program} {ops : Array Oper} {rest : List Oper} {op : Oper} {a : Act} {w : World} {Q : Exit → Act → World → Prop} (hgd : op.guard = none) (t : TypeId) (parts : Array (Nat × Operand)) (ho : op.op = .build t parts) (ps : Array (Nat × Value)) (hps : parts.map (fun (i, x) => (i, a.eval x)) = ps) (cells : Array Value) (hb : (Instr.build t ps).run P w = .ok (.agg cells) w)
    (h : wpList P ops Q rest (a.put op.dst (.agg cells)) w) : wpList P ops Q (op :: rest) a w := by
  refine wpList_plain hgd fun K hK => ?_
  unfold Oper.wp execOp
  simp only [ho, hps, Sem.run_bind, hb, Result.andThen_ok]
  exact hK _ _ h
theorem sItems_length (f : Nat → Nat) (c : Nat) (s : Sta) : (sItems f c s).1.length = c := by
  induction c with
  | zero => rfl
  | succ c ih => simp [sItems, ih]
theorem sItem_cells (f : Nat → Nat) (s : Sta) : (sItem f s).1.cells.length = 34 := It.cells_length _ (sDig_length _)
theorem sItems_each (f : Nat → Nat) (c : Nat) (s : Sta) : ∀ us ∈ (sItems f c s).1.map It.cells, us.length = 34 := by
  induction c with
  | zero => intro us h; simp [sItems] at h
  | succ c ih =>
    intro us h
    simp only [sItems, List.map_append, List.mem_append] at h
    rcases h with h | h
    · exact ih us h
    · simp at h; rw [h]; exact sItem_cells _ _
theorem info51h : ∃ i, Hid (Try.prog.info? 51 = some i) ∧ Hid (i.size = 34) ∧ Hid (i.bytes = 56) ∧ Hid (∃ z, i.zero = some z ∧ z.cells.size = 34) := by
  have h : (Try.prog.info? 51).map (fun i => (i.size, i.bytes, i.zero.map (·.cells.size))) = some (34, 56, some 34) := by kernel_rfl
  cases hi : Try.prog.info? 51 with
  | none => rw [hi] at h; cases h
  | some i =>
    rw [hi] at h
    simp only [Option.map_some, Option.some.injEq, Prod.mk.injEq] at h
    obtain ⟨h1, h2, h3⟩ := h
    cases hz : i.zero with
    | none => rw [hz] at h3; cases h3
    | some z =>
      rw [hz] at h3
      simp at h3
      exact ⟨i, rfl, h1, h2, z, hz, h3⟩
set_option maxHeartbeats 2000000 in
set_option maxRecDepth 100000 in
theorem readItems_any (w : World) (g B : Nat) (s : Sta) (c : Nat) (hc : c ≤ 100) (hi : In B w g s) (hB : B ≤ w.heap.size) : Calls Try.prog 51 #[.pointer (some ⟨g, 0, none⟩), .int .i64 (c : Int)] w fun e w' => ∃ q, e = .returned (.slice (some ⟨q, 0, none⟩) c c) ∧ Els w' (.slice (some ⟨q, 0, none⟩) c c) 34 ((sItems (cutN 3) c s).1.map It.cells) ∧ In B w' g (sItems (cutN 3) c s).2 ∧ Grew w w' (· = g) ∧ w.heap.size ≤ q := by
  obtain ⟨i51, hi51, hz1, hz2, hz3⟩ := info51h
  obtain ⟨z51, hz4, hz5⟩ := hz3.out
  have HZ4 := hid_in hz4
  have HI := hid_in hi
  have HGL := hid_in hi.blk
  have HBW := hid_in hB
  clear hi hz4 hz5 hz3 hB
  go_enter Try.func51, Try.ntmps51
  go_wp2_with (first | (refine wpList_make_full _ rfl _ _ 29 rfl _ 51 i51 z51 34 Try.underlying29 hi51.out HZ4.out hz1.out .i64 .i64 _ _ c rfl rfl rfl rfl (by rw [hz2.out]; omega) (by simp [maxLen]; omega) (Nat.le_refl _) ?_; intro w2 hown hg2; obtain ⟨vs0, hr0, hl0⟩ := made_row hown; have HR0 := hid_in hr0; have HL0 := hid_in hl0; have HG2 := hid_in hg2; clear hown hr0 hl0 hg2))
  go_loopw [11] (fun vi W => ∃ i : Nat, i ≤ c ∧ vi = .int .i64 (i : Int) ∧ Hid (∃ vs, Row W w.heap.size vs 51 ∧ vs.length = c * 34 ∧ Fills vs 34 ((sItems (cutN 3) i s).1.map It.cells)) ∧ Hid (In B W g (sItems (cutN 3) i s).2) ∧ Hid (Grew w W (· = g))) (fun vi _ => c - (intOf vi).toNat)
  case atStart =>
    exact ⟨0, by omega, rfl, ⟨vs0, HR0.out, HL0.out, fun i us h => by simp [sItems] at h⟩, (show InIs B w2 g s.1 s.2 from InIs.below HI.out ((Below.refl _ _).grown HG2.out (Nat.le_refl _) (fun k e => by cases e))), Grew.of_below _ ((Below.refl _ _).grown HG2.out (Nat.le_refl _) (fun k e => by cases e))⟩
  case round =>
    obtain ⟨i, hic, rfl, hrow, hin, hgw⟩ := hrel
    by_cases hlt : i < c
    · obtain ⟨vs, hr, hl, hf⟩ := hrow.out
      have HR := hid_in hr
      have HL := hid_in hl
      have HF := hid_in hf
      clear hrow hr hl hf
      obtain ⟨s0, HS0⟩ : ∃ s0, Hid ((sItems (cutN 3) i s).2 = s0) := ⟨_, rfl⟩
      rw [HS0.out] at hin
      have HT := hid_in (text_s wr g B s0 16 (by decide) hin.out)
      have HN := hid_in (fun W (h : In B W g (sText 16 s0).2) => number_s W g B (sText 16 s0).2 3 (by decide) h)
      have HD := hid_in (fun W (h : In B W g (sNum (sText 16 s0).2).2) (hB : B ≤ W.heap.size) => dig_s W g B (sNum (sText 16 s0).2).2 hB h)
      have HS1 : Hid ((sItems (cutN 3) (i + 1) s).1.map It.cells = (sItems (cutN 3) i s).1.map It.cells ++ [.string (str (sText 16 s0).1) :: .int .i64 (cutN 3 (sNum (sText 16 s0).2).1 : Int) :: dcells (sDig (sNum (sText 16 s0).2).2).1]) := by
        show _ = _
        simp only [sItems, HS0.out, List.map_append, List.map_cons, List.map_nil, sItem, It.cells, dcells]
      have HS2 : Hid ((sItems (cutN 3) (i + 1) s).2 = (sDig (sNum (sText 16 s0).2).2).2) := by show _ = _; simp only [sItems, HS0.out, sItem]
      have HPL : Hid (((sItems (cutN 3) i s).1.map It.cells).length = i) := by show _ = _; rw [List.length_map]; exact sItems_length _ i s
      have HDL : Hid ((dcells (sDig (sNum (sText 16 s0).2).2).1).length = 32) := dcells_length (sDig_length _)
      have HD1 : Hid (∀ v ∈ dcells (sDig (sNum (sText 16 s0).2).2).1, v.oneCell' = true) := one_u8 _
      generalize dcells (sDig (sNum (sText 16 s0).2).2).1 = D at *
      generalize (sDig (sNum (sText 16 s0).2).2).2 = s3 at *
      generalize cutN 3 (sNum (sText 16 s0).2).1 = N at *
      generalize (sNum (sText 16 s0).2).2 = s2 at *
      generalize str (sText 16 s0).1 = X at *
      generalize (sText 16 s0).2 = s1 at *
      have HD2 : Hid (∀ v ∈ Value.string X :: Value.int .i64 (N : Int) :: D, v.oneCell' = true) := by
        show ∀ _, _
        intro v hv
        simp only [List.mem_cons] at hv
        rcases hv with rfl | rfl | hv
        · rfl
        · rfl
        · exact HD1.out v hv
      have HDL2 : Hid ((Value.string X :: Value.int .i64 (N : Int) :: D).length = 34) := by show _ = _; simp [HDL.out]
      have hbl := fun W => build_item X (N : Int) D HDL.out W
      obtain ⟨E, HE⟩ : ∃ E, Hid (E = Value.string X :: Value.int .i64 (N : Int) :: D) := ⟨_, rfl⟩
      have HBL : Hid (∀ W, (Instr.build 51 #[(0, .string X), (1, .int .i64 (N : Int)), (2, .agg D.toArray)]).run Try.prog W = .ok (.agg E.toArray) W) := by show ∀ _, _; intro W; rw [HE.out]; exact hbl W
      rw [← HE.out] at HD2 HDL2 HS1
      clear hbl
      go_wp2_with (first | (go_at_call 49; refine HT.out.mono ?_; rintro e w3 ⟨rfl, h1, h2⟩; have H1 := hid_in h1; have H2 := hid_in h2; clear h1 h2) | (go_at_call 48; refine (HN.out _ H1.out).mono ?_; rintro e w4 ⟨rfl, h1, h2⟩; have H3 := hid_in h1; have H4 := hid_in (H2.out.trans h2 (fun q _ h => h)); clear h1 h2) | (go_at_call 57; refine (HD.out _ H3.out (Nat.le_trans HBW.out (Nat.le_trans hgw.out.size H4.out.size))).mono ?_; rintro e w5 ⟨rfl, h1, h2⟩; have H5 := hid_in h1; have H6 := hid_in (H4.out.trans h2 (fun q _ h => h)); clear h1 h2; have hr3 := HR.out.grew H6.out (by have := HGL.out; omega)) | (refine wpList_build rfl 51 _ rfl #[(0, .string X), (1, .int .i64 (N : Int)), (2, .agg D.toArray)] (by simp only [List.map_toArray, List.map_cons, List.map_nil]; rfl) E.toArray (HBL.out _) ?_) | (refine wpList_store_Row rfl 51 _ _ rfl w.heap.size _ E rfl rfl 51 vs hr3 34 info51 HDL2.out (by rw [HL.out]; omega) HD2.out ?_; intro w6 hr4 hg4 hs4; have HR4 := hid_in hr4; have HG4 := hid_in hg4; have HS4 := hid_in hs4; clear hr4 hg4 hs4 hr3))
      go_roundw
      case rel =>
        go_light
        refine ⟨i + 1, by omega, by go_num, ⟨_, HR4.out, ?_, ?_⟩, ?_, ?_⟩
        · rw [splice_length _ _ _ (by rw [HL.out, HDL2.out]; omega)]; exact HL.out
        · have h3 := HF.out.snoc (sItems_each _ i s) E HDL2.out (by rw [HPL.out, HL.out]; omega)
          rw [HPL.out] at h3
          show Fills _ 34 ((sItems (cutN 3) (i + 1) s).1.map It.cells)
          rw [HS1.out]
          exact h3
        · show InIs B w6 g (sItems (cutN 3) (i + 1) s).2.1 (sItems (cutN 3) (i + 1) s).2.2
          rw [HS2.out]
          exact ((InIs.toB H5.out).grown HG4.out HBW.out (by have := HGL.out; omega)).is
        · refine (hgw.out.trans H6.out (fun q _ h => h)).trans (Grew.of_grown HG4.out) (fun q hq h => ?_)
          simp at h
          omega
      case measure => simp [intOf]; omega
    · obtain rfl : i = c := by omega
      go_wp2_with fail
      go_ret
      obtain ⟨vs, hr, hl, hf⟩ := hrow.out
      exact ⟨_, rfl, hf.els hr (sItems_each _ _ _) (by rw [List.length_map]; exact sItems_length _ _ _) (by omega), hin.out, hgw.out, Nat.le_refl _⟩
end Go.Proofs.Ytbccjomnfclkdaa
