/-
  The walk of node.Decode.
-/
import Derived.Test.YtbccjomnfclkdaaN8
namespace Go.Proofs.Ytbccjomnfclkdaa
open Go.RowKit
theorem IsN.form {w : World} {v : Value} {n : Nd} (h : IsN w v n) : ∃ pp cp pi ci, v = .agg #[.int .i64 n.kind, .string n.data, .int .i64 n.size, .slice pp n.parts.length cp, .slice pi n.items.length ci] := by
  obtain ⟨vp, vi, rfl, hp, hi⟩ := h.ex
  obtain ⟨pp, cp, _, _, rfl, _⟩ := hp.ex
  obtain ⟨pi, ci, _, _, rfl, _⟩ := hi.ex
  exact ⟨pp, cp, pi, ci, by simp⟩
theorem zeroN_is (w : World) : IsN w (.agg #[.int .i64 0, .string ⟨#[]⟩, .int .i64 0, .slice none 0 0, .slice none 0 0]) zeroN :=
  ⟨⟨_, _, rfl, Els.nil _ _, Els.nil _ _⟩, ⟨fun d h => (by cases h), fun d h => (by cases h), i64_0, i64_0⟩⟩
theorem sText_len (m : Nat) (s : Sta) : (sText m s).1.length ≤ m := by
  unfold sText Wire.rtext
  split
  · split
    · simp
    · split
      · simp
      · split
        · simp
        · rename_i h1 h2
          simp only [List.length_take]
          omega
  · simp
theorem str_size (l : List Nat) : (str l).size = l.length := by
  show (str l).data.size = l.length
  simp [str]
theorem sItems_short (f : Nat → Nat) (c : Nat) (s : Sta) : ∀ x ∈ (sItems f c s).1, x.name.size ≤ 16 := by
  induction c with
  | zero => intro x h; simp [sItems] at h
  | succ c ih =>
    intro x h
    simp only [sItems, List.mem_append, List.mem_singleton] at h
    rcases h with h | rfl
    · exact ih x h
    · show (str (sText 16 _).1).size ≤ 16
      rw [str_size]
      exact sText_len _ _
theorem rd_short (s : Sta) : (rd s).1.short := by
  obtain ⟨k, hk⟩ : ∃ k, cutN 3 (sNum s).1 = k := ⟨_, rfl⟩
  by_cases h1 : k = 1
  · rw [rd_1 (hk.trans h1)]
    refine ⟨?_, fun x h => by cases h⟩
    show (str _).size ≤ _
    rw [str_size]
    have := sText_len 64 (sNum s).2
    omega
  · by_cases h2 : k = 2
    · rw [rd_2 (hk.trans h2) rfl]
      exact ⟨by show (0 : Nat) ≤ _; omega, fun x h => by cases h⟩
    · by_cases h3 : k = 3
      · rw [rd_3 (hk.trans h3) rfl]
        refine ⟨by show (0 : Nat) ≤ _; omega, fun x h => ?_⟩
        have := sItems_short _ _ _ x h
        omega
      · rw [rd_0 hk h1 h2 h3]
        exact ⟨by show (0 : Nat) ≤ _; omega, fun x h => by cases h⟩
theorem post_Row2 {P : Program} {fn : Func} {R : Ending → World → Prop} {a : Act} {w : World} (p u : Tmp) (ty : TypeId) (hf : fn.results = #[.cell p ty, .tmp u]) (g : Nat) (hp : a.tmps.getD p undef = .pointer (some ⟨g, 0, none⟩))
    (t : TypeId) (vs : List Value) (hr : Row w g vs t) (d : TypeDesc) (hu : P.underlying ty = some d) (hd : (match d with | .struct _ | .array _ _ => true | _ => false) = true) (n : Nat) (hi : (P.info? ty).map (·.size) = some n) (hn : vs.length = n)
    (hdf : a.defers = []) (h : R (.returned (.tuple #[.agg vs.toArray, a.tmps.getD u undef])) w) : bodyPost P fn R .ret a w := by
  refine bodyPost_ret ?_ hdf h
  rw [results_cell_tmp hf, hp]
  have hl := run_loadVar_row (P := P) w g t ty vs.toArray (0, 0) d hr hu hd (by rw [hi]; simp [hn])
  simp [asAddr, hl]
set_option maxHeartbeats 2000000 in
set_option maxRecDepth 100000 in
theorem decode_p (bs : List Nat) (p : Option Addr) (cap b off : Nat) (w : World) (hsl : Sl w p bs cap b off) (hno : p = none → bs.length = 0 ∧ cap = 0) (hre : bs.length ≤ 140737488355328) :
    Calls Try.prog 15 #[.slice p bs.length cap] w fun e w' => (∃ v k, e = .returned (.tuple #[v, .int .i64 k]) ∧ Fresh w.heap.size v ∧ ((k = 0 ∧ ((rd (bs, 0)).2 = ([], 0) ∧ right (rd (bs, 0)).1) ∧ IsN w' v (rd (bs, 0)).1) ∨ (k = 21 ∧ ¬ ((rd (bs, 0)).2 = ([], 0) ∧ right (rd (bs, 0)).1) ∧ IsN w' v zeroN))) ∧ Below w.heap.size w w' := by
  obtain ⟨W0, H0⟩ : ∃ W0, Hid (w.alloc (.cells #[.int .i64 0, .string ByteArray.empty, .int .i64 0, .slice none 0 0, .slice none 0 0] 31) = W0) := ⟨_, rfl⟩
  have HB0 : Hid (Below w.heap.size w W0) := by show Below _ _ _; rw [← H0.out]; exact (Below.refl _ _).alloc (Nat.le_refl _) _
  have HZ0 : Hid (W0.heap.size = w.heap.size + 1) := by show _ = _; rw [← H0.out]; simp
  have HR0 : Hid (Row W0 w.heap.size [.int .i64 0, .string ⟨#[]⟩, .int .i64 0, .slice none 0 0, .slice none 0 0] 31) := by show Row _ _ _ _; rw [← H0.out]; exact Row.new w [.int .i64 0, .string ⟨#[]⟩, .int .i64 0, .slice none 0 0, .slice none 0 0] 31
  have HRA := hid_in (read_any bs p cap b off W0 (hsl.below HB0.out) hno hre)
  obtain ⟨n, t, HRD⟩ : ∃ n t, Hid (rd (bs, 0) = (n, t)) := ⟨_, _, rfl⟩
  have HSH : Hid (n.short) := by have h := rd_short (bs, 0); rw [HRD.out] at h; exact h
  rw [HRD.out]
  clear hsl hno
  generalize hbl : bs.length = bl at *
  clear hbl
  go_enter Try.func15, Try.ntmps15
  go_upto_region 1 with fail
  refine wp_world H0.out ?_
  clear H0
  go_upto_region 3 with (first | (go_at_call 32; refine HRA.out.mono ?_; rintro e w1 ⟨g, rfl, h1, h2, h3⟩; have HI1 := hid_in h1; have HG1 := hid_in h2; have HB1 := hid_in h3; clear h1 h2 h3 HRA) | (go_at_call 33; refine (nread_any w1 g w1.heap.size (bs, 0) HI1.out (Nat.le_refl _)).mono ?_; rintro e w2 ⟨v2, rfl, h1, h2, h3, h4⟩; rw [HRD.out] at h1 h2; obtain ⟨pp, cp, pi, ci, rfl⟩ := h1.form; have HN2 := hid_in h1; have HI2 := hid_in h2; have HG2 := hid_in h3; have HFR := hid_in h4; clear h1 h2 h3 h4))
  have HGL : Hid (w.heap.size < g) := by have := HG1.out; have := HZ0.out; show _ < _; omega
  obtain ⟨W3, HW3, HR3, HBW3, HS3⟩ := node_row w2 n.kind n.size n.data (.slice pp n.parts.length cp) (.slice pi n.items.length ci)
  refine wp_world HW3.out ?_
  clear HW3
  have c0 : W3.cell? ⟨w2.heap.size, 0, none⟩ = some (.int .i64 n.kind) := HR3.out.cell 0
  have c1 : W3.cell? ⟨w2.heap.size, 1, none⟩ = some (.string n.data) := HR3.out.cell 1
  have c2 : W3.cell? ⟨w2.heap.size, 2, none⟩ = some (.int .i64 n.size) := HR3.out.cell 2
  have c3 : W3.cell? ⟨w2.heap.size, 3, none⟩ = some (.slice pp n.parts.length cp) := HR3.out.cell 3
  have c4 : W3.cell? ⟨w2.heap.size, 4, none⟩ = some (.slice pi n.items.length ci) := HR3.out.cell 4
  have HE := hid_in (iend_any W3 g t.2 t.1 (InIs.below HI2.out HBW3.out))
  have HN3 := hid_in (HN2.out.below HBW3.out)
  have HCK := hid_in (check_any W3 _ n HN3.out HSH.out)
  have hzr : Row w2 w.heap.size [.int .i64 0, .string ⟨#[]⟩, .int .i64 0, .slice none 0 0, .slice none 0 0] 31 := (HR0.out.below HB1.out HR0.out.lt).grew HG2.out (by have := HGL.out; omega)
  have hw12 : w.heap.size < w2.heap.size := hzr.lt
  have HRZ := hid_in (hzr.below HBW3.out hzr.lt)
  have HB3 : Hid (Below w.heap.size w W3) := by
    have h1 : Below w.heap.size w w1 := HB0.out.trans (HB1.out.mono (by have := HZ0.out; omega))
    have h2 : Below w.heap.size w w2 := HG2.out.below h1 h1.size (fun k hk => by have := HGL.out; omega)
    exact h2.trans (HBW3.out.mono (by omega))
  have HET : Hid (decide (t.2 = 0 ∧ t.1.length = 0) = true ↔ t = ([], 0)) := by
    show _ ↔ _
    obtain ⟨t1, t2⟩ := t
    simp [and_comm]
  have HW1 : Hid (w.heap.size < w1.heap.size) := by have := HB1.out.size; have := HZ0.out; show _ < _; omega
  clear hzr HN2 HI2 HG2 HBW3 HI1 HB1
  generalize w2.heap.size = G at *
  have n1 : w.heap.size ≠ G := by omega
  have n2 : G ≠ w.heap.size := by omega
  have z0 : W3.cell? ⟨w.heap.size, 0, none⟩ = some (.int .i64 0) := HRZ.out.cell 0
  have z1 : W3.cell? ⟨w.heap.size, 1, none⟩ = some (.string ⟨#[]⟩) := HRZ.out.cell 1
  have z2 : W3.cell? ⟨w.heap.size, 2, none⟩ = some (.int .i64 0) := HRZ.out.cell 2
  have z3 : W3.cell? ⟨w.heap.size, 3, none⟩ = some (.slice none 0 0) := HRZ.out.cell 3
  have z4 : W3.cell? ⟨w.heap.size, 4, none⟩ = some (.slice none 0 0) := HRZ.out.cell 4
  have y0 := HRZ.out.frozen 0
  have y1 := HRZ.out.frozen 1
  have y2 := HRZ.out.frozen 2
  have y3 := HRZ.out.frozen 3
  have y4 := HRZ.out.frozen 4
  cases hE : decide (t.2 = 0 ∧ t.1.length = 0)
  · rw [hE] at HE HET
    have HNT : Hid (t ≠ ([], 0)) := fun h => by have := HET.out.2 h; cases this
    clear hE HET
    go_wp2_with (first | (go_at_call 34; refine HE.out.mono ?_; rintro e w4 ⟨rfl, hw⟩; obtain rfl := hw.symm))
    have HF := hid_in (set5 HRZ.out (.int .i64 0) (.string ⟨#[]⟩) (.int .i64 0) (.slice none 0 0) (.slice none 0 0))
    refine post_Row2 2 3 31 Try.results15 w.heap.size rfl 31 _ HF.out.1 _ Try.underlying31 rfl 5 info31 rfl rfl ?_
    exact ⟨⟨_, 21, rfl, fresh5 _ _ _ (own_none _) (own_none _), .inr ⟨rfl, fun h => HNT.out h.1, zeroN_is _⟩⟩, HB3.out.grown HF.out.2 HB3.out.size (fun k e => by cases e; exact Nat.le_refl _)⟩
  · rw [hE] at HE HET
    have HNT : Hid (t = ([], 0)) := HET.out.1 rfl
    clear hE HET
    go_wp2_with (first | (go_at_call 34; refine HE.out.mono ?_; rintro e w4 ⟨rfl, hw⟩; obtain rfl := hw.symm) | (go_at_call 13; refine HCK.out.mono ?_; rintro e w5 ⟨⟨r, rfl, hr⟩, hb5⟩; have HRZ5 := hid_in (HRZ.out.below hb5 HRZ.out.lt); have HR5 := hid_in (HR3.out.below hb5 HR3.out.lt); have HB5 := hid_in (HB3.out.trans (hb5.mono HB3.out.size)); have HN5 := hid_in (HN3.out.below hb5); clear hb5; clear z0 z1 z2 z3 z4 y0 y1 y2 y3 y4 c0 c1 c2 c3 c4; have c0 : w5.cell? ⟨G, 0, none⟩ = some (.int .i64 n.kind) := HR5.out.cell 0; have c1 : w5.cell? ⟨G, 1, none⟩ = some (.string n.data) := HR5.out.cell 1; have c2 : w5.cell? ⟨G, 2, none⟩ = some (.int .i64 n.size) := HR5.out.cell 2; have c3 : w5.cell? ⟨G, 3, none⟩ = some (.slice pp n.parts.length cp) := HR5.out.cell 3; have c4 : w5.cell? ⟨G, 4, none⟩ = some (.slice pi n.items.length ci) := HR5.out.cell 4; have z0 : w5.cell? ⟨w.heap.size, 0, none⟩ = some (.int .i64 0) := HRZ5.out.cell 0; have z1 : w5.cell? ⟨w.heap.size, 1, none⟩ = some (.string ⟨#[]⟩) := HRZ5.out.cell 1; have z2 : w5.cell? ⟨w.heap.size, 2, none⟩ = some (.int .i64 0) := HRZ5.out.cell 2; have z3 : w5.cell? ⟨w.heap.size, 3, none⟩ = some (.slice none 0 0) := HRZ5.out.cell 3; have z4 : w5.cell? ⟨w.heap.size, 4, none⟩ = some (.slice none 0 0) := HRZ5.out.cell 4; have y0 := HRZ5.out.frozen 0; have y1 := HRZ5.out.frozen 1; have y2 := HRZ5.out.frozen 2; have y3 := HRZ5.out.frozen 3; have y4 := HRZ5.out.frozen 4; rcases hr with ⟨rfl, hP⟩ | ⟨rfl, hP⟩; all_goals (have HPP := hid_in hP; clear hP)))
    · have HF := hid_in (set5 HRZ5.out (.int .i64 n.kind) (.string n.data) (.int .i64 n.size) (.slice pp n.parts.length cp) (.slice pi n.items.length ci))
      refine post_Row2 2 3 31 Try.results15 w.heap.size rfl 31 _ HF.out.1 _ Try.underlying31 rfl 5 info31 rfl rfl ?_
      exact ⟨⟨_, 0, rfl, HFR.out.mono (Nat.le_of_lt HW1.out), .inl ⟨rfl, ⟨HNT.out, HPP.out⟩, HN5.out.grown HF.out.2 HFR.out HW1.out⟩⟩, HB5.out.grown HF.out.2 HB5.out.size (fun k e => by cases e; exact Nat.le_refl _)⟩
    · have HF := hid_in (set5 HRZ5.out (.int .i64 0) (.string ⟨#[]⟩) (.int .i64 0) (.slice none 0 0) (.slice none 0 0))
      refine post_Row2 2 3 31 Try.results15 w.heap.size rfl 31 _ HF.out.1 _ Try.underlying31 rfl 5 info31 rfl rfl ?_
      exact ⟨⟨_, 21, rfl, fresh5 _ _ _ (own_none _) (own_none _), .inr ⟨rfl, fun h => HPP.out h.2, zeroN_is _⟩⟩, HB5.out.grown HF.out.2 HB5.out.size (fun k e => by cases e; exact Nat.le_refl _)⟩
end Go.Proofs.Ytbccjomnfclkdaa
