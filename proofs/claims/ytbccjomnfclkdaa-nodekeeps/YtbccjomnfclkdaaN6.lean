/-
  The walk of readParts.
-/
import Derived.Test.YtbccjomnfclkdaaN5
import Derived.OwnWalk
namespace Go.Proofs.Ytbccjomnfclkdaa
open Go.RowKit
theorem splice_get_in {α : Type} (L : List α) (o : Nat) (new : List α) (h : o + new.length ≤ L.length) (y : Nat) (u : α) (hy : new[y]? = some u) : (splice L o new)[o + y]? = some u := by
  have hl : y < new.length := (List.getElem?_eq_some_iff.1 hy).1
  unfold splice
  rw [List.getElem?_append_right (by simp; omega), List.getElem?_append_left (by simp; omega), ← hy]
  congr 1
  simp
  omega
theorem splice_get_lo {α : Type} (L : List α) (o : Nat) (new : List α) (h : o ≤ L.length) (y : Nat) (hy : y < o) : (splice L o new)[y]? = L[y]? := by
  unfold splice
  rw [List.getElem?_append_left (by simp; omega), List.getElem?_take]
  simp [hy]
theorem splice_length {α : Type} (L : List α) (o : Nat) (new : List α) (h : o + new.length ≤ L.length) : (splice L o new).length = L.length := by
  unfold splice
  simp
  omega
/-- the first cells of a row are these elements, k cells each -/
def Fills (vs : List Value) (k : Nat) (xs : List (List Value)) : Prop := ∀ (i : Nat) us, xs[i]? = some us → ∀ (y : Nat) u, us[y]? = some u → vs[i * k + y]? = some u
theorem Fills.snoc {vs : List Value} {k : Nat} {xs : List (List Value)} (h : Fills vs k xs) (hx : ∀ us ∈ xs, us.length = k) (new : List Value) (hn : new.length = k) (hl : (xs.length + 1) * k ≤ vs.length) : Fills (splice vs (xs.length * k) new) k (xs ++ [new]) := by
  have hk : (xs.length + 1) * k = xs.length * k + k := by rw [Nat.add_mul, Nat.one_mul]
  intro i us hi y u hy
  rcases Nat.lt_or_ge i xs.length with h1 | h1
  · rw [List.getElem?_append_left h1] at hi
    have hyl : y < k := by rw [← hx us (List.mem_of_getElem? hi)]; exact (List.getElem?_eq_some_iff.1 hy).1
    have hik : i * k + k ≤ xs.length * k := by
      have := Nat.mul_le_mul_right k (show i + 1 ≤ xs.length from h1)
      rw [Nat.add_mul, Nat.one_mul] at this
      exact this
    rw [splice_get_lo _ _ _ (by omega) _ (by omega)]
    exact h i us hi y u hy
  · rw [List.getElem?_append_right h1] at hi
    have h2 : i - xs.length = 0 := by
      have := (List.getElem?_eq_some_iff.1 hi).1
      simp at this
      omega
    obtain rfl : i = xs.length := by omega
    simp at hi
    subst hi
    exact splice_get_in _ _ _ (by omega) y u hy
theorem Fills.els {w : World} {g n k : Nat} {vs : List Value} {t : TypeId} {xs : List (List Value)} (h : Fills vs k xs) (hr : Row w g vs t) (hx : ∀ us ∈ xs, us.length = k) (hn : xs.length = n) (hn2 : n ≤ 9223372036854775807) : Els w (.slice (some ⟨g, 0, none⟩) n n) k xs := by
  refine ⟨⟨some ⟨g, 0, none⟩, n, g, 0, by rw [hn], by omega, hn2, fun _ => ⟨rfl, hr.lt⟩, fun i us hi y u hy => ?_⟩, hx⟩
  have := h i us hi y u hy
  rw [show 0 + i * k + y = i * k + y by omega, hr.cell]
  exact this
theorem dcells_length {d : List Nat} (h : d.length = 32) : (dcells d).length = 32 := by simp [dcells, h]
theorem sDig_length (s : Sta) : (sDig s).1.length = 32 := by
  unfold sDig rdigest
  split
  · split
    · simp
    · simp; omega
  · simp
theorem sParts_each (c : Nat) (s : Sta) : ∀ us ∈ (sParts c s).1.map dcells, us.length = 32 := by
  induction c with
  | zero => intro us h; simp [sParts] at h
  | succ c ih =>
    intro us h
    simp only [sParts, List.map_append, List.mem_append] at h
    rcases h with h | h
    · exact ih us h
    · simp at h; rw [h]; exact dcells_length (sDig_length _)
theorem sParts_length (c : Nat) (s : Sta) : (sParts c s).1.length = c := by
  induction c with
  | zero => rfl
  | succ c ih => simp [sParts, ih]
theorem info49h : ∃ i, Hid (Try.prog.info? 49 = some i) ∧ Hid (i.size = 32) ∧ Hid (i.bytes = 32) ∧ Hid (∃ z, i.zero = some z ∧ z.cells.size = 32) := by
  have h : (Try.prog.info? 49).map (fun i => (i.size, i.bytes, i.zero.map (·.cells.size))) = some (32, 32, some 32) := by kernel_rfl
  cases hi : Try.prog.info? 49 with
  | none => rw [hi] at h; cases h
  | some i =>
    rw [hi] at h
    simp only [Option.map_some, Option.some.injEq, Prod.mk.injEq] at h
    obtain ⟨h1, h2, h3⟩ := h
    cases hz : i.zero with
    | none => rw [hz] at h3; cases h3
    | some z =>
      rw [hz] at h3
      simp at h3
      exact ⟨i, rfl, h1, h2, z, hz, h3⟩
/-- a row that was just made, as a block that is known whole -/
theorem made_row {w : World} {e : TypeId} {size n g : Nat} {xs : List Value} (h : w.ownsRow g e size (.slice (some ⟨g, 0, none⟩) n n) n xs) : ∃ vs, Row w g vs e ∧ vs.length = n * size := by
  obtain ⟨_, ⟨h1, _⟩ | ⟨g', cap, cur, h1, _, h2, _, _, h3, _⟩⟩ := h
  · cases h1
  · cases h1
    exact ⟨cur.toList, by simpa [Row] using h2, by simpa using h3⟩
set_option maxHeartbeats 2000000 in
theorem readParts_any (w : World) (g B : Nat) (s : Sta) (c : Nat) (hc : c ≤ 100) (hi : In B w g s) (hB : B ≤ w.heap.size) : Calls Try.prog 50 #[.pointer (some ⟨g, 0, none⟩), .int .i64 (c : Int)] w fun e w' => ∃ q, e = .returned (.slice (some ⟨q, 0, none⟩) c c) ∧ Els w' (.slice (some ⟨q, 0, none⟩) c c) 32 ((sParts c s).1.map dcells) ∧ In B w' g (sParts c s).2 ∧ Grew w w' (· = g) ∧ w.heap.size ≤ q := by
  obtain ⟨i49, hi49, hz1, hz2, hz3⟩ := info49h
  obtain ⟨z49, hz4, hz5⟩ := hz3.out
  have HZ4 := hid_in hz4
  have HI := hid_in hi
  have HGL := hid_in hi.blk
  have HBW := hid_in hB
  clear hi hz4 hz5 hz3 hB
  go_enter Try.func50, Try.ntmps50
  go_wp2_with (first | (refine wpList_make_full _ rfl _ _ 28 rfl _ 49 i49 z49 32 Try.underlying28 hi49.out HZ4.out hz1.out .i64 .i64 _ _ c rfl rfl rfl rfl (by rw [hz2.out]; omega) (by simp [maxLen]; omega) (Nat.le_refl _) ?_; intro w2 hown hg2; obtain ⟨vs0, hr0, hl0⟩ := made_row hown; have HR0 := hid_in hr0; have HL0 := hid_in hl0; have HG2 := hid_in hg2; clear hown hr0 hl0 hg2))
  go_loopw [11] (fun vi W => ∃ i : Nat, i ≤ c ∧ vi = .int .i64 (i : Int) ∧ Hid (∃ vs, Row W w.heap.size vs 49 ∧ vs.length = c * 32 ∧ Fills vs 32 ((sParts i s).1.map dcells)) ∧ Hid (In B W g (sParts i s).2) ∧ Hid (Grew w W (· = g))) (fun vi _ => c - (intOf vi).toNat)
  case atStart =>
    exact ⟨0, by omega, rfl, ⟨vs0, HR0.out, HL0.out, fun i us h => by simp [sParts] at h⟩, (show InIs B w2 g s.1 s.2 from InIs.below HI.out ((Below.refl _ _).grown HG2.out (Nat.le_refl _) (fun k e => by cases e))), Grew.of_below _ ((Below.refl _ _).grown HG2.out (Nat.le_refl _) (fun k e => by cases e))⟩
  case round =>
    obtain ⟨i, hic, rfl, hrow, hin, hgw⟩ := hrel
    by_cases hlt : i < c
    · obtain ⟨vs, hr, hl, hf⟩ := hrow.out
      have HR := hid_in hr
      have HL := hid_in hl
      have HF := hid_in hf
      clear hrow hr hl hf
      have HD := hid_in (dig_s wr g B (sParts i s).2 (Nat.le_trans HBW.out hgw.out.size) hin.out)
      have hS : sParts (i + 1) s = ((sParts i s).1 ++ [(sDig (sParts i s).2).1], (sDig (sParts i s).2).2) := rfl
      have HS1 : Hid ((sParts (i + 1) s).1.map dcells = (sParts i s).1.map dcells ++ [dcells (sDig (sParts i s).2).1]) := by show _ = _; rw [hS]; simp
      have HS2 : Hid ((sParts (i + 1) s).2 = (sDig (sParts i s).2).2) := by show _ = _; rw [hS]
      have HPL : Hid (((sParts i s).1.map dcells).length = i) := by show _ = _; rw [List.length_map]; exact sParts_length i s
      have HDL : Hid ((dcells (sDig (sParts i s).2).1).length = 32) := dcells_length (sDig_length _)
      have HD1 : Hid (∀ v ∈ dcells (sDig (sParts i s).2).1, v.oneCell' = true) := one_u8 _
      clear hS
      generalize dcells (sDig (sParts i s).2).1 = D at *
      go_wp2_with (first | (go_at_call 57; refine HD.out.mono ?_; rintro e w3 ⟨rfl, h1, h2⟩; have H1 := hid_in h1; have H2 := hid_in h2; clear h1 h2; have hr3 := HR.out.grew H2.out (by have := HGL.out; omega)) | (refine wpList_store_Row rfl 49 _ _ rfl w.heap.size _ D rfl rfl 49 vs hr3 32 info49 HDL.out (by rw [HL.out]; omega) HD1.out ?_; intro w4 hr4 hg4 hs4; have HR4 := hid_in hr4; have HG4 := hid_in hg4; have HS4 := hid_in hs4; clear hr4 hg4 hs4 hr3))
      go_roundw
      case rel =>
        go_light
        refine ⟨i + 1, by omega, by go_num, ⟨_, HR4.out, ?_, ?_⟩, ?_, ?_⟩
        · rw [splice_length _ _ _ (by rw [HL.out, HDL.out]; omega)]; exact HL.out
        · have h3 := HF.out.snoc (sParts_each i s) D HDL.out (by rw [HPL.out, HL.out]; omega)
          rw [HPL.out] at h3
          show Fills _ 32 ((sParts (i + 1) s).1.map dcells)
          rw [HS1.out]
          exact h3
        · show InIs B w4 g (sParts (i + 1) s).2.1 (sParts (i + 1) s).2.2
          rw [HS2.out]
          exact ((InIs.toB H1.out).grown HG4.out HBW.out (by have := HGL.out; omega)).is
        · refine (hgw.out.trans H2.out (fun q _ h => h)).trans (Grew.of_grown HG4.out) (fun q hq h => ?_)
          simp at h
          omega
      case measure => simp [intOf]; omega
    · obtain rfl : i = c := by omega
      go_wp2_with fail
      go_ret
      obtain ⟨vs, hr, hl, hf⟩ := hrow.out
      exact ⟨_, rfl, hf.els hr (sParts_each _ _) (by rw [List.length_map]; exact sParts_length _ _) (by omega), hin.out, hgw.out, Nat.le_refl _⟩
end Go.Proofs.Ytbccjomnfclkdaa
