/-
  Names that are read out of memory; the walks of Show, Clean and awake.
-/
import Derived.Test.YtodfdinocnhaoaaA5
import Derived.Test.YtodfdinocnhaoaaSh
namespace Go.Proofs.Ytodfdinocnhaoaa
open Go.RowKit Go.Shelf

/-- the slice of this address and capacity reads as these names -/
structure Rd (w : World) (p : Option Addr) (xs : List Str) (cap : Nat) : Prop where
  le : xs.length ≤ cap
  big : cap ≤ 9223372036854775807
  nil : p = none → xs = [] ∧ cap = 0
  cells : ∃ b o, (xs ≠ [] → p = some ⟨b, o, none⟩ ∧ b < w.heap.size) ∧ ∀ (j : Nat) x, xs[j]? = some x → w.cell? ⟨b, o + j, none⟩ = some (sv x)

theorem Rd.below {w w' : World} {p : Option Addr} {xs : List Str} {cap : Nat} (h : Rd w p xs cap) (hb : Below w.heap.size w w') : Rd w' p xs cap := by
  obtain ⟨b, o, h1, h2⟩ := h.cells
  refine ⟨h.le, h.big, h.nil, b, o, fun hne => ⟨(h1 hne).1, Nat.lt_of_lt_of_le (h1 hne).2 hb.size⟩, fun j x hx => ?_⟩
  have hne : xs ≠ [] := by rintro rfl; simp at hx
  rw [hb.cell (p := ⟨b, o + j, none⟩) (h1 hne).2]
  exact h2 j x hx
theorem Rd.take {w : World} {p : Option Addr} {xs : List Str} {cap : Nat} (h : Rd w p xs cap) (n : Nat) (hn : n ≤ xs.length) : Rd w p (xs.take n) cap := by
  obtain ⟨b, o, h1, h2⟩ := h.cells
  refine ⟨by rw [List.length_take]; have := h.le; omega, h.big, fun e => ⟨by rw [(h.nil e).1]; simp, (h.nil e).2⟩, b, o, fun hne => h1 (by rintro rfl; simp at hne), fun j x hx => h2 j x ?_⟩
  rw [List.getElem?_take] at hx
  split at hx
  · exact hx
  · cases hx
theorem Nms.rd {W : World} {base : Nat} {v : Value} {xs : List Str} (h : Nms W base v xs) : ∃ p cap, v = .slice p xs.length cap ∧ Rd W p xs cap := by
  rcases h.2 with ⟨rfl, h0⟩ | ⟨g, cap, cur, rfl, hb, hg, hn, hm, hs, ht⟩
  · have hx : xs = [] := List.eq_nil_of_length_eq_zero h0
    subst hx
    exact ⟨none, 0, rfl, by simp, by omega, fun _ => ⟨rfl, rfl⟩, 0, 0, fun h => absurd rfl h, fun j x hx => by simp at hx⟩
  · refine ⟨_, _, rfl, hn, by unfold maxLen at hm; omega, (fun e => by cases e), g, 0, fun _ => ⟨rfl, (Array.getElem?_eq_some_iff.1 hg).1⟩, fun j x hx => ?_⟩
    have hc : W.cell? ⟨g, 0 + j, none⟩ = cur[j]? := by rw [Nat.zero_add]; rw [cell_of_row W g j _ _ (0, 0) hg]
    have hj : j < xs.length := (List.getElem?_eq_some_iff.1 hx).1
    have ht2 : (cur.toList.take (xs.length * 1))[j]? = (xs.map sv)[j]? := by rw [ht]
    rw [Nat.mul_one, List.getElem?_take, if_pos hj, List.getElem?_map, hx, Array.getElem?_toList] at ht2
    rw [hc, ht2]; rfl

theorem append_B (x y : Str) : B x ++ B y = B (x ++ y) := by
  refine ByteArray.ext ?_
  rw [ByteArray.data_append]
  simp [B]
/-- a path's text -/
def showS (xs : List Str) : Str := 47 :: Lib.join xs [47]
theorem map_bl (xs : List Str) : (xs.map B).map (·.data.toList) = xs := by
  rw [List.map_map]
  conv => rhs; rw [← List.map_id xs]
  exact List.map_congr_left fun x _ => bl_B x

theorem join_any (xs : List Str) (p : Option Addr) (cap : Nat) (w : World) (hr : Rd w p xs cap) (hn : xs.length ≤ 140737488355328) (hl : (Lib.join xs [47]).length ≤ 140737488355328) :
    Calls Try.prog 29 #[.slice p xs.length cap, .string ⟨#[47]⟩] w fun e w' => e = .returned (.string (B (Lib.join xs [47]))) ∧ Below w.heap.size w w' := by
  by_cases h0 : xs = []
  · subst h0
    refine (Try.strings_Join_none p cap ⟨#[47]⟩ w).mono fun e w' ⟨he, hw⟩ => ⟨he, hw ▸ Below.refl _ _⟩
  · obtain ⟨b, o, h1, h2⟩ := hr.cells
    obtain ⟨rfl, hb⟩ := h1 h0
    have hj := Try.strings_Join b o cap (xs.map B) ⟨#[47]⟩ w (fun j x hx => by
      rw [List.getElem?_map] at hx
      cases hy : xs[j]? with
      | none => rw [hy] at hx; cases hx
      | some y => rw [hy] at hx; cases hx; exact h2 j y hy) hb (by simpa using hn) (by simpa using hr.le) (by rw [map_bl]; exact hl)
    rw [map_bl] at hj
    simp only [List.length_map] at hj
    exact hj

set_option maxHeartbeats 400000 in
set_option maxRecDepth 100000 in
theorem show_any (xs : List Str) (p : Option Addr) (cap : Nat) (w : World) (hr : Rd w p xs cap) (hn : xs.length ≤ 140737488355328) (hl : (Lib.join xs [47]).length ≤ 140737488355328) :
    Calls Try.prog 17 #[.slice p xs.length cap] w fun e w' => e = .returned (.string (B (showS xs))) ∧ Below w.heap.size w w' := by
  have HJ := hid_in (join_any xs p cap w hr hn hl)
  have hsm : ¬ 9223372036854775807 < 1 + (B (Lib.join xs [47])).size := by rw [B_size]; omega
  have HA : Hid (({ data := #[47] } : ByteArray) ++ B (Lib.join xs [47]) = B (showS xs)) := append_B [47] _
  clear hr hn hl
  generalize B (Lib.join xs [47]) = j at hsm HA HJ
  generalize B (showS xs) = r at HA ⊢
  go_enter Try.func17, Try.ntmps17
  go_wp2_with (go_at_call 29; refine HJ.out.mono ?_; rintro e w' ⟨rfl, hb⟩; have HB := hid_in hb; clear hb)
  go_ret
  refine ⟨?_, HB.out⟩
  rw [← HA.out]; rfl

/-- the one form of what a text means -/
def cleanS (s : Str) : Str := if (parseS s).2 = 0 then showS (parseS s).1 else []

theorem pieces_sum (x : Str) : Lib.lens (piecesS x) + (piecesS x).length = x.length + 1 := by
  induction x with
  | nil => rfl
  | cons c r ih =>
    unfold piecesS
    by_cases h : c = 47
    · simp only [h, if_true, Lib.lens, List.map_cons, List.sum_cons, List.length_nil, List.length_cons] at ih ⊢; omega
    · simp only [h, if_false]
      split
      · rename_i h2; rw [h2] at ih; simp [Lib.lens] at ih ⊢
      · rename_i p ps h2; rw [h2] at ih; simp only [Lib.lens, List.map_cons, List.sum_cons, List.length_cons] at ih ⊢; omega
theorem step_sum (xs : List Str) (p : Str) : Lib.lens (stepS xs p) + (stepS xs p).length ≤ Lib.lens xs + xs.length + (p.length + 1) := by
  unfold stepS
  split
  · omega
  · split
    · have h1 : (xs.dropLast).length ≤ xs.length := by simp
      have h2 : Lib.lens xs.dropLast ≤ Lib.lens xs := by
        rcases List.eq_nil_or_concat xs with rfl | ⟨ys, y, rfl⟩
        · simp
        · simp [Lib.lens]
      omega
    · simp [Lib.lens]; omega
theorem names_sum (ps : List Str) : Lib.lens (namesS ps) + (namesS ps).length ≤ Lib.lens ps + ps.length := by
  have : ∀ (qs xs : List Str), Lib.lens (qs.foldl stepS xs) + (qs.foldl stepS xs).length ≤ Lib.lens xs + xs.length + (Lib.lens qs + qs.length) := by
    intro qs
    induction qs with
    | nil => intro xs; simp [Lib.lens]
    | cons q qs ih =>
      intro xs; rw [List.foldl_cons]
      have h1 := ih (stepS xs q); have h2 := step_sum xs q
      simp only [Lib.lens, List.map_cons, List.sum_cons, List.length_cons] at h1 h2 ⊢; omega
  have := this ps []
  simpa [namesS, Lib.lens] using this
theorem parse_sum (s : Str) : Lib.lens (parseS s).1 + (parseS s).1.length ≤ 256 := by
  unfold parseS
  split
  · simp [Lib.lens]
  · split
    · simp [Lib.lens]
    · split
      · simp [Lib.lens]
      · split
        · simp [Lib.lens]
        · have h1 := names_sum (piecesS (s.drop 1)); have h2 := pieces_sum (s.drop 1)
          have h3 : 1 ≤ s.length := by
            cases s with
            | nil => rename_i h _ _; exact absurd rfl h
            | cons c r => simp
          simp only [List.length_drop] at h2
          simp only at h1 ⊢
          omega
theorem join_le (xs : List Str) : (Lib.join xs [47]).length ≤ Lib.lens xs + xs.length := by
  cases xs with
  | nil => simp [Lib.join, List.intercalate]
  | cons x r => rw [Lib.join_length]; simp; omega

set_option maxHeartbeats 400000 in
set_option maxRecDepth 100000 in
theorem clean_any (s : Str) (hs : s.length ≤ 9223372036854775807) (w : World) :
    Calls Try.prog 11 #[.string (B s)] w fun e w' => e = .returned (.tuple #[.string (B (cleanS s)), .int .i64 (parseS s).2]) ∧ Below w.heap.size w w' := by
  have HP := hid_in (parse_any s hs w)
  have HL := hid_in (parse_sum s)
  have HC : Hid (cleanS s = if (parseS s).2 = 0 then showS (parseS s).1 else []) := rfl
  generalize cleanS s = cs at HC ⊢
  generalize parseS s = R at HP HL HC ⊢
  obtain ⟨xs, k⟩ := R
  simp only at HP HL HC ⊢
  by_cases hk : k = 0
  · subst hk
    have hcs : cs = showS xs := by rw [HC.out, if_pos rfl]
    subst hcs
    clear HC
    go_enter Try.func11, Try.ntmps11
    go_wp2_with (first
      | (go_at_call 9; refine HP.out.mono ?_; rintro e w' ⟨v, rfl, hn, hb⟩; obtain ⟨p, cap, rfl, hr⟩ := hn.rd; have HR := hid_in hr; have HB := hid_in hb; clear hr hn hb)
      | (go_at_call 17; refine (show_any xs p cap w' HR.out (by have := HL.out; omega) (by have := join_le xs; have := HL.out; omega)).mono ?_; rintro e w2 ⟨rfl, hb⟩; have HB2 := hid_in hb; clear hb))
    go_ret2
    exact ⟨rfl, HB.out.trans (HB2.out.mono HB.out.size)⟩
  · have hcs : cs = [] := by rw [HC.out, if_neg hk]
    subst hcs
    have hk2 : (k != 0) = true := by simpa using hk
    have HK := hid_in hk
    clear hk HC
    go_enter Try.func11, Try.ntmps11
    go_wp2_with (go_at_call 9; refine HP.out.mono ?_; rintro e w' ⟨v, rfl, hn, hb⟩; have HB := hid_in hb; clear hn hb)
    go_ret2
    exact ⟨rfl, HB.out⟩

set_option maxHeartbeats 400000 in
set_option maxRecDepth 100000 in
theorem awake_any (w : World) : Calls Try.prog 8 #[] w fun e w' => e = .returned (.bool true) ∧ Below w.heap.size w w' := by
  have h1 := clean_any [47, 97, 47, 46, 47, 98, 47, 47, 99, 47, 46, 46, 47, 100, 47] (by simp)
  have h2 := parse_any [97] (by simp)
  rw [show cleanS [47, 97, 47, 46, 47, 98, 47, 47, 99, 47, 46, 46, 47, 100, 47] = [47, 97, 47, 98, 47, 100] by decide +kernel, show (parseS [47, 97, 47, 46, 47, 98, 47, 47, 99, 47, 46, 46, 47, 100, 47]).2 = 0 by decide +kernel] at h1
  rw [show (parseS [97]).2 = 40 by decide +kernel] at h2
  have H1 := hid_in h1
  have H2 := hid_in h2
  clear h1 h2
  have hT := toL [47, 97, 47, 98, 47, 100]
  generalize B [47, 97, 47, 98, 47, 100] = r at H1 hT
  go_enter Try.func8, Try.ntmps8
  go_wp2_with (first
    | (go_at_call 11; refine (H1.out _).mono ?_; rintro e w' ⟨rfl, hb⟩; have HB := hid_in hb; clear hb)
    | (go_at_call 9; refine (H2.out _).mono ?_; rintro e w2 ⟨v, rfl, hn, hb⟩; have HB2 := hid_in hb; clear hb hn))
  go_ret
  exact ⟨rfl, HB.out.trans (HB2.out.mono HB.out.size)⟩
end Go.Proofs.Ytodfdinocnhaoaa
