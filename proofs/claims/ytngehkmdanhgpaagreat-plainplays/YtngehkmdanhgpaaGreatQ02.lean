/-
  The library's contracts that the walks use (strings.Join, slices.Equal, slices.Clone at texts), laid at this program. Names that are read out of memory; the walks of Show, Clean and awake. Two lists of names held against each other: the walks of Texts, Within, Compare, the program's and the reference's.
-/
import Derived.Shelf.Strings.OnBuilder
import Derived.Shelf.Slices.Equal
import Derived.Ground.Names2Prog
import Derived.Shelf.Slices.Clone
import Derived.Shelf.Slices.Empties2
import Derived.Test.YtngehkmdanhgpaaGreatRows
import Derived.Test.YtngehkmdanhgpaaGreatQ00
import Derived.Test.YtngehkmdanhgpaaGreatQ01
namespace Go.Proofs
open Go.Shelf Go.RowKit Go.Lib
def Tryz.lays156_ren : Go.Shelf.Ren := ⟨fun | 156 => 88 | 165 => 118 | 166 => 119 | 169 => 120 | 240 => 135 | 241 => 136 | 276 => 145 | 277 => 146 | n => n, fun | 31 => 35 | 9 => 9 | 3 => 3 | 4 => 4 | 0 => 0 | 20 => 20 | 72 => 142 | 76 => 146 | 70 => 139 | 37 => 140 | 75 => 145 | 127 => 162 | 164 => 171 | 5 => 5 | 80 => 148 | n => n, fun | n => n⟩
theorem Tryz.lays156 : Go.Proofs.Lays.n156 Tryz.prog Tryz.lays156_ren := {
  mixed := by kernel_rfl
  f156 := Tryz.func88.trans (congrArg some (by kernel_rfl))
  f165 := Tryz.func118.trans (congrArg some (by kernel_rfl))
  f166 := Tryz.func119.trans (congrArg some (by kernel_rfl))
  f169 := Tryz.func120.trans (congrArg some (by kernel_rfl))
  f240 := Tryz.func135.trans (congrArg some (by kernel_rfl))
  f241 := Tryz.func136.trans (congrArg some (by kernel_rfl))
  f276 := Tryz.func145.trans (congrArg some (by kernel_rfl))
  f277 := Tryz.func146.trans (congrArg some (by kernel_rfl))
  t0 := Tryz.underlying0
  a0 := Tryz.isAgg0
  z0 := Tryz.sizeOf0
  v0 := Tryz.zeroValue0
  t3 := Tryz.underlying3
  a3 := Tryz.isAgg3
  z3 := Tryz.sizeOf3
  v3 := Tryz.zeroValue3
  t4 := Tryz.underlying4
  a4 := Tryz.isAgg4
  z4 := Tryz.sizeOf4
  v4 := Tryz.zeroValue4
  t9 := Tryz.underlying9
  a9 := Tryz.isAgg9
  z9 := Tryz.sizeOf9
  v9 := Tryz.zeroValue9
  t20 := Tryz.underlying20
  a20 := Tryz.isAgg20
  z20 := Tryz.sizeOf20
  v20 := Tryz.zeroValue20
  t31 := Tryz.underlying35
  a31 := Tryz.isAgg35
  z31 := Tryz.sizeOf35
  v31 := Tryz.zeroValue35
  t37 := Tryz.underlying140
  a37 := Tryz.isAgg140
  z37 := Tryz.sizeOf140
  v37 := Tryz.zeroValue140
  t70 := Tryz.underlying139
  a70 := Tryz.isAgg139
  z70 := Tryz.sizeOf139
  v70 := Tryz.zeroValue139
  t72 := Tryz.underlying142
  a72 := Tryz.isAgg142
  z72 := Tryz.sizeOf142
  v72 := Tryz.zeroValue142
  t75 := Tryz.underlying145
  a75 := Tryz.isAgg145
  z75 := Tryz.sizeOf145
  v75 := Tryz.zeroValue145
  t76 := Tryz.underlying146
  a76 := Tryz.isAgg146
  z76 := Tryz.sizeOf146
  v76 := Tryz.zeroValue146
  t127 := Tryz.underlying162
  a127 := Tryz.isAgg162
  z127 := Tryz.sizeOf162
  v127 := Tryz.zeroValue162
  t164 := Tryz.underlying171
  a164 := Tryz.isAgg171
  z164 := Tryz.sizeOf171
  v164 := Tryz.zeroValue171 }
theorem Tryz.Builder_Extra_156 : Builder.Extra Tryz.prog Tryz.lays156_ren := {
  sizeBuilder := by kernel_rfl
  liesBuilder := by kernel_rfl
  t5 := Tryz.underlying5
  a5 := Tryz.isAgg5
  z5 := Tryz.sizeOf5
  v5 := Tryz.zeroValue5
  infoByte := by kernel_rfl
  cellsByte := by kernel_rfl
  sizeByte := by kernel_rfl
  neB5 := by decide }
theorem Tryz.strings_Join_none (a : Option Addr) (c : Nat) (sep : ByteArray) (w : World) :
    Calls Tryz.prog 88 #[.slice a 0 c, .string sep] w fun e w' => e = .returned (.string ⟨#[]⟩) ∧ w' = w := Any.strings_Join_none Tryz.lays156 Tryz.Builder_Extra_156 a c sep w
theorem Tryz.strings_Join (bk o c : Nat) (xs : List ByteArray) (sep : ByteArray) (w : World) (hcells : ∀ (j : Nat) x, xs[j]? = some x → w.cell? ⟨bk, o + j, none⟩ = some (.string x)) (hbk : bk < w.heap.size) (hN : xs.length ≤ 140737488355328) (hcap : xs.length ≤ c) (hlen : (Lib.join (xs.map (·.data.toList)) sep.data.toList).length ≤ 140737488355328) :
    Calls Tryz.prog 88 #[.slice (some ⟨bk, o, none⟩) xs.length c, .string sep] w fun e w' => e = .returned (.string ⟨(Lib.join (xs.map (·.data.toList)) sep.data.toList).toArray⟩) ∧ Below w.heap.size w w' := Any.strings_Join Tryz.lays156 Tryz.Builder_Extra_156 bk o c xs sep w hcells hbk hN hcap hlen
def Tryz.lays193_ren : Go.Shelf.Ren := ⟨fun | 193 => 103 | n => n, fun | 31 => 35 | 9 => 9 | 4 => 4 | 3 => 3 | 0 => 0 | n => n, fun | n => n⟩
theorem Tryz.lays193 : Go.Proofs.Lays.n193 Tryz.prog Tryz.lays193_ren := {
  mixed := by kernel_rfl
  f193 := Tryz.func103.trans (congrArg some (by kernel_rfl))
  t0 := Tryz.underlying0
  a0 := Tryz.isAgg0
  z0 := Tryz.sizeOf0
  v0 := Tryz.zeroValue0
  t3 := Tryz.underlying3
  a3 := Tryz.isAgg3
  z3 := Tryz.sizeOf3
  v3 := Tryz.zeroValue3
  t4 := Tryz.underlying4
  a4 := Tryz.isAgg4
  z4 := Tryz.sizeOf4
  v4 := Tryz.zeroValue4
  t9 := Tryz.underlying9
  a9 := Tryz.isAgg9
  z9 := Tryz.sizeOf9
  v9 := Tryz.zeroValue9
  t31 := Tryz.underlying35
  a31 := Tryz.isAgg35
  z31 := Tryz.sizeOf35
  v31 := Tryz.zeroValue35 }
theorem Tryz.slices_Equal_string (b1 o1 n c b2 o2 m d : Nat) (xs ys : List ByteArray) (w : World) (hx : n ≤ xs.length) (hy : m ≤ ys.length) (hbig : n ≤ 9223372036854775807) (hbig2 : m ≤ 9223372036854775807) (hc1 : ∀ j, j < xs.length → w.cell? ⟨b1, o1 + j, none⟩ = some (.string (xs.getD j ByteArray.empty))) (hc2 : ∀ j, j < ys.length → w.cell? ⟨b2, o2 + j, none⟩ = some (.string (ys.getD j ByteArray.empty))) :
    Calls Tryz.prog 103 #[.slice (some ⟨b1, o1, none⟩) n c, .slice (some ⟨b2, o2, none⟩) m d] w fun e w' => e = .returned (.bool (decide (xs.take n = ys.take m))) ∧ ∃ q, w' = w.drewN q := Any.slices_Equal_string Tryz.lays193 b1 o1 n c b2 o2 m d xs ys w hx hy hbig hbig2 hc1 hc2
theorem Tryz.slices_Equal_string_empty (a1 a2 : Option Addr) (c m d : Nat) (w : World) (hbig2 : m ≤ 9223372036854775807) :
    Calls Tryz.prog 103 #[.slice a1 0 c, .slice a2 m d] w fun e w' => e = .returned (.bool (decide (m = 0))) ∧ w' = w := Any.slices_Equal_string_empty Tryz.lays193 a1 a2 c m d w hbig2
def Tryz.laysNm216_ren : Go.Shelf.Ren := ⟨fun | 16 => 122 | n => n, fun | 24 => 35 | 9 => 9 | 4 => 4 | n => n, fun | n => n⟩
theorem Tryz.laysNm216 : Go.Proofs.Lays2.n16 Tryz.prog Tryz.laysNm216_ren := {
  mixed := by kernel_rfl
  f16 := Tryz.func122.trans (congrArg some (by kernel_rfl))
  t4 := Tryz.underlying4
  a4 := Tryz.isAgg4
  z4 := Tryz.sizeOf4
  v4 := Tryz.zeroValue4
  t9 := Tryz.underlying9
  a9 := Tryz.isAgg9
  z9 := Tryz.sizeOf9
  v9 := Tryz.zeroValue9
  t24 := Tryz.underlying35
  a24 := Tryz.isAgg35
  z24 := Tryz.sizeOf35
  v24 := Tryz.zeroValue35
  i9 := by kernel_rfl }
theorem Tryz.slices_Clone_string (b off n c : Nat) (zs : List ByteArray) (w : World) (hz : n ≤ zs.length) (hbig : n * 16 ≤ 140737488355328) (hc : ∀ j, j < zs.length → w.cell? ⟨b, off + j, none⟩ = some (.string (zs.getD j ByteArray.empty))) :
    Calls Tryz.prog 122 #[.slice (some ⟨b, off, none⟩) n c] w fun e w' => ∃ v', e = .returned v' ∧ w'.ownsRow w.heap.size 9 1 v' n ((zs.take n).map (Value.string)) ∧ v' ≠ .slice none 0 0 ∧ Below w.heap.size w w' := Any.slices_Clone_string Tryz.laysNm216 b off n c zs w hz hbig hc
theorem Tryz.slices_Clone_string_nil (n c : Nat) (w : World) :
    Calls Tryz.prog 122 #[.slice none n c] w fun e w' => e = .returned (.slice none 0 0) ∧ w' = w := Any.slices_Clone_string_nil Tryz.laysNm216 n c w
theorem Tryz.slices_Clone_string_zero (a : Addr) (c : Nat) (w : World) :
    Calls Tryz.prog 122 #[.slice (some a) 0 c] w fun e w' => ∃ v', e = .returned v' ∧ w'.ownsRow w.heap.size 9 1 v' 0 [] ∧ v' ≠ .slice none 0 0 ∧ Below w.heap.size w w' := Any.slices_Clone_string_zero Tryz.laysNm216 a c w
theorem Tryz.slices_Equal_string_lens (a1 a2 : Option Addr) (n c m d : Nat) (w : World) (hnm : n ≠ m) :
    Calls Tryz.prog 103 #[.slice a1 n c, .slice a2 m d] w fun e w' => e = .returned (.bool false) ∧ w' = w := Any.slices_Equal_string_lens Tryz.lays193 a1 a2 n c m d w hnm
end Go.Proofs
namespace Go.Proofs.YtngehkmdanhgpaaGreat.Vp
open Go.RowKit Go.Shelf
/-- the slice of this address and capacity reads as these names -/
structure Rd (w : World) (p : Option Addr) (xs : List Str) (cap : Nat) : Prop where
  le : xs.length ≤ cap
  big : cap ≤ 9223372036854775807
  nil : p = none → xs = [] ∧ cap = 0
  cells : ∃ b o, (xs ≠ [] → p = some ⟨b, o, none⟩ ∧ b < w.heap.size) ∧ ∀ (j : Nat) x, xs[j]? = some x → w.cell? ⟨b, o + j, none⟩ = some (sv x)
theorem Rd.below {w w' : World} {p : Option Addr} {xs : List Str} {cap : Nat} (h : Rd w p xs cap) (hb : Below w.heap.size w w') : Rd w' p xs cap := by
  obtain ⟨b, o, h1, h2⟩ := h.cells
  refine ⟨h.le, h.big, h.nil, b, o, fun hne => ⟨(h1 hne).1, Nat.lt_of_lt_of_le (h1 hne).2 hb.size⟩, fun j x hx => ?_⟩
  have hne : xs ≠ [] := by rintro rfl; simp at hx
  rw [hb.cell (p := ⟨b, o + j, none⟩) (h1 hne).2]
  exact h2 j x hx
theorem Rd.take {w : World} {p : Option Addr} {xs : List Str} {cap : Nat} (h : Rd w p xs cap) (n : Nat) (hn : n ≤ xs.length) : Rd w p (xs.take n) cap := by
  obtain ⟨b, o, h1, h2⟩ := h.cells
  refine ⟨by rw [List.length_take]; have := h.le; omega, h.big, fun e => ⟨by rw [(h.nil e).1]; simp, (h.nil e).2⟩, b, o, fun hne => h1 (by rintro rfl; simp at hne), fun j x hx => h2 j x ?_⟩
  rw [List.getElem?_take] at hx
  split at hx
  · exact hx
  · cases hx
theorem Nms.rd {W : World} {base : Nat} {v : Value} {xs : List Str} (h : Nms W base v xs) : ∃ p cap, v = .slice p xs.length cap ∧ Rd W p xs cap := by
  rcases h.2 with ⟨rfl, h0⟩ | ⟨g, cap, cur, rfl, hb, hg, hn, hm, hs, ht⟩
  · have hx : xs = [] := List.eq_nil_of_length_eq_zero h0
    subst hx
    exact ⟨none, 0, rfl, by simp, by omega, fun _ => ⟨rfl, rfl⟩, 0, 0, fun h => absurd rfl h, fun j x hx => by simp at hx⟩
  · refine ⟨_, _, rfl, hn, by unfold maxLen at hm; omega, (fun e => by cases e), g, 0, fun _ => ⟨rfl, (Array.getElem?_eq_some_iff.1 hg).1⟩, fun j x hx => ?_⟩
    have hc : W.cell? ⟨g, 0 + j, none⟩ = cur[j]? := by rw [Nat.zero_add]; rw [cell_of_row W g j _ _ (0, 0) hg]
    have hj : j < xs.length := (List.getElem?_eq_some_iff.1 hx).1
    have ht2 : (cur.toList.take (xs.length * 1))[j]? = (xs.map sv)[j]? := by rw [ht]
    rw [Nat.mul_one, List.getElem?_take, if_pos hj, List.getElem?_map, hx, Array.getElem?_toList] at ht2
    rw [hc, ht2]; rfl
theorem append_B (x y : Str) : B x ++ B y = B (x ++ y) := by
  refine ByteArray.ext ?_
  rw [ByteArray.data_append]
  simp [B]
/-- a path's text -/
def showS (xs : List Str) : Str := 47 :: Lib.join xs [47]
theorem map_bl (xs : List Str) : (xs.map B).map (·.data.toList) = xs := by
  rw [List.map_map]
  conv => rhs; rw [← List.map_id xs]
  exact List.map_congr_left fun x _ => bl_B x
theorem join_any (xs : List Str) (p : Option Addr) (cap : Nat) (w : World) (hr : Rd w p xs cap) (hn : xs.length ≤ 140737488355328) (hl : (Lib.join xs [47]).length ≤ 140737488355328) :
    Calls Tryz.prog 88 #[.slice p xs.length cap, .string ⟨#[47]⟩] w fun e w' => e = .returned (.string (B (Lib.join xs [47]))) ∧ Below w.heap.size w w' := by
  by_cases h0 : xs = []
  · subst h0
    refine (Tryz.strings_Join_none p cap ⟨#[47]⟩ w).mono fun e w' ⟨he, hw⟩ => ⟨he, hw ▸ Below.refl _ _⟩
  · obtain ⟨b, o, h1, h2⟩ := hr.cells
    obtain ⟨rfl, hb⟩ := h1 h0
    have hj := Tryz.strings_Join b o cap (xs.map B) ⟨#[47]⟩ w (fun j x hx => by
      rw [List.getElem?_map] at hx
      cases hy : xs[j]? with
      | none => rw [hy] at hx; cases hx
      | some y => rw [hy] at hx; cases hx; exact h2 j y hy) hb (by simpa using hn) (by simpa using hr.le) (by rw [map_bl]; exact hl)
    rw [map_bl] at hj
    simp only [List.length_map] at hj
    exact hj
set_option maxHeartbeats 400000 in
set_option maxRecDepth 100000 in
theorem show_any (xs : List Str) (p : Option Addr) (cap : Nat) (w : World) (hr : Rd w p xs cap) (hn : xs.length ≤ 140737488355328) (hl : (Lib.join xs [47]).length ≤ 140737488355328) :
    Calls Tryz.prog 51 #[.slice p xs.length cap] w fun e w' => e = .returned (.string (B (showS xs))) ∧ Below w.heap.size w w' := by
  have HJ := hid_in (join_any xs p cap w hr hn hl)
  have hsm : ¬ 9223372036854775807 < 1 + (B (Lib.join xs [47])).size := by rw [B_size]; omega
  have HA : Hid (({ data := #[47] } : ByteArray) ++ B (Lib.join xs [47]) = B (showS xs)) := append_B [47] _
  clear hr hn hl
  generalize B (Lib.join xs [47]) = j at hsm HA HJ
  generalize B (showS xs) = r at HA ⊢
  go_enter Tryz.func51, Tryz.ntmps51
  go_wp2_with (go_at_call 88; refine HJ.out.mono ?_; rintro e w' ⟨rfl, hb⟩; have HB := hid_in hb; clear hb)
  go_ret
  refine ⟨?_, HB.out⟩
  rw [← HA.out]; rfl
theorem pieces_sum (x : Str) : Lib.lens (piecesS x) + (piecesS x).length = x.length + 1 := by
  induction x with
  | nil => rfl
  | cons c r ih =>
    unfold piecesS
    by_cases h : c = 47
    · simp only [h, if_true, Lib.lens, List.map_cons, List.sum_cons, List.length_nil, List.length_cons] at ih ⊢; omega
    · simp only [h, if_false]
      split
      · rename_i h2; rw [h2] at ih; simp [Lib.lens] at ih ⊢
      · rename_i p ps h2; rw [h2] at ih; simp only [Lib.lens, List.map_cons, List.sum_cons, List.length_cons] at ih ⊢; omega
theorem step_sum (xs : List Str) (p : Str) : Lib.lens (stepS xs p) + (stepS xs p).length ≤ Lib.lens xs + xs.length + (p.length + 1) := by
  unfold stepS
  split
  · omega
  · split
    · have h1 : (xs.dropLast).length ≤ xs.length := by simp
      have h2 : Lib.lens xs.dropLast ≤ Lib.lens xs := by
        rcases List.eq_nil_or_concat xs with rfl | ⟨ys, y, rfl⟩
        · simp
        · simp [Lib.lens]
      omega
    · simp [Lib.lens]; omega
theorem names_sum (ps : List Str) : Lib.lens (namesS ps) + (namesS ps).length ≤ Lib.lens ps + ps.length := by
  have : ∀ (qs xs : List Str), Lib.lens (qs.foldl stepS xs) + (qs.foldl stepS xs).length ≤ Lib.lens xs + xs.length + (Lib.lens qs + qs.length) := by
    intro qs
    induction qs with
    | nil => intro xs; simp [Lib.lens]
    | cons q qs ih =>
      intro xs; rw [List.foldl_cons]
      have h1 := ih (stepS xs q); have h2 := step_sum xs q
      simp only [Lib.lens, List.map_cons, List.sum_cons, List.length_cons] at h1 h2 ⊢; omega
  have := this ps []
  simpa [namesS, Lib.lens] using this
theorem parse_sum (s : Str) : Lib.lens (parseS s).1 + (parseS s).1.length ≤ 256 := by
  unfold parseS
  split
  · simp [Lib.lens]
  · split
    · simp [Lib.lens]
    · split
      · simp [Lib.lens]
      · split
        · simp [Lib.lens]
        · have h1 := names_sum (piecesS (s.drop 1)); have h2 := pieces_sum (s.drop 1)
          have h3 : 1 ≤ s.length := by
            cases s with
            | nil => rename_i h _ _; exact absurd rfl h
            | cons c r => simp
          simp only [List.length_drop] at h2
          simp only at h1 ⊢
          omega
theorem join_le (xs : List Str) : (Lib.join xs [47]).length ≤ Lib.lens xs + xs.length := by
  cases xs with
  | nil => simp [Lib.join, List.intercalate]
  | cons x r => rw [Lib.join_length]; simp; omega
end Go.Proofs.YtngehkmdanhgpaaGreat.Vp
namespace Go.Proofs.YtngehkmdanhgpaaGreat.Vp
open Go.RowKit
theorem Rd.at_ {w : World} {p : Option Addr} {xs : List Str} {cap : Nat} (h : Rd w p xs cap) : ∃ b o, (xs ≠ [] → p = some ⟨b, o, none⟩) ∧ ∀ (j : Nat) x m, xs[j]? = some x → (w.drewN m).cell? ⟨b, o + j, none⟩ = some (.string (B x)) := by
  obtain ⟨b, o, h1, h2⟩ := h.cells
  refine ⟨b, o, fun hne => (h1 hne).1, fun j x m hx => ?_⟩
  have := h2 j x hx
  rw [show (w.drewN m).cell? ⟨b, o + j, none⟩ = w.cell? ⟨b, o + j, none⟩ by simp [World.cell?]]
  exact this
theorem take_snoc {xs : List Str} {i : Nat} {x : Str} (h : xs[i]? = some x) : xs.take (i + 1) = xs.take i ++ [x] := by
  rw [List.take_add_one, h]; rfl
theorem drew_ex {w wr : World} (h : ∃ m, wr = w.drewN m) : ∃ m, wr.drew = w.drewN m := by
  obtain ⟨m, rfl⟩ := h
  exact ⟨m + 1, rfl⟩
/-- whether a path is another one, or below it -/
def withinS (xs ys : List Str) : Bool := decide (ys.length ≤ xs.length ∧ xs.take ys.length = ys)
set_option maxHeartbeats 400000 in
set_option maxRecDepth 100000 in
theorem rwithin_any (xs ys : List Str) (p q : Option Addr) (c1 c2 : Nat) (w : World) (hx : Rd w p xs c1) (hy : Rd w q ys c2) :
    Calls Tryz.prog 58 #[.slice p xs.length c1, .slice q ys.length c2] w fun e w' => e = .returned (.bool (withinS xs ys)) ∧ ∃ m, w' = w.drewN m := by
  have hb1 : xs.length ≤ 9223372036854775807 := Nat.le_trans hx.le hx.big
  have hb2 : ys.length ≤ 9223372036854775807 := Nat.le_trans hy.le hy.big
  obtain ⟨R, hR⟩ : ∃ R, Hid (R = withinS xs ys) := ⟨_, rfl⟩
  rw [← hR.out]
  obtain ⟨bx, ox, px, hcx⟩ := hx.at_
  obtain ⟨b2, oy, py, hcy⟩ := hy.at_
  by_cases hl : ys.length ≤ xs.length
  · generalize hn : xs.length = n at *
    generalize hm : ys.length = k at *
    have Hn := hid_in hn
    have Hm := hid_in hm
    have Hl := hid_in hl
    have HCX := hid_in hcx
    have HCY := hid_in hcy
    have HPX := hid_in px
    have HPY := hid_in py
    have hd : ¬ (n < k) := by omega
    clear hn hm hcx hcy px py hx hy
    go_enter Tryz.func58, Tryz.ntmps58
    go_wp2_with fail
    go_loopw [5] (fun vi w' => Hid (∃ m, w' = w.drewN m) ∧ ∃ i : Nat, i ≤ k ∧ vi = .int .i64 (i : Int) ∧ Hid (xs.take i = ys.take i)) (fun vi _ => k - (intOf vi).toNat)
    case atStart => exact ⟨⟨0, rfl⟩, 0, by omega, rfl, rfl⟩
    case round =>
      obtain ⟨hm, i, hi, rfl, heq⟩ := hrel
      by_cases hlt : i < k
      · obtain ⟨x, hxi⟩ : ∃ d, xs[i]? = some d := ⟨_, List.getElem?_eq_getElem (by rw [Hn.out]; have := Hl.out; omega)⟩
        obtain ⟨y, hyi⟩ : ∃ d, ys[i]? = some d := ⟨_, List.getElem?_eq_getElem (by rw [Hm.out]; exact hlt)⟩
        have cx : wr.cell? ⟨bx, ox + i, none⟩ = some (.string (B x)) := by obtain ⟨m, hw⟩ := hm.out; rw [hw]; exact HCX.out i x m hxi
        have cy : wr.cell? ⟨b2, oy + i, none⟩ = some (.string (B y)) := by obtain ⟨m, hw⟩ := hm.out; rw [hw]; exact HCY.out i y m hyi
        obtain rfl := HPX.out (by rintro rfl; simp at hxi)
        obtain rfl := HPY.out (by rintro rfl; simp at hyi)
        have tx := toL x
        have ty := toL y
        generalize B x = sx at cx tx
        generalize B y = sy at cy ty
        have HX := hid_in hxi
        have HY := hid_in hyi
        clear hxi hyi
        go_wp2_with fail
        go_region
        go_wp2
        · have hne : x ≠ y := by have h : (!x == y) = true := by assumption
                                 simpa using h
          go_ret
          refine ⟨congrArg (fun z => Ending.returned (Value.bool z)) (Eq.trans ?_ hR.out.symm), drew_ex hm.out⟩
          symm
          refine decide_eq_false ?_
          rintro ⟨_, he⟩
          have h1 : (xs.take ys.length)[i]? = ys[i]? := by rw [he]
          rw [List.getElem?_take, if_pos (by rw [Hm.out]; exact hlt)] at h1
          have := HX.out.symm.trans (h1.trans HY.out)
          exact hne (by simpa using this)
        · have he : x = y := by have h : (!x == y) = false := by assumption
                                simpa using h
          have hsn : Hid (xs.take (i + 1) = ys.take (i + 1)) := by
            show _ = _
            rw [take_snoc HX.out, take_snoc HY.out, heq.out, he]
          first
            | exact ⟨⟨drew_ex hm.out, i + 1, by omega, by go_num, hsn⟩, by simp [intOf]; omega⟩
            | (go_roundw
               case rel =>
                 go_light
                 exact ⟨drew_ex hm.out, i + 1, by omega, by go_num, hsn⟩
               case measure => simp [intOf]; omega)
      · have hin : i = k := by omega
        subst hin
        go_wp2_with fail
        go_ret
        refine ⟨congrArg (fun z => Ending.returned (Value.bool z)) (Eq.trans ?_ hR.out.symm), hm.out⟩
        symm
        refine decide_eq_true ?_
        have := heq.out
        refine ⟨by rw [Hn.out, Hm.out]; exact Hl.out, ?_⟩
        rw [Hm.out, this, List.take_of_length_le (by have := Hm.out; omega)]
  · have HL := hid_in hl
    have hlt : xs.length < ys.length := by omega
    have HN : Hid (false = R) := by show _ = _; rw [hR.out]; symm; refine decide_eq_false ?_; rintro ⟨h, _⟩; exact hl h
    clear hl hx hy hcx hcy px py
    generalize xs.length = n at *
    generalize ys.length = k at *
    go_enter Tryz.func58, Tryz.ntmps58
    go_wp2_with fail
    go_ret
    refine ⟨congrArg (fun z => Ending.returned (Value.bool z)) (Eq.trans ?_ HN.out), 0, rfl⟩
    rfl
end Go.Proofs.YtngehkmdanhgpaaGreat.Vp
