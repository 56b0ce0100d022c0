/-
  The pile of errors as the reference has it: rows of five cells.
-/
import Derived.Test.YtaaojfgakgjlkaaDoorE1
namespace Go.Proofs.YtaaojfgakgjlkaaDoor
open Go.RowKit

def PileR (W : World) (base : Nat) (v : Value) (os : List (Option Tr)) : Prop :=
  ∃ uss : List (List Value), W.ownsRow base 33 5 v uss.length uss.flatten ∧ uss.length = os.length ∧ (∀ (j : Nat) o us, os[j]? = some o → uss[j]? = some us → IsROA (Ap base W v) W o us)
theorem PileR.nil (W : World) (base : Nat) : PileR W base (.slice none 0 0) [] := ⟨[], World.ownsRow_nil _ _ _ _, rfl, fun j o u h => by simp at h⟩
theorem PileR.below {W W' : World} {base : Nat} {v : Value} {os : List (Option Tr)} (h : PileR W base v os) (hb : Below W.heap.size W W') : PileR W' base v os := by
  obtain ⟨us, h1, h2, h3⟩ := h
  refine ⟨us, ⟨h1.1, ?_⟩, h2, fun j o u ho hu => isROA_keep (fun b hb' => ⟨hb'.1, Nat.lt_of_lt_of_le hb'.2.1 hb.size, hb'.2.2⟩) (fun b hb' => hb.block b hb'.2.1) (h3 j o u ho hu)⟩
  rcases h1.2 with h | ⟨g, cap, cur, hv, h4, hg, rest⟩
  · exact .inl h
  · exact .inr ⟨g, cap, cur, hv, h4, (hb.block g (Array.getElem?_eq_some_iff.1 hg).1).trans hg, rest⟩
/-- each has five cells -/
theorem five_all {A : Nat → Prop} {W : World} {os : List (Option Tr)} {uss : List (List Value)} (hlen : uss.length = os.length) (h : ∀ (j : Nat) o us, os[j]? = some o → uss[j]? = some us → IsROA A W o us) : ∀ us ∈ uss, us.length = 5 := by
  intro us hu
  obtain ⟨x, hx⟩ := List.mem_iff_getElem?.1 hu
  have hxl := (List.getElem?_eq_some_iff.1 hx).1
  obtain ⟨o, ho⟩ : ∃ o, os[x]? = some o := ⟨_, List.getElem?_eq_getElem (by omega)⟩
  exact isROA_len (h x o us ho hx)
/-- one error more -/
theorem PileR.snoc {W Wt w1 : World} {base : Nat} {v : Value} {os : List (Option Tr)} {uss : List (List Value)} (h2 : uss.length = os.length) (h3 : ∀ (j : Nat) o u, os[j]? = some o → uss[j]? = some u → IsROA (Ap base W v) W o u)
    (hb : Below W.heap.size W Wt) {g k cap : Nat} {us : List Value} {o : Option Tr} (hk : uss.length = k) (hown : w1.ownsRow base 33 5 (.slice (some ⟨g, 0, none⟩) (k + 1) cap) (k + 1) (uss.flatten ++ us)) (hgrow : Wt.grownBy w1 v.ownBlock) (hg : v.ownBlock = some g ∨ g = Wt.heap.size)
    (hu : IsROA (fun b => base ≤ b ∧ b < Wt.heap.size ∧ some b ≠ v.ownBlock) Wt o us) : PileR w1 base (.slice (some ⟨g, 0, none⟩) (k + 1) cap) (os ++ [o]) := by
  have key : ∀ b, base ≤ b ∧ b < Wt.heap.size ∧ some b ≠ v.ownBlock → Ap base w1 (.slice (some ⟨g, 0, none⟩) (k + 1) cap) b := by
    rintro b ⟨e1, e2, e3⟩
    refine ⟨e1, Nat.lt_of_lt_of_le e2 hgrow.size, ?_⟩
    simp only [Value.ownBlock]
    rcases hg with hg | hg
    · rw [← hg]; exact e3
    · intro e; cases e; omega
  have key2 : ∀ b, base ≤ b ∧ b < Wt.heap.size ∧ some b ≠ v.ownBlock → w1.heap[b]? = Wt.heap[b]? := fun b hb' => hgrow.block b hb'.2.1 hb'.2.2
  refine ⟨uss ++ [us], by rw [List.length_append, hk, List.flatten_append]; simpa using hown, by simp [h2], fun j o' u' ho hu' => ?_⟩
  by_cases hj : j < uss.length
  · rw [List.getElem?_append_left (by rw [← h2]; exact hj)] at ho
    rw [List.getElem?_append_left hj] at hu'
    refine isROA_keep (fun b hb' => key b ⟨hb'.1, Nat.lt_of_lt_of_le hb'.2.1 hb.size, hb'.2.2⟩) (fun b hb' => ?_) (h3 j o' u' ho hu')
    exact (key2 b ⟨hb'.1, Nat.lt_of_lt_of_le hb'.2.1 hb.size, hb'.2.2⟩).trans (hb.block b hb'.2.1)
  · have hj2 : j = uss.length := by
      have := (List.getElem?_eq_some_iff.1 hu').1
      simp at this; omega
    subst hj2
    rw [List.getElem?_append_right (by rw [h2]; exact Nat.le_refl _), h2, Nat.sub_self] at ho
    rw [List.getElem?_append_right (Nat.le_refl _), Nat.sub_self] at hu'
    simp at ho hu'
    subst ho hu'
    exact isROA_keep key key2 hu
theorem isRA_flt5 {A : Nat → Prop} {W : World} {g cap : Nat} {op path : Str} {t : Tr} {us : List Value} (hg : W.heap[g]? = some (.cells us.toArray 33 (0, 0))) (h5 : us.length = 5) (hA : A g) (h1 : 1 ≤ cap) (h2 : cap ≤ 9223372036854775807) (ht : IsRA A W t us) : IsRA A W (.flt op path t) [iv 2, iv 0, .string (B op), .string (B path), .slice (some ⟨g, 0, none⟩) 1 cap] := by
  unfold IsRA
  refine ⟨g, cap, us, rfl, hA, h1, h2, h5, fun i u hu => ?_, ht⟩
  rw [cell_of_row W g i _ _ (0, 0) hg]
  simpa using hu
theorem row_five {W : World} {g j : Nat} {cur : Array Value} {uss : List (List Value)} {us : List Value} (hg : W.heap[g]? = some (.cells cur 33 (0, 0))) (ht : cur.toList.take ((j + 1) * 5) = uss.flatten) (h5 : ∀ us ∈ uss, us.length = 5) (hl : uss.length = j + 1) {x y : Nat} {u : Value} (hx : uss[x]? = some us) (hy : us[y]? = some u) : W.cell? ⟨g, x * 5 + y, none⟩ = some u := by
  have h := flat_at h5 hx hy
  have hlt := (List.getElem?_eq_some_iff.1 h).1
  rw [flat_len h5, hl] at hlt
  rw [← ht, List.getElem?_take, if_pos hlt, Array.getElem?_toList] at h
  rw [cell_of_row W g (x * 5 + y) _ _ (0, 0) hg]
  exact h
/-- five cells of a row stored -/
def set5n (W : World) (g n : Nat) (a b c d e : Value) : World := ((((W.setCell ⟨g, n, none⟩ a).setCell ⟨g, n + 1, none⟩ b).setCell ⟨g, n + 2, none⟩ c).setCell ⟨g, n + 3, none⟩ d).setCell ⟨g, n + 4, none⟩ e
theorem below5n {B : Nat} {w W : World} (h : Below B w W) {g : Nat} (hg : B ≤ g) (n : Nat) (a b c d e : Value) : Below B w (set5n W g n a b c d e) :=
  ((((h.setCell (p := ⟨g, n, none⟩) hg a).setCell (p := ⟨g, n + 1, none⟩) hg b).setCell (p := ⟨g, n + 2, none⟩) hg c).setCell (p := ⟨g, n + 3, none⟩) hg d).setCell (p := ⟨g, n + 4, none⟩) hg e
theorem keep5n (W : World) (g n : Nat) (a b c d e : Value) (k : Nat) (h : k ≠ g) : (set5n W g n a b c d e).heap[k]? = W.heap[k]? := by
  unfold set5n
  rw [Below.heap_setCell _ _ _ _ h, Below.heap_setCell _ _ _ _ h, Below.heap_setCell _ _ _ _ h, Below.heap_setCell _ _ _ _ h, Below.heap_setCell _ _ _ _ h]
theorem size5n (W : World) (g n : Nat) (a b c d e : Value) : (set5n W g n a b c d e).heap.size = W.heap.size := by simp [set5n, World.setCell]
theorem row5n {W : World} {g : Nat} {cs : Array Value} {t : TypeId} (h : W.heap[g]? = some (.cells cs t (0, 0))) (n : Nat) (a b c d e : Value) : (set5n W g n a b c d e).heap[g]? = some (.cells (((((cs.set! n a).set! (n + 1) b).set! (n + 2) c).set! (n + 3) d).set! (n + 4) e) t (0, 0)) := by
  unfold set5n
  exact row_put (row_put (row_put (row_put (row_put h n a) (n + 1) b) (n + 2) c) (n + 3) d) (n + 4) e
theorem set_mid {F r : List Value} {n i : Nat} {v : Value} (h : F.length = n) : (F ++ r).set (n + i) v = F ++ r.set i v := by
  rw [List.set_append_right _ _ (by omega), h, Nat.add_sub_cancel_left]
theorem take5 {L F : List Value} {n : Nat} {us : List Value} (hF : F.length = n) (h5 : us.length = 5) (h : L.take (n + 5) = F ++ us) (a b c d e : Value) : (((((L.set n a).set (n + 1) b).set (n + 2) c).set (n + 3) d).set (n + 4) e).take (n + 5) = F ++ [a, b, c, d, e] := by
  obtain ⟨x0, x1, x2, x3, x4, rfl⟩ := five h5
  have hL : L = F ++ (x0 :: x1 :: x2 :: x3 :: x4 :: L.drop (n + 5)) := by
    have := (List.take_append_drop (n + 5) L).symm
    rw [h] at this
    simpa using this
  rw [hL]
  have e0 : ∀ r : List Value, (F ++ r).set n a = F ++ r.set 0 a := fun r => set_mid (i := 0) hF
  rw [e0]
  simp only [List.set_cons_zero]
  rw [set_mid hF, set_mid hF, set_mid hF, set_mid hF]
  simp only [List.set_cons_succ, List.set_cons_zero]
  rw [List.take_append, List.take_of_length_le (by omega), hF]
  simp
/-- the last error is put anew -/
theorem PileR.put {W w1 : World} {base g j cap : Nat} {os : List (Option Tr)} {uss : List (List Value)} {cur : Array Value} {a b c d e : Value} {o : Option Tr} (hlen : uss.length = os.length) (hk : uss.length = j + 1) (hare : ∀ (x : Nat) o u, os[x]? = some o → uss[x]? = some u → IsROA (Ap base W (.slice (some ⟨g, 0, none⟩) (j + 1) cap)) W o u) (hb : base ≤ g) (hcap : j + 1 ≤ cap) (hcm : cap ≤ maxLen) (hs : cur.size = cap * 5) (ht : cur.toList.take ((j + 1) * 5) = uss.flatten)
    (hg1 : w1.heap[g]? = some (.cells (((((cur.set! (j * 5) a).set! (j * 5 + 1) b).set! (j * 5 + 2) c).set! (j * 5 + 3) d).set! (j * 5 + 4) e) 33 (0, 0))) (hsz : W.heap.size ≤ w1.heap.size) (hblk : ∀ b, b < W.heap.size → b ≠ g → w1.heap[b]? = W.heap[b]?) (hu : IsROA (Ap base w1 (.slice (some ⟨g, 0, none⟩) (j + 1) cap)) w1 o [a, b, c, d, e]) : PileR w1 base (.slice (some ⟨g, 0, none⟩) (j + 1) cap) (os.dropLast ++ [o]) := by
  have h5 := five_all hlen hare
  have hl : (uss.take j ++ [[a, b, c, d, e]]).length = j + 1 := by simp; omega
  have hd : os.dropLast = os.take j := by rw [List.dropLast_eq_take, ← hlen, hk]; rfl
  obtain ⟨uj, huj⟩ : ∃ uj, uss[j]? = some uj := ⟨_, List.getElem?_eq_getElem (by omega)⟩
  have hsp : uss = uss.take j ++ [uj] := by
    have := take_snocO huj
    rw [List.take_of_length_le (by omega)] at this
    exact this
  have hF : (uss.take j).flatten.length = j * 5 := by
    rw [flat_len (fun us hu => h5 us (List.mem_of_mem_take hu)), List.length_take]
    congr 1; omega
  have hfl : (uss.take j ++ [[a, b, c, d, e]]).flatten = (uss.take j).flatten ++ [a, b, c, d, e] := by simp
  refine ⟨uss.take j ++ [[a, b, c, d, e]], ⟨by rw [hfl, List.length_append, hF, hl]; simp; omega, .inr ⟨g, cap, _, by rw [hl], hb, hg1, by rw [hl]; exact hcap, hcm, by simpa using hs, ?_⟩⟩, by rw [hl, hd]; simp; omega, fun x o' u' h1 h2 => ?_⟩
  · rw [hl, hfl]
    simp only [Array.set!_eq_setIfInBounds, Array.toList_setIfInBounds]
    rw [show (j + 1) * 5 = j * 5 + 5 by omega] at ht ⊢
    refine take5 hF (h5 uj (List.mem_of_getElem? huj)) ?_ a b c d e
    rw [ht]
    conv => lhs; rw [hsp]
    simp
  · rw [hd] at h1
    have hx : x < j + 1 := by have := (List.getElem?_eq_some_iff.1 h2).1; omega
    by_cases hxj : x < j
    · rw [List.getElem?_append_left (by simp; omega), List.getElem?_take, if_pos hxj] at h1 h2
      refine isROA_keep (fun b hb' => ⟨hb'.1, Nat.lt_of_lt_of_le hb'.2.1 hsz, hb'.2.2⟩) (fun b hb' => hblk b hb'.2.1 (fun e => hb'.2.2 (by rw [e]; rfl))) (hare x o' u' h1 h2)
    · obtain rfl : x = j := by omega
      have e1 : (os.take x).length = x := by simp; omega
      have e2 : (uss.take x).length = x := by simp; omega
      rw [List.getElem?_append_right (by omega), e1, Nat.sub_self] at h1
      rw [List.getElem?_append_right (by omega), e2, Nat.sub_self] at h2
      simp at h1 h2
      subst h1 h2
      exact hu
theorem put_wrapR {W : World} {base g j cap : Nat} {os : List (Option Tr)} {uss : List (List Value)} {cur : Array Value} {op : Str} {T : Tr} {us : List Value} {st : Obj} (hlen : uss.length = os.length) (hk : uss.length = j + 1) (hare : ∀ (x : Nat) o u, os[x]? = some o → uss[x]? = some u → IsROA (Ap base W (.slice (some ⟨g, 0, none⟩) (j + 1) cap)) W o u) (hb : base ≤ g) (hcap : j + 1 ≤ cap) (hcm : cap ≤ maxLen) (hs : cur.size = cap * 5) (ht : cur.toList.take ((j + 1) * 5) = uss.flatten) (hg : W.heap[g]? = some (.cells cur 33 (0, 0))) (hE : IsRA (Ap base W (.slice (some ⟨g, 0, none⟩) (j + 1) cap)) W T us) (h5 : us.length = 5) (hbs : base ≤ W.heap.size) (X : Array Value) (hX : X = us.toArray) (w1 : World) (hw : w1 = (((set5n W g (j * 5) (iv 2) (iv 0) (.string (B op)) e0 (.slice (some ⟨W.heap.size + 1, 0, none⟩) 1 1)).alloc st).alloc (.cells X 33)).drew) : PileR w1 base (.slice (some ⟨g, 0, none⟩) (j + 1) cap) (os.dropLast ++ [wrapO op (some T)]) := by
  subst hX
  have hgl : g < W.heap.size := (Array.getElem?_eq_some_iff.1 hg).1
  have hh : w1.heap = (((set5n W g (j * 5) (iv 2) (iv 0) (.string (B op)) e0 (.slice (some ⟨W.heap.size + 1, 0, none⟩) 1 1)).alloc st).alloc (.cells us.toArray 33)).heap := by rw [hw]; rfl
  have hs5 := size5n W g (j * 5) (iv 2) (iv 0) (.string (B op)) e0 (.slice (some ⟨W.heap.size + 1, 0, none⟩) 1 1)
  have hsz : w1.heap.size = W.heap.size + 1 + 1 := by rw [hh]; simp [hs5]
  have hblk : ∀ b, b < W.heap.size → b ≠ g → w1.heap[b]? = W.heap[b]? := by
    intro b h1 h2
    rw [hh, Below.heap_alloc _ _ _ (by simp [hs5]; omega), Below.heap_alloc _ _ _ (by rw [hs5]; omega)]
    exact keep5n _ _ _ _ _ _ _ _ _ h2
  refine PileR.put hlen hk hare hb hcap hcm hs ht (by rw [hh, Below.heap_alloc _ _ _ (by simp [hs5]; omega), Below.heap_alloc _ _ _ (by rw [hs5]; omega)]; exact row5n hg (j * 5) _ _ _ _ _) (by omega) hblk ?_
  have hnew : w1.heap[W.heap.size + 1]? = some (.cells us.toArray 33 (0, 0)) := by
    rw [hh]
    have := World.alloc_heap_new ((set5n W g (j * 5) (iv 2) (iv 0) (.string (B op)) e0 (.slice (some ⟨W.heap.size + 1, 0, none⟩) 1 1)).alloc st) (.cells us.toArray 33)
    rw [show ((set5n W g (j * 5) (iv 2) (iv 0) (.string (B op)) e0 (.slice (some ⟨W.heap.size + 1, 0, none⟩) 1 1)).alloc st).heap.size = W.heap.size + 1 by simp [hs5]] at this
    exact this
  exact isRA_flt5 (path := []) hnew h5 ⟨by omega, by omega, fun e => by
    have : W.heap.size + 1 = g := by simpa [Value.ownBlock] using e
    omega⟩ (Nat.le_refl _) (by decide) (isRA_keep (fun b hb' => ⟨hb'.1, by have := hb'.2.1; omega, hb'.2.2⟩) (fun b hb' => hblk b hb'.2.1 (fun e => hb'.2.2 (by rw [e]; rfl))) T _ hE)
theorem drop_last {os : List (Option Tr)} {j : Nat} (hl : os.length = j + 1) (h : os[j]? = some none) : os.dropLast ++ [none] = os := by
  have := take_snocO h
  rw [List.take_of_length_le (by omega)] at this
  rw [List.dropLast_eq_take, hl]
  exact this.symm
theorem none_one : ∀ u ∈ noneR, u.oneCell' = true := by
  intro u hu
  simp only [noneR, List.mem_cons, List.not_mem_nil, or_false] at hu
  rcases hu with rfl | rfl | rfl | rfl | rfl <;> rfl
end Go.Proofs.YtaaojfgakgjlkaaDoor
