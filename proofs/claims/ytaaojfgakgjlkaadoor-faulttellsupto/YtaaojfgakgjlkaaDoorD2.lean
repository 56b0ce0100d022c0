/-
  The pile of errors that the statement makes by the program.
-/
import Derived.Test.YtaaojfgakgjlkaaDoorD1
namespace Go.Proofs.YtaaojfgakgjlkaaDoor
open Go.RowKit

/-- the steps in memory -/
def Steps (W : World) (b o : Nat) (ss : List St) : Prop := ∀ (j : Nat) s, ss[j]? = some s →
  W.cell? ⟨b, o + j * 5, none⟩ = some (.int .i64 s.K) ∧ W.cell? ⟨b, o + j * 5 + 1, none⟩ = some (.string (B s.op)) ∧ W.cell? ⟨b, o + j * 5 + 2, none⟩ = some (.string (B s.path)) ∧ W.cell? ⟨b, o + j * 5 + 3, none⟩ = some (.int .i64 s.code) ∧ W.cell? ⟨b, o + j * 5 + 4, none⟩ = some (.int .i64 s.N)

/-- the blocks of a pile's errors: of the call's own, and not the pile's row -/
def Ap (base : Nat) (W : World) (v : Value) (b : Nat) : Prop := base ≤ b ∧ b < W.heap.size ∧ some b ≠ v.ownBlock
def PileP (W : World) (base : Nat) (v : Value) (os : List (Option Tr)) : Prop :=
  ∃ us : List Value, W.ownsRow base 30 1 v us.length us ∧ us.length = os.length ∧ (∀ (j : Nat) o u, os[j]? = some o → us[j]? = some u → IsOA (Ap base W v) W o u)
theorem PileP.nil (W : World) (base : Nat) : PileP W base (.slice none 0 0) [] := ⟨[], World.ownsRow_nil _ _ _ _, rfl, fun j o u h => by simp at h⟩
theorem PileP.below {W W' : World} {base : Nat} {v : Value} {os : List (Option Tr)} (h : PileP W base v os) (hb : Below W.heap.size W W') : PileP W' base v os := by
  obtain ⟨us, h1, h2, h3⟩ := h
  refine ⟨us, ⟨h1.1, ?_⟩, h2, fun j o u ho hu => isOA_keep (fun b hb' => ⟨hb'.1, Nat.lt_of_lt_of_le hb'.2.1 hb.size, hb'.2.2⟩) (fun b hb' => hb.block b hb'.2.1) (h3 j o u ho hu)⟩
  rcases h1.2 with h | ⟨g, cap, cur, hv, h4, hg, rest⟩
  · exact .inl h
  · exact .inr ⟨g, cap, cur, hv, h4, (hb.block g (Array.getElem?_eq_some_iff.1 hg).1).trans hg, rest⟩
theorem PileP.shape {W : World} {base : Nat} {v : Value} {os : List (Option Tr)} (h : PileP W base v os) : ∃ p c, v = .slice p os.length c := by
  obtain ⟨us, h1, h2, _⟩ := h
  rcases h1.2 with ⟨rfl, h0⟩ | ⟨g, cap, cur, rfl, _⟩
  · exact ⟨none, 0, by rw [← h2, h0]⟩
  · exact ⟨_, _, by rw [h2]⟩
/-- one error more -/
theorem PileP.snoc {W Wt w1 : World} {base : Nat} {v : Value} {os : List (Option Tr)} {us : List Value} (_h1 : W.ownsRow base 30 1 v us.length us) (h2 : us.length = os.length) (h3 : ∀ (j : Nat) o u, os[j]? = some o → us[j]? = some u → IsOA (Ap base W v) W o u)
    (hb : Below W.heap.size W Wt) {g k cap : Nat} {u : Value} {o : Option Tr} (hk : us.length = k) (hown : w1.ownsRow base 30 1 (.slice (some ⟨g, 0, none⟩) (k + 1) cap) (k + 1) (us ++ [u])) (hgrow : Wt.grownBy w1 v.ownBlock) (hg : v.ownBlock = some g ∨ g = Wt.heap.size)
    (hu : IsOA (fun b => base ≤ b ∧ b < Wt.heap.size ∧ some b ≠ v.ownBlock) Wt o u) : PileP w1 base (.slice (some ⟨g, 0, none⟩) (k + 1) cap) (os ++ [o]) := by
  have key : ∀ b, base ≤ b ∧ b < Wt.heap.size ∧ some b ≠ v.ownBlock → Ap base w1 (.slice (some ⟨g, 0, none⟩) (k + 1) cap) b := by
    rintro b ⟨e1, e2, e3⟩
    refine ⟨e1, Nat.lt_of_lt_of_le e2 hgrow.size, ?_⟩
    simp only [Value.ownBlock]
    rcases hg with hg | hg
    · rw [← hg]; exact e3
    · intro e; cases e; omega
  have key2 : ∀ b, base ≤ b ∧ b < Wt.heap.size ∧ some b ≠ v.ownBlock → w1.heap[b]? = Wt.heap[b]? := fun b hb' => hgrow.block b hb'.2.1 hb'.2.2
  refine ⟨us ++ [u], by rw [List.length_append, hk]; exact hown, by simp [h2], fun j o' u' ho hu' => ?_⟩
  by_cases hj : j < us.length
  · rw [List.getElem?_append_left (by rw [← h2]; exact hj)] at ho
    rw [List.getElem?_append_left hj] at hu'
    refine isOA_keep (fun b hb' => key b ⟨hb'.1, Nat.lt_of_lt_of_le hb'.2.1 hb.size, hb'.2.2⟩) (fun b hb' => ?_) (h3 j o' u' ho hu')
    exact (key2 b ⟨hb'.1, Nat.lt_of_lt_of_le hb'.2.1 hb.size, hb'.2.2⟩).trans (hb.block b hb'.2.1)
  · have hj2 : j = us.length := by
      have := (List.getElem?_eq_some_iff.1 hu').1
      simp at this; omega
    subst hj2
    rw [List.getElem?_append_right (by rw [h2]; exact Nat.le_refl _), h2, Nat.sub_self] at ho
    rw [List.getElem?_append_right (Nat.le_refl _), Nat.sub_self] at hu'
    simp at ho hu'
    subst ho hu'
    exact isOA_keep key key2 hu
theorem cell_new' (W : World) (u : Value) (t : TypeId) (b : Nat) (hb : W.heap.size = b) : ∀ (j : Nat) x, [u][j]? = some x → (W.alloc (.cells #[u] t)).cell? ((⟨b, 0, none⟩ : Addr).add j) = some x := by
  subst hb; exact cell_one_new _ _ _
theorem step_le (p : List (Option Tr)) (s : St) : (stepP p s).length ≤ p.length + 1 := by
  unfold stepP stepC
  split
  · simp
  · split <;> simp <;> omega
  · have : cut2 s.N p.length ≤ p.length := by unfold cut2; omega
    simp; omega
  · simp
  · simp
theorem fold_le (ss : List St) (p : List (Option Tr)) : (ss.foldl stepP p).length ≤ p.length + ss.length := by
  induction ss generalizing p with
  | nil => simp
  | cons s r ih => rw [List.foldl_cons]; have h1 := ih (stepP p s); have h2 := step_le p s; simp; omega
def upto (ss : List St) (i : Nat) : List (Option Tr) := (ss.take i).foldl stepP []
theorem upto_le (ss : List St) (i : Nat) : (upto ss i).length ≤ i := by
  unfold upto
  have h1 := fold_le (ss.take i) []
  have h2 : (ss.take i).length ≤ i := by rw [List.length_take]; omega
  simp at h1; omega
theorem upto_succ {ss : List St} {i : Nat} {s : St} (h : ss[i]? = some s) : upto ss (i + 1) = stepP (upto ss i) s := by
  unfold upto; rw [take_snocO h]; simp
theorem tmod5 (k : Int) : ∃ c : Nat, c < 5 ∧ uint k % 5 = c ∧ (IntKind.u64.wrap k).tmod 5 = (c : Int) := by
  refine ⟨uint k % 5, by omega, rfl, ?_⟩
  have h := u64_nonneg k
  unfold uint
  rw [Int.tmod_eq_emod_of_nonneg h]
  omega

theorem own_lt {W : World} {base : Nat} {e : TypeId} {size n : Nat} {v : Value} {xs : List Value} (h : W.ownsRow base e size v n xs) (k : Nat) (hk : v.ownBlock = some k) : k < W.heap.size := by
  rcases h.2 with ⟨rfl, _⟩ | ⟨g, cap, cur, rfl, _, hg, _⟩
  · simp [Value.ownBlock] at hk
  · obtain rfl : g = k := by simpa [Value.ownBlock] using hk
    exact (Array.getElem?_eq_some_iff.1 hg).1
theorem own_new {W : World} {base : Nat} {e : TypeId} {size n : Nat} {v : Value} {xs : List Value} (h : W.ownsRow base e size v n xs) (k : Nat) (hk : W.heap.size ≤ k) : some k ≠ v.ownBlock := by
  intro he
  have := own_lt h k he.symm
  omega
theorem heap_mid (W : World) (y z : Obj) (b : Nat) (hb : b = W.heap.size) : ((W.alloc y).alloc z).heap[b]? = some y := by
  subst hb
  rw [Below.heap_alloc (W.alloc y) z W.heap.size (by simp)]
  exact World.alloc_heap_new W y
theorem isA_flt {A : Nat → Prop} {W : World} {b : Nat} {op path : Str} {t : Tr} {ev : Value} (hb : W.heap[b]? = some (.cells #[.string (B op), .string (B path), ev] 47 (0, 0))) (hA : A b) (ht : IsA A W t ev) : IsA A W (.flt op path t) (.iface 42 (.pointer (some ⟨b, 0, none⟩))) := by
  unfold IsA
  exact ⟨b, ev, rfl, hA, hb, ht⟩

theorem row_put {W : World} {g : Nat} {cur : Array Value} {e : TypeId} (h : W.heap[g]? = some (.cells cur e (0, 0))) (i : Nat) (v : Value) : (W.setCell ⟨g, i, none⟩ v).heap[g]? = some (.cells (cur.set! i v) e (0, 0)) := by
  simp only [World.setCell, Array.getElem?_modify, if_true, h]
  simp
/-- the last error is put anew -/
theorem PileP.put {W w1 : World} {base g j cap : Nat} {os : List (Option Tr)} {us : List Value} {cur : Array Value} {u : Value} {o : Option Tr} (hlen : us.length = os.length) (hk : us.length = j + 1) (hare : ∀ (x : Nat) o u, os[x]? = some o → us[x]? = some u → IsOA (Ap base W (.slice (some ⟨g, 0, none⟩) (j + 1) cap)) W o u) (hb : base ≤ g) (hcap : j + 1 ≤ cap) (hcm : cap ≤ maxLen) (hs : cur.size = cap * 1) (ht : cur.toList.take ((j + 1) * 1) = us) (hg1 : w1.heap[g]? = some (.cells (cur.set! j u) 30 (0, 0))) (hsz : W.heap.size ≤ w1.heap.size) (hblk : ∀ b, b < W.heap.size → b ≠ g → w1.heap[b]? = W.heap[b]?) (hu : IsOA (Ap base w1 (.slice (some ⟨g, 0, none⟩) (j + 1) cap)) w1 o u) : PileP w1 base (.slice (some ⟨g, 0, none⟩) (j + 1) cap) (os.dropLast ++ [o]) := by
  have hl : (us.take j ++ [u]).length = j + 1 := by simp; omega
  have hd : os.dropLast = os.take j := by rw [List.dropLast_eq_take, ← hlen, hk]; rfl
  refine ⟨us.take j ++ [u], ⟨by simp, .inr ⟨g, cap, cur.set! j u, by rw [hl], hb, hg1, by rw [hl]; exact hcap, hcm, by simpa using hs, ?_⟩⟩, by rw [hl, hd]; simp; omega, fun x o' u' h1 h2 => ?_⟩
  · rw [hl, ← ht]
    simp only [Nat.mul_one, Array.set!_eq_setIfInBounds, Array.toList_setIfInBounds]
    have hj : j < cur.toList.length := by simp; omega
    rw [List.take_take, Nat.min_eq_left (by omega), List.take_add_one, List.take_set_of_le (Nat.le_refl _), List.getElem?_set_self hj]
    rfl
  · rw [hd] at h1
    have hx : x < j + 1 := by have := (List.getElem?_eq_some_iff.1 h2).1; omega
    by_cases hxj : x < j
    · rw [List.getElem?_append_left (by simp; omega), List.getElem?_take, if_pos hxj] at h1 h2
      refine isOA_keep (fun b hb' => ⟨hb'.1, Nat.lt_of_lt_of_le hb'.2.1 hsz, hb'.2.2⟩) (fun b hb' => hblk b hb'.2.1 (fun e => hb'.2.2 (by rw [e]; rfl))) (hare x o' u' h1 h2)
    · obtain rfl : x = j := by omega
      have e1 : (os.take x).length = x := by simp; omega
      have e2 : (us.take x).length = x := by simp; omega
      rw [List.getElem?_append_right (by omega), e1, Nat.sub_self] at h1
      rw [List.getElem?_append_right (by omega), e2, Nat.sub_self] at h2
      simp at h1 h2
      subst h1 h2
      exact hu
theorem put_wrap {W : World} {base g j cap : Nat} {os : List (Option Tr)} {us : List Value} {cur : Array Value} {op : Str} {T : Tr} {t : TypeId} {x : Value} {st : Obj} (hlen : us.length = os.length) (hk : us.length = j + 1) (hare : ∀ (x : Nat) o u, os[x]? = some o → us[x]? = some u → IsOA (Ap base W (.slice (some ⟨g, 0, none⟩) (j + 1) cap)) W o u) (hb : base ≤ g) (hcap : j + 1 ≤ cap) (hcm : cap ≤ maxLen) (hs : cur.size = cap * 1) (ht : cur.toList.take ((j + 1) * 1) = us) (hg : W.heap[g]? = some (.cells cur 30 (0, 0))) (hE : IsA (Ap base W (.slice (some ⟨g, 0, none⟩) (j + 1) cap)) W T (.iface t x)) (hbs : base ≤ W.heap.size) (w1 : World) (hw : w1 = (((W.setCell ⟨g, j, none⟩ (.iface 42 (.pointer (some ⟨W.heap.size + 1, 0, none⟩)))).alloc st).alloc (.cells #[.string (B op), .string { data := #[] }, .iface t x] 47)).drew) : PileP w1 base (.slice (some ⟨g, 0, none⟩) (j + 1) cap) (os.dropLast ++ [wrapO op (some T)]) := by
  have hgl : g < W.heap.size := (Array.getElem?_eq_some_iff.1 hg).1
  have hh : w1.heap = (((W.setCell ⟨g, j, none⟩ (.iface 42 (.pointer (some ⟨W.heap.size + 1, 0, none⟩)))).alloc st).alloc (.cells #[.string (B op), .string { data := #[] }, .iface t x] 47)).heap := by rw [hw]; rfl
  have hsz : w1.heap.size = W.heap.size + 1 + 1 := by rw [hh]; simp
  have hblk : ∀ b, b < W.heap.size → b ≠ g → w1.heap[b]? = W.heap[b]? := by
    intro b h1 h2
    rw [hh, Below.heap_alloc _ _ _ (by simp; omega), Below.heap_alloc _ _ _ (by simp; omega)]
    exact Below.heap_setCell _ _ _ _ h2
  refine PileP.put (u := .iface 42 (.pointer (some ⟨W.heap.size + 1, 0, none⟩))) hlen hk hare hb hcap hcm hs ht ?_ (by omega) hblk ?_
  · exact (by rw [hh, Below.heap_alloc _ _ _ (by simp; omega), Below.heap_alloc _ _ _ (by simp; omega)]; exact row_put hg j _)
  · refine isA_flt ?_ ⟨by omega, by omega, ?_⟩ (isA_keep (fun b hb' => ⟨hb'.1, by have := hb'.2.1; omega, hb'.2.2⟩) (fun b hb' => hblk b hb'.2.1 (fun e => hb'.2.2 (by rw [e]; rfl))) T _ hE)
    · rw [hh]
      have := World.alloc_heap_new (((W.setCell ⟨g, j, none⟩ (.iface 42 (.pointer (some ⟨W.heap.size + 1, 0, none⟩)))).alloc st)) (.cells #[.string (B op), .string { data := #[] }, .iface t x] 47)
      have e : ((W.setCell ⟨g, j, none⟩ (.iface 42 (.pointer (some ⟨W.heap.size + 1, 0, none⟩)))).alloc st).heap.size = W.heap.size + 1 := by simp
      rw [e] at this
      exact this
    · intro e
      have : W.heap.size + 1 = g := by simpa [Value.ownBlock] using e
      omega
theorem step1_last {os : List (Option Tr)} {j : Nat} {oj : Option Tr} (s : St) (hl : os.length = j + 1) (h : os[j]? = some oj) : stepC 1 os s = os.dropLast ++ [wrapO s.op oj] := by
  have hne : os ≠ [] := by rintro rfl; simp at hl
  unfold stepC
  rw [if_neg hne, List.getLastD_eq_getLast?, List.getLast?_eq_getElem?, hl]
  simp [h]

/-- All of the last errors -/
theorem all_cut (base g x r m c' : Nat) (os : List (Option Tr)) (us : List Value) (W : World) (st : Obj) (cur : Array Value) (v : Value) (hlen : us.length = os.length) (hk : us.length = m + r) (hare : ∀ (x : Nat) o u, os[x]? = some o → us[x]? = some u → IsOA (Ap base W v) W o u) (hg : W.heap[g]? = some (.cells cur 30 (0, 0))) (ht : cur.toList.take ((m + r) * 1) = us) (hx : 0 < r → x = m) (hc : r ≤ c') (hc9 : c' ≤ 9223372036854775807) (h40 : m + r < 40) :
    Calls Tryd.prog 23 #[.slice (some ⟨g, x, none⟩) r c'] (W.alloc st) fun e w' => ∃ v', e = .returned v' ∧ IsOA (fun b => Ap base W v b ∨ (W.heap.size ≤ b ∧ b < w'.heap.size)) w' (allO (os.drop m)) v' ∧ Below W.heap.size W w' ∧ W.heap.size + 1 ≤ w'.heap.size := by
  have hgl : g < W.heap.size := (Array.getElem?_eq_some_iff.1 hg).1
  have hl : (us.drop m).length = r := by rw [List.length_drop]; omega
  have key : Errs (Ap base W v) (W.alloc st) (some ⟨g, x, none⟩) c' (os.drop m) (us.drop m) := {
    len := by rw [List.length_drop, List.length_drop, hlen]
    le := by rw [hl]; exact hc
    big := hc9
    nil := fun h => by cases h
    cells := ⟨g, x, fun _ => ⟨rfl, by simp; omega⟩, fun j u hu => by
      have hj := (List.getElem?_eq_some_iff.1 hu).1
      rw [hl] at hj
      rw [hx (by omega), Below.cell (Below.alloc (Below.refl W.heap.size W) (Nat.le_refl _) st) (p := ⟨g, m + j, none⟩) hgl, cell_of_row W g (m + j) _ _ (0, 0) hg]
      rw [List.getElem?_drop, ← ht, Nat.mul_one, List.getElem?_take, if_pos (by omega), Array.getElem?_toList] at hu
      exact hu⟩
    are := fun j o u h1 h2 => by
      rw [List.getElem?_drop] at h1 h2
      exact isOA_keep (fun _ h => h) (fun b hb => Below.heap_alloc _ _ _ hb.2.1) (hare _ o u h1 h2) }
  have h := all_any _ _ _ _ _ _ key (fun b hb => by have := hb.2.1; simp; omega) (by omega)
  rw [hl] at h
  refine h.mono ?_
  rintro e w' ⟨r', rfl, hi, hb⟩
  have hs := hb.size
  simp at hs
  refine ⟨r', rfl, isOA_keep (fun b hb' => ?_) (fun b hb' => rfl) hi, ((Below.refl W.heap.size W).alloc (Nat.le_refl _) st).trans (hb.mono (by simp)), hs⟩
  rcases hb' with h1 | ⟨h1, h2⟩
  · exact .inl h1
  · simp at h1; exact .inr ⟨by omega, h2⟩
theorem row_empty (W : World) (base : Nat) (hb : base ≤ W.heap.size) : (W.alloc (.cells #[] 30)).ownsRow base 30 1 (.slice (some ⟨W.heap.size, 0, none⟩) 0 0) 0 [] :=
  ⟨rfl, .inr ⟨W.heap.size, 0, #[], rfl, hb, World.alloc_heap_new W _, by omega, by unfold maxLen; omega, rfl, rfl⟩⟩
/-- the errors ahead of the cut, and those behind it as one -/
theorem pile_cut {W w2 w3 w4 : World} {base m g4 cap4 : Nat} {os : List (Option Tr)} {us : List Value} {v0 v3 r : Value} {o : Option Tr} {tmp : Obj} (hlen : us.length = os.length) (hm : m ≤ us.length) (hare : ∀ (x : Nat) o u, os[x]? = some o → us[x]? = some u → IsOA (Ap base W v0) W o u) (hbs : base ≤ W.heap.size) (h2 : Below W.heap.size W w2)
    (hr : IsOA (fun b => Ap base W v0 b ∨ (W.heap.size ≤ b ∧ b < w2.heap.size)) w2 o r) (h3 : Below w2.heap.size w2 w3) (hown3 : w3.ownsRow base 30 1 v3 m (us.take m)) (hv3 : ∀ k, v3.ownBlock = some k → w2.heap.size ≤ k)
    (hown4 : w4.ownsRow base 30 1 (.slice (some ⟨g4, 0, none⟩) (m + 1) cap4) (m + 1) (us.take m ++ [r])) (hgrow : (w3.alloc tmp).grownBy w4 v3.ownBlock) (hg : v3.ownBlock = some g4 ∨ g4 = (w3.alloc tmp).heap.size) : PileP w4 base (.slice (some ⟨g4, 0, none⟩) (m + 1) cap4) (os.take m ++ [o]) := by
  have hl : (us.take m).length = m := by simp; omega
  have s2 := h2.size
  have s3 := h3.size
  have hne : ∀ b, b < w2.heap.size → some b ≠ v3.ownBlock := fun b hb e => by have := hv3 b e.symm; omega
  refine PileP.snoc (W := w3) (Wt := w3.alloc tmp) (us := us.take m) (by rw [hl]; exact hown3) (by rw [hl]; simp; omega) (fun x o' u' h5 h6 => ?_) ((Below.refl _ _).alloc (Nat.le_refl _) _) hl hown4 hgrow hg ?_
  · have hx : x < m := by have := (List.getElem?_eq_some_iff.1 h6).1; omega
    rw [List.getElem?_take, if_pos hx] at h5 h6
    exact isOA_keep (fun b hb => ⟨hb.1, by have := hb.2.1; omega, hne b (by have := hb.2.1; omega)⟩) (fun b hb => (h3.block b (by have := hb.2.1; omega)).trans (h2.block b hb.2.1)) (hare x o' u' h5 h6)
  · refine isOA_keep (fun b hb => ?_) (fun b hb => ?_) hr
    · rcases hb with hb | hb
      · exact ⟨hb.1, by have := hb.2.1; simp; omega, hne b (by have := hb.2.1; omega)⟩
      · exact ⟨by omega, by simp; omega, hne b hb.2⟩
    · have hb2 : b < w2.heap.size := by
        rcases hb with hb | hb
        · have := hb.2.1; omega
        · exact hb.2
      exact (Below.heap_alloc _ _ _ (by omega)).trans (h3.block b hb2)
theorem row_cells {W w2 : World} {g m r : Nat} {cur : Array Value} {us : List Value} (hg : W.heap[g]? = some (.cells cur 30 (0, 0))) (ht : cur.toList.take ((m + r) * 1) = us) (h2 : Below W.heap.size W w2) (j : Nat) (u : Value) (hu : (us.take m)[j]? = some u) : (w2.alloc (.cells #[] 30)).cell? ((⟨g, 0, none⟩ : Addr).add j) = some u := by
  have hgl : g < W.heap.size := (Array.getElem?_eq_some_iff.1 hg).1
  have hs := h2.size
  have hj := (List.getElem?_eq_some_iff.1 hu).1
  rw [List.length_take] at hj
  have e : ((⟨g, 0, none⟩ : Addr).add j) = ⟨g, j, none⟩ := by simp [Addr.add]; omega
  rw [e, Below.cell (Below.alloc h2 hs _) (p := ⟨g, j, none⟩) hgl, cell_of_row W g j _ _ (0, 0) hg]
  rw [List.getElem?_take, if_pos (by omega), ← ht, Nat.mul_one, List.getElem?_take, if_pos (by omega), Array.getElem?_toList] at hu
  exact hu
theorem take_one {A : Nat → Prop} {W : World} {os : List (Option Tr)} {us : List Value} (hare : ∀ (x : Nat) o u, os[x]? = some o → us[x]? = some u → IsOA A W o u) (hlen : us.length = os.length) (m : Nat) : ∀ u ∈ us.take m, u.oneCell' = true := by
  intro u hu
  obtain ⟨x, hx⟩ := List.mem_iff_getElem?.1 (List.mem_of_mem_take hu)
  have hxl := (List.getElem?_eq_some_iff.1 hx).1
  obtain ⟨o, ho⟩ : ∃ o, os[x]? = some o := ⟨_, List.getElem?_eq_getElem (by omega)⟩
  exact isOA_one (hare x o u ho hx)
theorem cut_own {v3 : Value} {w2 : World} (h : v3.ownBlock = (Value.slice (some ⟨w2.heap.size, 0, none⟩) 0 0).ownBlock ∨ v3.ownBlock = some (w2.alloc (.cells #[] 30)).heap.size) : ∀ k, v3.ownBlock = some k → w2.heap.size ≤ k := by
  intro k hk
  rcases h with h | h
  · rw [h] at hk; simp [Value.ownBlock] at hk; omega
  · rw [h] at hk; simp at hk; omega
theorem isOA_shape {A : Nat → Prop} {W : World} {o : Option Tr} {v : Value} (h : IsOA A W o v) : v = .nilIface ∨ ∃ t x, v = .iface t x := by
  cases o with
  | none => exact .inl h
  | some T => exact .inr (isA_iface h)
theorem cell_arr (W : World) (X : Array Value) (v : Value) (t : TypeId) (hX : X = #[v]) : ∀ (j : Nat) x, [v][j]? = some x → (W.alloc (.cells X t)).cell? ((⟨W.heap.size, 0, none⟩ : Addr).add j) = some x := by
  subst hX; exact cell_one_new _ _ _
theorem cell_arr' (W : World) (X : Array Value) (v : Value) (t : TypeId) (b : Nat) (hb : W.heap.size = b) (hX : X = #[v]) : ∀ (j : Nat) x, [v][j]? = some x → (W.alloc (.cells X t)).cell? ((⟨b, 0, none⟩ : Addr).add j) = some x := by
  subst hb; exact cell_arr W X v t hX
theorem all_nil (base : Nat) (W : World) (st : Obj) (v : Value) :
    Calls Tryd.prog 23 #[.slice none 0 0] (W.alloc st) fun e w' => ∃ v', e = .returned v' ∧ IsOA (fun b => Ap base W v b ∨ (W.heap.size ≤ b ∧ b < w'.heap.size)) w' (allO []) v' ∧ Below W.heap.size W w' ∧ W.heap.size + 1 ≤ w'.heap.size := by
  have key : Errs (Ap base W v) (W.alloc st) none 0 [] [] := {
    len := rfl
    le := by simp
    big := by omega
    nil := fun _ => ⟨rfl, rfl⟩
    cells := ⟨0, 0, fun h => absurd rfl h, fun j u hu => by simp at hu⟩
    are := fun j o u h1 h2 => by simp at h1 }
  refine (all_any _ _ _ _ _ _ key (fun b hb => by have := hb.2.1; simp; omega) (by simp)).mono ?_
  rintro e w' ⟨r', rfl, hi, hb⟩
  have hs := hb.size
  simp at hs
  refine ⟨r', rfl, isOA_keep (fun b hb' => ?_) (fun b hb' => rfl) hi, ((Below.refl W.heap.size W).alloc (Nat.le_refl _) st).trans (hb.mono (by simp)), hs⟩
  rcases hb' with h1 | ⟨h1, h2⟩
  · exact .inl h1
  · simp at h1; exact .inr ⟨by omega, h2⟩
end Go.Proofs.YtaaojfgakgjlkaaDoor
