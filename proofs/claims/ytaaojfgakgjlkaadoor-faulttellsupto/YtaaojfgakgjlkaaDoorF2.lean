/-
  The reference's pile: what lies behind a cut, as one.
-/
import Derived.Test.YtaaojfgakgjlkaaDoorF0
namespace Go.Proofs.YtaaojfgakgjlkaaDoor
open Go.RowKit

theorem row_emptyR (W : World) (base : Nat) (hb : base ≤ W.heap.size) : (W.alloc (.cells #[] 33)).ownsRow base 33 5 (.slice (some ⟨W.heap.size, 0, none⟩) 0 0) 0 [] :=
  ⟨rfl, .inr ⟨W.heap.size, 0, #[], rfl, hb, World.alloc_heap_new W _, by omega, by unfold maxLen; omega, rfl, rfl⟩⟩
theorem row_at {W : World} {g n : Nat} {cur : Array Value} {uss : List (List Value)} {us : List Value} (hg : W.heap[g]? = some (.cells cur 33 (0, 0))) (ht : cur.toList.take (n * 5) = uss.flatten) (h5 : ∀ us ∈ uss, us.length = 5) (hl : uss.length = n) {x y : Nat} {u : Value} (hx : uss[x]? = some us) (hy : us[y]? = some u) : W.cell? ⟨g, x * 5 + y, none⟩ = some u := by
  have h := flat_at h5 hx hy
  have hlt := (List.getElem?_eq_some_iff.1 h).1
  rw [flat_len h5, hl] at hlt
  rw [← ht, List.getElem?_take, if_pos hlt, Array.getElem?_toList] at h
  rw [cell_of_row W g (x * 5 + y) _ _ (0, 0) hg]
  exact h
theorem five_drop {uss : List (List Value)} (h5 : ∀ us ∈ uss, us.length = 5) (m : Nat) : ∀ us ∈ uss.drop m, us.length = 5 := fun us hu => h5 us (List.mem_of_mem_drop hu)
theorem five_take {uss : List (List Value)} (h5 : ∀ us ∈ uss, us.length = 5) (m : Nat) : ∀ us ∈ uss.take m, us.length = 5 := fun us hu => h5 us (List.mem_of_mem_take hu)
theorem one_all {A : Nat → Prop} {W : World} {os : List (Option Tr)} {uss : List (List Value)} (hlen : uss.length = os.length) (h : ∀ (j : Nat) o us, os[j]? = some o → uss[j]? = some us → IsROA A W o us) : ∀ u ∈ uss.flatten, u.oneCell' = true := by
  intro u hu
  obtain ⟨us, hus, hu2⟩ := List.mem_flatten.1 hu
  obtain ⟨x, hx⟩ := List.mem_iff_getElem?.1 hus
  have hxl := (List.getElem?_eq_some_iff.1 hx).1
  obtain ⟨o, ho⟩ : ∃ o, os[x]? = some o := ⟨_, List.getElem?_eq_getElem (by omega)⟩
  exact isROA_one (h x o us ho hx) u hu2
theorem flat_drop {uss : List (List Value)} (h5 : ∀ us ∈ uss, us.length = 5) (m : Nat) : (uss.drop m).flatten = uss.flatten.drop (m * 5) := by
  induction m generalizing uss with
  | zero => simp
  | succ m ih =>
    cases uss with
    | nil => simp
    | cons k ks =>
      have hk : k.length = 5 := h5 k (by simp)
      have hd : k.drop ((m + 1) * 5) = [] := List.drop_of_length_le (by omega)
      rw [List.drop_succ_cons, ih (fun us hu => h5 us (by simp [hu])), List.flatten_cons, List.drop_append, hd, List.nil_append, hk, show (m + 1) * 5 - 5 = m * 5 by omega]
theorem flat_take {uss : List (List Value)} (h5 : ∀ us ∈ uss, us.length = 5) (m : Nat) : (uss.take m).flatten = uss.flatten.take (m * 5) := by
  induction m generalizing uss with
  | zero => simp
  | succ m ih =>
    cases uss with
    | nil => simp
    | cons k ks =>
      have hk : k.length = 5 := h5 k (by simp)
      have hd : k.take ((m + 1) * 5) = k := List.take_of_length_le (by omega)
      rw [List.take_succ_cons, List.flatten_cons, ih (fun us hu => h5 us (by simp [hu])), List.flatten_cons, List.take_append, hd, hk, show (m + 1) * 5 - 5 = m * 5 by omega]
/-- the cells of the row, from an error on -/
theorem row_from {W W1 : World} {g n : Nat} {cur : Array Value} {uss : List (List Value)} (hg : W.heap[g]? = some (.cells cur 33 (0, 0))) (ht : cur.toList.take (n * 5) = uss.flatten) (hb : Below W.heap.size W W1) (x m : Nat) (hx : x = m * 5) (h5 : ∀ us ∈ uss, us.length = 5) : ∀ (j : Nat) u, (uss.drop m).flatten[j]? = some u → W1.cell? ((⟨g, x, none⟩ : Addr).add j) = some u := by
  intro j u hu
  subst hx
  have hgl : g < W.heap.size := (Array.getElem?_eq_some_iff.1 hg).1
  rw [flat_drop h5, List.getElem?_drop, ← ht] at hu
  have hlt := (List.getElem?_eq_some_iff.1 hu).1
  rw [List.length_take] at hlt
  rw [List.getElem?_take, if_pos (by omega), Array.getElem?_toList] at hu
  have e : ((⟨g, m * 5, none⟩ : Addr).add j) = ⟨g, m * 5 + j, none⟩ := by simp [Addr.add]
  rw [e, hb.cell (p := ⟨g, m * 5 + j, none⟩) hgl, cell_of_row W g (m * 5 + j) _ _ (0, 0) hg]
  exact hu
theorem row_to {W W1 : World} {g n : Nat} {cur : Array Value} {uss : List (List Value)} (hg : W.heap[g]? = some (.cells cur 33 (0, 0))) (ht : cur.toList.take (n * 5) = uss.flatten) (hb : Below W.heap.size W W1) (m : Nat) (h5 : ∀ us ∈ uss, us.length = 5) : ∀ (j : Nat) u, (uss.take m).flatten[j]? = some u → W1.cell? ((⟨g, 0, none⟩ : Addr).add j) = some u := by
  intro j u hu
  rw [flat_take h5, List.getElem?_take] at hu
  split at hu
  · exact row_from hg ht hb 0 0 (by omega) h5 j u (by simpa using hu)
  · cases hu
/-- what was copied reads as errors -/
theorem copy_rerrs {base base2 m r : Nat} {os : List (Option Tr)} {uss : List (List Value)} {W w2 : World} {v0 v2 : Value} (hlen : uss.length = os.length) (hk : uss.length = m + r) (hare : ∀ (x : Nat) o u, os[x]? = some o → uss[x]? = some u → IsROA (Ap base W v0) W o u) (hown : w2.ownsRow base2 33 5 v2 r (uss.drop m).flatten) (hb : Below W.heap.size W w2) : ∃ p2 c2, v2 = .slice p2 r c2 ∧ RErrs (Ap base W v0) w2 p2 c2 (os.drop m) (uss.drop m) := by
  have hl : (uss.drop m).length = r := by rw [List.length_drop]; omega
  have h5 := five_drop (five_all hlen hare) m
  have hA : ∀ (j : Nat) o us, (os.drop m)[j]? = some o → (uss.drop m)[j]? = some us → IsROA (Ap base W v0) w2 o us := fun j o us h1 h2 => by
    rw [List.getElem?_drop] at h1 h2
    exact isROA_keep (fun _ h => h) (fun b hb' => hb.block b hb'.2.1) (hare _ o us h1 h2)
  rcases hown.2 with ⟨rfl, h0⟩ | ⟨g, c, cur, rfl, hgb, hgr, hgc, hgm, hgs, hgt⟩
  · subst h0
    have he : uss.drop m = [] := List.eq_nil_of_length_eq_zero hl
    exact ⟨none, 0, rfl, by rw [List.length_drop, List.length_drop, hlen], by omega, by omega, ⟨0, 0, fun h => absurd he h, fun j i us u h => by rw [he] at h; simp at h⟩, hA⟩
  · refine ⟨_, c, rfl, by rw [List.length_drop, List.length_drop, hlen], by omega, by unfold maxLen at hgm; omega, ⟨g, 0, fun _ => ⟨rfl, (Array.getElem?_eq_some_iff.1 hgr).1⟩, fun j i us u h1 h2 => ?_⟩, hA⟩
    rw [show 0 + j * 5 + i = j * 5 + i by omega]
    exact row_at hgr hgt h5 hl h1 h2
theorem rall_r {A : Nat → Prop} {p : Option Addr} {cap r : Nat} {os : List (Option Tr)} {uss : List (List Value)} {w : World} (he : RErrs A w p cap os uss) (hA : ∀ b, A b → b < w.heap.size) (hr : uss.length = r) (hl : r ≤ 1000) :
    Calls Tryd.prog 24 #[.slice p r cap] w fun e w' => ∃ r, e = .returned (.agg (List.toArray r)) ∧ IsROA (fun b => A b ∨ (w.heap.size ≤ b ∧ b < w'.heap.size)) w' (allO os) r ∧ Below w.heap.size w w' := by
  subst hr
  exact rall_any A p cap os uss w he hA hl
theorem wp_world {P : Program} {c : Code} {Q : Exit → Act → World → Prop} {a : Act} {W W' : World} (h : W = W') (k : Code.wp P c Q a W') : Code.wp P c Q a W := h ▸ k
/-- an append onto a row of one's own, at a step of a region that draws -/
theorem step_app {w : World} {ops : Array Oper} {o : Oper} {a : Act} {K : Act → World → Prop} {Q : Exit → Act → World → Prop} {E : Prop} (hgd : o.guard = none) (s x : Operand) (ho : o.op = .call { callee := .builtin .append, args := #[s, x], argTypes := #[27, 27] })
    (base : Nat) (i : TypeInfo) (z : Value) (hi : Tryd.prog.info? 33 = some i) (hz : i.zero = some z) (hsize : i.size = 5) (hby : i.bytes = 72) (hzs : z.cells.size = 5)
    (v : Value) (n : Nat) (xs : List Value) (hs : a.eval s = v) (hown : w.ownsRow base 33 5 v n xs)
    (ad : Addr) (m c : Nat) (news : List Value) (hx : a.eval x = .slice (some ad) m c) (hl : news.length = m * 5) (hnews : ∀ (j : Nat) u, news[j]? = some u → w.cell? (ad.add j) = some u) (h1 : ∀ u ∈ news, u.oneCell' = true)
    (h63 : n + m ≤ 1000) (hbase : base ≤ w.heap.size)
    (h : ∀ v' w', w'.ownsRow base 33 5 v' (n + m) (xs ++ news) → w.grownBy w' v.ownBlock → K (a.put o.dst v') w') :
    if Region.wanted o (yielded ops a.tmps) = true then Oper.wp Tryd.prog o a w K Q else E := by
  have hw : Region.wanted o (yielded ops a.tmps) = true := by simp [Region.wanted, hgd]
  rw [if_pos hw]
  exact wp_append_own w s x 27 ho base 33 i z 5 72 Tryd.underlying27 hi hz hsize hby hzs (by decide) v n xs hs hown ad m c news hx hl hnews h1 (by unfold maxLen; omega) (by omega) hbase fun v' w' h2 h3 _ => h v' w' h2 h3
/-- behind the cut: what was ahead of it, and all behind it as one -/
theorem pile_cutR {W w2 w3 W9 w5 : World} {base m : Nat} {os : List (Option Tr)} {uss : List (List Value)} {v0 v5 : Value} {o : Option Tr} {rr : List Value} (hlen : uss.length = os.length) (hm : m ≤ uss.length) (hare : ∀ (x : Nat) o u, os[x]? = some o → uss[x]? = some u → IsROA (Ap base W v0) W o u) (hbs : base ≤ W.heap.size) (h2 : Below W.heap.size W w2) (h3 : Below w2.heap.size w2 w3)
    (hr : IsROA (fun b => Ap base W v0 b ∨ (w2.heap.size ≤ b ∧ b < w3.heap.size)) w3 o rr) (h9 : Below w3.heap.size w3 W9) (h5 : Below W9.heap.size W9 w5) (hown : w5.ownsRow W9.heap.size 33 5 v5 (m + 1) ((uss.take m).flatten ++ rr)) : PileR w5 base v5 (os.take m ++ [o]) := by
  have hl : (uss.take m).length = m := by simp; omega
  have s2 := h2.size
  have s3 := h3.size
  have s9 := h9.size
  have s5 := h5.size
  have hl2 : (uss.take m ++ [rr]).length = m + 1 := by simp; omega
  have hob : ∀ k, v5.ownBlock = some k → W9.heap.size ≤ k := fun k e => own_ge hown k e
  have key : ∀ b, base ≤ b → b < w3.heap.size → Ap base w5 v5 b := fun b h1 h4 => ⟨h1, by omega, fun e => by have := hob b e.symm; omega⟩
  have keep : ∀ b, b < w3.heap.size → w5.heap[b]? = w3.heap[b]? := fun b hb => (h5.block b (by omega)).trans (h9.block b hb)
  have hown' : w5.ownsRow base 33 5 v5 (m + 1) (uss.take m ++ [rr]).flatten := by
    have e : (uss.take m ++ [rr]).flatten = (uss.take m).flatten ++ rr := by simp
    rw [e]
    refine ⟨hown.1, ?_⟩
    rcases hown.2 with h | ⟨g, c, cur, hv, h4, rest⟩
    · exact .inl h
    · exact .inr ⟨g, c, cur, hv, by omega, rest⟩
  refine ⟨uss.take m ++ [rr], by rw [hl2]; exact hown', by rw [hl2]; simp; omega, fun x o' u' h6 h7 => ?_⟩
  have hx : x < m + 1 := by have := (List.getElem?_eq_some_iff.1 h7).1; omega
  have e1 : (os.take m).length = m := by simp; omega
  by_cases hxm : x < m
  · rw [List.getElem?_append_left (by omega), List.getElem?_take, if_pos hxm] at h6 h7
    exact isROA_keep (fun b hb => key b hb.1 (by have := hb.2.1; omega)) (fun b hb => (keep b (by have := hb.2.1; omega)).trans ((h3.block b (by have := hb.2.1; omega)).trans (h2.block b hb.2.1))) (hare x o' u' h6 h7)
  · obtain rfl : x = m := by omega
    rw [List.getElem?_append_right (by omega), e1, Nat.sub_self] at h6
    rw [List.getElem?_append_right (by omega), hl, Nat.sub_self] at h7
    simp at h6 h7
    subst h6 h7
    refine isROA_keep (fun b hb => ?_) (fun b hb => ?_) hr
    · rcases hb with hb | hb
      · exact key b hb.1 (by have := hb.2.1; omega)
      · exact key b (by omega) hb.2
    · refine keep b ?_
      rcases hb with hb | hb
      · have := hb.2.1; omega
      · exact hb.2
theorem kid_two {W w4 : World} {E : Obj} {X : Array Value} {c : Nat} (h : ((W.alloc E).alloc (.cells X 33)).drew.grownBy w4 (Value.slice (some ⟨W.heap.size, 0, none⟩) 0 c).ownBlock) : w4.heap[W.heap.size + 1]? = some (.cells X 33 (0, 0)) := by
  refine (h.block _ ?_ ?_).trans ?_
  · show _ < ((W.alloc E).alloc (.cells X 33)).heap.size
    simp
  · simp [Value.ownBlock]
  · have := World.alloc_heap_new (W.alloc E) (.cells X 33)
    rw [show (W.alloc E).heap.size = W.heap.size + 1 by simp] at this
    exact this
theorem kid_one {W w4 : World} {E : Obj} {X : Array Value} {c : Nat} (h : ((W.alloc (.cells X 33)).alloc E).drew.grownBy w4 (Value.slice (some ⟨W.heap.size + 1, 0, none⟩) 0 c).ownBlock) : w4.heap[W.heap.size]? = some (.cells X 33 (0, 0)) := by
  refine (h.block _ ?_ ?_).trans (heap_mid W _ _ _ rfl)
  · show _ < ((W.alloc (.cells X 33)).alloc E).heap.size
    simp; omega
  · simp [Value.ownBlock]
theorem row_emptyR1 (W : World) (K : Obj) : ((W.alloc K).alloc (.cells #[] 33)).ownsRow W.heap.size 33 5 (.slice (some ⟨W.heap.size + 1, 0, none⟩) 0 0) 0 [] := by
  have h := row_emptyR (W.alloc K) W.heap.size (by simp)
  rw [show (W.alloc K).heap.size = W.heap.size + 1 by simp] at h
  exact h
theorem rall_nil (A : Nat → Prop) (p : Option Addr) (w : World) (hA : ∀ b, A b → b < w.heap.size) :
    Calls Tryd.prog 24 #[.slice p 0 0] w fun e w' => ∃ r, e = .returned (.agg (List.toArray r)) ∧ IsROA (fun b => A b ∨ (w.heap.size ≤ b ∧ b < w'.heap.size)) w' (allO []) r ∧ Below w.heap.size w w' := by
  have he : RErrs A w p 0 [] [] := ⟨rfl, by simp, by omega, ⟨0, 0, fun h => absurd rfl h, fun j i us u h => by simp at h⟩, fun j o us h => by simp at h⟩
  exact rall_any A p 0 [] [] w he hA (by simp)
/-- an append of nothing, at a step of a region that draws -/
theorem step_none {w : World} {ops : Array Oper} {o : Oper} {a : Act} {K : Act → World → Prop} {Q : Exit → Act → World → Prop} {E : Prop} (hgd : o.guard = none) (s x : Operand) (ho : o.op = .call { callee := .builtin .append, args := #[s, x], argTypes := #[27, 27] })
    (base : Nat) (i : TypeInfo) (hi : Tryd.prog.info? 33 = some i) (v : Value) (n : Nat) (xs : List Value) (hs : a.eval s = v) (hown : w.ownsRow base 33 5 v n xs) (hx : a.eval x = .slice none 0 0)
    (h : K (a.put o.dst v) w) : if Region.wanted o (yielded ops a.tmps) = true then Oper.wp Tryd.prog o a w K Q else E := by
  have hw : Region.wanted o (yielded ops a.tmps) = true := by simp [Region.wanted, hgd]
  rw [if_pos hw]
  have hrun := run_append_owned_none (P := Tryd.prog) (w := w) base 27 o.type 33 i 5 Tryd.underlying27 hi v n xs hown
  unfold Oper.wp
  simp only [execOp, ho, resolve, invoke, builtin, Sem.run_bind, Sem.run_pure, Result.andThen_ok, List.map_toArray, List.map_cons, List.map_nil, hs, hx, hrun]
  exact h
theorem cells_newd (W : World) (vs : List Value) (X : Array Value) (t : TypeId) (hX : X = vs.toArray) (b : Nat) (hb : W.heap.size = b) : ∀ (j : Nat) x, vs[j]? = some x → (W.alloc (.cells X t)).drew.cell? ((⟨b, 0, none⟩ : Addr).add j) = some x := cells_new W vs X t hX b hb
theorem cells_mid (W : World) (vs : List Value) (X : Array Value) (t : TypeId) (E : Obj) (hX : X = vs.toArray) : ∀ (j : Nat) x, vs[j]? = some x → ((W.alloc (.cells X t)).alloc E).drew.cell? ((⟨W.heap.size, 0, none⟩ : Addr).add j) = some x := by
  subst hX
  exact World.news_of_block (w := ((W.alloc (.cells vs.toArray t)).alloc E).drew) (fr := (0, 0)) (heap_mid W _ E _ rfl)
theorem drewR {W : World} {base n : Nat} {v : Value} {xs : List Value} (h : W.ownsRow base 33 5 v n xs) : W.drew.ownsRow base 33 5 v n xs := h
end Go.Proofs.YtaaojfgakgjlkaaDoor
