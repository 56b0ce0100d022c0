/-
  A map whose keys are digests, as a function; what look-up, store, delete and len do to it.
-/
import Derived.Test.YtokjbmpiekadaaaDoorK0
namespace Go.Proofs.YtokjbmpiekadaaaDoor
open Go.RowKit
open Go.ChangeMaps (setBlock heap_setBlock_same heap_setBlock_other)

def upd (V : List Nat → Option Value) (d : List Nat) (v : Value) : List Nat → Option Value := fun x => if x = d then some v else V x
def del (V : List Nat → Option Value) (d : List Nat) : List Nat → Option Value := fun x => if x = d then none else V x

structure MapL (l : List MapEntry) (V : List Nat → Option Value) : Prop where
  keys : Dk l
  val : ∀ e ∈ l, ∀ d, e.key = dv d → V d = some e.val
  all : ∀ d v, V d = some v → ∃ e ∈ l, e.key = dv d
  one : ∀ (i j : Nat) (e e' : MapEntry), l[i]? = some e → l[j]? = some e' → e.key = e'.key → i = j

theorem MapL.nil : MapL [] (fun _ => none) := ⟨by intro e he; simp at he, by simp, by simp, by simp⟩
theorem MapL.push {l : List MapEntry} {V : List Nat → Option Value} (h : MapL l V) (d : List Nat) (hd : d.length = 32) (v : Value) (c : Nat) (hn : ∀ e ∈ l, e.key ≠ dv d) : MapL (l ++ [⟨dv d, v, c⟩]) (upd V d v) where
  keys e he := by
    rcases List.mem_append.1 he with he | he
    · exact h.keys e he
    · obtain rfl := List.mem_singleton.1 he
      exact ⟨d, hd, rfl⟩
  val e he d' hk := by
    unfold upd
    rcases List.mem_append.1 he with he | he
    · rw [if_neg (fun x => hn e he (by rw [hk, x]))]
      exact h.val e he d' hk
    · obtain rfl := List.mem_singleton.1 he
      rw [if_pos (dv_inj hk).symm]
  all d' v' hv := by
    unfold upd at hv
    by_cases hc : d' = d
    · exact ⟨_, List.mem_append_right _ (List.mem_singleton.2 rfl), by rw [hc]⟩
    · rw [if_neg hc] at hv
      obtain ⟨e, he, hk⟩ := h.all d' v' hv
      exact ⟨e, List.mem_append_left _ he, hk⟩
  one i j e e' hi hj hk := by
    rw [List.getElem?_append] at hi hj
    split at hi <;> split at hj
    · exact h.one i j e e' hi hj hk
    · rename_i h1 h2
      obtain ⟨h3, rfl⟩ := List.getElem?_eq_some_iff.1 hj
      simp at h3
      exact absurd (by rw [hk]; simp [h3]) (hn e (List.mem_of_getElem? hi))
    · rename_i h1 h2
      obtain ⟨h3, rfl⟩ := List.getElem?_eq_some_iff.1 hi
      simp at h3
      exact absurd (by rw [← hk]; simp [h3]) (hn e' (List.mem_of_getElem? hj))
    · rename_i h1 h2
      have h3 := (List.getElem?_eq_some_iff.1 hi).1
      have h4 := (List.getElem?_eq_some_iff.1 hj).1
      simp at h3 h4
      omega
theorem MapL.set {l : List MapEntry} {V : List Nat → Option Value} (h : MapL l V) (d : List Nat) (hd : d.length = 32) (v : Value) (i : Nat) (e0 : MapEntry) (h0 : l[i]? = some e0) (hk0 : e0.key = dv d) : MapL (l.set i { e0 with key := dv d, val := v }) (upd V d v) where
  keys e he := by
    rcases List.mem_or_eq_of_mem_set he with he | rfl
    · exact h.keys e he
    · exact ⟨d, hd, rfl⟩
  val e he d' hk := by
    unfold upd
    obtain ⟨j, hj, hje⟩ := List.getElem_of_mem he
    have hjq : (l.set i { e0 with key := dv d, val := v })[j]? = some e := by rw [List.getElem?_eq_getElem hj, hje]
    have hil : i < l.length := (List.getElem?_eq_some_iff.1 h0).1
    rw [List.getElem?_set] at hjq
    split at hjq
    · obtain rfl := Option.some.inj hjq
      rw [if_pos (dv_inj hk).symm]
    · rename_i hne
      have hm := List.mem_of_getElem? hjq
      rw [if_neg (fun x => hne (h.one i j e0 e h0 hjq (by rw [hk0, hk, x])))]
      exact h.val e hm d' hk
  all d' v' hv := by
    unfold upd at hv
    have hil : i < l.length := (List.getElem?_eq_some_iff.1 h0).1
    by_cases hc : d' = d
    · exact ⟨_, List.mem_set hil _, by rw [hc]⟩
    · rw [if_neg hc] at hv
      obtain ⟨e, he, hk⟩ := h.all d' v' hv
      obtain ⟨j, hj, hje⟩ := List.getElem_of_mem he
      have hne : i ≠ j := fun x => hc (by
        subst x
        rw [List.getElem?_eq_getElem hj, hje] at h0
        obtain rfl := Option.some.inj h0
        exact dv_inj (hk.symm.trans hk0))
      refine ⟨e, ?_, hk⟩
      refine List.mem_of_getElem? (i := j) ?_
      rw [List.getElem?_set_ne hne, List.getElem?_eq_getElem hj, hje]
  one a b e e' ha hb hk := by
    have key : ∀ (a : Nat) (e : MapEntry), (l.set i { e0 with key := dv d, val := v })[a]? = some e → ∃ e1, l[a]? = some e1 ∧ e1.key = e.key := by
      intro a e ha
      rw [List.getElem?_set] at ha
      split at ha
      · rename_i hia
        split at ha
        · obtain rfl := Option.some.inj ha
          exact ⟨e0, hia ▸ h0, hk0⟩
        · cases ha
      · exact ⟨e, ha, rfl⟩
    obtain ⟨e1, h1, k1⟩ := key a e ha
    obtain ⟨e2, h2, k2⟩ := key b e' hb
    exact h.one a b e1 e2 h1 h2 (by rw [k1, k2, hk])
theorem MapL.erase {l : List MapEntry} {V : List Nat → Option Value} (h : MapL l V) (d : List Nat) (i : Nat) (e0 : MapEntry) (h0 : l[i]? = some e0) (hk0 : e0.key = dv d) : MapL (l.eraseIdx i) (del V d) where
  keys e he := h.keys e ((List.eraseIdx_sublist _ _).subset he)
  val e he d' hk := by
    unfold del
    have hm := (List.eraseIdx_sublist _ _).subset he
    rw [if_neg ?_]
    · exact h.val e hm d' hk
    · intro hc
      subst hc
      obtain ⟨j, hj, hje⟩ := List.getElem_of_mem he
      have hjq : (l.eraseIdx i)[j]? = some e := by rw [List.getElem?_eq_getElem hj, hje]
      rw [List.getElem?_eraseIdx] at hjq
      split at hjq
      · have := h.one i j e0 e h0 hjq (by rw [hk0, hk]); omega
      · have := h.one i (j + 1) e0 e h0 hjq (by rw [hk0, hk]); omega
  all d' v' hv := by
    unfold del at hv
    by_cases hc : d' = d
    · rw [if_pos hc] at hv; cases hv
    · rw [if_neg hc] at hv
      obtain ⟨e, he, hk⟩ := h.all d' v' hv
      obtain ⟨j, hj, hje⟩ := List.getElem_of_mem he
      have hjq : l[j]? = some e := by rw [List.getElem?_eq_getElem hj, hje]
      have hne : j ≠ i := fun x => hc (by
        subst x
        rw [hjq] at h0
        obtain rfl := Option.some.inj h0
        exact dv_inj (hk.symm.trans hk0))
      refine ⟨e, ?_, hk⟩
      by_cases hlt : j < i
      · refine List.mem_of_getElem? (i := j) ?_
        rw [List.getElem?_eraseIdx, if_pos hlt, hjq]
      · refine List.mem_of_getElem? (i := j - 1) ?_
        rw [List.getElem?_eraseIdx, if_neg (by omega), show j - 1 + 1 = j by omega, hjq]
  one a b e e' ha hb hk := by
    rw [List.getElem?_eraseIdx] at ha hb
    split at ha <;> split at hb
    · exact h.one a b e e' ha hb hk
    · have := h.one a (b + 1) e e' ha hb hk; omega
    · have := h.one (a + 1) b e e' ha hb hk; omega
    · have := h.one (a + 1) (b + 1) e e' ha hb hk; omega

/-- block m of the world is a map with n keys, that reads as V -/
def MapOk (w : World) (m : Nat) (V : List Nat → Option Value) (n : Nat) : Prop := ∃ es clock, w.heap[m]? = some (.map es clock) ∧ MapL es.toList V ∧ es.size = n

theorem MapOk.lt {w : World} {m n : Nat} {V : List Nat → Option Value} (h : MapOk w m V n) : m < w.heap.size := by
  obtain ⟨es, clock, hb, _⟩ := h
  exact (Array.getElem?_eq_some_iff.1 hb).1
theorem MapOk.of_block {w w' : World} {m n : Nat} {V : List Nat → Option Value} (h : MapOk w m V n) (hb : w'.heap[m]? = w.heap[m]?) : MapOk w' m V n := by
  obtain ⟨es, clock, h1, h2⟩ := h
  exact ⟨es, clock, by rw [hb, h1], h2⟩
theorem MapOk.new (w : World) : MapOk (w.alloc (.map #[] 0)) w.heap.size (fun _ => none) 0 := ⟨#[], 0, (MapKept.heap_alloc w _).1, MapL.nil, rfl⟩
theorem MapOk.look {w : World} {m n : Nat} {V : List Nat → Option Value} (h : MapOk w m V n) (t e : TypeId) (ht : Tryd.prog.underlying t = some (.map 39 e)) (z : Value) (hz : (zeroValue e).run Tryd.prog w = .ok z w) (d : List Nat) (hd : d.length = 32) :
    (Instr.lookup t (.map (some m)) (dv d) true).run Tryd.prog w = .ok (.tuple #[(V d).getD z, .bool (V d).isSome]) w := by
  obtain ⟨es, clock, hb, hl, _⟩ := h
  rcases find39 d hd w es.toList hl.keys with ⟨h1, h2⟩ | ⟨j, e0, h1, h2, h3⟩
  · have hv : V d = none := by
      cases hc : V d with
      | none => rfl
      | some v => obtain ⟨e1, he, hk⟩ := hl.all d v hc; exact absurd hk (h2 e1 he)
    simp [Instr.lookup, run_underlying ht, MapKept.run_getObj_map hb, check39 _ d hd, h1, hz, Result.andThen, hv]
  · have hv := hl.val e0 (List.mem_of_getElem? h2) d h3
    simp [Instr.lookup, run_underlying ht, MapKept.run_getObj_map hb, check39 _ d hd, h1, Result.andThen, hv]
theorem MapOk.len {w : World} {m n : Nat} {V : List Nat → Option Value} (h : MapOk w m V n) (t e : TypeId) (ht : Tryd.prog.underlying t = some (.map 39 e)) (ty : TypeId) :
    (Builtin.len_ #[t] ty #[.map (some m)]).run Tryd.prog w = .ok (.int .i64 (n : Int)) w := by
  obtain ⟨es, clock, hb, hl, hn⟩ := h
  simp [Builtin.len_, run_underlying ht, MapKept.run_getObj_map hb, goInt, Result.andThen, hn]
theorem MapOk.store {w : World} {m n : Nat} {V : List Nat → Option Value} (h : MapOk w m V n) (t e : TypeId) (ht : Tryd.prog.underlying t = some (.map 39 e)) (d : List Nat) (hd : d.length = 32) (v : Value) :
    ∃ w', (Instr.mapUpdate t (.map (some m)) (dv d) v).run Tryd.prog w = .ok () w' ∧ MapOk w' m (upd V d v) (if (V d).isSome then n else n + 1) ∧ w.grownBy w' (some m) ∧ w'.heap.size = w.heap.size := by
  obtain ⟨es, clock, hb, hl, hn⟩ := h
  have hgr : ∀ o, w.grownBy (setBlock w m o) (some m) ∧ (setBlock w m o).heap.size = w.heap.size := fun o => ⟨⟨rfl, rfl, rfl, by simp [setBlock], fun i _ hi => heap_setBlock_other hb _ (fun e => hi (by rw [e]))⟩, by simp [setBlock]⟩
  rcases find39 d hd w es.toList hl.keys with ⟨h1, h2⟩ | ⟨j, e0, h1, h2, h3⟩
  · have hv : V d = none := by
      cases hc : V d with
      | none => rfl
      | some v => obtain ⟨e1, he, hk⟩ := hl.all d v hc; exact absurd hk (h2 e1 he)
    refine ⟨setBlock w m (.map (es.push ⟨dv d, v, clock⟩) (clock + 1)), ?_, ⟨_, _, heap_setBlock_same hb _, ?_, ?_⟩, hgr _⟩
    · simp [Instr.mapUpdate, run_underlying ht, MapKept.run_getObj_map hb, check39 _ d hd, h1, MapKept.run_setObj_map _ hb, Result.andThen, setBlock]
    · rw [Array.toList_push]; exact hl.push d hd v clock h2
    · rw [hv]; simp [hn]
  · have hv := hl.val e0 (List.mem_of_getElem? h2) d h3
    have hj : es[j]? = some e0 := by simpa using h2
    have hjs : j < es.size := (Array.getElem?_eq_some_iff.1 hj).1
    have hset : es.modify j (fun e => { e with key := dv d, val := v }) = es.set j { e0 with key := dv d, val := v } hjs := by
      apply Array.ext
      · simp
      · intro i h1 h2
        obtain ⟨_, rfl⟩ := Array.getElem?_eq_some_iff.1 hj
        rw [Array.getElem_modify, Array.getElem_set]
        by_cases hc : j = i
        · subst hc; simp
        · simp [hc]
    refine ⟨setBlock w m (.map (es.modify j (fun e => { e with key := dv d, val := v })) clock), ?_, ⟨_, _, heap_setBlock_same hb _, ?_, ?_⟩, hgr _⟩
    · simp [Instr.mapUpdate, run_underlying ht, MapKept.run_getObj_map hb, check39 _ d hd, h1, hj, h3, stays39, MapKept.run_setObj_map _ hb, Result.andThen, setBlock]
    · rw [hset, Array.toList_set]; exact hl.set d hd v j e0 h2 h3
    · rw [hv]; simp [hn]
theorem MapOk.drop {w : World} {m n : Nat} {V : List Nat → Option Value} (h : MapOk w m V n) (t e : TypeId) (ht : Tryd.prog.underlying t = some (.map 39 e)) (d : List Nat) (hd : d.length = 32) (hV : (V d).isSome = true) (ty : TypeId) :
    ∃ w', (Builtin.delete_ #[t, 39] ty #[.map (some m), dv d]).run Tryd.prog w = .ok (.tuple #[]) w' ∧ MapOk w' m (del V d) (n - 1) ∧ w.grownBy w' (some m) ∧ w'.heap.size = w.heap.size := by
  obtain ⟨es, clock, hb, hl, hn⟩ := h
  have hgr : ∀ o, w.grownBy (setBlock w m o) (some m) ∧ (setBlock w m o).heap.size = w.heap.size := fun o => ⟨⟨rfl, rfl, rfl, by simp [setBlock], fun i _ hi => heap_setBlock_other hb _ (fun e => hi (by rw [e]))⟩, by simp [setBlock]⟩
  rcases find39 d hd w es.toList hl.keys with ⟨h1, h2⟩ | ⟨j, e0, h1, h2, h3⟩
  · obtain ⟨v, hc⟩ := Option.isSome_iff_exists.1 hV
    obtain ⟨e1, he, hk⟩ := hl.all d v hc
    exact absurd hk (h2 e1 he)
  · have hjs : j < es.size := by simpa using (List.getElem?_eq_some_iff.1 h2).1
    have hsub : (es.eraseIdxIfInBounds j).toList = es.toList.eraseIdx j := by
      unfold Array.eraseIdxIfInBounds
      rw [dif_pos hjs]
      simp
    refine ⟨setBlock w m (.map (es.eraseIdxIfInBounds j) clock), ?_, ⟨_, _, heap_setBlock_same hb _, ?_, ?_⟩, hgr _⟩
    · simp [Builtin.delete_, run_underlying ht, MapKept.run_getObj_map hb, check39 _ d hd, h1, MapKept.run_setObj_map _ hb, Result.andThen, setBlock]
    · rw [hsub]; exact hl.erase d j e0 h2 h3
    · rw [← Array.length_toList, hsub, List.length_eraseIdx_of_lt (by simpa using hjs)]; simp [hn]
end Go.Proofs.YtokjbmpiekadaaaDoor
