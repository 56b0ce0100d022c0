/-
  Drop: entries go while the map is ranged over.
-/
import Derived.Laws.CopyOwn
import Derived.Deep.RegionLaw
import Derived.Deep.DrawnRows
import Derived.Laws.Tables
import Derived.Test.YtglfeocfhlmloaaGreatY00
import Derived.Test.YtglfeocfhlmloaaGreatY01
import Derived.Test.YtglfeocfhlmloaaGreatY02
import Derived.Test.YtglfeocfhlmloaaGreatY03
import Derived.Test.YtglfeocfhlmloaaGreatY04
import Derived.Test.YtglfeocfhlmloaaGreatY05
import Derived.Test.YtglfeocfhlmloaaGreatY06
import Derived.Test.YtglfeocfhlmloaaGreatY07
import Derived.Test.YtglfeocfhlmloaaGreatY08
import Derived.Test.YtglfeocfhlmloaaGreatY09
import Derived.Test.YtglfeocfhlmloaaGreatY11
import Derived.Test.YtglfeocfhlmloaaGreatY12
import Derived.Test.YtglfeocfhlmloaaGreatY13
import Derived.Test.YtglfeocfhlmloaaGreatY14
import Derived.Test.YtglfeocfhlmloaaGreatY15
import Derived.Test.YtglfeocfhlmloaaGreatY16
import Derived.Test.YtglfeocfhlmloaaGreatY17
import Derived.Test.YtglfeocfhlmloaaGreatY18
import Derived.Test.YtglfeocfhlmloaaGreatY19
import Derived.Test.YtglfeocfhlmloaaGreatY20
import Derived.Test.YtglfeocfhlmloaaGreatY21
import Derived.Test.YtglfeocfhlmloaaGreatY22
import Derived.Test.YtglfeocfhlmloaaGreatY23
import Derived.Test.YtglfeocfhlmloaaGreatY24
import Derived.Test.YtglfeocfhlmloaaGreatY25
import Derived.Test.YtglfeocfhlmloaaGreatY26
import Derived.Test.YtglfeocfhlmloaaGreatY27
namespace Go.Proofs.YtglfeocfhlmloaaGreat.Up
open Go.RowKit
open Go.ChangeMaps (setBlock heap_setBlock_same heap_setBlock_other)
open Vp (Str B bl Val cmpL parseS showS withinS IsPath checkS)
open Nd (Row wp_world post_Row post_Row2 grownBy_setCell below_of_grown)
/-- the map's entries with what they hold -/
structure ME (W : World) (m clock : Nat) (P : List (MapEntry × Spot)) : Prop where
  mp : W.heap[m]? = some (.map (P.map (·.1)).toArray clock)
  kv : ∀ p ∈ P, p.1.key = .string p.2.path ∧ p.1.val = p.2.val ∧ p.1.born < clock
  nb : (P.map (·.1.born)).Nodup
  good : ∀ p ∈ P, p.2.path = B (showS p.2.names) ∧ Gp p.2.names
  nms : ∀ p ∈ P, Rf.Nm W p.2.v p.2.names
  one : (P.map (·.2.names)).Nodup
theorem ME.map {W : World} {m clock : Nat} {P : List (MapEntry × Spot)} (h : ME W m clock P) : MapP W m (P.map (·.2)) := by
  refine ⟨⟨_, clock, h.mp, ?_, ?_, ?_⟩, ?_, ?_, ?_⟩
  · simp only [List.map_map]
    refine List.map_congr_left fun p hp => ?_
    obtain ⟨h1, h2, _⟩ := h.kv p hp
    simp only [Function.comp, h1, h2]
  · intro e he
    simp only [List.mem_map] at he
    obtain ⟨p, hp, rfl⟩ := he
    exact (h.kv p hp).2.2
  · have := h.nb
    simpa [List.map_map, Function.comp_def] using this
  · intro s hs
    obtain ⟨p, hp, rfl⟩ := List.mem_map.1 hs
    exact h.good p hp
  · intro s hs
    obtain ⟨p, hp, rfl⟩ := List.mem_map.1 hs
    exact h.nms p hp
  · have := h.one
    simpa [List.map_map, Function.comp_def] using this
theorem MapP.me {W : World} {m : Nat} {L : List Spot} (h : MapP W m L) : ∃ clock P, ME W m clock P ∧ P.map (·.2) = L := by
  obtain ⟨es, clock, hb, he, hst, hnd⟩ := h.ex
  have hl : es.toList.length = L.length := by simpa using congrArg List.length he
  have h1 := zip_fst hl
  have h2 := zip_snd hl
  have hz : ∀ p ∈ es.toList.zip L, p.1 ∈ es.toList ∧ p.2 ∈ L := fun p hp => List.of_mem_zip hp
  refine ⟨clock, es.toList.zip L, ⟨?_, ?_, ?_, ?_, ?_, ?_⟩, h2⟩
  · rw [h1]; simpa using hb
  · intro p hp
    obtain ⟨j, hj⟩ := List.getElem?_of_mem hp
    rw [List.getElem?_zip_eq_some] at hj
    have := congrArg (fun l => l[j]?) he
    simp only [List.getElem?_map, hj.1, hj.2, Option.map_some, Option.some.injEq, Prod.mk.injEq] at this
    exact ⟨this.1, this.2, hst _ (hz p hp).1⟩
  · have : (es.toList.zip L).map (·.1.born) = ((es.toList.zip L).map (·.1)).map (·.born) := by rw [List.map_map]; rfl
    rw [this, h1]; exact hnd
  · exact fun p hp => h.good _ (hz p hp).2
  · exact fun p hp => h.nms _ (hz p hp).2
  · have : (es.toList.zip L).map (·.2.names) = ((es.toList.zip L).map (·.2)).map (·.names) := by rw [List.map_map]; rfl
    rw [this, h2]; exact h.one
/-- it stays where no row of names and not the map is turned -/
theorem ME.grown {W W' : World} {m clock : Nat} {P : List (MapEntry × Spot)} {row : Option Nat} (h : ME W m clock P) (hg : W.grownBy W' row) (hr : ∀ k, row = some k → k ≠ m ∧ ∀ cs fr, W.heap[k]? ≠ some (.cells cs 9 fr)) : ME W' m clock P := by
  refine ⟨?_, h.kv, h.nb, h.good, fun p hp => nm_kept (h.nms p hp) fun b cs fr e => ?_, h.one⟩
  · rw [hg.block m (Array.getElem?_eq_some_iff.1 h.mp).1 (fun e => (hr m e.symm).1 rfl), h.mp]
  · rw [hg.block b (Array.getElem?_eq_some_iff.1 e).1 (fun e2 => (hr b e2.symm).2 cs fr e)]
    exact e
theorem erase_filter : ∀ (P : List (MapEntry × Spot)) (p : MapEntry × Spot) (j : Nat), (P.map (·.2.names)).Nodup → P[j]? = some p → P.filter (fun q => decide (q.2.names ≠ p.2.names)) = P.eraseIdx j
  | [], p, j, _, h => by simp at h
  | a :: r, p, 0, hd, h => by
    simp only [List.getElem?_cons_zero, Option.some.injEq] at h
    subst h
    simp only [List.map_cons, List.nodup_cons] at hd
    rw [List.filter_cons, if_neg (by simp), List.eraseIdx_cons_zero, List.filter_eq_self]
    intro x hx
    simp only [decide_eq_true_eq]
    exact fun e => hd.1 (by rw [← e]; exact List.mem_map.2 ⟨x, hx, rfl⟩)
  | a :: r, p, j + 1, hd, h => by
    simp only [List.getElem?_cons_succ] at h
    simp only [List.map_cons, List.nodup_cons] at hd
    have h1 : a.2.names ≠ p.2.names := fun e => hd.1 (by rw [e]; exact List.mem_map.2 ⟨p, List.mem_of_getElem? h, rfl⟩)
    have ih := erase_filter r p j hd.2 h
    rw [List.filter_cons, if_pos (by simpa using h1), List.eraseIdx_cons_succ, ih]
/-- one entry is deleted -/
theorem ME.cut {W : World} {m clock : Nat} {P : List (MapEntry × Spot)} (h : ME W m clock P) {p : MapEntry × Spot} (hp : p ∈ P) (ty : TypeId) :
    ∃ W', (Builtin.delete_ #[47, 9] ty #[.map (some m), .string p.2.path]).run Tryz.prog W = .ok (.tuple #[]) W' ∧ ME W' m clock (P.filter (fun q => decide (q.2.names ≠ p.2.names))) ∧ W.grownBy W' (some m) ∧ W'.heap.size = W.heap.size := by
  have hb := h.mp
  have ht : Tryz.prog.underlying 47 = some (.map 9 80) := Tryz.underlying47
  have hgr := fun o => grown_block hb o
  obtain ⟨hpp, hpx⟩ := h.good p hp
  have he : (P.map (·.1)).toArray.toList.map (fun e => (e.key, e.val)) = (P.map (·.2)).map (fun s => (Value.string s.path, s.val)) := by
    simp only [List.map_map]
    refine List.map_congr_left fun q hq => ?_
    obtain ⟨h1, h2, _⟩ := h.kv q hq
    simp only [Function.comp, h1, h2]
  have hsub : (P.filter (fun q => decide (q.2.names ≠ p.2.names))).Sublist P := List.filter_sublist
  have hf := h.map.find he p.2.names hpx
  rw [← hpp] at hf
  rcases hf with ⟨_, h2⟩ | ⟨j, t, e0, h1, h2, h3, h4, h5, _, h6⟩
  · exfalso
    unfold spotAt at h2
    have := List.find?_eq_none.1 h2 p.2 (List.mem_map.2 ⟨p, hp, rfl⟩)
    simp at this
  · obtain ⟨q, hq, hqt⟩ : ∃ q, P[j]? = some q ∧ q.2 = t := by
      rw [List.getElem?_map] at h5
      cases hq : P[j]? with
      | none => rw [hq] at h5; cases h5
      | some q => rw [hq] at h5; exact ⟨q, rfl, Option.some.inj h5⟩
    have hqn : q.2.names = p.2.names := by rw [hqt, h6]
    have hj : (P.map (·.1)).toArray[j]? = some e0 := by simpa using h2
    have hjs : j < (P.map (·.1)).toArray.size := (Array.getElem?_eq_some_iff.1 hj).1
    have hfe : P.filter (fun q => decide (q.2.names ≠ p.2.names)) = P.eraseIdx j := by rw [← hqn]; exact erase_filter P q j h.one hq
    have hsb : (P.map (·.1)).toArray.eraseIdxIfInBounds j = ((P.filter (fun q => decide (q.2.names ≠ p.2.names))).map (·.1)).toArray := by
      apply Array.toList_inj.1
      unfold Array.eraseIdxIfInBounds
      rw [dif_pos hjs, hfe]
      simp [map_erase]
    refine ⟨setBlock W m (.map ((P.map (·.1)).toArray.eraseIdxIfInBounds j) clock), ?_, ⟨?_, fun q hq => h.kv q (hsub.subset hq), List.Sublist.nodup (hsub.map _) h.nb, fun q hq => h.good q (hsub.subset hq), fun q hq => nm_map hb (hgr _).1 (h.nms q (hsub.subset hq)), List.Sublist.nodup (hsub.map _) h.one⟩, hgr _⟩
    · simp [Builtin.delete_, run_underlying ht, MapKept.run_getObj_map hb, keyText.check _ p.2.path trivial, Result.andThen, setBlock]
      simp at h1
      simp [h1, Result.andThen]
      have := MapKept.run_setObj_map (P := Tryz.prog) (.map ((P.map (·.1)).toArray.eraseIdxIfInBounds j) clock) hb
      simp at this
      simp [this]
    · rw [heap_setBlock_same hb _, hsb]
/-- what is not at a path or below it -/
def outX (xs : List Str) (s : Spot) : Bool := !withinS s.names xs
/-- between two rounds of Drop -/
structure DR (w : World) (m clock : Nat) (xs : List Str) (L : List Spot) (W : World) (P : List (MapEntry × Spot)) (seen : List Nat) : Prop where
  it : ∃ c0, W.heap[w.heap.size]? = some (.mapIter (some m) clock seen.toArray c0) ∧ clock ≤ c0
  me : ME W m clock P
  keep : (P.map (·.2)).filter (outX xs) = L.filter (outX xs)
  was : ∀ p ∈ P, p.1.born ∈ seen → outX xs p.2 = true
  gr : w.grownBy W (some m)
  sz : w.heap.size + 1 ≤ W.heap.size
theorem left_mono {es es' : Array MapEntry} (seen : Array Nat) (h : es'.toList.Sublist es.toList) : (leftOf es' seen).size ≤ (leftOf es seen).size := by
  unfold leftOf
  have e : ∀ a : Array MapEntry, (a.filter (fun e => !seen.contains e.born)).size = (a.toList.filter (fun e => !seen.contains e.born)).length := fun a => by rw [← Array.toList_filter, Array.length_toList]
  rw [e, e]
  exact (h.filter _).length_le
theorem DR.next {w : World} {m clock : Nat} {xs : List Str} {L : List Spot} {W : World} {P : List (MapEntry × Spot)} {seen : List Nat} (h : DR w m clock xs L W P seen) (hm : m < w.heap.size) (ty : TypeId) :
    ((Instr.next (.pointer (some ⟨w.heap.size, 0, none⟩)) false ty).run Tryz.prog W = .ok (.tuple #[.bool false]) W ∧ P.map (·.2) = L.filter (outX xs)) ∨
    ∃ (p : MapEntry × Spot) (W2 : World), p ∈ P ∧ (Instr.next (.pointer (some ⟨w.heap.size, 0, none⟩)) false ty).run Tryz.prog W = .ok (.tuple #[.bool true, .string p.2.path, p.2.val]) W2 ∧ (Instr.entry (.pointer (some ⟨w.heap.size, 0, none⟩))).run Tryz.prog W2 = .ok (.tuple #[.string p.2.path, p.2.val]) W2 ∧
      W.grownBy W2 (some w.heap.size) ∧ W2.heap.size = W.heap.size ∧ (∃ c0, W2.heap[w.heap.size]? = some (.mapIter (some m) clock (seen ++ [p.1.born]).toArray c0) ∧ clock ≤ c0) ∧
      ∀ (W' : World) (P' : List (MapEntry × Spot)), P'.Sublist P → W'.heap[m]? = some (.map (P'.map (·.1)).toArray clock) → (∃ c0, W'.heap[w.heap.size]? = some (.mapIter (some m) clock (seen ++ [p.1.born]).toArray c0)) → W'.rangeLeft m w.heap.size < W.rangeLeft m w.heap.size := by
  obtain ⟨c0, hr, hc⟩ := h.it
  have hbW := h.me.mp
  have hst : ∀ e ∈ (P.map (·.1)).toArray.toList, e.born < clock := by
    intro e he
    simp only [List.mem_map] at he
    obtain ⟨p, hp, rfl⟩ := he
    exact (h.me.kv p hp).2.2
  have hnd : ((P.map (·.1)).toArray.toList.map (·.born)).Nodup := by
    have := h.me.nb
    simpa [List.map_map, Function.comp_def] using this
  rcases run_next_at (P := Tryz.prog) W ty w.heap.size m clock c0 _ _ clock hr hbW hst hc with ⟨h0, hrun⟩ | ⟨e, hel, w1, hal, hrun⟩
  · refine .inl ⟨hrun, ?_⟩
    rw [← h.keep, eq_comm, List.filter_eq_self]
    intro s hs
    obtain ⟨p, hp, rfl⟩ := List.mem_map.1 hs
    refine h.was p hp ?_
    have h2 : leftOf (P.map (·.1)).toArray seen.toArray = #[] := Array.eq_empty_of_size_eq_zero h0
    unfold leftOf at h2
    rw [Array.filter_eq_empty_iff] at h2
    have := h2 p.1 (by simp only [List.mem_toArray]; exact List.mem_map.2 ⟨p, hp, rfl⟩)
    simpa using this
  · obtain ⟨hem, hes⟩ := mem_left hel
    have hem' : e ∈ P.map (·.1) := by simpa using hem
    obtain ⟨p, hp, rfl⟩ := List.mem_map.1 hem'
    obtain ⟨hk1, hk2, _⟩ := h.me.kv p hp
    have hset := iter_set (o := .mapIter (some m) clock (seen.toArray.push p.1.born) clock) hr hal
    have hmr : m ≠ w.heap.size := by omega
    have hb2 : (setBlock w1 w.heap.size (.mapIter (some m) clock (seen.toArray.push p.1.born) clock)).heap[m]? = some (.map (P.map (·.1)).toArray clock) := by
      rw [hset.2.1.block m (Array.getElem?_eq_some_iff.1 hbW).1 (fun e => hmr (Option.some.inj e)), hbW]
    have hen := run_entry_at (P := Tryz.prog) _ w.heap.size m clock seen.toArray _ clock p.1 hset.1 hb2 hem hnd
    have harr : seen.toArray.push p.1.born = (seen ++ [p.1.born]).toArray := by simp
    rw [hk1, hk2] at hrun hen
    refine .inr ⟨p, _, hp, hrun, hen, hset.2.1, hset.2.2, ⟨clock, by rw [hset.1, harr], Nat.le_refl _⟩, ?_⟩
    rintro W' P' hsl hb' ⟨c1, hr'⟩
    simp only [World.rangeLeft, hb', hr', hbW, hr, ← harr]
    refine Nat.lt_of_le_of_lt (left_mono _ ?_) (left_shrinks _ _ p.1 hel)
    simpa using hsl.map _
theorem it_ne {w W : World} {m clock : Nat} {seen : Array Nat} {c0 : Nat} (hm : m < w.heap.size) (hr : W.heap[w.heap.size]? = some (.mapIter (some m) clock seen c0)) : ∀ k, some w.heap.size = some k → k ≠ m ∧ ∀ cs fr, W.heap[k]? ≠ some (.cells cs 9 fr) := by
  intro k e
  obtain rfl := Option.some.inj e
  refine ⟨by omega, fun cs fr e2 => ?_⟩
  rw [hr] at e2
  cases e2
/-- the next entry has come, the old blocks stand -/
theorem DR.wide {w : World} {m clock : Nat} {xs : List Str} {L : List Spot} {W W2 W' : World} {P : List (MapEntry × Spot)} {seen : List Nat} (h : DR w m clock xs L W P seen) (hm : m < w.heap.size) (hg2 : W.grownBy W2 (some w.heap.size)) (hB : Below W2.heap.size W2 W') : ME W' m clock P ∧ w.grownBy W' (some m) ∧ w.heap.size + 1 ≤ W'.heap.size := by
  obtain ⟨c1, hr, _⟩ := h.it
  refine ⟨(h.me.grown hg2 (it_ne hm hr)).grown (grown_of_below hB) (fun k e => by cases e), ?_, ?_⟩
  · have h1 : w.grownBy W2 (some m) := World.grownBy.andThen h.gr hg2 (fun k e => .inl (by obtain rfl := Option.some.inj e; exact Nat.le_refl _))
    exact World.grownBy.andThen h1 (grown_of_below hB) (fun k e => by cases e)
  · have := h.sz
    have := hg2.size
    have := hB.size
    omega
/-- behind a round: the entry stays -/
theorem DR.stay {w : World} {m clock : Nat} {xs : List Str} {L : List Spot} {W W2 W' : World} {P : List (MapEntry × Spot)} {seen : List Nat} {p : MapEntry × Spot} (h : DR w m clock xs L W P seen) (hm : m < w.heap.size) (hg2 : W.grownBy W2 (some w.heap.size)) (_hs2 : W2.heap.size = W.heap.size) (hit : ∃ c0, W2.heap[w.heap.size]? = some (.mapIter (some m) clock (seen ++ [p.1.born]).toArray c0) ∧ clock ≤ c0) (hp : p ∈ P) (ho : outX xs p.2 = true) (hB : Below W2.heap.size W2 W') : DR w m clock xs L W' P (seen ++ [p.1.born]) := by
  obtain ⟨c0, h1, h2⟩ := hit
  obtain ⟨k1, k2, k3⟩ := h.wide hm hg2 hB
  refine ⟨⟨c0, by rw [hB.block _ (Array.getElem?_eq_some_iff.1 h1).1, h1], h2⟩, k1, h.keep, fun q hq hb => ?_, k2, k3⟩
  rcases List.mem_append.1 hb with hb | hb
  · exact h.was q hq hb
  · have e : q.1.born = p.1.born := List.mem_singleton.1 hb
    have hn := h.me.nb
    obtain ⟨i, hi⟩ := List.getElem?_of_mem hq
    obtain ⟨j, hj⟩ := List.getElem?_of_mem hp
    have h3 := List.pairwise_iff_getElem.1 hn
    obtain ⟨hil, rfl⟩ := List.getElem?_eq_some_iff.1 hi
    obtain ⟨hjl, rfl⟩ := List.getElem?_eq_some_iff.1 hj
    rcases Nat.lt_trichotomy i j with h7 | h7 | h7
    · exact absurd (by rw [List.getElem_map, List.getElem_map]; exact e) (h3 i j (by simpa using hil) (by simpa using hjl) h7)
    · subst h7; exact ho
    · exact absurd (by rw [List.getElem_map, List.getElem_map]; exact e.symm) (h3 j i (by simpa using hjl) (by simpa using hil) h7)
/-- behind a round: the entry goes -/
theorem DR.gone {w : World} {m clock : Nat} {xs : List Str} {L : List Spot} {W W2 W3 W' : World} {P : List (MapEntry × Spot)} {seen : List Nat} {p : MapEntry × Spot} (h : DR w m clock xs L W P seen) (hm : m < w.heap.size) (hg2 : W.grownBy W2 (some w.heap.size)) (hit : ∃ c0, W2.heap[w.heap.size]? = some (.mapIter (some m) clock (seen ++ [p.1.born]).toArray c0) ∧ clock ≤ c0) (hp : p ∈ P) (ho : outX xs p.2 = false) (hB : Below W2.heap.size W2 W3) (hg : W3.grownBy W' (some m)) (hme : ME W' m clock (P.filter (fun q => decide (q.2.names ≠ p.2.names)))) : DR w m clock xs L W' (P.filter (fun q => decide (q.2.names ≠ p.2.names))) (seen ++ [p.1.born]) := by
  obtain ⟨c0, h1, h2⟩ := hit
  obtain ⟨k1, k2, k3⟩ := h.wide hm hg2 hB
  have hlt := (Array.getElem?_eq_some_iff.1 h1).1
  refine ⟨⟨c0, ?_, h2⟩, hme, ?_, fun q hq hb => ?_, World.grownBy.andThen k2 hg (fun k e => .inr e), Nat.le_trans k3 hg.size⟩
  · rw [hg.block _ (Nat.lt_of_lt_of_le hlt hB.size) (fun e => by have := Option.some.inj e; omega), hB.block _ hlt, h1]
  · rw [← h.keep]
    have : ∀ Q : List (MapEntry × Spot), ((Q.filter (fun q => decide (q.2.names ≠ p.2.names))).map (·.2)).filter (outX xs) = (Q.map (·.2)).filter (outX xs) := by
      intro Q
      induction Q with
      | nil => rfl
      | cons a r ih =>
        rw [List.filter_cons]
        by_cases ha : a.2.names = p.2.names
        · have : outX xs a.2 = false := by
            have : outX xs a.2 = outX xs p.2 := by unfold outX; rw [ha]
            rw [this, ho]
          rw [if_neg (by simp [ha]), ih, List.map_cons, List.filter_cons, this]
          rfl
        · rw [if_pos (by simpa using ha), List.map_cons, List.map_cons, List.filter_cons, List.filter_cons, ih]
    exact this P
  · obtain ⟨hq1, hq2⟩ := List.mem_filter.1 hq
    rcases List.mem_append.1 hb with hb | hb
    · exact h.was q hq1 hb
    · exfalso
      have e : q.1.born = p.1.born := List.mem_singleton.1 hb
      have hn := h.me.nb
      obtain ⟨i, hi⟩ := List.getElem?_of_mem hq1
      obtain ⟨j, hj⟩ := List.getElem?_of_mem hp
      have h3 := List.pairwise_iff_getElem.1 hn
      obtain ⟨hil, rfl⟩ := List.getElem?_eq_some_iff.1 hi
      obtain ⟨hjl, rfl⟩ := List.getElem?_eq_some_iff.1 hj
      rcases Nat.lt_trichotomy i j with h7 | h7 | h7
      · exact absurd (by rw [List.getElem_map, List.getElem_map]; exact e) (h3 i j (by simpa using hil) (by simpa using hjl) h7)
      · subst h7; simp at hq2
      · exact absurd (by rw [List.getElem_map, List.getElem_map]; exact e.symm) (h3 j i (by simpa using hjl) (by simpa using hil) h7)
end Go.Proofs.YtglfeocfhlmloaaGreat.Up
