/-
  A key of a map is dropped; what a carrier is in memory. Get. visit: a pair whose blob isn't there is wanted.
-/
import Derived.RangeFuncBox
import Derived.Deep.CutRange
import Derived.Deep.DrawnRows
import Derived.Test.YtamaejlbojbbeaaGreatDoorQ00
import Derived.Test.YtamaejlbojbbeaaGreatDoorQ01
import Derived.Test.YtamaejlbojbbeaaGreatDoorQ02
import Derived.Test.YtamaejlbojbbeaaGreatDoorQ03
import Derived.Test.YtamaejlbojbbeaaGreatDoorQ04
import Derived.Test.YtamaejlbojbbeaaGreatDoorQ05
import Derived.Test.YtamaejlbojbbeaaGreatDoorQ06
import Derived.Test.YtamaejlbojbbeaaGreatDoorQ07
import Derived.Test.YtamaejlbojbbeaaGreatDoorQ08
import Derived.Test.YtamaejlbojbbeaaGreatDoorQ09
import Derived.Test.YtamaejlbojbbeaaGreatDoorQ10
import Derived.Test.YtamaejlbojbbeaaGreatDoorQ11
import Derived.Test.YtamaejlbojbbeaaGreatDoorQ12
import Derived.Test.YtamaejlbojbbeaaGreatDoorQ13
import Derived.Test.YtamaejlbojbbeaaGreatDoorQ15
import Derived.Test.YtamaejlbojbbeaaGreatDoorQ24
import Derived.Test.YtamaejlbojbbeaaGreatDoorQ25
namespace Go.Proofs.YtamaejlbojbbeaaGreatDoor.Tr
open Go.RowKit
open Sb (hid_in Row Sl T5 BL u8v Tab wp_world grownBy_setCell below_of_grown info39 one_u8 splice_all rowOf rowOf_row St Bs Kp)
open Go.ChangeMaps (setBlock heap_setBlock_same heap_setBlock_other)
def delG {α : Type} [DecidableEq α] (V : α → Option Value) (d : α) : α → Option Value := fun x => if x = d then none else V x
theorem MapG.erase {α : Type} [DecidableEq α] {l : List MapEntry} {V : α → Option Value} {kv : α → Value} {G : α → Prop} {kt : TypeId} (K : KeyOf kt kv G) (h : MapG kv G l V) (d : α) (i : Nat) (e0 : MapEntry) (h0 : l[i]? = some e0) (hk0 : e0.key = kv d) : MapG kv G (l.eraseIdx i) (delG V d) where
  keys e he := h.keys e ((List.eraseIdx_sublist _ _).subset he)
  val e he d' hk := by
    unfold delG
    have hm := (List.eraseIdx_sublist _ _).subset he
    rw [if_neg ?_]
    · exact h.val e hm d' hk
    · intro hc
      subst hc
      obtain ⟨j, hj, hje⟩ := List.getElem_of_mem he
      have hjq : (l.eraseIdx i)[j]? = some e := by rw [List.getElem?_eq_getElem hj, hje]
      rw [List.getElem?_eraseIdx] at hjq
      split at hjq
      · have := h.one i j e0 e h0 hjq (by rw [hk0, hk]); omega
      · have := h.one i (j + 1) e0 e h0 hjq (by rw [hk0, hk]); omega
  all d' v' hv := by
    unfold delG at hv
    by_cases hc : d' = d
    · rw [if_pos hc] at hv; cases hv
    · rw [if_neg hc] at hv
      obtain ⟨e, he, hk⟩ := h.all d' v' hv
      obtain ⟨j, hj, hje⟩ := List.getElem_of_mem he
      have hjq : l[j]? = some e := by rw [List.getElem?_eq_getElem hj, hje]
      have hne : j ≠ i := fun x => hc (by
        subst x
        rw [hjq] at h0
        obtain rfl := Option.some.inj h0
        exact K.inj (hk.symm.trans hk0))
      refine ⟨e, ?_, hk⟩
      by_cases hlt : j < i
      · refine List.mem_of_getElem? (i := j) ?_
        rw [List.getElem?_eraseIdx, if_pos hlt, hjq]
      · refine List.mem_of_getElem? (i := j - 1) ?_
        rw [List.getElem?_eraseIdx, if_neg (by omega), show j - 1 + 1 = j by omega, hjq]
  one a b e e' ha hb hk := by
    rw [List.getElem?_eraseIdx] at ha hb
    split at ha <;> split at hb
    · exact h.one a b e e' ha hb hk
    · have := h.one a (b + 1) e e' ha hb hk; omega
    · have := h.one (a + 1) b e e' ha hb hk; omega
    · have := h.one (a + 1) (b + 1) e e' ha hb hk; omega
theorem MapI.drop {α : Type} [DecidableEq α] {kv : α → Value} {G : α → Prop} {w : World} {m n : Nat} {V : α → Option Value} (h : MapI kv G w m V n) {kt : TypeId} (K : KeyOf kt kv G) (t e : TypeId) (ht : Tryz.prog.underlying t = some (.map kt e)) (d : α) (hd : G d) (hV : (V d).isSome = true) (ty : TypeId) :
    ∃ w', (Builtin.delete_ #[t, kt] ty #[.map (some m), kv d]).run Tryz.prog w = .ok (.tuple #[]) w' ∧ MapI kv G w' m (delG V d) (n - 1) ∧ w.grownBy w' (some m) ∧ w'.heap.size = w.heap.size := by
  obtain ⟨es, clock, hb, hl, hn⟩ := h
  have hgr : ∀ o, w.grownBy (setBlock w m o) (some m) ∧ (setBlock w m o).heap.size = w.heap.size := fun o => ⟨⟨rfl, rfl, rfl, by simp [setBlock], fun i _ hi => heap_setBlock_other hb _ (fun e => hi (by rw [e]))⟩, by simp [setBlock]⟩
  rcases K.find d hd w es.toList hl.keys with ⟨h1, h2⟩ | ⟨j, e0, h1, h2, h3⟩
  · obtain ⟨v, hc⟩ := Option.isSome_iff_exists.1 hV
    obtain ⟨e1, he, hk⟩ := hl.all d v hc
    exact absurd hk (h2 e1 he)
  · have hjs : j < es.size := by simpa using (List.getElem?_eq_some_iff.1 h2).1
    have hsub : (es.eraseIdxIfInBounds j).toList = es.toList.eraseIdx j := by
      unfold Array.eraseIdxIfInBounds
      rw [dif_pos hjs]
      simp
    refine ⟨setBlock w m (.map (es.eraseIdxIfInBounds j) clock), ?_, ⟨_, _, heap_setBlock_same hb _, ?_, ?_⟩, hgr _⟩
    · simp [Builtin.delete_, run_underlying ht, MapKept.run_getObj_map hb, K.check _ d hd, h1, MapKept.run_setObj_map _ hb, Result.andThen, setBlock]
    · rw [hsub]; exact hl.erase K d j e0 h2 h3
    · rw [← Array.length_toList, hsub, List.length_eraseIdx_of_lt (by simpa using hjs)]; simp [hn]
/-- a store is as it was, where another block is written that is no row of bytes -/
theorem St.grownT {w w' : World} {g m n : Nat} {M : List Nat → Option (List Nat)} {q u : Int} (h : St w g m M n q u) {k : Nat} (hgk : g ≠ k) (hmk : m ≠ k) (h5 : ¬ T5 w k) (hg : w.grownBy w' (some k)) : St w' g m M n q u := by
  obtain ⟨V, hV, h1, h2⟩ := h.map
  refine ⟨h.row.grown hg (fun e => hgk (Option.some.inj e)), V, hV.of_block (hg.block m hV.lt (fun e => hmk (Option.some.inj e))), fun d bs hd => ?_, h2⟩
  obtain ⟨v, hv, p, cap, b, off, e1, e2, e3, e4⟩ := h1 d bs hd
  have hbk : 0 < bs.length → some b ≠ some k := by
    rintro h0 hbk
    obtain rfl := Option.some.inj hbk
    exact h5 (e4 h0).2.2
  refine ⟨v, hv, p, cap, b, off, e1, ⟨e2.lt, e2.cap1, e2.cap2, e2.at_, fun j hj => hg.cell (e2.src j hj) (hbk (by omega))⟩, e3, fun h0 => ⟨(e4 h0).1, (e4 h0).2.1, (e4 h0).2.2.of_block (hg.block b ?_ (hbk h0))⟩⟩
  have := World.block_lt_of_cell? w _ (e2.src 0 h0)
  simpa using this
/-- a set of pairs, with how many they are -/
def PW (W : World) (m : Nat) (S : List (List Nat × Int)) : Prop := ∃ V, MapI pv PG W m V S.length ∧ (∀ x, (V x).isSome = true ↔ x ∈ S) ∧ (∀ x v, V x = some v → v = .agg #[])
theorem PW.ps {W : World} {m : Nat} {S : List (List Nat × Int)} (h : PW W m S) : PS W m S := by obtain ⟨V, h1, h2⟩ := h; exact ⟨V, _, h1, h2⟩
theorem PW.lt {W : World} {m : Nat} {S : List (List Nat × Int)} (h : PW W m S) : m < W.heap.size := h.ps.lt
theorem PW.of_block {W W' : World} {m : Nat} {S : List (List Nat × Int)} (h : PW W m S) (hb : W'.heap[m]? = W.heap[m]?) : PW W' m S := by
  obtain ⟨V, hV, h1, h2⟩ := h; exact ⟨V, hV.of_block hb, h1, h2⟩
theorem PW.new (w : World) : PW (w.alloc (.map #[] 0)) w.heap.size [] := ⟨_, MapI.new pv PG w, by simp, by simp⟩
theorem PW.add {W : World} {m : Nat} {S : List (List Nat × Int)} (h : PW W m S) (x : List Nat × Int) (hx : PG x) (hn : x ∉ S) : ∃ W', (Instr.mapUpdate 121 (.map (some m)) (pv x) (.agg #[])).run Tryz.prog W = .ok () W' ∧ PW W' m (S ++ [x]) ∧ W.grownBy W' (some m) ∧ W'.heap.size = W.heap.size := by
  obtain ⟨V, hV, h1, h2⟩ := h
  obtain ⟨W', hr, hV', hg, hs⟩ := hV.store keyPair 121 151 Tryz.underlying121 x hx (.agg #[])
  rw [if_neg (fun e => hn ((h1 x).1 e))] at hV'
  refine ⟨W', hr, ⟨_, (by simpa using hV'), fun y => ?_, fun y v => ?_⟩, hg, hs⟩
  · unfold updG
    split
    · rename_i hy; subst hy; simp
    · rename_i hy; simp [h1, hy]
  · unfold updG
    split
    · intro e; exact (Option.some.inj e).symm
    · exact h2 y v
theorem PW.drop1 {W : World} {m : Nat} {x : List Nat × Int} (h : PW W m [x]) (hx : PG x) (ty : TypeId) : ∃ W', (Builtin.delete_ #[121, 140] ty #[.map (some m), pv x]).run Tryz.prog W = .ok (.tuple #[]) W' ∧ PW W' m [] ∧ W.grownBy W' (some m) ∧ W'.heap.size = W.heap.size := by
  obtain ⟨V, hV, h1, h2⟩ := h
  obtain ⟨W', hr, hV', hg, hs⟩ := hV.drop keyPair 121 151 Tryz.underlying121 x hx ((h1 x).2 (by simp)) ty
  refine ⟨W', hr, ⟨_, hV', fun y => ?_, fun y v => ?_⟩, hg, hs⟩
  · unfold delG
    split
    · simp
    · rename_i hy; rw [h1]; simp [hy]
  · unfold delG
    split
    · intro e; cases e
    · exact h2 y v
theorem PS.map {W : World} {m : Nat} {S : List (List Nat × Int)} (h : PS W m S) : ∃ es c, W.heap[m]? = some (.map es c) := by obtain ⟨V, n, ⟨es, c, h, _⟩, _⟩ := h; exact ⟨es, c, h⟩
/-- a carrier that has no or one pair to want, in memory from block B on -/
structure Cs (B : Nat) (W : World) (c gs ms lm wm : Nat) (ov : Value) (M : List Nat → Option (List Nat)) (n : Nat) (q u : Int) (T Lk : List (List Nat × Int)) : Prop where
  row : Row W c [.pointer (some ⟨gs, 0, none⟩), .map (some lm), .map (some wm), ov, .bool false] 124
  od : Od B W ov T
  lk : PS W lm Lk
  wt : PW W wm T
  st : St W gs ms M n q u
  ok : ∀ x ∈ T, PG x
  bs : B ≤ c ∧ B ≤ gs ∧ B ≤ ms ∧ B ≤ lm ∧ B ≤ wm
  ne : lm ≠ wm ∧ lm ≠ ms ∧ wm ≠ ms
theorem Cs.below {B : Nat} {W W' : World} {c gs ms lm wm : Nat} {ov : Value} {M : List Nat → Option (List Nat)} {n : Nat} {q u : Int} {T Lk : List (List Nat × Int)} (h : Cs B W c gs ms lm wm ov M n q u T Lk) (hb : Below W.heap.size W W') : Cs B W' c gs ms lm wm ov M n q u T Lk :=
  ⟨h.row.below hb h.row.lt, h.od.below hb, h.lk.below hb, h.wt.of_block (hb.block _ h.wt.lt), h.st.below hb, h.ok, h.bs, h.ne⟩
theorem Cs.cw {B : Nat} {W : World} {c gs ms lm wm : Nat} {ov : Value} {M : List Nat → Option (List Nat)} {n : Nat} {q u : Int} {T Lk : List (List Nat × Int)} (h : Cs B W c gs ms lm wm ov M n q u T Lk) : Cw W c wm (.pointer (some ⟨gs, 0, none⟩)) (.map (some lm)) ov (.bool false) T := ⟨h.row, h.wt.ps⟩
theorem Cs.size {B : Nat} {W : World} {c gs ms lm wm : Nat} {ov : Value} {M : List Nat → Option (List Nat)} {n : Nat} {q u : Int} {T Lk : List (List Nat × Int)} (h : Cs B W c gs ms lm wm ov M n q u T Lk) : B ≤ W.heap.size := Nat.le_trans h.bs.1 (Nat.le_of_lt h.row.lt)
/-- rows of unlike types, rows and maps are unlike blocks -/
theorem row_ne_map {W : World} {b m : Nat} {vs : List Value} {t : TypeId} (h : Row W b vs t) {es : Array MapEntry} {c : Nat} (hm : W.heap[m]? = some (.map es c)) : b ≠ m := by
  rintro rfl
  unfold Row at h
  rw [hm] at h
  cases h
theorem row_ne_row {W : World} {b m : Nat} {vs us : List Value} {t s : TypeId} (h : Row W b vs t) (hm : Row W m us s) (hne : t ≠ s) : b ≠ m := by
  rintro rfl
  unfold Row at h hm
  rw [hm] at h
  simp at h
  exact hne h.2.symm
theorem not5_map {W : World} {m : Nat} {es : Array MapEntry} {c : Nat} (hm : W.heap[m]? = some (.map es c)) : ¬ T5 W m := fun ⟨cs, fr, e⟩ => by rw [hm] at e; cases e
theorem st_map {w : World} {g m n : Nat} {M : List Nat → Option (List Nat)} {q u : Int} (h : St w g m M n q u) : ∃ es c, w.heap[m]? = some (.map es c) := by
  obtain ⟨V, ⟨es, c, hb, _⟩, _⟩ := h.map; exact ⟨es, c, hb⟩
/-- rows but those of carriers and of pairs are as they were -/
def Kt (w w' : World) : Prop := ∀ (k : Nat) (cs : Array Value) (t : TypeId) (fr : Nat × Nat), w.heap[k]? = some (.cells cs t fr) → t ≠ 124 → t ≠ 140 → w'.heap[k]? = w.heap[k]?
theorem Kt.trans {a b c : World} (h : Kt a b) (k : Kt b c) : Kt a c := fun i cs t fr e h1 h2 => (k i cs t fr ((h i cs t fr e h1 h2).trans e) h1 h2).trans (h i cs t fr e h1 h2)
theorem Kt.below {a b : World} (h : Below a.heap.size a b) : Kt a b := fun i _ _ _ e _ _ => h.block i (Array.getElem?_eq_some_iff.1 e).1
theorem Kt.map {a b : World} {m : Nat} (h : a.grownBy b (some m)) {es : Array MapEntry} {c : Nat} (hm : a.heap[m]? = some (.map es c)) : Kt a b := fun i cs t fr e _ _ => h.block i (Array.getElem?_eq_some_iff.1 e).1 (fun e2 => by rw [Option.some.inj e2, hm] at e; cases e)
theorem Kt.boxed {a b : World} (h : Kt a b) {k : Nat} {t : TypeId} {v : Value} (hb : Boxed a k t v) (h1 : t ≠ 124) (h2 : t ≠ 140) : Boxed b k t v := (h k _ t _ hb h1 h2).trans hb
theorem Kt.row {a b : World} (h : Kt a b) {k : Nat} {t : TypeId} {vs : List Value} (hb : Row a k vs t) (h1 : t ≠ 124) (h2 : t ≠ 140) : Row b k vs t := hb.of_block (h k _ t _ hb h1 h2)
/-- one pair more was looked at -/
theorem Cs.look {B : Nat} {W W' : World} {c gs ms lm wm : Nat} {ov : Value} {M : List Nat → Option (List Nat)} {n : Nat} {q u : Int} {T Lk Lk' : List (List Nat × Int)} (h : Cs B W c gs ms lm wm ov M n q u T Lk) (hg : W.grownBy W' (some lm)) (hl : PS W' lm Lk') : Cs B W' c gs ms lm wm ov M n q u T Lk' := by
  obtain ⟨es, cl, hm⟩ := h.lk.map
  obtain ⟨es2, cl2, hm2⟩ := st_map h.st
  refine ⟨h.row.grown hg (fun e => row_ne_map h.row hm (Option.some.inj e)), h.od.grown hg (fun cs fr e => by rw [hm] at e; cases e), hl, h.wt.of_block (hg.block _ h.wt.lt (fun e => h.ne.1 (Option.some.inj e).symm)), St.grownT h.st (row_ne_map h.st.row hm) (fun e => h.ne.2.1 e.symm) (not5_map hm) hg, h.ok, h.bs, h.ne⟩
/-- what is wanted turns -/
theorem Cs.want {B : Nat} {W W' : World} {c gs ms lm wm : Nat} {ov : Value} {M : List Nat → Option (List Nat)} {n : Nat} {q u : Int} {T Lk : List (List Nat × Int)} (h : Cs B W c gs ms lm wm ov M n q u T Lk) (hg : W.grownBy W' (some wm)) : Row W' c [.pointer (some ⟨gs, 0, none⟩), .map (some lm), .map (some wm), ov, .bool false] 124 ∧ Od B W' ov T ∧ PS W' lm Lk ∧ St W' gs ms M n q u := by
  obtain ⟨es, cl, hm⟩ := h.wt.ps.map
  refine ⟨h.row.grown hg (fun e => row_ne_map h.row hm (Option.some.inj e)), h.od.grown hg (fun cs fr e => by rw [hm] at e; cases e), h.lk.of_block (hg.block _ h.lk.lt (fun e => h.ne.1 (Option.some.inj e))), St.grownT h.st (row_ne_map h.st.row hm) (fun e => h.ne.2.2 e.symm) (not5_map hm) hg⟩
/-- the order turns: a row of pairs, and the carrier's own field -/
theorem Cs.order {B : Nat} {W1 W2 : World} {c gs ms lm wm : Nat} {ov ov' : Value} {M : List Nat → Option (List Nat)} {n : Nat} {q u : Int} {T T' Lk : List (List Nat × Int)} (hr : Row W1 c [.pointer (some ⟨gs, 0, none⟩), .map (some lm), .map (some wm), ov, .bool false] 124) (ho : Od B W1 ov T) (hl : PS W1 lm Lk) (hs : St W1 gs ms M n q u) (hw : PW W1 wm T')
    (bs : B ≤ c ∧ B ≤ gs ∧ B ≤ ms ∧ B ≤ lm ∧ B ≤ wm) (ne : lm ≠ wm ∧ lm ≠ ms ∧ wm ≠ ms) (hg : W1.grownBy W2 ov.ownBlock) (ho' : Od B W2 ov' T') (ok : ∀ x ∈ T', PG x) :
    Row W2 c [.pointer (some ⟨gs, 0, none⟩), .map (some lm), .map (some wm), ov, .bool false] 124 ∧ Cs B (W2.setCell ⟨c, 3, none⟩ ov') c gs ms lm wm ov' M n q u T' Lk ∧ Below B W1 (W2.setCell ⟨c, 3, none⟩ ov') ∧ Kt W1 (W2.setCell ⟨c, 3, none⟩ ov') := by
  have key : ∀ k, (∀ cs fr, W1.heap[k]? ≠ some (.cells cs 140 fr)) → some k ≠ ov.ownBlock := fun k hk e => by
    obtain ⟨_, _, cs, fr, h3⟩ := ho.ge e.symm
    exact hk cs fr h3
  obtain ⟨es1, cl1, hm1⟩ := hl.map
  obtain ⟨es2, cl2, hm2⟩ := hw.ps.map
  obtain ⟨es3, cl3, hm3⟩ := st_map hs
  have hrow : ∀ {b : Nat} {vs : List Value} {t : TypeId}, Row W1 b vs t → t ≠ 140 → Row W2 b vs t := fun {b vs t} h ht => h.grown hg (key b (fun cs fr e => by unfold Row at h; rw [e] at h; simp at h; exact ht h.2.1.symm))
  have hmap : ∀ {m : Nat} {es : Array MapEntry} {cl : Nat}, W1.heap[m]? = some (.map es cl) → W2.heap[m]? = W1.heap[m]? := fun {m es cl} h => hg.block m (Array.getElem?_eq_some_iff.1 h).1 (key m (fun cs fr e => by rw [h] at e; cases e))
  have hst2 : St W2 gs ms M n q u := by
    cases hob : ov.ownBlock with
    | none => rw [hob] at hg; exact hs.below ⟨hg.os, hg.tape, hg.output, hg.size, fun k hk => hg.block k hk (by simp)⟩
    | some k =>
      rw [hob] at hg
      obtain ⟨_, _, cs, fr, h3⟩ := ho.ge hob
      refine St.grownT hs (fun e => ?_) (fun e => ?_) (fun ⟨cs', fr', e⟩ => ?_) hg
      · have := hs.row; unfold Row at this; rw [e, h3] at this; simp at this
      · rw [e, h3] at hm3; cases hm3
      · rw [h3] at e; cases e
  have hr2 := hrow hr (by decide)
  have gs2 := grownBy_setCell W2 ⟨c, 3, none⟩ ov'
  have hnm : ∀ {m : Nat} {es : Array MapEntry} {cl : Nat}, W1.heap[m]? = some (.map es cl) → c ≠ m := fun h => row_ne_map hr h
  refine ⟨hr2, ⟨?_, ?_, ?_, ?_, ?_, ok, bs, ne⟩, ?_, fun k cs t fr e h1 h2 => ?_⟩
  · exact hr2.set_same 3 ov'
  · exact ho'.grown gs2 (fun cs fr e => by unfold Row at hr2; rw [hr2] at e; cases e)
  · exact hl.of_block ((gs2.block lm (Nat.lt_of_lt_of_le hl.lt hg.size) (fun e => hnm hm1 (Option.some.inj e).symm)).trans (hmap hm1))
  · exact hw.of_block ((gs2.block wm (Nat.lt_of_lt_of_le hw.lt hg.size) (fun e => hnm hm2 (Option.some.inj e).symm)).trans (hmap hm2))
  · refine St.grownT hst2 (fun e => ?_) (fun e => hnm hm3 e.symm) (fun ⟨cs', fr', e⟩ => by unfold Row at hr2; rw [hr2] at e; cases e) gs2
    exact row_ne_row hs.row hr (by decide) e
  · refine ⟨gs2.os.trans hg.os, gs2.tape.trans hg.tape, gs2.output.trans hg.output, Nat.le_trans hg.size gs2.size, fun k hk => ?_⟩
    have hkl : k < W1.heap.size := Nat.lt_of_lt_of_le (Nat.lt_of_lt_of_le hk bs.1) (Nat.le_of_lt hr.lt)
    rw [gs2.block k (Nat.lt_of_lt_of_le hkl hg.size) (fun e => by have h7 : k = c := Option.some.inj e; have := bs.1; omega)]
    refine hg.block k hkl (fun e => ?_)
    have := (ho.ge e.symm).1
    omega
  · have hkl := (Array.getElem?_eq_some_iff.1 e).1
    rw [gs2.block k (Nat.lt_of_lt_of_le hkl hg.size) (fun e2 => by
      have h7 : k = c := Option.some.inj e2
      subst h7
      unfold Row at hr
      rw [hr] at e
      simp at e
      exact h1 e.2.1.symm)]
    exact hg.block k hkl (key k (fun cs' fr' e2 => by rw [e] at e2; simp at e2; exact h2 e2.2.1))
end Go.Proofs.YtamaejlbojbbeaaGreatDoor.Tr
namespace Go.Proofs.YtamaejlbojbbeaaGreatDoor.Sb
open Go.RowKit
attribute [local go_sem ↓] run_load39 quiet_load39 wp_load39 Go.wp_at_zero Go.wp_at_succ
attribute [local go_sem] Is39_drewN rowOf_drewN Is39_drew rowOf_drew ptrB_pointer
set_option maxHeartbeats 1000000 in
set_option maxRecDepth 100000 in
theorem Get_none {w : World} {g m n : Nat} {M : List Nat → Option (List Nat)} {q u : Int} (h : St w g m M n q u) (d : List Nat) (hd : d.length = 32) (V : List Value) (HV : Hid (V = d.map u8v)) (hM : M d = none) :
    Calls Tryz.prog 50 #[.pointer (some ⟨g, 0, none⟩), .agg V.toArray] w fun e w' => e = .returned (.tuple #[.slice none 0 0, .int .i64 50]) ∧ Below w.heap.size w w' := by
  have hs := h.alloc (.cells V.toArray 30)
  have hvl : V.length = 32 := by rw [HV.out]; simpa using hd
  have hr := Row.newAt w _ V 30 rfl
  have hb0 : Below w.heap.size w (w.alloc (.cells V.toArray 30)) := (Below.refl _ _).alloc (Nat.le_refl _) _
  have HB0 := hid_in hb0
  have hf := find_none hs d hd V HV hM
  clear h hM hs hd HV hb0
  go_enter Tryz.func50, Tryz.ntmps50
  go_wp2_with (first | (refine wpList_load_Row rfl 30 _ rfl w.heap.size rfl 30 _ hr _ Tryz.underlying30 rfl 32 info39 hvl ?_) | (go_at_call 108; refine hf.mono ?_; rintro e w1 ⟨rfl, hb1⟩))
  go_ret2
  exact ⟨rfl, HB0.out.trans (hb1.mono (by simp))⟩
theorem neq39 (a b : List Nat) (ha : a.length = 32) (hb : b.length = 32) (V1 V2 : List Value) (H1 : Hid (V1 = a.map u8v)) (H2 : Hid (V2 = b.map u8v)) (t : Bool) (ht : decide (a = b) = t) (w : World) : (Op.equalIn 10000 30 (.agg V1.toArray) (.agg V2.toArray)).run Tryz.prog w = .ok t w := by
  rw [H1.out, H2.out, eq25 a b ha hb, ht]
set_option maxHeartbeats 1000000 in
set_option maxRecDepth 100000 in
theorem Get_ok {w : World} {g m n : Nat} {M : List Nat → Option (List Nat)} {q u : Int} (h : St w g m M n q u) (htab : Tab w) (d : List Nat) (hd : d.length = 32) (V : List Value) (HV : Hid (V = d.map u8v)) (bs : List Nat) (hM : M d = some bs) (hne : Sha.sum bs = d) (hlen : bs.length < 140737488355328) :
    Calls Tryz.prog 50 #[.pointer (some ⟨g, 0, none⟩), .agg V.toArray] w fun e w' => ∃ p cap b, e = .returned (.tuple #[.slice p bs.length cap, .int .i64 0]) ∧ Sl w' p bs cap b 0 ∧ Below w.heap.size w w' := by
  have hs := h.alloc (.cells V.toArray 30)
  have hvl : V.length = 32 := by rw [HV.out]; simpa using hd
  have hr := Row.newAt w _ V 30 rfl
  have hb0 : Below w.heap.size w (w.alloc (.cells V.toArray 30)) := (Below.refl _ _).alloc (Nat.le_refl _) _
  have HB0 := hid_in hb0
  have hf := find_some hs d hd V HV bs hM
  obtain ⟨V1, HV1⟩ : ∃ V1, Hid (V1 = (Sha.sum bs).map u8v) := ⟨_, rfl⟩
  have heq := neq39 (Sha.sum bs) d (sum_length bs) hd V1 V HV1 HV true (decide_eq_true hne)
  have htab0 := htab.below hb0 htab.pos
  have HTAB := hid_in htab0
  have HLEN := hid_in hlen
  clear h hM hs hd HV hb0 htab htab0 hlen hne
  go_enter Tryz.func50, Tryz.ntmps50
  go_wp2_with (first | (refine wpList_load_Row rfl 30 _ rfl w.heap.size rfl 30 _ hr _ Tryz.underlying30 rfl 32 info39 hvl ?_) | (go_at_call 108; refine hf.mono ?_; rintro e w1 ⟨hb1, p, cap, b, off, rfl, hs1, hp1, hn1⟩))
  have hr1 := hr.below hb1 hr.lt
  have hI : Is39 w1 w.heap.size := ⟨V, hr1, hvl⟩
  have hR := rowOf_row hr1
  have HSUM := hid_in (sum_V bs V1 HV1 p b off cap w1.drew ((HTAB.out.below hb1 HTAB.out.pos).below (below_drewN (Below.refl w1.heap.size w1) 1) (HTAB.out.below hb1 HTAB.out.pos).pos) ((hs1.below hb1).below (below_drewN (Below.refl w1.heap.size w1) 1)) (Nat.lt_trans HLEN.out (by decide)))
  have HB1 := hid_in hb1
  have HR1 := hid_in hr1
  have HVL := hid_in hvl
  have HP1 := hid_in hp1
  have HS1 := hid_in (hs1.below hb1)
  clear hs1 hp1 hn1 hb1 hr1 hvl hr hf
  go_region_with (first | (go_at_call 65; refine HSUM.out.mono ?_; rintro e w2 ⟨rfl, hb2⟩; have hr2 := (HR1.out.drew).below hb2 HR1.out.drew.lt; have hI2 : Is39 w2 w.heap.size := ⟨V, hr2, HVL.out⟩; have hR2 := rowOf_row hr2; have HB2 := hid_in hb2; clear hb2 hr2))
  all_goals
    have HCL := hid_in (clone_any bs p cap b off w2 ((HS1.out.below (below_drewN (Below.refl w1.heap.size w1) 1)).below HB2.out) HP1.out (by have := HLEN.out; omega))
    go_wp2_with (go_at_call 109; refine HCL.out.mono ?_; rintro e w3 ⟨p3, cap3, b3, rfl, hs3, hp3, hB3, hT3, hb3⟩)
    go_ret2
    exact ⟨p3, cap3, b3, rfl, hs3, HB0.out.trans ((HB1.out.drew.trans ((HB2.out.mono HB1.out.size).trans (hb3.mono (Nat.le_trans HB1.out.size HB2.out.size)))).mono (by simp))⟩
end Go.Proofs.YtamaejlbojbbeaaGreatDoor.Sb
namespace Go.Proofs.YtamaejlbojbbeaaGreatDoor.Tr
open Go.RowKit
open Nd (take_put wp_slice1)
open Sb (hid_in Row Sl T5 BL u8v Tab wp_world grownBy_setCell below_of_grown info39 one_u8 splice_all rowOf rowOf_row St Bs Kp)
theorem range_row {W : World} {b : Nat} {V : List Value} {t : TypeId} (h : Row W b V t) : W.rangeAt b 0 V := fun j v hv => by rw [Nat.zero_add, h.cell]; exact hv
theorem range_left {W : World} {b : Nat} {V U : List Value} (h : W.rangeAt b 0 (V ++ U)) : W.rangeAt b 0 V := fun j v hv => h j v (by rw [List.getElem?_append_left (List.getElem?_eq_some_iff.1 hv).1]; exact hv)
theorem wp_app122 {op : Oper} {a : Act} {w : World} {K : Act → World → Prop} {Q : Exit → Act → World → Prop} (s x : Operand) (ho : op.op = .call { callee := .builtin .append, args := #[s, x], argTypes := #[122, 122] }) (vs vx v' : Value) (w' : World) (ty : TypeId) (hty : op.type = ty) (hs : a.eval s = vs ∧ a.eval x = vx) (hr : (Builtin.append_ #[122, 122] ty #[vs, vx]).run Tryz.prog w = .ok v' w') (h : K (a.put op.dst v') w') : op.wp Tryz.prog a w K Q := by
  unfold Oper.wp execOp
  subst hty
  simp only [ho, resolve, invoke, builtin, Sem.run_bind, Sem.run_pure, Result.andThen_ok, List.map_toArray, List.map_cons, List.map_nil, hs.1, hs.2, hr]
  exact h
set_option maxHeartbeats 2000000 in
set_option maxRecDepth 100000 in
theorem visit_lack {B : Nat} {w : World} {c gs ms lm wm : Nat} {ov : Value} {M : List Nat → Option (List Nat)} {n : Nat} {q u : Int} {Lk : List (List Nat × Int)} (h : Cs B w c gs ms lm wm ov M n q u [] Lk) (x : List Nat × Int) (hx : PG x) (X : List Value) (HX : Hid (X = pcells x)) (hM : M x.1 = none) :
    Calls Tryz.prog 119 #[.pointer (some ⟨c, 0, none⟩), .agg X.toArray] w fun e w' => e = .returned (.tuple #[.slice none 0 0, .int .i64 0]) ∧ ∃ ov', Cs B w' c gs ms lm wm ov' M n q u [x] Lk ∧ Below B w w' ∧ Kt w w' := by
  obtain ⟨D, HD⟩ : ∃ D, Hid (D = x.1.map u8v) := ⟨_, hid_in rfl⟩
  have HDL : Hid (D.length = 32) := hid_in (by rw [HD.out, List.length_map]; exact hx)
  have HXL : Hid (X.length = 33) := hid_in (by rw [HX.out]; exact pcells_len hx)
  have HXD : Hid (X = D ++ [Value.int .i64 x.2]) := hid_in (by rw [HX.out, HD.out]; rfl)
  obtain ⟨w1, HW1⟩ : ∃ w1, Hid (w.alloc (.cells X.toArray 140) = w1) := ⟨_, hid_in rfl⟩
  have hb1 : Below w.heap.size w w1 := by rw [← HW1.out]; exact (Below.refl _ _).alloc (Nat.le_refl _) _
  have HS1 : Hid (w1.heap.size = w.heap.size + 1) := hid_in (by rw [← HW1.out]; simp)
  have hr1 : Row w1 w.heap.size X 140 := by rw [← HW1.out]; exact Row.new w X 140
  have HR1 := hid_in hr1
  have HB1 := hid_in hb1
  have HC1 := hid_in (h.below hb1)
  have HBW := hid_in h.size
  have HPG := hid_in hx
  have HOL : Hid (∀ k, ov.ownBlock = some k → k < w.heap.size) := hid_in (fun k e => (h.od.ge e).2.1)
  have HG := hid_in (fun W (hW : Below w1.heap.size w1 W) => Sb.Get_none (HC1.out.below hW).st x.1 hx D HD hM)
  have HK1 : Hid (∀ W, Below w1.heap.size w1 W → W.rangeAt w.heap.size 0 D ∧ W.cell? ⟨c, 0, none⟩ = some (.pointer (some ⟨gs, 0, none⟩))) := hid_in (fun W hW => by
    refine ⟨?_, (HC1.out.below hW).row.cell 0⟩
    have := range_row (HR1.out.below hW HR1.out.lt)
    rw [HXD.out] at this
    exact range_left this)
  clear h hb1 hr1 hx hM
  go_enter Tryz.func119, Tryz.ntmps119
  go_upto_region 1 with fail
  refine wp_world HW1.out ?_
  refine wp_region_held_drew (S := fun W' => W'.rangeAt w.heap.size 0 D ∧ W'.cell? ⟨c, 0, none⟩ = some (.pointer (some ⟨gs, 0, none⟩))) (by kernel_rfl) (HK1.out _ (below_drew w1)) (fun hHeld => ?_)
  refine take_put (i := 0) (d := 10) (v := ?_) rfl rfl (by kernel_rfl) (by kernel_rfl) (by kernel_rfl) (fun _ _ _ h => h) (Or.inl ⟨by kernel_rfl, ?_⟩) hHeld ?_
  rotate_left
  · (intro w hSw; (try dsimp only at hSw); go_simp; (try with_reducible rfl))
  simp only [Act.put, List.setIfInBounds_toArray, List.set_cons_zero, List.set_cons_succ]
  refine take_put (i := 1) (d := 11) (v := ?_) rfl rfl (by kernel_rfl) (by kernel_rfl) (by kernel_rfl) (fun _ _ _ h => h) (Or.inl ⟨by kernel_rfl, ?_⟩) hHeld ?_
  rotate_left
  · (intro w hSw; (try dsimp only at hSw); go_simp; (try with_reducible rfl))
  simp only [Act.put, List.setIfInBounds_toArray, List.set_cons_zero, List.set_cons_succ]
  refine take_put (i := 2) (d := 12) (v := ?_) rfl rfl (by kernel_rfl) (by kernel_rfl) (by kernel_rfl) (fun _ _ _ h => h) (Or.inl ⟨by kernel_rfl, ?_⟩) hHeld ?_
  rotate_left
  · (intro w hSw; (try dsimp only at hSw); go_simp; (try with_reducible rfl))
  simp only [Act.put, List.setIfInBounds_toArray, List.set_cons_zero, List.set_cons_succ]
  refine take_put (i := 3) (d := 13) (v := ?_) rfl rfl (by kernel_rfl) (by kernel_rfl) (by kernel_rfl) (fun _ _ _ h => h) (Or.inl ⟨by kernel_rfl, ?_⟩) hHeld ?_
  rotate_left
  · (intro w hSw; (try dsimp only at hSw); go_simp; (try with_reducible rfl))
  simp only [Act.put, List.setIfInBounds_toArray, List.set_cons_zero, List.set_cons_succ]
  refine take_put (i := 4) (d := 14) (v := ?_) rfl rfl (by kernel_rfl) (by kernel_rfl) (by kernel_rfl) (fun _ _ _ h => h) (Or.inl ⟨by kernel_rfl, ?_⟩) hHeld ?_
  rotate_left
  · (intro w hSw; (try dsimp only at hSw); go_simp; (try with_reducible rfl))
  simp only [Act.put, List.setIfInBounds_toArray, List.set_cons_zero, List.set_cons_succ]
  refine take_put (i := 5) (d := 15) (v := .agg D.toArray) rfl rfl (by kernel_rfl) (by kernel_rfl) (by kernel_rfl) (fun _ _ _ h => h) (yieldsIf_load_mid (by rfl) 30 _ rfl _ _ rfl D _ (fun w hSw => hSw.1) Tryz.underlying30 rfl (by rw [info39, HDL.out])) hHeld ?_
  simp only [Act.put, List.setIfInBounds_toArray, List.set_cons_zero, List.set_cons_succ]
  refine wpAnyH_ready (rs := [6]) (by kernel_rfl) (by simp) ?_
  refine AllReadyH.cons rfl (fun K hK => ?_) AllReadyH.nil
  rw [if_pos (by rfl)]
  go_simp
  refine (HG.out _ (below_drew w1)).mono ?_
  rintro e w2 ⟨rfl, hb2⟩
  have HB2 : Hid (Below w1.heap.size w1 w2) := hid_in ((below_drew w1).trans hb2)
  clear hb2
  go_simp
  refine hK.out _ _ (HK1.out _ HB2.out) (fun hHeld => ?_)
  clear hK K
  refine take_put (i := 7) (d := 9) (v := ?_) rfl rfl (by kernel_rfl) (by kernel_rfl) (by kernel_rfl) (fun _ _ _ h => h) (Or.inl ⟨by kernel_rfl, ?_⟩) hHeld ?_
  rotate_left
  · (intro w hSw; (try dsimp only at hSw); go_simp; (try with_reducible rfl))
  simp only [Act.put, List.setIfInBounds_toArray, List.set_cons_zero, List.set_cons_succ]
  refine take_put (i := 8) (d := 17) (v := ?_) rfl rfl (by kernel_rfl) (by kernel_rfl) (by kernel_rfl) (fun _ _ _ h => h) (Or.inl ⟨by kernel_rfl, ?_⟩) hHeld ?_
  rotate_left
  · (intro w hSw; (try dsimp only at hSw); go_simp; (try with_reducible rfl))
  simp only [Act.put, List.setIfInBounds_toArray, List.set_cons_zero, List.set_cons_succ]
  refine take_put (i := 9) (d := 18) (v := ?_) rfl rfl (by kernel_rfl) (by kernel_rfl) (by kernel_rfl) (fun _ _ _ h => h) (Or.inl ⟨by kernel_rfl, ?_⟩) hHeld ?_
  rotate_left
  · (intro w hSw; (try dsimp only at hSw); go_simp; (try with_reducible rfl))
  simp only [Act.put, List.setIfInBounds_toArray, List.set_cons_zero, List.set_cons_succ]
  refine take_put (i := 10) (d := 6) (v := ?_) rfl rfl (by kernel_rfl) (by kernel_rfl) (by kernel_rfl) (fun _ _ _ h => h) (Or.inl ⟨by kernel_rfl, ?_⟩) hHeld ?_
  rotate_left
  · (intro w hSw; (try dsimp only at hSw); go_simp; (try with_reducible rfl))
  simp only [Act.put, List.setIfInBounds_toArray, List.set_cons_zero, List.set_cons_succ]
  refine take_put (i := 11) (d := 7) (v := ?_) rfl rfl (by kernel_rfl) (by kernel_rfl) (by kernel_rfl) (fun _ _ _ h => h) (Or.inl ⟨by kernel_rfl, ?_⟩) hHeld ?_
  rotate_left
  · (intro w hSw; (try dsimp only at hSw); go_simp; (try with_reducible rfl))
  simp only [Act.put, List.setIfInBounds_toArray, List.set_cons_zero, List.set_cons_succ]
  refine wpAnyH_done (by kernel_rfl) ?_ _
  have hC2 := HC1.out.below HB2.out
  obtain ⟨w3, hmu, hpw3, hg3, hs3⟩ := PW.add (hC2.below (below_drew w2)).wt x HPG.out (by simp)
  have hX3 : Hid (pv x = .agg X.toArray) := hid_in (by rw [HX.out]; rfl)
  rw [hX3.out] at hmu
  have HK2 : Hid (w2.drew.rangeAt w.heap.size 0 X ∧ w2.drew.cell? ⟨c, 2, none⟩ = some (.map (some wm))) := hid_in ⟨range_row ((HR1.out.below HB2.out HR1.out.lt).below (below_drew w2) (HR1.out.below HB2.out HR1.out.lt).lt), (hC2.below (below_drew w2)).row.cell 2⟩
  obtain ⟨hrow3, hod3, hps3, hst3⟩ := (hC2.below (below_drew w2)).want hg3
  have hr3 : Row w3 w.heap.size X 140 := ((HR1.out.below HB2.out HR1.out.lt).below (below_drew w2) (HR1.out.below HB2.out HR1.out.lt).lt).grown hg3 (fun e => by
    obtain ⟨es, cl, hm⟩ := hC2.wt.ps.map
    exact row_ne_map (HR1.out.below HB2.out HR1.out.lt) hm (Option.some.inj e))
  have HR3 := hid_in hr3
  have HROW3 := hid_in hrow3
  have HOD3 := hid_in hod3
  have HPS3 := hid_in hps3
  have HST3 := hid_in hst3
  have HPW3 := hid_in hpw3
  have HNE := hid_in hC2.ne
  have HBS := hid_in hC2.bs
  have HB3 : Hid (Below B w w3) := hid_in (by
    have b1 : Below w.heap.size w w2.drew := (HB1.out.trans (HB2.out.mono (by have := HS1.out; omega))).trans ((below_drew w2).mono (Nat.le_trans HB1.out.size HB2.out.size))
    refine (b1.mono HBW.out).trans ⟨hg3.os, hg3.tape, hg3.output, hg3.size, fun k hk => hg3.block k ?_ (fun e => ?_)⟩
    · have := b1.size; have := HBW.out; omega
    · have h7 : k = wm := Option.some.inj e
      have := HBS.out.2.2.2.2
      omega)
  have HT3 : Hid (Kt w w3) := hid_in (by
    obtain ⟨es, cl, hm⟩ := (hC2.below (below_drew w2)).wt.ps.map
    exact (((Kt.below HB1.out).trans (Kt.below HB2.out)).trans (Kt.below (below_drew w2))).trans (Kt.map hg3 hm))
  have HK3 : Hid (w3.rangeAt w.heap.size 0 X ∧ w3.cell? ⟨c, 2, none⟩ = some (.map (some wm))) := hid_in ⟨range_row hr3, hrow3.cell 2⟩
  clear hC2 hrow3 hod3 hps3 hst3 hpw3 hg3 hr3 hs3
  go_upto_region 3 with fail
  refine wp_region_held_drew (S := fun W' => W'.rangeAt w.heap.size 0 X ∧ W'.cell? ⟨c, 2, none⟩ = some (.map (some wm))) (by kernel_rfl) HK2.out (fun hHeld => ?_)
  refine take_put (i := 0) (d := 21) (v := ?_) rfl rfl (by kernel_rfl) (by kernel_rfl) (by kernel_rfl) (fun _ _ _ h => h) (Or.inl ⟨by kernel_rfl, ?_⟩) hHeld ?_
  rotate_left
  · (intro w hSw; (try dsimp only at hSw); go_simp; (try with_reducible rfl))
  simp only [Act.put, List.setIfInBounds_toArray, List.set_cons_zero, List.set_cons_succ]
  refine take_put (i := 1) (d := 22) (v := ?_) rfl rfl (by kernel_rfl) (by kernel_rfl) (by kernel_rfl) (fun _ _ _ h => h) (Or.inl ⟨by kernel_rfl, ?_⟩) hHeld ?_
  rotate_left
  · (intro w hSw; (try dsimp only at hSw); go_simp; (try with_reducible rfl))
  simp only [Act.put, List.setIfInBounds_toArray, List.set_cons_zero, List.set_cons_succ]
  refine take_put (i := 2) (d := 23) (v := ?_) rfl rfl (by kernel_rfl) (by kernel_rfl) (by kernel_rfl) (fun _ _ _ h => h) (Or.inl ⟨by kernel_rfl, ?_⟩) hHeld ?_
  rotate_left
  · (intro w hSw; (try dsimp only at hSw); go_simp; (try with_reducible rfl))
  simp only [Act.put, List.setIfInBounds_toArray, List.set_cons_zero, List.set_cons_succ]
  refine take_put (i := 3) (d := 24) (v := ?_) rfl rfl (by kernel_rfl) (by kernel_rfl) (by kernel_rfl) (fun _ _ _ h => h) (Or.inl ⟨by kernel_rfl, ?_⟩) hHeld ?_
  rotate_left
  · (intro w hSw; (try dsimp only at hSw); go_simp; (try with_reducible rfl))
  simp only [Act.put, List.setIfInBounds_toArray, List.set_cons_zero, List.set_cons_succ]
  refine take_put (i := 4) (d := 25) (v := .agg X.toArray) rfl rfl (by kernel_rfl) (by kernel_rfl) (by kernel_rfl) (fun _ _ _ h => h) (yieldsIf_load_mid (by rfl) 140 _ rfl _ _ rfl X _ (fun w hSw => hSw.1) Tryz.underlying140 rfl (by rw [info140, HXL.out])) hHeld ?_
  simp only [Act.put, List.setIfInBounds_toArray, List.set_cons_zero, List.set_cons_succ]
  refine take_put (i := 5) (d := 26) (v := ?_) rfl rfl (by kernel_rfl) (by kernel_rfl) (by kernel_rfl) (fun _ _ _ h => h) (Or.inl ⟨by kernel_rfl, ?_⟩) hHeld ?_
  rotate_left
  · (intro w hSw; (try dsimp only at hSw); go_simp; (try with_reducible rfl))
  simp only [Act.put, List.setIfInBounds_toArray, List.set_cons_zero, List.set_cons_succ]
  refine wpAnyH_ready (rs := [6]) (by kernel_rfl) (by simp) ?_
  refine AllReadyH.cons rfl (fun K hK => ?_) AllReadyH.nil
  rw [if_pos (by rfl)]
  go_simp
  refine hK.out _ _ HK3.out (fun hHeld => ?_)
  clear hK K
  refine wpAnyH_done (by kernel_rfl) ?_ _
  clear hmu
  go_upto_region 4 with fail
  obtain ⟨w5, HW5⟩ : ∃ w5, Hid (w3.drew.alloc (.cells X.toArray 140) = w5) := ⟨_, hid_in rfl⟩
  have HSL5 : Hid ((Instr.buildSlice 122 1 #[(0, .agg X.toArray)]).run Tryz.prog w3.drew = .ok (.slice (some ⟨w3.heap.size, 0, none⟩) 1 1) w5) := hid_in (by rw [slice122 X HXL.out w3.drew, HW5.out]; rfl)
  have hHB : B ≤ w5.heap.size := by rw [← HW5.out]; simp; exact Nat.le_trans HBW.out (Nat.le_trans HB3.out.size (Nat.le_succ _))
  have hod5 : Od B w5 ov [] := by rw [← HW5.out]; exact (HOD3.out.below (below_drew w3)).below ((Below.refl _ _).alloc (Nat.le_refl _) _)
  obtain ⟨p6, c6, w6, hap, hod6, hg6⟩ := od_app hod5 hHB HPG.out HX.out (s := w3.heap.size) (by rw [← HW5.out]; exact heap_alloc_new w3.drew _) 122
  have b35 : Below w3.heap.size w3 w5 := by rw [← HW5.out]; exact (below_drew w3).trans ((Below.refl w3.drew.heap.size w3.drew).alloc (Nat.le_refl _) _)
  have hrow5 := HROW3.out.below b35 HROW3.out.lt
  obtain ⟨hrow6, hcs, hb6, ht6⟩ := Cs.order hrow5 hod5 (HPS3.out.below b35) (HST3.out.below b35) (HPW3.out.of_block (b35.block _ HPW3.out.lt)) HBS.out HNE.out hg6 hod6 (by intro y hy; simp at hy; subst hy; exact HPG.out)
  have hrx6 : Row w6 w.heap.size X 140 := (HR3.out.below b35 HR3.out.lt).grown hg6 (fun e => by have := HOL.out _ e.symm; omega)
  have HKA : Hid (w3.drew.rangeAt w.heap.size 0 X) := hid_in (range_row (HR3.out.below (below_drew w3) HR3.out.lt))
  have HKB : Hid (w5.rangeAt w.heap.size 0 X) := hid_in (range_row (HR3.out.below b35 HR3.out.lt))
  have HKC : Hid (w6.rangeAt w.heap.size 0 X) := hid_in (range_row hrx6)
  have HKD : Hid ((w6.setCell ⟨c, 3, none⟩ (.slice p6 1 c6)).rangeAt w.heap.size 0 X) := hid_in (range_row (hrx6.set_other _ _ (row_ne_row hrx6 hrow6 (by decide))))
  have c33 : w3.drew.cell? ⟨c, 3, none⟩ = some ov := (HROW3.out.below (below_drew w3) HROW3.out.lt).cell 3
  have c35 : w5.cell? ⟨c, 3, none⟩ = some ov := hrow5.cell 3
  have c36 : w6.cell? ⟨c, 3, none⟩ = some ov := hrow6.cell 3
  have f36 : w6.frozen? ⟨c, 3, none⟩ = false := hrow6.frozen 3
  have HAP := hid_in hap
  have HCS := hid_in hcs
  have HB6 : Hid (Below B w (w6.setCell ⟨c, 3, none⟩ (.slice p6 1 c6))) := hid_in ((HB3.out.trans (b35.mono (Nat.le_trans HBW.out HB3.out.size))).trans hb6)
  have HT6 := hid_in ((HT3.out.trans (Kt.below b35)).trans ht6)
  obtain ⟨op, oc, hov⟩ := HOD3.out.shape
  simp only [List.length_nil] at hov
  subst hov
  clear hHB hod5 hap hod6 hg6 b35 hrow5 hrow6 hcs hb6 ht6 hrx6 HOD3 HROW3 HPS3 HST3 HPW3 HW5
  refine wp_region_held_drew (S := fun W' => W'.rangeAt w.heap.size 0 X) (by kernel_rfl) HKA.out (fun hHeld => ?_)
  refine take_put (i := 0) (d := 27) (v := ?_) rfl rfl (by kernel_rfl) (by kernel_rfl) (by kernel_rfl) (fun _ _ _ h => h) (Or.inl ⟨by kernel_rfl, ?_⟩) hHeld ?_
  rotate_left
  · (intro w hSw; (try dsimp only at hSw); go_simp; (try with_reducible rfl))
  simp only [Act.put, List.setIfInBounds_toArray, List.set_cons_zero, List.set_cons_succ]
  refine take_put (i := 1) (d := 28) (v := ?_) rfl rfl (by kernel_rfl) (by kernel_rfl) (by kernel_rfl) (fun _ _ _ h => h) (Or.inl ⟨by kernel_rfl, ?_⟩) hHeld ?_
  rotate_left
  · (intro w hSw; (try dsimp only at hSw); go_simp; (try with_reducible rfl))
  simp only [Act.put, List.setIfInBounds_toArray, List.set_cons_zero, List.set_cons_succ]
  refine take_put (i := 2) (d := 29) (v := ?_) rfl rfl (by kernel_rfl) (by kernel_rfl) (by kernel_rfl) (fun _ _ _ h => h) (Or.inl ⟨by kernel_rfl, ?_⟩) hHeld ?_
  rotate_left
  · (intro w hSw; (try dsimp only at hSw); go_simp; (try with_reducible rfl))
  simp only [Act.put, List.setIfInBounds_toArray, List.set_cons_zero, List.set_cons_succ]
  refine take_put (i := 3) (d := 30) (v := ?_) rfl rfl (by kernel_rfl) (by kernel_rfl) (by kernel_rfl) (fun _ _ _ h => h) (Or.inl ⟨by kernel_rfl, ?_⟩) hHeld ?_
  rotate_left
  · (intro w hSw; (try dsimp only at hSw); go_simp; (try with_reducible rfl))
  simp only [Act.put, List.setIfInBounds_toArray, List.set_cons_zero, List.set_cons_succ]
  refine take_put (i := 5) (d := 32) (v := .agg X.toArray) rfl rfl (by kernel_rfl) (by kernel_rfl) (by kernel_rfl) (fun _ _ _ h => h) (yieldsIf_load_mid (by rfl) 140 _ rfl _ _ rfl X _ (fun w hSw => hSw) Tryz.underlying140 rfl (by rw [info140, HXL.out])) hHeld ?_
  simp only [Act.put, List.setIfInBounds_toArray, List.set_cons_zero, List.set_cons_succ]
  refine wpAnyH_ready (rs := [4, 6]) (by kernel_rfl) (by simp) ?_
  refine AllReadyH.cons rfl (fun K hK => ?_) (AllReadyH.cons rfl (fun K hK => ?_) AllReadyH.nil)
  · rw [if_pos (by rfl)]
    go_simp
    refine hK.out _ _ HKA.out (fun hHeld => ?_)
    clear hK K
    refine wpAnyH_ready (rs := [6]) (by kernel_rfl) (by simp) ?_
    refine AllReadyH.cons rfl (fun K hK => ?_) AllReadyH.nil
    rw [if_pos (by rfl)]
    refine wp_slice1 122 _ rfl _ _ w5 rfl HSL5.out ?_
    simp only [Act.put, List.setIfInBounds_toArray]
    refine hK.out _ _ HKB.out (fun hHeld => ?_)
    clear hK K
    refine wpAnyH_ready (rs := [7]) (by kernel_rfl) (by simp) ?_
    refine AllReadyH.cons rfl (fun K hK => ?_) AllReadyH.nil
    rw [if_pos (by rfl)]
    refine wp_app122 (.tmp 31) (.tmp 33) rfl _ _ _ _ 122 rfl ⟨rfl, rfl⟩ HAP.out ?_
    simp only [Act.put]
    refine hK.out _ _ HKC.out (fun hHeld => ?_)
    clear hK K
    refine take_put (i := 8) (d := 35) (v := ?_) rfl rfl (by kernel_rfl) (by kernel_rfl) (by kernel_rfl) (fun _ _ _ h => h) (Or.inl ⟨by kernel_rfl, ?_⟩) hHeld ?_
    rotate_left
    · (intro w hSw; (try dsimp only at hSw); go_simp; (try with_reducible rfl))
    simp only [Act.put]
    refine take_put (i := 9) (d := 36) (v := ?_) rfl rfl (by kernel_rfl) (by kernel_rfl) (by kernel_rfl) (fun _ _ _ h => h) (Or.inl ⟨by kernel_rfl, ?_⟩) hHeld ?_
    rotate_left
    · (intro w hSw; (try dsimp only at hSw); go_simp; (try with_reducible rfl))
    simp only [Act.put]
    refine wpAnyH_ready (rs := [10]) (by kernel_rfl) (by simp) ?_
    refine AllReadyH.cons rfl (fun K hK => ?_) AllReadyH.nil
    rw [if_pos (by rfl)]
    go_simp
    refine hK.out _ _ HKD.out (fun hHeld => ?_)
    clear hK K
    refine wpAnyH_done (by kernel_rfl) ?_ _
    clear HKA HKB HKC HKD HG
    go_wp2
    go_ret2
    exact ⟨rfl, _, HCS.out, HB6.out, HT6.out⟩
  · rw [if_pos (by rfl)]
    refine wp_slice1 122 _ rfl _ _ w5 rfl HSL5.out ?_
    simp only [Act.put, List.setIfInBounds_toArray]
    refine hK.out _ _ HKB.out (fun hHeld => ?_)
    clear hK K
    refine wpAnyH_ready (rs := [4]) (by kernel_rfl) (by simp) ?_
    refine AllReadyH.cons rfl (fun K hK => ?_) AllReadyH.nil
    rw [if_pos (by rfl)]
    go_simp
    refine hK.out _ _ HKB.out (fun hHeld => ?_)
    clear hK K
    refine wpAnyH_ready (rs := [7]) (by kernel_rfl) (by simp) ?_
    refine AllReadyH.cons rfl (fun K hK => ?_) AllReadyH.nil
    rw [if_pos (by rfl)]
    refine wp_app122 (.tmp 31) (.tmp 33) rfl _ _ _ _ 122 rfl ⟨rfl, rfl⟩ HAP.out ?_
    simp only [Act.put, List.setIfInBounds_toArray]
    refine hK.out _ _ HKC.out (fun hHeld => ?_)
    clear hK K
    refine take_put (i := 8) (d := 35) (v := ?_) rfl rfl (by kernel_rfl) (by kernel_rfl) (by kernel_rfl) (fun _ _ _ h => h) (Or.inl ⟨by kernel_rfl, ?_⟩) hHeld ?_
    rotate_left
    · (intro w hSw; (try dsimp only at hSw); go_simp; (try with_reducible rfl))
    simp only [Act.put]
    refine take_put (i := 9) (d := 36) (v := ?_) rfl rfl (by kernel_rfl) (by kernel_rfl) (by kernel_rfl) (fun _ _ _ h => h) (Or.inl ⟨by kernel_rfl, ?_⟩) hHeld ?_
    rotate_left
    · (intro w hSw; (try dsimp only at hSw); go_simp; (try with_reducible rfl))
    simp only [Act.put]
    refine wpAnyH_ready (rs := [10]) (by kernel_rfl) (by simp) ?_
    refine AllReadyH.cons rfl (fun K hK => ?_) AllReadyH.nil
    rw [if_pos (by rfl)]
    go_simp
    refine hK.out _ _ HKD.out (fun hHeld => ?_)
    clear hK K
    refine wpAnyH_done (by kernel_rfl) ?_ _
    clear HKA HKB HKC HKD HG
    go_wp2
    go_ret2
    exact ⟨rfl, _, HCS.out, HB6.out, HT6.out⟩
end Go.Proofs.YtamaejlbojbbeaaGreatDoor.Tr
