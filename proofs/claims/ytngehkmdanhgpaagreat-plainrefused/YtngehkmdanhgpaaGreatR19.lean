/-
  SortFunc of paths: a permutation, in order.
-/
import Derived.Deep.RegionLaw
import Derived.Deep.DrawnRows
import Derived.Laws.Tables
import Derived.Lib.SlBytesConst
import Derived.Laws.CopyOwn
import Derived.Lib.AppendZeros
import Derived.Test.YtngehkmdanhgpaaGreatR00
import Derived.Test.YtngehkmdanhgpaaGreatR01
import Derived.Test.YtngehkmdanhgpaaGreatR02
import Derived.Test.YtngehkmdanhgpaaGreatR03
import Derived.Test.YtngehkmdanhgpaaGreatR04
import Derived.Test.YtngehkmdanhgpaaGreatR05
import Derived.Test.YtngehkmdanhgpaaGreatR06
import Derived.Test.YtngehkmdanhgpaaGreatR07
import Derived.Test.YtngehkmdanhgpaaGreatR08
import Derived.Test.YtngehkmdanhgpaaGreatR09
import Derived.Test.YtngehkmdanhgpaaGreatR10
import Derived.Test.YtngehkmdanhgpaaGreatR11
import Derived.Test.YtngehkmdanhgpaaGreatR12
import Derived.Test.YtngehkmdanhgpaaGreatR13
import Derived.Test.YtngehkmdanhgpaaGreatR14
import Derived.Test.YtngehkmdanhgpaaGreatR15
import Derived.Test.YtngehkmdanhgpaaGreatR16
import Derived.Test.YtngehkmdanhgpaaGreatR17
import Derived.Test.YtngehkmdanhgpaaGreatR18
namespace Go.Proofs.YtngehkmdanhgpaaGreat.Pl
open Go.RowKit Go.Sort
open Nd (Row wp_world post_Row post_Row2 grownBy_setCell below_of_grown)
set_option maxHeartbeats 1000000 in
theorem byPath_any (s t : Spot) (w : World) (hs : Rf.Nm w s.v s.names) (ht : Rf.Nm w t.v t.names) :
    Calls Tryz.prog 44 #[s.val, t.val] w fun e w' => e = .returned (.int .i64 (Vp.cmpL s.names t.names)) ∧ ∃ q os', w' = grow (w.drewN q) os' := by
  obtain ⟨v, xs, p, d, x⟩ := s
  obtain ⟨v', xs', p', d', x'⟩ := t
  simp only [Spot.val] at hs ht ⊢
  obtain ⟨W, HW⟩ : ∃ W, Hid ((w.alloc (.cells #[v, .string p, .bool d, .string x] 63)).alloc (.cells #[v', .string p', .bool d', .string x'] 63) = W) := ⟨_, hid_in rfl⟩
  have hb : Below w.heap.size w W := by rw [← HW.out]; exact ((Below.refl _ _).alloc (Nat.le_refl _) _).alloc (by simp) _
  have c0 : W.cell? ⟨w.heap.size, 0, none⟩ = some v := by
    rw [← HW.out]
    have hr := Row.new w [v, .string p, .bool d, .string x] 63
    exact (hr.below ((Below.refl _ _).alloc (Nat.le_refl _) _) hr.lt).cell 0
  have c1 : W.cell? ⟨w.heap.size + 1, 0, none⟩ = some v' := by
    rw [← HW.out]
    have hr := Row.new (w.alloc (.cells #[v, .string p, .bool d, .string x] 63)) [v', .string p', .bool d', .string x'] 63
    have e : (w.alloc (.cells #[v, .string p, .bool d, .string x] 63)).heap.size = w.heap.size + 1 := by simp
    rw [e] at hr
    exact hr.cell 0
  have kp : ∀ {u : Value} {ys : List Vp.Str}, Rf.Nm w u ys → Rf.Nm W u ys := fun h => h.below hb
  have HC := hid_in (Vp.compare_v (kp hs).val (kp ht).val)
  obtain ⟨nq, nc, rfl⟩ := hs.form
  obtain ⟨nq', nc', rfl⟩ := ht.form
  generalize Vp.cmpL xs xs' = r at *
  clear hs ht kp hb
  generalize xs.length = nl at *
  generalize xs'.length = nl' at *
  go_enter Tryz.func44, Tryz.ntmps44
  go_upto_region 1 with fail
  refine wp_world HW.out ?_
  go_wp2_with (first | (go_at_call 81; refine HC.out.mono ?_; rintro e w2 ⟨rfl, hw2⟩; have HW2 := hid_in hw2; clear hw2))
  go_ret
  refine ⟨rfl, 0, #[.cells #[.slice nq nl nc, .string p, .bool d, .string x] 63] ++ #[.cells #[.slice nq' nl' nc', .string p', .bool d', .string x'] 63], ?_⟩
  rw [HW2.out, ← HW.out, alloc_eq_grow, alloc_eq_grow, grow_grow]
  rfl
theorem cmpL_swo {β : Type} (f : β → List Vp.Str) : SWO (ltOf fun x y : β => Vp.cmpL (f x) (f y)) where
  irrefl x := by
    have := (Vp.cmpL_is.zero (f x) (f x)).2 rfl
    simp [ltOf, this]
  trans x y z h1 h2 := by
    simp only [ltOf, decide_eq_true_eq] at *
    exact Vp.cmpL_is.trans _ _ _ h1 h2
  ntrans x y z h1 h2 := by
    simp only [ltOf, decide_eq_false_iff_not] at *
    intro h3
    have t1 := Vp.cmpL_is.turn (f x) (f y)
    have t2 := Vp.cmpL_is.turn (f y) (f z)
    rcases Vp.cmpL_is.three (f x) (f y) with a | a | a
    · omega
    · have e := (Vp.cmpL_is.zero _ _).1 a
      rw [e] at h3
      exact h2 h3
    · rcases Vp.cmpL_is.three (f y) (f z) with b | b | b
      · omega
      · have e := (Vp.cmpL_is.zero _ _).1 b
        rw [← e] at h3
        exact h1 h3
      · have h4 := Vp.cmpL_is.trans (f z) (f y) (f x) (by omega) (by omega)
        have t3 := Vp.cmpL_is.turn (f x) (f z)
        omega
section
variable {α : Type} [Inhabited α]
theorem sortW_other (enc : α → List Value) (k : Nat) (w : World) (blk off m : Nat) (dk : Array α) (os : Array Obj) (b : Nat) (hb : b < w.heap.size) (hne : b ≠ blk) : (sortWorldK enc k w blk off m dk os).heap[b]? = w.heap[b]? := by
  unfold sortWorldK
  rw [heap_grow_old _ _ (by simp [putRowK, putRow, mapBlock, Sort.ahead]; exact hb)]
  simp [putRowK, putRow, mapBlock, Sort.ahead, Array.getElem?_modify, Ne.symm hne]
theorem sortW_same (enc : α → List Value) (k : Nat) (w : World) (blk off m : Nat) (dk : Array α) (os : Array Obj) (cs : Array Value) (t : TypeId) (fr : Nat × Nat) (hb : w.heap[blk]? = some (.cells cs t fr)) : ∃ cs', (sortWorldK enc k w blk off m dk os).heap[blk]? = some (.cells cs' t fr) := by
  have hl := (Array.getElem?_eq_some_iff.1 hb).1
  unfold sortWorldK
  rw [heap_grow_old _ _ (by simp [putRowK, putRow, mapBlock, Sort.ahead]; exact hl)]
  simp [putRowK, putRow, mapBlock, Sort.ahead, Array.getElem?_modify, hb, onCells]
end
/-- the paths, each by its place -/
def encF (sp : List Spot) (i : Fin sp.length) : List Value := (sp[i.val]).cells
def placesF (sp : List Spot) : Array (Fin sp.length) := (List.finRange sp.length).toArray
theorem placesF_size (sp : List Spot) : (placesF sp).size = sp.length := by simp [placesF]
theorem placesF_map (sp : List Spot) : (placesF sp).toList.map (fun i => sp[i.val]) = sp := by
  refine List.ext_getElem (by simp [placesF]) fun i h1 h2 => ?_
  simp [placesF]
theorem extract_all {β : Type} (d : Array β) (n : Nat) (h : d.size = n) : d.extract 0 n = d := by
  subst h
  exact Array.extract_size
theorem cells_get {s : Spot} {y : Nat} (hy : y < 4) : s.cells[y]? = some (s.cells[y]!) := by
  have : y = 0 ∨ y = 1 ∨ y = 2 ∨ y = 3 := by omega
  rcases this with rfl | rfl | rfl | rfl <;> rfl
set_option maxHeartbeats 1000000 in
theorem sort_any (sp : List Spot) (w : World) (B : Nat) (v : Value) (h : SO w B v sp) (hnm : ∀ s ∈ sp, Rf.Nm w s.v s.names) (hn : sp.length ≤ 1000000) :
    Calls Tryz.prog 43 #[v, .func (.func 44) #[] #[]] w fun e w' => e = .returned (.tuple #[]) ∧ Below B w w' ∧ ∃ sp', sp'.Perm sp ∧ sp'.Pairwise (fun s t => ¬ Vp.cmpL t.names s.names < 0) ∧ Sps w' v sp' := by
  by_cases h0 : sp = []
  · subst h0
    have hsp := h.sps
    obtain ⟨p, cap, rfl⟩ := h.form
    have hcon := AnyF.slices_SortFunc_none Tryz.sortSp p cap (.func (.func 44) #[] #[]) w
    change Calls Tryz.prog 43 _ _ _ at hcon
    refine hcon.mono ?_
    rintro e w' ⟨rfl, rfl⟩
    exact ⟨rfl, Below.refl _ _, [], List.Perm.refl _, List.Pairwise.nil, hsp⟩
  · have hpos : 0 < sp.length := List.length_pos_iff.2 h0
    obtain ⟨_, ⟨_, hz⟩ | ⟨blk, cap, cur, rfl, hB, hh, hcap, hmax, hsz0, htk⟩⟩ := h
    · omega
    have hr : Row w blk cur.toList 63 := by simpa [Row] using hh
    have hcell : ∀ (i : Nat) (s : Spot), sp[i]? = some s → ∀ (y : Nat) u, s.cells[y]? = some u → cur.toList[i * 4 + y]? = some u := fun i s hi y u hy => by
      have h1 := scells_at hi y u hy
      have hjl : i * 4 + y < sp.length * 4 := by rw [← scells_len]; exact (List.getElem?_eq_some_iff.1 h1).1
      rw [← htk, List.getElem?_take, if_pos hjl] at h1
      exact h1
    haveI : Inhabited (Fin sp.length) := ⟨⟨0, hpos⟩⟩
    have hsz := placesF_size sp
    have hget : ∀ t, (ht : t < sp.length) → (placesF sp)[t]! = ⟨t, ht⟩ := fun t ht => by
      rw [getElem!_pos _ t (by rw [hsz]; exact ht)]
      simp [placesF]
    have hH : HoldsK (encF sp) 4 w blk 0 (placesF sp) := by
      intro t ht
      rw [size_flatK, hsz] at ht
      rw [get_flatK _ _ _ _ (by rw [hsz]; exact ht)]
      have hi : t / 4 < sp.length := by omega
      have hy : t % 4 < 4 := Nat.mod_lt _ (by decide)
      rw [hget _ hi]
      refine ⟨?_, hr.frozen _⟩
      rw [Nat.zero_add, hr.cell]
      have := hcell (t / 4) _ (List.getElem?_eq_getElem hi) (t % 4) _ (cells_get hy)
      rw [show t / 4 * 4 + t % 4 = t by omega] at this
      rw [this]
      rfl
    have hkeep : ∀ (m : Nat) (os : Array Obj) (dk : Array (Fin sp.length)) s, s ∈ sp → Rf.Nm (sortWorldK (encF sp) 4 w blk 0 m dk os) s.v s.names := fun m os dk s hs => nm_kept (hnm s hs) (fun b cs fr e => by
      rw [sortW_other _ _ _ _ _ _ _ _ b (Array.getElem?_eq_some_iff.1 e).1 (typed_ne e hr (by decide))]
      exact e)
    have hcmp : CmpLays Tryz.prog 44 #[] (encF sp) 4 (fun x y => Vp.cmpL (sp[x.val]).names (sp[y.val]).names) blk 0 (placesF sp).size w := fun m os dk hs x y => by
      rw [Array.append_empty]
      exact byPath_any _ _ _ (hkeep m os dk _ (List.getElem_mem x.2)) (hkeep m os dk _ (List.getElem_mem y.2))
    have eg : ∀ args w, (callFunc 44 args).run Tryz.prog w = .ok (.enter 44 args) w := enters_of Tryz.func44 (by kernel_rfl) rfl
    have hcon := AnyQ.slices_SortFunc Tryz.sortSp 4 Tryz.agg93 Tryz.size93 (encF sp) (fun _ => rfl) (fun x v hv => by
      simp only [encF, Spot.cells, List.mem_cons, List.not_mem_nil, or_false] at hv
      obtain ⟨nq, nc, hq⟩ := (hnm _ (List.getElem_mem x.2)).form
      rcases hv with rfl | rfl | rfl | rfl
      · rw [hq]; rfl
      all_goals rfl) (fun x y => Vp.cmpL (sp[x.val]).names (sp[y.val]).names) (cmpL_swo fun x : Fin sp.length => (sp[x.val]).names) 44 #[] blk 0 cap (placesF sp) w eg hcmp hH hr.lt (by rw [hsz]; omega)
    change Calls Tryz.prog 43 _ _ _ at hcon
    rw [hsz] at hcon
    refine hcon.mono ?_
    rintro e w' ⟨rfl, d', m, os, hp, hs, rfl⟩
    obtain ⟨hp1, _, hp3⟩ := hp
    rw [hsz] at hp1
    have hper : d'.toList.Perm (placesF sp).toList := by
      have e1 : d'.extract 0 sp.length = d' := extract_all _ _ hp1
      have e2 : (placesF sp).extract 0 sp.length = placesF sp := extract_all _ _ hsz
      rw [e1, e2] at hp3
      exact hp3
    have hH' := holdsK_sortWorldK_c (encF sp) 4 w blk 0 (placesF sp) d' m os hH hr.lt (by rw [hp1, hsz])
    have hlen : (d'.toList.map (fun i => sp[i.val])).length = sp.length := by simp [hp1]
    refine ⟨rfl, ⟨rfl, rfl, rfl, size_sortWorldK_c _ _ _ _ _ _ _ _, fun k hk => sortW_other _ _ _ _ _ _ _ _ k (Nat.lt_of_lt_of_le hk (Nat.le_trans hB (Nat.le_of_lt hr.lt))) (by omega)⟩, d'.toList.map (fun i => sp[i.val]), ?_, ?_, ?_⟩
    · have := hper.map (fun i : Fin sp.length => sp[i.val])
      rwa [placesF_map] at this
    · rw [List.pairwise_iff_getElem]
      intro i j hi hj hij
      simp only [List.length_map, Array.length_toList] at hi hj
      have := hs i j (Nat.zero_le _) hij (by rw [← hp1]; exact hj)
      simp only [ltOf, decide_eq_false_iff_not] at this
      rw [getElem!_pos _ i hi, getElem!_pos _ j hj] at this
      simpa using this
    · refine ⟨_, cap, blk, 0, (by rw [hlen]), (by rw [hlen]; exact hcap), by unfold maxLen at hmax; omega, fun _ => ⟨rfl, ?_⟩, fun j u hj => ?_, fun e => by cases e⟩
      · obtain ⟨cs', h⟩ := sortW_same (encF sp) 4 w blk 0 m d' os _ _ _ hr
        exact (Array.getElem?_eq_some_iff.1 h).1
      · have hjl : j < sp.length * 4 := by rw [← hlen, ← scells_len]; exact (List.getElem?_eq_some_iff.1 hj).1
        have hi : j / 4 < d'.size := by omega
        have hyl : j % 4 < 4 := Nat.mod_lt _ (by decide)
        have hs1 : (d'.toList.map (fun i => sp[i.val]))[j / 4]? = some (sp[(d'[j / 4]).val]) := by
          rw [List.getElem?_map, List.getElem?_eq_getElem (by simpa using hi)]
          simp
        have h1 := scells_at hs1 (j % 4) _ (cells_get hyl)
        rw [show j / 4 * 4 + j % 4 = j by omega, hj] at h1
        have := (hH' j (by rw [size_flatK]; omega)).1
        rw [get_flatK _ _ _ _ (by omega), getElem!_pos d' (j / 4) hi] at this
        rw [this, h1]
        rfl
end Go.Proofs.YtngehkmdanhgpaaGreat.Pl
