/-
  SortFunc of paths: a permutation, in order. The walk of List. The walk of kids.
-/
import Derived.Lib.SlBytesConst
import Derived.Laws.CopyOwn
import Derived.Deep.RegionLaw
import Derived.Deep.DrawnRows
import Derived.Lib.AppendZeros
import Derived.Laws.Tables
import Derived.Test.YtngehkmdanhgpaaGreatQ00
import Derived.Test.YtngehkmdanhgpaaGreatQ01
import Derived.Test.YtngehkmdanhgpaaGreatQ02
import Derived.Test.YtngehkmdanhgpaaGreatQ03
import Derived.Test.YtngehkmdanhgpaaGreatQ04
import Derived.Test.YtngehkmdanhgpaaGreatQ05
import Derived.Test.YtngehkmdanhgpaaGreatQ06
import Derived.Test.YtngehkmdanhgpaaGreatQ07
import Derived.Test.YtngehkmdanhgpaaGreatQ08
import Derived.Test.YtngehkmdanhgpaaGreatQ09
import Derived.Test.YtngehkmdanhgpaaGreatQ10
import Derived.Test.YtngehkmdanhgpaaGreatQ11
import Derived.Test.YtngehkmdanhgpaaGreatQ12
import Derived.Test.YtngehkmdanhgpaaGreatQ13
import Derived.Test.YtngehkmdanhgpaaGreatQ14
import Derived.Test.YtngehkmdanhgpaaGreatQ15
import Derived.Test.YtngehkmdanhgpaaGreatQ16
import Derived.Test.YtngehkmdanhgpaaGreatQ17
import Derived.Test.YtngehkmdanhgpaaGreatQ18
import Derived.Test.YtngehkmdanhgpaaGreatQ19
import Derived.Test.YtngehkmdanhgpaaGreatQ21
namespace Go.Proofs.YtngehkmdanhgpaaGreat.Pl
open Go.RowKit Go.Sort
open Nd (Row wp_world post_Row post_Row2 grownBy_setCell below_of_grown)
set_option maxHeartbeats 1000000 in
theorem byPath_any (s t : Spot) (w : World) (hs : Rf.Nm w s.v s.names) (ht : Rf.Nm w t.v t.names) :
    Calls Tryz.prog 44 #[s.val, t.val] w fun e w' => e = .returned (.int .i64 (Vp.cmpL s.names t.names)) ∧ ∃ q os', w' = grow (w.drewN q) os' := by
  obtain ⟨v, xs, p, d, x⟩ := s
  obtain ⟨v', xs', p', d', x'⟩ := t
  simp only [Spot.val] at hs ht ⊢
  obtain ⟨W, HW⟩ : ∃ W, Hid ((w.alloc (.cells #[v, .string p, .bool d, .string x] 63)).alloc (.cells #[v', .string p', .bool d', .string x'] 63) = W) := ⟨_, hid_in rfl⟩
  have hb : Below w.heap.size w W := by rw [← HW.out]; exact ((Below.refl _ _).alloc (Nat.le_refl _) _).alloc (by simp) _
  have c0 : W.cell? ⟨w.heap.size, 0, none⟩ = some v := by
    rw [← HW.out]
    have hr := Row.new w [v, .string p, .bool d, .string x] 63
    exact (hr.below ((Below.refl _ _).alloc (Nat.le_refl _) _) hr.lt).cell 0
  have c1 : W.cell? ⟨w.heap.size + 1, 0, none⟩ = some v' := by
    rw [← HW.out]
    have hr := Row.new (w.alloc (.cells #[v, .string p, .bool d, .string x] 63)) [v', .string p', .bool d', .string x'] 63
    have e : (w.alloc (.cells #[v, .string p, .bool d, .string x] 63)).heap.size = w.heap.size + 1 := by simp
    rw [e] at hr
    exact hr.cell 0
  have kp : ∀ {u : Value} {ys : List Vp.Str}, Rf.Nm w u ys → Rf.Nm W u ys := fun h => h.below hb
  have HC := hid_in (Vp.compare_v (kp hs).val (kp ht).val)
  obtain ⟨nq, nc, rfl⟩ := hs.form
  obtain ⟨nq', nc', rfl⟩ := ht.form
  generalize Vp.cmpL xs xs' = r at *
  clear hs ht kp hb
  generalize xs.length = nl at *
  generalize xs'.length = nl' at *
  go_enter Tryz.func44, Tryz.ntmps44
  go_upto_region 1 with fail
  refine wp_world HW.out ?_
  go_wp2_with (first | (go_at_call 81; refine HC.out.mono ?_; rintro e w2 ⟨rfl, hw2⟩; have HW2 := hid_in hw2; clear hw2))
  go_ret
  refine ⟨rfl, 0, #[.cells #[.slice nq nl nc, .string p, .bool d, .string x] 63] ++ #[.cells #[.slice nq' nl' nc', .string p', .bool d', .string x'] 63], ?_⟩
  rw [HW2.out, ← HW.out, alloc_eq_grow, alloc_eq_grow, grow_grow]
  rfl
theorem cmpL_swo {β : Type} (f : β → List Vp.Str) : SWO (ltOf fun x y : β => Vp.cmpL (f x) (f y)) where
  irrefl x := by
    have := (Vp.cmpL_is.zero (f x) (f x)).2 rfl
    simp [ltOf, this]
  trans x y z h1 h2 := by
    simp only [ltOf, decide_eq_true_eq] at *
    exact Vp.cmpL_is.trans _ _ _ h1 h2
  ntrans x y z h1 h2 := by
    simp only [ltOf, decide_eq_false_iff_not] at *
    intro h3
    have t1 := Vp.cmpL_is.turn (f x) (f y)
    have t2 := Vp.cmpL_is.turn (f y) (f z)
    rcases Vp.cmpL_is.three (f x) (f y) with a | a | a
    · omega
    · have e := (Vp.cmpL_is.zero _ _).1 a
      rw [e] at h3
      exact h2 h3
    · rcases Vp.cmpL_is.three (f y) (f z) with b | b | b
      · omega
      · have e := (Vp.cmpL_is.zero _ _).1 b
        rw [← e] at h3
        exact h1 h3
      · have h4 := Vp.cmpL_is.trans (f z) (f y) (f x) (by omega) (by omega)
        have t3 := Vp.cmpL_is.turn (f x) (f z)
        omega
section
variable {α : Type} [Inhabited α]
theorem sortW_other (enc : α → List Value) (k : Nat) (w : World) (blk off m : Nat) (dk : Array α) (os : Array Obj) (b : Nat) (hb : b < w.heap.size) (hne : b ≠ blk) : (sortWorldK enc k w blk off m dk os).heap[b]? = w.heap[b]? := by
  unfold sortWorldK
  rw [heap_grow_old _ _ (by simp [putRowK, putRow, mapBlock, Sort.ahead]; exact hb)]
  simp [putRowK, putRow, mapBlock, Sort.ahead, Array.getElem?_modify, Ne.symm hne]
theorem sortW_same (enc : α → List Value) (k : Nat) (w : World) (blk off m : Nat) (dk : Array α) (os : Array Obj) (cs : Array Value) (t : TypeId) (fr : Nat × Nat) (hb : w.heap[blk]? = some (.cells cs t fr)) : ∃ cs', (sortWorldK enc k w blk off m dk os).heap[blk]? = some (.cells cs' t fr) := by
  have hl := (Array.getElem?_eq_some_iff.1 hb).1
  unfold sortWorldK
  rw [heap_grow_old _ _ (by simp [putRowK, putRow, mapBlock, Sort.ahead]; exact hl)]
  simp [putRowK, putRow, mapBlock, Sort.ahead, Array.getElem?_modify, hb, onCells]
end
/-- the paths, each by its place -/
def encF (sp : List Spot) (i : Fin sp.length) : List Value := (sp[i.val]).cells
def placesF (sp : List Spot) : Array (Fin sp.length) := (List.finRange sp.length).toArray
theorem placesF_size (sp : List Spot) : (placesF sp).size = sp.length := by simp [placesF]
theorem placesF_map (sp : List Spot) : (placesF sp).toList.map (fun i => sp[i.val]) = sp := by
  refine List.ext_getElem (by simp [placesF]) fun i h1 h2 => ?_
  simp [placesF]
theorem extract_all {β : Type} (d : Array β) (n : Nat) (h : d.size = n) : d.extract 0 n = d := by
  subst h
  exact Array.extract_size
theorem cells_get {s : Spot} {y : Nat} (hy : y < 4) : s.cells[y]? = some (s.cells[y]!) := by
  have : y = 0 ∨ y = 1 ∨ y = 2 ∨ y = 3 := by omega
  rcases this with rfl | rfl | rfl | rfl <;> rfl
set_option maxHeartbeats 1000000 in
theorem sort_any (sp : List Spot) (w : World) (B : Nat) (v : Value) (h : SO w B v sp) (hnm : ∀ s ∈ sp, Rf.Nm w s.v s.names) (hn : sp.length ≤ 1000000) :
    Calls Tryz.prog 43 #[v, .func (.func 44) #[] #[]] w fun e w' => e = .returned (.tuple #[]) ∧ Below B w w' ∧ ∃ sp', sp'.Perm sp ∧ sp'.Pairwise (fun s t => ¬ Vp.cmpL t.names s.names < 0) ∧ Sps w' v sp' := by
  by_cases h0 : sp = []
  · subst h0
    have hsp := h.sps
    obtain ⟨p, cap, rfl⟩ := h.form
    have hcon := AnyF.slices_SortFunc_none Tryz.sortSp p cap (.func (.func 44) #[] #[]) w
    change Calls Tryz.prog 43 _ _ _ at hcon
    refine hcon.mono ?_
    rintro e w' ⟨rfl, rfl⟩
    exact ⟨rfl, Below.refl _ _, [], List.Perm.refl _, List.Pairwise.nil, hsp⟩
  · have hpos : 0 < sp.length := List.length_pos_iff.2 h0
    obtain ⟨_, ⟨_, hz⟩ | ⟨blk, cap, cur, rfl, hB, hh, hcap, hmax, hsz0, htk⟩⟩ := h
    · omega
    have hr : Row w blk cur.toList 63 := by simpa [Row] using hh
    have hcell : ∀ (i : Nat) (s : Spot), sp[i]? = some s → ∀ (y : Nat) u, s.cells[y]? = some u → cur.toList[i * 4 + y]? = some u := fun i s hi y u hy => by
      have h1 := scells_at hi y u hy
      have hjl : i * 4 + y < sp.length * 4 := by rw [← scells_len]; exact (List.getElem?_eq_some_iff.1 h1).1
      rw [← htk, List.getElem?_take, if_pos hjl] at h1
      exact h1
    haveI : Inhabited (Fin sp.length) := ⟨⟨0, hpos⟩⟩
    have hsz := placesF_size sp
    have hget : ∀ t, (ht : t < sp.length) → (placesF sp)[t]! = ⟨t, ht⟩ := fun t ht => by
      rw [getElem!_pos _ t (by rw [hsz]; exact ht)]
      simp [placesF]
    have hH : HoldsK (encF sp) 4 w blk 0 (placesF sp) := by
      intro t ht
      rw [size_flatK, hsz] at ht
      rw [get_flatK _ _ _ _ (by rw [hsz]; exact ht)]
      have hi : t / 4 < sp.length := by omega
      have hy : t % 4 < 4 := Nat.mod_lt _ (by decide)
      rw [hget _ hi]
      refine ⟨?_, hr.frozen _⟩
      rw [Nat.zero_add, hr.cell]
      have := hcell (t / 4) _ (List.getElem?_eq_getElem hi) (t % 4) _ (cells_get hy)
      rw [show t / 4 * 4 + t % 4 = t by omega] at this
      rw [this]
      rfl
    have hkeep : ∀ (m : Nat) (os : Array Obj) (dk : Array (Fin sp.length)) s, s ∈ sp → Rf.Nm (sortWorldK (encF sp) 4 w blk 0 m dk os) s.v s.names := fun m os dk s hs => nm_kept (hnm s hs) (fun b cs fr e => by
      rw [sortW_other _ _ _ _ _ _ _ _ b (Array.getElem?_eq_some_iff.1 e).1 (typed_ne e hr (by decide))]
      exact e)
    have hcmp : CmpLays Tryz.prog 44 #[] (encF sp) 4 (fun x y => Vp.cmpL (sp[x.val]).names (sp[y.val]).names) blk 0 (placesF sp).size w := fun m os dk hs x y => by
      rw [Array.append_empty]
      exact byPath_any _ _ _ (hkeep m os dk _ (List.getElem_mem x.2)) (hkeep m os dk _ (List.getElem_mem y.2))
    have eg : ∀ args w, (callFunc 44 args).run Tryz.prog w = .ok (.enter 44 args) w := enters_of Tryz.func44 (by kernel_rfl) rfl
    have hcon := AnyQ.slices_SortFunc Tryz.sortSp 4 Tryz.agg93 Tryz.size93 (encF sp) (fun _ => rfl) (fun x v hv => by
      simp only [encF, Spot.cells, List.mem_cons, List.not_mem_nil, or_false] at hv
      obtain ⟨nq, nc, hq⟩ := (hnm _ (List.getElem_mem x.2)).form
      rcases hv with rfl | rfl | rfl | rfl
      · rw [hq]; rfl
      all_goals rfl) (fun x y => Vp.cmpL (sp[x.val]).names (sp[y.val]).names) (cmpL_swo fun x : Fin sp.length => (sp[x.val]).names) 44 #[] blk 0 cap (placesF sp) w eg hcmp hH hr.lt (by rw [hsz]; omega)
    change Calls Tryz.prog 43 _ _ _ at hcon
    rw [hsz] at hcon
    refine hcon.mono ?_
    rintro e w' ⟨rfl, d', m, os, hp, hs, rfl⟩
    obtain ⟨hp1, _, hp3⟩ := hp
    rw [hsz] at hp1
    have hper : d'.toList.Perm (placesF sp).toList := by
      have e1 : d'.extract 0 sp.length = d' := extract_all _ _ hp1
      have e2 : (placesF sp).extract 0 sp.length = placesF sp := extract_all _ _ hsz
      rw [e1, e2] at hp3
      exact hp3
    have hH' := holdsK_sortWorldK_c (encF sp) 4 w blk 0 (placesF sp) d' m os hH hr.lt (by rw [hp1, hsz])
    have hlen : (d'.toList.map (fun i => sp[i.val])).length = sp.length := by simp [hp1]
    refine ⟨rfl, ⟨rfl, rfl, rfl, size_sortWorldK_c _ _ _ _ _ _ _ _, fun k hk => sortW_other _ _ _ _ _ _ _ _ k (Nat.lt_of_lt_of_le hk (Nat.le_trans hB (Nat.le_of_lt hr.lt))) (by omega)⟩, d'.toList.map (fun i => sp[i.val]), ?_, ?_, ?_⟩
    · have := hper.map (fun i : Fin sp.length => sp[i.val])
      rwa [placesF_map] at this
    · rw [List.pairwise_iff_getElem]
      intro i j hi hj hij
      simp only [List.length_map, Array.length_toList] at hi hj
      have := hs i j (Nat.zero_le _) hij (by rw [← hp1]; exact hj)
      simp only [ltOf, decide_eq_false_iff_not] at this
      rw [getElem!_pos _ i hi, getElem!_pos _ j hj] at this
      simpa using this
    · refine ⟨_, cap, blk, 0, (by rw [hlen]), (by rw [hlen]; exact hcap), by unfold maxLen at hmax; omega, fun _ => ⟨rfl, ?_⟩, fun j u hj => ?_, fun e => by cases e⟩
      · obtain ⟨cs', h⟩ := sortW_same (encF sp) 4 w blk 0 m d' os _ _ _ hr
        exact (Array.getElem?_eq_some_iff.1 h).1
      · have hjl : j < sp.length * 4 := by rw [← hlen, ← scells_len]; exact (List.getElem?_eq_some_iff.1 hj).1
        have hi : j / 4 < d'.size := by omega
        have hyl : j % 4 < 4 := Nat.mod_lt _ (by decide)
        have hs1 : (d'.toList.map (fun i => sp[i.val]))[j / 4]? = some (sp[(d'[j / 4]).val]) := by
          rw [List.getElem?_map, List.getElem?_eq_getElem (by simpa using hi)]
          simp
        have h1 := scells_at hs1 (j % 4) _ (cells_get hyl)
        rw [show j / 4 * 4 + j % 4 = j by omega, hj] at h1
        have := (hH' j (by rw [size_flatK]; omega)).1
        rw [get_flatK _ _ _ _ (by omega), getElem!_pos d' (j / 4) hi] at this
        rw [this, h1]
        rfl
end Go.Proofs.YtngehkmdanhgpaaGreat.Pl
namespace Go.Proofs.YtngehkmdanhgpaaGreat.Pl
open Go.RowKit
open Vp (Str B bl Val cmpL parseS showS splitS withinS IsPath)
open Nd (Row wp_world post_Row post_Row2 grownBy_setCell below_of_grown)
open Rf (Fil Fls fcells)
def Spot.fil (s : Spot) : Fil := ⟨s.path, s.dir, s.data⟩
theorem fills_fls {W : World} {b : Nat} {vs : List Value} {fs : List Fil} (hr : Row W b vs 48) (hf : Nd.Fills vs 3 (fs.map Fil.cells)) (hn : fs.length ≤ 9223372036854775807) : Fls W (.slice (some ⟨b, 0, none⟩) fs.length fs.length) fs := by
  refine ⟨_, fs.length, b, 0, rfl, Nat.le_refl _, hn, fun _ => ⟨rfl, hr.lt⟩, fun j u hj => ?_, fun e => by cases e⟩
  have hjl : j < fs.length * 3 := by rw [← Rf.fcells_len]; exact (List.getElem?_eq_some_iff.1 hj).1
  have hi : j / 3 < fs.length := by omega
  obtain ⟨s, hs⟩ : ∃ s, fs[j / 3]? = some s := ⟨_, List.getElem?_eq_getElem hi⟩
  have hy : j % 3 < s.cells.length := by simp [Fil.cells]; omega
  have h1 := Rf.fcells_at hs (j % 3) _ (List.getElem?_eq_getElem hy)
  have hjj : j / 3 * 3 + j % 3 = j := by omega
  rw [hjj, hj] at h1
  have h2 := hf (j / 3) s.cells (by rw [List.getElem?_map, hs]; rfl) (j % 3) _ (List.getElem?_eq_getElem hy)
  rw [hjj] at h2
  rw [Nat.zero_add, hr.cell, h2, h1]
/-- between two rounds of List -/
structure LR (w0 : World) (sp : List Spot) (i : Nat) (W : World) : Prop where
  ex : ∃ vs, Row W w0.heap.size vs 48 ∧ vs.length = sp.length * 3 ∧ Nd.Fills vs 3 ((sp.take i).map (fun s => s.fil.cells))
  bel : Below w0.heap.size w0 W
set_option maxHeartbeats 2000000 in
set_option maxRecDepth 100000 in
theorem list_any {w : World} {g m : Nat} {L : List Spot} (h : Fs w g m L) (hn : L.length ≤ 100000) :
    Calls Tryz.prog 16 #[.pointer (some ⟨g, 0, none⟩)] w fun e w' => ∃ (v : Value) (sp : List Spot), e = .returned v ∧ Fls w' v (sp.map Spot.fil) ∧ sp.Perm (L.filter (belowB [])) ∧ sp.Pairwise (fun s t => ¬ cmpL t.names s.names < 0) ∧ Fs w' g m L ∧ Below w.heap.size w w' := by
  have H := hid_in h
  have HBL := hid_in (below_any h (Vp.Val.none w) hn)
  have HN := hid_in hn
  have HSORT := hid_in (fun W (k : Below w.heap.size w W) v sp (hs : SO W w.heap.size v sp) (hp : sp.Perm (L.filter (belowB []))) => sort_any sp W w.heap.size v hs (fun s hs => (h.below k).map.nms s (List.mem_filter.1 (hp.mem_iff.1 hs)).1) (by rw [hp.length_eq]; have := List.length_filter_le (belowB []) L; omega))
  clear h hn
  obtain ⟨i48, z48, hi48, hs48, hb48, hz48, hzc48⟩ := Rf.info81h
  go_enter Tryz.func16, Tryz.ntmps16
  go_upto_region 4 with (first | (go_at_call 42; refine HBL.out.mono ?_; rintro e w1 ⟨v1, sp1, rfl, hs1, hp1, hb1⟩; have HS1 := hid_in hs1; have HP1 := hid_in hp1; have HB1 := hid_in hb1; obtain ⟨p1, cap1, rfl⟩ := hs1.form; clear hs1 hp1 hb1))
  go_upto_region 5 with (first | (go_at_call 43; refine (HSORT.out _ HB1.out _ _ HS1.out HP1.out).mono ?_; rintro e w2 ⟨rfl, hb2, sp, hp2, ho2, hs2⟩; have HB2 := hid_in (HB1.out.trans hb2); have HP2 := hid_in (hp2.trans HP1.out); have HPL := hid_in hp2.length_eq; have HO2 := hid_in ho2; have HS2 := hid_in hs2; clear hb2 hp2 ho2 hs2))
  have hlen : sp.length ≤ 100000 := by
    rw [HP2.out.length_eq]; have := List.length_filter_le (belowB []) L; have := HN.out; omega
  rw [← HPL.out] at HS2 ⊢
  have HSF : Hid (∀ s ∈ sp, Sf s) := fun s hs => by
    have h1 := H.out.map.nms s (List.mem_filter.1 (HP2.out.mem_iff.1 hs)).1
    obtain ⟨p, c, e⟩ := h1.form
    exact ⟨p, _, c, e⟩
  obtain ⟨p', cap', b, o, e1, hc1, hc2, h4, h5, h6⟩ := HS2.out
  simp only [Value.slice.injEq] at e1
  obtain ⟨rfl, _, rfl⟩ := e1
  have H4 := hid_in h4
  have H5 := hid_in h5
  clear h4 h5 h6
  go_wp2_with (first | (refine wpList_make_full _ rfl _ _ 22 rfl _ 48 i48 z48 3 Tryz.underlying22 hi48.out hz48.out hs48.out .i64 .i64 _ _ sp.length rfl rfl rfl rfl (by rw [hb48.out]; omega) (by simp [maxLen]; omega) (Nat.le_refl _) ?_; intro w3 hown hg3; obtain ⟨vs0, hr0, hl0⟩ := Nd.made_row hown; have HR0 := hid_in hr0; have HL0 := hid_in hl0; have HG3 := hid_in hg3; clear hown hr0 hl0 hg3))
  go_loopw [18] (fun vi W => ∃ i : Nat, i ≤ sp.length ∧ vi = .int .i64 (i : Int) ∧ Hid (LR w2 sp i W)) (fun vi _ => sp.length - (intOf vi).toNat)
  case atStart => exact ⟨0, by omega, rfl, ⟨vs0, HR0.out, HL0.out, fun i us h => by simp at h⟩, (Below.refl _ _).grown HG3.out (Nat.le_refl _) (fun k e => by cases e)⟩
  case round =>
    obtain ⟨i, hi, rfl, hpr⟩ := hrel
    by_cases hlt : i < sp.length
    · have hg : sp[i]? = some sp[i] := List.getElem?_eq_getElem hlt
      obtain ⟨hp, hb⟩ := H4.out (by intro h; simp [h] at hlt)
      have hrg : ∀ (y : Nat) u, (sp[i]).cells[y]? = some u → wr.cell? ⟨b, o + i * 4 + y, none⟩ = some u := fun y u hy => by
        rw [hpr.out.bel.cell (p := ⟨b, o + i * 4 + y, none⟩) hb, Nat.add_assoc]
        exact H5.out _ _ (scells_at hg y u hy)
      obtain ⟨nq, nl, nc, hsv⟩ := HSF.out _ (List.getElem_mem hlt)
      generalize sp[i] = s at *
      obtain ⟨sv, sn, st, sd, sx⟩ := s
      simp only at hsv
      subst hp hsv
      have m0 : wr.cell? ⟨b, o + i * 4, none⟩ = some (.slice nq nl nc) := by simpa using hrg 0 _ rfl
      have m1 : wr.cell? ⟨b, o + i * 4 + 1, none⟩ = some (.string st) := hrg 1 _ rfl
      have m2 : wr.cell? ⟨b, o + i * 4 + 2, none⟩ = some (.bool sd) := hrg 2 _ rfl
      have m3 : wr.cell? ⟨b, o + i * 4 + 3, none⟩ = some (.string sx) := hrg 3 _ rfl
      have HG := hid_in hg
      have HC4 : Hid ([Value.slice nq nl nc, .string st, .bool sd, .string sx].length = 4) := rfl
      have HO4 : Hid (∀ v ∈ [Value.slice nq nl nc, .string st, .bool sd, .string sx], v.oneCell' = true) := by
        intro v hv
        simp only [List.mem_cons, List.not_mem_nil, or_false] at hv
        rcases hv with rfl | rfl | rfl | rfl <;> rfl
      have HO3 : Hid (∀ v ∈ [Value.string st, .bool sd, .string sx], v.oneCell' = true) := by
        intro v hv
        simp only [List.mem_cons, List.not_mem_nil, or_false] at hv
        rcases hv with rfl | rfl | rfl <;> rfl
      clear hg hrg
      go_upto_region 9 with (first | (refine Nd.wpList_store_new rfl rfl 63 4 _ _ rfl _ [Value.slice nq nl nc, .string st, .bool sd, .string sx] info63 rfl HC4 HO4 rfl rfl ?_; intro w5 hr5 hb5 hs5))
      obtain ⟨⟨c0, c1, c2, c3⟩, -⟩ := spot_cells hr5 (Below.refl _ w5)
      have HR5 := hid_in hr5
      have HB5 := hid_in hb5
      have HS5 := hid_in hs5
      clear hr5 hb5 hs5 m0 m1 m2 m3
      obtain ⟨vs, hrw, hvl, hf⟩ := hpr.out.ex
      have hrw5 := hrw.below HB5.out hrw.lt
      have HVL := hid_in hvl
      have HF := hid_in hf
      have hwl := hrw5.lt
      clear hrw hvl hf
      go_wp2_with (first | (refine Nd.wpList_store_Row rfl 48 _ _ rfl w2.heap.size _ [Value.string st, .bool sd, .string sx] rfl rfl 48 vs hrw5 3 info48 rfl (by rw [HVL.out]; omega) HO3.out ?_; intro w9 hr9 hg9 hs9))
      have HR9 := hid_in hr9
      have HG9 := hid_in hg9
      clear hr9 hg9 hs9 hrw5
      go_roundw
      case rel =>
        go_light
        refine ⟨i + 1, by omega, by go_num, ⟨_, HR9.out, ?_, ?_⟩, ?_⟩
        · rw [Nd.splice_length _ _ _ (by rw [HVL.out]; simp; omega)]; exact HVL.out
        · have hll : ((sp.take i).map (fun s => s.fil.cells)).length = i := by rw [List.length_map, List.length_take]; omega
          have h3 := HF.out.snoc (fun us hus => by obtain ⟨s, _, rfl⟩ := List.mem_map.1 hus; rfl) [Value.string st, .bool sd, .string sx] rfl (by rw [hll, HVL.out]; omega)
          rw [hll] at h3
          rw [List.take_add_one, HG.out, List.map_append]
          exact h3
        · exact below_of_grown (hpr.out.bel.trans (HB5.out.mono hpr.out.bel.size)) HG9.out (Nat.le_trans hpr.out.bel.size HB5.out.size) (Nat.le_refl _)
      case measure => simp [intOf]; omega
    · obtain rfl : i = sp.length := by omega
      go_wp2_with fail
      go_ret
      obtain ⟨vs, hr, hl, hf⟩ := hpr.out.ex
      have hb := HB2.out.trans (hpr.out.bel.mono HB2.out.size)
      refine ⟨_, rfl, sp, ?_, HP2.out, HO2.out, H.out.below hb, hb⟩
      have h7 := fills_fls (fs := sp.map Spot.fil) hr (by rw [List.take_length] at hf; rw [List.map_map]; exact hf) (by rw [List.length_map]; omega)
      rw [List.length_map] at h7
      exact h7
end Go.Proofs.YtngehkmdanhgpaaGreat.Pl
namespace Go.Proofs.YtngehkmdanhgpaaGreat.Pl
open Go.RowKit
open Vp (Str B bl Val cmpL parseS showS splitS withinS IsPath)
open Nd (Row wp_world post_Row post_Row2 grownBy_setCell below_of_grown)
def kidB (xs : List Str) (s : Spot) : Bool := decide (s.names.length = xs.length + 1)
set_option maxHeartbeats 4000000 in
set_option maxRecDepth 100000 in
theorem kids_any {w : World} {g m : Nat} {L : List Spot} (h : Fs w g m L) {nv : Value} {xs : List Str} (hv : Val w nv xs) (hn : L.length ≤ 100000) (hx : xs.length ≤ 100) :
    Calls Tryz.prog 100 #[.pointer (some ⟨g, 0, none⟩), nv] w fun e w' => ∃ (v : Value) (sp : List Spot), e = .returned v ∧ SO w' w.heap.size v sp ∧ sp.Perm ((L.filter (belowB xs)).filter (kidB xs)) ∧ Below w.heap.size w w' := by
  have HV := hid_in hv
  obtain ⟨np, nc, rfl⟩ : ∃ p c, nv = .slice p xs.length c := by obtain ⟨p, c, e, _⟩ := hv; exact ⟨p, c, e⟩
  have H := hid_in h
  have HN := hid_in hn
  have HBL := hid_in (below_any h hv hn)
  obtain ⟨nl, HNL⟩ : ∃ nl, Hid (xs.length = nl) := ⟨_, hid_in rfl⟩
  rw [HNL.out] at HV HBL hx ⊢
  clear h hv hn
  go_enter Tryz.func100, Tryz.ntmps100
  go_upto_region 3 with (first | (go_at_call 42; refine HBL.out.mono ?_; rintro e w1 ⟨v1, sp, rfl, hs1, hp1, hb1⟩; have HS1 := hid_in hs1; have HP1 := hid_in hp1; have HB1 := hid_in hb1; obtain ⟨p1, cap1, rfl⟩ := hs1.form; clear hs1 hp1 hb1))
  have hlen : sp.length ≤ 100000 := by
    rw [HP1.out.length_eq]; have := List.length_filter_le (belowB xs) L; have := HN.out; omega
  have HNMS : Hid (∀ s ∈ sp, Rf.Nm w s.v s.names) := fun s hs => H.out.map.nms s (List.mem_filter.1 (HP1.out.mem_iff.1 hs)).1
  obtain ⟨p', cap', b, o, e1, hc1, hc2, h4, h5, h6⟩ := HS1.out.sps
  simp only [Value.slice.injEq] at e1
  obtain ⟨rfl, _, rfl⟩ := e1
  have H4 := hid_in h4
  have H5 := hid_in h5
  clear h4 h5 h6
  go_wp2_with fail
  go_loopw [5, 12] (fun v vi W => ∃ i : Nat, i ≤ sp.length ∧ vi = .int .i64 (i : Int) ∧ Hid (SO W w1.heap.size v ((sp.take i).filter (kidB xs)) ∧ Below w1.heap.size w1 W)) (fun _ vi _ => sp.length - (intOf vi).toNat)
  case atStart => exact ⟨0, by omega, rfl, SO.nil _ _, Below.refl _ _⟩
  case round =>
    obtain ⟨i, hi, rfl, hR⟩ := hrel
    by_cases hlt : i < sp.length
    · have hg : sp[i]? = some sp[i] := List.getElem?_eq_getElem hlt
      obtain ⟨hp, hb⟩ := H4.out (by intro h; simp [h] at hlt)
      have hrg : ∀ (y : Nat) u, (sp[i]).cells[y]? = some u → wr.cell? ⟨b, o + i * 4 + y, none⟩ = some u := fun y u hy => by
        rw [hR.out.2.cell (p := ⟨b, o + i * 4 + y, none⟩) hb, Nat.add_assoc]
        exact H5.out _ _ (scells_at hg y u hy)
      have hnm := HNMS.out _ (List.getElem_mem hlt)
      have HTAKE : Hid ((sp.take (i + 1)).filter (kidB xs) = (sp.take i).filter (kidB xs) ++ if kidB xs sp[i] then [sp[i]] else []) := by
        show _ = _
        rw [List.take_add_one, hg, List.filter_append]
        simp only [Option.toList_some, List.filter_cons, List.filter_nil]
      generalize sp[i] = s at *
      obtain ⟨sv, sn, st, sd, sx⟩ := s
      simp only at hnm
      obtain ⟨nq, qc, rfl⟩ := hnm.form
      subst hp
      have m0 : wr.cell? ⟨b, o + i * 4, none⟩ = some (.slice nq sn.length qc) := by simpa using hrg 0 _ rfl
      have m1 : wr.cell? ⟨b, o + i * 4 + 1, none⟩ = some (.string st) := hrg 1 _ rfl
      have m2 : wr.cell? ⟨b, o + i * 4 + 2, none⟩ = some (.bool sd) := hrg 2 _ rfl
      have m3 : wr.cell? ⟨b, o + i * 4 + 3, none⟩ = some (.string sx) := hrg 3 _ rfl
      obtain ⟨ql, HQL⟩ : ∃ ql, Hid (sn.length = ql) := ⟨_, hid_in rfl⟩
      rw [HQL.out] at m0 HTAKE
      have HKB : Hid (kidB xs ⟨.slice nq ql qc, sn, st, sd, sx⟩ = decide (ql = nl + 1)) := by
        show _ = _
        simp only [kidB, HQL.out, HNL.out]
      rw [HKB.out] at HTAKE
      have HC4 : Hid ([Value.slice nq ql qc, .string st, .bool sd, .string sx].length = 4) := rfl
      have HO4 : Hid (∀ v ∈ [Value.slice nq ql qc, .string st, .bool sd, .string sx], v.oneCell' = true) := by
        intro v hv
        simp only [List.mem_cons, List.not_mem_nil, or_false] at hv
        rcases hv with rfl | rfl | rfl | rfl <;> rfl
      clear hg hrg hnm
      go_upto_region 5 with (first | (refine Nd.wpList_store_new rfl rfl 63 4 _ _ rfl _ [Value.slice nq ql qc, .string st, .bool sd, .string sx] info63 rfl HC4 HO4 rfl rfl ?_; intro w5 hr5 hb5 hs5))
      obtain ⟨⟨c0, c1, c2, c3⟩, -⟩ := spot_cells hr5 (Below.refl _ w5)
      have HR5 := hid_in hr5
      have HB5 := hid_in hb5
      clear hr5 hb5 hs5 m0 m1 m2 m3
      by_cases hk : ql = nl + 1
      · have k1 : ((ql : Int) == (nl : Int) + 1) = true := by simp; omega
        rw [decide_eq_true hk] at HTAKE
        clear hk
        have HB6 : Hid (Below w5.heap.size w5 (w5.alloc (.cells #[.slice nq ql qc, .string st, .bool sd, .string sx] 63))) := (Below.refl _ _).alloc (Nat.le_refl _) _
        have HB26 := hid_in (HB5.out.trans (HB6.out.mono HB5.out.size))
        have HO6 := hid_in (hR.out.1.below HB26.out)
        have HF6 := hid_in (sps_one w5 ⟨.slice nq ql qc, sn, st, sd, sx⟩)
        simp only at HF6
        have HSZ6 : Hid (w1.heap.size ≤ (w5.alloc (.cells #[.slice nq ql qc, .string st, .bool sd, .string sx] 63)).heap.size) := Nat.le_trans hR.out.2.size HB26.out.size
        have HL6 : Hid (((sp.take i).filter (kidB xs)).length + [(⟨.slice nq ql qc, sn, st, sd, sx⟩ : Spot)].length ≤ 1000000) := by
          show _ ≤ _
          have h3 := List.length_filter_le (kidB xs) (sp.take i)
          rw [List.length_take] at h3
          simp only [List.length_cons, List.length_nil]
          omega
        go_wp2_with (first | (at_builtin; refine wpList_app63 w1.heap.size rfl (.tmp 23) (.tmp 25) rfl u5 ((sp.take i).filter (kidB xs)) [(⟨.slice nq ql qc, sn, st, sd, sx⟩ : Spot)] rfl HO6.out _ rfl HF6.out (fun t ht => by rw [List.mem_singleton.1 ht]; exact ⟨_, _, _, rfl⟩) HL6.out HSZ6.out ?_; intro v7 w7 ho7 hg7; have HO7 := hid_in ho7; have HB7 := hid_in (HO6.out.step (hR.out.2.trans (HB26.out.mono hR.out.2.size)) HSZ6.out hg7); clear ho7 hg7))
        refine ⟨⟨i + 1, by omega, by go_num, ?_, HB7.out⟩, by simp [intOf]; omega⟩
        rw [HTAKE.out]
        exact HO7.out
      · have k1 : ((ql : Int) == (nl : Int) + 1) = false := beq_eq_false_iff_ne.2 (by omega)
        rw [decide_eq_false hk] at HTAKE
        clear hk
        go_wp2
        refine ⟨⟨i + 1, by omega, by go_num, ?_, hR.out.2.trans (HB5.out.mono hR.out.2.size)⟩, by simp [intOf]; omega⟩
        rw [HTAKE.out]
        simpa using hR.out.1.below HB5.out
    · obtain rfl : i = sp.length := by omega
      go_wp2_with fail
      go_ret
      have h7 := hR.out.1
      rw [List.take_length] at h7
      exact ⟨_, _, rfl, h7.mono HB1.out.size, HP1.out.filter _, HB1.out.trans (hR.out.2.mono HB1.out.size)⟩
end Go.Proofs.YtngehkmdanhgpaaGreat.Pl
