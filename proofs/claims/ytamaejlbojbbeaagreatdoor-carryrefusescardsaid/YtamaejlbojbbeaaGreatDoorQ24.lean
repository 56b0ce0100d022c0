/-
  SortFunc of paths. SortFunc of paths: a permutation, in order. Build. Pairs of a digest and a kind, as keys of a map. Pairs as keys: what a map asks of them. Carriers: what is asked of none. Loads of pairs in regions that draw; sets of pairs; carriers. Whether a pair is wanted.
-/
import Derived.Deep.CutRange
import Derived.Deep.DrawnRows
import Derived.Test.YtamaejlbojbbeaaGreatDoorQ00
import Derived.Test.YtamaejlbojbbeaaGreatDoorQ01
import Derived.Test.YtamaejlbojbbeaaGreatDoorQ02
import Derived.Test.YtamaejlbojbbeaaGreatDoorQ03
import Derived.Test.YtamaejlbojbbeaaGreatDoorQ04
import Derived.Test.YtamaejlbojbbeaaGreatDoorQ05
import Derived.Test.YtamaejlbojbbeaaGreatDoorQ06
import Derived.Test.YtamaejlbojbbeaaGreatDoorQ07
import Derived.Test.YtamaejlbojbbeaaGreatDoorQ08
import Derived.Test.YtamaejlbojbbeaaGreatDoorQ09
import Derived.Test.YtamaejlbojbbeaaGreatDoorQ10
import Derived.Test.YtamaejlbojbbeaaGreatDoorQ11
import Derived.Test.YtamaejlbojbbeaaGreatDoorQ12
import Derived.Test.YtamaejlbojbbeaaGreatDoorQ13
import Derived.Test.YtamaejlbojbbeaaGreatDoorQ14
import Derived.Test.YtamaejlbojbbeaaGreatDoorQ15
import Derived.Test.YtamaejlbojbbeaaGreatDoorQ16
import Derived.Test.YtamaejlbojbbeaaGreatDoorQ17
import Derived.Test.YtamaejlbojbbeaaGreatDoorQ18
import Derived.Test.YtamaejlbojbbeaaGreatDoorQ19
import Derived.Test.YtamaejlbojbbeaaGreatDoorQ20
import Derived.Test.YtamaejlbojbbeaaGreatDoorQ21
import Derived.Test.YtamaejlbojbbeaaGreatDoorQ22
import Derived.Test.YtamaejlbojbbeaaGreatDoorQ23
namespace Go.Proofs.YtamaejlbojbbeaaGreatDoor.Tr
open Go.RowKit Go.Sort
open Sb (hid_in Row Sl T5 BL u8v Tab wp_world grownBy_setCell below_of_grown info39 one_u8 splice_all)
def Spot.agg (s : Spot) : Value := .agg #[s.v, .string s.path, .bool s.dir, .string s.data]
set_option maxHeartbeats 1000000 in
theorem byPath_any (s t : Spot) (w : World) (hs : Nm w s.v s.names) (ht : Nm w t.v t.names) :
    Calls Tryz.prog 42 #[s.agg, t.agg] w fun e w' => e = .returned (.int .i64 (Vp.cmpL s.names t.names)) ∧ ∃ q os', w' = grow (w.drewN q) os' := by
  obtain ⟨v, xs, p, d, x⟩ := s
  obtain ⟨v', xs', p', d', x'⟩ := t
  simp only [Spot.agg] at hs ht ⊢
  obtain ⟨W, HW⟩ : ∃ W, Hid ((w.alloc (.cells #[v, .string p, .bool d, .string x] 93)).alloc (.cells #[v', .string p', .bool d', .string x'] 93) = W) := ⟨_, hid_in rfl⟩
  have hb : Below w.heap.size w W := by rw [← HW.out]; exact ((Below.refl _ _).alloc (Nat.le_refl _) _).alloc (by simp) _
  have c0 : W.cell? ⟨w.heap.size, 0, none⟩ = some v := by
    rw [← HW.out]
    have hr := Row.new w [v, .string p, .bool d, .string x] 93
    exact (hr.below ((Below.refl _ _).alloc (Nat.le_refl _) _) hr.lt).cell 0
  have c1 : W.cell? ⟨w.heap.size + 1, 0, none⟩ = some v' := by
    rw [← HW.out]
    have hr := Row.new (w.alloc (.cells #[v, .string p, .bool d, .string x] 93)) [v', .string p', .bool d', .string x'] 93
    have e : (w.alloc (.cells #[v, .string p, .bool d, .string x] 93)).heap.size = w.heap.size + 1 := by simp
    rw [e] at hr
    exact hr.cell 0
  have kp : ∀ {u : Value} {ys : List Vp.Str}, Nm w u ys → Nm W u ys := fun h => Nm.kept h (fun b cs fr e => (hb.block b (Array.getElem?_eq_some_iff.1 e).1).trans e)
  have HC := hid_in (Vp.compare_v (kp hs).val (kp ht).val)
  obtain ⟨nq, nc, rfl⟩ := own_shape hs
  obtain ⟨nq', nc', rfl⟩ := own_shape ht
  generalize Vp.cmpL xs xs' = r at *
  clear hs ht kp hb
  generalize xs.length = nl at *
  generalize xs'.length = nl' at *
  go_enter Tryz.func42, Tryz.ntmps42
  go_upto_region 1 with fail
  refine wp_world HW.out ?_
  go_wp2_with (first | (go_at_call 94; refine HC.out.mono ?_; rintro e w2 ⟨rfl, hw2⟩; have HW2 := hid_in hw2; clear hw2))
  go_ret
  refine ⟨rfl, 0, #[.cells #[.slice nq nl nc, .string p, .bool d, .string x] 93] ++ #[.cells #[.slice nq' nl' nc', .string p', .bool d', .string x'] 93], ?_⟩
  rw [HW2.out, ← HW.out, alloc_eq_grow, alloc_eq_grow, grow_grow]
  rfl
theorem cmpL_swo {β : Type} (f : β → List Vp.Str) : SWO (ltOf fun x y : β => Vp.cmpL (f x) (f y)) where
  irrefl x := by
    have := (Vp.cmpL_is.zero (f x) (f x)).2 rfl
    simp [ltOf, this]
  trans x y z h1 h2 := by
    simp only [ltOf, decide_eq_true_eq] at *
    exact Vp.cmpL_is.trans _ _ _ h1 h2
  ntrans x y z h1 h2 := by
    simp only [ltOf, decide_eq_false_iff_not] at *
    intro h3
    have t1 := Vp.cmpL_is.turn (f x) (f y)
    have t2 := Vp.cmpL_is.turn (f y) (f z)
    rcases Vp.cmpL_is.three (f x) (f y) with a | a | a
    · omega
    · have e := (Vp.cmpL_is.zero _ _).1 a
      rw [e] at h3
      exact h2 h3
    · rcases Vp.cmpL_is.three (f y) (f z) with b | b | b
      · omega
      · have e := (Vp.cmpL_is.zero _ _).1 b
        rw [← e] at h3
        exact h1 h3
      · have h4 := Vp.cmpL_is.trans (f z) (f y) (f x) (by omega) (by omega)
        have t3 := Vp.cmpL_is.turn (f x) (f z)
        omega
end Go.Proofs.YtamaejlbojbbeaaGreatDoor.Tr
namespace Go.Proofs.YtamaejlbojbbeaaGreatDoor.Tr
open Go.RowKit Go.Sort
open Sb (hid_in Row Sl T5 BL u8v Tab wp_world grownBy_setCell below_of_grown info39 one_u8 splice_all)
section
variable {α : Type} [Inhabited α]
theorem sortW_other (enc : α → List Value) (k : Nat) (w : World) (blk off m : Nat) (dk : Array α) (os : Array Obj) (b : Nat) (hb : b < w.heap.size) (hne : b ≠ blk) : (sortWorldK enc k w blk off m dk os).heap[b]? = w.heap[b]? := by
  unfold sortWorldK
  rw [heap_grow_old _ _ (by simp [putRowK, putRow, mapBlock, Sort.ahead]; exact hb)]
  simp [putRowK, putRow, mapBlock, Sort.ahead, Array.getElem?_modify, Ne.symm hne]
theorem sortW_same (enc : α → List Value) (k : Nat) (w : World) (blk off m : Nat) (dk : Array α) (os : Array Obj) (cs : Array Value) (t : TypeId) (fr : Nat × Nat) (hb : w.heap[blk]? = some (.cells cs t fr)) : ∃ cs', (sortWorldK enc k w blk off m dk os).heap[blk]? = some (.cells cs' t fr) := by
  have hl := (Array.getElem?_eq_some_iff.1 hb).1
  unfold sortWorldK
  rw [heap_grow_old _ _ (by simp [putRowK, putRow, mapBlock, Sort.ahead]; exact hl)]
  simp [putRowK, putRow, mapBlock, Sort.ahead, Array.getElem?_modify, hb, onCells]
end
/-- the paths, each by its place -/
def encF (sp : List Spot) (i : Fin sp.length) : List Value := (sp[i.val]).cells
def placesF (sp : List Spot) : Array (Fin sp.length) := (List.finRange sp.length).toArray
theorem placesF_size (sp : List Spot) : (placesF sp).size = sp.length := by simp [placesF]
theorem placesF_map (sp : List Spot) : (placesF sp).toList.map (fun i => sp[i.val]) = sp := by
  refine List.ext_getElem (by simp [placesF]) fun i h1 h2 => ?_
  simp [placesF]
theorem extract_all {β : Type} (d : Array β) (n : Nat) (h : d.size = n) : d.extract 0 n = d := by
  subst h
  exact Array.extract_size
theorem cells_get {s : Spot} {y : Nat} (hy : y < 4) : s.cells[y]? = some (s.cells[y]!) := by
  have : y = 0 ∨ y = 1 ∨ y = 2 ∨ y = 3 := by omega
  rcases this with rfl | rfl | rfl | rfl <;> rfl
set_option maxHeartbeats 1000000 in
theorem sort_any (sp : List Spot) (w : World) (blk : Nat) (h : OwnS w blk sp) (hn : sp.length ≤ 1000000) :
    Calls Tryz.prog 41 #[.slice (some ⟨blk, 0, none⟩) sp.length sp.length, .func (.func 42) #[] #[]] w fun e w' => e = .returned (.tuple #[]) ∧ Below blk w w' ∧ ∃ sp', sp'.Perm sp ∧ sp'.Pairwise (fun s t => ¬ Vp.cmpL t.names s.names < 0) ∧ Sps w' (.slice (some ⟨blk, 0, none⟩) sp.length sp.length) sp' := by
  obtain ⟨⟨vs, hr, hl, hfl⟩, hnm⟩ := h
  by_cases h0 : sp = []
  · subst h0
    have hcon := AnyF.slices_SortFunc_none Tryz.sortSp (some ⟨blk, 0, none⟩) 0 (.func (.func 42) #[] #[]) w
    change Calls Tryz.prog 41 _ _ _ at hcon
    refine hcon.mono ?_
    rintro e w' ⟨rfl, rfl⟩
    exact ⟨rfl, Below.refl _ _, [], List.Perm.refl _, List.Pairwise.nil, ⟨_, _, blk, 0, rfl, Nat.le_refl _, by simp, fun h => absurd rfl h, fun i s hi => by simp at hi, fun s hs => by cases hs⟩⟩
  · have hpos : 0 < sp.length := List.length_pos_iff.2 h0
    haveI : Inhabited (Fin sp.length) := ⟨⟨0, hpos⟩⟩
    have hsz := placesF_size sp
    have hget : ∀ t, (ht : t < sp.length) → (placesF sp)[t]! = ⟨t, ht⟩ := fun t ht => by
      rw [getElem!_pos _ t (by rw [hsz]; exact ht)]
      simp [placesF]
    have hH : HoldsK (encF sp) 4 w blk 0 (placesF sp) := by
      intro t ht
      rw [size_flatK, hsz] at ht
      rw [get_flatK _ _ _ _ (by rw [hsz]; exact ht)]
      have hi : t / 4 < sp.length := by omega
      have hy : t % 4 < 4 := Nat.mod_lt _ (by decide)
      rw [hget _ hi]
      refine ⟨?_, hr.frozen _⟩
      rw [Nat.zero_add, hr.cell]
      have := hfl (t / 4) (sp[t / 4]).cells (by rw [List.getElem?_map, List.getElem?_eq_getElem hi]; rfl) (t % 4) _ (cells_get hy)
      rw [show t / 4 * 4 + t % 4 = t by omega] at this
      rw [this]
      rfl
    have hkeep : ∀ (m : Nat) (os : Array Obj) (dk : Array (Fin sp.length)) s, s ∈ sp → Nm (sortWorldK (encF sp) 4 w blk 0 m dk os) s.v s.names := fun m os dk s hs => Nm.kept (hnm s hs) (fun b cs fr e => by
      rw [sortW_other _ _ _ _ _ _ _ _ b (Array.getElem?_eq_some_iff.1 e).1 (typed_ne e hr (by decide))]
      exact e)
    have hcmp : CmpLays Tryz.prog 42 #[] (encF sp) 4 (fun x y => Vp.cmpL (sp[x.val]).names (sp[y.val]).names) blk 0 (placesF sp).size w := fun m os dk hs x y => by
      rw [Array.append_empty]
      exact byPath_any _ _ _ (hkeep m os dk _ (List.getElem_mem x.2)) (hkeep m os dk _ (List.getElem_mem y.2))
    have eg : ∀ args w, (callFunc 42 args).run Tryz.prog w = .ok (.enter 42 args) w := enters_of Tryz.func42 (by kernel_rfl) rfl
    have hcon := AnyQ.slices_SortFunc Tryz.sortSp 4 Tryz.agg93 Tryz.size93 (encF sp) (fun _ => rfl) (fun x v hv => by
      simp only [encF, Spot.cells, List.mem_cons, List.not_mem_nil, or_false] at hv
      obtain ⟨nq, nc, hq⟩ := own_shape (hnm _ (List.getElem_mem x.2))
      rcases hv with rfl | rfl | rfl | rfl
      · rw [hq]; rfl
      all_goals rfl) (fun x y => Vp.cmpL (sp[x.val]).names (sp[y.val]).names) (cmpL_swo fun x : Fin sp.length => (sp[x.val]).names) 42 #[] blk 0 sp.length (placesF sp) w eg hcmp hH hr.lt (by rw [hsz]; omega)
    change Calls Tryz.prog 41 _ _ _ at hcon
    rw [hsz] at hcon
    refine hcon.mono ?_
    rintro e w' ⟨rfl, d', m, os, hp, hs, rfl⟩
    obtain ⟨hp1, _, hp3⟩ := hp
    rw [hsz] at hp1
    have hper : d'.toList.Perm (placesF sp).toList := by
      have e1 : d'.extract 0 sp.length = d' := extract_all _ _ hp1
      have e2 : (placesF sp).extract 0 sp.length = placesF sp := extract_all _ _ hsz
      rw [e1, e2] at hp3
      exact hp3
    have hH' := holdsK_sortWorldK_c (encF sp) 4 w blk 0 (placesF sp) d' m os hH hr.lt (by rw [hp1, hsz])
    have hlen : (d'.toList.map (fun i => sp[i.val])).length = sp.length := by simp [hp1]
    refine ⟨rfl, ⟨rfl, rfl, rfl, size_sortWorldK_c _ _ _ _ _ _ _ _, fun k hk => sortW_other _ _ _ _ _ _ _ _ k (Nat.lt_trans hk hr.lt) (Nat.ne_of_lt hk)⟩, d'.toList.map (fun i => sp[i.val]), ?_, ?_, ?_⟩
    · have := hper.map (fun i : Fin sp.length => sp[i.val])
      rwa [placesF_map] at this
    · rw [List.pairwise_iff_getElem]
      intro i j hi hj hij
      simp only [List.length_map, Array.length_toList] at hi hj
      have := hs i j (Nat.zero_le _) hij (by rw [← hp1]; exact hj)
      simp only [ltOf, decide_eq_false_iff_not] at this
      rw [getElem!_pos _ i hi, getElem!_pos _ j hj] at this
      simpa using this
    · refine ⟨_, _, blk, 0, (by rw [hlen]), (by rw [hlen]; exact Nat.le_refl _), by omega, fun _ => ⟨rfl, ?_⟩, fun i s hi => ?_, fun s hs => ?_⟩
      · obtain ⟨cs', h⟩ := sortW_same (encF sp) 4 w blk 0 m d' os _ _ _ hr
        exact ⟨cs', _, h⟩
      · intro y v hy
        have hil : i < d'.size := by have := (List.getElem?_eq_some_iff.1 hi).1; simpa using this
        have hs1 : s = sp[(d'[i]).val] := by
          rw [List.getElem?_map, List.getElem?_eq_getElem (by simpa using hil)] at hi
          simpa using hi.symm
        have hyl : y < 4 := (List.getElem?_eq_some_iff.1 hy).1
        have := (hH' (i * 4 + y) (by rw [size_flatK]; omega)).1
        rw [get_flatK _ _ _ _ (by omega), show (i * 4 + y) / 4 = i by omega, show (i * 4 + y) % 4 = y by omega, getElem!_pos _ i hil] at this
        rw [show 0 + i * 4 + y = 0 + (i * 4 + y) by omega, this]
        rw [cells_get hyl] at hy
        rw [← hy, hs1]
        rfl
      · refine hkeep m os d' s ?_
        simp only [List.mem_map] at hs
        obtain ⟨i, _, rfl⟩ := hs
        exact List.getElem_mem i.2
end Go.Proofs.YtamaejlbojbbeaaGreatDoor.Tr
namespace Go.Proofs.YtamaejlbojbbeaaGreatDoor.Tr
open Go.RowKit
open Sb (hid_in Row Sl T5 BL u8v Tab wp_world grownBy_setCell below_of_grown info39 one_u8 splice_all St Kp needI layI cntI)
/-- which path is told to be wrong, and how -/
def ParseBad (fs : List Fil) (k : Int) : Prop := k ≠ 0 ∧ ∃ (j : Nat) (f : Fil), fs[j]? = some f ∧ f.err = k ∧ ∀ (i : Nat) f', i < j → fs[i]? = some f' → f'.err = 0
def CheckSays (sp : List Spot) (k : Int) : Prop := (k = 1 ∧ Some1 wr1 sp) ∨ (NoneTo wr1 sp sp.length ∧ ((k = 134 ∧ Some1 wr2 sp) ∨ (NoneTo wr2 sp sp.length ∧ ((k = 5 ∧ Some1 wr3 sp) ∨ (NoneTo wr3 sp sp.length ∧ ((k = 4 ∧ Some1 wr4 sp) ∨ (NoneTo wr4 sp sp.length ∧ ((k = 70 ∧ Some1 wr5 sp) ∨ (NoneTo wr5 sp sp.length ∧ ((k = 8 ∧ Some1 wr6 sp) ∨ (NoneTo wr6 sp sp.length ∧ k = 0)))))))))))
theorem CheckSays.ok {sp : List Spot} (h : CheckSays sp 0) : NoneTo wr2 sp sp.length ∧ NoneTo wr3 sp sp.length := by
  rcases h with h | ⟨_, h | ⟨h2, h | ⟨h3, _⟩⟩⟩
  · exact absurd h.1 (by decide)
  · exact absurd h.1 (by decide)
  · exact absurd h.1 (by decide)
  · exact ⟨h2, h3⟩
theorem OwnS.below {w w' : World} {blk : Nat} {sp : List Spot} (h : OwnS w blk sp) (hb : Below w.heap.size w w') : OwnS w' blk sp := by
  obtain ⟨⟨vs, h1, h2⟩, h3⟩ := h
  exact ⟨⟨vs, h1.below hb h1.lt, h2⟩, fun s hs => Nm.kept (h3 s hs) (fun b cs fr e => (hb.block b (Array.getElem?_eq_some_iff.1 e).1).trans e)⟩
/-- the blobs and the root of paths in order -/
def treeL (sp : List Spot) : List (List Nat) := (walkT (sp.length + 1) [] sp []).1
def treeD (sp : List Spot) : List Nat := (walkT (sp.length + 1) [] sp []).2.1
def Ordered (sp sp' : List Spot) : Prop := sp'.Perm sp ∧ sp'.Pairwise (fun s t => ¬ Vp.cmpL t.names s.names < 0)
/-- addTree and put, on what has been checked -/
theorem tree_ready {sp sp' : List Spot} {fs : List Fil} (hm : Mats sp fs) (hc : CheckSays sp 0) (ho : Ordered sp sp') : (sp'.map Spot.names).Nodup ∧ [] ∉ sp'.map Spot.names ∧ (∀ s ∈ sp', s.data.size ≤ 1024) ∧ ∀ s ∈ sp', ∀ x ∈ s.names, (Vp.B x).size ≤ 9223372036854775807 := by
  obtain ⟨h2, h3⟩ := hc.ok
  obtain ⟨h4, h5⟩ := none3_names h3 (mats_shown hm)
  have hp := ho.1.map Spot.names
  refine ⟨hp.nodup_iff.2 h4, fun h => h5 (hp.mem_iff.1 h), fun s hs => none2_size h2 s (ho.1.mem_iff.1 hs), fun s hs => fit_short (mats_fit hm s (ho.1.mem_iff.1 hs))⟩
set_option maxHeartbeats 2000000 in
set_option maxRecDepth 100000 in
theorem build_any {w : World} {gs ms n : Nat} {M : List Nat → Option (List Nat)} {q u : Int} (h : St w gs ms M n q u) (htab : Tab w) (hu0 : 0 ≤ u) (huq : u ≤ q) (hq : q ≤ 9223372036854775807) (fs : List Fil) (v : Value) (hfs : Fls w v fs) (hn : fs.length ≤ 50000) (hp : ∀ f ∈ fs, f.path.size ≤ 9223372036854775807) :
    Calls Tryz.prog 11 #[.pointer (some ⟨gs, 0, none⟩), v] w fun e w' => ∃ (V : List Value) (k : Int), e = .returned (.tuple #[.agg V.toArray, .int .i64 k]) ∧
      ((k ≠ 0 ∧ Below w.heap.size w w' ∧ V = (List.replicate 32 0).map u8v ∧ (ParseBad fs k ∨ ((∀ f ∈ fs, f.err = 0) ∧ ∃ sp, Mats sp fs ∧ (CheckSays sp k ∨ (CheckSays sp 0 ∧ ∃ sp', Ordered sp sp' ∧ k = 3 ∧ q - u < needI M (treeL sp') (treeL sp').length))))) ∨
       (k = 0 ∧ (∀ f ∈ fs, f.err = 0) ∧ ∃ sp sp', Mats sp fs ∧ CheckSays sp 0 ∧ Ordered sp sp' ∧ V = (treeD sp').map u8v ∧ needI M (treeL sp') (treeL sp').length ≤ q - u ∧ St w' gs ms (layI M (treeL sp') (treeL sp').length) (cntI M n (treeL sp') (treeL sp').length) q (u + needI M (treeL sp') (treeL sp').length) ∧ Kp gs ms w w')) := by
  obtain ⟨Z, HZ⟩ : ∃ Z, Hid (Z = (List.replicate 32 0).map u8v) := ⟨_, hid_in rfl⟩
  have hz0 := Sb.zero39n
  rw [← HZ.out] at hz0
  have HZL : Hid (Z.length = 32) := hid_in (by rw [HZ.out]; simp)
  have HZ1 : Hid (∀ v ∈ Z, v.oneCell' = true) := hid_in (by rw [HZ.out]; exact one_u8 _)
  rw [← HZ.out]
  obtain ⟨w1, HW1⟩ : ∃ w1, Hid (w.alloc (.cells Z.toArray 30) = w1) := ⟨_, hid_in rfl⟩
  have hb1 : Below w.heap.size w w1 := by rw [← HW1.out]; exact (Below.refl _ _).alloc (Nat.le_refl _) _
  have hs1 : w1.heap.size = w.heap.size + 1 := by rw [← HW1.out]; simp
  have HR1 : Hid (Row w1 w.heap.size Z 30) := hid_in (by rw [← HW1.out]; exact Row.new w Z 30)
  have HPA := hid_in (parse_any fs v w1 (hfs.below hb1) (by omega) hp)
  have HST1 := hid_in (h.below hb1)
  have HTAB1 := hid_in (htab.below hb1 htab.pos)
  have HB1 := hid_in hb1
  have HS1 := hid_in hs1
  have HGS := hid_in h.glt
  have HMS := hid_in h.mlt
  obtain ⟨p, cap, b, o, rfl, -⟩ := hfs
  clear hb1 hs1 h htab hp
  have hn2 := hn
  generalize hfl : fs.length = fl at *
  have HFL := hid_in hfl
  clear hfl
  go_enter Tryz.func11, Tryz.ntmps11
  go_upto_region 1 with fail
  refine wp_world HW1.out ?_
  go_upto_region 4 with (first | (go_at_call 39; refine HPA.out.mono ?_; rintro e w2 ⟨sv, k, rfl, hb2, hk⟩; have HK := hid_in hk; have HB2 := hid_in hb2; clear hk hb2))
  clear HPA
  rcases HK.out with ⟨hke, hsv, hpb⟩ | ⟨rfl, hno, sp, hsps, hmats, hsv, hown⟩
  · subst hsv
    have hke2 : (k != 0) = true := by simpa using hke
    have HKE := hid_in hke
    have HPB := hid_in hpb
    clear hke hpb HK
    have hr2 := HR1.out.below HB2.out HR1.out.lt
    go_wp2_with (first | (refine Sb.wpList_store_Row rfl 30 _ _ rfl w.heap.size 0 Z rfl rfl 30 Z hr2 32 info39 HZL.out (by rw [HZL.out]; decide) HZ1.out ?_; intro w8 hr8 hg8 hs8; rw [splice_all _ _ rfl] at hr8))
    refine Sb.post_Row2 4 5 30 rfl w.heap.size rfl 30 Z hr8 _ Tryz.underlying30 rfl 32 info39 HZL.out rfl ⟨Z, k, rfl, .inl ⟨HKE.out, ?_, rfl, .inl ⟨HKE.out, HPB.out⟩⟩⟩
    exact below_of_grown (HB1.out.trans (HB2.out.mono HB1.out.size)) hg8 (Nat.le_trans HB1.out.size HB2.out.size) (Nat.le_refl _)
  · have hspl : sp.length = fl := by rw [hmats.1, HFL.out]
    have HSPL := hid_in hspl
    have HNO := hid_in hno
    have HMT := hid_in hmats
    have HOWN := hid_in hown
    have HCH := hid_in (check_any sp sv w2 hsps (mats_fit hmats) (by omega))
    rw [hspl] at hsv
    subst hsv
    clear HK hno hmats hsps hown hspl
    go_upto_region 7 with (first | (go_at_call 40; refine HCH.out.mono ?_; rintro e w3 ⟨k, rfl, hb3, hk⟩; have HK := hid_in hk; have HB3 := hid_in hb3; clear hk hb3))
    clear HCH
    by_cases hk0 : k = 0
    · subst hk0
      have HK0h : Hid (CheckSays sp 0) := by
        show CheckSays sp 0
        have := HK.out
        unfold CheckSays
        exact this
      have HSO := hid_in (sort_any sp w3 w1.heap.size (HOWN.out.below HB3.out) (by rw [HSPL.out]; omega))
      rw [HSPL.out] at HSO
      go_upto_region 10 with (first | (go_at_call 41; refine HSO.out.mono ?_; rintro e w4 ⟨rfl, hb4, sp', hper, hpw, hsps⟩; have HOR : Hid (Ordered sp sp') := hid_in ⟨hper, hpw⟩; have HSP := hid_in hsps; have HB4 := hid_in hb4; clear hper hpw hsps hb4))
      clear HSO
      have b13 : Below w1.heap.size w1 w3 := HB2.out.trans (HB3.out.mono HB2.out.size)
      have b14 : Below w1.heap.size w1 w4 := b13.trans HB4.out
      go_upto_region 11 with fail
      obtain ⟨w5, HW5⟩ : ∃ w5, Hid (w4.alloc (.cells #[.slice none 0 0] 97) = w5) := ⟨_, hid_in rfl⟩
      refine wp_world HW5.out ?_
      have b45 : Below w4.heap.size w4 w5 := by rw [← HW5.out]; exact (Below.refl _ _).alloc (Nat.le_refl _) _
      have b15 : Below w1.heap.size w1 w5 := b14.trans (b45.mono b14.size)
      have hbt5 : Bt w5 w1.heap.size w4.heap.size [] := by rw [← HW5.out]; exact Bt.new w4 _ b14.size
      have hlen : sp'.length = fl := by rw [HOR.out.1.length_eq, HSPL.out]
      obtain ⟨V, HV⟩ : ∃ V, Hid (V = (treeD sp').map u8v) := ⟨_, hid_in rfl⟩
      obtain ⟨hr1, hr2, hr3, hr4⟩ := tree_ready HMT.out HK0h.out HOR.out
      have HVL : Hid (V.length = 32) := hid_in (by rw [HV.out, List.length_map]; exact walkT_sum (Nat.lt_succ_self _))
      have HV1 : Hid (∀ v ∈ V, v.oneCell' = true) := hid_in (by rw [HV.out]; exact one_u8 _)
      have HAT := hid_in (addTree_any w5 w1.heap.size w4.heap.size [] _ sp' hbt5 (HTAB1.out.below b15 HTAB1.out.pos) (by rw [HS1.out]; omega) b15.size (HSP.out.below b45) hr1 hr2 hr3 hr4 (by simp; omega) V HV)
      have HSM : Hid (∀ b ∈ treeL sp', b.length ≤ 4096) := hid_in (walkT_small _ _ _ _ (Nat.lt_succ_self _) hr3 (fun x hx => by cases hx))
      have HLN : Hid ((treeL sp').length ≤ 4194304) := hid_in (by
        have := walkT_len (sp'.length + 1) [] sp' [] hr3
        show (walkT (sp'.length + 1) [] sp' []).1.length ≤ 4194304
        omega)
      have HBT5 := hid_in hbt5
      have HB15 := hid_in b15
      have HNXT : Hid (∀ w6 w7, Bt w6 w1.heap.size w4.heap.size ([] ++ treeL sp') → Fr (fun _ => False) w4.heap.size w5 w6 → Below w6.heap.size w6 w7 → Below w1.heap.size w1 w7 ∧ Bt w7 w1.heap.size w4.heap.size (treeL sp')) := by
        intro w6 w7 hbt hfr hb7
        have b56 : Below w1.heap.size w5 w6 := hfr.below (fun k e => (HBT5.out.own e).1) HBT5.out.le (fun k e => e.elim) HB15.out.size
        have b16 := HB15.out.trans b56
        exact ⟨b16.trans (hb7.mono b16.size), by simpa using hbt.below hb7⟩
      clear b13 b14 b45 b15 hbt5 hr1 hr2 hr3 hr4 HW5 hlen HSP HB4
      generalize w4.heap.size = g at *
      go_upto_region 12 with (first | (go_at_call 43; refine HAT.out.mono ?_; rintro e w6 ⟨rfl, hbt6, hfr6⟩; have HBT6 := hid_in hbt6; have HFR6 := hid_in hfr6; clear hbt6 hfr6) | (refine Sb.wpList_store_new rfl _ _ rfl Z V HZL HVL HV1 rfl rfl ?_; intro w7 hr7 hb7))
      obtain ⟨b17, hbt7⟩ := HNXT.out _ _ HBT6.out HFR6.out hb7
      have hst7 := HST1.out.below b17
      have htab7 := HTAB1.out.below b17 HTAB1.out.pos
      have hR7 := HR1.out.below b17 HR1.out.lt
      have HR7 := hid_in hR7
      have HB17 := hid_in b17
      by_cases hfull : needI M (treeL sp') (treeL sp').length ≤ q - u
      · have HBP := hid_in (bput_ok hst7 htab7 hbt7 HSM.out HLN.out hu0 huq hq hfull V HVL HV1)
        have HFU := hid_in hfull
        clear hst7 htab7 hbt7 hfull hb7 b17 hR7 HNXT HAT
        go_wp2_with (first | (refine Sb.wpList_load_Row rfl 30 _ rfl w6.heap.size rfl 30 _ hr7 _ Tryz.underlying30 rfl 32 info39 HVL.out ?_) | (go_at_call 44; refine HBP.out.mono ?_; rintro e w8 ⟨rfl, hst8, hk8⟩; have hR8 := hk8.row HR7.out (by have := HGS.out; omega) (by have := HMS.out; omega); have HR8 := hid_in hR8; have HST8 := hid_in hst8; have HK8 := hid_in hk8; clear hst8 hk8) | (refine Sb.wpList_store_Row rfl 30 _ _ rfl w.heap.size 0 V rfl rfl 30 Z hR8 32 info39 HVL.out (by rw [HZL.out]; decide) HV1.out ?_; intro w9 hr9 hg9 hs9; rw [splice_all _ _ (by rw [HVL.out, HZL.out])] at hr9))
        refine Sb.post_Row2 4 5 30 rfl w.heap.size rfl 30 V hr9 _ Tryz.underlying30 rfl 32 info39 HVL.out rfl ⟨V, 0, rfl, .inr ⟨rfl, HNO.out, sp, sp', HMT.out, HK0h.out, HOR.out, HV.out, HFU.out, HST8.out.grown39 HR8.out hg9, ?_⟩⟩
        have b07 : Below w.heap.size w w7 := HB1.out.trans (HB17.out.mono HB1.out.size)
        have k1 := (Kp.of_below (g := gs) (m := ms) b07).trans HK8.out
        refine ⟨hg9.os.trans k1.os, hg9.tape.trans k1.tape, hg9.output.trans k1.output, Nat.le_trans k1.size hg9.size, fun j hj h1 h2 => ?_⟩
        rw [hg9.block j (Nat.lt_of_lt_of_le hj k1.size) (fun e => by have := Option.some.inj e; omega)]
        exact k1.block j hj h1 h2
      · have HBP := hid_in (bput_full hst7 htab7 hbt7 HSM.out HLN.out hu0 huq hq (by omega) V Z HVL HZ)
        have HFU : Hid (q - u < needI M (treeL sp') (treeL sp').length) := hid_in (by omega)
        clear hst7 htab7 hbt7 hfull hb7 b17 hR7 HNXT HAT
        go_wp2_with (first | (refine Sb.wpList_load_Row rfl 30 _ rfl w6.heap.size rfl 30 _ hr7 _ Tryz.underlying30 rfl 32 info39 HVL.out ?_) | (go_at_call 44; refine HBP.out.mono ?_; rintro e w8 ⟨rfl, hb8⟩; have hR8 := HR7.out.below hb8 HR7.out.lt; have HB8 := hid_in hb8; clear hb8) | (refine Sb.wpList_store_Row rfl 30 _ _ rfl w.heap.size 0 Z rfl rfl 30 Z hR8 32 info39 HZL.out (by rw [HZL.out]; decide) HZ1.out ?_; intro w9 hr9 hg9 hs9; rw [splice_all _ _ rfl] at hr9))
        refine Sb.post_Row2 4 5 30 rfl w.heap.size rfl 30 Z hr9 _ Tryz.underlying30 rfl 32 info39 HZL.out rfl ⟨Z, 3, rfl, .inl ⟨by decide, ?_, rfl, .inr ⟨HNO.out, sp, HMT.out, .inr ⟨HK0h.out, sp', HOR.out, rfl, HFU.out⟩⟩⟩⟩
        have b07 : Below w.heap.size w w7 := HB1.out.trans (HB17.out.mono HB1.out.size)
        have b08 := b07.trans (HB8.out.mono b07.size)
        exact below_of_grown b08 hg9 b08.size (Nat.le_refl _)
    · have hke2 : (k != 0) = true := by simpa using hk0
      have HKE := hid_in hk0
      clear hk0
      have hr3 := (HR1.out.below HB2.out HR1.out.lt).below HB3.out (HR1.out.below HB2.out HR1.out.lt).lt
      go_wp2_with (first | (refine Sb.wpList_store_Row rfl 30 _ _ rfl w.heap.size 0 Z rfl rfl 30 Z hr3 32 info39 HZL.out (by rw [HZL.out]; decide) HZ1.out ?_; intro w8 hr8 hg8 hs8; rw [splice_all _ _ rfl] at hr8))
      refine Sb.post_Row2 4 5 30 rfl w.heap.size rfl 30 Z hr8 _ Tryz.underlying30 rfl 32 info39 HZL.out rfl ⟨Z, k, rfl, .inl ⟨HKE.out, ?_, rfl, .inr ⟨HNO.out, sp, HMT.out, .inl HK.out⟩⟩⟩
      have hb03 := (HB1.out.trans (HB2.out.mono HB1.out.size)).trans (HB3.out.mono (Nat.le_trans HB1.out.size HB2.out.size))
      exact below_of_grown hb03 hg8 hb03.size (Nat.le_refl _)
end Go.Proofs.YtamaejlbojbbeaaGreatDoor.Tr
namespace Go.Proofs.YtamaejlbojbbeaaGreatDoor.Tr
open Go.RowKit
open Sb (u8v dv)
/-- a pair as the program has it -/
def pcells (x : List Nat × Int) : List Value := x.1.map u8v ++ [.int .i64 x.2]
def pv (x : List Nat × Int) : Value := .agg (pcells x).toArray
def PG (x : List Nat × Int) : Prop := x.1.length = 32
theorem pv_inj {a b : List Nat × Int} (h : pv a = pv b) : a = b := by
  simp only [pv, Value.agg.injEq] at h
  have h2 : a.1.map u8v ++ [Value.int .i64 a.2] = b.1.map u8v ++ [Value.int .i64 b.2] := by simpa [pcells] using congrArg Array.toList h
  obtain ⟨h3, h4⟩ := List.append_inj' h2 rfl
  have h5 : a.1 = b.1 := (List.map_inj_right (fun _ _ h => Sb.u8v_inj h)).1 h3
  simp at h4
  exact Prod.ext h5 h4
theorem part30 (x : List Nat × Int) (h : PG x) (w : World) : (part 30 (pcells x).toArray 0).run Tryz.prog w = .ok (dv x.1) w := by
  have hagg : (isAgg 30).run Tryz.prog w = .ok true w := by kernel_rfl
  have hsz : (sizeOf 30).run Tryz.prog w = .ok 32 w := by kernel_rfl
  have h32 : (x.1.map u8v).length = 32 := by rw [List.length_map]; exact h
  have e : List.take 32 (pcells x) = x.1.map u8v := by
    unfold pcells
    rw [← h32]
    exact List.take_left
  simp [part, Sem.run_bind, hagg, hsz, Result.andThen, e, dv]
theorem part3 (x : List Nat × Int) (h : PG x) (w : World) : (part 3 (pcells x).toArray 32).run Tryz.prog w = .ok (.int .i64 x.2) w := by
  have hagg : (isAgg 3).run Tryz.prog w = .ok false w := by kernel_rfl
  have e : (pcells x).toArray[32]? = some (.int .i64 x.2) := by
    have h32 : (x.1.map u8v).length = 32 := by rw [List.length_map]; exact h
    simp only [List.getElem?_toArray, pcells]
    rw [List.getElem?_append_right (by omega), h32]
    rfl
  simp only [part, Sem.run_bind, hagg, Result.andThen_ok, Bool.false_eq_true, if_false, e, Sem.run_pure]
theorem check140g (em : Bool) (n : Nat) (x : List Nat × Int) (h : PG x) (w : World) : (Instr.checkKey em (n + 1 + 1 + 1) 140 (pv x)).run Tryz.prog w = .ok () w := by
  have h1 := Sb.check39g em n x.1 h w
  have h2 : (Instr.checkKey em (n + 1 + 1) 3 (.int .i64 x.2)).run Tryz.prog w = .ok () w := by
    simp only [Instr.checkKey, Sem.run_bind, run_underlying Tryz.underlying3, Result.andThen_ok, Sem.run_pure]
  rw [Instr.checkKey]
  simp only [pv, Sem.run_bind, run_underlying Tryz.underlying140, Result.andThen_ok]
  simp [part30 x h, part3 x h, h1, h2, Result.andThen, Sem.run_bind]
theorem eqin3 (d : Nat) (a b : Int) (w : World) : (Op.equalIn (d + 1) 3 (.int .i64 a) (.int .i64 b)).run Tryz.prog w = .ok (decide (a = b)) w := by
  simp only [Op.equalIn, Sem.run_bind, run_underlying Tryz.underlying3, Result.andThen_ok, if_true, Sem.run_pure]
  congr 1
theorem eq140g (d : Nat) (a b : List Nat × Int) (ha : PG a) (hb : PG b) (w : World) : (Op.equalIn (d + 1 + 1 + 1) 140 (pv a) (pv b)).run Tryz.prog w = .ok (decide (a = b)) w := by
  have hst : Tryz.prog.stoodInHeld 140 = false := by kernel_rfl
  have h1 : (Op.equalIn (d + 2) 30 (.agg (a.1.map u8v).toArray) (.agg (b.1.map u8v).toArray)).run Tryz.prog w = .ok (decide (a.1 = b.1)) w := Sb.eq25g d a.1 b.1 ha hb w
  have h2 : (Op.equalIn (d + 2) 3 (.int .i64 a.2) (.int .i64 b.2)).run Tryz.prog w = .ok (decide (a.2 = b.2)) w := eqin3 (d + 1) a.2 b.2 w
  have pa := part30 a ha w
  have pa3 := part3 a ha w
  have pb := part30 b hb w
  have pb3 := part3 b hb w
  have hdec : decide (a = b) = (decide (a.1 = b.1) && decide (a.2 = b.2)) := by
    rw [Bool.eq_iff_iff]
    simp [Prod.ext_iff]
  rw [hdec]
  unfold dv at pa pb
  rw [Op.equalIn]
  simp only [pv, Sem.run_bind, run_underlying Tryz.underlying140, Result.andThen_ok]
  generalize decide (a.1 = b.1) = t1 at *
  generalize decide (a.2 = b.2) = t2 at *
  generalize (a.1.map u8v).toArray = A at *
  generalize (b.1.map u8v).toArray = B at *
  cases t1 <;> cases t2 <;> simp [hst, pa, pa3, pb, pb3, h1, h2, Result.andThen, Sem.run_bind, Sem.run_pure]
end Go.Proofs.YtamaejlbojbbeaaGreatDoor.Tr
namespace Go.Proofs.YtamaejlbojbbeaaGreatDoor.Tr
open Go.RowKit
open Sb (u8v dv)
theorem askPair (d : List Nat × Int) (hd : PG d) (w : World) : ∀ (es : List MapEntry) (i : Nat), (∀ e ∈ es, ∃ x : List Nat × Int, PG x ∧ e.key = pv x) →
    ((Instr.findAsking 140 (pv d) es i).run Tryz.prog w = .ok none w ∧ ∀ e ∈ es, e.key ≠ pv d) ∨
    ∃ j e, (Instr.findAsking 140 (pv d) es i).run Tryz.prog w = .ok (some (i + j, e.val)) w ∧ es[j]? = some e ∧ e.key = pv d
  | [], i, _ => .inl ⟨by simp [Instr.findAsking, Sem.run_pure], by simp⟩
  | e :: es, i, h => by
    obtain ⟨d', hd', hk⟩ := h e (by simp)
    have heq : (Op.equal 140 (pv d) e.key).run Tryz.prog w = .ok (decide (d = d')) w := by rw [hk]; exact eq140g 9997 d d' hd hd' w
    by_cases hc : d = d'
    · refine .inr ⟨0, e, ?_, by simp, by rw [hk, hc]⟩
      rw [decide_eq_true hc] at heq
      simp only [Instr.findAsking, Sem.run_bind, heq, Result.andThen_ok, if_true, Sem.run_pure, Nat.add_zero]
    · have hrest := askPair d hd w es (i + 1) (fun x hx => h x (by simp [hx]))
      have hstep : (Instr.findAsking 140 (pv d) (e :: es) i).run Tryz.prog w = (Instr.findAsking 140 (pv d) es (i + 1)).run Tryz.prog w := by
        simp only [Instr.findAsking, Sem.run_bind, heq, Result.andThen_ok, hc, decide_false, Bool.false_eq_true, if_false]
      rw [hstep]
      rcases hrest with ⟨h1, h2⟩ | ⟨j, e2, h1, h2, h3⟩
      · refine .inl ⟨h1, fun x hx => ?_⟩
        rcases List.mem_cons.1 hx with rfl | hx
        · rw [hk]; exact fun hh => hc (pv_inj hh).symm
        · exact h2 x hx
      · exact .inr ⟨j + 1, e2, by rw [h1, show i + 1 + j = i + (j + 1) by omega], by simpa using h2, h3⟩
theorem keyPair : KeyOf 140 pv PG where
  inj := pv_inj
  check em d hd w := check140g em 9997 d hd w
  find d hd w es h := by
    cases es with
    | nil => exact .inl ⟨by simp [Instr.findKey, Instr.findNow, run_underlying Tryz.underlying140, Result.andThen_ok], by simp⟩
    | cons e es =>
      have hstep : (Instr.findKey 140 (pv d) (e :: es)).run Tryz.prog w = (Instr.findAsking 140 (pv d) (e :: es)).run Tryz.prog w := by
        simp only [Instr.findKey, Sem.run_bind, run_underlying Tryz.underlying140, Result.andThen_ok, Instr.findNow, Instr.sameNow]
      rw [hstep]
      have := askPair d hd w (e :: es) 0 h
      simpa only [Nat.zero_add] using this
  stays d _ w := by
    have h : Instr.sameBits 10000 (pv d) (pv d) = true := by
      show Instr.sameBits (9999 + 1) (pv d) (pv d) = true
      simp only [pv, Instr.sameBits, beq_self_eq_true, Bool.true_and, List.all_eq_true]
      rintro ⟨x, y⟩ hx
      obtain ⟨i, hi, hh⟩ := List.getElem_of_mem hx
      simp at hh
      obtain ⟨rfl, rfl⟩ := hh
      have hmem : (pcells d)[i]'(by simpa using hi) ∈ pcells d := List.getElem_mem _
      unfold pcells at hmem
      rcases List.mem_append.1 hmem with hm | hm
      · obtain ⟨n, _, hn⟩ := List.mem_map.1 hm
        simp only [pcells]
        rw [← hn]
        simp [u8v, Instr.sameBits]
      · simp only [List.mem_singleton] at hm
        simp only [pcells]
        rw [hm]
        simp [Instr.sameBits]
    simp only [Instr.keyThatStays, h, if_true, Sem.run_pure]
/-- a set of pairs -/
def PS (W : World) (m : Nat) (S : List (List Nat × Int)) : Prop := ∃ V n, MapI pv PG W m V n ∧ (∀ x, (V x).isSome = true ↔ x ∈ S) ∧ (∀ x v, V x = some v → v = .agg #[])
end Go.Proofs.YtamaejlbojbbeaaGreatDoor.Tr
namespace Go.Proofs.YtamaejlbojbbeaaGreatDoor.Tr
open Go.RowKit
open Sb (hid_in Row Sl T5 BL u8v Tab wp_world grownBy_setCell below_of_grown info39 one_u8 splice_all)
theorem check_nil (k : Int) (w : World) : Calls Tryz.prog 60 #[.pointer none, .int .i64 k] w fun e w' => e = .returned (.int .i64 7) ∧ w' = w := by
  go_enter Tryz.func60, Tryz.ntmps60
  go_wp2
  go_ret
  exact ⟨rfl, rfl⟩
theorem check_dir (gs : Nat) (w : World) : Calls Tryz.prog 60 #[.pointer (some ⟨gs, 0, none⟩), .int .i64 3] w fun e w' => e = .returned (.int .i64 0) ∧ w' = w := by
  go_enter Tryz.func60, Tryz.ntmps60
  go_wp2
  go_ret
  exact ⟨rfl, rfl⟩
theorem done_nil (w : World) : Calls Tryz.prog 35 #[.pointer none] w fun e w' => e = .returned (.bool false) ∧ w' = w := by
  go_enter Tryz.func35, Tryz.ntmps35
  go_wp2
  go_ret
  exact ⟨rfl, rfl⟩
theorem foul_nil (w : World) : Calls Tryz.prog 36 #[.pointer none] w fun e w' => e = .returned (.bool false) ∧ w' = w := by
  go_enter Tryz.func36, Tryz.ntmps36
  go_wp2
  go_ret
  exact ⟨rfl, rfl⟩
theorem want_nil (k : Int) (w : World) : Calls Tryz.prog 33 #[.pointer none, .int .i64 k] w fun e w' => e = .returned (.slice none 0 0) ∧ w' = w := by
  go_enter Tryz.func33, Tryz.ntmps33
  go_wp2
  go_ret
  exact ⟨rfl, rfl⟩
theorem offer_nil (p : Option Addr) (n c : Nat) (w : World) : Calls Tryz.prog 27 #[.pointer none, .slice p n c] w fun e w' => e = .returned (.int .i64 7) ∧ w' = w := by
  go_enter Tryz.func27, Tryz.ntmps27
  go_wp2
  go_ret
  exact ⟨rfl, rfl⟩
theorem new_nil (V : List Value) (k : Int) (w : World) : Calls Tryz.prog 23 #[.pointer none, .agg V.toArray, .int .i64 k] w fun e w' => e = .returned (.tuple #[.pointer none, .int .i64 7]) ∧ w' = w.alloc (.cells V.toArray 30) := by
  have HC := hid_in (fun W => check_nil k W)
  go_enter Tryz.func23, Tryz.ntmps23
  go_wp2_with (first | (go_at_call 60; refine (HC.out _).mono ?_; rintro e w2 ⟨rfl, rfl⟩))
  go_ret2
  exact ⟨rfl, rfl⟩
theorem reach_nil (V : List Value) (k : Int) (w : World) : Calls Tryz.prog 30 #[.pointer none, .agg V.toArray, .int .i64 k] w fun e w' => e = .returned (.tuple #[.slice none 0 0, .int .i64 7]) ∧ Below w.heap.size w w' := by
  have HC := hid_in (fun W => check_nil k W)
  go_enter Tryz.func30, Tryz.ntmps30
  go_wp2_with (first | (go_at_call 60; refine (HC.out _).mono ?_; rintro e w2 ⟨rfl, rfl⟩))
  go_ret2
  exact ⟨rfl, ((Below.refl _ _).alloc (Nat.le_refl _) _).alloc (by simp) _⟩
end Go.Proofs.YtamaejlbojbbeaaGreatDoor.Tr
namespace Go.Proofs.YtamaejlbojbbeaaGreatDoor.Tr
open Go.RowKit
open Sb (hid_in Row Sl T5 BL u8v Tab wp_world grownBy_setCell below_of_grown info39 one_u8 splice_all rowOf rowOf_row rowOf_drewN rowOf_drew ptrB ptrB_pointer St)
theorem info140 : (Tryz.prog.info? 140).map (·.size) = some 33 := by kernel_rfl
/-- block b holds one pair -/
def Is140 (w : World) (b : Nat) : Prop := ∃ V, Row w b V 140 ∧ V.length = 33
theorem Is140_drewN (w : World) (b n : Nat) : Is140 (w.drewN n) b = Is140 w b := by simp [Is140, Row]
theorem Is140_drew (w : World) (b : Nat) : Is140 w.drew b = Is140 w b := rfl
theorem run_load140 {v : Value} {w : World} (h1 : v = .pointer (some ⟨ptrB v, 0, none⟩)) (h2 : Is140 w (ptrB v)) : (Instr.loadAt 140 v).run Tryz.prog w = .ok (.agg (rowOf w (ptrB v)).toArray) w := by
  obtain ⟨V, hr, hl⟩ := h2
  rw [rowOf_row hr]
  generalize ptrB v = b at h1 hr
  subst h1
  simp only [Instr.loadAt, Instr.sureAddr, Sem.run_bind, Sem.run_pure, Result.andThen_ok]
  exact run_loadVar_mid w b 0 140 V _ (fun j v hv => by rw [Nat.zero_add, hr.cell]; exact hv) Tryz.underlying140 rfl (by rw [info140, hl])
theorem quiet_load140 {W : World} {d : Option Tmp} {ty : TypeId} {ps : String} {af : Array Edge} {gd : Option (Nat × Bool)} {x : Operand} {a : Act} {K : Act → Prop} (h1 : a.eval x = .pointer (some ⟨ptrB (a.eval x), 0, none⟩)) (h2 : Is140 W (ptrB (a.eval x))) :
    Oper.quiet Tryz.prog { dst := d, op := Op.load 140 x, type := ty, pos := ps, after := af, guard := gd } a (fun w' => ∃ n, w' = W.drewN n) K = K (a.put d (.agg (rowOf W (ptrB (a.eval x))).toArray)) := by
  have hrun : ∀ n, (Instr.loadAt 140 (a.eval x)).run Tryz.prog (W.drewN n) = .ok (.agg (rowOf W (ptrB (a.eval x))).toArray) (W.drewN n) := fun n => by
    rw [run_load140 h1 (by rw [Is140_drewN]; exact h2), rowOf_drewN]
  generalize Value.agg (rowOf W (ptrB (a.eval x))).toArray = v at hrun
  have hat : ∀ n u, Oper.quietAt Tryz.prog { dst := d, op := Op.load 140 x, type := ty, pos := ps, after := af, guard := gd } a (fun w' => ∃ n, w' = W.drewN n) (W.drewN n) u ↔ v = u := by
    intro n u
    unfold Oper.quietAt execOp
    simp only [Sem.run_bind, hrun, Result.andThen_ok, Sem.run_pure, Oper.quietUpon, true_and]
  apply propext
  constructor
  · rintro ⟨u, h, hk⟩
    have := (hat 0 u).1 (h _ ⟨0, rfl⟩)
    rw [this]
    exact hk
  · intro hk
    exact ⟨v, fun w hw => by obtain ⟨n, rfl⟩ := hw; exact (hat n v).2 rfl, hk⟩
theorem wp_load140 {d : Option Tmp} {ty : TypeId} {ps : String} {af : Array Edge} {gd : Option (Nat × Bool)} {x : Operand} {a : Act} {w : World} {K : Act → World → Prop} {Q : Exit → Act → World → Prop} (h1 : a.eval x = .pointer (some ⟨ptrB (a.eval x), 0, none⟩)) (h2 : Is140 w (ptrB (a.eval x))) :
    Oper.wp Tryz.prog { dst := d, op := Op.load 140 x, type := ty, pos := ps, after := af, guard := gd } a w K Q = K (a.put d (.agg (rowOf w (ptrB (a.eval x))).toArray)) w := by
  have hrun := run_load140 h1 h2
  generalize Value.agg (rowOf w (ptrB (a.eval x))).toArray = v at hrun ⊢
  unfold Oper.wp execOp
  simp only [Sem.run_bind, hrun, Result.andThen_ok, Sem.run_pure]
  rfl
theorem pcells_len {x : List Nat × Int} (h : PG x) : (pcells x).length = 33 := by
  unfold PG at h
  simp [pcells, h]
theorem pcells_one (x : List Nat × Int) : ∀ v ∈ pcells x, v.oneCell' = true := by
  intro v hv
  rcases List.mem_append.1 hv with hv | hv
  · exact one_u8 _ v hv
  · simp at hv; subst hv; rfl
theorem PS.lt {W : World} {m : Nat} {S : List (List Nat × Int)} (h : PS W m S) : m < W.heap.size := by
  obtain ⟨V, n, hV, _⟩ := h; exact hV.lt
theorem PS.of_block {W W' : World} {m : Nat} {S : List (List Nat × Int)} (h : PS W m S) (hb : W'.heap[m]? = W.heap[m]?) : PS W' m S := by
  obtain ⟨V, n, hV, h1, h2⟩ := h; exact ⟨V, n, hV.of_block hb, h1, h2⟩
theorem PS.below {W W' : World} {m : Nat} {S : List (List Nat × Int)} (h : PS W m S) (hb : Below W.heap.size W W') : PS W' m S := h.of_block (hb.block _ h.lt)
theorem PS.new (w : World) : PS (w.alloc (.map #[] 0)) w.heap.size [] := ⟨_, _, MapI.new pv PG w, by simp, by simp⟩
theorem PS.look {W : World} {m : Nat} {S : List (List Nat × Int)} (h : PS W m S) (x : List Nat × Int) (hx : PG x) (t : Bool) (ht : t = true ↔ x ∈ S) : (Instr.lookup 121 (.map (some m)) (pv x) true).run Tryz.prog W = .ok (.tuple #[.agg #[], .bool t]) W := by
  obtain ⟨V, n, hV, h1, h2⟩ := h
  have hl := hV.look keyPair 121 151 Tryz.underlying121 (.agg #[]) (Sb.zero100 _) x hx
  have e1 : (V x).getD (.agg #[]) = .agg #[] := by
    cases hv : V x with
    | none => rfl
    | some y => rw [h2 x y hv]; rfl
  have e2 : (V x).isSome = t := by rw [Bool.eq_iff_iff, h1, ht]
  rw [e1, e2] at hl
  exact hl
theorem PS.add {W : World} {m : Nat} {S : List (List Nat × Int)} (h : PS W m S) (x : List Nat × Int) (hx : PG x) : ∃ W', (Instr.mapUpdate 121 (.map (some m)) (pv x) (.agg #[])).run Tryz.prog W = .ok () W' ∧ PS W' m (S ++ [x]) ∧ W.grownBy W' (some m) ∧ W'.heap.size = W.heap.size := by
  obtain ⟨V, n, hV, h1, h2⟩ := h
  obtain ⟨W', hr, hV', hg, hs⟩ := hV.store keyPair 121 151 Tryz.underlying121 x hx (.agg #[])
  refine ⟨W', hr, ⟨_, _, hV', fun y => ?_, fun y v => ?_⟩, hg, hs⟩
  · unfold updG
    split
    · rename_i hy; subst hy; simp
    · rename_i hy; simp [h1, hy]
  · unfold updG
    split
    · intro e; exact (Option.some.inj e).symm
    · exact h2 y v
end Go.Proofs.YtamaejlbojbbeaaGreatDoor.Tr
namespace Go.Proofs.YtamaejlbojbbeaaGreatDoor.Tr
open Go.RowKit
open Sb (hid_in Row Sl T5 BL u8v Tab wp_world grownBy_setCell below_of_grown info39 one_u8 splice_all rowOf rowOf_row rowOf_drewN rowOf_drew ptrB ptrB_pointer St)
attribute [local go_sem ↓] run_load140 quiet_load140 wp_load140 Go.wp_at_zero Go.wp_at_succ
attribute [local go_sem] Is140_drewN rowOf_drewN Is140_drew rowOf_drew ptrB_pointer
/-- what a carrier wants -/
structure Cw (W : World) (c wm : Nat) (v0 v1 v3 v4 : Value) (Wt : List (List Nat × Int)) : Prop where
  row : Row W c [v0, v1, .map (some wm), v3, v4] 124
  wt : PS W wm Wt
theorem Cw.below {w w' : World} {c wm : Nat} {v0 v1 v3 v4 : Value} {Wt : List (List Nat × Int)} (h : Cw w c wm v0 v1 v3 v4 Wt) (hb : Below w.heap.size w w') : Cw w' c wm v0 v1 v3 v4 Wt := ⟨h.row.below hb h.row.lt, h.wt.below hb⟩
set_option maxHeartbeats 1000000 in
set_option maxRecDepth 100000 in
theorem wants_any {w : World} {c wm : Nat} {v0 v1 v3 v4 : Value} {Wt : List (List Nat × Int)} (h : Cw w c wm v0 v1 v3 v4 Wt) (x : List Nat × Int) (hx : PG x) (X : List Value) (HX : Hid (X = pcells x)) (t : Bool) (ht : t = true ↔ x ∈ Wt) :
    Calls Tryz.prog 77 #[.pointer (some ⟨c, 0, none⟩), .agg X.toArray] w fun e w' => e = .returned (.bool t) ∧ Below w.heap.size w w' := by
  obtain ⟨w1, HW1⟩ : ∃ w1, Hid (w.alloc (.cells X.toArray 140) = w1) := ⟨_, hid_in rfl⟩
  have hb1 : Below w.heap.size w w1 := by rw [← HW1.out]; exact (Below.refl _ _).alloc (Nat.le_refl _) _
  have hr1 : Row w1 w.heap.size X 140 := by rw [← HW1.out]; exact Row.new w X 140
  have hI : Is140 w1 w.heap.size := ⟨X, hr1, by rw [HX.out]; exact pcells_len hx⟩
  have hR := rowOf_row hr1
  have c2 : w1.cell? ⟨c, 2, none⟩ = some (.map (some wm)) := (h.row.below hb1 h.row.lt).cell 2
  have hl : (Instr.lookup 121 (.map (some wm)) (.agg X.toArray) true).run Tryz.prog w1.drew = .ok (.tuple #[.agg #[], .bool t]) w1.drew := by
    rw [HX.out]
    exact ((h.wt.below hb1).below (below_drew w1)).look x hx t ht
  have hb2 : Below w1.heap.size w1 (w1.alloc (.cells #[] 151)).drew := ((Below.refl _ _).alloc (Nat.le_refl _) _).trans ((below_drew _).mono (by simp))
  have hl2 : (Instr.lookup 121 (.map (some wm)) (.agg X.toArray) true).run Tryz.prog (w1.alloc (.cells #[] 151)).drew = .ok (.tuple #[.agg #[], .bool t]) (w1.alloc (.cells #[] 151)).drew := by
    rw [HX.out]
    exact ((h.wt.below hb1).below hb2).look x hx t ht
  have hr2 := hr1.below hb2 hr1.lt
  have hI2 : Is140 (w1.alloc (.cells #[] 151)).drew w.heap.size := ⟨X, hr2, by rw [HX.out]; exact pcells_len hx⟩
  have hR2 := rowOf_row hr2
  have c22 : (w1.alloc (.cells #[] 151)).drew.cell? ⟨c, 2, none⟩ = some (.map (some wm)) := ((h.row.below hb1 h.row.lt).below hb2 (h.row.below hb1 h.row.lt).lt).cell 2
  have HB2 := hid_in hb2
  have HB1 := hid_in hb1
  clear h hb1 hb2 hr1 hr2 ht HX
  go_enter Tryz.func77, Tryz.ntmps77
  go_upto_region 1 with fail
  refine wp_world HW1.out ?_
  go_region_with (fail)
  all_goals
    go_wp2
    go_ret
    exact ⟨rfl, HB1.out.trans (HB2.out.mono HB1.out.size)⟩
end Go.Proofs.YtamaejlbojbbeaaGreatDoor.Tr
