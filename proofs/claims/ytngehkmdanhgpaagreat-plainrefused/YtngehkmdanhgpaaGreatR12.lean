/-
  A path is put into the map, or taken out of it. The small calls of a file system: has, get.
-/
import Derived.Deep.RegionLaw
import Derived.Deep.DrawnRows
import Derived.Laws.Tables
import Derived.Lib.SlBytesConst
import Derived.Laws.CopyOwn
import Derived.Lib.AppendZeros
import Derived.Deep.RegionHeld3
import Derived.Test.YtngehkmdanhgpaaGreatR00
import Derived.Test.YtngehkmdanhgpaaGreatR01
import Derived.Test.YtngehkmdanhgpaaGreatR02
import Derived.Test.YtngehkmdanhgpaaGreatR03
import Derived.Test.YtngehkmdanhgpaaGreatR04
import Derived.Test.YtngehkmdanhgpaaGreatR05
import Derived.Test.YtngehkmdanhgpaaGreatR06
import Derived.Test.YtngehkmdanhgpaaGreatR07
import Derived.Test.YtngehkmdanhgpaaGreatR08
import Derived.Test.YtngehkmdanhgpaaGreatR09
import Derived.Test.YtngehkmdanhgpaaGreatR10
import Derived.Test.YtngehkmdanhgpaaGreatR11
namespace Go.Proofs.YtngehkmdanhgpaaGreat.Pl
open Go.RowKit
open Go.ChangeMaps (setBlock heap_setBlock_same heap_setBlock_other)
open Vp (Str B bl Val cmpL parseS showS splitS withinS IsPath)
open Nd (Row)
/-- one is put in the place of what has its names, or behind all -/
def putP : List Spot → Spot → List Spot
  | [], s => [s]
  | t :: r, s => if t.names = s.names then s :: r else t :: putP r s
def putA : List Ent → Ent → List Ent
  | [], s => [s]
  | t :: r, s => if t.names = s.names then s :: r else t :: putA r s
theorem putP_ent : ∀ (L : List Spot) (s : Spot), (putP L s).map Spot.ent = putA (L.map Spot.ent) s.ent
  | [], s => rfl
  | t :: r, s => by
    simp only [putP, List.map_cons, putA]
    by_cases h : t.names = s.names
    · rw [if_pos h, if_pos (by exact h)]; rfl
    · rw [if_neg h, if_neg (by exact h), List.map_cons, putP_ent r s]
theorem putP_new : ∀ (L : List Spot) (s : Spot), spotAt L s.names = none → putP L s = L ++ [s]
  | [], s, _ => rfl
  | t :: r, s, h => by
    unfold spotAt at h
    rw [List.find?_eq_none] at h
    have h1 := h t (by simp)
    simp only [decide_eq_true_eq] at h1
    simp only [putP, if_neg h1, List.cons_append]
    rw [putP_new r s (by unfold spotAt; rw [List.find?_eq_none]; exact fun x hx => h x (by simp [hx]))]
theorem putP_set : ∀ (L : List Spot) (s t : Spot) (j : Nat), (L.map (·.names)).Nodup → L[j]? = some t → t.names = s.names → putP L s = L.set j s
  | [], s, t, j, _, h, _ => by simp at h
  | a :: r, s, t, 0, _, h, hn => by
    simp only [List.getElem?_cons_zero, Option.some.injEq] at h
    subst h
    simp [putP, hn]
  | a :: r, s, t, j + 1, hd, h, hn => by
    simp only [List.getElem?_cons_succ] at h
    simp only [List.map_cons, List.nodup_cons] at hd
    have h1 : a.names ≠ s.names := fun e => hd.1 (by rw [e, ← hn]; exact List.mem_map.2 ⟨t, List.mem_of_getElem? h, rfl⟩)
    simp only [putP, if_neg h1, List.set_cons_succ]
    rw [putP_set r s t j hd.2 h hn]
theorem putP_names : ∀ (L : List Spot) (s : Spot), (putP L s).map (·.names) = if s.names ∈ L.map (·.names) then L.map (·.names) else L.map (·.names) ++ [s.names]
  | [], s => by simp [putP]
  | t :: r, s => by
    simp only [putP]
    by_cases h : t.names = s.names
    · simp [h]
    · have h2 : ¬ s.names = t.names := fun e => h e.symm
      rw [if_neg h, List.map_cons, putP_names r s]
      simp only [List.map_cons, List.mem_cons, h2, false_or]
      split <;> simp
theorem putP_mem {L : List Spot} {s t : Spot} (h : t ∈ putP L s) : t = s ∨ t ∈ L := by
  induction L with
  | nil => simp [putP] at h; exact .inl h
  | cons a r ih =>
    simp only [putP] at h
    split at h
    · rcases List.mem_cons.1 h with rfl | h
      · exact .inl rfl
      · exact .inr (by simp [h])
    · rcases List.mem_cons.1 h with rfl | h
      · exact .inr (by simp)
      · rcases ih h with h | h
        · exact .inl h
        · exact .inr (by simp [h])
theorem grown_block {w : World} {m : Nat} {es : Array MapEntry} {clock : Nat} (hb : w.heap[m]? = some (.map es clock)) (o : Obj) : w.grownBy (setBlock w m o) (some m) ∧ (setBlock w m o).heap.size = w.heap.size := ⟨⟨rfl, rfl, rfl, by simp [setBlock], fun i _ hi => heap_setBlock_other hb _ (fun e => hi (by rw [e]))⟩, by simp [setBlock]⟩
theorem nm_map {w w' : World} {m : Nat} {es : Array MapEntry} {clock : Nat} (hb : w.heap[m]? = some (.map es clock)) (hg : w.grownBy w' (some m)) {v : Value} {xs : List Str} (h : Rf.Nm w v xs) : Rf.Nm w' v xs :=
  nm_kept h fun b cs fr e => by
    rw [hg.block b (Array.getElem?_eq_some_iff.1 e).1 (fun e2 => by
      obtain rfl := Option.some.inj e2
      rw [hb] at e
      cases e)]
    exact e
theorem MapP.put {w : World} {m : Nat} {L : List Spot} (h : MapP w m L) (s : Spot) (hp : s.path = B (showS s.names)) (hx : Gp s.names) (hv : Rf.Nm w s.v s.names) :
    ∃ w', (Instr.mapUpdate 58 (.map (some m)) (.string s.path) s.val).run Tryz.prog w = .ok () w' ∧ MapP w' m (putP L s) ∧ w.grownBy w' (some m) ∧ w'.heap.size = w.heap.size := by
  obtain ⟨es, clock, hb, he, hst, hnd⟩ := h.ex
  have ht : Tryz.prog.underlying 58 = some (.map 9 63) := Tryz.underlying58
  have hgr := fun o => grown_block hb o
  have hN : ((putP L s).map (·.names)).Nodup := by
    rw [putP_names]
    split
    · exact h.one
    · rename_i hn
      rw [List.nodup_append]
      refine ⟨h.one, by simp, fun a ha b hb2 => ?_⟩
      simp only [List.mem_singleton] at hb2
      rintro rfl
      exact hn (hb2 ▸ ha)
  have hG : ∀ t ∈ putP L s, t.path = B (showS t.names) ∧ Gp t.names := fun t ht2 => by
    rcases putP_mem ht2 with rfl | ht2
    · exact ⟨hp, hx⟩
    · exact h.good t ht2
  have hV : ∀ w', w.grownBy w' (some m) → ∀ t ∈ putP L s, Rf.Nm w' t.v t.names := fun w' hg t ht2 => by
    rcases putP_mem ht2 with rfl | ht2
    · exact nm_map hb hg hv
    · exact nm_map hb hg (h.nms t ht2)
  have hfind := h.find he s.names hx
  rw [← hp] at hfind
  rcases hfind with ⟨h1, h2⟩ | ⟨j, t, e0, h1, h2, h3, h4, h5, _, h6⟩
  · refine ⟨setBlock w m (.map (es.push ⟨.string s.path, s.val, clock⟩) (clock + 1)), ?_, ⟨⟨_, _, heap_setBlock_same hb _, ?_, ?_, ?_⟩, hG, hV _ (hgr _).1, hN⟩, hgr _⟩
    · simp [Instr.mapUpdate, run_underlying ht, MapKept.run_getObj_map hb, keyText.check _ s.path trivial, h1, MapKept.run_setObj_map _ hb, Result.andThen, setBlock]
    · rw [Array.toList_push, List.map_append, he, putP_new L s h2]; simp
    · intro e hm
      rw [Array.toList_push] at hm
      rcases List.mem_append.1 hm with hm | hm
      · exact Nat.lt_succ_of_lt (hst e hm)
      · obtain rfl := List.mem_singleton.1 hm
        exact Nat.lt_succ_self _
    · rw [Array.toList_push, List.map_append, List.nodup_append]
      refine ⟨hnd, by simp, fun a ha b hb2 => ?_⟩
      simp only [List.map_cons, List.map_nil, List.mem_singleton] at hb2
      obtain ⟨e, hm, rfl⟩ := List.mem_map.1 ha
      have := hst e hm
      omega
  · have hj : es[j]? = some e0 := by simpa using h2
    have hjs : j < es.size := (Array.getElem?_eq_some_iff.1 hj).1
    have hset : es.modify j (fun e => { e with key := .string s.path, val := s.val }) = es.set j { e0 with key := .string s.path, val := s.val } hjs := by
      apply Array.ext
      · simp
      · intro i h1 h2
        obtain ⟨_, rfl⟩ := Array.getElem?_eq_some_iff.1 hj
        rw [Array.getElem_modify, Array.getElem_set]
        by_cases hc : j = i
        · subst hc; simp
        · simp [hc]
    have hborn : (es.toList.set j { e0 with key := Value.string s.path, val := s.val }).map (·.born) = es.toList.map (·.born) := by
      rw [List.map_set]
      refine List.ext_getElem? fun i => ?_
      rw [List.getElem?_set]
      split
      · rename_i hji
        subst hji
        rw [List.getElem?_map, h2]
        simp [hjs]
      · rfl
    refine ⟨setBlock w m (.map (es.modify j (fun e => { e with key := .string s.path, val := s.val })) clock), ?_, ⟨⟨_, _, heap_setBlock_same hb _, ?_, ?_, ?_⟩, hG, hV _ (hgr _).1, hN⟩, hgr _⟩
    · simp [Instr.mapUpdate, run_underlying ht, MapKept.run_getObj_map hb, keyText.check _ s.path trivial, h1, hj, h3, keyText.stays s.path trivial, MapKept.run_setObj_map _ hb, Result.andThen, setBlock]
    · rw [hset, Array.toList_set, List.map_set, he, putP_set L s t j h.one h5 h6, List.map_set]
    · intro e hm
      rw [hset, Array.toList_set] at hm
      have : e.born ∈ es.toList.map (·.born) := by rw [← hborn]; exact List.mem_map.2 ⟨e, hm, rfl⟩
      obtain ⟨e2, hm2, h7⟩ := List.mem_map.1 this
      have := hst e2 hm2
      omega
    · rw [hset, Array.toList_set, hborn]; exact hnd
/-- all but one -/
def cutP (L : List Spot) (xs : List Str) : List Spot := L.filter (fun s => decide (s.names ≠ xs))
def cutA (A : List Ent) (xs : List Str) : List Ent := A.filter (fun s => decide (s.names ≠ xs))
theorem cutP_ent (L : List Spot) (xs : List Str) : (cutP L xs).map Spot.ent = cutA (L.map Spot.ent) xs := by
  unfold cutP cutA
  rw [List.filter_map]
  rfl
theorem cutP_erase : ∀ (L : List Spot) (t : Spot) (j : Nat), (L.map (·.names)).Nodup → L[j]? = some t → cutP L t.names = L.eraseIdx j
  | [], t, j, _, h => by simp at h
  | a :: r, t, 0, hd, h => by
    simp only [List.getElem?_cons_zero, Option.some.injEq] at h
    subst h
    simp only [List.map_cons, List.nodup_cons] at hd
    simp only [cutP, List.filter_cons, List.eraseIdx_cons_zero]
    rw [if_neg (by simp), List.filter_eq_self]
    intro x hx
    simp only [decide_eq_true_eq]
    exact fun e => hd.1 (by rw [← e]; exact List.mem_map.2 ⟨x, hx, rfl⟩)
  | a :: r, t, j + 1, hd, h => by
    simp only [List.getElem?_cons_succ] at h
    simp only [List.map_cons, List.nodup_cons] at hd
    have h1 : a.names ≠ t.names := fun e => hd.1 (by rw [e]; exact List.mem_map.2 ⟨t, List.mem_of_getElem? h, rfl⟩)
    have ih := cutP_erase r t j hd.2 h
    unfold cutP at ih ⊢
    rw [List.filter_cons, if_pos (by simpa using h1), List.eraseIdx_cons_succ, ih]
theorem map_erase {α β : Type} (f : α → β) : ∀ (l : List α) (j : Nat), (l.eraseIdx j).map f = (l.map f).eraseIdx j
  | [], j => by simp
  | a :: r, 0 => by simp
  | a :: r, j + 1 => by simp [map_erase f r j]
theorem MapP.cut {w : World} {m : Nat} {L : List Spot} (h : MapP w m L) (xs : List Str) (hx : Gp xs) (ty : TypeId) :
    ∃ w', (Builtin.delete_ #[58, 9] ty #[.map (some m), .string (B (showS xs))]).run Tryz.prog w = .ok (.tuple #[]) w' ∧ MapP w' m (cutP L xs) ∧ w.grownBy w' (some m) ∧ w'.heap.size = w.heap.size := by
  obtain ⟨es, clock, hb, he, hst, hnd⟩ := h.ex
  have ht : Tryz.prog.underlying 58 = some (.map 9 63) := Tryz.underlying58
  have hgr := fun o => grown_block hb o
  have hsub : (cutP L xs).Sublist L := List.filter_sublist
  have hN : ((cutP L xs).map (·.names)).Nodup := List.Sublist.nodup (hsub.map _) h.one
  rcases h.find he xs hx with ⟨h1, h2⟩ | ⟨j, t, e0, h1, h2, h3, h4, h5, _, h6⟩
  · have hc : cutP L xs = L := by
      unfold cutP
      rw [List.filter_eq_self]
      intro s hs
      unfold spotAt at h2
      have := List.find?_eq_none.1 h2 s hs
      simpa using this
    rw [hc]
    refine ⟨setBlock w m (.map es clock), ?_, ⟨⟨es, clock, heap_setBlock_same hb _, he, hst, hnd⟩, h.good, fun s hs => nm_map hb (hgr _).1 (h.nms s hs), h.one⟩, hgr _⟩
    simp [Builtin.delete_, run_underlying ht, MapKept.run_getObj_map hb, keyText.check _ (B (showS xs)) trivial, h1, MapKept.run_setObj_map _ hb, Result.andThen, setBlock]
  · have hj : es[j]? = some e0 := by simpa using h2
    have hjs : j < es.size := (Array.getElem?_eq_some_iff.1 hj).1
    have hsb : (es.eraseIdxIfInBounds j).toList = es.toList.eraseIdx j := by
      unfold Array.eraseIdxIfInBounds
      rw [dif_pos hjs]
      simp
    have hsl : (es.toList.eraseIdx j).Sublist es.toList := List.eraseIdx_sublist _ _
    refine ⟨setBlock w m (.map (es.eraseIdxIfInBounds j) clock), ?_, ⟨⟨_, _, heap_setBlock_same hb _, ?_, ?_, ?_⟩, fun s hs => h.good s (hsub.subset hs), fun s hs => nm_map hb (hgr _).1 (h.nms s (hsub.subset hs)), hN⟩, hgr _⟩
    · simp [Builtin.delete_, run_underlying ht, MapKept.run_getObj_map hb, keyText.check _ (B (showS xs)) trivial, h1, MapKept.run_setObj_map _ hb, Result.andThen, setBlock]
    · rw [hsb, ← h6, cutP_erase L t j h.one h5, map_erase, map_erase, he]
    · intro e hm
      rw [hsb] at hm
      exact hst e (hsl.subset hm)
    · rw [hsb]
      exact List.Sublist.nodup (hsl.map _) hnd
end Go.Proofs.YtngehkmdanhgpaaGreat.Pl
namespace Go.Proofs.YtngehkmdanhgpaaGreat.Pl
open Go.RowKit
open Vp (Str B bl Val cmpL parseS showS splitS withinS IsPath)
open Nd (Row wp_world)
theorem below_drew (W : World) : Below W.heap.size W W.drew := below_drewN (Below.refl _ _) 1
theorem info63 : (Tryz.prog.info? 63).map (·.size) = some 4 := by kernel_rfl
/-- the value at a path -/
theorem spot_form {w : World} {m : Nat} {L : List Spot} (h : MapP w m L) (xs : List Str) : ∃ p n c t d x, ((spotAt L xs).getD Spot.zero).val = .agg #[.slice p n c, .string t, .bool d, .string x] := by
  cases hs : spotAt L xs with
  | none => exact ⟨none, 0, 0, ⟨#[]⟩, false, ⟨#[]⟩, rfl⟩
  | some s =>
    obtain ⟨p, c, hv⟩ := (h.nms s (List.mem_of_find?_eq_some hs)).form
    exact ⟨p, s.names.length, c, s.path, s.dir, s.data, by simp [Spot.val, hv]⟩
theorem Fs.cell {w : World} {g m : Nat} {L : List Spot} (h : Fs w g m L) : w.cell? ⟨g, 0, none⟩ = some (.map (some m)) := h.row.cell 0
theorem set_below {B b j : Nat} {w W : World} (h : Below B w W) (hb : B ≤ b) (hs : B ≤ W.heap.size) (v : Value) : Below B w (W.setCell ⟨b, j, none⟩ v) ∧ B ≤ (W.setCell ⟨b, j, none⟩ v).heap.size := by
  have hg := Nd.grownBy_setCell W ⟨b, j, none⟩ v
  exact ⟨h.grown hg hs (fun k e => by obtain rfl := Option.some.inj e; exact hb), Nat.le_trans hs hg.size⟩
theorem set4_below {B b : Nat} {w W : World} (h : Below B w W) (hb : B ≤ b) (hs : B ≤ W.heap.size) (v0 v1 v2 v3 : Value) : Below B w ((((W.setCell ⟨b, 0, none⟩ v0).setCell ⟨b, 1, none⟩ v1).setCell ⟨b, 2, none⟩ v2).setCell ⟨b, 3, none⟩ v3) := by
  obtain ⟨h0, s0⟩ := set_below (j := 0) h hb hs v0
  obtain ⟨h1, s1⟩ := set_below (j := 1) h0 hb s0 v1
  obtain ⟨h2, s2⟩ := set_below (j := 2) h1 hb s1 v2
  exact (set_below (j := 3) h2 hb s2 v3).1
/-- the path's text, asked in a later world -/
theorem show_at {w : World} {nv : Value} {xs : List Str} (hv : Val w nv xs) (hx : Gp xs) (W : World) (k : Below w.heap.size w W) : Calls Tryz.prog 51 #[nv] W fun e w' => e = .returned (.string (B (showS xs))) ∧ Below w.heap.size w w' ∧ Below W.heap.size W w' :=
  (Vp.show_v (hv.below k) (by have := hx.lens; omega)).mono fun e w' h => ⟨h.1, k.trans (h.2.mono k.size), h.2⟩
theorem spot_cells {W w2 : World} {b : Nat} {p : Option Addr} {n c : Nat} {t x : ByteArray} {d : Bool} (hr : Row W b [.slice p n c, .string t, .bool d, .string x] 63) (k : Below W.heap.size W w2) : (w2.cell? ⟨b, 0, none⟩ = some (.slice p n c) ∧ w2.cell? ⟨b, 1, none⟩ = some (.string t) ∧ w2.cell? ⟨b, 2, none⟩ = some (.bool d) ∧ w2.cell? ⟨b, 3, none⟩ = some (.string x)) ∧ w2.frozen? ⟨b, 0, none⟩ = false ∧ w2.frozen? ⟨b, 1, none⟩ = false ∧ w2.frozen? ⟨b, 2, none⟩ = false ∧ w2.frozen? ⟨b, 3, none⟩ = false := by
  have h := hr.below k hr.lt
  exact ⟨⟨h.cell 0, h.cell 1, h.cell 2, h.cell 3⟩, h.frozen 0, h.frozen 1, h.frozen 2, h.frozen 3⟩
set_option maxHeartbeats 1000000 in
set_option maxRecDepth 100000 in
theorem has_any {w : World} {g m : Nat} {L : List Spot} (h : Fs w g m L) {nv : Value} {xs : List Str} (hv : Val w nv xs) (hx : Gp xs) :
    Calls Tryz.prog 26 #[.pointer (some ⟨g, 0, none⟩), nv] w fun e w' => e = .returned (.bool (spotAt L xs).isSome) ∧ Below w.heap.size w w' := by
  obtain ⟨np, nc, rfl⟩ : ∃ p c, nv = .slice p xs.length c := by obtain ⟨p, c, e, _⟩ := hv; exact ⟨p, c, e⟩
  have hc := h.cell
  have H := hid_in h
  obtain ⟨WA, HWA⟩ : ∃ WA, Hid (w.alloc (.cells #[.slice none 0 0, .string ⟨#[]⟩, .bool false, .string ⟨#[]⟩] 63) = WA) := ⟨_, hid_in rfl⟩
  have HBA : Hid (Below w.heap.size w WA) := by rw [← HWA.out]; exact (Below.refl _ _).alloc (Nat.le_refl _) _
  have HRA : Hid (Row WA w.heap.size [.slice none 0 0, .string ⟨#[]⟩, .bool false, .string ⟨#[]⟩] 63) := by rw [← HWA.out]; exact Row.new w [.slice none 0 0, .string ⟨#[]⟩, .bool false, .string ⟨#[]⟩] 63
  have HS1 := hid_in (show_at hv hx w.drew (below_drew w))
  have HS2 := hid_in (show_at hv hx WA.drew (below_drewN HBA.out 1))
  rw [← HWA.out] at HS2
  obtain ⟨zp, zn, zc, zt, zd, zx, HZ⟩ := spot_form h.map xs
  have HZ := hid_in HZ
  obtain ⟨SB, HSB⟩ : ∃ SB, Hid ((spotAt L xs).isSome = SB) := ⟨_, hid_in rfl⟩
  rw [HSB.out]
  have HL := hid_in (fun W (k : Below w.heap.size w W) => Fs.look2 (h.below k).map xs hx)
  rw [HZ.out, HSB.out] at HL
  have HK := hid_in (fun W (k : Below w.heap.size w W) => And.intro (H.out.below k).cell (HL.out W k))
  generalize B (showS xs) = T at *
  generalize xs.length = nl at *
  clear h hv hx
  go_enter Tryz.func26, Tryz.ntmps26
  go_upto_region 1 with fail
  go_region_held3 (fun W => W.cell? ⟨g, 0, none⟩ = some (.map (some m)) ∧ (Instr.lookup 58 (.map (some m)) (.string T) true).run Tryz.prog W = .ok (.tuple #[.agg #[.slice zp zn zc, .string zt, .bool zd, .string zx], .bool SB]) W) (first | (exact HK.out _ HB2.out) | (exact HK.out _ (HB2.out.alloc HB2.out.size _)) | (exact HK.out _ (Below.refl _ _)) | (exact HK.out _ (below_drew w)) | (exact HK.out _ ((below_drew w).alloc (Nat.le_refl _) _)) | (exact HK.out _ (set4_below HB2.out (Nat.le_refl _) HB2.out.size _ _ _ _)) | (exact HK.out _ (set4_below (HB2.out.alloc HB2.out.size _) (by simpa using HB2.out.size) (by simpa using Nat.le_succ_of_le HB2.out.size) _ _ _ _))) (first | (go_at_call 51; refine HS1.out.mono ?_; rintro e w2 ⟨rfl, hb12, -⟩; have HB2 := hid_in hb12; clear hb12) | (go_at_call 51; refine HS2.out.mono ?_; rintro e w2 ⟨rfl, hb12, hb3⟩; rw [HWA.out] at hb3; obtain ⟨⟨d0, d1, d2, d3⟩, f0, f1, f2, f3⟩ := spot_cells HRA.out ((below_drew WA).trans (hb3.mono (below_drew WA).size)); have HB2 := hid_in hb12; clear hb12 hb3))
  all_goals
    go_wp2
    go_ret
    refine ⟨rfl, ?_⟩
    first | (exact set4_below HB2.out (Nat.le_refl _) HB2.out.size _ _ _ _) | (exact HB2.out.alloc HB2.out.size _) | (exact set4_below (HB2.out.alloc HB2.out.size _) (by simpa using HB2.out.size) (by simpa using Nat.le_succ_of_le HB2.out.size) _ _ _ _)
end Go.Proofs.YtngehkmdanhgpaaGreat.Pl
