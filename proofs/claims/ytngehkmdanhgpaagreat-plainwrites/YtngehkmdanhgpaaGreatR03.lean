/-
  A path is put into the map, or taken out of it. The small calls of a file system: has, get. The small calls of a file system: get, put, drop, dirOf, namesOf, refuse. The walks of find, findFile, findDir. The walks of findFile and findDir. Rows of paths: of the call's own, and what is put behind them; what lies below a path: the entries of the map in whatever order. What lies below a path: the map's entries, in whatever order they come.
-/
import Derived.Lib.AppendZeros
import Derived.Deep.DrawnRows
import Derived.Lib.SlBytesConst
import Derived.Deep.RegionLaw
import Derived.Laws.Tables
import Derived.Laws.CopyOwn
import Derived.Deep.RegionHeld3
import Derived.Maps.Range
import Derived.Test.YtngehkmdanhgpaaGreatR00
import Derived.Test.YtngehkmdanhgpaaGreatR01
import Derived.Test.YtngehkmdanhgpaaGreatR02
namespace Go.Proofs.YtngehkmdanhgpaaGreat.Pl
open Go.RowKit
open Go.ChangeMaps (setBlock heap_setBlock_same heap_setBlock_other)
open Vp (Str B bl Val cmpL parseS showS splitS withinS IsPath)
open Nd (Row)
/-- one is put in the place of what has its names, or behind all -/
def putP : List Spot → Spot → List Spot
  | [], s => [s]
  | t :: r, s => if t.names = s.names then s :: r else t :: putP r s
def putA : List Ent → Ent → List Ent
  | [], s => [s]
  | t :: r, s => if t.names = s.names then s :: r else t :: putA r s
theorem putP_ent : ∀ (L : List Spot) (s : Spot), (putP L s).map Spot.ent = putA (L.map Spot.ent) s.ent
  | [], s => rfl
  | t :: r, s => by
    simp only [putP, List.map_cons, putA]
    by_cases h : t.names = s.names
    · rw [if_pos h, if_pos (by exact h)]; rfl
    · rw [if_neg h, if_neg (by exact h), List.map_cons, putP_ent r s]
theorem putP_new : ∀ (L : List Spot) (s : Spot), spotAt L s.names = none → putP L s = L ++ [s]
  | [], s, _ => rfl
  | t :: r, s, h => by
    unfold spotAt at h
    rw [List.find?_eq_none] at h
    have h1 := h t (by simp)
    simp only [decide_eq_true_eq] at h1
    simp only [putP, if_neg h1, List.cons_append]
    rw [putP_new r s (by unfold spotAt; rw [List.find?_eq_none]; exact fun x hx => h x (by simp [hx]))]
theorem putP_set : ∀ (L : List Spot) (s t : Spot) (j : Nat), (L.map (·.names)).Nodup → L[j]? = some t → t.names = s.names → putP L s = L.set j s
  | [], s, t, j, _, h, _ => by simp at h
  | a :: r, s, t, 0, _, h, hn => by
    simp only [List.getElem?_cons_zero, Option.some.injEq] at h
    subst h
    simp [putP, hn]
  | a :: r, s, t, j + 1, hd, h, hn => by
    simp only [List.getElem?_cons_succ] at h
    simp only [List.map_cons, List.nodup_cons] at hd
    have h1 : a.names ≠ s.names := fun e => hd.1 (by rw [e, ← hn]; exact List.mem_map.2 ⟨t, List.mem_of_getElem? h, rfl⟩)
    simp only [putP, if_neg h1, List.set_cons_succ]
    rw [putP_set r s t j hd.2 h hn]
theorem putP_names : ∀ (L : List Spot) (s : Spot), (putP L s).map (·.names) = if s.names ∈ L.map (·.names) then L.map (·.names) else L.map (·.names) ++ [s.names]
  | [], s => by simp [putP]
  | t :: r, s => by
    simp only [putP]
    by_cases h : t.names = s.names
    · simp [h]
    · have h2 : ¬ s.names = t.names := fun e => h e.symm
      rw [if_neg h, List.map_cons, putP_names r s]
      simp only [List.map_cons, List.mem_cons, h2, false_or]
      split <;> simp
theorem putP_mem {L : List Spot} {s t : Spot} (h : t ∈ putP L s) : t = s ∨ t ∈ L := by
  induction L with
  | nil => simp [putP] at h; exact .inl h
  | cons a r ih =>
    simp only [putP] at h
    split at h
    · rcases List.mem_cons.1 h with rfl | h
      · exact .inl rfl
      · exact .inr (by simp [h])
    · rcases List.mem_cons.1 h with rfl | h
      · exact .inr (by simp)
      · rcases ih h with h | h
        · exact .inl h
        · exact .inr (by simp [h])
theorem grown_block {w : World} {m : Nat} {es : Array MapEntry} {clock : Nat} (hb : w.heap[m]? = some (.map es clock)) (o : Obj) : w.grownBy (setBlock w m o) (some m) ∧ (setBlock w m o).heap.size = w.heap.size := ⟨⟨rfl, rfl, rfl, by simp [setBlock], fun i _ hi => heap_setBlock_other hb _ (fun e => hi (by rw [e]))⟩, by simp [setBlock]⟩
theorem nm_map {w w' : World} {m : Nat} {es : Array MapEntry} {clock : Nat} (hb : w.heap[m]? = some (.map es clock)) (hg : w.grownBy w' (some m)) {v : Value} {xs : List Str} (h : Rf.Nm w v xs) : Rf.Nm w' v xs :=
  nm_kept h fun b cs fr e => by
    rw [hg.block b (Array.getElem?_eq_some_iff.1 e).1 (fun e2 => by
      obtain rfl := Option.some.inj e2
      rw [hb] at e
      cases e)]
    exact e
theorem MapP.put {w : World} {m : Nat} {L : List Spot} (h : MapP w m L) (s : Spot) (hp : s.path = B (showS s.names)) (hx : Gp s.names) (hv : Rf.Nm w s.v s.names) :
    ∃ w', (Instr.mapUpdate 58 (.map (some m)) (.string s.path) s.val).run Tryz.prog w = .ok () w' ∧ MapP w' m (putP L s) ∧ w.grownBy w' (some m) ∧ w'.heap.size = w.heap.size := by
  obtain ⟨es, clock, hb, he, hst, hnd⟩ := h.ex
  have ht : Tryz.prog.underlying 58 = some (.map 9 63) := Tryz.underlying58
  have hgr := fun o => grown_block hb o
  have hN : ((putP L s).map (·.names)).Nodup := by
    rw [putP_names]
    split
    · exact h.one
    · rename_i hn
      rw [List.nodup_append]
      refine ⟨h.one, by simp, fun a ha b hb2 => ?_⟩
      simp only [List.mem_singleton] at hb2
      rintro rfl
      exact hn (hb2 ▸ ha)
  have hG : ∀ t ∈ putP L s, t.path = B (showS t.names) ∧ Gp t.names := fun t ht2 => by
    rcases putP_mem ht2 with rfl | ht2
    · exact ⟨hp, hx⟩
    · exact h.good t ht2
  have hV : ∀ w', w.grownBy w' (some m) → ∀ t ∈ putP L s, Rf.Nm w' t.v t.names := fun w' hg t ht2 => by
    rcases putP_mem ht2 with rfl | ht2
    · exact nm_map hb hg hv
    · exact nm_map hb hg (h.nms t ht2)
  have hfind := h.find he s.names hx
  rw [← hp] at hfind
  rcases hfind with ⟨h1, h2⟩ | ⟨j, t, e0, h1, h2, h3, h4, h5, _, h6⟩
  · refine ⟨setBlock w m (.map (es.push ⟨.string s.path, s.val, clock⟩) (clock + 1)), ?_, ⟨⟨_, _, heap_setBlock_same hb _, ?_, ?_, ?_⟩, hG, hV _ (hgr _).1, hN⟩, hgr _⟩
    · simp [Instr.mapUpdate, run_underlying ht, MapKept.run_getObj_map hb, keyText.check _ s.path trivial, h1, MapKept.run_setObj_map _ hb, Result.andThen, setBlock]
    · rw [Array.toList_push, List.map_append, he, putP_new L s h2]; simp
    · intro e hm
      rw [Array.toList_push] at hm
      rcases List.mem_append.1 hm with hm | hm
      · exact Nat.lt_succ_of_lt (hst e hm)
      · obtain rfl := List.mem_singleton.1 hm
        exact Nat.lt_succ_self _
    · rw [Array.toList_push, List.map_append, List.nodup_append]
      refine ⟨hnd, by simp, fun a ha b hb2 => ?_⟩
      simp only [List.map_cons, List.map_nil, List.mem_singleton] at hb2
      obtain ⟨e, hm, rfl⟩ := List.mem_map.1 ha
      have := hst e hm
      omega
  · have hj : es[j]? = some e0 := by simpa using h2
    have hjs : j < es.size := (Array.getElem?_eq_some_iff.1 hj).1
    have hset : es.modify j (fun e => { e with key := .string s.path, val := s.val }) = es.set j { e0 with key := .string s.path, val := s.val } hjs := by
      apply Array.ext
      · simp
      · intro i h1 h2
        obtain ⟨_, rfl⟩ := Array.getElem?_eq_some_iff.1 hj
        rw [Array.getElem_modify, Array.getElem_set]
        by_cases hc : j = i
        · subst hc; simp
        · simp [hc]
    have hborn : (es.toList.set j { e0 with key := Value.string s.path, val := s.val }).map (·.born) = es.toList.map (·.born) := by
      rw [List.map_set]
      refine List.ext_getElem? fun i => ?_
      rw [List.getElem?_set]
      split
      · rename_i hji
        subst hji
        rw [List.getElem?_map, h2]
        simp [hjs]
      · rfl
    refine ⟨setBlock w m (.map (es.modify j (fun e => { e with key := .string s.path, val := s.val })) clock), ?_, ⟨⟨_, _, heap_setBlock_same hb _, ?_, ?_, ?_⟩, hG, hV _ (hgr _).1, hN⟩, hgr _⟩
    · simp [Instr.mapUpdate, run_underlying ht, MapKept.run_getObj_map hb, keyText.check _ s.path trivial, h1, hj, h3, keyText.stays s.path trivial, MapKept.run_setObj_map _ hb, Result.andThen, setBlock]
    · rw [hset, Array.toList_set, List.map_set, he, putP_set L s t j h.one h5 h6, List.map_set]
    · intro e hm
      rw [hset, Array.toList_set] at hm
      have : e.born ∈ es.toList.map (·.born) := by rw [← hborn]; exact List.mem_map.2 ⟨e, hm, rfl⟩
      obtain ⟨e2, hm2, h7⟩ := List.mem_map.1 this
      have := hst e2 hm2
      omega
    · rw [hset, Array.toList_set, hborn]; exact hnd
/-- all but one -/
def cutP (L : List Spot) (xs : List Str) : List Spot := L.filter (fun s => decide (s.names ≠ xs))
def cutA (A : List Ent) (xs : List Str) : List Ent := A.filter (fun s => decide (s.names ≠ xs))
theorem cutP_ent (L : List Spot) (xs : List Str) : (cutP L xs).map Spot.ent = cutA (L.map Spot.ent) xs := by
  unfold cutP cutA
  rw [List.filter_map]
  rfl
theorem cutP_erase : ∀ (L : List Spot) (t : Spot) (j : Nat), (L.map (·.names)).Nodup → L[j]? = some t → cutP L t.names = L.eraseIdx j
  | [], t, j, _, h => by simp at h
  | a :: r, t, 0, hd, h => by
    simp only [List.getElem?_cons_zero, Option.some.injEq] at h
    subst h
    simp only [List.map_cons, List.nodup_cons] at hd
    simp only [cutP, List.filter_cons, List.eraseIdx_cons_zero]
    rw [if_neg (by simp), List.filter_eq_self]
    intro x hx
    simp only [decide_eq_true_eq]
    exact fun e => hd.1 (by rw [← e]; exact List.mem_map.2 ⟨x, hx, rfl⟩)
  | a :: r, t, j + 1, hd, h => by
    simp only [List.getElem?_cons_succ] at h
    simp only [List.map_cons, List.nodup_cons] at hd
    have h1 : a.names ≠ t.names := fun e => hd.1 (by rw [e]; exact List.mem_map.2 ⟨t, List.mem_of_getElem? h, rfl⟩)
    have ih := cutP_erase r t j hd.2 h
    unfold cutP at ih ⊢
    rw [List.filter_cons, if_pos (by simpa using h1), List.eraseIdx_cons_succ, ih]
theorem map_erase {α β : Type} (f : α → β) : ∀ (l : List α) (j : Nat), (l.eraseIdx j).map f = (l.map f).eraseIdx j
  | [], j => by simp
  | a :: r, 0 => by simp
  | a :: r, j + 1 => by simp [map_erase f r j]
theorem MapP.cut {w : World} {m : Nat} {L : List Spot} (h : MapP w m L) (xs : List Str) (hx : Gp xs) (ty : TypeId) :
    ∃ w', (Builtin.delete_ #[58, 9] ty #[.map (some m), .string (B (showS xs))]).run Tryz.prog w = .ok (.tuple #[]) w' ∧ MapP w' m (cutP L xs) ∧ w.grownBy w' (some m) ∧ w'.heap.size = w.heap.size := by
  obtain ⟨es, clock, hb, he, hst, hnd⟩ := h.ex
  have ht : Tryz.prog.underlying 58 = some (.map 9 63) := Tryz.underlying58
  have hgr := fun o => grown_block hb o
  have hsub : (cutP L xs).Sublist L := List.filter_sublist
  have hN : ((cutP L xs).map (·.names)).Nodup := List.Sublist.nodup (hsub.map _) h.one
  rcases h.find he xs hx with ⟨h1, h2⟩ | ⟨j, t, e0, h1, h2, h3, h4, h5, _, h6⟩
  · have hc : cutP L xs = L := by
      unfold cutP
      rw [List.filter_eq_self]
      intro s hs
      unfold spotAt at h2
      have := List.find?_eq_none.1 h2 s hs
      simpa using this
    rw [hc]
    refine ⟨setBlock w m (.map es clock), ?_, ⟨⟨es, clock, heap_setBlock_same hb _, he, hst, hnd⟩, h.good, fun s hs => nm_map hb (hgr _).1 (h.nms s hs), h.one⟩, hgr _⟩
    simp [Builtin.delete_, run_underlying ht, MapKept.run_getObj_map hb, keyText.check _ (B (showS xs)) trivial, h1, MapKept.run_setObj_map _ hb, Result.andThen, setBlock]
  · have hj : es[j]? = some e0 := by simpa using h2
    have hjs : j < es.size := (Array.getElem?_eq_some_iff.1 hj).1
    have hsb : (es.eraseIdxIfInBounds j).toList = es.toList.eraseIdx j := by
      unfold Array.eraseIdxIfInBounds
      rw [dif_pos hjs]
      simp
    have hsl : (es.toList.eraseIdx j).Sublist es.toList := List.eraseIdx_sublist _ _
    refine ⟨setBlock w m (.map (es.eraseIdxIfInBounds j) clock), ?_, ⟨⟨_, _, heap_setBlock_same hb _, ?_, ?_, ?_⟩, fun s hs => h.good s (hsub.subset hs), fun s hs => nm_map hb (hgr _).1 (h.nms s (hsub.subset hs)), hN⟩, hgr _⟩
    · simp [Builtin.delete_, run_underlying ht, MapKept.run_getObj_map hb, keyText.check _ (B (showS xs)) trivial, h1, MapKept.run_setObj_map _ hb, Result.andThen, setBlock]
    · rw [hsb, ← h6, cutP_erase L t j h.one h5, map_erase, map_erase, he]
    · intro e hm
      rw [hsb] at hm
      exact hst e (hsl.subset hm)
    · rw [hsb]
      exact List.Sublist.nodup (hsl.map _) hnd
end Go.Proofs.YtngehkmdanhgpaaGreat.Pl
namespace Go.Proofs.YtngehkmdanhgpaaGreat.Pl
open Go.RowKit
open Vp (Str B bl Val cmpL parseS showS splitS withinS IsPath)
open Nd (Row wp_world)
theorem below_drew (W : World) : Below W.heap.size W W.drew := below_drewN (Below.refl _ _) 1
theorem info63 : (Tryz.prog.info? 63).map (·.size) = some 4 := by kernel_rfl
/-- the value at a path -/
theorem spot_form {w : World} {m : Nat} {L : List Spot} (h : MapP w m L) (xs : List Str) : ∃ p n c t d x, ((spotAt L xs).getD Spot.zero).val = .agg #[.slice p n c, .string t, .bool d, .string x] := by
  cases hs : spotAt L xs with
  | none => exact ⟨none, 0, 0, ⟨#[]⟩, false, ⟨#[]⟩, rfl⟩
  | some s =>
    obtain ⟨p, c, hv⟩ := (h.nms s (List.mem_of_find?_eq_some hs)).form
    exact ⟨p, s.names.length, c, s.path, s.dir, s.data, by simp [Spot.val, hv]⟩
theorem Fs.cell {w : World} {g m : Nat} {L : List Spot} (h : Fs w g m L) : w.cell? ⟨g, 0, none⟩ = some (.map (some m)) := h.row.cell 0
theorem set_below {B b j : Nat} {w W : World} (h : Below B w W) (hb : B ≤ b) (hs : B ≤ W.heap.size) (v : Value) : Below B w (W.setCell ⟨b, j, none⟩ v) ∧ B ≤ (W.setCell ⟨b, j, none⟩ v).heap.size := by
  have hg := Nd.grownBy_setCell W ⟨b, j, none⟩ v
  exact ⟨h.grown hg hs (fun k e => by obtain rfl := Option.some.inj e; exact hb), Nat.le_trans hs hg.size⟩
theorem set4_below {B b : Nat} {w W : World} (h : Below B w W) (hb : B ≤ b) (hs : B ≤ W.heap.size) (v0 v1 v2 v3 : Value) : Below B w ((((W.setCell ⟨b, 0, none⟩ v0).setCell ⟨b, 1, none⟩ v1).setCell ⟨b, 2, none⟩ v2).setCell ⟨b, 3, none⟩ v3) := by
  obtain ⟨h0, s0⟩ := set_below (j := 0) h hb hs v0
  obtain ⟨h1, s1⟩ := set_below (j := 1) h0 hb s0 v1
  obtain ⟨h2, s2⟩ := set_below (j := 2) h1 hb s1 v2
  exact (set_below (j := 3) h2 hb s2 v3).1
/-- the path's text, asked in a later world -/
theorem show_at {w : World} {nv : Value} {xs : List Str} (hv : Val w nv xs) (hx : Gp xs) (W : World) (k : Below w.heap.size w W) : Calls Tryz.prog 51 #[nv] W fun e w' => e = .returned (.string (B (showS xs))) ∧ Below w.heap.size w w' ∧ Below W.heap.size W w' :=
  (Vp.show_v (hv.below k) (by have := hx.lens; omega)).mono fun e w' h => ⟨h.1, k.trans (h.2.mono k.size), h.2⟩
theorem spot_cells {W w2 : World} {b : Nat} {p : Option Addr} {n c : Nat} {t x : ByteArray} {d : Bool} (hr : Row W b [.slice p n c, .string t, .bool d, .string x] 63) (k : Below W.heap.size W w2) : (w2.cell? ⟨b, 0, none⟩ = some (.slice p n c) ∧ w2.cell? ⟨b, 1, none⟩ = some (.string t) ∧ w2.cell? ⟨b, 2, none⟩ = some (.bool d) ∧ w2.cell? ⟨b, 3, none⟩ = some (.string x)) ∧ w2.frozen? ⟨b, 0, none⟩ = false ∧ w2.frozen? ⟨b, 1, none⟩ = false ∧ w2.frozen? ⟨b, 2, none⟩ = false ∧ w2.frozen? ⟨b, 3, none⟩ = false := by
  have h := hr.below k hr.lt
  exact ⟨⟨h.cell 0, h.cell 1, h.cell 2, h.cell 3⟩, h.frozen 0, h.frozen 1, h.frozen 2, h.frozen 3⟩
set_option maxHeartbeats 1000000 in
set_option maxRecDepth 100000 in
theorem has_any {w : World} {g m : Nat} {L : List Spot} (h : Fs w g m L) {nv : Value} {xs : List Str} (hv : Val w nv xs) (hx : Gp xs) :
    Calls Tryz.prog 26 #[.pointer (some ⟨g, 0, none⟩), nv] w fun e w' => e = .returned (.bool (spotAt L xs).isSome) ∧ Below w.heap.size w w' := by
  obtain ⟨np, nc, rfl⟩ : ∃ p c, nv = .slice p xs.length c := by obtain ⟨p, c, e, _⟩ := hv; exact ⟨p, c, e⟩
  have hc := h.cell
  have H := hid_in h
  obtain ⟨WA, HWA⟩ : ∃ WA, Hid (w.alloc (.cells #[.slice none 0 0, .string ⟨#[]⟩, .bool false, .string ⟨#[]⟩] 63) = WA) := ⟨_, hid_in rfl⟩
  have HBA : Hid (Below w.heap.size w WA) := by rw [← HWA.out]; exact (Below.refl _ _).alloc (Nat.le_refl _) _
  have HRA : Hid (Row WA w.heap.size [.slice none 0 0, .string ⟨#[]⟩, .bool false, .string ⟨#[]⟩] 63) := by rw [← HWA.out]; exact Row.new w [.slice none 0 0, .string ⟨#[]⟩, .bool false, .string ⟨#[]⟩] 63
  have HS1 := hid_in (show_at hv hx w.drew (below_drew w))
  have HS2 := hid_in (show_at hv hx WA.drew (below_drewN HBA.out 1))
  rw [← HWA.out] at HS2
  obtain ⟨zp, zn, zc, zt, zd, zx, HZ⟩ := spot_form h.map xs
  have HZ := hid_in HZ
  obtain ⟨SB, HSB⟩ : ∃ SB, Hid ((spotAt L xs).isSome = SB) := ⟨_, hid_in rfl⟩
  rw [HSB.out]
  have HL := hid_in (fun W (k : Below w.heap.size w W) => Fs.look2 (h.below k).map xs hx)
  rw [HZ.out, HSB.out] at HL
  have HK := hid_in (fun W (k : Below w.heap.size w W) => And.intro (H.out.below k).cell (HL.out W k))
  generalize B (showS xs) = T at *
  generalize xs.length = nl at *
  clear h hv hx
  go_enter Tryz.func26, Tryz.ntmps26
  go_upto_region 1 with fail
  go_region_held3 (fun W => W.cell? ⟨g, 0, none⟩ = some (.map (some m)) ∧ (Instr.lookup 58 (.map (some m)) (.string T) true).run Tryz.prog W = .ok (.tuple #[.agg #[.slice zp zn zc, .string zt, .bool zd, .string zx], .bool SB]) W) (first | (exact HK.out _ HB2.out) | (exact HK.out _ (HB2.out.alloc HB2.out.size _)) | (exact HK.out _ (Below.refl _ _)) | (exact HK.out _ (below_drew w)) | (exact HK.out _ ((below_drew w).alloc (Nat.le_refl _) _)) | (exact HK.out _ (set4_below HB2.out (Nat.le_refl _) HB2.out.size _ _ _ _)) | (exact HK.out _ (set4_below (HB2.out.alloc HB2.out.size _) (by simpa using HB2.out.size) (by simpa using Nat.le_succ_of_le HB2.out.size) _ _ _ _))) (first | (go_at_call 51; refine HS1.out.mono ?_; rintro e w2 ⟨rfl, hb12, -⟩; have HB2 := hid_in hb12; clear hb12) | (go_at_call 51; refine HS2.out.mono ?_; rintro e w2 ⟨rfl, hb12, hb3⟩; rw [HWA.out] at hb3; obtain ⟨⟨d0, d1, d2, d3⟩, f0, f1, f2, f3⟩ := spot_cells HRA.out ((below_drew WA).trans (hb3.mono (below_drew WA).size)); have HB2 := hid_in hb12; clear hb12 hb3))
  all_goals
    go_wp2
    go_ret
    refine ⟨rfl, ?_⟩
    first | (exact set4_below HB2.out (Nat.le_refl _) HB2.out.size _ _ _ _) | (exact HB2.out.alloc HB2.out.size _) | (exact set4_below (HB2.out.alloc HB2.out.size _) (by simpa using HB2.out.size) (by simpa using Nat.le_succ_of_le HB2.out.size) _ _ _ _)
end Go.Proofs.YtngehkmdanhgpaaGreat.Pl
namespace Go.Proofs.YtngehkmdanhgpaaGreat.Pl
open Go.RowKit
open Vp (Str B bl Val cmpL parseS showS splitS withinS IsPath)
open Nd (Row wp_world post_Row)
set_option maxHeartbeats 1000000 in
set_option maxRecDepth 100000 in
theorem get_any {w : World} {g m : Nat} {L : List Spot} (h : Fs w g m L) {nv : Value} {xs : List Str} (hv : Val w nv xs) (hx : Gp xs) :
    Calls Tryz.prog 56 #[.pointer (some ⟨g, 0, none⟩), nv] w fun e w' => e = .returned ((spotAt L xs).getD Spot.zero).val ∧ Below w.heap.size w w' := by
  obtain ⟨np, nc, rfl⟩ : ∃ p c, nv = .slice p xs.length c := by obtain ⟨p, c, e, _⟩ := hv; exact ⟨p, c, e⟩
  have H := hid_in h
  obtain ⟨WA, HWA⟩ : ∃ WA, Hid (w.alloc (.cells #[.slice none 0 0, .string ⟨#[]⟩, .bool false, .string ⟨#[]⟩] 63) = WA) := ⟨_, hid_in rfl⟩
  have HBA : Hid (Below w.heap.size w WA) := by rw [← HWA.out]; exact (Below.refl _ _).alloc (Nat.le_refl _) _
  have HRA : Hid (Row WA w.heap.size [.slice none 0 0, .string ⟨#[]⟩, .bool false, .string ⟨#[]⟩] 63) := by rw [← HWA.out]; exact Row.new w [.slice none 0 0, .string ⟨#[]⟩, .bool false, .string ⟨#[]⟩] 63
  have HS2 := hid_in (show_at hv hx WA.drew (below_drewN HBA.out 1))
  obtain ⟨zp, zn, zc, zt, zd, zx, HZ⟩ := spot_form h.map xs
  have HZ := hid_in HZ
  rw [HZ.out]
  have HL := hid_in (fun W (k : Below w.heap.size w W) => Fs.look1 (h.below k).map xs hx)
  rw [HZ.out] at HL
  have HK := hid_in (fun W (k : Below w.heap.size w W) => And.intro (H.out.below k).cell (HL.out W k))
  generalize B (showS xs) = T at *
  generalize xs.length = nl at *
  clear h hv hx
  go_enter Tryz.func56, Tryz.ntmps56
  go_upto_region 1 with fail
  refine wp_world HWA.out ?_
  go_region_held3 (fun W => W.cell? ⟨g, 0, none⟩ = some (.map (some m)) ∧ (Instr.lookup 58 (.map (some m)) (.string T) false).run Tryz.prog W = .ok (.agg #[.slice zp zn zc, .string zt, .bool zd, .string zx]) W) (first | (exact HK.out _ HB2.out) | (exact HK.out _ HBA.out) | (exact HK.out _ (below_drewN HBA.out 1)) | (exact HK.out _ (set4_below HB2.out (Nat.le_refl _) HB2.out.size _ _ _ _))) (first | (go_at_call 51; refine HS2.out.mono ?_; rintro e w2 ⟨rfl, hb12, hb3⟩; have hr2 := HRA.out.below ((below_drew WA).trans (hb3.mono (below_drew WA).size)) HRA.out.lt; obtain ⟨⟨d0, d1, d2, d3⟩, f0, f1, f2, f3⟩ := spot_cells hr2 (Below.refl _ w2); have HR2 := hid_in hr2; have HB2 := hid_in hb12; clear hb12 hb3 hr2))
  all_goals
    go_wp2
    exact post_Row 4 63 rfl w.heap.size rfl 63 [.slice zp zn zc, .string zt, .bool zd, .string zx] ((((HR2.out.set_same 0 _).set_same 1 _).set_same 2 _).set_same 3 _) _ Tryz.underlying63 rfl 4 info63 rfl rfl ⟨rfl, set4_below HB2.out (Nat.le_refl _) HB2.out.size _ _ _ _⟩
theorem grown_plus {a b c : World} {m : Nat} (h : Below a.heap.size a b) (k : b.grownBy c (some m)) : a.grownBy c (some m) :=
  World.grownBy.andThen ((grown_of_below h).but _) k (fun _ e => .inr e)
set_option maxHeartbeats 1000000 in
set_option maxRecDepth 100000 in
theorem put_any {w : World} {g m : Nat} {L : List Spot} (h : Fs w g m L) {nv : Value} {xs : List Str} (hv : Rf.Nm w nv xs) (hx : Gp xs) (d : Bool) (x : ByteArray) :
    Calls Tryz.prog 25 #[.pointer (some ⟨g, 0, none⟩), nv, .bool d, .string x] w fun e w' => e = .returned (.tuple #[]) ∧ Fs w' g m (putP L ⟨nv, xs, B (showS xs), d, x⟩) ∧ w.grownBy w' (some m) := by
  have HV := hid_in hv
  obtain ⟨np, nc, rfl⟩ : ∃ p c, nv = .slice p xs.length c := by exact hv.form
  have H := hid_in h
  have HX := hid_in hx
  have HS := hid_in (show_at hv.val hx w (Below.refl _ _))
  have HP := hid_in (fun W (k : Below w.heap.size w W) => (h.below k).map.put ⟨.slice np xs.length nc, xs, B (showS xs), d, x⟩ rfl hx (hv.below k))
  simp only [Spot.val] at HP
  generalize B (showS xs) = T at *
  generalize hnl : xs.length = nl at *
  have HNL := hid_in hnl
  clear h hv hx hnl
  go_enter Tryz.func25, Tryz.ntmps25
  go_wp2_with (first | (go_at_call 51; refine HS.out.mono ?_; rintro e w2 ⟨rfl, hb12, -⟩; have HF2 := hid_in (H.out.below hb12); have c2 := HF2.out.cell; obtain ⟨w3, hp3, hm3, hg3, hs3⟩ := HP.out w2 hb12; have HM3 := hid_in hm3; have HG3 := hid_in hg3; have HB2 := hid_in hb12; clear hb12 hm3 hg3 hs3))
  refine bodyPost_end (results_none rfl _ _ _) rfl ?_
  refine ⟨rfl, ⟨HF2.out.row.grown HG3.out (fun e => HF2.out.ne (Option.some.inj e)), HM3.out⟩, grown_plus HB2.out HG3.out⟩
set_option maxHeartbeats 1000000 in
set_option maxRecDepth 100000 in
theorem dirOf_any {w : World} {nv : Value} {xs : List Str} (hv : Val w nv xs) (hx : Gp xs) :
    Calls Tryz.prog 54 #[nv] w fun e w' => ∃ v, e = .returned v ∧ Val w' v xs.dropLast ∧ Below w.heap.size w w' := by
  obtain ⟨np, nc, rfl⟩ : ∃ p c, nv = .slice p xs.length c := by obtain ⟨p, c, e, _⟩ := hv; exact ⟨p, c, e⟩
  have HS := hid_in (Vp.split_v hv (by have := hx.lens; omega) (by have := hx.2; omega))
  have HD : Hid ((splitS xs).1 = xs.dropLast) := by
    show _ = _
    unfold splitS
    have h0 : Vp.checkS xs = 0 := by
      unfold Vp.checkS
      have h1 : xs.all Vp.isNameS = true := List.all_eq_true.2 hx.1
      have h2 := hx.2
      rw [if_neg (by simp [h1]), if_neg (by omega)]
    rw [if_neg (by simp [h0])]
    split
    · rename_i h1; simp [h1]
    · rfl
  rw [HD.out] at HS
  generalize (splitS xs).2.1 = r1 at *
  generalize (splitS xs).2.2 = r2 at *
  generalize xs.length = nl at *
  generalize xs.dropLast = ds at *
  clear hv hx HD
  go_enter Tryz.func54, Tryz.ntmps54
  go_wp2_with (first | (go_at_call 90; refine HS.out.mono ?_; rintro e w2 ⟨v2, rfl, hn2, hb2⟩; have HN2 := hid_in (Vp.Nms.val hn2); have HB2 := hid_in hb2; clear hn2 hb2))
  go_ret
  exact ⟨_, rfl, HN2.out, HB2.out⟩
def nmsOf (s : ByteArray) : List Str := (parseS (bl s)).1
theorem gp_nms (s : ByteArray) : Gp (nmsOf s) := gp_parse _
set_option maxHeartbeats 1000000 in
set_option maxRecDepth 100000 in
theorem namesOf_any (s : ByteArray) (hs : s.size ≤ 9223372036854775807) (w : World) :
    Calls Tryz.prog 92 #[.string s] w fun e w' => ∃ v, e = .returned v ∧ Rf.Nm w' v (nmsOf s) ∧ Below w.heap.size w w' := by
  have HP := hid_in (Vp.parse_any (bl s) (by rw [Vp.bl_length]; exact hs) w)
  rw [Vp.B_bl] at HP
  have HN : Hid (nmsOf s = (parseS (bl s)).1) := rfl
  generalize nmsOf s = ns at *
  generalize (parseS (bl s)).2 = k at *
  generalize (parseS (bl s)).1 = ms at *
  go_enter Tryz.func92, Tryz.ntmps92
  go_wp2_with (first | (go_at_call 47; refine HP.out.mono ?_; rintro e w2 ⟨v2, rfl, hn2, hb2⟩; have HN2 := hid_in (Rf.Nm.of hn2); have HB2 := hid_in hb2; clear hn2 hb2))
  go_ret
  exact ⟨_, rfl, by rw [HN.out]; exact HN2.out, HB2.out⟩
/-- a result -/
structure Res where
  code : Int
  dir : Bool
  size : Int
  data : ByteArray
  names : Value
def Res.val (r : Res) : Value := .agg #[.int .i64 r.code, .bool r.dir, .int .i64 r.size, .string r.data, r.names]
def Res.err (k : Int) : Res := ⟨k, false, 0, ⟨#[]⟩, .slice none 0 0⟩
theorem info37 : (Tryz.prog.info? 37).map (·.size) = some 5 := by kernel_rfl
set_option maxHeartbeats 1000000 in
set_option maxRecDepth 100000 in
theorem refuse_any (k : Int) (w : World) : Calls Tryz.prog 30 #[.int .i64 k] w fun e w' => e = .returned (Res.err k).val ∧ Below w.heap.size w w' := by
  go_enter Tryz.func30, Tryz.ntmps30
  go_wp2
  exact post_Row 2 37 rfl w.heap.size rfl 37 [.int .i64 k, .bool false, .int .i64 0, .string ⟨#[]⟩, .slice none 0 0] (Row.new w [.int .i64 k, .bool false, .int .i64 0, .string ⟨#[]⟩, .slice none 0 0] 37) _ Tryz.underlying37 rfl 5 info37 rfl rfl ⟨rfl, (Below.refl _ _).alloc (Nat.le_refl _) _⟩
set_option maxHeartbeats 1000000 in
set_option maxRecDepth 100000 in
theorem drop_any {w : World} {g m : Nat} {L : List Spot} (h : Fs w g m L) {nv : Value} {xs : List Str} (hv : Val w nv xs) (hx : Gp xs) :
    Calls Tryz.prog 95 #[.pointer (some ⟨g, 0, none⟩), nv] w fun e w' => e = .returned (.tuple #[]) ∧ Fs w' g m (cutP L xs) ∧ w.grownBy w' (some m) := by
  have HV := hid_in hv
  obtain ⟨np, nc, rfl⟩ : ∃ p c, nv = .slice p xs.length c := by obtain ⟨p, c, e, _⟩ := hv; exact ⟨p, c, e⟩
  have H := hid_in h
  have hc := h.cell
  have HK := hid_in (fun W (k : Below w.heap.size w W) => (h.below k).cell)
  have HS := hid_in (show_at hv hx w.drew (below_drew w))
  have HP := hid_in (fun W (k : Below w.heap.size w W) => (h.below k).map.cut xs hx 0)
  generalize B (showS xs) = T at *
  generalize xs.length = nl at *
  clear h hv hx
  go_enter Tryz.func95, Tryz.ntmps95
  go_region_held3 (fun W => W.cell? ⟨g, 0, none⟩ = some (.map (some m))) (first | (exact HK.out _ HB2.out) | (exact HK.out _ (Below.refl _ _)) | (exact HK.out _ (below_drew w)) | (exact HC3.out)) (first | (go_at_call 51; refine HS.out.mono ?_; rintro e w2 ⟨rfl, hb12, -⟩; have HF2 := hid_in (H.out.below hb12); obtain ⟨w3, hp3, hm3, hg3, hs3⟩ := HP.out w2 hb12; have HM3 := hid_in hm3; have HG3 := hid_in hg3; have HB2 := hid_in hb12; have HC3 : Hid (w3.cell? ⟨g, 0, none⟩ = some (.map (some m))) := ((HF2.out.row.grown hg3 (fun e => HF2.out.ne (Option.some.inj e))).cell 0); clear hb12 hm3 hg3 hs3))
  all_goals
    go_wp2
    refine bodyPost_end (results_none rfl _ _ _) rfl ?_
    refine ⟨rfl, ⟨HF2.out.row.grown HG3.out (fun e => HF2.out.ne (Option.some.inj e)), HM3.out⟩, grown_plus HB2.out HG3.out⟩
end Go.Proofs.YtngehkmdanhgpaaGreat.Pl
namespace Go.Proofs.YtngehkmdanhgpaaGreat.Pl
open Go.RowKit
open Vp (Str B bl Val cmpL parseS showS splitS withinS IsPath)
open Nd (Row wp_world post_Row post_Row2)
/-- from the root on, name by name -/
def goF (L : List Spot) : Spot → List (List Str) → Spot × Int
  | s, [] => (s, 0)
  | s, p :: ps => if s.dir = false then (Spot.zero, 70) else match spotAt L p with
    | none => (Spot.zero, 4)
    | some t => goF L t ps
def inits (xs : List Str) : List (List Str) := (List.range (xs.length + 1)).map (xs.take ·)
def Spot.top : Spot := ⟨.slice none 0 0, [], ⟨#[]⟩, true, ⟨#[]⟩⟩
def findP (L : List Spot) (xs : List Str) : Spot × Int := goF L Spot.top (inits xs)
theorem inits_drop {xs : List Str} {i : Nat} (h : i ≤ xs.length) : (inits xs).drop i = xs.take i :: (inits xs).drop (i + 1) := by
  have hl : i < (inits xs).length := by simp [inits]; omega
  rw [List.drop_eq_getElem_cons hl]
  simp [inits]
theorem inits_end (xs : List Str) : (inits xs).drop (xs.length + 1) = [] := by simp [inits]
theorem goF_last (L : List Spot) : ∀ (ps : List (List Str)) (s t : Spot) (x : List Str), goF L s (ps ++ [x]) = (t, 0) → spotAt L x = some t
  | [], s, t, x, h => by
    simp only [List.nil_append, goF] at h
    split at h
    · cases h
    · split at h
      · cases h
      · rename_i hq
        cases h
        exact hq
  | p :: ps, s, t, x, h => by
    simp only [List.cons_append, goF] at h
    split at h
    · cases h
    · split at h
      · cases h
      · exact goF_last L ps _ t x h
theorem findP_at {L : List Spot} {xs : List Str} {t : Spot} (h : findP L xs = (t, 0)) : spotAt L xs = some t := by
  unfold findP inits at h
  rw [List.range_succ, List.map_append, List.map_cons, List.map_nil, List.take_length] at h
  exact goF_last L _ _ t xs h
theorem goF_form (L : List Spot) : ∀ (ps : List (List Str)) (s : Spot), (goF L s ps).2 = 0 ∨ goF L s ps = (Spot.zero, 70) ∨ goF L s ps = (Spot.zero, 4)
  | [], s => .inl rfl
  | p :: ps, s => by
    simp only [goF]
    split
    · exact .inr (.inl rfl)
    · split
      · exact .inr (.inr rfl)
      · exact goF_form L ps _
theorem slice35_to (p : Option Addr) (L C n : Nat) (h1 : n ≤ C) (w : World) : (Instr.slice 35 (.slice p L C) none (some (.int .i64 (n : Int))) none).run Tryz.prog w = .ok (.slice p n C) w := by
  have ht : Tryz.prog.underlying 35 = some (.slice (Tryz.prog.elem 35)) := by kernel_rfl
  have hs : ∀ w : World, (sizeOf (Tryz.prog.elem 35)).run Tryz.prog w = .ok 1 w := fun w => by kernel_rfl
  rw [run_slice_h w 35 p L C ht .i64 (n : Int) (by omega) (by omega), hs]
  rcases p with _ | ⟨b, o, s⟩ <;> simp [sliced, Addr.add]
theorem val_take {w : World} {p : Option Addr} {xs : List Str} {c : Nat} (h : Val w (.slice p xs.length c) xs) (i : Nat) (hi : i ≤ xs.length) : Val w (.slice p i c) (xs.take i) := by
  obtain ⟨p', c', e, hr⟩ := h
  simp only [Value.slice.injEq] at e
  obtain ⟨rfl, _, rfl⟩ := e
  exact ⟨p, c, by rw [List.length_take, Nat.min_eq_left hi], hr.take i hi⟩
/-- a spot in a block of its own: its names are a slice -/
def Sf (s : Spot) : Prop := ∃ p n c, s.v = .slice p n c
theorem MapP.sf {w : World} {m : Nat} {L : List Spot} (h : MapP w m L) {xs : List Str} {s : Spot} (hs : spotAt L xs = some s) : Sf s := by
  obtain ⟨p, c, hv⟩ := (h.nms s (List.mem_of_find?_eq_some hs)).form
  exact ⟨p, s.names.length, c, hv⟩
set_option maxHeartbeats 2000000 in
set_option maxRecDepth 100000 in
theorem find_any {w : World} {g m : Nat} {L : List Spot} (h : Fs w g m L) {nv : Value} {xs : List Str} (hv : Val w nv xs) (hx : Gp xs) :
    Calls Tryz.prog 102 #[.pointer (some ⟨g, 0, none⟩), nv] w fun e w' => e = .returned (.tuple #[(findP L xs).1.val, .int .i64 (findP L xs).2]) ∧ Below w.heap.size w w' := by
  have HV := hid_in hv
  obtain ⟨np, nc, rfl⟩ : ∃ p c, nv = .slice p xs.length c := by obtain ⟨p, c, e, _⟩ := hv; exact ⟨p, c, e⟩
  have hcap : xs.length ≤ nc := by obtain ⟨p, c, e, hr⟩ := hv; simp only [Value.slice.injEq] at e; obtain ⟨_, _, rfl⟩ := e; exact hr.le
  have H := hid_in h
  have HX := hid_in hx
  have HN := hid_in hx.2
  have HCAP := hid_in hcap
  clear h hv hx hcap
  obtain ⟨nl, HNL⟩ : ∃ nl, Hid (xs.length = nl) := ⟨_, hid_in rfl⟩
  rw [HNL.out] at HV HN HCAP ⊢
  have hn8 := HN.out
  go_enter Tryz.func102, Tryz.ntmps102
  go_wp2_with fail
  go_loopw [13] (fun vi W => ∃ i : Nat, i ≤ nl + 1 ∧ vi = .int .i64 (i : Int) ∧ Hid (∃ s : Spot, Sf s ∧ findP L xs = goF L s ((inits xs).drop i) ∧ Row W w.heap.size [.slice none 0 0, .string ⟨#[]⟩, .bool false, .string ⟨#[]⟩] 63 ∧ Row W (w.heap.size + 1) s.cells 63 ∧ Below w.heap.size w W)) (fun vi _ => nl + 1 - (intOf vi).toNat)
  case atStart =>
    refine ⟨0, by omega, rfl, Spot.top, ⟨_, _, _, rfl⟩, rfl, ?_, ?_, ?_⟩
    · exact (Row.new w [.slice none 0 0, .string ⟨#[]⟩, .bool false, .string ⟨#[]⟩] 63).alloc _
    · exact Row.newAt (w.alloc _) (w.heap.size + 1) [.slice none 0 0, .string ⟨#[]⟩, .bool true, .string ⟨#[]⟩] 63 (by simp)
    · exact ((Below.refl _ _).alloc (Nat.le_refl _) _).alloc (by simp) _
  case round =>
    obtain ⟨i, hi, rfl, hR⟩ := hrel
    obtain ⟨⟨sv, sn, sp, sd, sx⟩, ⟨qp, qn, qc, hsv⟩, hF, hr0, hr1, hB⟩ := hR.out
    simp only [Spot.cells] at hr1
    simp only at hsv
    subst hsv
    have HF := hid_in hF
    have HR0 := hid_in hr0
    have HR1 := hid_in hr1
    have HB := hid_in hB
    obtain ⟨⟨a0, a1, a2, a3⟩, b0, b1, b2, b3⟩ := spot_cells hr0 (Below.refl _ wr)
    obtain ⟨⟨c0, c1, c2, c3⟩, f0, f1, f2, f3⟩ := spot_cells hr1 (Below.refl _ wr)
    clear hF hr0 hr1 hB hR
    by_cases hlt : i ≤ nl
    · have hid := inits_drop (xs := xs) (i := i) (by rw [HNL.out]; exact hlt)
      have HID := hid_in hid
      have k1 : (i : Int) < (nl : Int) + 1 := by omega
      clear hid
      cases sd with
      | false =>
        have hres : findP L xs = (Spot.zero, 70) := by rw [HF.out, HID.out]; simp [goF]
        have HRES := hid_in hres
        clear hres
        go_wp2
        exact post_Row2 4 5 63 rfl w.heap.size rfl 63 [.slice none 0 0, .string ⟨#[]⟩, .bool false, .string ⟨#[]⟩] ((((HR0.out.set_same 0 _).set_same 1 _).set_same 2 _).set_same 3 _) _ Tryz.underlying63 rfl 4 info63 rfl rfl ⟨by rw [HRES.out]; rfl, set4_below HB.out (Nat.le_refl _) HB.out.size _ _ _ _⟩
      | true =>
        have HVT := hid_in (fun W (k : Below w.heap.size w W) => val_take (xs := xs) (by rw [HNL.out]; exact HV.out.below k) i (by rw [HNL.out]; exact hlt))
        have HGT := hid_in (HX.out.take i)
        have hsl := slice35_to np nl nc i (by have := HCAP.out; omega)
        have HHAS := hid_in (has_any (H.out.below HB.out) (HVT.out _ HB.out) HGT.out)
        cases hsp : spotAt L (xs.take i) with
        | none =>
          have hres : findP L xs = (Spot.zero, 4) := by rw [HF.out, HID.out]; simp [goF, hsp]
          have HRES := hid_in hres
          rw [hsp] at HHAS
          clear hres hsp
          go_wp2_with (first | (go_at_call 26; refine HHAS.out.mono ?_; rintro e w2 ⟨rfl, hb2⟩; obtain ⟨⟨g0, g1, g2, g3⟩, k0, k1, k2, k3⟩ := spot_cells HR0.out hb2; have HR2 := hid_in (HR0.out.below hb2 HR0.out.lt); have HB2 := hid_in (HB.out.trans (hb2.mono HB.out.size)); clear hb2))
          exact post_Row2 4 5 63 rfl w.heap.size rfl 63 [.slice none 0 0, .string ⟨#[]⟩, .bool false, .string ⟨#[]⟩] ((((HR2.out.set_same 0 _).set_same 1 _).set_same 2 _).set_same 3 _) _ Tryz.underlying63 rfl 4 info63 rfl rfl ⟨by rw [HRES.out]; rfl, set4_below HB2.out (Nat.le_refl _) HB2.out.size _ _ _ _⟩
        | some t =>
          have hres : findP L xs = goF L t ((inits xs).drop (i + 1)) := by rw [HF.out, HID.out]; simp [goF, hsp]
          rw [hsp] at HHAS
          have HGET := hid_in (fun W (k : Below w.heap.size w W) => get_any (H.out.below k) (HVT.out _ k) HGT.out)
          rw [hsp] at HGET
          obtain ⟨tp, tn, tc, htv⟩ := H.out.map.sf hsp
          obtain ⟨tv, tnm, tpa, td, tx⟩ := t
          simp only at htv
          subst htv
          simp only [Option.getD_some, Spot.val] at HGET
          have HRES := hid_in hres
          clear hres hsp
          go_wp2_with (first | (go_at_call 26; refine HHAS.out.mono ?_; rintro e w2 ⟨rfl, hb2⟩; have HR20 := hid_in (HR0.out.below hb2 HR0.out.lt); have HR21 := hid_in (HR1.out.below hb2 HR1.out.lt); have HB2 := hid_in (HB.out.trans (hb2.mono HB.out.size)); clear hb2) | (go_at_call 56; refine (HGET.out _ HB2.out).mono ?_; rintro e w3 ⟨rfl, hb3⟩; obtain ⟨⟨g0, g1, g2, g3⟩, m0, m1, m2, m3⟩ := spot_cells HR21.out hb3; have HR30 := hid_in (HR20.out.below hb3 HR20.out.lt); have HR31 := hid_in (HR21.out.below hb3 HR21.out.lt); have HB3 := hid_in (HB2.out.trans (hb3.mono HB2.out.size)); clear hb3))
          refine ⟨⟨i + 1, by omega, by go_num, ⟨.slice tp tn tc, tnm, tpa, td, tx⟩, ⟨_, _, _, rfl⟩, HRES.out, ?_, ?_, ?_⟩, by simp [intOf]; omega⟩
          · exact (((HR30.out.set_other _ _ (by simp)).set_other _ _ (by simp)).set_other _ _ (by simp)).set_other _ _ (by simp)
          · exact (((HR31.out.set_same 0 _).set_same 1 _).set_same 2 _).set_same 3 _
          · exact set4_below HB3.out (Nat.le_succ _) HB3.out.size _ _ _ _
    · obtain rfl : i = nl + 1 := by omega
      have hres : findP L xs = (⟨.slice qp qn qc, sn, sp, sd, sx⟩, 0) := by
        rw [HF.out, ← HNL.out, inits_end]; rfl
      have HRES := hid_in hres
      clear hres
      have k1 : ¬ (((nl + 1 : Nat) : Int) < (nl : Int) + 1) := by omega
      go_wp2
      exact post_Row2 4 5 63 rfl w.heap.size rfl 63 [.slice qp qn qc, .string sp, .bool sd, .string sx] ((((HR0.out.set_same 0 _).set_same 1 _).set_same 2 _).set_same 3 _) _ Tryz.underlying63 rfl 4 info63 rfl rfl ⟨by rw [HRES.out]; rfl, set4_below HB.out (Nat.le_refl _) HB.out.size _ _ _ _⟩
end Go.Proofs.YtngehkmdanhgpaaGreat.Pl
namespace Go.Proofs.YtngehkmdanhgpaaGreat.Pl
open Go.RowKit
open Vp (Str B bl Val cmpL parseS showS splitS withinS IsPath)
open Nd (Row wp_world post_Row post_Row2)
def findD (L : List Spot) (xs : List Str) : Spot × Int := if (findP L xs).2 = 0 ∧ (findP L xs).1.dir = false then (Spot.zero, 70) else findP L xs
def findF (L : List Spot) (xs : List Str) : Spot × Int := if (findP L xs).2 = 0 ∧ (findP L xs).1.dir = true then (Spot.zero, 71) else findP L xs
theorem findP_form (L : List Spot) (xs : List Str) : (findP L xs).2 = 0 ∨ findP L xs = (Spot.zero, 70) ∨ findP L xs = (Spot.zero, 4) := goF_form L _ _
theorem findP_sf {w : World} {m : Nat} {L : List Spot} (h : MapP w m L) (xs : List Str) : Sf (findP L xs).1 := by
  rcases findP_form L xs with h1 | h1 | h1
  · exact h.sf (findP_at (t := (findP L xs).1) (by rw [← h1]))
  · rw [h1]; exact ⟨_, _, _, rfl⟩
  · rw [h1]; exact ⟨_, _, _, rfl⟩
set_option maxHeartbeats 2000000 in
set_option maxRecDepth 100000 in
theorem findDir_any {w : World} {g m : Nat} {L : List Spot} (h : Fs w g m L) {nv : Value} {xs : List Str} (hv : Val w nv xs) (hx : Gp xs) :
    Calls Tryz.prog 96 #[.pointer (some ⟨g, 0, none⟩), nv] w fun e w' => e = .returned (.tuple #[(findD L xs).1.val, .int .i64 (findD L xs).2]) ∧ Below w.heap.size w w' := by
  obtain ⟨np, nc, rfl⟩ : ∃ p c, nv = .slice p xs.length c := by obtain ⟨p, c, e, _⟩ := hv; exact ⟨p, c, e⟩
  have HF := hid_in (fun W (k : Below w.heap.size w W) => find_any (h.below k) (hv.below k) hx)
  obtain ⟨qp, qn, qc, hsv⟩ := findP_sf h.map xs
  have HD : Hid (findD L xs = if (findP L xs).2 = 0 ∧ (findP L xs).1.dir = false then (Spot.zero, 70) else findP L xs) := rfl
  generalize findD L xs = R at *
  generalize findP L xs = r at *
  obtain ⟨⟨sv, sn, sp, sd, sx⟩, k⟩ := r
  simp only at hsv HD
  subst hsv
  simp only [Spot.val] at HF
  generalize xs.length = nl at *
  obtain ⟨WA, HWA⟩ : ∃ WA, Hid (w.alloc (.cells #[.slice none 0 0, .string ⟨#[]⟩, .bool false, .string ⟨#[]⟩] 63) = WA) := ⟨_, hid_in rfl⟩
  have HBA : Hid (Below w.heap.size w WA) := by rw [← HWA.out]; exact (Below.refl _ _).alloc (Nat.le_refl _) _
  have HRA : Hid (Row WA w.heap.size [.slice none 0 0, .string ⟨#[]⟩, .bool false, .string ⟨#[]⟩] 63) := by rw [← HWA.out]; exact Row.new w [.slice none 0 0, .string ⟨#[]⟩, .bool false, .string ⟨#[]⟩] 63
  clear h hv hx
  have HC4 : Hid ([Value.slice qp qn qc, .string sp, .bool sd, .string sx].length = 4) := rfl
  have HO4 : Hid (∀ v ∈ [Value.slice qp qn qc, .string sp, .bool sd, .string sx], v.oneCell' = true) := by
    intro v hv
    simp only [List.mem_cons, List.not_mem_nil, or_false] at hv
    rcases hv with rfl | rfl | rfl | rfl <;> rfl
  go_enter Tryz.func96, Tryz.ntmps96
  go_upto_region 1 with fail
  refine wp_world HWA.out ?_
  go_upto_region 2 with (first | (go_at_call 102; refine (HF.out _ HBA.out).mono ?_; rintro e w2 ⟨rfl, hb2⟩; have HB2 := hid_in hb2; clear hb2) | (refine Nd.wpList_store_new rfl rfl 63 4 _ _ rfl _ [Value.slice qp qn qc, .string sp, .bool sd, .string sx] info63 rfl HC4 HO4 rfl rfl ?_; intro w3 hr3 hb3 hs3; have HR3 := hid_in hr3; have HB3 := hid_in hb3; have HS3 := hid_in hs3; clear hr3 hb3 hs3))
  have HB13 := hid_in (HB2.out.trans (HB3.out.mono HB2.out.size))
  have HB03 := hid_in (HBA.out.trans (HB13.out.mono HBA.out.size))
  have HR4 := hid_in (HRA.out.below HB13.out HRA.out.lt)
  obtain ⟨⟨c0, c1, c2, c3⟩, f0, f1, f2, f3⟩ := spot_cells HR3.out (Below.refl _ w3)
  obtain ⟨⟨a0, a1, a2, a3⟩, b0, b1, b2, b3⟩ := spot_cells HR4.out (Below.refl _ w3)
  by_cases hk : k = 0
  · subst hk
    cases sd with
    | false =>
      go_wp2
      exact post_Row2 4 5 63 rfl w.heap.size rfl 63 [.slice none 0 0, .string ⟨#[]⟩, .bool false, .string ⟨#[]⟩] ((((HR4.out.set_same 0 _).set_same 1 _).set_same 2 _).set_same 3 _) _ Tryz.underlying63 rfl 4 info63 rfl rfl ⟨by rw [HD.out]; rfl, set4_below HB03.out (Nat.le_refl _) HB03.out.size _ _ _ _⟩
    | true =>
      go_wp2
      exact post_Row2 4 5 63 rfl w.heap.size rfl 63 [.slice qp qn qc, .string sp, .bool true, .string sx] ((((HR4.out.set_same 0 _).set_same 1 _).set_same 2 _).set_same 3 _) _ Tryz.underlying63 rfl 4 info63 rfl rfl ⟨by rw [HD.out]; rfl, set4_below HB03.out (Nat.le_refl _) HB03.out.size _ _ _ _⟩
  · have hk2 : (k == 0) = false := beq_eq_false_iff_ne.2 hk
    have HD2 : Hid (R = (⟨.slice qp qn qc, sn, sp, sd, sx⟩, k)) := by rw [HD.out, if_neg (fun e => hk e.1)]; exact rfl
    clear HD hk
    go_wp2
    exact post_Row2 4 5 63 rfl w.heap.size rfl 63 [.slice qp qn qc, .string sp, .bool sd, .string sx] ((((HR4.out.set_same 0 _).set_same 1 _).set_same 2 _).set_same 3 _) _ Tryz.underlying63 rfl 4 info63 rfl rfl ⟨by rw [HD2.out]; rfl, set4_below HB03.out (Nat.le_refl _) HB03.out.size _ _ _ _⟩
set_option maxHeartbeats 2000000 in
set_option maxRecDepth 100000 in
theorem findFile_any {w : World} {g m : Nat} {L : List Spot} (h : Fs w g m L) (tx : ByteArray) (htx : tx.size ≤ 9223372036854775807) :
    Calls Tryz.prog 93 #[.pointer (some ⟨g, 0, none⟩), .string tx] w fun e w' => e = .returned (.tuple #[(findF L (nmsOf tx)).1.val, .int .i64 (findF L (nmsOf tx)).2]) ∧ Below w.heap.size w w' := by
  have HF := hid_in (fun W (k : Below w.heap.size w W) v (hv : Val W v (nmsOf tx)) => find_any (h.below k) hv (gp_nms tx))
  have HNO := hid_in (fun W => namesOf_any tx htx W)
  obtain ⟨qp, qn, qc, hsv⟩ := findP_sf h.map (nmsOf tx)
  have HD : Hid (findF L (nmsOf tx) = if (findP L (nmsOf tx)).2 = 0 ∧ (findP L (nmsOf tx)).1.dir = true then (Spot.zero, 71) else findP L (nmsOf tx)) := rfl
  generalize findF L (nmsOf tx) = R at *
  generalize findP L (nmsOf tx) = r at *
  obtain ⟨⟨sv, sn, sp, sd, sx⟩, k⟩ := r
  simp only at hsv HD
  subst hsv
  simp only [Spot.val] at HF
  generalize nmsOf tx = xs at *
  obtain ⟨WA, HWA⟩ : ∃ WA, Hid (w.alloc (.cells #[.slice none 0 0, .string ⟨#[]⟩, .bool false, .string ⟨#[]⟩] 63) = WA) := ⟨_, hid_in rfl⟩
  have HBA : Hid (Below w.heap.size w WA) := by rw [← HWA.out]; exact (Below.refl _ _).alloc (Nat.le_refl _) _
  have HRA : Hid (Row WA w.heap.size [.slice none 0 0, .string ⟨#[]⟩, .bool false, .string ⟨#[]⟩] 63) := by rw [← HWA.out]; exact Row.new w [.slice none 0 0, .string ⟨#[]⟩, .bool false, .string ⟨#[]⟩] 63
  clear h htx
  have HC4 : Hid ([Value.slice qp qn qc, .string sp, .bool sd, .string sx].length = 4) := rfl
  have HO4 : Hid (∀ v ∈ [Value.slice qp qn qc, .string sp, .bool sd, .string sx], v.oneCell' = true) := by
    intro v hv
    simp only [List.mem_cons, List.not_mem_nil, or_false] at hv
    rcases hv with rfl | rfl | rfl | rfl <;> rfl
  go_enter Tryz.func93, Tryz.ntmps93
  go_upto_region 1 with fail
  refine wp_world HWA.out ?_
  go_upto_region 2 with (first | (go_at_call 92; refine (HNO.out _).mono ?_; rintro e w1 ⟨v1, rfl, hv1, hb1⟩; have HV1 := hid_in hv1; have HB1 := hid_in hb1; have HBA1 := hid_in (HBA.out.trans (hb1.mono HBA.out.size)); clear hv1 hb1) | (go_at_call 102; refine (HF.out _ HBA1.out _ HV1.out.val).mono ?_; rintro e w2 ⟨rfl, hb2⟩; have HB2 := hid_in (HB1.out.trans (hb2.mono HB1.out.size)); clear hb2) | (refine Nd.wpList_store_new rfl rfl 63 4 _ _ rfl _ [Value.slice qp qn qc, .string sp, .bool sd, .string sx] info63 rfl HC4 HO4 rfl rfl ?_; intro w3 hr3 hb3 hs3; have HR3 := hid_in hr3; have HB3 := hid_in hb3; have HS3 := hid_in hs3; clear hr3 hb3 hs3))
  have HB13 := hid_in (HB2.out.trans (HB3.out.mono HB2.out.size))
  have HB03 := hid_in (HBA.out.trans (HB13.out.mono HBA.out.size))
  have HR4 := hid_in (HRA.out.below HB13.out HRA.out.lt)
  obtain ⟨⟨c0, c1, c2, c3⟩, f0, f1, f2, f3⟩ := spot_cells HR3.out (Below.refl _ w3)
  obtain ⟨⟨a0, a1, a2, a3⟩, b0, b1, b2, b3⟩ := spot_cells HR4.out (Below.refl _ w3)
  by_cases hk : k = 0
  · subst hk
    cases sd with
    | false =>
      go_wp2
      exact post_Row2 4 5 63 rfl w.heap.size rfl 63 [.slice qp qn qc, .string sp, .bool false, .string sx] ((((HR4.out.set_same 0 _).set_same 1 _).set_same 2 _).set_same 3 _) _ Tryz.underlying63 rfl 4 info63 rfl rfl ⟨by rw [HD.out]; rfl, set4_below HB03.out (Nat.le_refl _) HB03.out.size _ _ _ _⟩
    | true =>
      go_wp2
      exact post_Row2 4 5 63 rfl w.heap.size rfl 63 [.slice none 0 0, .string ⟨#[]⟩, .bool false, .string ⟨#[]⟩] ((((HR4.out.set_same 0 _).set_same 1 _).set_same 2 _).set_same 3 _) _ Tryz.underlying63 rfl 4 info63 rfl rfl ⟨by rw [HD.out]; rfl, set4_below HB03.out (Nat.le_refl _) HB03.out.size _ _ _ _⟩
  · have hk2 : (k == 0) = false := beq_eq_false_iff_ne.2 hk
    have HD2 : Hid (R = (⟨.slice qp qn qc, sn, sp, sd, sx⟩, k)) := by rw [HD.out, if_neg (fun e => hk e.1)]; exact rfl
    clear HD hk
    go_wp2
    exact post_Row2 4 5 63 rfl w.heap.size rfl 63 [.slice qp qn qc, .string sp, .bool sd, .string sx] ((((HR4.out.set_same 0 _).set_same 1 _).set_same 2 _).set_same 3 _) _ Tryz.underlying63 rfl 4 info63 rfl rfl ⟨by rw [HD2.out]; rfl, set4_below HB03.out (Nat.le_refl _) HB03.out.size _ _ _ _⟩
end Go.Proofs.YtngehkmdanhgpaaGreat.Pl
namespace Go.Proofs.YtngehkmdanhgpaaGreat.Pl
open Go.RowKit
open Vp (Str B bl Val cmpL parseS showS splitS withinS IsPath)
open Nd (Row wp_world post_Row post_Row2)
def scells (fs : List Spot) : List Value := fs.flatMap Spot.cells
theorem scells_len (fs : List Spot) : (scells fs).length = fs.length * 4 := by
  induction fs with
  | nil => rfl
  | cons f r ih =>
    unfold scells at ih ⊢
    rw [List.flatMap_cons, List.length_append, ih, List.length_cons]
    simp [Spot.cells]
    omega
theorem scells_one (fs : List Spot) (hs : ∀ s ∈ fs, Sf s) : ∀ u ∈ scells fs, u.oneCell' = true := by
  intro u hu
  obtain ⟨f, hf, h⟩ := List.mem_flatMap.1 hu
  obtain ⟨p, n, c, e⟩ := hs f hf
  simp [Spot.cells, e] at h
  rcases h with rfl | rfl | rfl | rfl <;> rfl
theorem scells_at {fs : List Spot} {i : Nat} {f : Spot} (h : fs[i]? = some f) (y : Nat) (u : Value) (hy : f.cells[y]? = some u) : (scells fs)[i * 4 + y]? = some u := by
  have h1 := Nd.flatten_get (k := 4) (xs := fs.map Spot.cells) (fun us hus => by obtain ⟨g, _, rfl⟩ := List.mem_map.1 hus; rfl) i f.cells (by rw [List.getElem?_map, h]; rfl) y u hy
  rw [List.flatMap_def.symm] at h1
  exact h1
/-- a value that reads as files -/
def Sps (w : World) (v : Value) (fs : List Spot) : Prop := ∃ p cap b o, v = .slice p fs.length cap ∧ fs.length ≤ cap ∧ cap ≤ 9223372036854775807 ∧ (fs ≠ [] → p = some ⟨b, o, none⟩ ∧ b < w.heap.size) ∧ (∀ j u, (scells fs)[j]? = some u → w.cell? ⟨b, o + j, none⟩ = some u) ∧ (p = none → fs = [] ∧ cap = 0)
theorem Sps.below {w w' : World} {v : Value} {fs : List Spot} (h : Sps w v fs) (hb : Below w.heap.size w w') : Sps w' v fs := by
  obtain ⟨p, cap, b, o, h1, h2, h3, h4, h5, h6⟩ := h
  refine ⟨p, cap, b, o, h1, h2, h3, fun hn => ⟨(h4 hn).1, Nat.lt_of_lt_of_le (h4 hn).2 hb.size⟩, fun j u hj => ?_, h6⟩
  have hne : fs ≠ [] := by rintro rfl; simp [scells] at hj
  rw [hb.cell (p := ⟨b, o + j, none⟩) (h4 hne).2]
  exact h5 j u hj
theorem Sps.form {w : World} {v : Value} {fs : List Spot} (h : Sps w v fs) : ∃ p cap, v = .slice p fs.length cap := by
  obtain ⟨p, cap, _, _, h1, _⟩ := h
  exact ⟨p, cap, h1⟩
/-- a row of files of the call's own -/
def SO (w : World) (B : Nat) (v : Value) (fs : List Spot) : Prop := w.ownsRow B 63 4 v fs.length (scells fs)
theorem SO.below {w w' : World} {B : Nat} {v : Value} {fs : List Spot} (h : SO w B v fs) (hb : Below w.heap.size w w') : SO w' B v fs := Nd.own_belowK h hb
theorem SO.sps {w : World} {B : Nat} {v : Value} {fs : List Spot} (h : SO w B v fs) : Sps w v fs := by
  obtain ⟨_, ⟨rfl, h0⟩ | ⟨g, cap, cur, rfl, hB, hh, hn, hm, hs, ht⟩⟩ := h
  · obtain rfl := List.length_eq_zero_iff.1 h0
    exact ⟨none, 0, 0, 0, rfl, by simp, by omega, fun h => absurd rfl h, fun j u h => by simp [scells] at h, fun _ => ⟨rfl, rfl⟩⟩
  · have hlt : g < w.heap.size := (Array.getElem?_eq_some_iff.1 hh).1
    refine ⟨_, cap, g, 0, rfl, hn, by unfold maxLen at hm; omega, fun _ => ⟨rfl, hlt⟩, fun j u hj => ?_, fun e => by cases e⟩
    have hjl : j < fs.length * 4 := by rw [← scells_len]; exact (List.getElem?_eq_some_iff.1 hj).1
    have ht2 : (cur.toList.take (fs.length * 4))[j]? = (scells fs)[j]? := by rw [ht]
    rw [List.getElem?_take, if_pos hjl, hj, Array.getElem?_toList] at ht2
    rw [Nat.zero_add, cell_of_row w g j _ _ (0, 0) hh, ht2]
theorem info63h : ∃ i z, Hid (Tryz.prog.info? 63 = some i) ∧ Hid (i.size = 4) ∧ Hid (i.bytes = 64) ∧ Hid (i.zero = some z) ∧ Hid (z.cells.size = 4) := by
  have h : (Tryz.prog.info? 63).map (fun i => (i.size, i.bytes, i.zero.map (·.cells.size))) = some (4, 64, some 4) := by kernel_rfl
  cases hi : Tryz.prog.info? 63 with
  | none => rw [hi] at h; cases h
  | some i =>
    rw [hi] at h
    simp only [Option.map_some, Option.some.injEq, Prod.mk.injEq] at h
    obtain ⟨h1, h2, h3⟩ := h
    cases hz : i.zero with
    | none => rw [hz] at h3; cases h3
    | some z => rw [hz] at h3; exact ⟨i, z, rfl, h1, h2, hz, Option.some.inj h3⟩
/-- files put behind a row of the call's own -/
theorem wpList_app63 {ops : Array Oper} {rest : List Oper} {o : Oper} {a : Act} {w : World} {Q : Exit → Act → World → Prop} (B : Nat) (hgd : o.guard = none) (s x : Operand) (ho : o.op = .call { callee := .builtin .append, args := #[s, x], argTypes := #[54, 54] })
    (v : Value) (xs ys : List Spot) (hs : a.eval s = v) (hown : SO w B v xs) (sv : Value) (hx : a.eval x = sv) (hsv : Sps w sv ys) (hsf : ∀ s ∈ ys, Sf s) (hlen : xs.length + ys.length ≤ 1000000) (hB : B ≤ w.heap.size)
    (h : ∀ v' w', SO w' B v' (xs ++ ys) → w.grownBy w' v.ownBlock → wpList Tryz.prog ops Q rest (a.put o.dst v') w') : wpList Tryz.prog ops Q (o :: rest) a w := by
  obtain ⟨p, cap, b, of, rfl, h1, h2, h3, h4, h5⟩ := hsv
  obtain ⟨i, z, hi, hz1, hz2, hz3, hz4⟩ := info63h
  rcases p with _ | ad
  · obtain ⟨rfl, rfl⟩ := h5 rfl
    refine wpList_append_own_none hgd s x 54 ho B 63 i 4 Tryz.underlying54 hi.out v xs.length (scells xs) hs hown hx ?_
    exact h v w (by simpa using hown) ⟨rfl, rfl, rfl, Nat.le_refl _, fun _ _ _ => rfl⟩
  · refine wpList_append_own w hgd s x 54 ho B 63 i z 4 64 Tryz.underlying54 hi.out hz3.out hz1.out hz2.out hz4.out (by decide) v xs.length (scells xs) hs hown ad ys.length cap (scells ys) hx (scells_len ys) (fun j u hj => ?_) (scells_one ys hsf) (by unfold maxLen; omega) (by omega) hB ?_
    · have hne : ys ≠ [] := by rintro rfl; simp [scells] at hj
      obtain rfl := Option.some.inj (h3 hne).1
      rw [Addr.add_mid]
      exact h4 j u hj
    · intro v' w' h6 h7 _
      refine h v' w' ?_ h7
      unfold SO
      rw [List.length_append, show scells (xs ++ ys) = scells xs ++ scells ys by simp [scells]]
      exact h6
theorem SO.nil (w : World) (B : Nat) : SO w B (.slice none 0 0) [] := World.ownsRow_nil _ _ _ _
theorem SO.mono {w : World} {B B' : Nat} {v : Value} {fs : List Spot} (h : SO w B v fs) (hb : B' ≤ B) : SO w B' v fs := by
  obtain ⟨h1, h2 | ⟨g, cap, cur, hv, hB, r⟩⟩ := h
  · exact ⟨h1, .inl h2⟩
  · exact ⟨h1, .inr ⟨g, cap, cur, hv, Nat.le_trans hb hB, r⟩⟩
theorem SO.step {w w' a : World} {B : Nat} {v : Value} {fs : List Spot} (h : SO w B v fs) (hb : Below B a w) (hB : B ≤ w.heap.size) (hg : w.grownBy w' v.ownBlock) : Below B a w' :=
  hb.grown hg hB (fun k e => (Nd.own_geK h k e).1)
theorem SO.form {w : World} {B : Nat} {v : Value} {fs : List Spot} (h : SO w B v fs) : ∃ p cap, v = .slice p fs.length cap := by
  obtain ⟨p, cap, _, _, h1, _⟩ := h.sps
  exact ⟨p, cap, h1⟩
theorem sps_one (w : World) (f : Spot) : Sps (w.alloc (.cells #[f.v, .string f.path, .bool f.dir, .string f.data] 63)) (.slice (some ⟨w.heap.size, 0, none⟩) 1 1) [f] := by
  have hr := Nd.Row.new w [f.v, .string f.path, .bool f.dir, .string f.data] 63
  refine ⟨_, 1, w.heap.size, 0, rfl, by simp, by omega, fun _ => ⟨rfl, by simp⟩, fun j u hj => ?_, fun e => by cases e⟩
  rw [Nat.zero_add, hr.cell]
  simpa [scells, Spot.cells] using hj
end Go.Proofs.YtngehkmdanhgpaaGreat.Pl
namespace Go.Proofs.YtngehkmdanhgpaaGreat.Pl
open Go.RowKit
open Go.ChangeMaps (setBlock heap_setBlock_same heap_setBlock_other)
open Vp (Str B bl Val cmpL parseS showS splitS withinS IsPath)
open Nd (Row wp_world post_Row post_Row2)
def belowB (xs : List Str) (s : Spot) : Bool := decide (xs.length < s.names.length) && withinS s.names xs
theorem zip_fst {es : List MapEntry} {L : List Spot} (h : es.length = L.length) : (es.zip L).map (·.1) = es := by
  rw [List.map_fst_zip (by omega)]
theorem zip_snd {es : List MapEntry} {L : List Spot} (h : es.length = L.length) : (es.zip L).map (·.2) = L := by
  rw [List.map_snd_zip (by omega)]
/-- all entries have come: in whatever order, they are all -/
theorem done_perm {es : Array MapEntry} {L : List Spot} {done : List (MapEntry × Spot)} (hl : es.toList.length = L.length) (hb : (es.toList.map (·.born)).Nodup) (h1 : (done.map (·.1.born)).Nodup) (h2 : ∀ d ∈ done, d ∈ es.toList.zip L) (h3 : ∀ e ∈ es.toList, e.born ∈ done.map (·.1.born)) : (done.map (·.2)).Perm L := by
  have hz : ((es.toList.zip L).map (·.1.born)).Nodup := by
    have : (es.toList.zip L).map (·.1.born) = ((es.toList.zip L).map (·.1)).map (·.born) := by rw [List.map_map]; rfl
    rw [this, zip_fst hl]; exact hb
  have key : ∀ (l : List (MapEntry × Spot)), (l.map (·.1.born)).Nodup → ∀ a ∈ l, ∀ b ∈ l, a.1.born = b.1.born → a = b := by
    intro l hn a ha b hb2 he
    obtain ⟨i, hi⟩ := List.getElem?_of_mem ha
    obtain ⟨j, hj⟩ := List.getElem?_of_mem hb2
    have h1 := List.pairwise_iff_getElem.1 hn
    obtain ⟨hil, rfl⟩ := List.getElem?_eq_some_iff.1 hi
    obtain ⟨hjl, rfl⟩ := List.getElem?_eq_some_iff.1 hj
    rcases Nat.lt_trichotomy i j with h7 | h7 | h7
    · exact absurd (by rw [List.getElem_map, List.getElem_map]; exact he) (h1 i j (by simpa using hil) (by simpa using hjl) h7)
    · subst h7; rfl
    · exact absurd (by rw [List.getElem_map, List.getElem_map]; exact he.symm) (h1 j i (by simpa using hjl) (by simpa using hil) h7)
  have nd : ∀ (l : List (MapEntry × Spot)), (l.map (·.1.born)).Nodup → l.Nodup := by
    intro l
    induction l with
    | nil => simp
    | cons a r ih =>
      intro h
      simp only [List.map_cons, List.nodup_cons] at h ⊢
      exact ⟨fun hm => h.1 (List.mem_map.2 ⟨a, hm, rfl⟩), ih h.2⟩
  have hp : done.Perm (es.toList.zip L) := by
    rw [List.perm_ext_iff_of_nodup (nd _ h1) (nd _ hz)]
    refine fun a => ⟨h2 a, fun ha => ?_⟩
    have he : a.1 ∈ es.toList := by rw [← zip_fst hl]; exact List.mem_map.2 ⟨a, ha, rfl⟩
    obtain ⟨d, hd, hdb⟩ := List.mem_map.1 (h3 a.1 he)
    rw [← key _ hz d (h2 d hd) a ha hdb]
    exact hd
  have := hp.map (·.2)
  rwa [zip_snd hl] at this
/-- between two rounds -/
structure BL (w : World) (m : Nat) (L : List Spot) (xs : List Str) (es : Array MapEntry) (clock : Nat) (v : Value) (W : World) (done : List (MapEntry × Spot)) : Prop where
  it : ∃ c0, W.heap[w.heap.size]? = some (.mapIter (some m) clock (done.map (·.1.born)).toArray c0) ∧ clock ≤ c0
  nd : (done.map (·.1.born)).Nodup
  sub : ∀ d ∈ done, d ∈ es.toList.zip L
  row : SO W (w.heap.size + 1) v ((done.map (·.2)).filter (belowB xs))
  bel : Below w.heap.size w W
  sz : w.heap.size + 1 ≤ W.heap.size
theorem BL.len {w : World} {m : Nat} {L : List Spot} {xs : List Str} {es : Array MapEntry} {clock : Nat} {v : Value} {W : World} {done : List (MapEntry × Spot)} (h : BL w m L xs es clock v W done) : done.length ≤ L.length := by
  have hs : done.length ≤ (es.toList.zip L).length := by
    have hn : done.Nodup := by
      have := h.nd
      clear h
      induction done with
      | nil => simp
      | cons a r ih =>
        simp only [List.map_cons, List.nodup_cons] at this ⊢
        exact ⟨fun hm => this.1 (List.mem_map.2 ⟨a, hm, rfl⟩), ih this.2⟩
    exact List.Nodup.length_le_of_subset hn h.sub
  have : (es.toList.zip L).length ≤ L.length := by simp; omega
  omega
end Go.Proofs.YtngehkmdanhgpaaGreat.Pl
