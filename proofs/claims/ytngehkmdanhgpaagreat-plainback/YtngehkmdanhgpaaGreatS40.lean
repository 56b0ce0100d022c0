/-
  A list that is sorted is one list; the operations of PlainBack, by what is there. A file system that New makes is a tree; what stays. The walk of PlainWrites.
-/
import Derived.Lib.SlBytesConst
import Derived.Laws.Tables
import Derived.Deep.RegionLaw
import Derived.Deep.DrawnRows
import Derived.Lib.AppendZeros
import Derived.Laws.CopyOwn
import Derived.Shelf.Strings.Repeat
import Derived.Test.YtngehkmdanhgpaaGreatRows
import Derived.Test.YtngehkmdanhgpaaGreatS00
import Derived.Test.YtngehkmdanhgpaaGreatS01
import Derived.Test.YtngehkmdanhgpaaGreatS02
import Derived.Test.YtngehkmdanhgpaaGreatS03
import Derived.Test.YtngehkmdanhgpaaGreatS04
import Derived.Test.YtngehkmdanhgpaaGreatS05
import Derived.Test.YtngehkmdanhgpaaGreatS06
import Derived.Test.YtngehkmdanhgpaaGreatS07
import Derived.Test.YtngehkmdanhgpaaGreatS08
import Derived.Test.YtngehkmdanhgpaaGreatS09
import Derived.Test.YtngehkmdanhgpaaGreatS10
import Derived.Test.YtngehkmdanhgpaaGreatS11
import Derived.Test.YtngehkmdanhgpaaGreatS12
import Derived.Test.YtngehkmdanhgpaaGreatS13
import Derived.Test.YtngehkmdanhgpaaGreatS14
import Derived.Test.YtngehkmdanhgpaaGreatS15
import Derived.Test.YtngehkmdanhgpaaGreatS16
import Derived.Test.YtngehkmdanhgpaaGreatS17
import Derived.Test.YtngehkmdanhgpaaGreatS18
import Derived.Test.YtngehkmdanhgpaaGreatS19
import Derived.Test.YtngehkmdanhgpaaGreatS20
import Derived.Test.YtngehkmdanhgpaaGreatS21
import Derived.Test.YtngehkmdanhgpaaGreatS22
import Derived.Test.YtngehkmdanhgpaaGreatS23
import Derived.Test.YtngehkmdanhgpaaGreatS24
import Derived.Test.YtngehkmdanhgpaaGreatS25
import Derived.Test.YtngehkmdanhgpaaGreatS26
import Derived.Test.YtngehkmdanhgpaaGreatS27
import Derived.Test.YtngehkmdanhgpaaGreatS28
import Derived.Test.YtngehkmdanhgpaaGreatS29
import Derived.Test.YtngehkmdanhgpaaGreatS30
import Derived.Test.YtngehkmdanhgpaaGreatS31
import Derived.Test.YtngehkmdanhgpaaGreatS32
import Derived.Test.YtngehkmdanhgpaaGreatS33
import Derived.Test.YtngehkmdanhgpaaGreatS34
import Derived.Test.YtngehkmdanhgpaaGreatS35
import Derived.Test.YtngehkmdanhgpaaGreatS36
import Derived.Test.YtngehkmdanhgpaaGreatS37
import Derived.Test.YtngehkmdanhgpaaGreatS38
import Derived.Test.YtngehkmdanhgpaaGreatS39
namespace Go.Proofs.YtngehkmdanhgpaaGreat.Pl
open Go.RowKit
open Vp (Str B bl Val cmpL parseS showS splitS withinS IsPath)
open Nd (Row wp_world post_Row post_Row2 grownBy_setCell below_of_grown Opn checkS numsOk namedS pathsS perr)
open Rf (Fil Fls)
/-- the files are what is there but the root, sorted -/
def Lists (A : List Ent) (fs : List Fil) : Prop := ∃ es : List Ent, fs = es.map (fun e => ⟨B (showS e.names), e.dir, e.data⟩) ∧ es.Perm (A.filter (belowE [])) ∧ es.Pairwise (fun s t => ¬ cmpL t.names s.names < 0)
theorem Lists.len {A : List Ent} {fs : List Fil} (h : Lists A fs) : fs.length = (A.filter (belowE [])).length := by
  obtain ⟨es, rfl, h1, _⟩ := h
  rw [List.length_map, h1.length_eq]
theorem Lists.one {A C : List Ent} {fs gs : List Fil} (hA : (A.map (·.names)).Nodup) (h : Lists A fs) (k : Lists C gs) (hp : C.Perm A) : gs = fs := by
  obtain ⟨es, rfl, h1, h2⟩ := h
  obtain ⟨cs, rfl, k1, k2⟩ := k
  have hpp : cs.Perm es := k1.trans ((hp.filter _).trans h1.symm)
  have hmem : ∀ e ∈ es, e ∈ A := fun e he => (List.mem_filter.1 (h1.mem_iff.1 he)).1
  have : cs = es := List.Perm.eq_of_pairwise (le := fun s t => ¬ cmpL t.names s.names < 0) (fun a b ha hb h1 h2 => by
    have hn : a.names = b.names := by
      have t1 := Vp.cmpL_is.turn a.names b.names
      have t2 := Vp.cmpL_is.three a.names b.names
      exact (Vp.cmpL_is.zero _ _).1 (by omega)
    have q1 := at_mem hA (hmem a (hpp.mem_iff.1 ha))
    have q2 := at_mem hA (hmem b hb)
    rw [hn] at q1
    exact Option.some.inj (q1.symm.trans q2)) k2 h2 hpp
  rw [this]
/-- all but the root -/
theorem len_out : ∀ (A : List Ent), [] ∉ A.map (·.names) → (A.filter (belowE [])).length = A.length
  | [], _ => rfl
  | e :: r, h => by
    simp only [List.map_cons, List.mem_cons, not_or] at h
    have hb : belowE [] e = true := below_iff.2 ⟨e.names, fun x => h.1 x.symm, rfl⟩
    rw [List.filter_cons_of_pos hb, List.length_cons, List.length_cons, len_out r h.2]
theorem len_root : ∀ (A : List Ent), (A.map (·.names)).Nodup → [] ∈ A.map (·.names) → (A.filter (belowE [])).length + 1 = A.length
  | [], _, h => by simp at h
  | e :: r, hd, h => by
    simp only [List.map_cons, List.nodup_cons] at hd
    by_cases he : e.names = []
    · have hb : ¬ belowE [] e = true := fun hb => by
        obtain ⟨s, h0, hs⟩ := below_iff.1 hb
        rw [he] at hs
        exact h0 hs.symm
      rw [List.filter_cons_of_neg hb, len_out r (he ▸ hd.1)]
      rfl
    · have hb : belowE [] e = true := below_iff.2 ⟨e.names, he, rfl⟩
      rw [List.filter_cons_of_pos hb, List.length_cons, List.length_cons, len_root r hd.2 (by
        simp only [List.map_cons, List.mem_cons] at h
        exact h.resolve_left fun x => he x.symm)]
theorem at_in {A : List Ent} {n : List Str} {e : Ent} (h : entAt A n = some e) : n ∈ A.map (·.names) := List.mem_map.2 ⟨e, (at_names h).2, (at_names h).1⟩
theorem root_moves {p q : List Str} (hq : q ≠ []) : ∀ (es A : List Ent), (∀ e ∈ es, e.names ≠ []) → entAt (movesA p q es A) [] = entAt A []
  | [], _, _ => rfl
  | e :: es, A, h => by
    have ih := root_moves (p := p) hq es (stepA p q A e) (fun x hx => h x (by simp [hx]))
    have hm : movesA p q (e :: es) A = movesA p q es (stepA p q A e) := rfl
    rw [hm, ih, at_step, if_neg (fun x => hq (List.append_eq_nil_iff.1 x.symm).1), if_neg (fun x => h e (by simp) x.symm)]
theorem root_moved {A A' : List Ent} {p q : List Str} (hT : Tree A) (hA : (A.map (·.names)).Nodup) (h : Moved A p q A') : ∃ r, entAt A' [] = some r := by
  obtain ⟨r, hr, _⟩ := hT.root
  by_cases hc : rnE A p q = 0 ∧ p ≠ q
  · obtain ⟨x, es, hx, hp, e⟩ := h.2 hc
    obtain ⟨hp0, hq0, _⟩ := rn_ok hc.1
    obtain ⟨h1, _, _⟩ := moved_names hA hx hp
    refine ⟨r, ?_⟩
    rw [e, root_moves hq0 _ _ fun e he hn => ?_]
    · exact hr
    · obtain ⟨s, hs⟩ := within_iff.1 (h1 e he).2
      rw [hn] at hs
      exact hp0 (List.append_eq_nil_iff.1 hs.symm).1
  · rw [h.1 (by
      by_cases h0 : rnE A p q = 0
      · exact .inr (Classical.byContradiction fun hh => hc ⟨h0, hh⟩)
      · exact .inl h0)]
    exact ⟨r, hr⟩
/-- no more behind a rename -/
theorem lists_le {A A' : List Ent} {p q : List Str} {fs gs : List Fil} (hT : Tree A) (hA : (A.map (·.names)).Nodup) (hA' : (A'.map (·.names)).Nodup) (h : Moved A p q A') (k1 : Lists A fs) (k2 : Lists A' gs) : gs.length ≤ fs.length := by
  obtain ⟨r, hr⟩ := root_moved hT hA h
  obtain ⟨r0, hr0, _⟩ := hT.root
  have l1 := len_root A hA (at_in hr0)
  have l2 := len_root A' hA' (at_in hr)
  have l3 := len_moved hA h
  rw [k1.len, k2.len]
  omega
theorem lists_eq {A A' : List Ent} {fs gs : List Fil} (hT : Tree A) (hT' : Tree A') (hA : (A.map (·.names)).Nodup) (hA' : (A'.map (·.names)).Nodup) (h : A'.length = A.length) (k1 : Lists A fs) (k2 : Lists A' gs) : gs.length = fs.length := by
  obtain ⟨r, hr, _⟩ := hT'.root
  obtain ⟨r0, hr0, _⟩ := hT.root
  have l1 := len_root A hA (at_in hr0)
  have l2 := len_root A' hA' (at_in hr)
  rw [k1.len, k2.len]
  omega
theorem FsA.one {w : World} {g m : Nat} {A : List Ent} (h : FsA w g m A) : (A.map (·.names)).Nodup ∧ ∀ e ∈ A, e.names.length ≤ 8 := by
  obtain ⟨L, h1, rfl⟩ := h
  refine ⟨?_, fun e he => ?_⟩
  · rw [List.map_map]
    exact h1.map.one
  · obtain ⟨s, hs, rfl⟩ := List.mem_map.1 he
    exact (h1.map.good s hs).2.2
theorem w_list {W : World} {g m : Nat} {A : List Ent} (h : FsA W g m A) (hn : A.length ≤ 100000) :
    Calls Tryz.prog 16 #[.pointer (some ⟨g, 0, none⟩)] W fun e W' => ∃ p c fs, e = .returned (.slice p fs.length c) ∧ Fls W' (.slice p fs.length c) fs ∧ Lists A fs ∧ FsA W' g m A ∧ Below W.heap.size W W' := by
  obtain ⟨L, h1, rfl⟩ := h
  refine (list_any h1 (by simpa using hn)).mono ?_
  rintro e W' ⟨v, sp, rfl, hf, hp, hs, hF, hb⟩
  obtain ⟨p, c, rfl⟩ := hf.form
  refine ⟨p, c, sp.map Spot.fil, rfl, hf, ⟨sp.map Spot.ent, ?_, ?_, ?_⟩, ⟨L, hF, rfl⟩, hb⟩
  · rw [List.map_map]
    refine List.map_congr_left fun s hs => ?_
    have hg := (h1.map.good s (List.mem_filter.1 (hp.mem_iff.1 hs)).1).1
    simp only [Function.comp, Spot.fil, Spot.ent]
    rw [hg]
  · rw [← belowB_ent]
    exact hp.map _
  · rw [List.pairwise_map]
    exact hs
theorem w_stat {W : World} {g m : Nat} {A : List Ent} (h : FsA W g m A) (hn : A.length ≤ 100000) (p : ByteArray) (hp : p.size ≤ 9223372036854775807) :
    Calls Tryz.prog 14 #[.pointer (some ⟨g, 0, none⟩), .agg #[.int .i64 10, .string p, .string ⟨#[]⟩, .string ⟨#[]⟩, .int .i64 0, .int .i64 0]] W fun e W' => ∃ c b s vp vc, e = .returned (.agg #[.int .i64 c, .bool b, .int .i64 s, .string ⟨#[]⟩, .slice vp 0 vc]) ∧ (c = 0 ↔ perr p = 0 ∧ stE A (nmsOf p) = 0) ∧ FsA W' g m A ∧ W.grownBy W' (some m) := by
  obtain ⟨L, h1, rfl⟩ := h
  have hk : checkS ⟨10, p, ⟨#[]⟩, ⟨#[]⟩, 0, 0⟩ = perr p := by
    have hz : (⟨#[]⟩ : ByteArray).size = 0 := rfl
    simp [checkS, namedS, numsOk, pathsS, hz]
  have h0 : (⟨#[]⟩ : ByteArray).size ≤ 9223372036854775807 := by show (0 : Nat) ≤ _; omega
  by_cases hc : perr p = 0
  · refine (do_stat h1 (by simpa using hn) 0 0 p ⟨#[]⟩ ⟨#[]⟩ hp h0 (hk.trans hc)).mono ?_
    rintro e W' hd
    obtain ⟨vp, vc, rfl, k1, k2⟩ := hd.does
    exact ⟨_, _, _, vp, vc, rfl, by simp [hc], k1, k2⟩
  · refine (do_err h1 10 0 0 p ⟨#[]⟩ ⟨#[]⟩ hp h0 (by rw [hk]; exact hc)).mono ?_
    rintro e W' hd
    obtain ⟨vp, vc, rfl, k1, k2⟩ := hd.does
    refine ⟨_, _, _, vp, vc, rfl, ?_, k1, k2⟩
    show checkS ⟨10, p, ⟨#[]⟩, ⟨#[]⟩, 0, 0⟩ = 0 ↔ _
    rw [hk]
    simp [hc]
theorem w_rename {W : World} {g m : Nat} {A : List Ent} (h : FsA W g m A) (hn : A.length ≤ 100000) (p t : ByteArray) (hp : p.size ≤ 9223372036854775807) (ht : t.size ≤ 9223372036854775807) :
    Calls Tryz.prog 14 #[.pointer (some ⟨g, 0, none⟩), .agg #[.int .i64 7, .string p, .string t, .string ⟨#[]⟩, .int .i64 0, .int .i64 0]] W fun e W' => ∃ c b s vp vc A', e = .returned (.agg #[.int .i64 c, .bool b, .int .i64 s, .string ⟨#[]⟩, .slice vp 0 vc]) ∧ (c = 0 ↔ (perr p = 0 ∧ perr t = 0) ∧ rnE A (nmsOf p) (nmsOf t) = 0) ∧ (c = 0 → Moved A (nmsOf p) (nmsOf t) A') ∧ (c ≠ 0 → A' = A) ∧ FsA W' g m A' ∧ W.grownBy W' (some m) := by
  obtain ⟨L, h1, rfl⟩ := h
  have hk : checkS ⟨7, p, t, ⟨#[]⟩, 0, 0⟩ = if perr p = 0 then perr t else perr p := by
    have hz : (⟨#[]⟩ : ByteArray).size = 0 := rfl
    simp [checkS, namedS, numsOk, pathsS, hz]
  by_cases hc : perr p = 0 ∧ perr t = 0
  · refine (do_rename h1 (by simpa using hn) 0 0 p t ⟨#[]⟩ hp ht (by rw [hk, if_pos hc.1]; exact hc.2)).mono ?_
    rintro e W' ⟨v, rfl, hv, ⟨L', hL, hM⟩, hg⟩
    obtain ⟨vp, vc, rfl⟩ := hv.form
    refine ⟨_, _, _, vp, vc, L'.map Spot.ent, rfl, ?_, fun _ => hM, fun hne => hM.1 (.inl hne), ⟨L', hL, rfl⟩, hg⟩
    show rnE _ _ _ = 0 ↔ _
    simp [hc]
  · have hz : checkS ⟨7, p, t, ⟨#[]⟩, 0, 0⟩ ≠ 0 := by
      rw [hk]
      split
      · rename_i h0
        exact fun h2 => hc ⟨h0, h2⟩
      · rename_i h0
        exact h0
    refine (do_err h1 7 0 0 p t ⟨#[]⟩ hp ht hz).mono ?_
    rintro e W' hd
    obtain ⟨vp, vc, rfl, k1, k2⟩ := hd.does
    refine ⟨_, _, _, vp, vc, _, rfl, ?_, fun h => absurd h hz, fun _ => rfl, k1, k2⟩
    show checkS ⟨7, p, t, ⟨#[]⟩, 0, 0⟩ = 0 ↔ _
    simp [hz, hc]
end Go.Proofs.YtngehkmdanhgpaaGreat.Pl
namespace Go.Proofs.YtngehkmdanhgpaaGreat.Pl
open Go.RowKit
open Vp (Str B bl Val cmpL parseS showS splitS withinS IsPath)
open Nd (Row wp_world post_Row post_Row2 grownBy_setCell below_of_grown Opn checkS numsOk namedS pathsS perr)
open Rf (Fil Fls fcells)
theorem tree_new {fs : List Fil} (h : newE fs = 0) : Tree (newA fs) := by
  unfold newE at h
  split at h
  · rename_i h1
    exact absurd h h1
  split at h
  · rename_i h1
    exact absurd h h1
  split at h
  · cases h
  rename_i _ _ hnd
  unfold dirsA at h
  split at h
  · cases h
  rename_i hn1
  split at h
  · cases h
  rename_i hn2
  refine ⟨⟨rootE, rfl, rfl⟩, fun n e he hne => ?_⟩
  obtain ⟨hn, hm⟩ := at_names he
  have hm2 : e ∈ fs.map entOf := by
    rcases List.mem_cons.1 hm with rfl | hm
    · exact absurd hn.symm hne
    · exact hm
  have k1 : noneA (newA fs) e = false := by
    cases hc : noneA (newA fs) e with
    | false => rfl
    | true => exact absurd (List.any_eq_true.2 ⟨e, hm2, hc⟩) hn1
  have k2 : fileA (newA fs) e = false := by
    cases hc : fileA (newA fs) e with
    | false => rfl
    | true => exact absurd (List.any_eq_true.2 ⟨e, hm2, hc⟩) hn2
  unfold noneA at k1
  unfold fileA at k2
  rw [hn] at k1 k2
  cases hd : entAt (newA fs) n.dropLast with
  | none => rw [hd] at k1; simp at k1
  | some d =>
    rw [hd] at k2
    exact ⟨d, rfl, by simpa using k2⟩
theorem fls_map {w W : World} {g m : Nat} {A : List Ent} (h : FsA w g m A) (hg : w.grownBy W (some m)) {v : Value} {fs : List Fil} (hf : Fls w v fs) : Fls W v fs := by
  obtain ⟨L, hL, _⟩ := h
  obtain ⟨p, cap, b, o, h1, h2, h3, h4, h5, h6⟩ := hf
  exact ⟨p, cap, b, o, h1, h2, h3, fun hn => ⟨(h4 hn).1, Nat.lt_of_lt_of_le (h4 hn).2 hg.size⟩, fun j u hj => cell_map hL.map hg (h5 j u hj), h6⟩
end Go.Proofs.YtngehkmdanhgpaaGreat.Pl
namespace Go.Proofs.YtngehkmdanhgpaaGreat.Pl
open Go.RowKit
open Vp (Str B bl Val cmpL parseS showS splitS withinS IsPath)
open Nd (Row wp_world post_Row post_Row2 grownBy_setCell below_of_grown Opn checkS numsOk namedS pathsS)
open Rf (Fil Fls)
theorem store37 (c s : Int) (x : ByteArray) (b : Bool) (p : Option Addr) (n q : Nat) : Hid (∀ v ∈ [Value.int .i64 c, .bool b, .int .i64 s, .string x, .slice p n q], v.oneCell' = true) := by
  intro v hv
  simp only [List.mem_cons, List.not_mem_nil, or_false] at hv
  rcases hv with rfl | rfl | rfl | rfl | rfl <;> rfl
end Go.Proofs.YtngehkmdanhgpaaGreat.Pl
