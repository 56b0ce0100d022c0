/-
  A file system that New makes is a tree; what stays. New, stat and list of what is there, told in full. Plain facts for PlainTree: the kids of all that is listed, told together; the order; sums. A value that reads as operations; fits of a script. Stat and list of what is listed.
-/
import Derived.Laws.CopyOwn
import Derived.Deep.RegionLaw
import Derived.Deep.DrawnRows
import Derived.Lib.SlBytesConst
import Derived.Lib.AppendZeros
import Derived.Laws.Tables
import Derived.Test.YtngehkmdanhgpaaGreatR00
import Derived.Test.YtngehkmdanhgpaaGreatR01
import Derived.Test.YtngehkmdanhgpaaGreatR02
import Derived.Test.YtngehkmdanhgpaaGreatR03
import Derived.Test.YtngehkmdanhgpaaGreatR04
import Derived.Test.YtngehkmdanhgpaaGreatR05
import Derived.Test.YtngehkmdanhgpaaGreatR06
import Derived.Test.YtngehkmdanhgpaaGreatR07
import Derived.Test.YtngehkmdanhgpaaGreatR08
import Derived.Test.YtngehkmdanhgpaaGreatR09
import Derived.Test.YtngehkmdanhgpaaGreatR10
import Derived.Test.YtngehkmdanhgpaaGreatR11
import Derived.Test.YtngehkmdanhgpaaGreatR12
import Derived.Test.YtngehkmdanhgpaaGreatR13
import Derived.Test.YtngehkmdanhgpaaGreatR14
import Derived.Test.YtngehkmdanhgpaaGreatR15
import Derived.Test.YtngehkmdanhgpaaGreatR16
import Derived.Test.YtngehkmdanhgpaaGreatR17
import Derived.Test.YtngehkmdanhgpaaGreatR18
import Derived.Test.YtngehkmdanhgpaaGreatR19
import Derived.Test.YtngehkmdanhgpaaGreatR20
import Derived.Test.YtngehkmdanhgpaaGreatR21
import Derived.Test.YtngehkmdanhgpaaGreatR22
import Derived.Test.YtngehkmdanhgpaaGreatR23
import Derived.Test.YtngehkmdanhgpaaGreatR24
import Derived.Test.YtngehkmdanhgpaaGreatR25
import Derived.Test.YtngehkmdanhgpaaGreatR26
import Derived.Test.YtngehkmdanhgpaaGreatR27
import Derived.Test.YtngehkmdanhgpaaGreatR28
import Derived.Test.YtngehkmdanhgpaaGreatR29
import Derived.Test.YtngehkmdanhgpaaGreatR30
import Derived.Test.YtngehkmdanhgpaaGreatR31
import Derived.Test.YtngehkmdanhgpaaGreatR32
import Derived.Test.YtngehkmdanhgpaaGreatR33
import Derived.Test.YtngehkmdanhgpaaGreatR34
import Derived.Test.YtngehkmdanhgpaaGreatR35
import Derived.Test.YtngehkmdanhgpaaGreatR36
import Derived.Test.YtngehkmdanhgpaaGreatR37
import Derived.Test.YtngehkmdanhgpaaGreatR38
import Derived.Test.YtngehkmdanhgpaaGreatR39
import Derived.Test.YtngehkmdanhgpaaGreatR40
import Derived.Test.YtngehkmdanhgpaaGreatR41
import Derived.Test.YtngehkmdanhgpaaGreatR42
import Derived.Test.YtngehkmdanhgpaaGreatR43
import Derived.Test.YtngehkmdanhgpaaGreatR44
import Derived.Test.YtngehkmdanhgpaaGreatR45
namespace Go.Proofs.YtngehkmdanhgpaaGreat.Pl
open Go.RowKit
open Vp (Str B bl Val cmpL parseS showS splitS withinS IsPath)
open Nd (Row wp_world post_Row post_Row2 grownBy_setCell below_of_grown Opn checkS numsOk namedS pathsS perr)
open Rf (Fil Fls fcells)
theorem tree_new {fs : List Fil} (h : newE fs = 0) : Tree (newA fs) := by
  unfold newE at h
  split at h
  · rename_i h1
    exact absurd h h1
  split at h
  · rename_i h1
    exact absurd h h1
  split at h
  · cases h
  rename_i _ _ hnd
  unfold dirsA at h
  split at h
  · cases h
  rename_i hn1
  split at h
  · cases h
  rename_i hn2
  refine ⟨⟨rootE, rfl, rfl⟩, fun n e he hne => ?_⟩
  obtain ⟨hn, hm⟩ := at_names he
  have hm2 : e ∈ fs.map entOf := by
    rcases List.mem_cons.1 hm with rfl | hm
    · exact absurd hn.symm hne
    · exact hm
  have k1 : noneA (newA fs) e = false := by
    cases hc : noneA (newA fs) e with
    | false => rfl
    | true => exact absurd (List.any_eq_true.2 ⟨e, hm2, hc⟩) hn1
  have k2 : fileA (newA fs) e = false := by
    cases hc : fileA (newA fs) e with
    | false => rfl
    | true => exact absurd (List.any_eq_true.2 ⟨e, hm2, hc⟩) hn2
  unfold noneA at k1
  unfold fileA at k2
  rw [hn] at k1 k2
  cases hd : entAt (newA fs) n.dropLast with
  | none => rw [hd] at k1; simp at k1
  | some d =>
    rw [hd] at k2
    exact ⟨d, rfl, by simpa using k2⟩
theorem fls_map {w W : World} {g m : Nat} {A : List Ent} (h : FsA w g m A) (hg : w.grownBy W (some m)) {v : Value} {fs : List Fil} (hf : Fls w v fs) : Fls W v fs := by
  obtain ⟨L, hL, _⟩ := h
  obtain ⟨p, cap, b, o, h1, h2, h3, h4, h5, h6⟩ := hf
  exact ⟨p, cap, b, o, h1, h2, h3, fun hn => ⟨(h4 hn).1, Nat.lt_of_lt_of_le (h4 hn).2 hg.size⟩, fun j u hj => cell_map hL.map hg (h5 j u hj), h6⟩
end Go.Proofs.YtngehkmdanhgpaaGreat.Pl
namespace Go.Proofs.YtngehkmdanhgpaaGreat.Pl
open Go.RowKit
open Vp (Str B bl Val cmpL parseS showS splitS withinS IsPath)
open Nd (Row wp_world post_Row post_Row2 grownBy_setCell below_of_grown Opn checkS numsOk namedS pathsS perr)
open Rf (Fil Fls fcells)
theorem small_new {fs : List Fil} (h : newE fs = 0) : Small (newA fs) := by
  unfold newE at h
  split at h
  · rename_i h1
    exact absurd h h1
  split at h
  · rename_i h1
    exact absurd h h1
  rename_i _ h1
  have h1 : dataE fs = 0 := Classical.byContradiction h1
  unfold dataE at h1
  split at h1
  · cases h1
  split at h1
  · cases h1
  rename_i hb
  intro e he
  rcases List.mem_cons.1 he with rfl | he
  · show (0 : Nat) ≤ _
    omega
  · obtain ⟨f, hf, rfl⟩ := List.mem_map.1 he
    show f.data.size ≤ _
    have : ¬ bigP f = true := fun hh => hb (List.any_eq_true.2 ⟨f, hf, hh⟩)
    unfold bigP at this
    simp at this
    omega
end Go.Proofs.YtngehkmdanhgpaaGreat.Pl
namespace Go.Proofs.YtngehkmdanhgpaaGreat.Pl
open Vp (Str B bl Val cmpL parseS showS splitS withinS IsPath)
open Rf (Fil Fls fcells)
open Nd (perr)
theorem order {A es : List Ent} (hA : (A.map (·.names)).Nodup) (hp : es.Perm (A.filter (belowE []))) (ho : es.Pairwise (fun s t => ¬ cmpL t.names s.names < 0)) {i : Nat} {a b : Ent} (ha : es[i]? = some a) (hb : es[i + 1]? = some b) : cmpL a.names b.names < 0 := by
  have hn : (es.map (·.names)).Nodup := by
    rw [(hp.map _).nodup_iff]
    exact List.Sublist.nodup (List.filter_sublist.map _) hA
  obtain ⟨hi, rfl⟩ := List.getElem?_eq_some_iff.1 ha
  obtain ⟨hj, rfl⟩ := List.getElem?_eq_some_iff.1 hb
  have h1 := List.pairwise_iff_getElem.1 ho i (i + 1) hi hj (by omega)
  have h2 := List.pairwise_iff_getElem.1 hn i (i + 1) (by simpa using hi) (by simpa using hj) (by omega)
  rw [List.getElem_map, List.getElem_map] at h2
  have t1 := Vp.cmpL_is.turn es[i].names es[i + 1].names
  have t2 := Vp.cmpL_is.three es[i].names es[i + 1].names
  have t3 : cmpL es[i].names es[i + 1].names ≠ 0 := fun e => h2 ((Vp.cmpL_is.zero _ _).1 e)
  omega
end Go.Proofs.YtngehkmdanhgpaaGreat.Pl
namespace Go.Proofs.YtngehkmdanhgpaaGreat.Pl
open Go.RowKit
open Vp (Str B bl Val cmpL parseS showS splitS withinS IsPath)
open Nd (Row wp_world post_Row post_Row2 grownBy_setCell below_of_grown Opn checkS numsOk namedS pathsS)
open Rf (Fil Fls)
/-- a value that reads as operations -/
def Ops (w : World) (v : Value) (os : List Opn) : Prop := ∃ p cap b o, v = .slice p os.length cap ∧ os.length ≤ cap ∧ cap ≤ 9223372036854775807 ∧ (os ≠ [] → p = some ⟨b, o, none⟩ ∧ b < w.heap.size) ∧ ∀ (i : Nat) x, os[i]? = some x → w.rangeAt b (o + i * 6) x.cells
theorem Ops.below {w w' : World} {v : Value} {os : List Opn} (h : Ops w v os) (hb : Below w.heap.size w w') : Ops w' v os := by
  obtain ⟨p, cap, b, o, h1, h2, h3, h4, h5⟩ := h
  refine ⟨p, cap, b, o, h1, h2, h3, fun hn => ⟨(h4 hn).1, Nat.lt_of_lt_of_le (h4 hn).2 hb.size⟩, fun i x hi j u hj => ?_⟩
  have hne : os ≠ [] := by rintro rfl; simp at hi
  rw [hb.cell (p := ⟨b, _, none⟩) (h4 hne).2]
  exact h5 i x hi j u hj
set_option maxHeartbeats 4000000 in
set_option maxRecDepth 100000 in
theorem fitsO_any (w : World) (v u : Value) (fs : List Fil) (os : List Opn) (h : Fls w v fs) (ho : Ops w u os) :
    Calls Tryz.prog 9 #[v, u] w fun e w' => (∃ t, e = .returned (.bool t) ∧ (t = true → fs.length ≤ 100)) ∧ Below w.heap.size w w' := by
  obtain ⟨p, cap, rfl⟩ := h.form
  have hb : Below w.heap.size w (w.alloc (.cells #[.slice p fs.length cap] 22)) := (Below.refl _ _).alloc (Nat.le_refl _) _
  have HFW := hid_in (few_any (w.alloc (.cells #[.slice p fs.length cap] 22)) (.slice p fs.length cap) fs (h.below hb) w.heap.size ((Row.new w [.slice p fs.length cap] 22).cell 0))
  have HB := hid_in hb
  obtain ⟨p2, cap2, b, o, rfl, h2, h3, h4, h5⟩ := ho.below hb
  have HC : Hid (∀ (j : Nat), j < os.length → ∃ x y z : ByteArray, p2 = some ⟨b, o, none⟩ ∧ (w.alloc (.cells #[.slice p fs.length cap] 22)).cell? ⟨b, o + j * 6 + 1, none⟩ = some (.string x) ∧ (w.alloc (.cells #[.slice p fs.length cap] 22)).cell? ⟨b, o + j * 6 + 2, none⟩ = some (.string y) ∧ (w.alloc (.cells #[.slice p fs.length cap] 22)).cell? ⟨b, o + j * 6 + 3, none⟩ = some (.string z)) := hid_in (fun j hj => by
    have hg := List.getElem?_eq_getElem hj
    exact ⟨os[j].path, os[j].dest, os[j].data, (h4 (by intro e; rw [e] at hj; simp at hj)).1, h5 j _ hg 1 _ rfl, h5 j _ hg 2 _ rfl, h5 j _ hg 3 _ rfl⟩)
  have HM : Hid (os.length ≤ 9223372036854775807) := hid_in (by omega)
  clear hb h ho h2 h3 h4 h5
  obtain ⟨w1, HW1⟩ : ∃ w1, Hid (w.alloc (.cells #[.slice p fs.length cap] 22) = w1) := ⟨_, hid_in rfl⟩
  generalize os.length = N at *
  by_cases hn : 100 < fs.length
  · have j1 : (100 : Int) < (fs.length : Int) := by omega
    go_enter Tryz.func9, Tryz.ntmps9
    go_wp2_with (first | (go_at_call 22; refine HFW.out.mono ?_; rintro e w2 ⟨⟨t, rfl⟩, rfl⟩; rcases t with _ | _))
    all_goals go_ret
    all_goals exact ⟨⟨_, rfl, fun h => by cases h⟩, HB.out⟩
  · have j1 : ¬ (100 : Int) < (fs.length : Int) := by omega
    have HN : Hid (fs.length ≤ 100) := hid_in (by omega)
    go_enter Tryz.func9, Tryz.ntmps9
    go_wp2_with (first | (go_at_call 22; refine HFW.out.mono ?_; rintro e w2 ⟨⟨t, rfl⟩, rfl⟩; rcases t with _ | _))
    · go_ret
      exact ⟨⟨_, rfl, fun h => by cases h⟩, HB.out⟩
    · rw [HW1.out] at HB HC ⊢
      go_loopw [6, 5] (fun vj vs W => (∃ m, W = w1.drewN m) ∧ ∃ (j : Nat) (s : Int), j ≤ N ∧ vj = .int .i64 (j : Int) ∧ vs = .int .i64 s) (fun vj _ _ => N - (intOf vj).toNat)
      case atStart => exact ⟨⟨0, rfl⟩, 0, 0, by omega, rfl, rfl⟩
      case round =>
        obtain ⟨⟨m, rfl⟩, j, s, hj, rfl, rfl⟩ := hrel
        by_cases hlt : j < N
        · obtain ⟨x, y, z, rfl, c1, c2, c3⟩ := HC.out j hlt
          have d1 : (w1.drewN m).drew.cell? ⟨b, o + j * 6 + 1, none⟩ = some (.string x) := c1
          have d2 : (w1.drewN m).drew.cell? ⟨b, o + j * 6 + 2, none⟩ = some (.string y) := c2
          have d3 : (w1.drewN m).drew.cell? ⟨b, o + j * 6 + 3, none⟩ = some (.string z) := c3
          have hN : (N : Int) ≤ 9223372036854775807 := by have := HM.out; omega
          have HL := hid_in hlt
          have hlt2 : (j : Int) < (N : Int) := by omega
          clear hj hlt
          go_upto_region 7 with fail
          go_region
          go_wp2
          go_roundw
          case rel => exact ⟨⟨m + 1, rfl⟩, j + 1, _, by have := HL.out; omega, by go_num, rfl⟩
          case measure => have := HL.out; simp [intOf]; omega
        · obtain rfl : j = N := by omega
          clear hj hlt
          go_wp2
          go_ret
          exact ⟨⟨_, rfl, fun _ => HN.out⟩, Nd.below_drewN HB.out m⟩
end Go.Proofs.YtngehkmdanhgpaaGreat.Pl
namespace Go.Proofs.YtngehkmdanhgpaaGreat.Pl
open Go.RowKit
open Vp (Str B bl Val cmpL parseS showS splitS withinS IsPath)
open Nd (Row wp_world post_Row post_Row2 grownBy_setCell below_of_grown Opn checkS numsOk namedS pathsS perr)
open Rf (Fil Fls fcells)
theorem FsA.gp {w : World} {g m : Nat} {A : List Ent} (h : FsA w g m A) : ∀ e ∈ A, Gp e.names := by
  obtain ⟨L, h1, rfl⟩ := h
  intro e he
  obtain ⟨s, hs, rfl⟩ := List.mem_map.1 he
  exact (h1.map.good s hs).2
theorem w_newS {fs : List Fil} {p : Option Addr} {n c : Nat} {w : World} (h : Fls w (.slice p n c) fs) (hn : fs.length ≤ 100) (hp : ∀ f ∈ fs, f.path.size ≤ 9223372036854775807) :
    Calls Tryz.prog 10 #[.slice p n c] w fun e w' => Below w.heap.size w w' ∧ ((∃ k, k ≠ 0 ∧ e = .returned (.tuple #[.pointer none, .int .i64 k])) ∨ (∃ g m A, e = .returned (.tuple #[.pointer (some ⟨g, 0, none⟩), .int .i64 0]) ∧ FsA w' g m A ∧ w.heap.size ≤ m ∧ Tree A ∧ Small A ∧ A.length ≤ 101)) := by
  refine (new_any fs _ w h (by omega) hp).mono ?_
  rintro e w' ⟨hb, ⟨hne, rfl⟩ | ⟨he, g, m, L, rfl, hF, hg, hm, hL⟩⟩
  · exact ⟨hb, .inl ⟨_, hne, rfl⟩⟩
  · refine ⟨hb, .inr ⟨g, m, newA fs, rfl, ⟨L, hF, hL⟩, hm, tree_new he, small_new he, ?_⟩⟩
    simp only [newA, List.length_cons, List.length_map]
    omega
theorem ops_at {W : World} {u : Value} {os : List Opn} (h : Ops W u os) : ∃ p c, u = .slice p os.length c ∧ os.length ≤ 9223372036854775807 ∧ (os ≠ [] → ∃ b o, p = some ⟨b, o, none⟩ ∧ ∀ W', Below W.heap.size W W' → ∀ (i : Nat) x, os[i]? = some x → W'.cell? ⟨b, o + i * 6, none⟩ = some (.int .i64 x.kind) ∧ W'.cell? ⟨b, o + i * 6 + 1, none⟩ = some (.string x.path) ∧ W'.cell? ⟨b, o + i * 6 + 2, none⟩ = some (.string x.dest) ∧ W'.cell? ⟨b, o + i * 6 + 3, none⟩ = some (.string x.data) ∧ W'.cell? ⟨b, o + i * 6 + 4, none⟩ = some (.int .i64 x.at_) ∧ W'.cell? ⟨b, o + i * 6 + 5, none⟩ = some (.int .i64 x.size)) := by
  obtain ⟨p, cap, b, o, h1, h2, h3, h4, h5⟩ := h
  refine ⟨p, cap, h1, by omega, fun hne => ⟨b, o, (h4 hne).1, fun W' hb i x hi => ?_⟩⟩
  have hr := h5 i x hi
  have hc : ∀ j, W'.cell? ⟨b, j, none⟩ = W.cell? ⟨b, j, none⟩ := fun j => hb.cell (p := ⟨b, j, none⟩) (h4 hne).2
  simp only [hc]
  exact ⟨hr 0 _ rfl, hr 1 _ rfl, hr 2 _ rfl, hr 3 _ rfl, hr 4 _ rfl, hr 5 _ rfl⟩
end Go.Proofs.YtngehkmdanhgpaaGreat.Pl
