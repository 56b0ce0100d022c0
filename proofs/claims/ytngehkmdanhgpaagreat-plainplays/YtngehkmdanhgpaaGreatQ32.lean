/-
  The walk of the reference's Checked.
-/
import Derived.Lib.SlBytesConst
import Derived.Laws.CopyOwn
import Derived.Deep.RegionLaw
import Derived.Deep.DrawnRows
import Derived.Lib.AppendZeros
import Derived.Laws.Tables
import Derived.Test.YtngehkmdanhgpaaGreatQ00
import Derived.Test.YtngehkmdanhgpaaGreatQ01
import Derived.Test.YtngehkmdanhgpaaGreatQ02
import Derived.Test.YtngehkmdanhgpaaGreatQ03
import Derived.Test.YtngehkmdanhgpaaGreatQ04
import Derived.Test.YtngehkmdanhgpaaGreatQ05
import Derived.Test.YtngehkmdanhgpaaGreatQ06
import Derived.Test.YtngehkmdanhgpaaGreatQ07
import Derived.Test.YtngehkmdanhgpaaGreatQ08
import Derived.Test.YtngehkmdanhgpaaGreatQ09
import Derived.Test.YtngehkmdanhgpaaGreatQ10
namespace Go.Proofs.YtngehkmdanhgpaaGreat.Rf
open Go.RowKit
open Vp (Str B bl Val cmpL parseS showS sv)
def Fil.nms (f : Fil) : List Str := nmsOf f.path
def Fil.err (f : Fil) : Int := errOf f.path
def nmsL (fs : List Fil) : List (List Str) := fs.map Fil.nms
theorem nmsL_at {fs : List Fil} {i : Nat} {f : Fil} (h : fs[i]? = some f) : (nmsL fs)[i]? = some f.nms := by simp [nmsL, h]
theorem nmsL_take {fs : List Fil} {i : Nat} {f : Fil} (h : fs[i]? = some f) : nmsL (fs.take (i + 1)) = nmsL (fs.take i) ++ [f.nms] := by
  unfold nmsL
  rw [List.take_add_one, h]
  simp
/-- nothing is wrong with the first j of them -/
def AllTo (P : Fil → Prop) (fs : List Fil) (j : Nat) : Prop := ∀ (i : Nat) f, i < j → fs[i]? = some f → P f
theorem AllTo.next {P : Fil → Prop} {fs : List Fil} {j : Nat} {f : Fil} (h : AllTo P fs j) (hf : fs[j]? = some f) (hp : P f) : AllTo P fs (j + 1) := fun i g hi hg => by
  rcases (show i < j ∨ i = j by omega) with h1 | rfl
  · exact h i g h1 hg
  · obtain rfl : f = g := Option.some.inj (hf.symm.trans hg)
    exact hp
/-- the first error of the paths, or none -/
def PErr (fs : List Fil) (e : Int) : Prop := ∃ (i : Nat) (f : Fil), fs[i]? = some f ∧ f.err = e ∧ e ≠ 0 ∧ AllTo (fun f => f.err = 0) fs i
theorem Fls.cells3 {w : World} {v : Value} {fs : List Fil} (h : Fls w v fs) : ∃ p cap b o, v = .slice p fs.length cap ∧ fs.length ≤ cap ∧ cap ≤ 9223372036854775807 ∧ ∀ (i : Nat) f, fs[i]? = some f → p = some ⟨b, o, none⟩ ∧ ∀ W, Below w.heap.size w W → W.cell? ⟨b, o + i * 3, none⟩ = some (.string f.path) ∧ W.cell? ⟨b, o + i * 3 + 1, none⟩ = some (.bool f.dir) ∧ W.cell? ⟨b, o + i * 3 + 2, none⟩ = some (.string f.data) := by
  obtain ⟨p, cap, b, o, h1, h2, h3, h4, h5, h6⟩ := h
  refine ⟨p, cap, b, o, h1, h2, h3, fun i f hi => ?_⟩
  have hne : fs ≠ [] := by rintro rfl; simp at hi
  refine ⟨(h4 hne).1, fun W hW => ⟨?_, ?_, ?_⟩⟩
  · rw [hW.cell (p := ⟨b, o + i * 3, none⟩) (h4 hne).2]
    exact h5 _ _ (fcells_at hi 0 _ rfl)
  · rw [hW.cell (p := ⟨b, o + i * 3 + 1, none⟩) (h4 hne).2, Nat.add_assoc]
    exact h5 _ _ (fcells_at hi 1 _ rfl)
  · rw [hW.cell (p := ⟨b, o + i * 3 + 2, none⟩) (h4 hne).2, Nat.add_assoc]
    exact h5 _ _ (fcells_at hi 2 _ rfl)
theorem toL_inj {a b : ByteArray} (h : a.toList = b.toList) : a = b := by
  rw [Lib.toList_data, Lib.toList_data] at h
  exact ByteArray.ext (Array.toList_inj.1 h)
def G1 (fs : List Fil) : Prop := AllTo (fun f => f.err = 0) fs fs.length
def G2 (fs : List Fil) : Prop := AllTo (fun f => ¬ (f.dir = true ∧ f.data ≠ ⟨#[]⟩)) fs fs.length
def G3 (fs : List Fil) : Prop := AllTo (fun f => f.data.size ≤ 1024) fs fs.length
/-- the first j paths are no root, and each is there once -/
def There (ps : List (List Str)) (j : Nat) : Prop := ∀ (i : Nat) x, i < j → ps[i]? = some x → x ≠ [] ∧ x ∉ ps.take i
def G4 (fs : List Fil) : Prop := There (nmsL fs) fs.length
/-- the directories of the first j paths are there -/
def Dirs (ps : List (List Str)) (j : Nat) : Prop := ∀ (i : Nat) x, i < j → ps[i]? = some x → x.dropLast = [] ∨ x.dropLast ∈ ps
def G5 (fs : List Fil) : Prop := Dirs (nmsL fs) fs.length
/-- a path's directory is a file -/
def Flat1 (fs : List Fil) (x : List Str) : Prop := x.dropLast ≠ [] ∧ ∃ (k : Nat) (f : Fil), IsPlace (nmsL fs) x.dropLast (k : Int) ∧ fs[k]? = some f ∧ f.dir = false
def FlatTo (fs : List Fil) (j : Nat) : Prop := ∃ (i : Nat) (x : List Str), i < j ∧ (nmsL fs)[i]? = some x ∧ Flat1 fs x
def G6 (fs : List Fil) : Prop := ¬ FlatTo fs fs.length
/-- how many paths stand in the same directory -/
def cntP (ps : List (List Str)) (x : List Str) : Nat := ps.countP fun y => y.length == x.length && Vp.withinS y x.dropLast
def G7 (fs : List Fil) : Prop := ∀ x ∈ nmsL fs, cntP (nmsL fs) x ≤ 64
/-- what is wrong with a list -/
inductive ChkA (fs : List Fil) : Int → Prop
  | path {e : Int} : PErr fs e → ChkA fs e
  | arg : G1 fs → ¬ G2 fs → ChkA fs 1
  | big : G1 fs → G2 fs → ¬ G3 fs → ChkA fs 134
  | there : G1 fs → G2 fs → G3 fs → ¬ G4 fs → ChkA fs 5
  | lack : G1 fs → G2 fs → G3 fs → G4 fs → ¬ G5 fs → ChkA fs 4
  | flat : G1 fs → G2 fs → G3 fs → G4 fs → G5 fs → ¬ G6 fs → ChkA fs 70
  | many : G1 fs → G2 fs → G3 fs → G4 fs → G5 fs → G6 fs → ¬ G7 fs → ChkA fs 8
structure Good (fs : List Fil) : Prop where
  g1 : G1 fs
  g2 : G2 fs
  g3 : G3 fs
  g4 : G4 fs
  g5 : G5 fs
  g6 : G6 fs
  g7 : G7 fs
def Fil.clean (f : Fil) : Fil := ⟨B (showS f.nms), f.dir, f.data⟩
/-- the list in the order of its paths, with clean texts -/
def sortF (fs : List Fil) : List Fil := fs.foldl (fun acc f => insF acc f.clean) []
def CkPost (fs : List Fil) (w : World) (e : Ending) (w' : World) : Prop := (∃ u k, e = .returned (.tuple #[u, .int .i64 k]) ∧ ((ChkA fs k ∧ u = .slice none 0 0) ∨ (k = 0 ∧ Good fs ∧ FO w' w.heap.size u (sortF fs)))) ∧ Below w.heap.size w w'
theorem CkPost.no {fs : List Fil} {w w' : World} {e : Ending} (k : Int) (he : e = .returned (.tuple #[.slice none 0 0, .int .i64 k])) (h : ChkA fs k) (hb : Below w.heap.size w w') : CkPost fs w e w' := ⟨⟨_, k, he, .inl ⟨h, rfl⟩⟩, hb⟩
theorem dn0 (w : World) : w.drewN 0 = w := rfl
theorem Pths.take {w : World} {p : Option Addr} {n cap : Nat} {ps : List (List Str)} (h : Pths w (.slice p n cap) ps) (k : Nat) (hk : k ≤ ps.length) : Pths w (.slice p k cap) (ps.take k) := by
  obtain ⟨p', cap', b, o, h1, h2, h3, h4, h5⟩ := h
  simp only [Value.slice.injEq] at h1
  obtain ⟨rfl, rfl, rfl⟩ := h1
  refine ⟨p, cap, b, o, by rw [List.length_take, Nat.min_eq_left hk], by rw [List.length_take]; omega, h3, fun hne => h4 (by rintro rfl; simp at hne), fun i x hx => h5 i x ?_⟩
  rw [List.getElem?_take] at hx
  split at hx
  · exact hx
  · cases hx
theorem slice178_to (p : Option Addr) (L C n : Nat) (h1 : n ≤ C) (w : World) : (Instr.slice 91 (.slice p L C) none (some (.int .i64 (n : Int))) none).run Tryz.prog w = .ok (.slice p n C) w := by
  have ht : Tryz.prog.underlying 91 = some (.slice (Tryz.prog.elem 91)) := by kernel_rfl
  have he : Tryz.prog.elem 91 = 35 := by kernel_rfl
  have hsz : (sizeOf 35).run Tryz.prog w = .ok 1 w := by kernel_rfl
  rw [run_slice_h w 91 p L C ht .i64 (n : Int) (by omega) (by omega), he, hsz]
  rcases p with _ | ⟨b, o, s⟩ <;> simp [sliced, Addr.add]
theorem slice91_to (p : Option Addr) (L C n : Nat) (h1 : n ≤ C) (w : World) : (Instr.slice 35 (.slice p L C) none (some (.int .i64 (n : Int))) none).run Tryz.prog w = .ok (.slice p n C) w := by
  have ht : Tryz.prog.underlying 35 = some (.slice (Tryz.prog.elem 35)) := by kernel_rfl
  have he : Tryz.prog.elem 35 = 9 := by kernel_rfl
  have hsz : (sizeOf 9).run Tryz.prog w = .ok 1 w := by kernel_rfl
  rw [run_slice_h w 35 p L C ht .i64 (n : Int) (by omega) (by omega), he, hsz]
  rcases p with _ | ⟨b, o, s⟩ <;> simp [sliced, Addr.add]
theorem drew_plus {w a b : World} (h1 : ∃ m, a = w.drewN m) (h2 : ∃ m, b = a.drewN m) : ∃ m, b = w.drewN m := by
  obtain ⟨m1, rfl⟩ := h1
  obtain ⟨m2, rfl⟩ := h2
  exact ⟨m1 + m2, by simp [World.drewN, Nat.add_assoc]⟩
theorem drew_one {w a : World} (h1 : ∃ m, a = w.drewN m) : ∃ m, a.drew = w.drewN m := by
  obtain ⟨m1, rfl⟩ := h1
  exact ⟨m1 + 1, rfl⟩
theorem There.next {ps : List (List Str)} {j : Nat} {x : List Str} (h : There ps j) (hx : ps[j]? = some x) (h1 : x ≠ []) (h2 : x ∉ ps.take j) : There ps (j + 1) := fun i y hi hy => by
  rcases (show i < j ∨ i = j by omega) with h3 | rfl
  · exact h i y h3 hy
  · obtain rfl : x = y := Option.some.inj (hx.symm.trans hy)
    exact ⟨h1, h2⟩
theorem IsPlace.unique {ps : List (List Str)} {x : List Str} {a b : Nat} (ha : IsPlace ps x (a : Int)) (hb : IsPlace ps x (b : Int)) : a = b := by
  rcases ha with ⟨h, _⟩ | ⟨i, h1, h2, h3⟩
  · omega
  rcases hb with ⟨h, _⟩ | ⟨k, h4, h5, h6⟩
  · omega
  rcases Nat.lt_trichotomy i k with h | h | h
  · exact absurd h2 (h6 i h)
  · omega
  · exact absurd h5 (h3 k h)
theorem FlatTo.next {fs : List Fil} {j : Nat} {x : List Str} (hx : (nmsL fs)[j]? = some x) : FlatTo fs (j + 1) ↔ FlatTo fs j ∨ Flat1 fs x := by
  constructor
  · rintro ⟨i, y, h1, h2, h3⟩
    rcases (show i < j ∨ i = j by omega) with h | rfl
    · exact .inl ⟨i, y, h, h2, h3⟩
    · obtain rfl : x = y := Option.some.inj (hx.symm.trans h2)
      exact .inr h3
  · rintro (⟨i, y, h1, h2, h3⟩ | h)
    · exact ⟨i, y, by omega, h2, h3⟩
    · exact ⟨j, x, by omega, hx, h⟩
theorem Dirs.next {ps : List (List Str)} {j : Nat} {x : List Str} (h : Dirs ps j) (hx : ps[j]? = some x) (h1 : x.dropLast = [] ∨ x.dropLast ∈ ps) : Dirs ps (j + 1) := fun i y hi hy => by
  rcases (show i < j ∨ i = j by omega) with h3 | rfl
  · exact h i y h3 hy
  · obtain rfl : x = y := Option.some.inj (hx.symm.trans hy)
    exact h1
theorem val_front {w : World} {p : Option Addr} {c : Nat} {x : List Str} (h : Val w (.slice p x.length c) x) : Val w (.slice p (x.length - 1) c) x.dropLast ∧ x.length ≤ c ∧ c ≤ 9223372036854775807 := by
  obtain ⟨p', c', h1, h2⟩ := h
  simp only [Value.slice.injEq] at h1
  obtain ⟨rfl, _, rfl⟩ := h1
  refine ⟨⟨p, c, by rw [List.length_dropLast], ?_⟩, h2.le, h2.big⟩
  rw [List.dropLast_eq_take]
  exact h2.take _ (by omega)
theorem cnt_next {ps : List (List Str)} {x y : List Str} {k : Nat} (hy : ps[k]? = some y) : cntP (ps.take (k + 1)) x = cntP (ps.take k) x + (if (y.length == x.length && Vp.withinS y x.dropLast) = true then 1 else 0) := by
  unfold cntP
  rw [List.take_add_one, hy]
  simp [List.countP_append, List.countP_cons]
def CntTo (ps : List (List Str)) (j : Nat) : Prop := ∀ (i : Nat) x, i < j → ps[i]? = some x → cntP ps x ≤ 64
theorem CntTo.next {ps : List (List Str)} {j : Nat} {x : List Str} (h : CntTo ps j) (hx : ps[j]? = some x) (h1 : cntP ps x ≤ 64) : CntTo ps (j + 1) := fun i y hi hy => by
  rcases (show i < j ∨ i = j by omega) with h3 | rfl
  · exact h i y h3 hy
  · obtain rfl : x = y := Option.some.inj (hx.symm.trans hy)
    exact h1
theorem insF_mem {fs : List Fil} {f g : Fil} (h : g ∈ insF fs f) : g = f ∨ g ∈ fs := by
  induction fs with
  | nil => simpa [insF] using h
  | cons x r ih =>
    unfold insF at h
    split at h
    · rcases List.mem_cons.1 h with rfl | h
      · exact .inr (by simp)
      · rcases ih h with h | h
        · exact .inl h
        · exact .inr (by simp [h])
    · rcases List.mem_cons.1 h with rfl | h
      · exact .inl rfl
      · exact .inr h
theorem insF_length (fs : List Fil) (f : Fil) : (insF fs f).length = fs.length + 1 := by
  induction fs with
  | nil => rfl
  | cons x r ih =>
    unfold insF
    split
    · simp [ih]
    · simp
theorem sortF_take {fs : List Fil} {j : Nat} {f : Fil} (h : fs[j]? = some f) : sortF (fs.take (j + 1)) = insF (sortF (fs.take j)) f.clean := by
  unfold sortF
  rw [List.take_add_one, h]
  simp
theorem clean_size (f : Fil) : f.clean.path.size ≤ 1000 := by
  show (B (showS f.nms)).size ≤ 1000
  rw [Vp.B_size]
  have h1 := Vp.parse_sum (bl f.path)
  have h2 := Vp.join_le f.nms
  show (47 :: Lib.join f.nms [47]).length ≤ 1000
  have e : f.nms = (parseS (bl f.path)).1 := rfl
  rw [← e] at h1
  simp only [List.length_cons]
  omega
theorem sortF_ok (fs : List Fil) : (sortF fs).length = fs.length ∧ ∀ g ∈ sortF fs, g.path.size ≤ 1000 := by
  have key : ∀ (rs acc : List Fil), (∀ g ∈ acc, g.path.size ≤ 1000) → (rs.foldl (fun acc f => insF acc f.clean) acc).length = rs.length + acc.length ∧ ∀ g ∈ rs.foldl (fun acc f => insF acc f.clean) acc, g.path.size ≤ 1000 := by
    intro rs
    induction rs with
    | nil => intro acc h; exact ⟨by simp, h⟩
    | cons r rs ih =>
      intro acc h
      have h2 := ih (insF acc r.clean) (fun g hg => by rcases insF_mem hg with rfl | hg; exact clean_size r; exact h g hg)
      rw [List.foldl_cons]
      refine ⟨?_, h2.2⟩
      rw [h2.1, insF_length, List.length_cons]
      omega
  have h := key fs [] (fun g hg => by cases hg)
  exact ⟨by unfold sortF; simpa using h.1, h.2⟩
set_option maxHeartbeats 8000000 in
set_option maxRecDepth 100000 in
theorem checked_any (w : World) (v : Value) (fs : List Fil) (hv : Fls w v fs) (hn : fs.length ≤ 1000) (hs : ∀ f ∈ fs, f.path.size ≤ 9223372036854775807 ∧ f.data.size ≤ 9223372036854775807) :
    Calls Tryz.prog 28 #[v] w fun e w' => CkPost fs w e w' := by
  have HS := hid_in hs
  obtain ⟨pf, cf, bf, of, rfl, hc1, hc2, hcell⟩ := hv.cells3
  have HC := hid_in hcell
  clear hv hs hcell
  go_enter Tryz.func28, Tryz.ntmps28
  go_wp2_with fail
  go_loopw [4, 5] (fun vp vk W => ∃ j : Nat, vk = .int .i64 (j : Int) ∧ j ≤ fs.length ∧ AllTo (fun f => f.err = 0) fs j ∧ PO W w.heap.size vp (nmsL (fs.take j)) ∧ Below w.heap.size w W) (fun _ vk _ => fs.length - (intOf vk).toNat)
  case atStart => exact ⟨0, rfl, by omega, fun i f h => by omega, by simpa [nmsL] using PO.nil w _, Below.refl _ _⟩
  case round =>
    obtain ⟨j, rfl, hj, hjs, hpo, hbj⟩ := hrel
    have HJ := hid_in hjs
    have HPO := hid_in hpo
    have HBJ := hid_in hbj
    clear hjs hpo hbj
    by_cases hl : j < fs.length
    · have k1 : (j : Int) < (fs.length : Int) := by omega
      obtain ⟨f, hf⟩ : ∃ f, fs[j]? = some f := ⟨_, List.getElem?_eq_getElem hl⟩
      obtain ⟨rfl, hcf⟩ := HC.out j f hf
      obtain ⟨x0, _, _⟩ := hcf _ HBJ.out
      have HF := hid_in hf
      have HP := hid_in (rparse_n f.path (HS.out f (List.mem_of_getElem? hf)).1 wr)
      have HTK := hid_in (nmsL_take hf)
      clear hf hcf
      obtain ⟨e0, He0⟩ : ∃ e0, Hid (errOf f.path = e0) := ⟨_, rfl⟩
      rw [He0.out] at HP
      by_cases he : e0 = 0
      · subst he
        have HL1 : Hid ((nmsL (fs.take j)).length + 1 ≤ 1000000) := by show _ ≤ _; unfold nmsL; rw [List.length_map, List.length_take]; omega
        have hlen1 : (nmsL (fs.take j)).length = j := by unfold nmsL; rw [List.length_map, List.length_take]; omega
        go_wp2_with (first | (go_at_call 46; refine HP.out.mono ?_; rintro e w1 ⟨u1, rfl, hn1, hb1⟩; have HU := hid_in (Nm.of hn1); have HB1 := hid_in (HBJ.out.trans (hb1.mono HBJ.out.size)); have HPO1 := hid_in (HPO.out.below hb1); obtain ⟨pu, cu, hfu⟩ := HU.out.form; subst hfu; have HSZ1 : Hid (w.heap.size ≤ w1.heap.size) := HB1.out.size; clear hn1 hb1 x0) | (at_builtin; refine wpList_app178 w.heap.size rfl (.tmp 39) (.tmp 41) rfl _ (nmsL (fs.take j)) rfl HPO1.out _ f.nms HU.out rfl HL1.out HSZ1.out ?_; intro v2 w2 ho2 hg2; have HPO2 := hid_in ho2; have HB2 : Hid (Below w.heap.size w w2) := ((HB1.out.alloc HSZ1.out _).grown hg2 (Nat.le_trans HSZ1.out (by simp)) (fun k e => (HPO1.out.own k e).1)); clear ho2 hg2))
        refine ⟨⟨j + 1, by go_num, by omega, HJ.out.next HF.out He0.out, ?_, HB2.out⟩, by simp [intOf]; omega⟩
        rw [HTK.out]
        exact HPO2.out
      · have k2 : (e0 == 0) = false := beq_eq_false_iff_ne.2 he
        have k3 : (e0 != 0) = true := bne_iff_ne.2 he
        have HPE : Hid (PErr fs e0) := ⟨j, f, HF.out, He0.out, he, HJ.out⟩
        clear he
        go_wp2_with (first | (go_at_call 46; refine HP.out.mono ?_; rintro e w1 ⟨u1, rfl, hn1, hb1⟩; have HB1 := hid_in (HBJ.out.trans (hb1.mono HBJ.out.size)); clear hn1 hb1 x0))
        go_ret2
        exact CkPost.no _ rfl (.path HPE.out) HB1.out
    · obtain rfl : j = fs.length := by omega
      have k1 : ¬ ((fs.length : Int) < (fs.length : Int)) := by omega
      rw [List.take_of_length_le (Nat.le_refl _)] at HPO
      have HG1 : Hid (G1 fs) := HJ.out
      generalize hW1 : wr = W1 at *
      clear hW1 HJ
      have HB1 : Hid (Below w.heap.size w W1) := HBJ.out
      have hpt := HPO.out.pths
      have hlenP : (nmsL fs).length = fs.length := by simp [nmsL]
      obtain ⟨pp, cp, bp, op, hpv, hp1, hp2, hp3, hp4⟩ := hpt
      rw [hlenP] at hpv hp1
      subst hpv
      have HPV : Hid (∀ m, Pths (W1.drewN m) (.slice pp fs.length cp) (nmsL fs)) := fun m => HPO.out.pths.drewN m
      have HPT : Hid (∀ (i : Nat) x, (nmsL fs)[i]? = some x → pp = some ⟨bp, op, none⟩ ∧ ∃ pu cu, ∀ m, (W1.drewN m).cell? ⟨bp, op + i, none⟩ = some (.slice pu x.length cu) ∧ Val (W1.drewN m) (.slice pu x.length cu) x) := fun i x hx => by
        obtain ⟨u, h4, h5⟩ := hp4 i x hx
        obtain ⟨pu, cu, h6, h7⟩ := h5
        have hne : nmsL fs ≠ [] := by rintro h; rw [h] at hx; simp at hx
        refine ⟨(hp3 hne).1, pu, cu, fun m => ⟨by rw [← h6]; simpa [World.cell?] using h4, ?_⟩⟩
        exact (Vp.Rd.val h7).drew ⟨m, rfl⟩
      have HCF : Hid (∀ (i : Nat) f, fs[i]? = some f → pf = some ⟨bf, of, none⟩ ∧ ∀ m, (W1.drewN m).cell? ⟨bf, of + i * 3, none⟩ = some (.string f.path) ∧ (W1.drewN m).cell? ⟨bf, of + i * 3 + 1, none⟩ = some (.bool f.dir) ∧ (W1.drewN m).cell? ⟨bf, of + i * 3 + 2, none⟩ = some (.string f.data)) := fun i f hf => ⟨(HC.out i f hf).1, fun m => (HC.out i f hf).2 _ (below_drewN HB1.out m)⟩
      clear hp3 hp4 HPO HBJ HC hlenP
      go_wp2_with fail
      go_loopw [8] (fun vk W => ∃ j : Nat, vk = .int .i64 (j : Int) ∧ j ≤ fs.length ∧ AllTo (fun f => ¬ (f.dir = true ∧ f.data ≠ ⟨#[]⟩)) fs j ∧ W = W1) (fun vk _ => fs.length - (intOf vk).toNat)
      case atStart => exact ⟨0, rfl, by omega, fun i f h => by omega, rfl⟩
      case round =>
        obtain ⟨j, rfl, hj, hjs, hWW⟩ := hrel
        replace hWW := hWW.symm
        subst hWW
        have HJ := hid_in hjs
        clear hjs
        by_cases hl : j < fs.length
        · have k2 : (j : Int) < (fs.length : Int) := by omega
          obtain ⟨f, hf⟩ : ∃ f, fs[j]? = some f := ⟨_, List.getElem?_eq_getElem hl⟩
          obtain ⟨rfl, hcf⟩ := HCF.out j f hf
          obtain ⟨x0, x1, x2⟩ := hcf 0
          rw [dn0] at x0 x1 x2
          have HF := hid_in hf
          have hz := (HS.out f (List.mem_of_getElem? hf)).2
          clear hf hcf
          by_cases hb : f.dir = true ∧ f.data ≠ ⟨#[]⟩
          · have HBAD : Hid (¬ G2 fs) := fun h => h j f hl HF.out hb
            obtain ⟨hb1, hb2⟩ := hb
            rw [hb1] at x1
            have n_d : f.data.toList.isEmpty = false := by
              rw [List.isEmpty_eq_false_iff]; exact fun e => hb2 (toL_inj (b := ⟨#[]⟩) (e.trans (by rw [Lib.toList_data])))
            clear hb1 hb2
            go_wp2_with fail
            go_ret2
            exact CkPost.no _ rfl (.arg HG1.out HBAD.out) HB1.out
          · have HOK := hid_in hb
            by_cases hd : f.dir = true
            · have hdd : f.data = ⟨#[]⟩ := Decidable.byContradiction fun h => hb ⟨hd, h⟩
              rw [hd] at x1
              rw [hdd] at x2
              clear hd hdd hb
              go_wp2_with fail
              exact ⟨⟨j + 1, by go_num, by omega, HJ.out.next HF.out HOK.out, by first | trivial | rfl⟩, by simp [intOf]; omega⟩
            · have hd2 : f.dir = false := by simpa using hd
              rw [hd2] at x1
              clear hd hd2 hb
              go_wp2_with fail
              exact ⟨⟨j + 1, by go_num, by omega, HJ.out.next HF.out HOK.out, by first | trivial | rfl⟩, by simp [intOf]; omega⟩
        · obtain rfl : j = fs.length := by omega
          have k2 : ¬ ((fs.length : Int) < (fs.length : Int)) := by omega
          have HG2 : Hid (G2 fs) := HJ.out
          clear HJ
          go_wp2_with fail
          go_loopw [9] (fun vk W => ∃ j : Nat, vk = .int .i64 (j : Int) ∧ j ≤ fs.length ∧ AllTo (fun f => f.data.size ≤ 1024) fs j ∧ W = W1) (fun vk _ => fs.length - (intOf vk).toNat)
          case atStart => exact ⟨0, rfl, by omega, fun i f h => by omega, rfl⟩
          case round =>
            obtain ⟨j, rfl, hj, hjs, hWW⟩ := hrel
            replace hWW := hWW.symm
            subst hWW
            have HJ := hid_in hjs
            clear hjs
            by_cases hl : j < fs.length
            · have k2 : (j : Int) < (fs.length : Int) := by omega
              obtain ⟨f, hf⟩ : ∃ f, fs[j]? = some f := ⟨_, List.getElem?_eq_getElem hl⟩
              obtain ⟨rfl, hcf⟩ := HCF.out j f hf
              obtain ⟨x0, x1, x2⟩ := hcf 0
              rw [dn0] at x0 x1 x2
              have HF := hid_in hf
              have hz := (HS.out f (List.mem_of_getElem? hf)).2
              clear hf hcf
              by_cases hb : 1024 < f.data.size
              · have HBAD : Hid (¬ G3 fs) := fun h => by have := h j f hl HF.out; omega
                have k3 : (1024 : Int) < (f.data.size : Int) := by omega
                clear hb
                go_wp2_with fail
                go_ret2
                exact CkPost.no _ rfl (.big HG1.out HG2.out HBAD.out) HB1.out
              · have HOK : Hid (f.data.size ≤ 1024) := by show _ ≤ _; omega
                have k3 : ¬ ((1024 : Int) < (f.data.size : Int)) := by omega
                clear hb
                go_wp2_with fail
                exact ⟨⟨j + 1, by go_num, by omega, HJ.out.next HF.out HOK.out, by first | trivial | rfl⟩, by simp [intOf]; omega⟩
            · obtain rfl : j = fs.length := by omega
              have k2 : ¬ ((fs.length : Int) < (fs.length : Int)) := by omega
              have HG3 : Hid (G3 fs) := HJ.out
              clear HJ
              go_wp2_with fail
              go_loopw [10] (fun vk W => ∃ j : Nat, vk = .int .i64 (j : Int) ∧ j ≤ fs.length ∧ There (nmsL fs) j ∧ ∃ m, W = W1.drewN m) (fun vk _ => fs.length - (intOf vk).toNat)
              case atStart => exact ⟨0, rfl, by omega, fun i x h => by omega, 0, rfl⟩
              case round =>
                obtain ⟨j, rfl, hj, hjs, hWW⟩ := hrel
                have HJ := hid_in hjs
                have HM := hid_in hWW
                clear hjs
                by_cases hl : j < fs.length
                · have k2 : (j : Int) < (fs.length : Int) := by omega
                  obtain ⟨f, hf⟩ : ∃ f, fs[j]? = some f := ⟨_, List.getElem?_eq_getElem hl⟩
                  obtain ⟨x, Hx⟩ : ∃ x, Hid (f.nms = x) := ⟨_, rfl⟩
                  have HX : Hid ((nmsL fs)[j]? = some x) := by show _ = _; rw [← Hx.out]; exact nmsL_at hf
                  obtain ⟨rfl, pu, cu, hpc⟩ := HPT.out j x HX.out
                  obtain ⟨m0, hm0⟩ := hWW
                  have y0 : wr.cell? ⟨bp, op + j, none⟩ = some (.slice pu x.length cu) := by rw [hm0]; exact (hpc m0).1
                  have HK : Hid (∀ W, (∃ m, W = W1.drewN m) → W.cell? ⟨bp, op + j, none⟩ = some (.slice pu x.length cu)) := fun W hW => by obtain ⟨m, rfl⟩ := hW; exact (hpc m).1
                  have HBW : Hid (Below w.heap.size w wr) := by show Below _ _ _; rw [hm0]; exact below_drewN HB1.out m0
                  have HVX : Hid (∀ W, (∃ m, W = W1.drewN m) → Val W (.slice pu x.length cu) x) := fun W hW => by obtain ⟨m, rfl⟩ := hW; exact (hpc m).2
                  clear hf hpc hm0
                  by_cases hx0 : x = []
                  · have HBAD : Hid (¬ G4 fs) := fun h => (h j x hl HX.out).1 hx0
                    subst hx0
                    go_wp2_with fail
                    go_quiet (fail)
                    go_wp2_with fail
                    go_ret2
                    exact CkPost.no _ rfl (.there HG1.out HG2.out HG3.out HBAD.out) (below_drewN HBW.out _)
                  · have HX0 := hid_in hx0
                    have k4 : ((x.length : Int) == 0) = false := by
                      rw [beq_eq_false_iff_ne]
                      have := List.length_pos_iff.2 hx0
                      omega
                    have hs4 := slice178_to (some ⟨bp, op, none⟩) fs.length cp j (by omega)
                    have HPL := hid_in (place_any wr.drew (.slice (some ⟨bp, op, none⟩) j cp) (.slice pu x.length cu) ((nmsL fs).take j) x (by obtain ⟨m, hm⟩ := drew_one HM.out; rw [hm]; exact (HPV.out m).take j (by simp [nmsL]; omega)) (HVX.out _ (drew_one HM.out)))
                    clear hx0
                    by_cases hin : x ∈ (nmsL fs).take j
                    · have HBAD : Hid (¬ G4 fs) := fun h => (h j x hl HX.out).2 hin
                      have HIN := hid_in hin
                      clear hin
                      go_wp2_with fail
                      go_region_held3 (fun W => W.cell? ⟨bp, op + j, none⟩ = some (.slice pu x.length cu)) (first | (exact HK.out _ HM.out) | (exact HK.out _ HM6.out) | (exact HK.out _ (drew_one HM.out))) (first | (go_at_call 57; refine HPL.out.mono ?_; rintro e w6 ⟨⟨kk, rfl, hkk⟩, hd6⟩; have HM6 := hid_in (drew_plus (drew_one HM.out) hd6); have k5 : 0 ≤ kk := (by rcases hkk with ⟨_, h⟩ | ⟨i, h, _⟩; exact absurd HIN.out h; omega); have HB6 : Hid (Below w.heap.size w w6) := (by obtain ⟨m, hm⟩ := HM6.out; show Below _ _ _; rw [hm]; exact below_drewN HB1.out m); clear hkk hd6))
                      all_goals
                        go_wp2_with fail
                        go_ret2
                        exact CkPost.no _ rfl (.there HG1.out HG2.out HG3.out HBAD.out) HB6.out
                    · have HIN := hid_in hin
                      clear hin
                      go_wp2_with fail
                      go_region_held3 (fun W => W.cell? ⟨bp, op + j, none⟩ = some (.slice pu x.length cu)) (first | (exact HK.out _ HM.out) | (exact HK.out _ HM6.out) | (exact HK.out _ (drew_one HM.out))) (first | (go_at_call 57; refine HPL.out.mono ?_; rintro e w6 ⟨⟨kk, rfl, hkk⟩, hd6⟩; have HM6 := hid_in (drew_plus (drew_one HM.out) hd6); obtain rfl : kk = -1 := (by rcases hkk with ⟨h, _⟩ | ⟨i, _, h, _⟩; exact h; exact absurd (List.mem_of_getElem? h) HIN.out); clear hkk hd6))
                      all_goals
                        go_wp2_with fail
                        exact ⟨⟨j + 1, by go_num, by omega, HJ.out.next HX.out HX0.out HIN.out, HM6.out⟩, by simp [intOf]; omega⟩
                · obtain rfl : j = fs.length := by omega
                  have k2 : ¬ ((fs.length : Int) < (fs.length : Int)) := by omega
                  have HG4 : Hid (G4 fs) := HJ.out
                  clear HJ hWW

                  go_wp2_with fail
                  go_loopw [11, 12] (fun vf vk W => ∃ (j : Nat) (bfl : Bool), vk = .int .i64 (j : Int) ∧ vf = .bool bfl ∧ j ≤ fs.length ∧ Dirs (nmsL fs) j ∧ (bfl = true ↔ FlatTo fs j) ∧ ∃ m, W = W1.drewN m) (fun _ vk _ => fs.length - (intOf vk).toNat)
                  case atStart => exact ⟨0, false, rfl, rfl, by omega, fun i x h => by omega, ⟨fun h => (by cases h), fun ⟨i, _, h, _⟩ => by omega⟩, HM.out⟩
                  case round =>
                    obtain ⟨j, bfl, rfl, rfl, hj, hjs, hfl, hWW⟩ := hrel
                    have HJ := hid_in hjs
                    have HM := hid_in hWW
                    have HFL := hid_in hfl
                    clear hjs hfl
                    by_cases hl : j < fs.length
                    · have k2 : (j : Int) < (fs.length : Int) := by omega
                      obtain ⟨f, hf⟩ : ∃ f, fs[j]? = some f := ⟨_, List.getElem?_eq_getElem hl⟩
                      obtain ⟨x, Hx⟩ : ∃ x, Hid (f.nms = x) := ⟨_, rfl⟩
                      have HX : Hid ((nmsL fs)[j]? = some x) := by show _ = _; rw [← Hx.out]; exact nmsL_at hf
                      obtain ⟨rfl, pu, cu, hpc⟩ := HPT.out j x HX.out
                      obtain ⟨m0, hm0⟩ := hWW
                      have y0 : wr.cell? ⟨bp, op + j, none⟩ = some (.slice pu x.length cu) := by rw [hm0]; exact (hpc m0).1
                      have HK : Hid (∀ W, (∃ m, W = W1.drewN m) → W.cell? ⟨bp, op + j, none⟩ = some (.slice pu x.length cu)) := fun W hW => by obtain ⟨m, rfl⟩ := hW; exact (hpc m).1
                      have HBW : Hid (Below w.heap.size w wr) := by show Below _ _ _; rw [hm0]; exact below_drewN HB1.out m0
                      have HVX : Hid (∀ W, (∃ m, W = W1.drewN m) → Val W (.slice pu x.length cu) x) := fun W hW => by obtain ⟨m, rfl⟩ := hW; exact (hpc m).2
                      clear hf hpc hm0
                      have hx0 := (HG4.out j x hl HX.out).1
                      have hlx := List.length_pos_iff.2 hx0
                      have hvf := val_front (HVX.out _ HM.out)
                      have HVD : Hid (∀ W, (∃ m, W = W1.drewN m) → Val W (.slice pu (x.length - 1) cu) x.dropLast) := fun W hW => (val_front (HVX.out W hW)).1
                      have k5 : (1 : Int) ≤ (x.length : Int) := by omega
                      have k6 : (x.length : Int) ≤ 9223372036854775807 := by omega
                      have hs5 : ∀ W, (Instr.slice 35 (.slice pu x.length cu) none (some (.int .i64 ((x.length : Int) - 1))) none).run Tryz.prog W = .ok (.slice pu (x.length - 1) cu) W := fun W => by
                        have h := slice91_to pu x.length cu (x.length - 1) (by omega) W
                        rwa [show ((x.length - 1 : Nat) : Int) = (x.length : Int) - 1 by omega] at h
                      have HPL : Hid (∀ W, (∃ m, W = W1.drewN m) → Calls Tryz.prog 57 #[.slice (some ⟨bp, op, none⟩) fs.length cp, .slice pu (x.length - 1) cu] W fun e w' => (∃ k, e = .returned (.int .i64 k) ∧ IsPlace (nmsL fs) x.dropLast k) ∧ ∃ m, w' = W.drewN m) := fun W hW => place_any W _ _ _ _ (by obtain ⟨m, hm⟩ := hW; rw [hm]; exact HPV.out m) (HVD.out W hW)
                      have HLD : Hid (x.dropLast.length = x.length - 1) := List.length_dropLast
                      clear hvf hx0 hlx
                      by_cases hd : x.dropLast = []
                      · have HD := hid_in hd
                        have e0 : x.length - 1 = 0 := by have := HLD.out; rw [hd] at this; simpa using this.symm
                        rw [e0] at hs5 HPL
                        have HNF : Hid (¬ Flat1 fs x) := fun h => h.1 HD.out
                        clear hd e0
                        go_wp2_with fail
                        go_quiet (fail)
                        go_upto_region 30 with (first | (go_at_call 57; refine (HPL.out _ (drew_plus HM.out ⟨_, rfl⟩)).mono ?_; rintro e w6 ⟨⟨kk, rfl, hkk⟩, hd6⟩; have HKK := hid_in hkk; have HM6 := hid_in (drew_plus (drew_plus HM.out ⟨_, rfl⟩) hd6); clear hkk hd6))
                        cases bfl
                        all_goals
                          go_wp2_with fail
                          refine ⟨⟨j + 1, _, by go_num, rfl, by omega, HJ.out.next HX.out (.inl HD.out), ?_, HM6.out⟩, by simp [intOf]; omega⟩
                          rw [FlatTo.next HX.out]
                          simp only [HNF.out, or_false]
                          first | exact HFL.out | simpa using HFL.out
                      · have HD := hid_in hd
                        have k7 : (0 : Int) < ((x.length - 1 : Nat) : Int) := by
                          have h1 := List.length_pos_iff.2 hd
                          have := HLD.out
                          omega
                        clear hd
                        by_cases hin : x.dropLast ∈ nmsL fs
                        · have HIN := hid_in hin
                          clear hin
                          generalize hld : x.length - 1 = ld at *
                          clear hld
                          go_wp2_with fail
                          go_quiet (fail)
                          go_upto_region 30 with (first | (go_at_call 57; refine (HPL.out _ (drew_plus HM.out ⟨_, rfl⟩)).mono ?_; rintro e w6 ⟨⟨kk, rfl, hkk⟩, hd6⟩; have HKK := hid_in hkk; have HM6 := hid_in (drew_plus (drew_plus HM.out ⟨_, rfl⟩) hd6); clear hkk hd6))
                          obtain ⟨i, rfl, hi, hfirst⟩ : ∃ i : Nat, kk = (i : Int) ∧ (nmsL fs)[i]? = some x.dropLast ∧ ∀ jj : Nat, jj < i → (nmsL fs)[jj]? ≠ some x.dropLast := by
                            rcases HKK.out with ⟨_, h⟩ | h
                            · exact absurd HIN.out h
                            · exact h
                          obtain ⟨g, hg⟩ : ∃ g, fs[i]? = some g := by
                            have hlt : i < fs.length := by have := (List.getElem?_eq_some_iff.1 hi).1; simpa [nmsL] using this
                            exact ⟨_, List.getElem?_eq_getElem hlt⟩
                          have hil : i < fs.length := (List.getElem?_eq_some_iff.1 hg).1
                          have k8 : (i : Int) < (fs.length : Int) := by omega
                          obtain ⟨rfl, hcf⟩ := HCF.out i g hg
                          obtain ⟨m6, hm6⟩ := HM6.out
                          have x1 : w6.cell? ⟨bf, of + i * 3 + 1, none⟩ = some (.bool g.dir) := by rw [hm6]; exact (hcf m6).2.1
                          have HGF := hid_in hg
                          have HPI : Hid (IsPlace (nmsL fs) x.dropLast (i : Int)) := .inr ⟨i, rfl, hi, hfirst⟩
                          clear hcf hm6 hg hi hfirst HKK
                          by_cases hgd : g.dir = true
                          · have HNF : Hid (¬ Flat1 fs x) := fun h => by
                              obtain ⟨_, k', f', h1, h2, h3⟩ := h
                              obtain rfl := h1.unique HPI.out
                              obtain rfl : g = f' := Option.some.inj (HGF.out.symm.trans h2)
                              rw [hgd] at h3
                              cases h3
                            rw [hgd] at x1
                            clear hgd
                            cases bfl
                            all_goals
                              go_wp2_with fail
                              refine ⟨⟨j + 1, _, by go_num, rfl, by omega, HJ.out.next HX.out (.inr HIN.out), ?_, HM6.out⟩, by simp [intOf]; omega⟩
                              rw [FlatTo.next HX.out]
                              simp only [HNF.out, or_false]
                              first | exact HFL.out | simpa using HFL.out
                          · have hgf : g.dir = false := by simpa using hgd
                            have HYF : Hid (Flat1 fs x) := ⟨HD.out, i, g, HPI.out, HGF.out, hgf⟩
                            rw [hgf] at x1
                            clear hgd hgf
                            cases bfl
                            all_goals
                              go_wp2_with fail
                              refine ⟨⟨j + 1, _, by go_num, rfl, by omega, HJ.out.next HX.out (.inr HIN.out), ?_, HM6.out⟩, by simp [intOf]; omega⟩
                              rw [FlatTo.next HX.out]
                              simp [HYF.out]
                        · have HBAD : Hid (¬ G5 fs) := fun h => by
                            rcases h j x hl HX.out with h1 | h1
                            · exact HD.out h1
                            · exact hin h1
                          have HIN := hid_in hin
                          clear hin
                          generalize hld : x.length - 1 = ld at *
                          clear hld
                          go_wp2_with fail
                          go_quiet (fail)
                          go_upto_region 30 with (first | (go_at_call 57; refine (HPL.out _ (drew_plus HM.out ⟨_, rfl⟩)).mono ?_; rintro e w6 ⟨⟨kk, rfl, hkk⟩, hd6⟩; have HKK := hid_in hkk; have HM6 := hid_in (drew_plus (drew_plus HM.out ⟨_, rfl⟩) hd6); clear hkk hd6))
                          obtain rfl : kk = -1 := by
                            rcases HKK.out with ⟨h, _⟩ | ⟨i, _, h, _⟩
                            · exact h
                            · exact absurd (List.mem_of_getElem? h) HIN.out
                          have HB6 : Hid (Below w.heap.size w w6) := by obtain ⟨m, hm⟩ := HM6.out; show Below _ _ _; rw [hm]; exact below_drewN HB1.out m
                          go_wp2_with fail
                          go_ret2
                          exact CkPost.no _ rfl (.lack HG1.out HG2.out HG3.out HG4.out HBAD.out) HB6.out
                    · obtain rfl : j = fs.length := by omega
                      have k2 : ¬ ((fs.length : Int) < (fs.length : Int)) := by omega
                      have HG5 : Hid (G5 fs) := HJ.out
                      clear HJ
                      cases bfl
                      · have HG6 : Hid (G6 fs) := fun h => by have := HFL.out.2 h; cases this
                        clear HFL hWW
                        go_wp2_with fail
                        go_loopw [15] (fun vk W => ∃ j : Nat, vk = .int .i64 (j : Int) ∧ j ≤ fs.length ∧ CntTo (nmsL fs) j ∧ ∃ m, W = W1.drewN m) (fun vk _ => fs.length - (intOf vk).toNat)
                        case atStart => exact ⟨0, rfl, by omega, fun i x h => by omega, HM.out⟩
                        case round =>
                          obtain ⟨j, rfl, hj, hjs, hWW⟩ := hrel
                          have HJ := hid_in hjs
                          have HM := hid_in hWW
                          clear hjs
                          by_cases hl : j < fs.length
                          · have k2 : (j : Int) < (fs.length : Int) := by omega
                            obtain ⟨f, hf⟩ : ∃ f, fs[j]? = some f := ⟨_, List.getElem?_eq_getElem hl⟩
                            obtain ⟨x, Hx⟩ : ∃ x, Hid (f.nms = x) := ⟨_, rfl⟩
                            have HX : Hid ((nmsL fs)[j]? = some x) := by show _ = _; rw [← Hx.out]; exact nmsL_at hf
                            obtain ⟨rfl, pu, cu, hpc⟩ := HPT.out j x HX.out
                            obtain ⟨m0, hm0⟩ := hWW
                            have y0 : wr.cell? ⟨bp, op + j, none⟩ = some (.slice pu x.length cu) := by rw [hm0]; exact (hpc m0).1
                            have HK : Hid (∀ W, (∃ m, W = W1.drewN m) → W.cell? ⟨bp, op + j, none⟩ = some (.slice pu x.length cu)) := fun W hW => by obtain ⟨m, rfl⟩ := hW; exact (hpc m).1
                            have HBW : Hid (Below w.heap.size w wr) := by show Below _ _ _; rw [hm0]; exact below_drewN HB1.out m0
                            have HVX : Hid (∀ W, (∃ m, W = W1.drewN m) → Val W (.slice pu x.length cu) x) := fun W hW => by obtain ⟨m, rfl⟩ := hW; exact (hpc m).2
                            clear hf hpc hm0
                            have hx0 := (HG4.out j x hl HX.out).1
                            have hlx := List.length_pos_iff.2 hx0
                            have hvf := val_front (HVX.out _ HM.out)
                            have HVD : Hid (∀ W, (∃ m, W = W1.drewN m) → Val W (.slice pu (x.length - 1) cu) x.dropLast) := fun W hW => (val_front (HVX.out W hW)).1
                            have k5 : (1 : Int) ≤ (x.length : Int) := by omega
                            have k6 : (x.length : Int) ≤ 9223372036854775807 := by omega
                            have hs5 : ∀ W, (Instr.slice 35 (.slice pu x.length cu) none (some (.int .i64 ((x.length : Int) - 1))) none).run Tryz.prog W = .ok (.slice pu (x.length - 1) cu) W := fun W => by
                              have h := slice91_to pu x.length cu (x.length - 1) (by omega) W
                              rwa [show ((x.length - 1 : Nat) : Int) = (x.length : Int) - 1 by omega] at h
                            clear hvf hx0 hlx
                            go_wp2_with fail
                            go_loopw [16, 17] (fun vn vk W => ∃ (k : Nat), vk = .int .i64 (k : Int) ∧ vn = .int .i64 (cntP ((nmsL fs).take k) x : Int) ∧ k ≤ fs.length ∧ ∃ m, W = W1.drewN m) (fun _ vk _ => fs.length - (intOf vk).toNat)
                            case atStart => exact ⟨0, rfl, rfl, by omega, HM.out⟩
                            case round =>
                              obtain ⟨k, rfl, rfl, hk, hWK⟩ := hrel
                              have HMK := hid_in hWK
                              have hcb : cntP ((nmsL fs).take k) x ≤ 1000 := by
                                have h1 : cntP ((nmsL fs).take k) x ≤ ((nmsL fs).take k).length := List.countP_le_length
                                rw [List.length_take] at h1
                                omega
                              by_cases hlk : k < fs.length
                              · have k9 : (k : Int) < (fs.length : Int) := by omega
                                obtain ⟨f2, hf2⟩ : ∃ f, fs[k]? = some f := ⟨_, List.getElem?_eq_getElem hlk⟩
                                obtain ⟨y, Hy⟩ : ∃ y, Hid (f2.nms = y) := ⟨_, rfl⟩
                                have HY : Hid ((nmsL fs)[k]? = some y) := by show _ = _; rw [← Hy.out]; exact nmsL_at hf2
                                obtain ⟨_, py, cy, hpy⟩ := HPT.out k y HY.out
                                have HCN := hid_in (cnt_next (x := x) HY.out)
                                obtain ⟨mk, hmk⟩ := hWK
                                have z0 : wr.cell? ⟨bp, op + k, none⟩ = some (.slice py y.length cy) := by rw [hmk]; exact (hpy mk).1
                                have z1 : wr.cell? ⟨bp, op + j, none⟩ = some (.slice pu x.length cu) := HK.out _ HMK.out
                                have HKK : Hid (∀ W, (∃ m, W = W1.drewN m) → W.cell? ⟨bp, op + k, none⟩ = some (.slice py y.length cy) ∧ W.cell? ⟨bp, op + j, none⟩ = some (.slice pu x.length cu)) := fun W hW => ⟨by obtain ⟨m, rfl⟩ := hW; exact (hpy m).1, HK.out W hW⟩
                                have HVY : Hid (∀ W, (∃ m, W = W1.drewN m) → Val W (.slice py y.length cy) y) := fun W hW => by obtain ⟨m, rfl⟩ := hW; exact (hpy m).2
                                have hly := (val_front (HVY.out _ HMK.out)).2
                                have k10 : (y.length : Int) ≤ 9223372036854775807 := by omega
                                clear hf2 hpy hmk
                                by_cases hle : y.length = x.length
                                · rw [hle] at z0 HKK
                                  have HVY2 : Hid (∀ W, (∃ m, W = W1.drewN m) → Val W (.slice py x.length cy) y) := fun W hW => by rw [← hle]; exact HVY.out W hW
                                  have HWI := hid_in (Vp.rwithin_v (w := wr.drew) (HVY2.out _ (drew_one HMK.out)) (HVD.out _ (drew_one HMK.out)))
                                  obtain ⟨bw, Hbw⟩ : ∃ bw, Hid (Vp.withinS y x.dropLast = bw) := ⟨_, rfl⟩
                                  rw [Hbw.out] at HWI HCN
                                  have hw1 : IntKind.i64.wrap ((x.length : Int) - 1) = (x.length : Int) - 1 := by rw [IntKind.wrap_i64]; omega
                                  have hw2 : wrap64 ((x.length : Int) - 1) = (x.length : Int) - 1 := by unfold wrap64; omega
                                  have HLE := hid_in hle
                                  clear hle hly k10
                                  go_wp2_with fail
                                  go_region_held3 (fun W => W.cell? ⟨bp, op + k, none⟩ = some (.slice py x.length cy) ∧ W.cell? ⟨bp, op + j, none⟩ = some (.slice pu x.length cu)) (first | (exact HKK.out _ HMK.out) | (exact HKK.out _ HM6.out) | (exact HKK.out _ (drew_one HMK.out))) (first | (go_at_call 58; refine HWI.out.mono ?_; rintro e w6 ⟨rfl, hd6⟩; have HM6 := hid_in (drew_plus (drew_one HMK.out) hd6); clear hd6))
                                  all_goals
                                    cases bw
                                    all_goals
                                      go_wp2_with fail
                                      refine ⟨⟨k + 1, by go_num, ?_, by omega, HM6.out⟩, by simp [intOf]; omega⟩
                                      rw [HCN.out, HLE.out]
                                      simp
                                · have q1 : ((y.length : Int) == (x.length : Int)) = false := by
                                    rw [beq_eq_false_iff_ne]
                                    omega
                                  have HLE : Hid ((y.length == x.length) = false) := by show _ = _; rw [beq_eq_false_iff_ne]; exact hle
                                  clear hle hly
                                  go_wp2_with fail
                                  go_quiet (fail)
                                  go_wp2_with fail
                                  refine ⟨⟨k + 1, by go_num, ?_, by omega, drew_plus HMK.out ⟨_, rfl⟩⟩, by simp [intOf]; omega⟩
                                  rw [HCN.out, HLE.out]
                                  simp
                              · obtain rfl : k = fs.length := by omega
                                have k9 : ¬ ((fs.length : Int) < (fs.length : Int)) := by omega
                                have HTK : Hid ((nmsL fs).take fs.length = nmsL fs) := List.take_of_length_le (by simp [nmsL])
                                rw [HTK.out]
                                rw [HTK.out] at hcb
                                have HBK : Hid (Below w.heap.size w wr) := by obtain ⟨m, hm⟩ := HMK.out; show Below _ _ _; rw [hm]; exact below_drewN HB1.out m
                                by_cases hmany : 64 < cntP (nmsL fs) x
                                · have HBAD : Hid (¬ G7 fs) := fun h => by have := h x (List.mem_of_getElem? HX.out); omega
                                  have q2 : (64 : Int) < (cntP (nmsL fs) x : Int) := by omega
                                  generalize cntP (nmsL fs) x = CN at *
                                  go_wp2_with fail
                                  go_ret2
                                  exact CkPost.no _ rfl (.many HG1.out HG2.out HG3.out HG4.out HG5.out HG6.out HBAD.out) HBK.out
                                · have HOK : Hid (cntP (nmsL fs) x ≤ 64) := by show _ ≤ _; omega
                                  have q2 : ¬ ((64 : Int) < (cntP (nmsL fs) x : Int)) := by omega
                                  have HNX := hid_in (HJ.out.next HX.out HOK.out)
                                  clear hmany
                                  generalize cntP (nmsL fs) x = CN at *
                                  go_wp2_with fail
                                  exact ⟨⟨j + 1, by go_num, by omega, HNX.out, HMK.out⟩, by simp [intOf]; omega⟩
                          · obtain rfl : j = fs.length := by omega
                            have k2 : ¬ ((fs.length : Int) < (fs.length : Int)) := by omega
                            have HG7 : Hid (G7 fs) := fun x hx => by
                              obtain ⟨i, hi⟩ := List.getElem?_of_mem hx
                              exact HJ.out i x (by have := (List.getElem?_eq_some_iff.1 hi).1; simpa [nmsL] using this) hi
                            clear HJ hWW
                            have HBM : Hid (Below W1.heap.size W1 wr) := by obtain ⟨m, hm⟩ := HM.out; show Below _ _ _; rw [hm]; exact below_drewN (Below.refl _ _) m
                            have HBMW : Hid (Below w.heap.size w wr) := HB1.out.trans (HBM.out.mono HB1.out.size)
                            go_wp2_with fail
                            go_loopw [18, 19] (fun vo vk W => ∃ j : Nat, vk = .int .i64 (j : Int) ∧ j ≤ fs.length ∧ FO W w.heap.size vo (sortF (fs.take j)) ∧ Below W1.heap.size W1 W ∧ Below w.heap.size w W) (fun _ vk _ => fs.length - (intOf vk).toNat)
                            case atStart => exact ⟨0, rfl, by omega, World.ownsRow_nil _ _ _ _, HBM.out, HBMW.out⟩
                            case round =>
                              obtain ⟨j, rfl, hj, hfo, hb8, hbw8⟩ := hrel
                              have HFO := hid_in hfo
                              have HB8 := hid_in hb8
                              have HBW8 := hid_in hbw8
                              clear hfo hb8 hbw8
                              by_cases hl : j < fs.length
                              · have k2 : (j : Int) < (fs.length : Int) := by omega
                                obtain ⟨f, hf⟩ : ∃ f, fs[j]? = some f := ⟨_, List.getElem?_eq_getElem hl⟩
                                obtain ⟨x, Hx⟩ : ∃ x, Hid (f.nms = x) := ⟨_, rfl⟩
                                have HX : Hid ((nmsL fs)[j]? = some x) := by show _ = _; rw [← Hx.out]; exact nmsL_at hf
                                obtain ⟨rfl, pu, cu, hpc⟩ := HPT.out j x HX.out
                                obtain ⟨rfl, hcf⟩ := HCF.out j f hf
                                have HTK := hid_in (sortF_take hf)
                                have hc0 := hcf 0
                                have hp0 := hpc 0
                                rw [dn0] at hc0 hp0
                                have HPB : Hid (bp < W1.heap.size ∧ bf < W1.heap.size) := ⟨World.block_lt_of_cell? W1 _ hp0.1, World.block_lt_of_cell? W1 _ hc0.1⟩
                                have x0 : wr.cell? ⟨bf, of + j * 3, none⟩ = some (.string f.path) := by rw [HB8.out.cell (p := ⟨bf, of + j * 3, none⟩) HPB.out.2]; exact hc0.1
                                have x1 : wr.cell? ⟨bf, of + j * 3 + 1, none⟩ = some (.bool f.dir) := by rw [HB8.out.cell (p := ⟨bf, of + j * 3 + 1, none⟩) HPB.out.2]; exact hc0.2.1
                                have x2 : wr.cell? ⟨bf, of + j * 3 + 2, none⟩ = some (.string f.data) := by rw [HB8.out.cell (p := ⟨bf, of + j * 3 + 2, none⟩) HPB.out.2]; exact hc0.2.2
                                have HY : Hid (∀ W, Below W1.heap.size W1 W → W.cell? ⟨bp, op + j, none⟩ = some (.slice pu x.length cu)) := fun W hW => by rw [hW.cell (p := ⟨bp, op + j, none⟩) HPB.out.1]; exact hp0.1
                                have HVX : Hid (∀ W, Below W1.heap.size W1 W → Val W (.slice pu x.length cu) x) := fun W hW => hp0.2.below hW
                                have HLX : Hid (Lib.lens x + x.length ≤ 140737488355328) := by
                                  have h1 := Vp.parse_sum (bl f.path)
                                  show _ ≤ _
                                  rw [← Hx.out]
                                  have e : f.nms = (parseS (bl f.path)).1 := rfl
                                  rw [e]
                                  omega
                                obtain ⟨pO, cO, hfO⟩ := HFO.out.fls.form
                                subst hfO
                                obtain ⟨WA, HA, HRA, HBA⟩ := fil_row wr f
                                have HBA1 := hid_in (HB8.out.trans (HBA.out.mono HB8.out.size))
                                have HSH := hid_in (Vp.rshow_v (w := WA) (HVX.out _ HBA1.out) HLX.out)
                                obtain ⟨S, HSS⟩ : ∃ S, Hid (B (showS x) = S) := ⟨_, rfl⟩
                                rw [HSS.out] at HSH
                                obtain ⟨g20, Hg20⟩ : ∃ g, Hid (wr.heap.size = g) := ⟨_, rfl⟩
                                clear hf hpc hcf hc0 hp0
                                go_upto_region 51 with fail
                                refine Nd.wp_world HA.out ?_
                                clear HA x0 x1 x2
                                rw [Hg20.out]
                                rw [Hg20.out] at HRA
                                have y0 : WA.cell? ⟨bp, op + j, none⟩ = some (.slice pu x.length cu) := HY.out _ HBA1.out
                                go_upto_region 52 with (first | (go_at_call 20; refine HSH.out.mono ?_; rintro e w2 ⟨rfl, hd2⟩; have HBD : Hid (Below WA.heap.size WA w2) := (by obtain ⟨m, hm⟩ := hd2; show Below _ _ _; rw [hm]; exact below_drewN (Below.refl _ _) m); have HR2 := hid_in (HRA.out.below HBD.out HRA.out.lt); have z0 : w2.cell? ⟨g20, 0, none⟩ = some (.string f.path) := HR2.out.cell 0; have zf := HR2.out.frozen 0; clear hd2 y0))
                                clear z0 zf
                                obtain ⟨W3, HW3⟩ : ∃ W, Hid (w2.setCell ⟨g20, 0, none⟩ (.string S) = W) := ⟨_, rfl⟩
                                have HGS := hid_in (Nd.grownBy_setCell w2 ⟨g20, 0, none⟩ (.string S))
                                rw [HW3.out] at HGS
                                have HR3 : Hid (Nd.Row W3 g20 [.string S, .bool f.dir, .string f.data] 48) := by show Nd.Row _ _ _ _; rw [← HW3.out]; exact HR2.out.set_same 0 _
                                have HB23 : Hid (Below wr.heap.size wr W3) := (HBA.out.trans (HBD.out.mono HBA.out.size)).grown HGS.out (Nat.le_trans HBA.out.size HBD.out.size) (fun k e => by cases e; show wr.heap.size ≤ g20; exact Nat.le_of_eq Hg20.out)
                                have HFO3 := hid_in (HFO.out.below HB23.out)
                                have HB31 := hid_in (HB8.out.trans (HB23.out.mono HB8.out.size))
                                have HB3W := hid_in (HBW8.out.trans (HB23.out.mono HBW8.out.size))
                                have HCL : Hid (f.clean = ⟨S, f.dir, f.data⟩) := by show _ = _; unfold Fil.clean; rw [Hx.out, HSS.out]
                                have HIN := hid_in (insert_any W3 _ (sortF (fs.take j)) f.clean HFO3.out.fls (by rw [(sortF_ok _).1, List.length_take]; omega) (by have := clean_size f; omega) (fun g hg => by have := (sortF_ok (fs.take j)).2 g hg; omega))
                                rw [HCL.out] at HIN
                                simp only [Fil.val] at HIN
                                refine Nd.wp_world HW3.out ?_
                                clear HW3
                                have a0 : W3.cell? ⟨g20, 0, none⟩ = some (.string S) := HR3.out.cell 0
                                have a1 : W3.cell? ⟨g20, 1, none⟩ = some (.bool f.dir) := HR3.out.cell 1
                                have a2 : W3.cell? ⟨g20, 2, none⟩ = some (.string f.data) := HR3.out.cell 2
                                generalize hNO : (sortF (fs.take j)).length = NO at *
                                clear hNO
                                go_wp2_with (first | (go_at_call 37; refine HIN.out.mono ?_; rintro e w4 ⟨⟨u4, rfl, h4⟩, hb4⟩; have HF4 := hid_in h4; have HB4 := hid_in hb4; clear h4 hb4))
                                refine ⟨⟨j + 1, by go_num, by omega, ?_, HB31.out.trans (HB4.out.mono HB31.out.size), HB3W.out.trans (HB4.out.mono HB3W.out.size)⟩, by simp [intOf]; omega⟩
                                rw [HTK.out, HCL.out]
                                exact HF4.out.mono HB3W.out.size
                              · obtain rfl : j = fs.length := by omega
                                have k2 : ¬ ((fs.length : Int) < (fs.length : Int)) := by omega
                                rw [List.take_of_length_le (Nat.le_refl _)] at HFO
                                go_wp2_with fail
                                go_ret2
                                exact ⟨⟨_, 0, rfl, .inr ⟨rfl, ⟨HG1.out, HG2.out, HG3.out, HG4.out, HG5.out, HG6.out, HG7.out⟩, HFO.out⟩⟩, HBW8.out⟩




                      · have HBAD : Hid (¬ G6 fs) := fun h => h (HFL.out.1 rfl)
                        have HBW : Hid (Below w.heap.size w wr) := by obtain ⟨m, hm⟩ := HM.out; show Below _ _ _; rw [hm]; exact below_drewN HB1.out m
                        clear HFL hWW
                        go_wp2_with fail
                        go_ret2
                        exact CkPost.no _ rfl (.flat HG1.out HG2.out HG3.out HG4.out HG5.out HBAD.out) HBW.out
end Go.Proofs.YtngehkmdanhgpaaGreat.Rf
