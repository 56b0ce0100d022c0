/-
  The reference's sorted and New. What the reference finds is what the program finds. Plain facts. list and read of both. Plain facts. write of both. Plain facts.
-/
import Derived.Laws.CopyOwn
import Derived.Deep.RegionLaw
import Derived.Deep.DrawnRows
import Derived.Deep.CutRange
import Derived.Lib.SlBytesConst
import Derived.Lib.AppendZeros
import Derived.Laws.Tables
import Derived.Test.YtngehkmdanhgpaaGreatQ00
import Derived.Test.YtngehkmdanhgpaaGreatQ01
import Derived.Test.YtngehkmdanhgpaaGreatQ02
import Derived.Test.YtngehkmdanhgpaaGreatQ03
import Derived.Test.YtngehkmdanhgpaaGreatQ04
import Derived.Test.YtngehkmdanhgpaaGreatQ05
import Derived.Test.YtngehkmdanhgpaaGreatQ06
import Derived.Test.YtngehkmdanhgpaaGreatQ07
import Derived.Test.YtngehkmdanhgpaaGreatQ08
import Derived.Test.YtngehkmdanhgpaaGreatQ09
import Derived.Test.YtngehkmdanhgpaaGreatQ10
import Derived.Test.YtngehkmdanhgpaaGreatQ11
import Derived.Test.YtngehkmdanhgpaaGreatQ12
import Derived.Test.YtngehkmdanhgpaaGreatQ13
import Derived.Test.YtngehkmdanhgpaaGreatQ14
import Derived.Test.YtngehkmdanhgpaaGreatQ15
import Derived.Test.YtngehkmdanhgpaaGreatQ16
import Derived.Test.YtngehkmdanhgpaaGreatQ17
import Derived.Test.YtngehkmdanhgpaaGreatQ18
import Derived.Test.YtngehkmdanhgpaaGreatQ19
import Derived.Test.YtngehkmdanhgpaaGreatQ20
import Derived.Test.YtngehkmdanhgpaaGreatQ21
import Derived.Test.YtngehkmdanhgpaaGreatQ22
import Derived.Test.YtngehkmdanhgpaaGreatQ23
import Derived.Test.YtngehkmdanhgpaaGreatQ24
import Derived.Test.YtngehkmdanhgpaaGreatQ25
import Derived.Test.YtngehkmdanhgpaaGreatQ26
import Derived.Test.YtngehkmdanhgpaaGreatQ27
import Derived.Test.YtngehkmdanhgpaaGreatQ28
import Derived.Test.YtngehkmdanhgpaaGreatQ29
import Derived.Test.YtngehkmdanhgpaaGreatQ30
import Derived.Test.YtngehkmdanhgpaaGreatQ31
import Derived.Test.YtngehkmdanhgpaaGreatQ32
import Derived.Test.YtngehkmdanhgpaaGreatQ33
import Derived.Test.YtngehkmdanhgpaaGreatQ34
import Derived.Test.YtngehkmdanhgpaaGreatQ35
import Derived.Test.YtngehkmdanhgpaaGreatQ36
import Derived.Test.YtngehkmdanhgpaaGreatQ37
namespace Go.Proofs.YtngehkmdanhgpaaGreat.Pl
open Go.RowKit
open Vp (Str B bl Val cmpL parseS showS splitS withinS IsPath)
open Nd (Row wp_world post_Row post_Row2 grownBy_setCell below_of_grown)
open Rf (Fil Fls FO fcells fcells_len insF sortF)
theorem fo_other {w w' : World} {B g : Nat} {v : Value} {fs : List Fil} (h : FO w B v fs) (hk : ∀ k, v.ownBlock = some k → k ≠ g) (hg : w.grownBy w' (some g)) : FO w' B v fs := by
  obtain ⟨h1, h2 | ⟨q, cap, cur, hv, hB, hh, rest⟩⟩ := h
  · exact ⟨h1, .inl h2⟩
  · refine ⟨h1, .inr ⟨q, cap, cur, hv, hB, ?_, rest⟩⟩
    rw [hg.block q (Array.getElem?_eq_some_iff.1 hh).1 (fun e => hk q (by rw [hv]; rfl) (Option.some.inj e))]
    exact hh
set_option maxHeartbeats 4000000 in
set_option maxRecDepth 100000 in
theorem rsorted_any (w : World) (v : Value) (fs : List Fil) (hv : Fls w v fs) (hn : fs.length ≤ 1000) (hs : ∀ f ∈ fs, f.path.size ≤ 9223372036854775807) :
    Calls Tryz.prog 29 #[v] w fun e w' => ∃ u, e = .returned u ∧ FO w' w.heap.size u (sortF fs) ∧ Below w.heap.size w w' := by
  obtain ⟨p, cap, b, o, rfl, hc1, hc2, hat⟩ := hv.cells3
  have HAT := hid_in hat
  have HS := hid_in hs
  generalize hfl : fs.length = n at *
  have HFL := hid_in hfl
  have HN := hid_in hn
  have hn9 : (n : Int) ≤ 1000 := by omega
  clear hv hat hs hfl hn
  go_enter Tryz.func29, Tryz.ntmps29
  go_wp2_with fail
  go_loopw [3, 4] (fun vo vi W => ∃ i : Nat, i ≤ n ∧ vi = .int .i64 (i : Int) ∧ Hid (FO W w.heap.size vo (sortF (fs.take i)) ∧ Below w.heap.size w W)) (fun _ vi _ => n - (intOf vi).toNat)
  case atStart => exact ⟨0, by omega, rfl, FO.nilP _ _, Below.refl _ _⟩
  case round =>
    obtain ⟨i, hi, rfl, hR⟩ := hrel
    have HO := hid_in hR.out.1
    have HB := hid_in hR.out.2
    clear hR
    by_cases hlt : i < n
    · obtain ⟨f, hf⟩ : ∃ f, fs[i]? = some f := ⟨_, List.getElem?_eq_getElem (by rw [HFL.out]; exact hlt)⟩
      obtain ⟨rfl, hcs⟩ := HAT.out i f hf
      obtain ⟨c0, c1, c2⟩ := hcs _ HB.out
      have hlt2 : (i : Int) < (n : Int) := by omega
      have hi0 : ¬ (i : Int) < 0 := by omega
      have hi1 : 0 ≤ (i : Int) := by omega
      have HTK := hid_in (Rf.sortF_take hf)
      have hps := HS.out f (List.mem_of_getElem? hf)
      have HNA := hid_in (fun W => Rf.names_any f.path hps W)
      have hgp : Gp (Rf.nmsOf f.path) := gp_parse _
      have HGP := hid_in hgp
      have HSK := hid_in (Rf.sortF_ok (fs.take i))
      have HCL : Hid (f.clean = ⟨B (showS (Rf.nmsOf f.path)), f.dir, f.data⟩) := hid_in rfl
      have HCZ := hid_in (Rf.clean_size f)
      have HLT := hid_in hlt
      have HLE : Hid ((sortF (fs.take i)).length ≤ 1000) := hid_in (by rw [HSK.out.1]; have := HN.out; simp; omega)
      obtain ⟨w2, HW2⟩ : ∃ w2, Hid (wr.alloc (.cells #[.string f.path, .bool f.dir, .string f.data] 48) = w2) := ⟨_, hid_in rfl⟩
      have HB2c : Hid (Below wr.heap.size wr w2) := hid_in (by rw [← HW2.out]; exact (Below.refl _ _).alloc (Nat.le_refl _) _)
      have HR2 : Hid (Row w2 wr.heap.size [.string f.path, .bool f.dir, .string f.data] 48) := hid_in (by rw [← HW2.out]; exact Row.new wr [.string f.path, .bool f.dir, .string f.data] 48)
      have HB2 := hid_in (HB.out.trans (HB2c.out.mono HB.out.size))
      have HO2 := hid_in (HO.out.below HB2c.out)
      have HBW := hid_in HB.out.size
      obtain ⟨po, lo, co, rfl⟩ := fo_form HO.out
      have HOW : Hid (∀ k, Value.ownBlock (.slice po lo co) = some k → k < wr.heap.size) := hid_in (fun k hk => (Nd.own_geK HO.out k hk).2)
      have HSZ := hid_in HSK.out.2
      clear hf hcs hlt hi hps hgp HSK HO
      go_upto_region 6 with fail
      refine wp_world HW2.out ?_
      generalize wr.heap.size = bx at *
      have d0 := HR2.out.cell 0
      simp only [List.getElem?_cons_zero] at d0
      clear HW2 HB2c c0 c1 c2
      go_upto_region 7 with (first | (go_at_call 19; refine (HNA.out _).mono ?_; rintro x w3 ⟨⟨v3, rfl, hn3⟩, hb3⟩; obtain ⟨p3, k3, rfl⟩ := Vp.Nms.shape hn3; have HV3 := hid_in (Vp.Nms.val hn3); have HC3 := hid_in hb3; clear hn3 hb3) | (go_at_call 20; refine (Vp.rshow_v HV3.out (by have := HGP.out.lens; omega)).mono ?_; rintro x w4 ⟨rfl, hd4⟩; have hx4 : Below w3.heap.size w3 w4 := (by obtain ⟨m, hm⟩ := hd4; rw [hm]; exact Nd.below_drewN (Below.refl _ _) m); have HC4 := hid_in (HC3.out.trans (hx4.mono HC3.out.size)); have HR4 := hid_in (HR2.out.below HC4.out HR2.out.lt); have d4 := HR4.out.cell 0; have z4 := HR4.out.frozen 0; simp only [List.getElem?_cons_zero] at d4; clear hd4 hx4))
      obtain ⟨nt, HNT⟩ : ∃ x, Hid (B (showS (Rf.nmsOf f.path)) = x) := ⟨_, hid_in rfl⟩
      rw [HNT.out] at HCL ⊢
      have HB4 := hid_in (HB2.out.trans (HC4.out.mono HB2.out.size))
      have HO4 := hid_in (HO2.out.below HC4.out)
      obtain ⟨w5, HW5⟩ : ∃ u, Hid (w4.setCell ⟨bx, 0, none⟩ (.string nt) = u) := ⟨_, hid_in rfl⟩
      have HG5 : Hid (w4.grownBy w5 (some bx)) := hid_in (by rw [← HW5.out]; exact grownBy_setCell _ _ _)
      have HR5 : Hid (Row w5 bx [.string nt, .bool f.dir, .string f.data] 48) := hid_in (by rw [← HW5.out]; exact HR4.out.set_same 0 _)
      have HB5 := hid_in (below_of_grown HB4.out HG5.out HB4.out.size HBW.out)
      have HO5 := hid_in (fo_other HO4.out (fun k hk => Nat.ne_of_lt (HOW.out k hk)) HG5.out)
      have e0 := HR5.out.cell 0
      have e1 := HR5.out.cell 1
      have e2 := HR5.out.cell 2
      simp only [List.getElem?_cons_succ, List.getElem?_cons_zero] at e0 e1 e2
      have HIN := hid_in (Rf.insert_any w5 (.slice po lo co) (sortF (fs.take i)) f.clean HO5.out.fls (by have := HLE.out; omega) (by have := HCZ.out; omega) (fun g hg => by have := HSZ.out g hg; omega))
      rw [HCL.out] at HIN HTK
      simp only [Rf.Fil.val] at HIN
      refine wp_world HW5.out ?_
      clear HW5 d0 d4 z4
      go_wp2_with (go_at_call 37; refine HIN.out.mono ?_; rintro e w6 ⟨⟨u6, rfl, ho6⟩, hb6⟩; have HO6 := hid_in (Rf.FO.mono ho6 HB5.out.size); have HB6 := hid_in (HB5.out.trans (hb6.mono HB5.out.size)); clear ho6 hb6)
      refine ⟨⟨i + 1, by have := HLT.out; omega, by go_num, ?_, HB6.out⟩, by have := HLT.out; simp [intOf]; omega⟩
      rw [HTK.out]
      exact HO6.out
    · obtain rfl : i = n := by omega
      have hall : fs.take i = fs := by rw [List.take_of_length_le]; rw [HFL.out]; exact Nat.le_refl _
      rw [hall] at HO
      clear hall hlt hi
      go_wp2_with fail
      go_ret
      exact ⟨_, rfl, HO.out, HB.out⟩
theorem chk_ne {fs : List Fil} {k : Int} (h : Rf.ChkA fs k) : k ≠ 0 := by
  cases h with
  | path h => obtain ⟨_, _, _, _, h1, _⟩ := h; exact h1
  | _ => decide
/-- what New answers -/
def RNewP (fs : List Fil) (w : World) (e : Ending) (w' : World) : Prop := ((∃ k, k ≠ 0 ∧ k ≠ 8 ∧ Rf.ChkA fs k ∧ e = .returned (.tuple #[.pointer none, .int .i64 k])) ∨ ((Rf.ChkA fs 8 ∨ Rf.Good fs) ∧ ∃ r v, e = .returned (.tuple #[.pointer (some ⟨r, 0, none⟩), .int .i64 0]) ∧ Row w' r [v] 43 ∧ FO w' 0 v (sortF fs) ∧ w.heap.size ≤ r)) ∧ Below w.heap.size w w'
set_option maxHeartbeats 2000000 in
set_option maxRecDepth 100000 in
theorem rnew_any (w : World) (v : Value) (fs : List Fil) (hv : Fls w v fs) (hn : fs.length ≤ 1000) (hs : ∀ f ∈ fs, f.path.size ≤ 9223372036854775807 ∧ f.data.size ≤ 9223372036854775807) :
    Calls Tryz.prog 11 #[v] w fun e w' => RNewP fs w e w' := by
  have HCK := hid_in (Rf.checked_any w v fs hv hn hs)
  have HSO := hid_in (fun W (k : Below w.heap.size w W) => rsorted_any W v fs (hv.below k) hn (fun f hf => (hs f hf).1))
  obtain ⟨p, c, rfl⟩ := hv.form
  generalize fs.length = n at *
  clear hv hn hs
  go_enter Tryz.func11, Tryz.ntmps11
  go_upto_region 2 with (go_at_call 28; refine HCK.out.mono ?_; rintro e w1 ⟨⟨u, k, rfl, hor⟩, hb1⟩; have HB1 := hid_in hb1; have HOR := hid_in hor; clear hb1 hor)
  rcases HOR.out with ⟨hch, rfl⟩ | ⟨rfl, hgood, hfo⟩
  · by_cases h8 : k = 8
    · subst h8
      have HCH := hid_in hch
      clear hch HOR HCK
      go_wp2_with (go_at_call 29; refine (HSO.out _ HB1.out).mono ?_; rintro e w2 ⟨u2, rfl, ho2, hb2⟩; obtain ⟨p2, l2, c2, rfl⟩ := fo_form ho2; have HO2 := hid_in ho2; have HB2 := hid_in (HB1.out.trans (hb2.mono HB1.out.size)); clear ho2 hb2)
      go_ret2
      exact ⟨.inr ⟨.inl HCH.out, _, _, rfl, Row.new w2 [.slice p2 l2 c2] 43, Rf.FO.mono (HO2.out.below ((Below.refl _ _).alloc (Nat.le_refl _) _)) (Nat.zero_le _), HB2.out.size⟩, HB2.out.alloc HB2.out.size _⟩
    · have hk8 : (k == 8) = false := by simpa using h8
      have hk0 : k ≠ 0 := chk_ne hch
      have hk1 : (k != 0) = true := by simpa using hk0
      have HCH := hid_in (And.intro hk0 (And.intro h8 hch))
      clear hch HOR HCK HSO h8 hk0
      go_wp2_with fail
      go_ret2
      exact ⟨.inl ⟨k, HCH.out.1, HCH.out.2.1, HCH.out.2.2, rfl⟩, HB1.out⟩
  · obtain ⟨p2, l2, c2, rfl⟩ := fo_form hfo
    have HGD := hid_in hgood
    have HO1 := hid_in hfo
    clear hgood hfo HOR HCK HSO
    go_wp2_with fail
    go_ret2
    exact ⟨.inr ⟨.inr HGD.out, _, _, rfl, Row.new w1 [.slice p2 l2 c2] 43, Rf.FO.mono (HO1.out.below ((Below.refl _ _).alloc (Nat.le_refl _) _)) (Nat.zero_le _), HB1.out.size⟩, HB1.out.alloc HB1.out.size _⟩
end Go.Proofs.YtngehkmdanhgpaaGreat.Pl
namespace Go.Proofs.YtngehkmdanhgpaaGreat.Pl
open Go.RowKit
open Vp (Str B bl Val cmpL parseS showS splitS withinS IsPath)
/-- the paths but the root, in their order -/
structure Ref (A es : List Ent) : Prop where
  perm : es.Perm (A.filter (belowE []))
  ord : es.Pairwise (fun s t => ¬ cmpL t.names s.names < 0)
theorem below_root (e : Ent) : belowE [] e = decide (e.names ≠ []) := by
  unfold belowE
  have h : withinS e.names [] = true := within_iff.2 ⟨e.names, by simp⟩
  rw [h, Bool.and_true]
  cases hn : e.names with
  | nil => rfl
  | cons a r => simp
theorem nodup_sub {A B : List Ent} (h : B.Sublist A) (hA : (A.map (·.names)).Nodup) : (B.map (·.names)).Nodup := hA.sublist (h.map _)
theorem at_eq {A C : List Ent} (hA : (A.map (·.names)).Nodup) (hC : (C.map (·.names)).Nodup) {n : List Str} (h : ∀ e, e.names = n → (e ∈ A ↔ e ∈ C)) : entAt A n = entAt C n := by
  cases h1 : entAt A n with
  | some e =>
    obtain ⟨h2, h3⟩ := at_names h1
    have h4 := (h e h2).1 h3
    rw [← h2, at_mem hC h4]
  | none =>
    cases h5 : entAt C n with
    | none => rfl
    | some e =>
      obtain ⟨h2, h3⟩ := at_names h5
      have h4 := (h e h2).2 h3
      rw [← h2, at_mem hA h4] at h1
      cases h1
theorem Ref.mem {A es : List Ent} (h : Ref A es) {e : Ent} : e ∈ es ↔ e ∈ A ∧ e.names ≠ [] := by
  rw [h.perm.mem_iff, List.mem_filter, below_root, decide_eq_true_eq]
theorem Ref.nodup {A es : List Ent} (h : Ref A es) (hA : (A.map (·.names)).Nodup) : (es.map (·.names)).Nodup :=
  (h.perm.map _).nodup_iff.2 (nodup_sub List.filter_sublist hA)
theorem Ref.at_ {A es : List Ent} (h : Ref A es) (hA : (A.map (·.names)).Nodup) {n : List Str} (hn : n ≠ []) : entAt es n = entAt A n :=
  at_eq (h.nodup hA) hA (fun e he => by rw [h.mem]; exact ⟨fun x => x.1, fun x => ⟨x, by rw [he]; exact hn⟩⟩)
theorem goA_ref {A es : List Ent} (h : Ref A es) (hA : (A.map (·.names)).Nodup) : ∀ (ps : List (List Str)) (s : Ent), (∀ p ∈ ps, p ≠ []) → goA es s ps = goA A s ps
  | [], _, _ => rfl
  | p :: ps, s, hp => by
    simp only [goA, h.at_ hA (hp p (by simp))]
    split
    · rfl
    · split
      · rfl
      · exact goA_ref h hA ps _ (fun q hq => hp q (by simp [hq]))
theorem goA_dir {A : List Ent} (p : List Str) (ps : List (List Str)) {s t : Ent} (h : s.dir = t.dir) : goA A s (p :: ps) = goA A t (p :: ps) := by
  simp only [goA, h]
theorem inits_cons (xs : List Str) : inits xs = [] :: (inits xs).drop 1 := by
  have := inits_drop (xs := xs) (i := 0) (by omega)
  rw [List.drop_zero, List.take_zero] at this
  exact this
theorem inits_ne (xs : List Str) : ∀ p ∈ (inits xs).drop 1, p ≠ [] := by
  intro p hp
  unfold inits at hp
  rw [List.range_succ_eq_map, List.map_cons, List.drop_succ_cons, List.drop_zero, List.map_map] at hp
  obtain ⟨i, hi, rfl⟩ := List.mem_map.1 hp
  have h1 := List.mem_range.1 hi
  intro e
  have h2 := congrArg List.length e
  simp only [Function.comp, List.length_take, List.length_nil] at h2
  omega
/-- at a path that isn't the root both find the same -/
theorem look_ref {A es : List Ent} (h : Ref A es) (hT : Tree A) (hA : (A.map (·.names)).Nodup) {xs : List Str} (hx : xs ≠ []) : lookR es xs = findA A xs := by
  obtain ⟨r, hr, hd⟩ := hT.root
  unfold lookR findA
  rw [goA_ref h hA _ _ (inits_ne xs), inits_cons xs]
  simp only [List.drop_succ_cons, List.drop_zero]
  have h1 := inits_drop (xs := xs) (i := 1) (by have := List.length_pos_iff.2 hx; omega)
  rw [h1]
  have h2 : goA A rootE ([] :: xs.take 1 :: (inits xs).drop (1 + 1)) = goA A r (xs.take 1 :: (inits xs).drop (1 + 1)) := by
    rw [goA, if_neg (by decide), hr]
  rw [h2]
  exact goA_dir _ _ (by rw [hd]; rfl)
theorem find_root {A : List Ent} (hT : Tree A) : ∃ r, findA A [] = (r, 0) ∧ r.dir = true := by
  obtain ⟨r, hr, hd⟩ := hT.root
  exact ⟨r, hT.find hr, hd⟩
/-- the code and whether it is a directory, at any path -/
theorem look_any_ref {A es : List Ent} (h : Ref A es) (hT : Tree A) (hA : (A.map (·.names)).Nodup) (xs : List Str) : (lookR es xs).2 = (findA A xs).2 ∧ (lookR es xs).1.dir = (findA A xs).1.dir := by
  by_cases hx : xs = []
  · subst hx
    obtain ⟨r, h1, h2⟩ := find_root hT
    rw [h1]
    exact ⟨rfl, h2.symm⟩
  · rw [look_ref h hT hA hx]
    exact ⟨rfl, rfl⟩
theorem dir_ref {A es : List Ent} (h : Ref A es) (hT : Tree A) (hA : (A.map (·.names)).Nodup) (xs : List Str) : dirR es xs = (findDA A xs.dropLast).2 := by
  obtain ⟨h1, h2⟩ := look_any_ref h hT hA xs.dropLast
  unfold dirR findDA
  rw [h1, h2]
  split
  · rfl
  · rfl
theorem filt_ref {A es : List Ent} (h : Ref A es) (xs : List Str) : (es.filter (belowE xs)).Perm (A.filter (belowE xs)) := by
  have h1 := h.perm.filter (belowE xs)
  rw [List.filter_filter] at h1
  refine h1.trans (List.Perm.of_eq (List.filter_congr fun e _ => ?_))
  cases hb : belowE xs e with
  | false => rfl
  | true =>
    have : belowE [] e = true := by
      rw [below_root, decide_eq_true_eq]
      unfold belowE at hb
      simp only [Bool.and_eq_true, decide_eq_true_eq] at hb
      intro e2
      rw [e2] at hb
      simp at hb
    rw [this]
    rfl
theorem kids_ref {A es : List Ent} (h : Ref A es) (xs : List Str) : (kidsA es xs).Perm (kidsA A xs) := (filt_ref h xs).filter _
/-- below a file there is nothing -/
theorem file_below {A : List Ent} (hT : Tree A) (hA : (A.map (·.names)).Nodup) {xs : List Str} {f : Ent} (hf : findA A xs = (f, 0)) (hd : f.dir = false) : ¬ 0 < (A.filter (belowE xs)).length := by
  intro h
  obtain ⟨e, he⟩ : ∃ e, e ∈ A.filter (belowE xs) := by
    cases hl : A.filter (belowE xs) with
    | nil => rw [hl] at h; exact absurd h (by simp)
    | cons a r => exact ⟨a, by simp⟩
  obtain ⟨h1, h2⟩ := List.mem_filter.1 he
  unfold belowE at h2
  simp only [Bool.and_eq_true, decide_eq_true_eq] at h2
  obtain ⟨s, hs⟩ := within_iff.1 h2.2
  obtain ⟨d, h3, h4⟩ := hT.take (at_mem hA h1) xs.length h2.1
  rw [hs, List.take_left] at h3
  rw [hT.find h3] at hf
  obtain rfl := (Prod.mk.inj hf).1
  rw [hd] at h4
  cases h4
theorem rm_ref {A es : List Ent} (h : Ref A es) (hT : Tree A) (hA : (A.map (·.names)).Nodup) (xs : List Str) : rmR es xs true = rmE A xs := by
  obtain ⟨h1, h2⟩ := look_any_ref h hT hA xs
  have h3 := (filt_ref h xs).length_eq
  unfold rmR rmE findDA
  rw [h1, h2, h3]
  by_cases hx : xs = []
  · rw [if_pos ⟨rfl, by rw [hx]; rfl⟩, if_pos hx]
  · rw [if_neg (fun e => hx (List.length_eq_zero_iff.1 e.2)), if_neg hx]
    by_cases hc : (findA A xs).2 = 0
    · cases hd : (findA A xs).1.dir with
      | false => simp [hc]
      | true => simp [hc]
    · simp [hc]
theorem ul_ref {A es : List Ent} (h : Ref A es) (hT : Tree A) (hA : (A.map (·.names)).Nodup) (xs : List Str) : rmR es xs false = ulE A xs := by
  obtain ⟨h1, h2⟩ := look_any_ref h hT hA xs
  have h3 := (filt_ref h xs).length_eq
  unfold rmR ulE findFA
  rw [h1, h2, h3, if_neg (by simp)]
  by_cases hc : (findA A xs).2 = 0
  · cases hd : (findA A xs).1.dir with
    | false =>
      have hf := file_below hT hA (xs := xs) (f := (findA A xs).1) (Prod.ext rfl hc) hd
      rw [if_neg hf]
      simp [hc]
    | true => simp [hc]
  · simp [hc]
/-- stat, list and read of both -/
theorem ask_err {A es : List Ent} (h : Ref A es) (hT : Tree A) (hA : (A.map (·.names)).Nodup) (xs : List Str) (k : Int) (a z : Nat) (he : (findA A xs).2 ≠ 0) : askR es xs k a z = RA.err (findA A xs).2 := by
  obtain ⟨h1, _⟩ := look_any_ref h hT hA xs
  unfold askR
  rw [h1, if_pos he]
theorem stat_ref {A es : List Ent} (h : Ref A es) (hT : Tree A) (hA : (A.map (·.names)).Nodup) (xs : List Str) (a z : Nat) : askR es xs 10 a z = ⟨stE A xs, stD A xs, stS A xs, ⟨#[]⟩, []⟩ := by
  by_cases he : (findA A xs).2 = 0
  · obtain ⟨h1, h2⟩ := look_any_ref h hT hA xs
    have h3 := (kids_ref h xs).length_eq
    unfold askR stE stD stS stE
    rw [h1, he, if_neg (by simp), if_pos rfl, h2]
    simp only [if_true, List.length_map]
    cases hd : (findA A xs).1.dir with
    | true => simp [h3]
    | false =>
      have hx : xs ≠ [] := by
        rintro rfl
        obtain ⟨r, q1, q2⟩ := find_root hT
        rw [q1] at hd
        rw [q2] at hd
        cases hd
      rw [look_ref h hT hA hx]
      simp
  · rw [ask_err h hT hA xs 10 a z he]
    unfold stE stD stS stE
    rw [if_neg he, if_neg he]
    rfl
end Go.Proofs.YtngehkmdanhgpaaGreat.Pl
namespace Go.Proofs.YtngehkmdanhgpaaGreat.Pl
open Go.RowKit
open Vp (Str B bl Val cmpL parseS showS splitS withinS IsPath)
theorem list_ref {A es : List Ent} (h : Ref A es) (hT : Tree A) (hA : (A.map (·.names)).Nodup) (xs : List Str) (a z : Nat) : Listed A xs (askR es xs 9 a z) := by
  obtain ⟨h1, h2⟩ := look_any_ref h hT hA xs
  by_cases he : (findA A xs).2 = 0
  · have ho : (kidsA es xs).Pairwise (fun s t => ¬ cmpL t.names s.names < 0) := h.ord.sublist (List.filter_sublist.trans List.filter_sublist)
    unfold askR
    rw [h1, he, if_neg (by simp), if_neg (by decide), if_pos rfl, h2]
    unfold Listed lsE findDA
    cases hd : (findA A xs).1.dir with
    | true =>
      simp only [he, if_true]
      exact ⟨by simp [he], trivial, .inr ⟨by simp [he], trivial, trivial, _, kids_ref h xs, ho, rfl⟩⟩
    | false =>
      simp only [he, Bool.false_eq_true, if_false, and_self, if_true]
      exact ⟨rfl, rfl, .inl ⟨by decide, rfl, rfl, rfl⟩⟩
  · rw [ask_err h hT hA xs 9 a z he]
    unfold Listed lsE findDA
    rw [if_neg (fun e => he e.1)]
    exact ⟨rfl, rfl, .inl ⟨he, rfl, rfl, rfl⟩⟩
theorem rd_cut (x : ByteArray) (a z : Nat) (ha : a ≤ x.size) : rdQ x a z = rdD x a z := by
  unfold rdQ rdD
  rw [ByteArray.size_extract]
  by_cases h : z < min x.size x.size - a
  · rw [if_pos h, Nat.min_eq_left (by omega)]
    apply ByteArray.ext
    simp only [ByteArray.data_extract, Array.extract_extract]
    congr 1
    show min (a + z) x.size = a + z
    omega
  · rw [if_neg h, Nat.min_eq_right (by omega)]
theorem read_ref {A es : List Ent} (h : Ref A es) (hT : Tree A) (hA : (A.map (·.names)).Nodup) (xs : List Str) (a z : Nat) : askR es xs 8 a z = ⟨rdE A xs a, false, rdS A xs a, rdB A xs a z, []⟩ := by
  by_cases he : (findA A xs).2 = 0
  · obtain ⟨h1, h2⟩ := look_any_ref h hT hA xs
    unfold askR
    rw [h1, he, if_neg (by simp), if_neg (by decide), if_neg (by decide), h2]
    unfold rdS rdB rdE findFA
    cases hd : (findA A xs).1.dir with
    | true => simp [he]; rfl
    | false =>
      have hx : xs ≠ [] := by
        rintro rfl
        obtain ⟨r, q1, q2⟩ := find_root hT
        rw [q1] at hd
        rw [q2] at hd
        cases hd
      rw [look_ref h hT hA hx]
      simp only [he, Bool.false_eq_true, and_false, if_false, ne_eq, not_true_eq_false]
      by_cases hs : (findA A xs).1.data.size < a
      · simp only [hs, if_true]
        rfl
      · simp only [hs, if_false, if_true]
        rw [rd_cut _ _ _ (by omega)]
  · rw [ask_err h hT hA xs 8 a z he]
    have hf : findFA A xs = findA A xs := by unfold findFA; rw [if_neg (fun e => he e.1)]
    have hE : rdE A xs a = (findA A xs).2 := by unfold rdE; rw [hf, if_pos he]
    unfold rdS rdB
    rw [hE, if_neg he, if_neg he]
    rfl
end Go.Proofs.YtngehkmdanhgpaaGreat.Pl
namespace Go.Proofs.YtngehkmdanhgpaaGreat.Pl
open Go.RowKit
open Vp (Str B bl Val cmpL parseS showS splitS withinS IsPath)
theorem extract_end (x : ByteArray) : x.extract x.size x.size = ⟨#[]⟩ := by
  apply ByteArray.ext
  simp
theorem wr_cut (x d : ByteArray) (a : Nat) (ha : a ≤ x.size) : wrQ x d a = wrD x d a := by
  unfold wrQ wrD
  have hs : (x.extract 0 a ++ d).size = a + d.size := by
    rw [ByteArray.size_append, ByteArray.size_extract]
    omega
  rw [hs]
  by_cases h : a + d.size < x.size
  · rw [if_pos h, Nat.min_eq_left (by omega)]
  · rw [if_neg h, Nat.min_eq_right (by omega), extract_end]
    apply ByteArray.ext
    simp
theorem wr_ref {A es : List Ent} (h : Ref A es) (hT : Tree A) (hA : (A.map (·.names)).Nodup) (xs : List Str) (a : Nat) (d : ByteArray) : wrC es xs 3 a d = wrE A xs a d := by
  obtain ⟨h1, h2⟩ := look_any_ref h hT hA xs
  unfold wrC wrE findFA
  rw [h1, h2]
  by_cases he : (findA A xs).2 = 0
  · cases hd : (findA A xs).1.dir with
    | true => simp [he]
    | false =>
      have hx : xs ≠ [] := by
        rintro rfl
        obtain ⟨r, q1, q2⟩ := find_root hT
        rw [q1] at hd
        rw [q2] at hd
        cases hd
      rw [look_ref h hT hA hx]
      simp [he]
  · simp [he]
theorem tr_ref {A es : List Ent} (h : Ref A es) (hT : Tree A) (hA : (A.map (·.names)).Nodup) (xs : List Str) (a : Nat) (d : ByteArray) : wrC es xs 4 a d = trE A xs := by
  obtain ⟨h1, h2⟩ := look_any_ref h hT hA xs
  unfold wrC trE findFA
  rw [h1, h2]
  by_cases he : (findA A xs).2 = 0
  · cases hd : (findA A xs).1.dir with
    | true => simp [he]
    | false => simp [he]
  · simp [he]
end Go.Proofs.YtngehkmdanhgpaaGreat.Pl
