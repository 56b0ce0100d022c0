/-
  The walk of New. What is looked up, by what is there alone; add.
-/
import Derived.Lib.SlBytesConst
import Derived.Laws.CopyOwn
import Derived.Deep.RegionLaw
import Derived.Deep.DrawnRows
import Derived.Lib.AppendZeros
import Derived.Laws.Tables
import Derived.Test.YtngehkmdanhgpaaGreatQ00
import Derived.Test.YtngehkmdanhgpaaGreatQ01
import Derived.Test.YtngehkmdanhgpaaGreatQ02
import Derived.Test.YtngehkmdanhgpaaGreatQ03
import Derived.Test.YtngehkmdanhgpaaGreatQ04
import Derived.Test.YtngehkmdanhgpaaGreatQ05
import Derived.Test.YtngehkmdanhgpaaGreatQ06
import Derived.Test.YtngehkmdanhgpaaGreatQ07
import Derived.Test.YtngehkmdanhgpaaGreatQ08
import Derived.Test.YtngehkmdanhgpaaGreatQ09
import Derived.Test.YtngehkmdanhgpaaGreatQ10
import Derived.Test.YtngehkmdanhgpaaGreatQ11
import Derived.Test.YtngehkmdanhgpaaGreatQ12
import Derived.Test.YtngehkmdanhgpaaGreatQ13
import Derived.Test.YtngehkmdanhgpaaGreatQ14
import Derived.Test.YtngehkmdanhgpaaGreatQ15
namespace Go.Proofs.YtngehkmdanhgpaaGreat.Pl
open Go.RowKit
open Vp (Str B bl Val cmpL parseS showS splitS withinS IsPath)
open Nd (Row wp_world post_Row post_Row2 grownBy_setCell below_of_grown)
open Rf (Fil Fls fcells)
def entOf (f : Fil) : Ent := ⟨nmsOf f.path, f.dir, f.data⟩
def rootE : Ent := ⟨[], true, ⟨#[]⟩⟩
def newA (fs : List Fil) : List Ent := rootE :: fs.map entOf
def firstErr (fs : List Fil) : Int := ((fs.map (fun f => errOf f.path)).find? (fun k => decide (k ≠ 0))).getD 0
def noneA (A : List Ent) (e : Ent) : Bool := !(entAt A e.names.dropLast).isSome
def fileA (A : List Ent) (e : Ent) : Bool := !((entAt A e.names.dropLast).map Ent.dir).getD false
def dirsA (A es : List Ent) : Int := if es.any (noneA A) then 4 else if es.any (fileA A) then 70 else 0
def newE (fs : List Fil) : Int := if firstErr fs ≠ 0 then firstErr fs else if dataE fs ≠ 0 then dataE fs else if ¬ ((newA fs).map (·.names)).Nodup then 5 else dirsA (newA fs) (fs.map entOf)
theorem dirsE_ent (L sp : List Spot) : dirsE L sp = dirsA (L.map Spot.ent) (sp.map Spot.ent) := by
  have h1 : ∀ s : Spot, noneP L s = noneA (L.map Spot.ent) s.ent := fun s => by
    simp only [noneP, noneA]
    rw [← spotAt_ent]
    simp [Spot.ent]
  have h2 : ∀ s : Spot, fileP L s = fileA (L.map Spot.ent) s.ent := fun s => by
    simp only [fileP, fileA]
    rw [← spotAt_ent]
    show _ = !(((spotAt L s.names.dropLast).map Spot.ent).map Ent.dir).getD false
    cases spotAt L s.names.dropLast <;> rfl
  unfold dirsE dirsA
  rw [List.any_map, List.any_map]
  have e1 : (noneA (L.map Spot.ent) ∘ Spot.ent) = noneP L := funext fun s => (h1 s).symm
  have e2 : (fileA (L.map Spot.ent) ∘ Spot.ent) = fileP L := funext fun s => (h2 s).symm
  rw [e1, e2]
theorem firstErr_none {fs : List Fil} (h : ∀ f ∈ fs, errOf f.path = 0) : firstErr fs = 0 := by
  unfold firstErr
  rw [List.find?_eq_none.2]
  · rfl
  · intro k hk
    obtain ⟨f, hf, rfl⟩ := List.mem_map.1 hk
    simp [h f hf]
theorem firstErr_at : ∀ {fs : List Fil} {j : Nat} {f : Fil}, fs[j]? = some f → errOf f.path ≠ 0 → (∀ (i : Nat) f', i < j → fs[i]? = some f' → errOf f'.path = 0) → firstErr fs = errOf f.path
  | [], j, f, h, _, _ => by simp at h
  | g :: r, 0, f, h, hk, _ => by
    simp only [List.getElem?_cons_zero, Option.some.injEq] at h
    subst h
    simp [firstErr, hk]
  | g :: r, j + 1, f, h, hk, hb => by
    have h0 := hb 0 g (by omega) rfl
    have ih := firstErr_at (fs := r) (j := j) (by simpa using h) hk (fun i f' hi hf => hb (i + 1) f' (by omega) (by simpa using hf))
    unfold firstErr at ih ⊢
    rw [List.map_cons, List.find?_cons_of_neg (by simp [h0])]
    exact ih
theorem mats_ent {sp : List Spot} {fs : List Fil} (h : Mats sp fs) : sp.map Spot.ent = fs.map entOf := by
  refine List.ext_getElem? fun i => ?_
  rw [List.getElem?_map, List.getElem?_map]
  rcases Nat.lt_or_ge i sp.length with hi | hi
  · have h1 : sp[i]? = some sp[i] := List.getElem?_eq_getElem hi
    have hi2 : i < fs.length := by rw [← h.1]; exact hi
    have h2 : fs[i]? = some fs[i] := List.getElem?_eq_getElem hi2
    obtain ⟨e1, _, e3, e4⟩ := h.2 i _ _ h1 h2
    rw [h1, h2]
    simp only [Option.map_some, Spot.ent, entOf, e1, e3, e4]
  · rw [List.getElem?_eq_none hi, List.getElem?_eq_none (by rw [← h.1]; exact hi)]
    rfl
theorem make58 (w : World) : (Instr.makeMap 58 none).run Tryz.prog w = .ok (.map (some w.heap.size)) (w.alloc (.map #[] 0)) := by
  simp [Instr.makeMap]
theorem Fs.new (w : World) : Fs ((w.alloc (.map #[] 0)).alloc (.cells #[.map (some w.heap.size)] 60)) (w.heap.size + 1) w.heap.size [] := by
  refine ⟨Row.newAt (w.alloc (.map #[] 0)) (w.heap.size + 1) [.map (some w.heap.size)] 60 (by simp), ⟨⟨#[], 0, ?_, rfl, by simp, by simp⟩, (fun s hs => by cases hs), (fun s hs => by cases hs), by simp⟩⟩
  rw [(MapKept.heap_alloc (w.alloc (.map #[] 0)) _).2 w.heap.size (by simp), (MapKept.heap_alloc w _).1]
theorem nodup_take {α : Type} [DecidableEq α] {l : List α} {i : Nat} {x : α} (hx : l[i]? = some x) (h : x ∈ l.take i) : ¬ l.Nodup := by
  intro hn
  obtain ⟨j, hj⟩ := List.getElem?_of_mem h
  rw [List.getElem?_take] at hj
  split at hj
  · rename_i hji
    have h1 := List.pairwise_iff_getElem.1 hn
    obtain ⟨hil, e1⟩ := List.getElem?_eq_some_iff.1 hx
    obtain ⟨hjl, e2⟩ := List.getElem?_eq_some_iff.1 hj
    exact h1 j i hjl hil hji (by rw [e1, e2])
  · cases hj
/-- between two rounds of New -/
structure NR (w0 : World) (g m : Nat) (fs : List Fil) (i : Nat) (W : World) : Prop where
  ex : ∃ L, Fs W g m L ∧ L.map Spot.ent = rootE :: (fs.take i).map entOf
  bel : Below w0.heap.size w0 W
theorem spotAt_mem {L : List Spot} {xs : List Str} : (spotAt L xs).isSome = true ↔ xs ∈ (L.map Spot.ent).map (·.names) := by
  unfold spotAt
  rw [List.find?_isSome]
  constructor
  · rintro ⟨s, hs, h⟩
    rw [List.map_map]
    exact List.mem_map.2 ⟨s, hs, of_decide_eq_true h⟩
  · intro h
    rw [List.map_map] at h
    obtain ⟨s, hs, h⟩ := List.mem_map.1 h
    exact ⟨s, hs, decide_eq_true h⟩
theorem grown_of_put {w0 W W' : World} {m : Nat} (h : Below w0.heap.size w0 W) (hg : W.grownBy W' (some m)) (hm : w0.heap.size ≤ m) : Below w0.heap.size w0 W' := h.grown hg h.size (fun k e => by obtain rfl := Option.some.inj e; exact hm)
set_option maxHeartbeats 4000000 in
set_option maxRecDepth 100000 in
theorem new_any (fs : List Fil) (v : Value) (w : World) (h : Fls w v fs) (hn : fs.length ≤ 100000) (hp : ∀ f ∈ fs, f.path.size ≤ 9223372036854775807) :
    Calls Tryz.prog 10 #[v] w fun e w' => Below w.heap.size w w' ∧ ((newE fs ≠ 0 ∧ e = .returned (.tuple #[.pointer none, .int .i64 (newE fs)])) ∨ (newE fs = 0 ∧ ∃ g m L, e = .returned (.tuple #[.pointer (some ⟨g, 0, none⟩), .int .i64 0]) ∧ Fs w' g m L ∧ w.heap.size ≤ g ∧ w.heap.size ≤ m ∧ L.map Spot.ent = newA fs)) := by
  have HPA := hid_in (parse_any fs v w h (by omega) hp)
  have HCD := hid_in (fun W (k : Below w.heap.size w W) => checkData_any fs v W (h.below k) (by omega))
  obtain ⟨vp, vc, rfl⟩ := h.form
  have HE : Hid (newE fs = if firstErr fs ≠ 0 then firstErr fs else if dataE fs ≠ 0 then dataE fs else if ¬ ((newA fs).map (·.names)).Nodup then 5 else dirsA (newA fs) (fs.map entOf)) := rfl
  obtain ⟨E, HEE⟩ : ∃ E, Hid (newE fs = E) := ⟨_, hid_in rfl⟩
  rw [HEE.out] at HE ⊢
  clear h hp
  have hn1 := hn
  go_enter Tryz.func10, Tryz.ntmps10
  go_upto_region 2 with (first | (go_at_call 23; refine HPA.out.mono ?_; rintro e w1 ⟨sv, k, rfl, hb1, hpr⟩; have HB1 := hid_in hb1; have HPR := hid_in hpr; clear hb1 hpr))
  rcases HPR.out with ⟨hk, rfl, j, f, h1, h2, h3⟩ | ⟨rfl, hok, sp, hsp, hm, hsv, hnm⟩
  · have hk2 : (k != 0) = true := by simpa using hk
    have hfe : firstErr fs = k := by rw [firstErr_at h1 (by rw [h2]; exact hk) h3, h2]
    have HEK : Hid (E = k) := by show _ = _; rw [HE.out, hfe, if_pos hk]
    have HKN := hid_in hk
    clear h1 h2 h3 hfe HPR hk
    go_wp2
    go_ret2
    exact ⟨HB1.out, .inl ⟨by rw [HEK.out]; exact HKN.out, by rw [HEK.out]; rfl⟩⟩
  · have hfe := firstErr_none hok
    have HE2 : Hid (E = if dataE fs ≠ 0 then dataE fs else if ¬ ((newA fs).map (·.names)).Nodup then 5 else dirsA (newA fs) (fs.map entOf)) := by show _ = _; rw [HE.out, hfe, if_neg (by simp)]
    have HSP := hid_in hsp
    have HM := hid_in hm
    have HNM := hid_in hnm
    subst hsv
    have hl : sp.length = fs.length := hm.1
    have HSL := hid_in hl
    clear hfe HE HPR hok hsp hm hnm
    by_cases hd : dataE fs = 0
    · have HE3 : Hid (E = if ¬ ((newA fs).map (·.names)).Nodup then 5 else dirsA (newA fs) (fs.map entOf)) := by show _ = _; rw [HE2.out, if_neg (by simp [hd])]
      rw [hd] at HCD
      clear hd HE2
      go_upto_region 7 with (first | (go_at_call 24; refine (HCD.out _ HB1.out).mono ?_; rintro e w2 ⟨rfl, hb2⟩; have HB2 := hid_in hb2; clear hb2))
      obtain ⟨W3, HW3⟩ : ∃ W3, Hid ((w2.alloc (.map #[] 0)).alloc (.cells #[.map (some w2.heap.size)] 60) = W3) := ⟨_, hid_in rfl⟩
      have HF3 : Hid (Fs W3 (w2.heap.size + 1) w2.heap.size []) := by rw [← HW3.out]; exact Fs.new w2
      have HB3 : Hid (Below w2.heap.size w2 W3) := by rw [← HW3.out]; exact ((Below.refl _ _).alloc (Nat.le_refl _) _).alloc (by simp) _
      have HB12 := hid_in (HB1.out.trans (HB2.out.mono HB1.out.size))
      have HPUT0 := hid_in (put_any HF3.out (show Rf.Nm W3 (.slice none 0 0) [] from World.ownsRow_nil _ _ _ _) Gp.nil true ⟨#[]⟩)
      have hmk := make58 w2
      go_upto_region 8 with fail
      refine wp_world HW3.out ?_
      go_upto_region 9 with (first | (go_at_call 25; refine HPUT0.out.mono ?_; rintro e w4 ⟨rfl, hf4, hg4⟩; have HF4 := hid_in hf4; have HB4 := hid_in (grown_of_put HB3.out hg4 (Nat.le_refl _)); clear hf4 hg4))
      have HSP2 := hid_in (HSP.out.below HB2.out)
      have HV2 := hid_in (fun s hs => ((HNM.out s hs).below HB2.out))
      have HGP : Hid (∀ s ∈ sp, Gp s.names) := fun s hs => by
        obtain ⟨i, hi⟩ := List.getElem?_of_mem hs
        have hil : i < fs.length := by rw [← HM.out.1]; exact (List.getElem?_eq_some_iff.1 hi).1
        rw [(HM.out.2 i s _ hi (List.getElem?_eq_getElem hil)).1]
        exact gp_nms _
      obtain ⟨sb, so, HS1, HS2⟩ : ∃ b o, Hid (sp ≠ [] → (⟨w.heap.size, 0, none⟩ : Addr) = ⟨b, o, none⟩ ∧ b < w2.heap.size) ∧ Hid (∀ j u, (scells sp)[j]? = some u → w2.cell? ⟨b, o + j, none⟩ = some u) := by
        obtain ⟨p, cap, b, o, e, _, _, h4, h5, _⟩ := HSP2.out
        simp only [Value.slice.injEq] at e
        obtain ⟨rfl, _, _⟩ := e
        exact ⟨b, o, fun hne => ⟨Option.some.inj (h4 hne).1, (h4 hne).2⟩, h5⟩
      go_wp2_with fail
      go_loopw [31] (fun vi W => ∃ i : Nat, i ≤ fs.length ∧ vi = .int .i64 (i : Int) ∧ Hid (NR w2 (w2.heap.size + 1) w2.heap.size fs i W)) (fun vi _ => fs.length - (intOf vi).toNat)
      case atStart => exact ⟨0, by omega, rfl, ⟨_, HF4.out, by rfl⟩, HB4.out⟩
      case round =>
        obtain ⟨i, hi, rfl, hR⟩ := hrel
        obtain ⟨L, hF, hA⟩ := hR.out.ex
        have HF := hid_in hF
        have HA := hid_in hA
        have HB := hid_in hR.out.bel
        clear hF hA hR
        by_cases hlt : i < fs.length
        · have hg : sp[i]? = some sp[i] := List.getElem?_eq_getElem (by omega)
          have hgf : fs[i]? = some fs[i] := List.getElem?_eq_getElem hlt
          obtain ⟨hp0, hb0⟩ := HS1.out (by intro h; simp [h] at hl; omega)
          have hrg : ∀ (y : Nat) u, (sp[i]).cells[y]? = some u → wr.cell? ⟨sb, so + i * 4 + y, none⟩ = some u := fun y u hy => by
            rw [HB.out.cell (p := ⟨sb, so + i * 4 + y, none⟩) hb0, Nat.add_assoc]
            exact HS2.out _ _ (scells_at hg y u hy)
          have hvs := (HV2.out _ (List.getElem_mem (show i < sp.length by omega))).below HB.out
          have hgs := HGP.out _ (List.getElem_mem (show i < sp.length by omega))
          have hmt := HM.out.2 i _ _ hg hgf
          generalize sp[i] = s at *
          obtain ⟨v, ns, pt, d, x⟩ := s
          simp only at hvs hgs
          obtain ⟨nq, nc, rfl⟩ : ∃ p c, v = .slice p ns.length c := hvs.form
          have HMT : Hid (entOf fs[i] = ⟨ns, d, x⟩) := by
            obtain ⟨e1, _, e3, e4⟩ := hmt
            show _ = _
            simp only at e1 e3 e4
            simp only [entOf, e1, e3, e4]
          generalize fs[i] = f at *
          obtain ⟨rfl, rfl⟩ : w.heap.size = sb ∧ (0 : Nat) = so := by injection hp0 with a1 a2; exact ⟨a1, a2⟩
          have m0 : wr.cell? ⟨w.heap.size, 0 + i * 4, none⟩ = some (.slice nq ns.length nc) := by simpa using hrg 0 _ rfl
          have m1 : wr.cell? ⟨w.heap.size, 0 + i * 4 + 1, none⟩ = some (.string pt) := hrg 1 _ rfl
          have m2 : wr.cell? ⟨w.heap.size, 0 + i * 4 + 2, none⟩ = some (.bool d) := hrg 2 _ rfl
          have m3 : wr.cell? ⟨w.heap.size, 0 + i * 4 + 3, none⟩ = some (.string x) := hrg 3 _ rfl
          rw [Nat.zero_add] at m0 m1 m2 m3
          have HVS := hid_in hvs
          have HGS := hid_in hgs
          have HGF := hid_in hgf
          have HHAS := hid_in (fun W (k : Below wr.heap.size wr W) => has_any (HF.out.below k) (HVS.out.below k).val HGS.out)
          have HPUT := hid_in (fun W (k : Below wr.heap.size wr W) => put_any (HF.out.below k) (HVS.out.below k) HGS.out d x)
          obtain ⟨nl, HNL⟩ : ∃ nl, Hid (ns.length = nl) := ⟨_, hid_in rfl⟩
          rw [HNL.out] at m0 HVS HHAS HPUT
          have HC4 : Hid ([Value.slice nq nl nc, .string pt, .bool d, .string x].length = 4) := rfl
          have HO4 : Hid (∀ v ∈ [Value.slice nq nl nc, .string pt, .bool d, .string x], v.oneCell' = true) := by
            intro v hv
            simp only [List.mem_cons, List.not_mem_nil, or_false] at hv
            rcases hv with rfl | rfl | rfl | rfl <;> rfl
          clear hrg hvs hgs hmt hg hgf hp0 hb0
          go_upto_region 12 with (first | (refine Nd.wpList_store_new rfl rfl 63 4 _ _ rfl _ [Value.slice nq nl nc, .string pt, .bool d, .string x] info63 rfl HC4 HO4 rfl rfl ?_; intro w5 hr5 hb5 hs5; have HR5 := hid_in hr5; have HB5 := hid_in hb5; have HS5 := hid_in hs5; clear hr5 hb5 hs5))
          obtain ⟨⟨c0, c1, c2, c3⟩, f0, f1, f2, f3⟩ := spot_cells HR5.out (Below.refl _ w5)
          clear m0 m1 m2 m3
          cases hsp : spotAt L ns with
          | some t =>
            rw [hsp] at HHAS
            have hmem : ns ∈ (rootE :: (fs.take i).map entOf).map (·.names) := by rw [← HA.out]; exact spotAt_mem.1 (by rw [hsp]; rfl)
            have HEK : Hid (E = 5) := by
              show _ = _
              rw [HE3.out, if_pos]
              refine nodup_take (i := i + 1) (x := ns) ?_ ?_
              · simp only [newA, List.map_cons, List.getElem?_cons_succ, List.map_map, List.getElem?_map, HGF.out, Option.map_some, Function.comp]
                rw [HMT.out]
              · simp only [newA, List.map_cons, List.take_succ_cons, ← List.map_take]
                simpa using hmem
            clear hsp hmem
            go_wp2_with (first | (go_at_call 26; refine (HHAS.out _ HB5.out).mono ?_; rintro e w6 ⟨rfl, hb6⟩; have HB6 := hid_in (HB5.out.trans (hb6.mono HB5.out.size)); clear hb6))
            go_ret2
            refine ⟨HB12.out.trans ((HB.out.trans (HB6.out.mono HB.out.size)).mono HB12.out.size), .inl ⟨by rw [HEK.out]; decide, by rw [HEK.out]; rfl⟩⟩
          | none =>
            rw [hsp] at HHAS
            have HPN : Hid (putP L ⟨.slice nq nl nc, ns, B (showS ns), d, x⟩ = L ++ [⟨.slice nq nl nc, ns, B (showS ns), d, x⟩]) := putP_new _ _ hsp
            clear hsp
            go_wp2_with (first | (go_at_call 26; refine (HHAS.out _ HB5.out).mono ?_; rintro e w6 ⟨rfl, hb6⟩; obtain ⟨⟨e0, e1, e2, e3⟩, -⟩ := spot_cells HR5.out hb6; have HB6 := hid_in (HB5.out.trans (hb6.mono HB5.out.size)); clear hb6) | (go_at_call 25; refine (HPUT.out _ HB6.out).mono ?_; rintro e w7 ⟨rfl, hf7, hg7⟩; have HF7 := hid_in hf7; have HB7 := hid_in (grown_of_put (HB.out.trans (HB6.out.mono HB.out.size)) hg7 (Nat.le_refl _)); clear hf7 hg7))
            refine ⟨⟨i + 1, by omega, by go_num, ⟨_, HF7.out, ?_⟩, HB7.out⟩, by simp [intOf]; omega⟩
            rw [HPN.out, List.map_append, HA.out, List.take_add_one, HGF.out]
            simp only [Option.toList_some, List.map_append, List.map_cons, List.map_nil, HMT.out, Spot.ent, List.cons_append]
        · obtain rfl : i = fs.length := by omega
          have HNA : Hid (L.map Spot.ent = newA fs) := by show _ = _; rw [HA.out, List.take_length]; rfl
          have HCK := hid_in (checkDirs_any HF.out sp _ (HSP2.out.below HB.out) (by omega) (fun s hs => ((HV2.out s hs).below HB.out).val) HGP.out)
          have HEK : Hid (E = dirsE L sp) := by
            show _ = _
            have hnd : ((newA fs).map (·.names)).Nodup := by
              rw [← HNA.out, List.map_map]
              exact HF.out.map.one
            rw [HE3.out, if_neg (by simp [hnd]), dirsE_ent, HNA.out, mats_ent HM.out]
          rw [← HEK.out, hl] at HCK
          by_cases hE : E = 0
          · have HE0 := hid_in hE
            rw [hE] at HCK
            clear hE
            go_wp2_with (first | (go_at_call 27; refine HCK.out.mono ?_; rintro e w6 ⟨rfl, hb6⟩; have HF6 := hid_in (HF.out.below hb6); have HB6 := hid_in (HB.out.trans (hb6.mono HB.out.size)); clear hb6))
            go_ret2
            refine ⟨HB12.out.trans (HB6.out.mono HB12.out.size), .inr ⟨HE0.out, _, _, _, rfl, HF6.out, Nat.le_succ_of_le HB12.out.size, HB12.out.size, HNA.out⟩⟩
          · have hE2 : (E != 0) = true := by simpa using hE
            have HE0 := hid_in hE
            clear hE
            go_wp2_with (first | (go_at_call 27; refine HCK.out.mono ?_; rintro e w6 ⟨rfl, hb6⟩; have HB6 := hid_in (HB.out.trans (hb6.mono HB.out.size)); clear hb6))
            go_ret2
            exact ⟨HB12.out.trans (HB6.out.mono HB12.out.size), .inl ⟨HE0.out, rfl⟩⟩
    · have hd2 : (dataE fs != 0) = true := by simpa using hd
      have HEK : Hid (E = dataE fs) := by show _ = _; rw [HE2.out, if_pos hd]
      have HKN := hid_in hd
      generalize dataE fs = de at *
      clear hd
      go_wp2_with (first | (go_at_call 24; refine (HCD.out _ HB1.out).mono ?_; rintro e w2 ⟨rfl, hb2⟩; have HB2 := hid_in hb2; clear hb2))
      go_ret2
      exact ⟨HB1.out.trans (HB2.out.mono HB1.out.size), .inl ⟨by rw [HEK.out]; exact HKN.out, by rw [HEK.out]; rfl⟩⟩
end Go.Proofs.YtngehkmdanhgpaaGreat.Pl
namespace Go.Proofs.YtngehkmdanhgpaaGreat.Pl
open Go.RowKit
open Vp (Str B bl Val cmpL parseS showS splitS withinS IsPath)
open Nd (Row wp_world post_Row post_Row2 grownBy_setCell below_of_grown)
def noEnt : Ent := ⟨[], false, ⟨#[]⟩⟩
def goA (A : List Ent) : Ent → List (List Str) → Ent × Int
  | s, [] => (s, 0)
  | s, p :: ps => if s.dir = false then (noEnt, 70) else match entAt A p with
    | none => (noEnt, 4)
    | some t => goA A t ps
def findA (A : List Ent) (xs : List Str) : Ent × Int := goA A rootE (inits xs)
theorem goF_ent (L : List Spot) : ∀ (ps : List (List Str)) (s : Spot), ((goF L s ps).1.ent, (goF L s ps).2) = goA (L.map Spot.ent) s.ent ps
  | [], s => rfl
  | p :: ps, s => by
    have hd : s.ent.dir = s.dir := rfl
    simp only [goF, goA, hd]
    split
    · rfl
    · rw [← spotAt_ent]
      cases spotAt L p with
      | none => rfl
      | some t => exact goF_ent L ps t
theorem findP_ent (L : List Spot) (xs : List Str) : (findP L xs).2 = (findA (L.map Spot.ent) xs).2 ∧ (findP L xs).1.ent = (findA (L.map Spot.ent) xs).1 := by
  have h := goF_ent L (inits xs) Spot.top
  have e : Spot.top.ent = rootE := rfl
  rw [e] at h
  unfold findP findA
  rw [← h]
  exact ⟨rfl, rfl⟩
def findDA (A : List Ent) (xs : List Str) : Ent × Int := if (findA A xs).2 = 0 ∧ (findA A xs).1.dir = false then (noEnt, 70) else findA A xs
def findFA (A : List Ent) (xs : List Str) : Ent × Int := if (findA A xs).2 = 0 ∧ (findA A xs).1.dir = true then (noEnt, 71) else findA A xs
theorem findD_ent (L : List Spot) (xs : List Str) : (findD L xs).2 = (findDA (L.map Spot.ent) xs).2 ∧ (findD L xs).1.ent = (findDA (L.map Spot.ent) xs).1 := by
  obtain ⟨h1, h2⟩ := findP_ent L xs
  have h3 : (findP L xs).1.dir = (findA (L.map Spot.ent) xs).1.dir := by rw [← h2]; rfl
  unfold findD findDA
  rw [h1, h3]
  split
  · exact ⟨rfl, rfl⟩
  · exact ⟨h1, h2⟩
theorem findF_ent (L : List Spot) (xs : List Str) : (findF L xs).2 = (findFA (L.map Spot.ent) xs).2 ∧ (findF L xs).1.ent = (findFA (L.map Spot.ent) xs).1 := by
  obtain ⟨h1, h2⟩ := findP_ent L xs
  have h3 : (findP L xs).1.dir = (findA (L.map Spot.ent) xs).1.dir := by rw [← h2]; rfl
  unfold findF findFA
  rw [h1, h3]
  split
  · exact ⟨rfl, rfl⟩
  · exact ⟨h1, h2⟩
theorem res_cells {W w2 : World} {b : Nat} {a c : Int} {d : Bool} {x : ByteArray} {v : Value} (hr : Row W b [.int .i64 a, .bool d, .int .i64 c, .string x, v] 37) (k : Below W.heap.size W w2) : (w2.cell? ⟨b, 0, none⟩ = some (.int .i64 a) ∧ w2.cell? ⟨b, 1, none⟩ = some (.bool d) ∧ w2.cell? ⟨b, 2, none⟩ = some (.int .i64 c) ∧ w2.cell? ⟨b, 3, none⟩ = some (.string x) ∧ w2.cell? ⟨b, 4, none⟩ = some v) ∧ w2.frozen? ⟨b, 0, none⟩ = false ∧ w2.frozen? ⟨b, 1, none⟩ = false ∧ w2.frozen? ⟨b, 2, none⟩ = false ∧ w2.frozen? ⟨b, 3, none⟩ = false ∧ w2.frozen? ⟨b, 4, none⟩ = false := by
  have h := hr.below k hr.lt
  exact ⟨⟨h.cell 0, h.cell 1, h.cell 2, h.cell 3, h.cell 4⟩, h.frozen 0, h.frozen 1, h.frozen 2, h.frozen 3, h.frozen 4⟩
theorem set5_below {B b : Nat} {w W : World} (h : Below B w W) (hb : B ≤ b) (v0 v1 v2 v3 v4 : Value) : Below B w (((((W.setCell ⟨b, 0, none⟩ v0).setCell ⟨b, 1, none⟩ v1).setCell ⟨b, 2, none⟩ v2).setCell ⟨b, 3, none⟩ v3).setCell ⟨b, 4, none⟩ v4) :=
  ((((h.setCell (p := ⟨b, 0, none⟩) hb v0).setCell (p := ⟨b, 1, none⟩) hb v1).setCell (p := ⟨b, 2, none⟩) hb v2).setCell (p := ⟨b, 3, none⟩) hb v3).setCell (p := ⟨b, 4, none⟩) hb v4
theorem set5_row {W : World} {b : Nat} {vs : List Value} (h : Row W b vs 37) (hl : vs.length = 5) (v0 v1 v2 v3 v4 : Value) : Row (((((W.setCell ⟨b, 0, none⟩ v0).setCell ⟨b, 1, none⟩ v1).setCell ⟨b, 2, none⟩ v2).setCell ⟨b, 3, none⟩ v3).setCell ⟨b, 4, none⟩ v4) b [v0, v1, v2, v3, v4] 37 := by
  have := ((((h.set_same 0 v0).set_same 1 v1).set_same 2 v2).set_same 3 v3).set_same 4 v4
  rcases vs with _ | ⟨a0, _ | ⟨a1, _ | ⟨a2, _ | ⟨a3, _ | ⟨a4, _ | ⟨a5, r⟩⟩⟩⟩⟩⟩ <;> simp at hl
  exact this
end Go.Proofs.YtngehkmdanhgpaaGreat.Pl
