/-
  The walk of New. What is looked up, by what is there alone; add. The walks of add, mkdir, create. Texts: pieces of them, put together; the lesser of two numbers. The walks of mkdir, create; write.
-/
import Derived.Lib.AppendZeros
import Derived.Deep.DrawnRows
import Derived.Lib.SlBytesConst
import Derived.Deep.RegionLaw
import Derived.Laws.Tables
import Derived.Laws.CopyOwn
import Derived.Test.YtngehkmdanhgpaaGreatR00
import Derived.Test.YtngehkmdanhgpaaGreatR01
import Derived.Test.YtngehkmdanhgpaaGreatR02
import Derived.Test.YtngehkmdanhgpaaGreatR03
import Derived.Test.YtngehkmdanhgpaaGreatR04
namespace Go.Proofs.YtngehkmdanhgpaaGreat.Pl
open Go.RowKit
open Vp (Str B bl Val cmpL parseS showS splitS withinS IsPath)
open Nd (Row wp_world post_Row post_Row2 grownBy_setCell below_of_grown)
open Rf (Fil Fls fcells)
def entOf (f : Fil) : Ent := ⟨nmsOf f.path, f.dir, f.data⟩
def rootE : Ent := ⟨[], true, ⟨#[]⟩⟩
def newA (fs : List Fil) : List Ent := rootE :: fs.map entOf
def firstErr (fs : List Fil) : Int := ((fs.map (fun f => errOf f.path)).find? (fun k => decide (k ≠ 0))).getD 0
def noneA (A : List Ent) (e : Ent) : Bool := !(entAt A e.names.dropLast).isSome
def fileA (A : List Ent) (e : Ent) : Bool := !((entAt A e.names.dropLast).map Ent.dir).getD false
def dirsA (A es : List Ent) : Int := if es.any (noneA A) then 4 else if es.any (fileA A) then 70 else 0
def newE (fs : List Fil) : Int := if firstErr fs ≠ 0 then firstErr fs else if dataE fs ≠ 0 then dataE fs else if ¬ ((newA fs).map (·.names)).Nodup then 5 else dirsA (newA fs) (fs.map entOf)
theorem dirsE_ent (L sp : List Spot) : dirsE L sp = dirsA (L.map Spot.ent) (sp.map Spot.ent) := by
  have h1 : ∀ s : Spot, noneP L s = noneA (L.map Spot.ent) s.ent := fun s => by
    simp only [noneP, noneA]
    rw [← spotAt_ent]
    simp [Spot.ent]
  have h2 : ∀ s : Spot, fileP L s = fileA (L.map Spot.ent) s.ent := fun s => by
    simp only [fileP, fileA]
    rw [← spotAt_ent]
    show _ = !(((spotAt L s.names.dropLast).map Spot.ent).map Ent.dir).getD false
    cases spotAt L s.names.dropLast <;> rfl
  unfold dirsE dirsA
  rw [List.any_map, List.any_map]
  have e1 : (noneA (L.map Spot.ent) ∘ Spot.ent) = noneP L := funext fun s => (h1 s).symm
  have e2 : (fileA (L.map Spot.ent) ∘ Spot.ent) = fileP L := funext fun s => (h2 s).symm
  rw [e1, e2]
theorem firstErr_none {fs : List Fil} (h : ∀ f ∈ fs, errOf f.path = 0) : firstErr fs = 0 := by
  unfold firstErr
  rw [List.find?_eq_none.2]
  · rfl
  · intro k hk
    obtain ⟨f, hf, rfl⟩ := List.mem_map.1 hk
    simp [h f hf]
theorem firstErr_at : ∀ {fs : List Fil} {j : Nat} {f : Fil}, fs[j]? = some f → errOf f.path ≠ 0 → (∀ (i : Nat) f', i < j → fs[i]? = some f' → errOf f'.path = 0) → firstErr fs = errOf f.path
  | [], j, f, h, _, _ => by simp at h
  | g :: r, 0, f, h, hk, _ => by
    simp only [List.getElem?_cons_zero, Option.some.injEq] at h
    subst h
    simp [firstErr, hk]
  | g :: r, j + 1, f, h, hk, hb => by
    have h0 := hb 0 g (by omega) rfl
    have ih := firstErr_at (fs := r) (j := j) (by simpa using h) hk (fun i f' hi hf => hb (i + 1) f' (by omega) (by simpa using hf))
    unfold firstErr at ih ⊢
    rw [List.map_cons, List.find?_cons_of_neg (by simp [h0])]
    exact ih
theorem mats_ent {sp : List Spot} {fs : List Fil} (h : Mats sp fs) : sp.map Spot.ent = fs.map entOf := by
  refine List.ext_getElem? fun i => ?_
  rw [List.getElem?_map, List.getElem?_map]
  rcases Nat.lt_or_ge i sp.length with hi | hi
  · have h1 : sp[i]? = some sp[i] := List.getElem?_eq_getElem hi
    have hi2 : i < fs.length := by rw [← h.1]; exact hi
    have h2 : fs[i]? = some fs[i] := List.getElem?_eq_getElem hi2
    obtain ⟨e1, _, e3, e4⟩ := h.2 i _ _ h1 h2
    rw [h1, h2]
    simp only [Option.map_some, Spot.ent, entOf, e1, e3, e4]
  · rw [List.getElem?_eq_none hi, List.getElem?_eq_none (by rw [← h.1]; exact hi)]
    rfl
theorem make58 (w : World) : (Instr.makeMap 58 none).run Tryz.prog w = .ok (.map (some w.heap.size)) (w.alloc (.map #[] 0)) := by
  simp [Instr.makeMap]
theorem Fs.new (w : World) : Fs ((w.alloc (.map #[] 0)).alloc (.cells #[.map (some w.heap.size)] 60)) (w.heap.size + 1) w.heap.size [] := by
  refine ⟨Row.newAt (w.alloc (.map #[] 0)) (w.heap.size + 1) [.map (some w.heap.size)] 60 (by simp), ⟨⟨#[], 0, ?_, rfl, by simp, by simp⟩, (fun s hs => by cases hs), (fun s hs => by cases hs), by simp⟩⟩
  rw [(MapKept.heap_alloc (w.alloc (.map #[] 0)) _).2 w.heap.size (by simp), (MapKept.heap_alloc w _).1]
theorem nodup_take {α : Type} [DecidableEq α] {l : List α} {i : Nat} {x : α} (hx : l[i]? = some x) (h : x ∈ l.take i) : ¬ l.Nodup := by
  intro hn
  obtain ⟨j, hj⟩ := List.getElem?_of_mem h
  rw [List.getElem?_take] at hj
  split at hj
  · rename_i hji
    have h1 := List.pairwise_iff_getElem.1 hn
    obtain ⟨hil, e1⟩ := List.getElem?_eq_some_iff.1 hx
    obtain ⟨hjl, e2⟩ := List.getElem?_eq_some_iff.1 hj
    exact h1 j i hjl hil hji (by rw [e1, e2])
  · cases hj
/-- between two rounds of New -/
structure NR (w0 : World) (g m : Nat) (fs : List Fil) (i : Nat) (W : World) : Prop where
  ex : ∃ L, Fs W g m L ∧ L.map Spot.ent = rootE :: (fs.take i).map entOf
  bel : Below w0.heap.size w0 W
theorem spotAt_mem {L : List Spot} {xs : List Str} : (spotAt L xs).isSome = true ↔ xs ∈ (L.map Spot.ent).map (·.names) := by
  unfold spotAt
  rw [List.find?_isSome]
  constructor
  · rintro ⟨s, hs, h⟩
    rw [List.map_map]
    exact List.mem_map.2 ⟨s, hs, of_decide_eq_true h⟩
  · intro h
    rw [List.map_map] at h
    obtain ⟨s, hs, h⟩ := List.mem_map.1 h
    exact ⟨s, hs, decide_eq_true h⟩
theorem grown_of_put {w0 W W' : World} {m : Nat} (h : Below w0.heap.size w0 W) (hg : W.grownBy W' (some m)) (hm : w0.heap.size ≤ m) : Below w0.heap.size w0 W' := h.grown hg h.size (fun k e => by obtain rfl := Option.some.inj e; exact hm)
set_option maxHeartbeats 4000000 in
set_option maxRecDepth 100000 in
theorem new_any (fs : List Fil) (v : Value) (w : World) (h : Fls w v fs) (hn : fs.length ≤ 100000) (hp : ∀ f ∈ fs, f.path.size ≤ 9223372036854775807) :
    Calls Tryz.prog 10 #[v] w fun e w' => Below w.heap.size w w' ∧ ((newE fs ≠ 0 ∧ e = .returned (.tuple #[.pointer none, .int .i64 (newE fs)])) ∨ (newE fs = 0 ∧ ∃ g m L, e = .returned (.tuple #[.pointer (some ⟨g, 0, none⟩), .int .i64 0]) ∧ Fs w' g m L ∧ w.heap.size ≤ g ∧ w.heap.size ≤ m ∧ L.map Spot.ent = newA fs)) := by
  have HPA := hid_in (parse_any fs v w h (by omega) hp)
  have HCD := hid_in (fun W (k : Below w.heap.size w W) => checkData_any fs v W (h.below k) (by omega))
  obtain ⟨vp, vc, rfl⟩ := h.form
  have HE : Hid (newE fs = if firstErr fs ≠ 0 then firstErr fs else if dataE fs ≠ 0 then dataE fs else if ¬ ((newA fs).map (·.names)).Nodup then 5 else dirsA (newA fs) (fs.map entOf)) := rfl
  obtain ⟨E, HEE⟩ : ∃ E, Hid (newE fs = E) := ⟨_, hid_in rfl⟩
  rw [HEE.out] at HE ⊢
  clear h hp
  have hn1 := hn
  go_enter Tryz.func10, Tryz.ntmps10
  go_upto_region 2 with (first | (go_at_call 23; refine HPA.out.mono ?_; rintro e w1 ⟨sv, k, rfl, hb1, hpr⟩; have HB1 := hid_in hb1; have HPR := hid_in hpr; clear hb1 hpr))
  rcases HPR.out with ⟨hk, rfl, j, f, h1, h2, h3⟩ | ⟨rfl, hok, sp, hsp, hm, hsv, hnm⟩
  · have hk2 : (k != 0) = true := by simpa using hk
    have hfe : firstErr fs = k := by rw [firstErr_at h1 (by rw [h2]; exact hk) h3, h2]
    have HEK : Hid (E = k) := by show _ = _; rw [HE.out, hfe, if_pos hk]
    have HKN := hid_in hk
    clear h1 h2 h3 hfe HPR hk
    go_wp2
    go_ret2
    exact ⟨HB1.out, .inl ⟨by rw [HEK.out]; exact HKN.out, by rw [HEK.out]; rfl⟩⟩
  · have hfe := firstErr_none hok
    have HE2 : Hid (E = if dataE fs ≠ 0 then dataE fs else if ¬ ((newA fs).map (·.names)).Nodup then 5 else dirsA (newA fs) (fs.map entOf)) := by show _ = _; rw [HE.out, hfe, if_neg (by simp)]
    have HSP := hid_in hsp
    have HM := hid_in hm
    have HNM := hid_in hnm
    subst hsv
    have hl : sp.length = fs.length := hm.1
    have HSL := hid_in hl
    clear hfe HE HPR hok hsp hm hnm
    by_cases hd : dataE fs = 0
    · have HE3 : Hid (E = if ¬ ((newA fs).map (·.names)).Nodup then 5 else dirsA (newA fs) (fs.map entOf)) := by show _ = _; rw [HE2.out, if_neg (by simp [hd])]
      rw [hd] at HCD
      clear hd HE2
      go_upto_region 7 with (first | (go_at_call 24; refine (HCD.out _ HB1.out).mono ?_; rintro e w2 ⟨rfl, hb2⟩; have HB2 := hid_in hb2; clear hb2))
      obtain ⟨W3, HW3⟩ : ∃ W3, Hid ((w2.alloc (.map #[] 0)).alloc (.cells #[.map (some w2.heap.size)] 60) = W3) := ⟨_, hid_in rfl⟩
      have HF3 : Hid (Fs W3 (w2.heap.size + 1) w2.heap.size []) := by rw [← HW3.out]; exact Fs.new w2
      have HB3 : Hid (Below w2.heap.size w2 W3) := by rw [← HW3.out]; exact ((Below.refl _ _).alloc (Nat.le_refl _) _).alloc (by simp) _
      have HB12 := hid_in (HB1.out.trans (HB2.out.mono HB1.out.size))
      have HPUT0 := hid_in (put_any HF3.out (show Rf.Nm W3 (.slice none 0 0) [] from World.ownsRow_nil _ _ _ _) Gp.nil true ⟨#[]⟩)
      have hmk := make58 w2
      go_upto_region 8 with fail
      refine wp_world HW3.out ?_
      go_upto_region 9 with (first | (go_at_call 25; refine HPUT0.out.mono ?_; rintro e w4 ⟨rfl, hf4, hg4⟩; have HF4 := hid_in hf4; have HB4 := hid_in (grown_of_put HB3.out hg4 (Nat.le_refl _)); clear hf4 hg4))
      have HSP2 := hid_in (HSP.out.below HB2.out)
      have HV2 := hid_in (fun s hs => ((HNM.out s hs).below HB2.out))
      have HGP : Hid (∀ s ∈ sp, Gp s.names) := fun s hs => by
        obtain ⟨i, hi⟩ := List.getElem?_of_mem hs
        have hil : i < fs.length := by rw [← HM.out.1]; exact (List.getElem?_eq_some_iff.1 hi).1
        rw [(HM.out.2 i s _ hi (List.getElem?_eq_getElem hil)).1]
        exact gp_nms _
      obtain ⟨sb, so, HS1, HS2⟩ : ∃ b o, Hid (sp ≠ [] → (⟨w.heap.size, 0, none⟩ : Addr) = ⟨b, o, none⟩ ∧ b < w2.heap.size) ∧ Hid (∀ j u, (scells sp)[j]? = some u → w2.cell? ⟨b, o + j, none⟩ = some u) := by
        obtain ⟨p, cap, b, o, e, _, _, h4, h5, _⟩ := HSP2.out
        simp only [Value.slice.injEq] at e
        obtain ⟨rfl, _, _⟩ := e
        exact ⟨b, o, fun hne => ⟨Option.some.inj (h4 hne).1, (h4 hne).2⟩, h5⟩
      go_wp2_with fail
      go_loopw [31] (fun vi W => ∃ i : Nat, i ≤ fs.length ∧ vi = .int .i64 (i : Int) ∧ Hid (NR w2 (w2.heap.size + 1) w2.heap.size fs i W)) (fun vi _ => fs.length - (intOf vi).toNat)
      case atStart => exact ⟨0, by omega, rfl, ⟨_, HF4.out, by rfl⟩, HB4.out⟩
      case round =>
        obtain ⟨i, hi, rfl, hR⟩ := hrel
        obtain ⟨L, hF, hA⟩ := hR.out.ex
        have HF := hid_in hF
        have HA := hid_in hA
        have HB := hid_in hR.out.bel
        clear hF hA hR
        by_cases hlt : i < fs.length
        · have hg : sp[i]? = some sp[i] := List.getElem?_eq_getElem (by omega)
          have hgf : fs[i]? = some fs[i] := List.getElem?_eq_getElem hlt
          obtain ⟨hp0, hb0⟩ := HS1.out (by intro h; simp [h] at hl; omega)
          have hrg : ∀ (y : Nat) u, (sp[i]).cells[y]? = some u → wr.cell? ⟨sb, so + i * 4 + y, none⟩ = some u := fun y u hy => by
            rw [HB.out.cell (p := ⟨sb, so + i * 4 + y, none⟩) hb0, Nat.add_assoc]
            exact HS2.out _ _ (scells_at hg y u hy)
          have hvs := (HV2.out _ (List.getElem_mem (show i < sp.length by omega))).below HB.out
          have hgs := HGP.out _ (List.getElem_mem (show i < sp.length by omega))
          have hmt := HM.out.2 i _ _ hg hgf
          generalize sp[i] = s at *
          obtain ⟨v, ns, pt, d, x⟩ := s
          simp only at hvs hgs
          obtain ⟨nq, nc, rfl⟩ : ∃ p c, v = .slice p ns.length c := hvs.form
          have HMT : Hid (entOf fs[i] = ⟨ns, d, x⟩) := by
            obtain ⟨e1, _, e3, e4⟩ := hmt
            show _ = _
            simp only at e1 e3 e4
            simp only [entOf, e1, e3, e4]
          generalize fs[i] = f at *
          obtain ⟨rfl, rfl⟩ : w.heap.size = sb ∧ (0 : Nat) = so := by injection hp0 with a1 a2; exact ⟨a1, a2⟩
          have m0 : wr.cell? ⟨w.heap.size, 0 + i * 4, none⟩ = some (.slice nq ns.length nc) := by simpa using hrg 0 _ rfl
          have m1 : wr.cell? ⟨w.heap.size, 0 + i * 4 + 1, none⟩ = some (.string pt) := hrg 1 _ rfl
          have m2 : wr.cell? ⟨w.heap.size, 0 + i * 4 + 2, none⟩ = some (.bool d) := hrg 2 _ rfl
          have m3 : wr.cell? ⟨w.heap.size, 0 + i * 4 + 3, none⟩ = some (.string x) := hrg 3 _ rfl
          rw [Nat.zero_add] at m0 m1 m2 m3
          have HVS := hid_in hvs
          have HGS := hid_in hgs
          have HGF := hid_in hgf
          have HHAS := hid_in (fun W (k : Below wr.heap.size wr W) => has_any (HF.out.below k) (HVS.out.below k).val HGS.out)
          have HPUT := hid_in (fun W (k : Below wr.heap.size wr W) => put_any (HF.out.below k) (HVS.out.below k) HGS.out d x)
          obtain ⟨nl, HNL⟩ : ∃ nl, Hid (ns.length = nl) := ⟨_, hid_in rfl⟩
          rw [HNL.out] at m0 HVS HHAS HPUT
          have HC4 : Hid ([Value.slice nq nl nc, .string pt, .bool d, .string x].length = 4) := rfl
          have HO4 : Hid (∀ v ∈ [Value.slice nq nl nc, .string pt, .bool d, .string x], v.oneCell' = true) := by
            intro v hv
            simp only [List.mem_cons, List.not_mem_nil, or_false] at hv
            rcases hv with rfl | rfl | rfl | rfl <;> rfl
          clear hrg hvs hgs hmt hg hgf hp0 hb0
          go_upto_region 12 with (first | (refine Nd.wpList_store_new rfl rfl 63 4 _ _ rfl _ [Value.slice nq nl nc, .string pt, .bool d, .string x] info63 rfl HC4 HO4 rfl rfl ?_; intro w5 hr5 hb5 hs5; have HR5 := hid_in hr5; have HB5 := hid_in hb5; have HS5 := hid_in hs5; clear hr5 hb5 hs5))
          obtain ⟨⟨c0, c1, c2, c3⟩, f0, f1, f2, f3⟩ := spot_cells HR5.out (Below.refl _ w5)
          clear m0 m1 m2 m3
          cases hsp : spotAt L ns with
          | some t =>
            rw [hsp] at HHAS
            have hmem : ns ∈ (rootE :: (fs.take i).map entOf).map (·.names) := by rw [← HA.out]; exact spotAt_mem.1 (by rw [hsp]; rfl)
            have HEK : Hid (E = 5) := by
              show _ = _
              rw [HE3.out, if_pos]
              refine nodup_take (i := i + 1) (x := ns) ?_ ?_
              · simp only [newA, List.map_cons, List.getElem?_cons_succ, List.map_map, List.getElem?_map, HGF.out, Option.map_some, Function.comp]
                rw [HMT.out]
              · simp only [newA, List.map_cons, List.take_succ_cons, ← List.map_take]
                simpa using hmem
            clear hsp hmem
            go_wp2_with (first | (go_at_call 26; refine (HHAS.out _ HB5.out).mono ?_; rintro e w6 ⟨rfl, hb6⟩; have HB6 := hid_in (HB5.out.trans (hb6.mono HB5.out.size)); clear hb6))
            go_ret2
            refine ⟨HB12.out.trans ((HB.out.trans (HB6.out.mono HB.out.size)).mono HB12.out.size), .inl ⟨by rw [HEK.out]; decide, by rw [HEK.out]; rfl⟩⟩
          | none =>
            rw [hsp] at HHAS
            have HPN : Hid (putP L ⟨.slice nq nl nc, ns, B (showS ns), d, x⟩ = L ++ [⟨.slice nq nl nc, ns, B (showS ns), d, x⟩]) := putP_new _ _ hsp
            clear hsp
            go_wp2_with (first | (go_at_call 26; refine (HHAS.out _ HB5.out).mono ?_; rintro e w6 ⟨rfl, hb6⟩; obtain ⟨⟨e0, e1, e2, e3⟩, -⟩ := spot_cells HR5.out hb6; have HB6 := hid_in (HB5.out.trans (hb6.mono HB5.out.size)); clear hb6) | (go_at_call 25; refine (HPUT.out _ HB6.out).mono ?_; rintro e w7 ⟨rfl, hf7, hg7⟩; have HF7 := hid_in hf7; have HB7 := hid_in (grown_of_put (HB.out.trans (HB6.out.mono HB.out.size)) hg7 (Nat.le_refl _)); clear hf7 hg7))
            refine ⟨⟨i + 1, by omega, by go_num, ⟨_, HF7.out, ?_⟩, HB7.out⟩, by simp [intOf]; omega⟩
            rw [HPN.out, List.map_append, HA.out, List.take_add_one, HGF.out]
            simp only [Option.toList_some, List.map_append, List.map_cons, List.map_nil, HMT.out, Spot.ent, List.cons_append]
        · obtain rfl : i = fs.length := by omega
          have HNA : Hid (L.map Spot.ent = newA fs) := by show _ = _; rw [HA.out, List.take_length]; rfl
          have HCK := hid_in (checkDirs_any HF.out sp _ (HSP2.out.below HB.out) (by omega) (fun s hs => ((HV2.out s hs).below HB.out).val) HGP.out)
          have HEK : Hid (E = dirsE L sp) := by
            show _ = _
            have hnd : ((newA fs).map (·.names)).Nodup := by
              rw [← HNA.out, List.map_map]
              exact HF.out.map.one
            rw [HE3.out, if_neg (by simp [hnd]), dirsE_ent, HNA.out, mats_ent HM.out]
          rw [← HEK.out, hl] at HCK
          by_cases hE : E = 0
          · have HE0 := hid_in hE
            rw [hE] at HCK
            clear hE
            go_wp2_with (first | (go_at_call 27; refine HCK.out.mono ?_; rintro e w6 ⟨rfl, hb6⟩; have HF6 := hid_in (HF.out.below hb6); have HB6 := hid_in (HB.out.trans (hb6.mono HB.out.size)); clear hb6))
            go_ret2
            refine ⟨HB12.out.trans (HB6.out.mono HB12.out.size), .inr ⟨HE0.out, _, _, _, rfl, HF6.out, Nat.le_succ_of_le HB12.out.size, HB12.out.size, HNA.out⟩⟩
          · have hE2 : (E != 0) = true := by simpa using hE
            have HE0 := hid_in hE
            clear hE
            go_wp2_with (first | (go_at_call 27; refine HCK.out.mono ?_; rintro e w6 ⟨rfl, hb6⟩; have HB6 := hid_in (HB.out.trans (hb6.mono HB.out.size)); clear hb6))
            go_ret2
            exact ⟨HB12.out.trans (HB6.out.mono HB12.out.size), .inl ⟨HE0.out, rfl⟩⟩
    · have hd2 : (dataE fs != 0) = true := by simpa using hd
      have HEK : Hid (E = dataE fs) := by show _ = _; rw [HE2.out, if_pos hd]
      have HKN := hid_in hd
      generalize dataE fs = de at *
      clear hd
      go_wp2_with (first | (go_at_call 24; refine (HCD.out _ HB1.out).mono ?_; rintro e w2 ⟨rfl, hb2⟩; have HB2 := hid_in hb2; clear hb2))
      go_ret2
      exact ⟨HB1.out.trans (HB2.out.mono HB1.out.size), .inl ⟨by rw [HEK.out]; exact HKN.out, by rw [HEK.out]; rfl⟩⟩
end Go.Proofs.YtngehkmdanhgpaaGreat.Pl
namespace Go.Proofs.YtngehkmdanhgpaaGreat.Pl
open Go.RowKit
open Vp (Str B bl Val cmpL parseS showS splitS withinS IsPath)
open Nd (Row wp_world post_Row post_Row2 grownBy_setCell below_of_grown)
def noEnt : Ent := ⟨[], false, ⟨#[]⟩⟩
def goA (A : List Ent) : Ent → List (List Str) → Ent × Int
  | s, [] => (s, 0)
  | s, p :: ps => if s.dir = false then (noEnt, 70) else match entAt A p with
    | none => (noEnt, 4)
    | some t => goA A t ps
def findA (A : List Ent) (xs : List Str) : Ent × Int := goA A rootE (inits xs)
theorem goF_ent (L : List Spot) : ∀ (ps : List (List Str)) (s : Spot), ((goF L s ps).1.ent, (goF L s ps).2) = goA (L.map Spot.ent) s.ent ps
  | [], s => rfl
  | p :: ps, s => by
    have hd : s.ent.dir = s.dir := rfl
    simp only [goF, goA, hd]
    split
    · rfl
    · rw [← spotAt_ent]
      cases spotAt L p with
      | none => rfl
      | some t => exact goF_ent L ps t
theorem findP_ent (L : List Spot) (xs : List Str) : (findP L xs).2 = (findA (L.map Spot.ent) xs).2 ∧ (findP L xs).1.ent = (findA (L.map Spot.ent) xs).1 := by
  have h := goF_ent L (inits xs) Spot.top
  have e : Spot.top.ent = rootE := rfl
  rw [e] at h
  unfold findP findA
  rw [← h]
  exact ⟨rfl, rfl⟩
def findDA (A : List Ent) (xs : List Str) : Ent × Int := if (findA A xs).2 = 0 ∧ (findA A xs).1.dir = false then (noEnt, 70) else findA A xs
def findFA (A : List Ent) (xs : List Str) : Ent × Int := if (findA A xs).2 = 0 ∧ (findA A xs).1.dir = true then (noEnt, 71) else findA A xs
theorem findD_ent (L : List Spot) (xs : List Str) : (findD L xs).2 = (findDA (L.map Spot.ent) xs).2 ∧ (findD L xs).1.ent = (findDA (L.map Spot.ent) xs).1 := by
  obtain ⟨h1, h2⟩ := findP_ent L xs
  have h3 : (findP L xs).1.dir = (findA (L.map Spot.ent) xs).1.dir := by rw [← h2]; rfl
  unfold findD findDA
  rw [h1, h3]
  split
  · exact ⟨rfl, rfl⟩
  · exact ⟨h1, h2⟩
theorem findF_ent (L : List Spot) (xs : List Str) : (findF L xs).2 = (findFA (L.map Spot.ent) xs).2 ∧ (findF L xs).1.ent = (findFA (L.map Spot.ent) xs).1 := by
  obtain ⟨h1, h2⟩ := findP_ent L xs
  have h3 : (findP L xs).1.dir = (findA (L.map Spot.ent) xs).1.dir := by rw [← h2]; rfl
  unfold findF findFA
  rw [h1, h3]
  split
  · exact ⟨rfl, rfl⟩
  · exact ⟨h1, h2⟩
theorem res_cells {W w2 : World} {b : Nat} {a c : Int} {d : Bool} {x : ByteArray} {v : Value} (hr : Row W b [.int .i64 a, .bool d, .int .i64 c, .string x, v] 37) (k : Below W.heap.size W w2) : (w2.cell? ⟨b, 0, none⟩ = some (.int .i64 a) ∧ w2.cell? ⟨b, 1, none⟩ = some (.bool d) ∧ w2.cell? ⟨b, 2, none⟩ = some (.int .i64 c) ∧ w2.cell? ⟨b, 3, none⟩ = some (.string x) ∧ w2.cell? ⟨b, 4, none⟩ = some v) ∧ w2.frozen? ⟨b, 0, none⟩ = false ∧ w2.frozen? ⟨b, 1, none⟩ = false ∧ w2.frozen? ⟨b, 2, none⟩ = false ∧ w2.frozen? ⟨b, 3, none⟩ = false ∧ w2.frozen? ⟨b, 4, none⟩ = false := by
  have h := hr.below k hr.lt
  exact ⟨⟨h.cell 0, h.cell 1, h.cell 2, h.cell 3, h.cell 4⟩, h.frozen 0, h.frozen 1, h.frozen 2, h.frozen 3, h.frozen 4⟩
theorem set5_below {B b : Nat} {w W : World} (h : Below B w W) (hb : B ≤ b) (v0 v1 v2 v3 v4 : Value) : Below B w (((((W.setCell ⟨b, 0, none⟩ v0).setCell ⟨b, 1, none⟩ v1).setCell ⟨b, 2, none⟩ v2).setCell ⟨b, 3, none⟩ v3).setCell ⟨b, 4, none⟩ v4) :=
  ((((h.setCell (p := ⟨b, 0, none⟩) hb v0).setCell (p := ⟨b, 1, none⟩) hb v1).setCell (p := ⟨b, 2, none⟩) hb v2).setCell (p := ⟨b, 3, none⟩) hb v3).setCell (p := ⟨b, 4, none⟩) hb v4
theorem set5_row {W : World} {b : Nat} {vs : List Value} (h : Row W b vs 37) (hl : vs.length = 5) (v0 v1 v2 v3 v4 : Value) : Row (((((W.setCell ⟨b, 0, none⟩ v0).setCell ⟨b, 1, none⟩ v1).setCell ⟨b, 2, none⟩ v2).setCell ⟨b, 3, none⟩ v3).setCell ⟨b, 4, none⟩ v4) b [v0, v1, v2, v3, v4] 37 := by
  have := ((((h.set_same 0 v0).set_same 1 v1).set_same 2 v2).set_same 3 v3).set_same 4 v4
  rcases vs with _ | ⟨a0, _ | ⟨a1, _ | ⟨a2, _ | ⟨a3, _ | ⟨a4, _ | ⟨a5, r⟩⟩⟩⟩⟩⟩ <;> simp at hl
  exact this
end Go.Proofs.YtngehkmdanhgpaaGreat.Pl
namespace Go.Proofs.YtngehkmdanhgpaaGreat.Pl
open Go.RowKit
open Vp (Str B bl Val cmpL parseS showS splitS withinS IsPath)
open Nd (Row wp_world post_Row post_Row2 grownBy_setCell below_of_grown)
theorem Fs.set5 {W : World} {g m b : Nat} {L : List Spot} {vs : List Value} {t : TypeId} (h : Fs W g m L) (hr : Row W b vs t) (h9 : t ≠ 9) (hg : b ≠ g) (v0 v1 v2 v3 v4 : Value) : Fs (((((W.setCell ⟨b, 0, none⟩ v0).setCell ⟨b, 1, none⟩ v1).setCell ⟨b, 2, none⟩ v2).setCell ⟨b, 3, none⟩ v3).setCell ⟨b, 4, none⟩ v4) g m L := by
  have r1 := hr.set_same 0 v0
  have r2 := r1.set_same 1 v1
  have r3 := r2.set_same 2 v2
  have r4 := r3.set_same 3 v3
  exact ((((h.set hr h9 hg 0 v0).set r1 h9 hg 1 v1).set r2 h9 hg 2 v2).set r3 h9 hg 3 v3).set r4 h9 hg 4 v4
theorem grown_set {w W : World} {m b : Nat} (h : w.grownBy W (some m)) (hb : w.heap.size ≤ b) (j : Nat) (v : Value) : w.grownBy (W.setCell ⟨b, j, none⟩ v) (some m) :=
  World.grownBy.andThen h (grownBy_setCell W ⟨b, j, none⟩ v) (fun k e => .inl (by obtain rfl := Option.some.inj e; exact hb))
theorem grown_set5 {w W : World} {m b : Nat} (h : w.grownBy W (some m)) (hb : w.heap.size ≤ b) (v0 v1 v2 v3 v4 : Value) : w.grownBy (((((W.setCell ⟨b, 0, none⟩ v0).setCell ⟨b, 1, none⟩ v1).setCell ⟨b, 2, none⟩ v2).setCell ⟨b, 3, none⟩ v3).setCell ⟨b, 4, none⟩ v4) (some m) :=
  grown_set (grown_set (grown_set (grown_set (grown_set h hb 0 v0) hb 1 v1) hb 2 v2) hb 3 v3) hb 4 v4
theorem below_but {w W : World} (m : Nat) (h : Below w.heap.size w W) : w.grownBy W (some m) := (grown_of_below h).but _
theorem Row.map {w w' : World} {b m : Nat} {vs : List Value} {t : TypeId} {L : List Spot} (h : Row w b vs t) (hm : MapP w m L) (hg : w.grownBy w' (some m)) : Row w' b vs t := by
  refine Nd.Row.grown h hg ?_
  intro e
  obtain rfl := Option.some.inj e
  obtain ⟨es, clock, hb, _⟩ := hm.ex
  unfold Row at h
  rw [hb] at h
  cases h
def addE (A : List Ent) (xs : List Str) : Int := if xs = [] then 5 else if (findDA A xs.dropLast).2 ≠ 0 then (findDA A xs.dropLast).2 else if (entAt A xs).isSome then 5 else 0
def addA (A : List Ent) (xs : List Str) (d : Bool) : List Ent := if addE A xs = 0 then putA A ⟨xs, d, ⟨#[]⟩⟩ else A
theorem findD_sf {w : World} {m : Nat} {L : List Spot} (h : MapP w m L) (xs : List Str) : Sf (findD L xs).1 := by
  unfold findD
  split
  · exact ⟨_, _, _, rfl⟩
  · exact findP_sf h xs
theorem findF_sf {w : World} {m : Nat} {L : List Spot} (h : MapP w m L) (xs : List Str) : Sf (findF L xs).1 := by
  unfold findF
  split
  · exact ⟨_, _, _, rfl⟩
  · exact findP_sf h xs
set_option maxHeartbeats 4000000 in
set_option maxRecDepth 100000 in
theorem add_any {w : World} {g m : Nat} {L : List Spot} (h : Fs w g m L) {nv : Value} {xs : List Str} (hv : Rf.Nm w nv xs) (hx : Gp xs) (d : Bool) :
    Calls Tryz.prog 91 #[.pointer (some ⟨g, 0, none⟩), nv, .bool d] w fun e w' => e = .returned (Res.err (addE (L.map Spot.ent) xs)).val ∧ (∃ L', Fs w' g m L' ∧ L'.map Spot.ent = addA (L.map Spot.ent) xs d) ∧ w.grownBy w' (some m) := by
  have HV := hid_in hv
  obtain ⟨np, nc, rfl⟩ := hv.form
  have H := hid_in h
  have HX := hid_in hx
  have HG : Hid (w.heap.size ≠ g) := by have := h.row.lt; show _ ≠ _; omega
  obtain ⟨WA, HWA⟩ : ∃ WA, Hid (w.alloc (.cells #[.int .i64 0, .bool false, .int .i64 0, .string ⟨#[]⟩, .slice none 0 0] 37) = WA) := ⟨_, hid_in rfl⟩
  have HBA : Hid (Below w.heap.size w WA) := by rw [← HWA.out]; exact (Below.refl _ _).alloc (Nat.le_refl _) _
  have HRA : Hid (Row WA w.heap.size [.int .i64 0, .bool false, .int .i64 0, .string ⟨#[]⟩, .slice none 0 0] 37) := by rw [← HWA.out]; exact Row.new w [.int .i64 0, .bool false, .int .i64 0, .string ⟨#[]⟩, .slice none 0 0] 37
  have HE : Hid (addE (L.map Spot.ent) xs = if xs = [] then 5 else if (findDA (L.map Spot.ent) xs.dropLast).2 ≠ 0 then (findDA (L.map Spot.ent) xs.dropLast).2 else if (entAt (L.map Spot.ent) xs).isSome then 5 else 0) := rfl
  have HA : Hid (addA (L.map Spot.ent) xs d = if addE (L.map Spot.ent) xs = 0 then putA (L.map Spot.ent) ⟨xs, d, ⟨#[]⟩⟩ else L.map Spot.ent) := rfl
  obtain ⟨E, HEE⟩ : ∃ E, Hid (addE (L.map Spot.ent) xs = E) := ⟨_, hid_in rfl⟩
  obtain ⟨A', HAA⟩ : ∃ A', Hid (addA (L.map Spot.ent) xs d = A') := ⟨_, hid_in rfl⟩
  rw [HEE.out] at HE HA ⊢
  rw [HAA.out] at HA ⊢
  obtain ⟨nl, HNL⟩ : ∃ nl, Hid (xs.length = nl) := ⟨_, hid_in rfl⟩
  rw [HNL.out] at HV ⊢
  have HREF := hid_in (fun k W => refuse_any k W)
  simp only [Res.err, Res.val] at HREF ⊢
  clear h hv hx
  go_enter Tryz.func91, Tryz.ntmps91
  go_upto_region 1 with fail
  refine wp_world HWA.out ?_
  by_cases hne : xs = []
  · have hl : nl = 0 := by rw [← HNL.out, hne]; rfl
    have HEK : Hid (E = 5) := by show _ = _; rw [HE.out, if_pos hne]
    subst hl
    clear hne
    go_wp2_with (first | (go_at_call 30; refine (HREF.out _ _).mono ?_; rintro e w2 ⟨rfl, hb2⟩; obtain ⟨⟨g0, g1, g2, g3, g4⟩, k0, k1, k2, k3, k4⟩ := res_cells HRA.out hb2; have HR2 := hid_in (HRA.out.below hb2 HRA.out.lt); have HB2 := hid_in (HBA.out.trans (hb2.mono HBA.out.size)); clear hb2))
    refine post_Row 6 37 rfl w.heap.size rfl 37 [.int .i64 5, .bool false, .int .i64 0, .string ⟨#[]⟩, .slice none 0 0] (set5_row HR2.out rfl _ _ _ _ _) _ Tryz.underlying37 rfl 5 info37 rfl rfl ⟨by rw [HEK.out], ⟨L, (H.out.below HB2.out).set5 HR2.out (by decide) HG.out _ _ _ _ _, ?_⟩, grown_set5 (below_but m HB2.out) (Nat.le_refl _) _ _ _ _ _⟩
    rw [HA.out, HEK.out, if_neg (by decide)]
  · have hl : nl ≠ 0 := by rw [← HNL.out]; intro e; exact hne (List.length_eq_zero_iff.1 e)
    have k0 : ((nl : Int) == 0) = false := beq_eq_false_iff_ne.2 (by omega)
    have HDO := hid_in (dirOf_any (HV.out.below HBA.out).val HX.out)
    have HFD := hid_in (fun W (k : Below w.heap.size w W) v (kv : Val W v xs.dropLast) => findDir_any (H.out.below k) kv HX.out.dropLast)
    have hfe := (findD_ent L xs.dropLast).1
    have HE1 : Hid (E = if (findD L xs.dropLast).2 ≠ 0 then (findD L xs.dropLast).2 else if (entAt (L.map Spot.ent) xs).isSome then 5 else 0) := by show _ = _; rw [HE.out, if_neg hne, hfe]
    obtain ⟨qp, qn, qc, hsv⟩ := findD_sf H.out.map xs.dropLast
    generalize findD L xs.dropLast = r at *
    obtain ⟨⟨sv, sn, sp, sd, sx⟩, k⟩ := r
    simp only at hsv HE1
    subst hsv
    simp only [Spot.val] at HFD
    have HC4 : Hid ([Value.slice qp qn qc, .string sp, .bool sd, .string sx].length = 4) := rfl
    have HO4 : Hid (∀ v ∈ [Value.slice qp qn qc, .string sp, .bool sd, .string sx], v.oneCell' = true) := by
      intro v hv
      simp only [List.mem_cons, List.not_mem_nil, or_false] at hv
      rcases hv with rfl | rfl | rfl | rfl <;> rfl
    clear hne hl hfe HE
    go_upto_region 4 with (first | (go_at_call 54; refine HDO.out.mono ?_; rintro e w1 ⟨v1, rfl, hv1, hb1⟩; have HV1 := hid_in hv1; have HB1 := hid_in (HBA.out.trans (hb1.mono HBA.out.size)); have HC1 := hid_in hb1; clear hv1 hb1) | (go_at_call 96; refine (HFD.out _ HB1.out _ HV1.out).mono ?_; rintro e w2 ⟨rfl, hb2⟩; have HC2 := hid_in (HC1.out.trans (hb2.mono HC1.out.size)); clear hb2) | (refine Nd.wpList_store_new rfl rfl 63 4 _ _ rfl _ [Value.slice qp qn qc, .string sp, .bool sd, .string sx] info63 rfl HC4 HO4 rfl rfl ?_; intro w3 hr3 hb3 hs3; have HC3 := hid_in (HC2.out.trans (hb3.mono HC2.out.size)); clear hr3 hb3 hs3))
    have HB3 := hid_in (HBA.out.trans (HC3.out.mono HBA.out.size))
    by_cases hk : k = 0
    · subst hk
      have HE2 : Hid (E = if (entAt (L.map Spot.ent) xs).isSome then 5 else 0) := by show _ = _; rw [HE1.out, if_neg (by simp)]
      have HHAS := hid_in (has_any (H.out.below HB3.out) (HV.out.below HB3.out).val HX.out)
      have hse := spotAt_ent L xs
      cases hsp : spotAt L xs with
      | some t =>
        rw [hsp] at HHAS hse
        have HEK : Hid (E = 5) := by show _ = _; rw [HE2.out, ← hse]; rfl
        clear hsp hse
        go_wp2_with (first | (go_at_call 26; refine HHAS.out.mono ?_; rintro e w4 ⟨rfl, hb4⟩; have HC4' := hid_in (HC3.out.trans (hb4.mono HC3.out.size)); clear hb4) | (go_at_call 30; refine (HREF.out _ _).mono ?_; rintro e w5 ⟨rfl, hb5⟩; have hc5 := HC4'.out.trans (hb5.mono HC4'.out.size); obtain ⟨⟨g0, g1, g2, g3, g4⟩, q0, q1, q2, q3, q4⟩ := res_cells HRA.out hc5; have HR5 := hid_in (HRA.out.below hc5 HRA.out.lt); have HB5 := hid_in (HBA.out.trans (hc5.mono HBA.out.size)); clear hb5 hc5))
        refine post_Row 6 37 rfl w.heap.size rfl 37 [.int .i64 5, .bool false, .int .i64 0, .string ⟨#[]⟩, .slice none 0 0] (set5_row HR5.out rfl _ _ _ _ _) _ Tryz.underlying37 rfl 5 info37 rfl rfl ⟨by rw [HEK.out], ⟨L, (H.out.below HB5.out).set5 HR5.out (by decide) HG.out _ _ _ _ _, ?_⟩, grown_set5 (below_but m HB5.out) (Nat.le_refl _) _ _ _ _ _⟩
        rw [HA.out, HEK.out, if_neg (by decide)]
      | none =>
        rw [hsp] at HHAS hse
        have HEK : Hid (E = 0) := by show _ = _; rw [HE2.out, ← hse]; rfl
        have HPUT := hid_in (fun W (k : Below w.heap.size w W) => put_any (H.out.below k) (HV.out.below k) HX.out d ⟨#[]⟩)
        clear hsp hse
        go_wp2_with (first | (go_at_call 26; refine HHAS.out.mono ?_; rintro e w4 ⟨rfl, hb4⟩; have HC4' := hid_in (HC3.out.trans (hb4.mono HC3.out.size)); have HB4 := hid_in (HB3.out.trans (hb4.mono HB3.out.size)); clear hb4) | (go_at_call 25; refine (HPUT.out _ HB4.out).mono ?_; rintro e w5 ⟨rfl, hf5, hg5⟩; have hr5 := Row.map (HRA.out.below HC4'.out HRA.out.lt) (H.out.below HB4.out).map hg5; obtain ⟨⟨g0, g1, g2, g3, g4⟩, q0, q1, q2, q3, q4⟩ := res_cells hr5 (Below.refl _ w5); have HR5 := hid_in hr5; have HF5 := hid_in hf5; have HG5 := hid_in (grown_plus HB4.out hg5); clear hf5 hg5 hr5))
        refine post_Row 6 37 rfl w.heap.size rfl 37 [.int .i64 0, .bool false, .int .i64 0, .string ⟨#[]⟩, .slice none 0 0] (set5_row HR5.out rfl _ _ _ _ _) _ Tryz.underlying37 rfl 5 info37 rfl rfl ⟨by rw [HEK.out], ⟨_, HF5.out.set5 HR5.out (by decide) HG.out _ _ _ _ _, ?_⟩, grown_set5 HG5.out (Nat.le_refl _) _ _ _ _ _⟩
        rw [HA.out, HEK.out, if_pos rfl, putP_ent]
        rfl
    · have hk2 : (k != 0) = true := by simpa using hk
      have HEK : Hid (E = k) := by show _ = _; rw [HE1.out, if_pos hk]
      have HK0 := hid_in hk
      clear hk
      go_wp2_with (first | (go_at_call 30; refine (HREF.out _ _).mono ?_; rintro e w5 ⟨rfl, hb5⟩; have hc5 := HC3.out.trans (hb5.mono HC3.out.size); obtain ⟨⟨g0, g1, g2, g3, g4⟩, q0, q1, q2, q3, q4⟩ := res_cells HRA.out hc5; have HR5 := hid_in (HRA.out.below hc5 HRA.out.lt); have HB5 := hid_in (HBA.out.trans (hc5.mono HBA.out.size)); clear hb5 hc5))
      refine post_Row 6 37 rfl w.heap.size rfl 37 [.int .i64 k, .bool false, .int .i64 0, .string ⟨#[]⟩, .slice none 0 0] (set5_row HR5.out rfl _ _ _ _ _) _ Tryz.underlying37 rfl 5 info37 rfl rfl ⟨by rw [HEK.out], ⟨L, (H.out.below HB5.out).set5 HR5.out (by decide) HG.out _ _ _ _ _, ?_⟩, grown_set5 (below_but m HB5.out) (Nat.le_refl _) _ _ _ _ _⟩
      rw [HA.out, HEK.out, if_neg HK0.out]
end Go.Proofs.YtngehkmdanhgpaaGreat.Pl
namespace Go.Proofs.YtngehkmdanhgpaaGreat.Pl
open Go.RowKit
theorem str_add (x y : ByteArray) (h : x.size + y.size ≤ 9223372036854775807) (w : World) : (binOp .add 9 (.string x) (.string y)).run Tryz.prog w = .ok (.string (x ++ y)) w := by
  have h2 : ¬ (((x.size + y.size : Nat) : Int) > IntKind.i64.max) := by
    have : IntKind.i64.max = 9223372036854775807 := rfl
    omega
  simp only [binOp, Op.stringOp, if_neg h2, Sem.run_pure]
theorem bound_ok (n : Int) (m : Nat) (code : BoundsCode) (h0 : 0 ≤ n) (h1 : n ≤ m) (w : World) : (Instr.sliceBound (.int .i64 n) m code).run Tryz.prog w = .ok n.toNat w := by
  simp only [Instr.sliceBound, asIntOf, Sem.run_bind, Sem.run_pure, Result.andThen_ok]
  rw [if_pos ⟨h0, h1⟩, Sem.run_pure]
theorem str_to (s : ByteArray) (n : Int) (h0 : 0 ≤ n) (h1 : n ≤ s.size) (w : World) : (Instr.slice 9 (.string s) none (some (.int .i64 n)) none).run Tryz.prog w = .ok (.string (s.extract 0 n.toNat)) w := by
  simp [Instr.slice, Instr.sliceBounds, bound_ok n s.size _ h0 h1, Result.andThen]
theorem str_from (s : ByteArray) (n : Int) (h0 : 0 ≤ n) (h1 : n ≤ s.size) (w : World) : (Instr.slice 9 (.string s) (some (.int .i64 n)) none none).run Tryz.prog w = .ok (.string (s.extract n.toNat s.size)) w := by
  simp [Instr.slice, Instr.sliceBounds, bound_ok n s.size _ h0 h1, Result.andThen]
theorem str_mid (s : ByteArray) (l h : Int) (h0 : 0 ≤ l) (h1 : l ≤ h) (h2 : h ≤ s.size) (w : World) : (Instr.slice 9 (.string s) (some (.int .i64 l)) (some (.int .i64 h)) none).run Tryz.prog w = .ok (.string (s.extract l.toNat h.toNat)) w := by
  have h3 : ∀ code w, (Instr.sliceBound (.int .i64 l) h.toNat code).run Tryz.prog w = .ok l.toNat w := fun code w => bound_ok l h.toNat code h0 (by omega) w
  simp [Instr.slice, Instr.sliceBounds, bound_ok h s.size _ (by omega) h2, h3, Result.andThen]
theorem min_le (x y : Int) (h : x ≤ y) (ty : TypeId) (w : World) : (Builtin.min_ #[3, 3] ty #[.int .i64 x, .int .i64 y]).run Tryz.prog w = .ok (.int .i64 x) w := by
  have h2 : ¬ y < x := by omega
  simp [Builtin.min_, Builtin.min2, h2]
theorem min_gt (x y : Int) (h : y < x) (ty : TypeId) (w : World) : (Builtin.min_ #[3, 3] ty #[.int .i64 x, .int .i64 y]).run Tryz.prog w = .ok (.int .i64 y) w := by
  simp [Builtin.min_, Builtin.min2, h]
end Go.Proofs.YtngehkmdanhgpaaGreat.Pl
namespace Go.Proofs.YtngehkmdanhgpaaGreat.Pl
open Go.RowKit
open Vp (Str B bl Val cmpL parseS showS splitS withinS IsPath)
open Nd (Row wp_world post_Row post_Row2 grownBy_setCell below_of_grown)
/-- the operation in its box, and a result without anything -/
theorem op_box (w : World) (k a z : Int) (p t d : ByteArray) : ∃ w2, Hid ((w.alloc (.cells #[.int .i64 k, .string p, .string t, .string d, .int .i64 a, .int .i64 z] 40)).alloc (.cells #[.int .i64 0, .bool false, .int .i64 0, .string ⟨#[]⟩, .slice none 0 0] 37) = w2) ∧ Hid (Row w2 w.heap.size [.int .i64 k, .string p, .string t, .string d, .int .i64 a, .int .i64 z] 40) ∧ Hid (Row w2 (w.heap.size + 1) [.int .i64 0, .bool false, .int .i64 0, .string ⟨#[]⟩, .slice none 0 0] 37) ∧ Hid (Below w.heap.size w w2) :=
  ⟨_, rfl, (Row.new w [.int .i64 k, .string p, .string t, .string d, .int .i64 a, .int .i64 z] 40).alloc _, Row.newAt (w.alloc _) (w.heap.size + 1) [.int .i64 0, .bool false, .int .i64 0, .string ⟨#[]⟩, .slice none 0 0] 37 (by simp), ((Below.refl _ _).alloc (Nat.le_refl _) _).alloc (by simp) _⟩
theorem Fs.ne1 {w : World} {g m : Nat} {L : List Spot} (h : Fs w g m L) : w.heap.size + 1 ≠ g := by have := h.row.lt; omega
set_option maxHeartbeats 4000000 in
set_option maxRecDepth 100000 in
theorem create_any {w : World} {g m : Nat} {L : List Spot} (h : Fs w g m L) (k a z : Int) (p t d : ByteArray) (hp : p.size ≤ 9223372036854775807) :
    Calls Tryz.prog 64 #[.pointer (some ⟨g, 0, none⟩), .agg #[.int .i64 k, .string p, .string t, .string d, .int .i64 a, .int .i64 z]] w fun e w' => e = .returned (Res.err (addE (L.map Spot.ent) (nmsOf p))).val ∧ (∃ L', Fs w' g m L' ∧ L'.map Spot.ent = addA (L.map Spot.ent) (nmsOf p) false) ∧ w.grownBy w' (some m) := by
  obtain ⟨WA, HWA, HRO, HRA, HBA⟩ := op_box w k a z p t d
  have H := hid_in h
  have HG := hid_in h.ne1
  have HNO := hid_in (fun W => namesOf_any p hp W)
  have HADD := hid_in (fun W (kb : Below w.heap.size w W) v (hv : Rf.Nm W v (nmsOf p)) => add_any (h.below kb) hv (gp_nms p) false)
  have c1 : WA.cell? ⟨w.heap.size, 1, none⟩ = some (.string p) := HRO.out.cell 1
  generalize addE (L.map Spot.ent) (nmsOf p) = E at *
  generalize addA (L.map Spot.ent) (nmsOf p) false = A' at *
  simp only [Res.err, Res.val] at HADD ⊢
  clear h
  go_enter Tryz.func64, Tryz.ntmps64
  go_upto_region 1 with fail
  refine wp_world HWA.out ?_
  go_wp2_with (first | (go_at_call 92; refine (HNO.out _).mono ?_; rintro e w1 ⟨v1, rfl, hv1, hb1⟩; have HV1 := hid_in hv1; have HC1 := hid_in hb1; have HB1 := hid_in (HBA.out.trans (hb1.mono HBA.out.size)); clear hv1 hb1) | (go_at_call 91; refine (HADD.out _ HB1.out _ HV1.out).mono ?_; rintro e w2 ⟨rfl, ⟨L2, hf2, ha2⟩, hg2⟩; have hr2 := Row.map (HRA.out.below HC1.out HRA.out.lt) (H.out.below HB1.out).map hg2; obtain ⟨⟨g0, g1, g2, g3, g4⟩, q0, q1, q2, q3, q4⟩ := res_cells hr2 (Below.refl _ w2); have HR2 := hid_in hr2; have HF2 := hid_in hf2; have HA2 := hid_in ha2; have HG2 := hid_in (grown_plus HB1.out hg2); clear hf2 ha2 hg2 hr2))
  exact post_Row 4 37 rfl (w.heap.size + 1) rfl 37 [.int .i64 E, .bool false, .int .i64 0, .string ⟨#[]⟩, .slice none 0 0] (set5_row HR2.out rfl _ _ _ _ _) _ Tryz.underlying37 rfl 5 info37 rfl rfl ⟨rfl, ⟨_, HF2.out.set5 HR2.out (by decide) HG.out _ _ _ _ _, HA2.out⟩, grown_set5 HG2.out (Nat.le_succ _) _ _ _ _ _⟩
def Small (A : List Ent) : Prop := ∀ e ∈ A, e.data.size ≤ 1024
theorem findF_ok {L : List Spot} {xs : List Str} {t : Spot} (h : findF L xs = (t, 0)) : spotAt L xs = some t ∧ t.names = xs ∧ t.dir = false := by
  unfold findF at h
  split at h
  · cases h
  · rename_i hc
    have h1 := findP_at h
    refine ⟨h1, ?_, ?_⟩
    · have := List.find?_some h1
      exact of_decide_eq_true this
    · rw [h] at hc
      simpa using hc
theorem spot_small {L : List Spot} (hs : Small (L.map Spot.ent)) {xs : List Str} {t : Spot} (h : spotAt L xs = some t) : t.data.size ≤ 1024 := hs t.ent (List.mem_map.2 ⟨t, List.mem_of_find?_eq_some h, rfl⟩)
def wrD (old d : ByteArray) (a : Nat) : ByteArray := old.extract 0 a ++ d ++ old.extract (min (a + d.size) old.size) old.size
theorem wrD_size (old d : ByteArray) (a : Nat) (h : a ≤ old.size) : (wrD old d a).size = max (a + d.size) old.size := by
  unfold wrD
  simp only [ByteArray.size_append, ByteArray.size_extract]
  omega
def wrE (A : List Ent) (xs : List Str) (a : Nat) (d : ByteArray) : Int := if (findFA A xs).2 ≠ 0 then (findFA A xs).2 else if (findFA A xs).1.data.size < a then 133 else if 1024 < a + d.size then 134 else 0
def wrS (A : List Ent) (xs : List Str) (a : Nat) (d : ByteArray) : Int := if wrE A xs a d = 0 then ((wrD (findFA A xs).1.data d a).size : Int) else 0
def wrA (A : List Ent) (xs : List Str) (a : Nat) (d : ByteArray) : List Ent := if wrE A xs a d = 0 then putA A ⟨xs, false, wrD (findFA A xs).1.data d a⟩ else A
/-- an error is answered -/
theorem post_err {w W : World} {g m : Nat} {L : List Spot} {fn : Func} {a : Act} (H : Fs w g m L) (hr : Row W (w.heap.size + 1) [.int .i64 0, .bool false, .int .i64 0, .string ⟨#[]⟩, .slice none 0 0] 37) (hB : Below w.heap.size w W) (k : Int) (R : Ending → World → Prop) (hf : fn.results = #[.cell 4 37]) (hp : a.tmps.getD 4 undef = .pointer (some ⟨w.heap.size + 1, 0, none⟩)) (hdf : a.defers = [])
    (h : ∀ W', Fs W' g m L → w.grownBy W' (some m) → R (.returned (Res.err k).val) W') :
    bodyPost Tryz.prog fn R .ret a (((((W.setCell ⟨w.heap.size + 1, 0, none⟩ (.int .i64 k)).setCell ⟨w.heap.size + 1, 1, none⟩ (.bool false)).setCell ⟨w.heap.size + 1, 2, none⟩ (.int .i64 0)).setCell ⟨w.heap.size + 1, 3, none⟩ (.string ⟨#[]⟩)).setCell ⟨w.heap.size + 1, 4, none⟩ (.slice none 0 0)) :=
  post_Row 4 37 hf (w.heap.size + 1) hp 37 [.int .i64 k, .bool false, .int .i64 0, .string ⟨#[]⟩, .slice none 0 0] (set5_row hr rfl _ _ _ _ _) _ Tryz.underlying37 rfl 5 info37 rfl hdf (h _ ((H.below hB).set5 hr (by decide) H.ne1 _ _ _ _ _) (grown_set5 (below_but m hB) (Nat.le_succ _) _ _ _ _ _))
set_option maxHeartbeats 4000000 in
set_option maxRecDepth 100000 in
theorem write_any {w : World} {g m : Nat} {L : List Spot} (h : Fs w g m L) (hsm : Small (L.map Spot.ent)) (k z : Int) (a : Nat) (p t d : ByteArray) (hp : p.size ≤ 9223372036854775807) (ha : a ≤ 1024) (hd : d.size ≤ 1024) :
    Calls Tryz.prog 65 #[.pointer (some ⟨g, 0, none⟩), .agg #[.int .i64 k, .string p, .string t, .string d, .int .i64 (a : Int), .int .i64 z]] w fun e w' => e = .returned (Res.val ⟨wrE (L.map Spot.ent) (nmsOf p) a d, false, wrS (L.map Spot.ent) (nmsOf p) a d, ⟨#[]⟩, .slice none 0 0⟩) ∧ (∃ L', Fs w' g m L' ∧ L'.map Spot.ent = wrA (L.map Spot.ent) (nmsOf p) a d) ∧ w.grownBy w' (some m) := by
  obtain ⟨WA, HWA, HRO, HRA, HBA⟩ := op_box w k a z p t d
  have H := hid_in h
  have HG := hid_in h.ne1
  have HFF := hid_in (fun W (kb : Below w.heap.size w W) => findFile_any (h.below kb) p hp)
  have c1 : WA.cell? ⟨w.heap.size, 1, none⟩ = some (.string p) := HRO.out.cell 1
  obtain ⟨qp, qn, qc, hsv⟩ := findF_sf h.map (nmsOf p)
  obtain ⟨hfe, hfx⟩ := findF_ent L (nmsOf p)
  have HE : Hid (wrE (L.map Spot.ent) (nmsOf p) a d = if (findF L (nmsOf p)).2 ≠ 0 then (findF L (nmsOf p)).2 else if (findF L (nmsOf p)).1.data.size < a then 133 else if 1024 < a + d.size then 134 else 0) := by
    show _ = _
    unfold wrE
    rw [← hfe, ← hfx]; rfl
  have HS : Hid (wrS (L.map Spot.ent) (nmsOf p) a d = if wrE (L.map Spot.ent) (nmsOf p) a d = 0 then ((wrD (findF L (nmsOf p)).1.data d a).size : Int) else 0) := by
    show _ = _
    unfold wrS
    rw [← hfx]; rfl
  have HA : Hid (wrA (L.map Spot.ent) (nmsOf p) a d = if wrE (L.map Spot.ent) (nmsOf p) a d = 0 then putA (L.map Spot.ent) ⟨nmsOf p, false, wrD (findF L (nmsOf p)).1.data d a⟩ else L.map Spot.ent) := by
    show _ = _
    unfold wrA
    rw [← hfx]; rfl
  have HOK := hid_in (fun t (e : findF L (nmsOf p) = (t, 0)) => findF_ok e)
  have HSM := hid_in hsm
  generalize wrE (L.map Spot.ent) (nmsOf p) a d = E at *
  generalize wrS (L.map Spot.ent) (nmsOf p) a d = S at *
  generalize wrA (L.map Spot.ent) (nmsOf p) a d = A' at *
  generalize findF L (nmsOf p) = r at *
  obtain ⟨⟨sv, sn, sp, sd, sx⟩, e0⟩ := r
  simp only at hsv HE HS HA
  subst hsv
  simp only [Spot.val, Res.val] at HFF ⊢
  have HC4 : Hid ([Value.slice qp qn qc, .string sp, .bool sd, .string sx].length = 4) := rfl
  have HO4 : Hid (∀ v ∈ [Value.slice qp qn qc, .string sp, .bool sd, .string sx], v.oneCell' = true) := by
    intro v hv
    simp only [List.mem_cons, List.not_mem_nil, or_false] at hv
    rcases hv with rfl | rfl | rfl | rfl <;> rfl
  have HREF := hid_in (fun k W => refuse_any k W)
  simp only [Res.err, Res.val] at HREF
  clear h hfe hfx hsm
  go_enter Tryz.func65, Tryz.ntmps65
  go_upto_region 1 with fail
  refine wp_world HWA.out ?_
  go_upto_region 2 with (first | (go_at_call 93; refine (HFF.out _ HBA.out).mono ?_; rintro e w2 ⟨rfl, hb2⟩; have HC2 := hid_in hb2; clear hb2) | (refine Nd.wpList_store_new rfl rfl 63 4 _ _ rfl _ [Value.slice qp qn qc, .string sp, .bool sd, .string sx] info63 rfl HC4 HO4 rfl rfl ?_; intro w3 hr3 hb3 hs3; have HR3 := hid_in hr3; have HC3 := hid_in (HC2.out.trans (hb3.mono HC2.out.size)); clear hr3 hb3 hs3))
  have HB3 := hid_in (HBA.out.trans (HC3.out.mono HBA.out.size))
  have HRO3 := hid_in (HRO.out.below HC3.out HRO.out.lt)
  have HRA3 := hid_in (HRA.out.below HC3.out HRA.out.lt)
  obtain ⟨⟨s0, s1, s2, s3⟩, -⟩ := spot_cells HR3.out (Below.refl _ w3)
  have o1 : w3.cell? ⟨w.heap.size, 1, none⟩ = some (.string p) := HRO3.out.cell 1
  have o3 : w3.cell? ⟨w.heap.size, 3, none⟩ = some (.string d) := HRO3.out.cell 3
  have o4 : w3.cell? ⟨w.heap.size, 4, none⟩ = some (.int .i64 (a : Int)) := HRO3.out.cell 4
  have HERR := hid_in (fun W (kb : Below w3.heap.size w3 W) => And.intro (res_cells HRA3.out kb) (And.intro (HRA3.out.below kb HRA3.out.lt) (HB3.out.trans (kb.mono HB3.out.size))))
  by_cases hk : e0 = 0
  · subst hk
    obtain ⟨hok, hnm, hdr⟩ := HOK.out _ rfl
    simp only at hnm hdr
    have hsz : sx.size ≤ 1024 := spot_small HSM.out hok
    have HNM := hid_in (H.out.map.nms _ (List.mem_of_find?_eq_some hok))
    simp only at HNM
    rw [hnm] at HNM
    clear hok hnm HOK
    by_cases h1 : a ≤ sx.size
    · have j1 : ¬ ((sx.size : Int) < (a : Int)) := by omega
      by_cases h2 : a + d.size ≤ 1024
      · have j2 : ¬ ((1024 : Int) < (a : Int) + (d.size : Int)) := by omega
        have HEK : Hid (E = 0) := by show _ = _; rw [HE.out, if_neg (by simp), if_neg (by omega), if_neg (by omega)]
        have HX2 : Hid ((wrD sx d a).size = max (a + d.size) sx.size) := wrD_size sx d a h1
        have hA1 := str_add (sx.extract 0 a) d (by rw [ByteArray.size_extract]; omega)
        by_cases h3 : a + d.size ≤ sx.size
        · have hm1 := min_le ((a : Int) + (d.size : Int)) (sx.size : Int) (by omega) 3
          have hs1 := str_from sx ((a : Int) + (d.size : Int)) (by omega) (by omega)
          have ht : ((a : Int) + (d.size : Int)).toNat = a + d.size := by omega
          rw [ht] at hs1
          have hA2 := str_add (sx.extract 0 a ++ d) (sx.extract (a + d.size) sx.size) (by simp only [ByteArray.size_append, ByteArray.size_extract]; omega)
          have HWD : Hid (sx.extract 0 a ++ d ++ sx.extract (a + d.size) sx.size = wrD sx d a) := by
            show _ = _
            unfold wrD
            rw [Nat.min_eq_left h3]
          rw [HWD.out] at hA2
          have HPUT := hid_in (fun W (k : Below w.heap.size w W) => put_any (H.out.below k) (HNM.out.below k) (gp_nms p) false (wrD sx d a))
          clear ht
          go_wp2
          go_quiet (fail)
          go_wp2
          go_quiet (fail)
          rw [HWD.out]
          obtain ⟨D, HD⟩ : ∃ D, Hid (wrD sx d a = D) := ⟨_, hid_in rfl⟩
          rw [HD.out] at HPUT HX2 HS HA ⊢
          clear hA2 hA1 HWD hs1 hm1
          go_wp2_with (first | (go_at_call 25; refine (HPUT.out _ (below_drewN HB3.out _)).mono ?_; rintro e w5 ⟨rfl, hf5, hg5⟩; have hr5 := Row.map (show Row (w3.drewN _) (w.heap.size + 1) _ 37 from HRA3.out) (H.out.below (below_drewN HB3.out _)).map hg5; obtain ⟨⟨g0, g1, g2, g3, g4⟩, q0, q1, q2, q3, q4⟩ := res_cells hr5 (Below.refl _ w5); have HR5 := hid_in hr5; have HF5 := hid_in hf5; have HG5 := hid_in (grown_plus (below_drewN HB3.out _) hg5); clear hf5 hg5 hr5))
          refine post_Row 4 37 rfl (w.heap.size + 1) rfl 37 [.int .i64 0, .bool false, .int .i64 (D.size : Int), .string ⟨#[]⟩, .slice none 0 0] (set5_row HR5.out rfl _ _ _ _ _) _ Tryz.underlying37 rfl 5 info37 rfl rfl ⟨?_, ⟨_, HF5.out.set5 HR5.out (by decide) HG.out _ _ _ _ _, ?_⟩, grown_set5 HG5.out (Nat.le_succ _) _ _ _ _ _⟩
          · rw [HS.out, HEK.out, if_pos rfl]
          · rw [HA.out, HEK.out, if_pos rfl, putP_ent]; rfl
        · have hm1 := min_gt ((a : Int) + (d.size : Int)) (sx.size : Int) (by omega) 3
          have hs1 := str_from sx (sx.size : Int) (by omega) (by omega)
          have ht : (sx.size : Int).toNat = sx.size := by omega
          rw [ht] at hs1
          have hA2 := str_add (sx.extract 0 a ++ d) (sx.extract sx.size sx.size) (by simp only [ByteArray.size_append, ByteArray.size_extract]; omega)
          have HWD : Hid (sx.extract 0 a ++ d = wrD sx d a) := by
            show _ = _
            unfold wrD
            rw [Nat.min_eq_right (by omega)]
            simp
          have HPUT := hid_in (fun W (k : Below w.heap.size w W) => put_any (H.out.below k) (HNM.out.below k) (gp_nms p) false (wrD sx d a))
          clear ht
          go_wp2
          go_quiet (fail)
          go_wp2
          go_quiet (fail)
          rw [HWD.out]
          obtain ⟨D, HD⟩ : ∃ D, Hid (wrD sx d a = D) := ⟨_, hid_in rfl⟩
          rw [HD.out] at HPUT HX2 HS HA ⊢
          clear hA2 hA1 HWD hs1 hm1
          go_wp2_with (first | (go_at_call 25; refine (HPUT.out _ (below_drewN HB3.out _)).mono ?_; rintro e w5 ⟨rfl, hf5, hg5⟩; have hr5 := Row.map (show Row (w3.drewN _) (w.heap.size + 1) _ 37 from HRA3.out) (H.out.below (below_drewN HB3.out _)).map hg5; obtain ⟨⟨g0, g1, g2, g3, g4⟩, q0, q1, q2, q3, q4⟩ := res_cells hr5 (Below.refl _ w5); have HR5 := hid_in hr5; have HF5 := hid_in hf5; have HG5 := hid_in (grown_plus (below_drewN HB3.out _) hg5); clear hf5 hg5 hr5))
          refine post_Row 4 37 rfl (w.heap.size + 1) rfl 37 [.int .i64 0, .bool false, .int .i64 (D.size : Int), .string ⟨#[]⟩, .slice none 0 0] (set5_row HR5.out rfl _ _ _ _ _) _ Tryz.underlying37 rfl 5 info37 rfl rfl ⟨?_, ⟨_, HF5.out.set5 HR5.out (by decide) HG.out _ _ _ _ _, ?_⟩, grown_set5 HG5.out (Nat.le_succ _) _ _ _ _ _⟩
          · rw [HS.out, HEK.out, if_pos rfl]
          · rw [HA.out, HEK.out, if_pos rfl, putP_ent]; rfl
      · have j2 : (1024 : Int) < (a : Int) + (d.size : Int) := by omega
        have HEK : Hid (E = 134) := by show _ = _; rw [HE.out, if_neg (by simp), if_neg (by omega), if_pos (by omega)]
        go_wp2
        go_quiet (fail)
        go_wp2_with (first | (go_at_call 30; refine (HREF.out _ _).mono ?_; rintro e w5 ⟨rfl, hb5⟩; obtain ⟨⟨⟨g0, g1, g2, g3, g4⟩, q0, q1, q2, q3, q4⟩, hr5, hb5'⟩ := HERR.out _ ((below_drewN (Below.refl _ w3) nq).trans hb5); have HR5 := hid_in hr5; have HB5 := hid_in hb5'; clear hb5 hr5 hb5'))
        refine post_err H.out HR5.out HB5.out 134 _ rfl rfl rfl fun W' hf hg => ⟨?_, ⟨L, hf, ?_⟩, hg⟩
        · rw [HS.out, HEK.out, if_neg (by decide)]; rfl
        · rw [HA.out, HEK.out, if_neg (by decide)]
    · have j1 : (sx.size : Int) < (a : Int) := by omega
      have HEK : Hid (E = 133) := by show _ = _; rw [HE.out, if_neg (by simp), if_pos (by omega)]
      go_wp2
      go_quiet (fail)
      go_wp2_with (first | (go_at_call 30; refine (HREF.out _ _).mono ?_; rintro e w5 ⟨rfl, hb5⟩; obtain ⟨⟨⟨g0, g1, g2, g3, g4⟩, q0, q1, q2, q3, q4⟩, hr5, hb5'⟩ := HERR.out _ ((below_drewN (Below.refl _ w3) nq).trans hb5); have HR5 := hid_in hr5; have HB5 := hid_in hb5'; clear hb5 hr5 hb5'))
      refine post_err H.out HR5.out HB5.out 133 _ rfl rfl rfl fun W' hf hg => ⟨?_, ⟨L, hf, ?_⟩, hg⟩
      · rw [HS.out, HEK.out, if_neg (by decide)]; rfl
      · rw [HA.out, HEK.out, if_neg (by decide)]
  · have hk2 : (e0 != 0) = true := by simpa using hk
    have HEK : Hid (E = e0) := by show _ = _; rw [HE.out, if_pos hk]
    have HK0 := hid_in hk
    clear hk
    go_wp2_with (first | (go_at_call 30; refine (HREF.out _ _).mono ?_; rintro e w5 ⟨rfl, hb5⟩; obtain ⟨⟨⟨g0, g1, g2, g3, g4⟩, q0, q1, q2, q3, q4⟩, hr5, hb5'⟩ := HERR.out _ hb5; have HR5 := hid_in hr5; have HB5 := hid_in hb5'; clear hb5 hr5 hb5'))
    refine post_err H.out HR5.out HB5.out e0 _ rfl rfl rfl fun W' hf hg => ⟨?_, ⟨L, hf, ?_⟩, hg⟩
    · rw [HS.out, HEK.out, if_neg HK0.out]; rfl
    · rw [HA.out, HEK.out, if_neg HK0.out]
end Go.Proofs.YtngehkmdanhgpaaGreat.Pl
