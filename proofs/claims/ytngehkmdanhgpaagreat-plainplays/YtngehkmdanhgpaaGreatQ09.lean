/-
  The walk of the reference's Insert: a file where its path belongs. Files of two lists that read as the same files.
-/
import Derived.Lib.SlBytesConst
import Derived.Laws.CopyOwn
import Derived.Deep.RegionLaw
import Derived.Deep.DrawnRows
import Derived.Lib.AppendZeros
import Derived.Laws.Tables
import Derived.Test.YtngehkmdanhgpaaGreatQ00
import Derived.Test.YtngehkmdanhgpaaGreatQ01
import Derived.Test.YtngehkmdanhgpaaGreatQ02
import Derived.Test.YtngehkmdanhgpaaGreatQ03
import Derived.Test.YtngehkmdanhgpaaGreatQ04
import Derived.Test.YtngehkmdanhgpaaGreatQ05
import Derived.Test.YtngehkmdanhgpaaGreatQ06
import Derived.Test.YtngehkmdanhgpaaGreatQ07
import Derived.Test.YtngehkmdanhgpaaGreatQ08
namespace Go.Proofs.YtngehkmdanhgpaaGreat.Rf
open Go.RowKit
open Vp (Str B bl Val cmpL parseS showS)
/-- does the one come ahead of the other? -/
def ahead (g f : Fil) : Prop := cmpL (nmsOf g.path) (nmsOf f.path) < 0
instance (g f : Fil) : Decidable (ahead g f) := by unfold ahead; infer_instance
/-- a file where its path belongs -/
def insF : List Fil → Fil → List Fil
  | [], f => [f]
  | g :: r, f => if ahead g f then g :: insF r f else f :: g :: r
theorem insF_at : ∀ (fs : List Fil) (f : Fil) (k : Nat), k ≤ fs.length → (∀ (i : Nat) g, i < k → fs[i]? = some g → ahead g f) → (∀ g, fs[k]? = some g → ¬ ahead g f) → insF fs f = fs.take k ++ [f] ++ fs.drop k
  | [], f, k, hk, _, _ => by
    obtain rfl : k = 0 := by simpa using hk
    rfl
  | g :: r, f, 0, _, _, h => by
    have h1 := h g rfl
    simp [insF, h1]
  | g :: r, f, k + 1, hk, h1, h2 => by
    have h3 := h1 0 g (by omega) rfl
    have h4 := insF_at r f k (by simpa using hk) (fun i x hi hx => h1 (i + 1) x (by omega) (by simpa using hx)) (fun x hx => h2 x (by simpa using hx))
    simp [insF, h3, h4]
theorem fil_row (w : World) (f : Fil) : ∃ w2, Hid (w.alloc (.cells #[.string f.path, .bool f.dir, .string f.data] 48) = w2) ∧ Hid (Nd.Row w2 w.heap.size [.string f.path, .bool f.dir, .string f.data] 48) ∧ Hid (Below w.heap.size w w2) :=
  ⟨_, rfl, Nd.Row.new w [.string f.path, .bool f.dir, .string f.data] 48, (Below.refl _ _).alloc (Nat.le_refl _) _⟩
theorem own81 (w : World) : FO (w.alloc (.cells #[] 48)) w.heap.size (.slice (some ⟨w.heap.size, 0, none⟩) 0 0) [] :=
  World.ownsRow_made (base := w.heap.size) (e := 48) (size := 3) w #[] 0 (Nat.le_refl _) (by simp) rfl
theorem fls_one (w : World) (f : Fil) : Fls (w.alloc (.cells #[.string f.path, .bool f.dir, .string f.data] 48)) (.slice (some ⟨w.heap.size, 0, none⟩) 1 1) [f] := by
  have hr := Nd.Row.new w [.string f.path, .bool f.dir, .string f.data] 48
  refine ⟨_, 1, w.heap.size, 0, rfl, by simp, by omega, fun _ => ⟨rfl, by simp⟩, fun j u hj => ?_, fun e => by cases e⟩
  rw [Nat.zero_add, hr.cell]
  simpa [fcells, Fil.cells] using hj
theorem Fls.path {w : World} {v : Value} {fs : List Fil} {i : Nat} {g : Fil} (h : Fls w v fs) (hi : fs[i]? = some g) : ∃ b o cap, v = .slice (some ⟨b, o, none⟩) fs.length cap ∧ w.cell? ⟨b, o + i * 3, none⟩ = some (.string g.path) := by
  obtain ⟨p, cap, b, o, h1, h2, h3, h4, h5, h6⟩ := h
  have hne : fs ≠ [] := by rintro rfl; simp at hi
  obtain ⟨rfl, _⟩ := h4 hne
  exact ⟨b, o, cap, h1, h5 _ _ (fcells_at hi 0 _ rfl)⟩
theorem FO.mono {w : World} {B B' : Nat} {v : Value} {fs : List Fil} (h : FO w B v fs) (hb : B' ≤ B) : FO w B' v fs := by
  obtain ⟨h1, h2 | ⟨g, cap, cur, hv, hB, r⟩⟩ := h
  · exact ⟨h1, .inl h2⟩
  · exact ⟨h1, .inr ⟨g, cap, cur, hv, Nat.le_trans hb hB, r⟩⟩
theorem FO.step {w w' a : World} {B : Nat} {v : Value} {fs : List Fil} (h : FO w B v fs) (hb : Below B a w) (hB : B ≤ w.heap.size) (hg : w.grownBy w' v.ownBlock) : Below B a w' :=
  hb.grown hg hB (fun k e => (Nd.own_geK h k e).1)
set_option maxHeartbeats 4000000 in
set_option maxRecDepth 100000 in
theorem insert_any (w : World) (v : Value) (fs : List Fil) (f : Fil) (hv : Fls w v fs) (hn : fs.length ≤ 100000) (hf : f.path.size ≤ 9223372036854775807) (hs : ∀ g ∈ fs, g.path.size ≤ 9223372036854775807) :
    Calls Tryz.prog 37 #[v, f.val] w fun e w' => (∃ u, e = .returned u ∧ FO w' w.heap.size u (insF fs f)) ∧ Below w.heap.size w w' := by
  obtain ⟨W0, H0, HR0, HB0⟩ := fil_row w f
  have HV := hid_in hv
  have HF := hid_in (fun W => names_any f.path hf W)
  have HS := hid_in hs
  obtain ⟨pv, cv, rfl⟩ := hv.form
  have hcap : fs.length ≤ cv ∧ cv ≤ 9223372036854775807 := by
    obtain ⟨p', c', _, _, h1, h2, h3, _⟩ := hv
    simp only [Value.slice.injEq] at h1
    obtain ⟨_, _, rfl⟩ := h1
    exact ⟨h2, h3⟩
  obtain ⟨hc1, hc2⟩ := hcap
  unfold Fil.val
  clear hv hf hs
  go_enter Tryz.func37, Tryz.ntmps37
  go_upto_region 1 with fail
  refine Nd.wp_world H0.out ?_
  clear H0
  go_wp2_with fail
  go_loopw [5] (fun vk W => ∃ j : Nat, vk = .int .i64 (j : Int) ∧ j ≤ fs.length ∧ (∀ (i : Nat) g, i < j → fs[i]? = some g → ahead g f) ∧ Below W0.heap.size W0 W) (fun vk _ => fs.length - (intOf vk).toNat)
  case atStart => exact ⟨0, rfl, by omega, fun i g h => by omega, Below.refl _ _⟩
  case round =>
    obtain ⟨j, rfl, hj, hjs, hbj⟩ := hrel
    have HJ := hid_in hjs
    have HBJ := hid_in hbj
    have HBW : Hid (Below w.heap.size w wr) := HB0.out.trans (hbj.mono HB0.out.size)
    have HRJ : Hid (Nd.Row wr w.heap.size [.string f.path, .bool f.dir, .string f.data] 48) := HR0.out.below hbj HR0.out.lt
    clear hjs hbj
    by_cases hl : j < fs.length
    · have k1 : (j : Int) < (fs.length : Int) := by omega
      obtain ⟨g, hg⟩ : ∃ g, fs[j]? = some g := ⟨_, List.getElem?_eq_getElem hl⟩
      have HG := hid_in hg
      have HNG := hid_in (fun W => names_any g.path (HS.out g (List.mem_of_getElem? hg)) W)
      have HP : Hid (∃ b o, pv = some ⟨b, o, none⟩ ∧ ∀ W, Below w.heap.size w W → W.cell? ⟨b, o + j * 3, none⟩ = some (.string g.path)) := by
        obtain ⟨p', cap', b, o, h1, h2, h3, h4, h5, h6⟩ := HV.out
        simp only [Value.slice.injEq] at h1
        obtain ⟨rfl, _, _⟩ := h1
        have hne : fs ≠ [] := by rintro rfl; simp at hg
        refine ⟨b, o, (h4 hne).1, fun W hW => ?_⟩
        rw [hW.cell (p := ⟨b, o + j * 3, none⟩) (h4 hne).2]
        exact h5 _ _ (fcells_at hg 0 _ rfl)
      obtain ⟨b, o, rfl, hcell⟩ := HP.out
      have HCELL := hid_in hcell
      have c0 : wr.cell? ⟨b, o + j * 3, none⟩ = some (.string g.path) := hcell _ HBW.out
      have c1 : wr.cell? ⟨w.heap.size, 0, none⟩ = some (.string f.path) := HRJ.out.cell 0
      have HBD : Hid (Below w.heap.size w wr.drew) := HBW.out.drew
      have HRD : Hid (Nd.Row wr.drew w.heap.size [.string f.path, .bool f.dir, .string f.data] 48) := HRJ.out.drew
      clear hg hcell HP
      obtain ⟨c, Hc⟩ : ∃ c, Hid (cmpL (nmsOf g.path) (nmsOf f.path) = c) := ⟨_, rfl⟩
      clear HBD HRD c0 c1
      by_cases he : c < 0
      · have HE : Hid (ahead g f) := by show ahead g f; unfold ahead; rw [Hc.out]; exact he
        have HK : Hid (∀ W, Below W0.heap.size W0 W → W.cell? ⟨b, o + j * 3, none⟩ = some (.string g.path) ∧ W.cell? ⟨w.heap.size, 0, none⟩ = some (.string f.path)) := fun W hW => ⟨HCELL.out _ (HB0.out.trans (hW.mono HB0.out.size)), (HR0.out.below hW HR0.out.lt).cell 0⟩
        have HWD : Hid (Below W0.heap.size W0 wr.drew) := HBJ.out.drew
        go_wp2_with fail
        go_region_held3 (fun W => W.cell? ⟨b, o + j * 3, none⟩ = some (.string g.path) ∧ W.cell? ⟨w.heap.size, 0, none⟩ = some (.string f.path)) (first | (exact HK.out _ HBJ.out) | (exact HK.out _ HW3.out) | (exact HK.out _ HW2.out) | (exact HK.out _ HW1.out) | (exact HK.out _ HWD.out)) (first | (go_at_call 19; have hx := HNG.out; refine (HNG.out _).mono ?_; rintro e w1 ⟨⟨u1, rfl, hn1⟩, hb1⟩; have HN1 := hid_in (Vp.Nms.val hn1); have HW1 := hid_in (HWD.out.trans (hb1.mono HWD.out.size)); clear hn1 hb1 HNG hx) | (go_at_call 19; have hx := HW1.out; refine (HF.out _).mono ?_; rintro e w2 ⟨⟨u2, rfl, hn2⟩, hb2⟩; have HN2 := hid_in (Vp.Nms.val hn2); have HN1' := hid_in (HN1.out.below hb2); have HW2 := hid_in (HW1.out.trans (hb2.mono HW1.out.size)); clear hn2 hb2 hx) | (go_at_call 21; refine (Vp.rcompare_v HN1'.out HN2.out).mono ?_; rintro e w3 ⟨rfl, hd3⟩; rw [Hc.out]; have HW3 : Hid (Below W0.heap.size W0 w3) := (by obtain ⟨m, hm⟩ := hd3; show Below _ _ _; rw [hm]; exact below_drewN HW2.out m); clear hd3))
        all_goals
          go_wp2_with fail
          refine ⟨⟨j + 1, by go_num, by omega, fun i x hi hx => ?_, HW3.out⟩, by simp [intOf]; omega⟩
          rcases (show i < j ∨ i = j by omega) with h | rfl
          · exact HJ.out i x h hx
          · obtain rfl : g = x := Option.some.inj (HG.out.symm.trans hx)
            exact HE.out
      · have HK : Hid (∀ W, Below W0.heap.size W0 W → W.cell? ⟨b, o + j * 3, none⟩ = some (.string g.path) ∧ W.cell? ⟨w.heap.size, 0, none⟩ = some (.string f.path)) := fun W hW => ⟨HCELL.out _ (HB0.out.trans (hW.mono HB0.out.size)), (HR0.out.below hW HR0.out.lt).cell 0⟩
        have HWD : Hid (Below W0.heap.size W0 wr.drew) := HBJ.out.drew
        have HJL : Hid (j ≤ fs.length) := hj
        have HAT : Hid (insF fs f = fs.take j ++ [f] ++ fs.drop j) := insF_at fs f j hj HJ.out (fun x hx => by obtain rfl : g = x := Option.some.inj (HG.out.symm.trans hx); unfold ahead; rw [Hc.out]; exact he)
        go_wp2_with fail
        go_region_held3 (fun W => W.cell? ⟨b, o + j * 3, none⟩ = some (.string g.path) ∧ W.cell? ⟨w.heap.size, 0, none⟩ = some (.string f.path)) (first | (exact HK.out _ HBJ.out) | (exact HK.out _ HW3.out) | (exact HK.out _ HW2.out) | (exact HK.out _ HW1.out) | (exact HK.out _ HWD.out)) (first | (go_at_call 19; have hx := HNG.out; refine (HNG.out _).mono ?_; rintro e w1 ⟨⟨u1, rfl, hn1⟩, hb1⟩; have HN1 := hid_in (Vp.Nms.val hn1); have HW1 := hid_in (HWD.out.trans (hb1.mono HWD.out.size)); clear hn1 hb1 HNG hx) | (go_at_call 19; have hx := HW1.out; refine (HF.out _).mono ?_; rintro e w2 ⟨⟨u2, rfl, hn2⟩, hb2⟩; have HN2 := hid_in (Vp.Nms.val hn2); have HN1' := hid_in (HN1.out.below hb2); have HW2 := hid_in (HW1.out.trans (hb2.mono HW1.out.size)); clear hn2 hb2 hx) | (go_at_call 21; refine (Vp.rcompare_v HN1'.out HN2.out).mono ?_; rintro e w3 ⟨rfl, hd3⟩; rw [Hc.out]; have HW3 : Hid (Below W0.heap.size W0 w3) := (by obtain ⟨m, hm⟩ := hd3; show Below _ _ _; rw [hm]; exact below_drewN HW2.out m); clear hd3))
        all_goals
          go_upto_region 4 with fail
          have HB4 : Hid (Below w3.heap.size w3 (w3.alloc (.cells #[] 48))) := (Below.refl _ _).alloc (Nat.le_refl _) _
          have HBX : Hid (Below w.heap.size w w3) := HB0.out.trans (HW3.out.mono HB0.out.size)
          have HRX : Hid (Nd.Row w3 w.heap.size [.string f.path, .bool f.dir, .string f.data] 48) := HR0.out.below HW3.out HR0.out.lt
          have HVX : Hid (Fls w3 (.slice (some ⟨b, o, none⟩) fs.length cv) fs) := HV.out.below HBX.out
          have HF4 := hid_in ((HVX.out.below HB4.out).first j HJL.out)
          have HO4 := hid_in (own81 w3)
          have hs1 := slice22_to (some ⟨b, o, none⟩) fs.length cv j HF4.out.2.1
          obtain ⟨q6, hs2, hq6⟩ := HVX.out.rest j HJL.out
          have HQ6 := hid_in hq6
          have HSZ4 : Hid (w3.heap.size ≤ (w3.alloc (.cells #[] 48)).heap.size) := HB4.out.size
          clear hq6
          go_upto_region 5 with (first | (at_builtin; refine wpList_app81 w3.heap.size rfl (.tmp 26) (.tmp 29) rfl _ [] (fs.take j) rfl HO4.out _ rfl HF4.out.2.2 (by simp only [List.length_nil, List.length_take]; omega) HSZ4.out ?_; intro v5 w5 ho5 hg5; rw [List.nil_append] at ho5; have HO5 := hid_in ho5; have HB5 := hid_in (HO4.out.step HB4.out HSZ4.out hg5); clear ho5 hg5))
          have hr5 := HRX.out.below HB5.out HRX.out.lt
          have a0 : w5.cell? ⟨w.heap.size, 0, none⟩ = some (.string f.path) := hr5.cell 0
          have a1 : w5.cell? ⟨w.heap.size, 1, none⟩ = some (.bool f.dir) := hr5.cell 1
          have a2 : w5.cell? ⟨w.heap.size, 2, none⟩ = some (.string f.data) := hr5.cell 2
          clear hr5
          have HB6 : Hid (Below w5.heap.size w5 (w5.alloc (.cells #[.string f.path, .bool f.dir, .string f.data] 48))) := (Below.refl _ _).alloc (Nat.le_refl _) _
          have HO6 := hid_in (HO5.out.below HB6.out)
          have HF6 := hid_in (fls_one w5 f)
          have HSZ5 : Hid (w3.heap.size ≤ (w5.alloc (.cells #[.string f.path, .bool f.dir, .string f.data] 48)).heap.size) := Nat.le_trans HB5.out.size HB6.out.size
          have HB6' : Hid (Below w3.heap.size w3 (w5.alloc (.cells #[.string f.path, .bool f.dir, .string f.data] 48))) := HB5.out.trans (HB6.out.mono HB5.out.size)
          go_upto_region 6 with (first | (at_builtin; refine wpList_app81 w3.heap.size rfl (.tmp 31) (.tmp 33) rfl _ (fs.take j) [f] rfl HO6.out _ rfl HF6.out (by simp only [List.length_cons, List.length_nil, List.length_take]; omega) HSZ5.out ?_; intro v7 w7 ho7 hg7; have HO7 := hid_in ho7; have HB7 := hid_in (HO6.out.step HB6'.out HSZ5.out hg7); clear ho7 hg7))
          clear a0 a1 a2
          have HF8 := hid_in (HQ6.out.below HB7.out)
          have HSZ7 : Hid (w3.heap.size ≤ w7.heap.size) := HB7.out.size
          go_wp2_with (first | (at_builtin; refine wpList_app81 w3.heap.size rfl (.tmp 35) (.tmp 38) rfl _ (fs.take j ++ [f]) (fs.drop j) rfl HO7.out _ rfl HF8.out (by simp only [List.length_append, List.length_cons, List.length_nil, List.length_take, List.length_drop]; omega) HSZ7.out ?_; intro v9 w9 ho9 hg9; have HO9 := hid_in ho9; have HB9 := hid_in (HO7.out.step HB7.out HSZ7.out hg9); clear ho9 hg9))
          go_ret
          refine ⟨⟨_, rfl, ?_⟩, HBX.out.trans (HB9.out.mono HBX.out.size)⟩
          rw [HAT.out]
          exact HO9.out.mono HBX.out.size
    · have k1 : ¬ ((j : Int) < (fs.length : Int)) := by omega
      have HJL : Hid (j ≤ fs.length) := hj
      have HAT : Hid (insF fs f = fs.take j ++ [f] ++ fs.drop j) := insF_at fs f j hj HJ.out (fun x hx => by have := (List.getElem?_eq_some_iff.1 hx).1; omega)
      have hd : decide ((j : Int) < (fs.length : Int)) = false := decide_eq_false k1
      go_wp2_with fail
      go_quiet (fail)
      go_upto_region 4 with fail
      obtain ⟨WX, HWX⟩ : ∃ WX, wr.drewN nq = WX := ⟨_, rfl⟩
      have HW3 : Hid (Below W0.heap.size W0 WX) := by show Below _ _ _; rw [← HWX]; exact below_drewN HBJ.out nq
      rw [HWX]
      clear HWX
      have HB4 : Hid (Below WX.heap.size WX (WX.alloc (.cells #[] 48))) := (Below.refl _ _).alloc (Nat.le_refl _) _
      have HBX : Hid (Below w.heap.size w WX) := HB0.out.trans (HW3.out.mono HB0.out.size)
      have HRX : Hid (Nd.Row WX w.heap.size [.string f.path, .bool f.dir, .string f.data] 48) := HR0.out.below HW3.out HR0.out.lt
      have HVX : Hid (Fls WX (.slice pv fs.length cv) fs) := HV.out.below HBX.out
      have HF4 := hid_in ((HVX.out.below HB4.out).first j HJL.out)
      have HO4 := hid_in (own81 WX)
      have hs1 := slice22_to pv fs.length cv j HF4.out.2.1
      obtain ⟨q6, hs2, hq6⟩ := HVX.out.rest j HJL.out
      have HQ6 := hid_in hq6
      have HSZ4 : Hid (WX.heap.size ≤ (WX.alloc (.cells #[] 48)).heap.size) := HB4.out.size
      clear hq6
      go_upto_region 5 with (first | (at_builtin; refine wpList_app81 WX.heap.size rfl (.tmp 26) (.tmp 29) rfl _ [] (fs.take j) rfl HO4.out _ rfl HF4.out.2.2 (by simp only [List.length_nil, List.length_take]; omega) HSZ4.out ?_; intro v5 w5 ho5 hg5; rw [List.nil_append] at ho5; have HO5 := hid_in ho5; have HB5 := hid_in (HO4.out.step HB4.out HSZ4.out hg5); clear ho5 hg5))
      have hr5 := HRX.out.below HB5.out HRX.out.lt
      have a0 : w5.cell? ⟨w.heap.size, 0, none⟩ = some (.string f.path) := hr5.cell 0
      have a1 : w5.cell? ⟨w.heap.size, 1, none⟩ = some (.bool f.dir) := hr5.cell 1
      have a2 : w5.cell? ⟨w.heap.size, 2, none⟩ = some (.string f.data) := hr5.cell 2
      clear hr5
      have HB6 : Hid (Below w5.heap.size w5 (w5.alloc (.cells #[.string f.path, .bool f.dir, .string f.data] 48))) := (Below.refl _ _).alloc (Nat.le_refl _) _
      have HO6 := hid_in (HO5.out.below HB6.out)
      have HF6 := hid_in (fls_one w5 f)
      have HSZ5 : Hid (WX.heap.size ≤ (w5.alloc (.cells #[.string f.path, .bool f.dir, .string f.data] 48)).heap.size) := Nat.le_trans HB5.out.size HB6.out.size
      have HB6' : Hid (Below WX.heap.size WX (w5.alloc (.cells #[.string f.path, .bool f.dir, .string f.data] 48))) := HB5.out.trans (HB6.out.mono HB5.out.size)
      go_upto_region 6 with (first | (at_builtin; refine wpList_app81 WX.heap.size rfl (.tmp 31) (.tmp 33) rfl _ (fs.take j) [f] rfl HO6.out _ rfl HF6.out (by simp only [List.length_cons, List.length_nil, List.length_take]; omega) HSZ5.out ?_; intro v7 w7 ho7 hg7; have HO7 := hid_in ho7; have HB7 := hid_in (HO6.out.step HB6'.out HSZ5.out hg7); clear ho7 hg7))
      clear a0 a1 a2
      have HF8 := hid_in (HQ6.out.below HB7.out)
      have HSZ7 : Hid (WX.heap.size ≤ w7.heap.size) := HB7.out.size
      go_wp2_with (first | (at_builtin; refine wpList_app81 WX.heap.size rfl (.tmp 35) (.tmp 38) rfl _ (fs.take j ++ [f]) (fs.drop j) rfl HO7.out _ rfl HF8.out (by simp only [List.length_append, List.length_cons, List.length_nil, List.length_take, List.length_drop]; omega) HSZ7.out ?_; intro v9 w9 ho9 hg9; have HO9 := hid_in ho9; have HB9 := hid_in (HO7.out.step HB7.out HSZ7.out hg9); clear ho9 hg9))
      go_ret
      refine ⟨⟨_, rfl, ?_⟩, HBX.out.trans (HB9.out.mono HBX.out.size)⟩
      rw [HAT.out]
      exact HO9.out.mono HBX.out.size
end Go.Proofs.YtngehkmdanhgpaaGreat.Rf
namespace Go.Proofs.YtngehkmdanhgpaaGreat.Rf
open Go.RowKit
open Nd (take_put)
theorem info81 : (Tryz.prog.info? 48).map (·.size) = some 3 := by kernel_rfl
theorem below_drew (w : World) : Below w.heap.size w w.drew := (Below.refl _ _).drew
theorem Fls.range {w : World} {b o : Nat} {fs : List Fil} (h : ∀ j u, (fcells fs)[j]? = some u → w.cell? ⟨b, o + j, none⟩ = some u) (i : Nat) (f : Fil) (hi : fs[i]? = some f) : w.rangeAt b (o + i * 3) f.cells := fun j u hj => by
  rw [Nat.add_assoc]
  exact h _ _ (fcells_at hi j u hj)
theorem eq81 (f : Fil) (w : World) : (Op.equalIn 10000 48 (.agg f.cells.toArray) (.agg f.cells.toArray)).run Tryz.prog w = .ok true w := by
  have hst : Tryz.prog.stoodInHeld 48 = false := by kernel_rfl
  have p0 : (part 9 f.cells.toArray 0).run Tryz.prog w = .ok (.string f.path) w := by kernel_rfl
  have p1 : (part 4 f.cells.toArray 1).run Tryz.prog w = .ok (.bool f.dir) w := by kernel_rfl
  have p2 : (part 9 f.cells.toArray 2).run Tryz.prog w = .ok (.string f.data) w := by kernel_rfl
  have e9 : ∀ s : ByteArray, (Op.equalIn 9999 9 (.string s) (.string s)).run Tryz.prog w = .ok true w := fun s => by
    show (Op.equalIn (9998 + 1) 9 (.string s) (.string s)).run Tryz.prog w = .ok true w
    rw [Op.equalIn]
    simp [Sem.run_bind, run_underlying Tryz.underlying9, Result.andThen, Sem.run_pure]
    exact (Nd.ba_beq s s).2 rfl
  have e4 : ∀ s : Bool, (Op.equalIn 9999 4 (.bool s) (.bool s)).run Tryz.prog w = .ok true w := fun s => by
    show (Op.equalIn (9998 + 1) 4 (.bool s) (.bool s)).run Tryz.prog w = .ok true w
    rw [Op.equalIn]
    simp [Sem.run_bind, run_underlying Tryz.underlying4, Result.andThen, Sem.run_pure]
  show (Op.equalIn (9999 + 1) 48 (.agg f.cells.toArray) (.agg f.cells.toArray)).run Tryz.prog w = .ok true w
  rw [Op.equalIn]
  simp only [Sem.run_bind, run_underlying Tryz.underlying48, Result.andThen_ok]
  simp [hst, p0, p1, p2, e9, e4, Result.andThen, Sem.run_bind, Sem.run_pure]
set_option maxHeartbeats 2000000 in
set_option maxRecDepth 100000 in
theorem files_same (fs : List Fil) (va vb : Value) (w : World) (ha : Fls w va fs) (hb : Fls w vb fs) :
    Calls Tryz.prog 12 #[va, vb] w fun e w' => e = .returned (.bool true) ∧ Below w.heap.size w w' := by
  obtain ⟨p1, c1, b1, o1, rfl, h11, h12, h13, h14', _⟩ := ha
  have h14 := Fls.range h14'
  obtain ⟨p2, c2, b2, o2, rfl, h21, h22, h23, h24', _⟩ := hb
  have h24 := Fls.range h24'
  have HEL : Hid (∀ (i : Nat) f, fs[i]? = some f → p1 = some ⟨b1, o1, none⟩ ∧ p2 = some ⟨b2, o2, none⟩ ∧ ∀ W, Below w.heap.size w W → W.rangeAt b1 (o1 + i * 3) f.cells ∧ W.rangeAt b2 (o2 + i * 3) f.cells) := hid_in (fun i f hi => by
    have hne : fs ≠ [] := by rintro rfl; simp at hi
    exact ⟨(h13 hne).1, (h23 hne).1, fun W hW => ⟨Nd.rangeAt_below (h14 i f hi) hW (h13 hne).2, Nd.rangeAt_below (h24 i f hi) hW (h23 hne).2⟩⟩)
  obtain ⟨N, HN⟩ : ∃ N, Hid (fs.length = N) := ⟨_, hid_in rfl⟩
  rw [HN.out]
  have HNL : Hid (N ≤ 9223372036854775807) := hid_in (by rw [← HN.out]; omega)
  clear h11 h12 h13 h14 h14' h21 h22 h23 h24 h24'
  go_enter Tryz.func12, Tryz.ntmps12
  go_upto_region 4 with fail
  go_loopw [5] (fun vi W => ∃ i : Nat, i ≤ N ∧ vi = .int .i64 (i : Int) ∧ Hid (Below w.heap.size w W)) (fun vi _ => N - (intOf vi).toNat)
  case atStart => exact ⟨0, by omega, rfl, hid_in (Below.refl _ _)⟩
  case round =>
    obtain ⟨i, hi, rfl, hbw⟩ := hrel
    by_cases hlt : i < N
    · obtain ⟨f, hf⟩ : ∃ f, fs[i]? = some f := ⟨_, List.getElem?_eq_getElem (by rw [HN.out]; exact hlt)⟩
      obtain ⟨rfl, rfl, hW⟩ := HEL.out i f hf
      obtain ⟨X, HX⟩ : ∃ X, Hid (X = f.cells) := ⟨_, hid_in rfl⟩
      have HXL : Hid (X.length = 3) := hid_in (by rw [HX.out]; rfl)
      have heq : ∀ W, (Op.equalIn 10000 48 (.agg X.toArray) (.agg X.toArray)).run Tryz.prog W = .ok true W := fun W => by rw [HX.out]; exact eq81 f W
      have HBD : Hid (Below w.heap.size w wr.drew) := hid_in (hbw.out.trans ((below_drew wr).mono hbw.out.size))
      have HK : Hid (wr.drew.rangeAt b1 (o1 + i * 3) X ∧ wr.drew.rangeAt b2 (o2 + i * 3) X) := hid_in (by rw [HX.out]; exact hW _ HBD.out)
      have hlt2 : (i : Int) < (N : Int) := by omega
      have HIL := hid_in hlt
      have hN : (N : Int) ≤ 9223372036854775807 := by have := HNL.out; omega
      clear hW hf hi hlt
      go_upto_region 6 with fail
      refine wp_region_held_drew (S := fun W' => W'.rangeAt b1 (o1 + i * 3) X ∧ W'.rangeAt b2 (o2 + i * 3) X) (by kernel_rfl) HK.out (fun hHeld => ?_)
      refine take_put (i := 0) (d := 17) (v := ?_) rfl rfl (by kernel_rfl) (by kernel_rfl) (by kernel_rfl) (fun _ _ _ h => h) (Or.inl ⟨by kernel_rfl, ?_⟩) hHeld ?_
      rotate_left
      · (intro w hSw; (try dsimp only at hSw); go_simp; (try with_reducible rfl))
      simp only [Act.put, List.setIfInBounds_toArray, List.set_cons_zero, List.set_cons_succ]
      refine take_put (i := 1) (d := 18) (v := ?_) rfl rfl (by kernel_rfl) (by kernel_rfl) (by kernel_rfl) (fun _ _ _ h => h) (Or.inl ⟨by kernel_rfl, ?_⟩) hHeld ?_
      rotate_left
      · (intro w hSw; (try dsimp only at hSw); go_simp; (try with_reducible rfl))
      simp only [Act.put, List.setIfInBounds_toArray, List.set_cons_zero, List.set_cons_succ]
      refine take_put (i := 2) (d := 19) (v := ?_) rfl rfl (by kernel_rfl) (by kernel_rfl) (by kernel_rfl) (fun _ _ _ h => h) (Or.inl ⟨by kernel_rfl, ?_⟩) hHeld ?_
      rotate_left
      · (intro w hSw; (try dsimp only at hSw); go_simp; (try with_reducible rfl))
      simp only [Act.put, List.setIfInBounds_toArray, List.set_cons_zero, List.set_cons_succ]
      refine take_put (i := 3) (d := 20) (v := .agg X.toArray) rfl rfl (by kernel_rfl) (by kernel_rfl) (by kernel_rfl) (fun _ _ _ h => h) (yieldsIf_load_mid (by rfl) 48 _ rfl _ _ rfl X _ (fun w hSw => hSw.1) Tryz.underlying48 rfl (by rw [info81, HXL.out])) hHeld ?_
      simp only [Act.put, List.setIfInBounds_toArray, List.set_cons_zero, List.set_cons_succ]
      refine take_put (i := 4) (d := 21) (v := ?_) rfl rfl (by kernel_rfl) (by kernel_rfl) (by kernel_rfl) (fun _ _ _ h => h) (Or.inl ⟨by kernel_rfl, ?_⟩) hHeld ?_
      rotate_left
      · (intro w hSw; (try dsimp only at hSw); go_simp; (try with_reducible rfl))
      simp only [Act.put, List.setIfInBounds_toArray, List.set_cons_zero, List.set_cons_succ]
      refine take_put (i := 5) (d := 22) (v := ?_) rfl rfl (by kernel_rfl) (by kernel_rfl) (by kernel_rfl) (fun _ _ _ h => h) (Or.inl ⟨by kernel_rfl, ?_⟩) hHeld ?_
      rotate_left
      · (intro w hSw; (try dsimp only at hSw); go_simp; (try with_reducible rfl))
      simp only [Act.put, List.setIfInBounds_toArray, List.set_cons_zero, List.set_cons_succ]
      refine take_put (i := 6) (d := 23) (v := ?_) rfl rfl (by kernel_rfl) (by kernel_rfl) (by kernel_rfl) (fun _ _ _ h => h) (Or.inl ⟨by kernel_rfl, ?_⟩) hHeld ?_
      rotate_left
      · (intro w hSw; (try dsimp only at hSw); go_simp; (try with_reducible rfl))
      simp only [Act.put, List.setIfInBounds_toArray, List.set_cons_zero, List.set_cons_succ]
      refine take_put (i := 7) (d := 24) (v := .agg X.toArray) rfl rfl (by kernel_rfl) (by kernel_rfl) (by kernel_rfl) (fun _ _ _ h => h) (yieldsIf_load_mid (by rfl) 48 _ rfl _ _ rfl X _ (fun w hSw => hSw.2) Tryz.underlying48 rfl (by rw [info81, HXL.out])) hHeld ?_
      simp only [Act.put, List.setIfInBounds_toArray, List.set_cons_zero, List.set_cons_succ]
      refine take_put (i := 8) (d := 25) (v := .bool false) rfl rfl (by kernel_rfl) (by kernel_rfl) (by kernel_rfl) (fun _ _ _ h => h) (Or.inl ⟨by kernel_rfl, fun w hSw => ?_⟩) hHeld ?_
      · (go_simp)
      simp only [Act.put, List.setIfInBounds_toArray, List.set_cons_zero, List.set_cons_succ]
      refine wpAnyH_done (by kernel_rfl) ?_ _
      clear heq HK
      go_wp2
      go_roundw
      case rel => exact ⟨i + 1, by have := HIL.out; omega, by go_num, HBD⟩
      case measure => have := HIL.out; simp [intOf]; omega
    · obtain rfl : N = i := by omega
      clear hi hlt
      go_wp2
      go_ret
      exact ⟨rfl, hbw.out⟩
end Go.Proofs.YtngehkmdanhgpaaGreat.Rf
