/-
  The walk of UpperBack, for scripts of at most 200 steps.
-/
import Derived.Deep.CutRange
import Derived.Laws.CopyOwn
import Derived.Deep.RegionLaw
import Derived.Deep.DrawnRows
import Derived.Laws.Tables
import Derived.Test.YtglfeocfhlmloaaV00
import Derived.Test.YtglfeocfhlmloaaV01
import Derived.Test.YtglfeocfhlmloaaV02
import Derived.Test.YtglfeocfhlmloaaV03
import Derived.Test.YtglfeocfhlmloaaV04
import Derived.Test.YtglfeocfhlmloaaV05
import Derived.Test.YtglfeocfhlmloaaV06
import Derived.Test.YtglfeocfhlmloaaV07
import Derived.Test.YtglfeocfhlmloaaV08
import Derived.Test.YtglfeocfhlmloaaV09
import Derived.Test.YtglfeocfhlmloaaV10
import Derived.Test.YtglfeocfhlmloaaV11
import Derived.Test.YtglfeocfhlmloaaV12
import Derived.Test.YtglfeocfhlmloaaV13
import Derived.Test.YtglfeocfhlmloaaV14
import Derived.Test.YtglfeocfhlmloaaV15
import Derived.Test.YtglfeocfhlmloaaV16
import Derived.Test.YtglfeocfhlmloaaV17
import Derived.Test.YtglfeocfhlmloaaV18
import Derived.Test.YtglfeocfhlmloaaV19
import Derived.Test.YtglfeocfhlmloaaV20
import Derived.Test.YtglfeocfhlmloaaV21
import Derived.Test.YtglfeocfhlmloaaV22
import Derived.Test.YtglfeocfhlmloaaV23
import Derived.Test.YtglfeocfhlmloaaV24
import Derived.Test.YtglfeocfhlmloaaV25
import Derived.Test.YtglfeocfhlmloaaV26
import Derived.Test.YtglfeocfhlmloaaV27
import Derived.Test.YtglfeocfhlmloaaV28
import Derived.Test.YtglfeocfhlmloaaV29
import Derived.Test.YtglfeocfhlmloaaV30
import Derived.Test.YtglfeocfhlmloaaV31
import Derived.Test.YtglfeocfhlmloaaV32
import Derived.Test.YtglfeocfhlmloaaV33
import Derived.Test.YtglfeocfhlmloaaV34
import Derived.Test.YtglfeocfhlmloaaV35
namespace Go.Proofs.Ytglfeocfhlmloaa.Up
open Go.RowKit
open Vp (Str B bl Val cmpL parseS showS withinS IsPath checkS)
open Nd (take_put Row wp_world post_Row post_Row2 grownBy_setCell below_of_grown Sl u8v str)
/-- between two rounds -/
def BkRshort (w : World) (g m N Z : Nat) (W : World) : Prop := ∃ A, FsA W g m (N : Int) (Z : Int) A ∧ TreeA A ∧ Below w.heap.size w W
theorem own_moreshort {w : World} {b n : Nat} {v : Value} {X : List Nat} (hlt : ∀ x ∈ X ++ [0], x < 256) (hn : (X ++ [0]).length = n) (h : w.ownsRow b 5 1 v (([] ++ X).length + 1) (([] ++ X).map u8v ++ [.int .u8 0])) : ∃ p c b', v = .slice p n c ∧ Sl w p (X ++ [0]) c b' 0 ∧ (p = none → (X ++ [0]).length = 0 ∧ c = 0) := by
  have h2 : w.ownsRow b 5 1 v (X ++ [0]).length ((X ++ [0]).map u8v) := by
    rw [List.length_append, List.map_append]
    exact h
  have h3 := Nd.own_sl hlt h2
  rw [hn] at h3
  rw [hn]
  exact h3
set_option maxHeartbeats 16000000 in
set_option maxRecDepth 100000 in
theorem back_short (N Z : Nat) (hN : N ≤ 128) (hZ : Z ≤ 8192) (ss : List Stp) (v : Value) (w : World) (h : Stps w v ss) (hps : ∀ x ∈ ss, x.path.size ≤ 9223372036854775807) (hlen : ss.length ≤ 200) :
    Calls Try.prog 6 #[.int .i64 (N : Int), .int .i64 (Z : Int), v] w fun e w' => e = .returned (.bool true) ∧ Below w.heap.size w w' := by
  have HFI := hid_in (fun W (k : Below w.heap.size w W) => fits_any W _ ss (h.below k))
  obtain ⟨p, c, rfl, hl, hat⟩ := stps_at h
  have HAW := hid_in (awake_any w)
  have HNW := hid_in (fun W => new_ok (N : Int) (Z : Int) W (by unfold quotaOk; omega))
  have HAT := hid_in hat
  have HPS := hid_in hps
  have hM : (ss.length : Int) ≤ 9223372036854775807 := by omega
  have HNZ := hid_in (And.intro hN hZ)
  generalize hn : ss.length = M at *
  have HNN := hid_in hn
  clear h hat hl hps hn
  go_enter Try.func6, Try.ntmps6
  go_upto_region 3 with (go_at_call 7; refine HAW.out.mono ?_; rintro e w1 ⟨rfl, hb1⟩; have HB1 := hid_in hb1; clear hb1)
  go_upto_region 5 with (go_at_call 8; refine (HFI.out _ HB1.out).mono ?_; rintro e w2 ⟨⟨t, rfl⟩, hb2⟩; have HB2 := hid_in (HB1.out.trans (hb2.mono HB1.out.size)); clear hb2; rcases t with _ | _; (focus (go_wp2_with fail; go_ret; exact ⟨rfl, HB2.out⟩)))
  go_upto_region 8 with (go_at_call 9; refine (HNW.out _).mono ?_; rintro e w0 ⟨g, m, rfl, hF0, hb0, hm0⟩; have HM := hid_in (Nat.le_trans HB2.out.size hm0); have HRF : Hid (BkRshort w g m N Z w0) := hid_in ⟨[], ⟨[], hF0, rfl⟩, TreeA.nil, HB2.out.trans (hb0.mono HB2.out.size)⟩; clear hF0 hb0 hm0)
  clear HAW HFI HNW HB1 HB2
  go_wp2
  go_loopw [9] (fun vi W => ∃ i : Nat, i ≤ M ∧ vi = .int .i64 (i : Int) ∧ Hid (BkRshort w g m N Z W)) (fun vi _ => M - (intOf vi).toNat)
  case atStart => exact ⟨0, by omega, rfl, HRF.out⟩
  case round =>
    obtain ⟨i, hi, rfl, hrf⟩ := hrel
    have HI := hid_in hi
    by_cases hlt : i < M
    · as_aux_lemma =>
      have hj1 : (i : Int) < (M : Int) := by omega
      have hj2 : (i : Int) < 200 := by omega
      have HLT := hid_in hlt
      have hlo : i < ss.length := by rw [HNN.out]; omega
      obtain ⟨b, o, rfl, hcs⟩ := HAT.out (by intro e; rw [e] at hlo; simp at hlo)
      have HCS := hid_in (fun W (k : Below w.heap.size w W) => hcs W k i _ (List.getElem?_eq_getElem hlo))
      have hpx := HPS.out _ (List.getElem_mem hlo)
      obtain ⟨A, hF, hT, hb⟩ := hrf.out
      have HF := hid_in hF
      have HT := hid_in hT
      have HB := hid_in hb
      generalize ss[i] = x at *
      obtain ⟨xp, xk, xq, xd, xr, xv, xn⟩ := x
      simp only at HCS hpx
      have HPX := hid_in hpx
      obtain ⟨⟨np, nc, hnv⟩, -⟩ := HCS.out _ hb
      subst hnv
      generalize xn.length = xl at *
      obtain ⟨-, hval, a0, a1, a2, a3, a4, a5⟩ := HCS.out _ HB.out
      have hlA : A.length ≤ 100000 := by have := hT.len; omega
      have HPUT := hid_in (w_put hF hlA xp xk xq xd HPX.out)
      have HDR := hid_in (w_drop hF hlA hval)
      clear hlo hcs hpx hF hT hb hrf hlt hi HRF HAT HPS hval hlA
      rcases xr with _ | _
      · go_wp2_with (go_at_call 21; refine HPUT.out.mono ?_; rintro e w6 ⟨rfl, hF6, hg6⟩; have HU : Hid (BkRshort w g m N Z w6) := hid_in ⟨_, hF6, tree_put HT.out _ _ _ _, HB.out.grown hg6 HB.out.size (fun j e => by obtain rfl := Option.some.inj e; exact HM.out)⟩; clear hF6 hg6)
        go_roundw
        case rel => exact ⟨i + 1, by have := HLT.out; omega, by go_num, HU.out⟩
        case measure => have := HLT.out; simp [intOf]; omega
      · go_wp2_with (go_at_call 20; refine HDR.out.mono ?_; rintro e w6 ⟨rfl, hF6, hg6⟩; have HU : Hid (BkRshort w g m N Z w6) := hid_in ⟨_, hF6, tree_drop HT.out _, HB.out.grown hg6 HB.out.size (fun j e => by obtain rfl := Option.some.inj e; exact HM.out)⟩; clear hF6 hg6)
        go_roundw
        case rel => exact ⟨i + 1, by have := HLT.out; omega, by go_num, HU.out⟩
        case measure => have := HLT.out; simp [intOf]; omega
    · have hiK : i = M := by have := HI.out; omega
      have hj1 : ¬ (i : Int) < (M : Int) := by omega
      obtain ⟨A, hF, hT, hb⟩ := hrf.out
      have HF := hid_in hF
      have HT := hid_in hT
      have HB := hid_in hb
      clear hF hT hb hrf hiK hlt hi HRF HAT HPS HI HM HNN
      go_upto_region 15 with (go_at_call 18; refine (enc_ent HF.out HNZ.out.1 HNZ.out.2 HT.out).mono ?_; rintro e w1 ⟨es, p1, c1, b1, ho1, rfl, hs1, hno1, hb1⟩; have HO := hid_in ho1; have HS1 := hid_in hs1; have HNO := hid_in hno1; have HF1 := hid_in (HF.out.below hb1); have HB1 := hid_in (HB.out.trans (hb1.mono HB.out.size)); clear ho1 hs1 hno1 hb1)
      have HXL := hid_in (encA_len (N := N) (Z := Z) HNZ.out.1 HNZ.out.2 HT.out HO.out)
      have HRD := hid_in (back_read (N := N) (Z := Z) HT.out HO.out HNZ.out.1 HNZ.out.2)
      have HTE := hid_in (HT.out.perm HO.out.1)
      have HOE : Hid (OrdA es es) := hid_in ⟨List.Perm.refl _, HO.out.2⟩
      rw [show A.length = es.length from HO.out.1.length_eq.symm] at HRD
      have HDC := hid_in (decode_any HS1.out HNO.out (by have := HXL.out; omega))
      obtain ⟨X, HX⟩ : ∃ X, Hid (encA N Z es = X) := ⟨_, hid_in rfl⟩
      have HRX : Hid (∀ r, readU (X ++ r, 0) = some (N, Z, es)) := hid_in (by rw [← HX.out]; exact HRD.out)
      have hpos : 0 < X.length := by rw [← HX.out]; exact encA_pos N Z es
      rw [HX.out] at HXL HDC HS1 HNO ⊢
      obtain ⟨n2, hn2⟩ : ∃ n2, X.length = n2 + 1 := ⟨X.length - 1, by omega⟩
      have HN2 := hid_in hn2
      rw [hn2] at HDC HNO ⊢
      clear hpos hn2 HRD
      go_upto_region 16 with (go_at_call 28; refine HDC.out.mono ?_; rintro e w2 ⟨hc, hb2⟩; have HB2 := hid_in (HB1.out.trans (hb2.mono HB1.out.size)); have HF2 := hid_in (HF1.out.below hb2); have HS2 := hid_in (HS1.out.below hb2); clear hb2; rcases hc with ⟨rfl, hbad⟩ | ⟨N', Z', A', es', g2, m2, hr, ho, he, rfl, hF2⟩; (focus (exact absurd HX.out (hbad N Z es es (by have := HRX.out []; rwa [List.append_nil] at this) HOE.out))); have HRV : Hid (FsA w2 g2 m2 (N : Int) (Z : Int) es) := hid_in (by have h1 := HRX.out []; rw [List.append_nil, hr] at h1; have h2 := Option.some.inj h1; rw [(Prod.mk.inj h2).1, (Prod.mk.inj (Prod.mk.inj h2).2).1, (Prod.mk.inj (Prod.mk.inj h2).2).2] at hF2; exact hF2); clear hr ho he hF2)
      clear HDC HF1 HB1 HS1
      obtain ⟨T, HTT⟩ : ∃ T, Hid (str X = T) := ⟨_, hid_in rfl⟩
      obtain ⟨n1, HN1⟩ : ∃ n1, Hid (n2 + 1 = n1) := ⟨_, hid_in rfl⟩
      have HCV : Hid (∀ W, Below w2.heap.size w2 W → (convert 43 9 (.slice p1 n1 c1)).run Try.prog W = .ok (.string T) W) := hid_in (fun W k => by have h := Nd.conv_sl (HS2.out.below k); rw [HTT.out, HN2.out, HN1.out] at h; exact h)
      have HEN : Hid (∀ W, Below w2.heap.size w2 W → Calls Try.prog 18 #[.pointer (some ⟨g2, 0, none⟩)] W fun e w' => ∃ pe ce, e = .returned (.slice pe n1 ce) ∧ (convert 43 9 (.slice pe n1 ce)).run Try.prog w' = .ok (.string T) w' ∧ Below W.heap.size W w') := hid_in (fun W k => by
        refine (enc_ent (HRV.out.below k) HNZ.out.1 HNZ.out.2 HTE.out).mono ?_
        rintro e w' ⟨es', pe, ce, be, ho, rfl, hs, -, hb⟩
        rw [ordA_one HTE.out.nd ho HOE.out, HX.out] at hs ⊢
        have h := Nd.conv_sl hs
        rw [HTT.out, HN2.out, HN1.out] at h
        rw [HN2.out, HN1.out]
        exact ⟨pe, ce, rfl, h, hb⟩)
      obtain ⟨fs, HFS⟩ : ∃ fs, Hid (es.map Ent.fil = fs) := ⟨_, hid_in rfl⟩
      have HL2 : Hid (∀ W, Below w2.heap.size w2 W → Calls Try.prog 16 #[.pointer (some ⟨g2, 0, none⟩), .slice none 0 0] W fun e w' => ∃ pa ca, e = .returned (.slice pa fs.length ca) ∧ Fls w' (.slice pa fs.length ca) fs ∧ Below W.heap.size W w') := hid_in (fun W k => by
        refine (list_ent (HRV.out.below k) HTE.out).mono ?_
        rintro e w' ⟨v, es', ho, rfl, hf, hb⟩
        rw [ordA_one HTE.out.nd ho HOE.out, HFS.out] at hf
        obtain ⟨pa, ca, rfl⟩ := hf.form
        exact ⟨pa, ca, rfl, hf, hb⟩)
      have HL1 : Hid (∀ W, Below w2.heap.size w2 W → Calls Try.prog 16 #[.pointer (some ⟨g, 0, none⟩), .slice none 0 0] W fun e w' => ∃ pa ca, e = .returned (.slice pa fs.length ca) ∧ Fls w' (.slice pa fs.length ca) fs ∧ Below W.heap.size W w') := hid_in (fun W k => by
        refine (list_ent (HF2.out.below k) HT.out).mono ?_
        rintro e w' ⟨v, es', ho, rfl, hf, hb⟩
        rw [ordA_one HT.out.nd ho HO.out, HFS.out] at hf
        obtain ⟨pa, ca, rfl⟩ := hf.form
        exact ⟨pa, ca, rfl, hf, hb⟩)
      have HIN : Hid (∀ W va vb, Fls W va fs → Fls W vb fs → Calls Try.prog 15 #[va, vb] W fun e w' => e = .returned (.bool true) ∧ Below W.heap.size W w') := hid_in (fun W va vb h1 h2 => inodes_same fs va vb W h1 h2)
      have hsm : ∀ {X : List Ent}, TreeA X → Small X := fun hX e he => (kind_ok (hX.good e he).2.2).1
      have hln : ∀ {X : List Ent}, TreeA X → X.length ≤ 100000 := fun hX => by have := hX.len; omega
      have hov : overA (N : Int) (Z : Int) es = overA (N : Int) (Z : Int) A := by
        unfold overA sumA
        rw [HO.out.1.length_eq, (HO.out.1.map (fun e => e.data.size)).sum_nat]
      have hsu : sumA es = sumA A := by
        unfold sumA
        exact (HO.out.1.map (fun e => e.data.size)).sum_nat
      obtain ⟨ov, HOV⟩ : ∃ ov, Hid (overA (N : Int) (Z : Int) A = ov) := ⟨_, hid_in rfl⟩
      obtain ⟨sz, HSZ⟩ : ∃ sz, Hid (sumA A = sz) := ⟨_, hid_in rfl⟩
      have HO2 : Hid (∀ W, Below w2.heap.size w2 W → Calls Try.prog 24 #[.pointer (some ⟨g2, 0, none⟩)] W fun e w' => e = .returned (.bool ov) ∧ Below W.heap.size W w') := hid_in (fun W k => by have h := w_over (HRV.out.below k) (hln HTE.out) (hsm HTE.out); rw [hov, HOV.out] at h; exact h)
      have HO1 : Hid (∀ W, Below w2.heap.size w2 W → Calls Try.prog 24 #[.pointer (some ⟨g, 0, none⟩)] W fun e w' => e = .returned (.bool ov) ∧ Below W.heap.size W w') := hid_in (fun W k => by have h := w_over (HF2.out.below k) (hln HT.out) (hsm HT.out); rw [HOV.out] at h; exact h)
      have HS2' : Hid (∀ W, Below w2.heap.size w2 W → Calls Try.prog 23 #[.pointer (some ⟨g2, 0, none⟩)] W fun e w' => e = .returned (.int .i64 (sz : Int)) ∧ Below W.heap.size W w') := hid_in (fun W k => by have h := w_size (HRV.out.below k) (hln HTE.out) (hsm HTE.out); rw [hsu, HSZ.out] at h; exact h)
      have HS1 : Hid (∀ W, Below w2.heap.size w2 W → Calls Try.prog 23 #[.pointer (some ⟨g, 0, none⟩)] W fun e w' => e = .returned (.int .i64 (sz : Int)) ∧ Below W.heap.size W w') := hid_in (fun W k => by have h := w_size (HF2.out.below k) (hln HT.out) (hsm HT.out); rw [HSZ.out] at h; exact h)
      have HSL2 := HS2
      clear HS2
      have HS2 := HS2'
      clear HS2' hsm hln hov hsu
      have HQ0 : Hid (Below w2.heap.size w2 w2.drew) := hid_in (below_drew w2)
      have HD1 := hid_in (fun W (q : Option Addr) (bs : List Nat) (cap b off : Nat) (hs : Sl W q bs cap b off) (hno : q = none → bs.length = 0 ∧ cap = 0) (hl : bs.length ≤ 140737488355328) => decode_any hs hno hl)
      rw [HN1.out] at HNO ⊢
      generalize fs.length = fn at *
      go_cut [103] from 68 to 103 (fun v W => v = .bool false ∧ Hid (Below w2.heap.size w2 W))
      case first =>
        refine wp_region_held_drew (S := fun W => (convert 43 9 (.slice p1 n1 c1)).run Try.prog W = .ok (.string T) W) (by kernel_rfl) (HCV.out _ HQ0.out) (fun hHeld => ?_)
        refine take_put (i := 0) (d := 68) (v := ?_) rfl rfl (by kernel_rfl) (by kernel_rfl) (by kernel_rfl) (fun _ _ _ h => h) (Or.inl ⟨by kernel_rfl, ?_⟩) hHeld ?_
        rotate_left
        · (intro w hSw; (try dsimp only at hSw); go_simp; (try with_reducible rfl))
        simp only [Act.put, List.setIfInBounds_toArray, List.set_cons_zero, List.set_cons_succ]
        refine take_put (i := 1) (d := 69) (v := .bool false) rfl rfl (by kernel_rfl) (by kernel_rfl) (by kernel_rfl) (fun _ _ _ h => h) (Or.inl ⟨by kernel_rfl, fun w hSw => ?_⟩) hHeld ?_
        · (go_simp <;> omega)
        simp only [Act.put, List.setIfInBounds_toArray, List.set_cons_zero, List.set_cons_succ]
        refine take_put (i := 2) (d := 70) (v := .bool false) rfl rfl (by kernel_rfl) (by kernel_rfl) (by kernel_rfl) (fun _ _ _ h => h) (Or.inl ⟨by kernel_rfl, fun w hSw => ?_⟩) hHeld ?_
        · (go_simp <;> omega)
        simp only [Act.put, List.setIfInBounds_toArray, List.set_cons_zero, List.set_cons_succ]
        refine take_put (i := 3) (d := 71) (v := ?_) rfl rfl (by kernel_rfl) (by kernel_rfl) (by kernel_rfl) (fun _ _ _ h => h) (Or.inl ⟨by kernel_rfl, ?_⟩) hHeld ?_
        rotate_left
        · (intro w hSw; (try dsimp only at hSw); go_simp; (try with_reducible rfl))
        simp only [Act.put, List.setIfInBounds_toArray, List.set_cons_zero, List.set_cons_succ]
        refine take_put (i := 4) (d := 72) (v := .bool false) rfl rfl (by kernel_rfl) (by kernel_rfl) (by kernel_rfl) (fun _ _ _ h => h) (Or.inl ⟨by kernel_rfl, fun w hSw => ?_⟩) hHeld ?_
        · (go_simp <;> omega)
        simp only [Act.put, List.setIfInBounds_toArray, List.set_cons_zero, List.set_cons_succ]
        refine take_put (i := 5) (d := 73) (v := .bool false) rfl rfl (by kernel_rfl) (by kernel_rfl) (by kernel_rfl) (fun _ _ _ h => h) (Or.inl ⟨by kernel_rfl, fun w hSw => ?_⟩) hHeld ?_
        · (go_simp <;> omega)
        simp only [Act.put, List.setIfInBounds_toArray, List.set_cons_zero, List.set_cons_succ]
        refine take_put (i := 6) (d := 74) (v := .bool false) rfl rfl (by kernel_rfl) (by kernel_rfl) (by kernel_rfl) (fun _ _ _ h => h) (Or.inl ⟨by kernel_rfl, fun w hSw => ?_⟩) hHeld ?_
        · (go_simp <;> omega)
        simp only [Act.put, List.setIfInBounds_toArray, List.set_cons_zero, List.set_cons_succ]
        refine take_put (i := 7) (d := 75) (v := ?_) rfl rfl (by kernel_rfl) (by kernel_rfl) (by kernel_rfl) (fun _ _ _ h => h) (Or.inl ⟨by kernel_rfl, ?_⟩) hHeld ?_
        rotate_left
        · (intro w hSw; (try dsimp only at hSw); go_simp; (try with_reducible rfl))
        simp only [Act.put, List.setIfInBounds_toArray, List.set_cons_zero, List.set_cons_succ]
        refine take_put (i := 10) (d := 78) (v := ?_) rfl rfl (by kernel_rfl) (by kernel_rfl) (by kernel_rfl) (fun _ _ _ h => h) (Or.inl ⟨by kernel_rfl, ?_⟩) hHeld ?_
        rotate_left
        · (intro w hSw; (try dsimp only at hSw); go_simp; (try with_reducible rfl))
        simp only [Act.put, List.setIfInBounds_toArray, List.set_cons_zero, List.set_cons_succ]
        refine take_put (i := 11) (d := 79) (v := ?_) rfl rfl (by kernel_rfl) (by kernel_rfl) (by kernel_rfl) (fun _ _ _ h => h) (Or.inl ⟨by kernel_rfl, ?_⟩) hHeld ?_
        rotate_left
        · (intro w hSw; (try dsimp only at hSw); go_simp; (try with_reducible rfl))
        simp only [Act.put, List.setIfInBounds_toArray, List.set_cons_zero, List.set_cons_succ]
        refine wpAnyH_ready (rs := [8]) (by kernel_rfl) (by simp) ?_
        refine AllReadyH.cons rfl (fun K hK => ?_) AllReadyH.nil
        rw [if_pos (by rfl)]
        go_simp
        refine (HEN.out _ HQ0.out).mono ?_
        rintro e x1 ⟨pe, ce, rfl, hcv, hb⟩
        have HQ1 := hid_in (HQ0.out.trans (hb.mono HQ0.out.size))
        clear hb
        go_simp
        refine hK.out _ _ (HCV.out _ HQ1.out) (fun hHeld => ?_)
        clear hK K
        refine wpAnyH_ready (rs := [9]) (by kernel_rfl) (by simp) ?_
        refine AllReadyH.cons rfl (fun K hK => ?_) AllReadyH.nil
        rw [if_pos (by rfl)]
        go_simp
        refine hK.out _ _ (HCV.out _ HQ1.out) (fun hHeld => ?_)
        clear hK K
        clear hcv
        refine take_put (i := 12) (d := 80) (v := .bool false) rfl rfl (by kernel_rfl) (by kernel_rfl) (by kernel_rfl) (fun _ _ _ h => h) (Or.inl ⟨by kernel_rfl, fun w hSw => ?_⟩) hHeld ?_
        · (go_simp <;> omega)
        simp only [Act.put, List.setIfInBounds_toArray, List.set_cons_zero, List.set_cons_succ]
        refine take_put (i := 13) (d := 81) (v := .bool false) rfl rfl (by kernel_rfl) (by kernel_rfl) (by kernel_rfl) (fun _ _ _ h => h) (Or.inl ⟨by kernel_rfl, fun w hSw => ?_⟩) hHeld ?_
        · (go_simp <;> omega)
        simp only [Act.put, List.setIfInBounds_toArray, List.set_cons_zero, List.set_cons_succ]
        refine take_put (i := 14) (d := 82) (v := .bool false) rfl rfl (by kernel_rfl) (by kernel_rfl) (by kernel_rfl) (fun _ _ _ h => h) (Or.inl ⟨by kernel_rfl, fun w hSw => ?_⟩) hHeld ?_
        · (go_simp <;> omega)
        simp only [Act.put, List.setIfInBounds_toArray, List.set_cons_zero, List.set_cons_succ]
        refine take_put (i := 15) (d := 83) (v := ?_) rfl rfl (by kernel_rfl) (by kernel_rfl) (by kernel_rfl) (fun _ _ _ h => h) (Or.inl ⟨by kernel_rfl, ?_⟩) hHeld ?_
        rotate_left
        · (intro w hSw; (try dsimp only at hSw); go_simp; (try with_reducible rfl))
        simp only [Act.put, List.setIfInBounds_toArray, List.set_cons_zero, List.set_cons_succ]
        refine take_put (i := 17) (d := 85) (v := ?_) rfl rfl (by kernel_rfl) (by kernel_rfl) (by kernel_rfl) (fun _ _ _ h => h) (Or.inl ⟨by kernel_rfl, ?_⟩) hHeld ?_
        rotate_left
        · (intro w hSw; (try dsimp only at hSw); go_simp; (try with_reducible rfl))
        simp only [Act.put, List.setIfInBounds_toArray, List.set_cons_zero, List.set_cons_succ]
        refine wpAnyH_ready (rs := [16]) (by kernel_rfl) (by simp) ?_
        refine AllReadyH.cons rfl (fun K hK => ?_) AllReadyH.nil
        rw [if_pos (by rfl)]
        go_simp
        refine (HL2.out _ HQ1.out).mono ?_
        rintro e x2 ⟨pa, ca, rfl, hfa, hb⟩
        have HQ2 := hid_in (HQ1.out.trans (hb.mono HQ1.out.size))
        have HFA0 := hid_in hfa
        clear hfa
        clear hb
        go_simp
        refine hK.out _ _ (HCV.out _ HQ2.out) (fun hHeld => ?_)
        clear hK K
        refine wpAnyH_ready (rs := [18]) (by kernel_rfl) (by simp) ?_
        refine AllReadyH.cons rfl (fun K hK => ?_) AllReadyH.nil
        rw [if_pos (by rfl)]
        go_simp
        refine (HL1.out _ HQ2.out).mono ?_
        rintro e x3 ⟨pb, cb, rfl, hfb, hb⟩
        have HQ3 := hid_in (HQ2.out.trans (hb.mono HQ2.out.size))
        have HFB := hid_in hfb
        have HFA := hid_in (HFA0.out.below hb)
        clear hfb HFA0
        clear hb
        go_simp
        refine hK.out _ _ (HCV.out _ HQ3.out) (fun hHeld => ?_)
        clear hK K
        refine wpAnyH_ready (rs := [19]) (by kernel_rfl) (by simp) ?_
        refine AllReadyH.cons rfl (fun K hK => ?_) AllReadyH.nil
        rw [if_pos (by rfl)]
        go_simp
        refine (HIN.out _ _ _ HFA.out HFB.out).mono ?_
        rintro e x4 ⟨rfl, hb⟩
        have HQ4 := hid_in (HQ3.out.trans (hb.mono HQ3.out.size))
        clear hb HFA HFB
        go_simp
        refine hK.out _ _ (HCV.out _ HQ4.out) (fun hHeld => ?_)
        clear hK K
        refine take_put (i := 20) (d := 88) (v := .bool false) rfl rfl (by kernel_rfl) (by kernel_rfl) (by kernel_rfl) (fun _ _ _ h => h) (Or.inl ⟨by kernel_rfl, fun w hSw => ?_⟩) hHeld ?_
        · (go_simp <;> omega)
        simp only [Act.put, List.setIfInBounds_toArray, List.set_cons_zero, List.set_cons_succ]
        refine take_put (i := 21) (d := 89) (v := .bool false) rfl rfl (by kernel_rfl) (by kernel_rfl) (by kernel_rfl) (fun _ _ _ h => h) (Or.inl ⟨by kernel_rfl, fun w hSw => ?_⟩) hHeld ?_
        · (go_simp <;> omega)
        simp only [Act.put, List.setIfInBounds_toArray, List.set_cons_zero, List.set_cons_succ]
        refine take_put (i := 22) (d := 90) (v := .bool false) rfl rfl (by kernel_rfl) (by kernel_rfl) (by kernel_rfl) (fun _ _ _ h => h) (Or.inl ⟨by kernel_rfl, fun w hSw => ?_⟩) hHeld ?_
        · (go_simp <;> omega)
        simp only [Act.put, List.setIfInBounds_toArray, List.set_cons_zero, List.set_cons_succ]
        refine take_put (i := 23) (d := 91) (v := ?_) rfl rfl (by kernel_rfl) (by kernel_rfl) (by kernel_rfl) (fun _ _ _ h => h) (Or.inl ⟨by kernel_rfl, ?_⟩) hHeld ?_
        rotate_left
        · (intro w hSw; (try dsimp only at hSw); go_simp; (try with_reducible rfl))
        simp only [Act.put, List.setIfInBounds_toArray, List.set_cons_zero, List.set_cons_succ]
        refine take_put (i := 25) (d := 93) (v := ?_) rfl rfl (by kernel_rfl) (by kernel_rfl) (by kernel_rfl) (fun _ _ _ h => h) (Or.inl ⟨by kernel_rfl, ?_⟩) hHeld ?_
        rotate_left
        · (intro w hSw; (try dsimp only at hSw); go_simp; (try with_reducible rfl))
        simp only [Act.put, List.setIfInBounds_toArray, List.set_cons_zero, List.set_cons_succ]
        refine wpAnyH_ready (rs := [24]) (by kernel_rfl) (by simp) ?_
        refine AllReadyH.cons rfl (fun K hK => ?_) AllReadyH.nil
        rw [if_pos (by rfl)]
        go_simp
        refine (HO2.out _ HQ4.out).mono ?_
        rintro e x5 ⟨rfl, hb⟩
        have HQ5 := hid_in (HQ4.out.trans (hb.mono HQ4.out.size))
        clear hb
        go_simp
        refine hK.out _ _ (HCV.out _ HQ5.out) (fun hHeld => ?_)
        clear hK K
        refine wpAnyH_ready (rs := [26]) (by kernel_rfl) (by simp) ?_
        refine AllReadyH.cons rfl (fun K hK => ?_) AllReadyH.nil
        rw [if_pos (by rfl)]
        go_simp
        refine (HO1.out _ HQ5.out).mono ?_
        rintro e x6 ⟨rfl, hb⟩
        have HQ6 := hid_in (HQ5.out.trans (hb.mono HQ5.out.size))
        clear hb
        go_simp
        refine hK.out _ _ (HCV.out _ HQ6.out) (fun hHeld => ?_)
        clear hK K
        refine take_put (i := 27) (d := 95) (v := .bool false) rfl rfl (by kernel_rfl) (by kernel_rfl) (by kernel_rfl) (fun _ _ _ h => h) (Or.inl ⟨by kernel_rfl, fun w hSw => ?_⟩) hHeld ?_
        · (go_simp <;> omega)
        simp only [Act.put, List.setIfInBounds_toArray, List.set_cons_zero, List.set_cons_succ]
        refine take_put (i := 28) (d := 96) (v := .bool false) rfl rfl (by kernel_rfl) (by kernel_rfl) (by kernel_rfl) (fun _ _ _ h => h) (Or.inl ⟨by kernel_rfl, fun w hSw => ?_⟩) hHeld ?_
        · (go_simp <;> omega)
        simp only [Act.put, List.setIfInBounds_toArray, List.set_cons_zero, List.set_cons_succ]
        refine take_put (i := 29) (d := 97) (v := .bool false) rfl rfl (by kernel_rfl) (by kernel_rfl) (by kernel_rfl) (fun _ _ _ h => h) (Or.inl ⟨by kernel_rfl, fun w hSw => ?_⟩) hHeld ?_
        · (go_simp <;> omega)
        simp only [Act.put, List.setIfInBounds_toArray, List.set_cons_zero, List.set_cons_succ]
        refine take_put (i := 30) (d := 98) (v := ?_) rfl rfl (by kernel_rfl) (by kernel_rfl) (by kernel_rfl) (fun _ _ _ h => h) (Or.inl ⟨by kernel_rfl, ?_⟩) hHeld ?_
        rotate_left
        · (intro w hSw; (try dsimp only at hSw); go_simp; (try with_reducible rfl))
        simp only [Act.put, List.setIfInBounds_toArray, List.set_cons_zero, List.set_cons_succ]
        refine take_put (i := 32) (d := 100) (v := ?_) rfl rfl (by kernel_rfl) (by kernel_rfl) (by kernel_rfl) (fun _ _ _ h => h) (Or.inl ⟨by kernel_rfl, ?_⟩) hHeld ?_
        rotate_left
        · (intro w hSw; (try dsimp only at hSw); go_simp; (try with_reducible rfl))
        simp only [Act.put, List.setIfInBounds_toArray, List.set_cons_zero, List.set_cons_succ]
        refine wpAnyH_ready (rs := [31]) (by kernel_rfl) (by simp) ?_
        refine AllReadyH.cons rfl (fun K hK => ?_) AllReadyH.nil
        rw [if_pos (by rfl)]
        go_simp
        refine (HS2.out _ HQ6.out).mono ?_
        rintro e x7 ⟨rfl, hb⟩
        have HQ7 := hid_in (HQ6.out.trans (hb.mono HQ6.out.size))
        clear hb
        go_simp
        refine hK.out _ _ (HCV.out _ HQ7.out) (fun hHeld => ?_)
        clear hK K
        refine wpAnyH_ready (rs := [33]) (by kernel_rfl) (by simp) ?_
        refine AllReadyH.cons rfl (fun K hK => ?_) AllReadyH.nil
        rw [if_pos (by rfl)]
        go_simp
        refine (HS1.out _ HQ7.out).mono ?_
        rintro e x8 ⟨rfl, hb⟩
        have HQ8 := hid_in (HQ7.out.trans (hb.mono HQ7.out.size))
        clear hb
        go_simp
        refine hK.out _ _ (HCV.out _ HQ8.out) (fun hHeld => ?_)
        clear hK K
        refine take_put (i := 34) (d := 102) (v := .bool false) rfl rfl (by kernel_rfl) (by kernel_rfl) (by kernel_rfl) (fun _ _ _ h => h) (Or.inl ⟨by kernel_rfl, fun w hSw => ?_⟩) hHeld ?_
        · (go_simp <;> omega)
        simp only [Act.put, List.setIfInBounds_toArray, List.set_cons_zero, List.set_cons_succ]
        refine take_put (i := 35) (d := 103) (v := .bool false) rfl rfl (by kernel_rfl) (by kernel_rfl) (by kernel_rfl) (fun _ _ _ h => h) (Or.inl ⟨by kernel_rfl, fun w hSw => ?_⟩) hHeld ?_
        · (go_simp <;> omega)
        simp only [Act.put, List.setIfInBounds_toArray, List.set_cons_zero, List.set_cons_succ]
        refine wpAnyH_done (by kernel_rfl) ?_ _
        go_wp2_with fail
        go_meet
        exact ⟨rfl, HQ8.out⟩
      case rest =>
        obtain ⟨rfl, hcb⟩ := hcut
        have HBC := hid_in (HB2.out.trans (hcb.out.mono HB2.out.size))
        have HSC := hid_in (HSL2.out.below hcb.out)
        clear hcb HCV HEN HL1 HL2 HIN HO1 HO2 HS1 HS2 HQ0 HSL2 HB2 HF2 HRV
        have hown0 := Nd.own_empty wc
        have hsl0 : Sl (wc.alloc (.cells #[] 5)) p1 X c1 b1 0 := HSC.out.below ((Below.refl _ _).alloc (Nat.le_refl _) _)
        have hb0 : Below wc.heap.size wc (wc.alloc (.cells #[] 5)) := (Below.refl _ _).alloc (Nat.le_refl _) _
        have HOW := hid_in hown0
        have HSA := hid_in hsl0
        have HB0 := hid_in hb0
        clear hown0 hsl0 hb0
        obtain ⟨i5i, HI5, HE1, HE2, HE3⟩ := Nd.i5h
        have HLT0 : Hid (∀ x ∈ X ++ [0], x < 256) := hid_in (fun x hx => by
          rcases List.mem_append.1 hx with h | h
          · exact HSC.out.lt x h
          · rw [List.mem_singleton.1 h]; omega)
        obtain ⟨n5, HN5⟩ : ∃ n5, Hid ((X ++ [0]).length = n5) := ⟨_, hid_in rfl⟩
        have HL0 : Hid ((X ++ [0]).length ≤ 140737488355328) := hid_in (by have := HXL.out; simp; omega)
        have HNE1 : Hid (∀ N' Z' A' es', readU (X ++ [0], 0) = some (N', Z', A') → OrdA A' es' → encA N' Z' es' ≠ X ++ [0]) := hid_in (fun N' Z' A' es' hr ho he => by
          have h1 := HRX.out [0]
          rw [hr] at h1
          have h2 := Option.some.inj h1
          obtain rfl := (Prod.mk.inj h2).1
          obtain rfl := (Prod.mk.inj (Prod.mk.inj h2).2).1
          obtain rfl := (Prod.mk.inj (Prod.mk.inj h2).2).2
          rw [ordA_one HTE.out.nd ho HOE.out, HX.out] at he
          have := congrArg List.length he
          simp at this)
        have HNE2 : Hid (∀ N' Z' A' es', readU (X.dropLast, 0) = some (N', Z', A') → OrdA A' es' → encA N' Z' es' ≠ X.dropLast) := hid_in (fun N' Z' A' es' hr ho he => by
          obtain ⟨hT', hN', hZ'⟩ := tree_read hr
          have hne : X ≠ [] := by intro e; rw [e] at HN2; cases HN2.out
          have h1 : encA N' Z' es' ++ [X.getLast hne] = encA N Z es ++ [] := by rw [he, List.append_nil, HX.out]; exact List.dropLast_concat_getLast hne
          unfold encA at h1
          rw [show es'.length = (es'.map Ent.fil).length by simp, show es.length = (es.map Ent.fil).length by simp] at h1
          have h2 := enc_one hN' hZ' HNZ.out.1 HNZ.out.2 (fun f hf => by obtain ⟨x, hx, rfl⟩ := List.mem_map.1 hf; exact okF hT' (ho.1.mem_iff.1 hx)) (fun f hf => by obtain ⟨x, hx, rfl⟩ := List.mem_map.1 hf; exact okF HTE.out hx) (by rw [List.length_map, ho.1.length_eq]; exact hT'.len) (by rw [List.length_map]; exact HTE.out.len) h1
          cases h2)
        have hp1 : p1 = some ⟨b1, 0, none⟩ := HSC.out.at_ (by rw [HN2.out]; omega)
        subst hp1
        have hcap : n2 ≤ c1 := by have := HSC.out.cap1; rw [HN2.out] at this; omega
        have HSLC := hid_in (fun W => Nd.slice_to b1 0 n1 c1 n2 hcap W)
        have HSUB : Hid ((n1 : Int) - 1 = (n2 : Int)) := hid_in <| by have := HN1.out; omega
        have HNA : Hid ((n1 : Int) ≤ 3000000) := hid_in <| by have := HN1.out; have := HXL.out; have := HN2.out; omega
        have HNB : Hid ((1 : Int) ≤ (n1 : Int)) := hid_in <| by have := HN1.out; omega
        have hdl : X.dropLast.length = n2 := by rw [List.length_dropLast, HN2.out]; rfl
        have HLD : Hid (X.dropLast.length ≤ 140737488355328) := hid_in (by have := HXL.out; have := HN2.out; omega)
        have HSDL := hid_in (fun W (hS : Sl W (some ⟨b1, 0, none⟩) X c1 b1 0) => (show Sl W (some ⟨b1, 0, none⟩) X.dropLast c1 b1 0 from ⟨fun x hx => hS.lt x (List.dropLast_subset X hx), by omega, hS.cap2, fun _ => rfl, fun j hj => by
          have h1 := hS.src j (by rw [HN2.out]; omega)
          rw [h1]
          congr 2
          rw [List.getD_eq_getElem?_getD, List.getD_eq_getElem?_getD, List.getElem?_dropLast, if_pos (by rw [HN2.out]; omega)]⟩))
        have HD2 := HD1
        rw [hdl] at HLD
        have HDL := hid_in hdl
        clear hdl hcap
        go_upto_region 19 with (first | (at_builtin; refine Nd.wpList_app wc.heap.size rfl _ _ rfl _ [] X rfl HOW.out (some ⟨b1, 0, none⟩) c1 b1 0 n1 rfl (HN2.out.trans HN1.out) HSA.out (by rw [HN2.out, HN1.out]; exact HNO.out) (by have := HXL.out; simp; omega) HB0.out.size ?_; intro v4 w4 hown4 hg4; have HOW4 := hid_in hown4; have HB4 := hid_in (Nd.own_step HB0.out hg4 HB0.out.size rfl HOW.out); clear hown4 hg4) | (at_builtin; refine Nd.wpList_append_one rfl _ _ 43 rfl wc.heap.size 5 i5i (.int .u8 0) Try.underlying43 HI5.out HE3.out HE1.out HE2.out rfl v4 _ _ rfl HOW4.out 5 (.int .u8 0) rfl rfl (by have := HXL.out; simp; omega) HB4.out.size ?_; intro v5 w5 hown5 hk5 hs5; have HB5 := hid_in (hk5 _ HB4.out); obtain ⟨p5, c5, b5, rfl, hs5, hno5⟩ := own_moreshort HLT0.out HN5.out hown5; have HDX := hid_in (HD1.out w5 p5 (X ++ [0]) c5 b5 0 hs5 hno5 HL0.out); rw [HN5.out] at HDX; clear hown5 hk5 hs5 hno5) | (go_at_call 28; refine HDX.out.mono ?_; rintro e w6 ⟨hc, hb6⟩; have HB6 := hid_in (HBC.out.trans ((HB5.out.trans (hb6.mono HB5.out.size)).mono HBC.out.size)); have HS6 := hid_in (HSC.out.below (HB5.out.trans (hb6.mono HB5.out.size))); clear hb6; rcases hc with ⟨rfl, -⟩ | ⟨N', Z', A', es', g3, m3, hr, ho, he, rfl, -⟩; rotate_left; (focus (exact absurd he (HNE1.out N' Z' A' es' hr ho)))))
        clear HDX HB5 HB4 HOW HOW4 HSA HB0 HSC
        have HDD := hid_in (HD2.out w6 _ X.dropLast c1 b1 0 (HSDL.out _ HS6.out) (fun h => by cases h) (by rw [HDL.out]; exact HLD.out))
        rw [HDL.out] at HDD
        have hslc := HSLC.out
        have hsub := HSUB.out
        have hn1 := HNA.out
        have hn0 := HNB.out
        go_upto_region 20 with (go_at_call 28; refine HDD.out.mono ?_; rintro e w7 ⟨hc, hb7⟩; have HB7 := hid_in (HB6.out.trans (hb7.mono HB6.out.size)); clear hb7; rcases hc with ⟨rfl, -⟩ | ⟨N', Z', A', es', g3, m3, hr, ho, he, rfl, -⟩; rotate_left; (focus (exact absurd he (HNE2.out N' Z' A' es' hr ho))))
        go_wp2
        go_ret
        exact ⟨rfl, HB7.out⟩
end Go.Proofs.Ytglfeocfhlmloaa.Up
