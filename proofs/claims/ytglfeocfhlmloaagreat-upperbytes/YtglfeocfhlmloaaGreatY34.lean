/-
  The walk of Encode.
-/
import Derived.Deep.CutRange
import Derived.Laws.CopyOwn
import Derived.Deep.RegionLaw
import Derived.Deep.DrawnRows
import Derived.Laws.Tables
import Derived.Test.YtglfeocfhlmloaaGreatY00
import Derived.Test.YtglfeocfhlmloaaGreatY01
import Derived.Test.YtglfeocfhlmloaaGreatY02
import Derived.Test.YtglfeocfhlmloaaGreatY03
import Derived.Test.YtglfeocfhlmloaaGreatY04
import Derived.Test.YtglfeocfhlmloaaGreatY05
import Derived.Test.YtglfeocfhlmloaaGreatY06
import Derived.Test.YtglfeocfhlmloaaGreatY07
import Derived.Test.YtglfeocfhlmloaaGreatY08
import Derived.Test.YtglfeocfhlmloaaGreatY09
import Derived.Test.YtglfeocfhlmloaaGreatY10
import Derived.Test.YtglfeocfhlmloaaGreatY11
import Derived.Test.YtglfeocfhlmloaaGreatY12
import Derived.Test.YtglfeocfhlmloaaGreatY13
import Derived.Test.YtglfeocfhlmloaaGreatY14
import Derived.Test.YtglfeocfhlmloaaGreatY15
import Derived.Test.YtglfeocfhlmloaaGreatY16
import Derived.Test.YtglfeocfhlmloaaGreatY17
import Derived.Test.YtglfeocfhlmloaaGreatY18
import Derived.Test.YtglfeocfhlmloaaGreatY19
import Derived.Test.YtglfeocfhlmloaaGreatY20
import Derived.Test.YtglfeocfhlmloaaGreatY21
import Derived.Test.YtglfeocfhlmloaaGreatY22
import Derived.Test.YtglfeocfhlmloaaGreatY23
import Derived.Test.YtglfeocfhlmloaaGreatY24
import Derived.Test.YtglfeocfhlmloaaGreatY25
import Derived.Test.YtglfeocfhlmloaaGreatY26
import Derived.Test.YtglfeocfhlmloaaGreatY27
import Derived.Test.YtglfeocfhlmloaaGreatY28
import Derived.Test.YtglfeocfhlmloaaGreatY29
import Derived.Test.YtglfeocfhlmloaaGreatY30
import Derived.Test.YtglfeocfhlmloaaGreatY31
import Derived.Test.YtglfeocfhlmloaaGreatY32
import Derived.Test.YtglfeocfhlmloaaGreatY33
namespace Go.Proofs.YtglfeocfhlmloaaGreat.Up
open Go.RowKit
open Vp (Str B bl Val cmpL parseS showS withinS IsPath checkS)
open Nd (Row wp_world post_Row post_Row2 grownBy_setCell below_of_grown OutIs OutB OutS Grew bytesS u8v)
theorem own_mono {w : World} {a b n size : Nat} {t : TypeId} {v : Value} {xs : List Value} (h : w.ownsRow a t size v n xs) (hb : b ≤ a) : w.ownsRow b t size v n xs := by
  obtain ⟨h1, h2 | ⟨g, cap, cur, hv, hB, r⟩⟩ := h
  · exact ⟨h1, .inl h2⟩
  · exact ⟨h1, .inr ⟨g, cap, cur, hv, Nat.le_trans hb hB, r⟩⟩
/-- the inodes in their order -/
def Ordered (L sp : List Spot) : Prop := sp.Perm (L.filter (belowB [])) ∧ sp.Pairwise (fun s t => ¬ cmpL t.names s.names < 0)
theorem list_o {w : World} {g m : Nat} {N Z : Int} {L : List Spot} (h : Fs w g m N Z L) (hn : L.length ≤ 100000) :
    Calls Tryz.prog 22 #[.pointer (some ⟨g, 0, none⟩), .slice none 0 0] w fun e w' => ∃ sp lb vs, e = .returned (.slice (some ⟨lb, 0, none⟩) sp.length sp.length) ∧ Hid (Fls w' (.slice (some ⟨lb, 0, none⟩) sp.length sp.length) (sp.map Spot.fil)) ∧ Ordered L sp ∧ Row w' lb vs 42 ∧ Below w.heap.size w w' := by
  refine (list_any h (Vp.Val.none w) hn).mono ?_
  rintro e w' ⟨v, sp, rfl, hf, hp, ho, _, hb, lb, rfl, vs, hr⟩
  exact ⟨sp, lb, vs, rfl, hf, ⟨hp, ho⟩, hr, hb⟩
/-- cells of a row that reads as inodes -/
theorem row_at {W W' : World} {b n c : Nat} {vs : List Value} {fs : List Fil} (h : Fls W (.slice (some ⟨b, 0, none⟩) n c) fs) (hr : Row W b vs 42) (hr' : Row W' b vs 42) {i : Nat} {f : Fil} (hi : fs[i]? = some f) : W'.cell? ⟨b, 0 + i * 4, none⟩ = some (.string f.path) ∧ W'.cell? ⟨b, 0 + i * 4 + 1, none⟩ = some (.int .i64 f.kind) ∧ W'.cell? ⟨b, 0 + i * 4 + 2, none⟩ = some (.bool f.opq) ∧ W'.cell? ⟨b, 0 + i * 4 + 3, none⟩ = some (.string f.data) := by
  obtain ⟨p', cap, b', o', h1, h2, h3, h4, h5, h6⟩ := h
  simp only [Value.slice.injEq] at h1
  obtain ⟨rfl, rfl, rfl⟩ := h1
  have hne : fs ≠ [] := by rintro rfl; simp at hi
  obtain ⟨e1, _⟩ := h4 hne
  simp only [Option.some.injEq, Addr.mk.injEq] at e1
  obtain ⟨rfl, rfl, _⟩ := e1
  have hc : ∀ j, W'.cell? ⟨b, j, none⟩ = W.cell? ⟨b, j, none⟩ := fun j => by rw [hr.cell, hr'.cell]
  simp only [hc]
  have k0 := h5 _ _ (fcells_at hi 0 _ rfl)
  have k1 := h5 _ _ (fcells_at hi 1 _ rfl)
  have k2 := h5 _ _ (fcells_at hi 2 _ rfl)
  have k3 := h5 _ _ (fcells_at hi 3 _ rfl)
  exact ⟨k0, k1, k2, k3⟩
/-- between two rounds of Encode -/
structure ER (w : World) (lb : Nat) (vs : List Value) (X : List Nat) (fs : List Fil) (i : Nat) (W : World) : Prop where
  out : OutB W w.heap.size w.heap.size (X ++ (fs.take i).flatMap encI)
  row : Row W lb vs 42
  bel : Below w.heap.size w W
theorem take_enc {fs : List Fil} {i : Nat} {f : Fil} (h : fs[i]? = some f) : (fs.take (i + 1)).flatMap encI = (fs.take i).flatMap encI ++ encI f := by
  rw [List.take_add_one, h]
  simp
set_option maxHeartbeats 4000000 in
set_option maxRecDepth 100000 in
theorem encode_any {w : World} {g m : Nat} {N Z : Nat} {L : List Spot} (h : Fs w g m (N : Int) (Z : Int) L) (hN : N ≤ 128) (hZ : Z ≤ 8192) (hn : L.length ≤ 100000) (hsm : ∀ s ∈ L, s.data.size ≤ 1024 ∧ 0 ≤ s.kind ∧ s.kind ≤ 3) :
    Calls Tryz.prog 9 #[.pointer (some ⟨g, 0, none⟩)] w fun e w' => ∃ v sp, e = .returned v ∧ Ordered L sp ∧ w'.ownsRow w.heap.size 5 1 v (encU N Z L.length (sp.map Spot.fil)).length ((encU N Z L.length (sp.map Spot.fil)).map u8v) ∧ Below w.heap.size w w' := by
  have H := hid_in h
  obtain ⟨w1, HW1⟩ : ∃ w1, Hid (w.alloc (.cells #[.slice none 0 0] 56) = w1) := ⟨_, hid_in rfl⟩
  have HB1 : Hid (Below w.heap.size w w1) := by rw [← HW1.out]; exact (Below.refl _ _).alloc (Nat.le_refl _) _
  have HO1 : Hid (OutB w1 w.heap.size w.heap.size []) := by rw [← HW1.out]; exact ⟨_, Nd.out_new w⟩
  have HNUM := hid_in (fun W xs (n : Nat) (hn : n < 18446744073709551616) (ho : OutB W w.heap.size w.heap.size xs) (hl : xs.length + 10 ≤ 140737488355328) => num_k W _ _ xs n hn (Nat.le_refl _) ho hl)
  have HTXT := hid_in (fun W xs s (ho : OutB W w.heap.size w.heap.size xs) (hl : xs.length + 10 + s.size ≤ 140737488355328) => text_k W _ _ xs s (Nat.le_refl _) ho hl)
  have HFLG := hid_in (fun W xs f (ho : OutB W w.heap.size w.heap.size xs) (hl : xs.length + 1 ≤ 140737488355328) => flag_k W _ _ xs f (Nat.le_refl _) ho hl)
  have HCE := hid_in (fun W (k : Below w.heap.size w W) => (h.below k).cell)
  have HLN := hid_in (fun W (k : Below w.heap.size w W) ty => (h.below k).map.len ty)
  have HLS := hid_in (fun W (k : Below w.heap.size w W) => list_o (h.below k) hn)
  have HSM := hid_in hsm
  have HGD := hid_in (fun s (hs : s ∈ L) => h.map.good s hs)
  have hN2 : (N : Int) ≤ 128 := by omega
  have hZ2 : (Z : Int) ≤ 8192 := by omega
  have hL2 : (L.length : Int) ≤ 100000 := by omega
  have HN := hid_in hN
  have HZ := hid_in hZ
  have HLL := hid_in hn
  have HNL := Nd.num_length
  have HNL := hid_in HNL
  have c0 := HCE.out _ HB1.out
  obtain ⟨c0, c1, c2⟩ := c0
  have l1 := HLN.out _ HB1.out
  clear h hn hsm hN hZ
  go_enter Tryz.func9, Tryz.ntmps9
  go_upto_region 4 with fail
  refine wp_world HW1.out ?_
  go_upto_region 5 with (go_at_call 21; refine (HNUM.out _ _ N (by have := HN.out; omega) HO1.out (by simp)).mono ?_; rintro e w2 ⟨rfl, ho2, hb2, -⟩; rw [List.nil_append] at ho2; have HO2 := hid_in ho2; have HB2 := hid_in (HB1.out.trans hb2); clear ho2 hb2)
  have d1 := (HCE.out _ HB2.out).2.1
  go_upto_region 6 with (go_at_call 21; refine (HNUM.out _ _ Z (by have := HZ.out; omega) HO2.out (by have := HNL.out N; omega)).mono ?_; rintro e w3 ⟨rfl, ho3, hb3, -⟩; have HO3 := hid_in ho3; have HB3 := hid_in (HB2.out.trans hb3); clear ho3 hb3)
  have d2 := (HCE.out _ HB3.out).2.2
  have l3 := HLN.out _ HB3.out
  go_upto_region 7 with (go_at_call 21; refine (HNUM.out _ _ L.length (by have := HLL.out; omega) HO3.out (by have := HNL.out N; have := HNL.out Z; simp only [List.length_append]; omega)).mono ?_; rintro e w4 ⟨rfl, ho4, hb4, -⟩; have HO4 := hid_in ho4; have HB4 := hid_in (HB3.out.trans hb4); clear ho4 hb4)
  obtain ⟨X, HX⟩ : ∃ X, Hid ((Nd.Wire.num N ++ Nd.Wire.num Z) ++ Nd.Wire.num L.length = X) := ⟨_, hid_in rfl⟩
  have HXL : Hid (X.length ≤ 30) := hid_in (by rw [← HX.out]; have h1 := HNL.out N; have h2 := HNL.out Z; have h3 := HNL.out L.length; simp only [List.length_append]; omega)
  rw [HX.out] at HO4
  go_upto_region 8 with (go_at_call 22; refine (HLS.out _ HB4.out).mono ?_; rintro e w5 ⟨sp, lb, vs, rfl, HF5, ho5, hr5, hb5⟩; have HOR := hid_in ho5; have HR5 := hid_in hr5; have HO5 := hid_in (HO4.out.below hb5); have HB5 := hid_in (HB4.out.trans (hb5.mono HB4.out.size)); clear ho5 hr5 hb5)
  have HIN : Hid (∀ f ∈ sp.map Spot.fil, f.path.size ≤ 200 ∧ f.data.size ≤ 1024 ∧ 0 ≤ f.kind ∧ f.kind ≤ 3) := hid_in (fun f hf => by
    obtain ⟨s, hs, rfl⟩ := List.mem_map.1 hf
    have hm := (List.mem_filter.1 (HOR.out.1.mem_iff.1 hs)).1
    obtain ⟨h1, h2⟩ := HGD.out s hm
    obtain ⟨h3, h4, h5⟩ := HSM.out s hm
    refine ⟨?_, h3, h4, h5⟩
    show s.path.size ≤ 200
    rw [h1]
    have h6 := Vp.show_len s.names
    have h7 := h2.lens
    have h8 : (B (showS s.names)).size = (showS s.names).length := by simp [B, ByteArray.size]
    omega)
  have HSL : Hid (sp.length ≤ 100000) := hid_in (by rw [HOR.out.1.length_eq]; have := List.length_filter_le (belowB []) L; have := HLL.out; omega)
  have HFS : Hid ((sp.map Spot.fil).length = sp.length) := hid_in (by simp)
  generalize hfs : sp.map Spot.fil = fs at *
  have HEQ := hid_in hfs
  clear hfs
  have HAT := hid_in (fun W (k : Row W lb vs 42) i f (hi : fs[i]? = some f) => row_at HF5.out HR5.out k hi)
  generalize hsl : sp.length = n at *
  clear hsl
  obtain ⟨lo, HLO⟩ : ∃ lo : Nat, Hid (lo = 0) := ⟨0, hid_in rfl⟩
  have hsz : (n : Int) ≤ 100000 := by have := HSL.out; omega
  simp only [Nat.zero_add] at HAT
  go_loopw [35] (fun vi W => ∃ i : Nat, i ≤ n ∧ vi = .int .i64 (i : Int) ∧ Hid (ER w lb vs X fs i W)) (fun vi _ => n - (intOf vi).toNat)
  case atStart => exact ⟨0, by omega, rfl, ⟨by simpa using HO5.out, HR5.out, HB5.out⟩⟩
  case round =>
    obtain ⟨i, hi, rfl, hpr⟩ := hrel
    by_cases hlt : i < n
    · have hl2 : (i : Int) < (n : Int) := by omega
      have hlf : i < fs.length := by rw [HFS.out]; exact hlt
      have hg := List.getElem?_eq_getElem hlf
      obtain ⟨i1, i2, i3, i4⟩ := HIN.out _ (List.getElem_mem hlf)
      obtain ⟨a0, a1, a2, a3⟩ := HAT.out _ hpr.out.row i _ hg
      have htk := take_enc hg
      have hto := encs_len (fs.take i) (fun f hf => (HIN.out f (List.mem_of_mem_take hf)).1) (fun f hf => (HIN.out f (List.mem_of_mem_take hf)).2.1)
      have htl : (fs.take i).length ≤ 100000 := by have := HSL.out; rw [List.length_take]; omega
      generalize fs[i] = f at *
      obtain ⟨fp, fk, fq, fd⟩ := f
      simp only at i1 i2 i3 i4 a0 a1 a2 a3
      obtain ⟨kn, rfl⟩ := Int.eq_ofNat_of_zero_le i3
      have HOW := hid_in hpr.out.out
      obtain ⟨Y, HY⟩ : ∃ Y, Hid (X ++ (fs.take i).flatMap encI = Y) := ⟨_, hid_in rfl⟩
      have HYL : Hid (Y.length ≤ 130000100) := hid_in (by rw [← HY.out, List.length_append]; have := HXL.out; omega)
      rw [HY.out] at HOW
      have HNX : Hid (X ++ (fs.take (i + 1)).flatMap encI = (((Y ++ (Nd.Wire.num fp.size ++ bytesS fp)) ++ Nd.Wire.num kn) ++ [if fq then 1 else 0]) ++ (Nd.Wire.num fd.size ++ bytesS fd)) := hid_in (by
        rw [htk, ← List.append_assoc, HY.out]
        simp only [encI, Int.toNat_natCast, List.append_assoc])
      have HRW := hid_in hpr.out.row
      have HBW := hid_in hpr.out.bel
      have HI1 := hid_in i1
      have HI2 := hid_in i2
      have hk3 : (kn : Int) ≤ 3 := i4
      have HBY := hid_in (fun s => Nd.bytesS_length s)
      have HLT := hid_in hlt
      clear hlf hg htk hto htl i1 i2 i3 i4 hpr hi hlt
      go_upto_region 10 with (first | (refine Nd.wpList_store_new rfl rfl 42 4 _ _ rfl _ [Value.string fp, .int .i64 (kn : Int), .bool fq, .string fd] info36 rfl (hid_in rfl) (store36 _ _ _ _) rfl rfl ?_; intro w6 hr6 hb6 hs6; have HR6 := hid_in hr6; have HW6 := hid_in (HRW.out.below hb6 HRW.out.lt); have HO6 := hid_in (HOW.out.below hb6); have HB6 := hid_in (HBW.out.trans (hb6.mono HBW.out.size)); clear hr6 hb6 hs6))
      have e0 := HR6.out.cell 0
      go_upto_region 11 with (go_at_call 23; refine (HTXT.out _ _ _ HO6.out (by have := HYL.out; have := HI1.out; omega)).mono ?_; rintro e w7 ⟨rfl, ho7, hb7, hk7⟩; have HO7 := hid_in ho7; have HR7 := hid_in (hk7.row HR6.out (by decide) (by decide)); have HW7 := hid_in (hk7.row HW6.out (by decide) (by decide)); have HB7 := hid_in (HB6.out.trans hb7); clear ho7 hb7 hk7)
      have e1 := HR7.out.cell 1
      go_upto_region 12 with (go_at_call 21; refine (HNUM.out _ _ kn (by omega) HO7.out (by have := HYL.out; have := HI1.out; have h1 := HNL.out fp.size; have h2 := HBY.out fp; simp only [List.length_append]; omega)).mono ?_; rintro e w8 ⟨rfl, ho8, hb8, hk8⟩; have HO8 := hid_in ho8; have HR8 := hid_in (hk8.row HR7.out (by decide) (by decide)); have HW8 := hid_in (hk8.row HW7.out (by decide) (by decide)); have HB8 := hid_in (HB7.out.trans hb8); clear ho8 hb8 hk8)
      have e2 := HR8.out.cell 2
      go_upto_region 13 with (go_at_call 24; refine (HFLG.out _ _ _ HO8.out (by have := HYL.out; have := HI1.out; have h1 := HNL.out fp.size; have h2 := HBY.out fp; have h3 := HNL.out kn; simp only [List.length_append]; omega)).mono ?_; rintro e w9 ⟨rfl, ho9, hb9, hk9⟩; have HO9 := hid_in ho9; have HR9 := hid_in (hk9.row HR8.out (by decide) (by decide)); have HW9 := hid_in (hk9.row HW8.out (by decide) (by decide)); have HB9 := hid_in (HB8.out.trans hb9); clear ho9 hb9 hk9)
      have e3 := HR9.out.cell 3
      go_wp2_with (go_at_call 23; refine (HTXT.out _ _ _ HO9.out (by have := HYL.out; have := HI1.out; have := HI2.out; have h1 := HNL.out fp.size; have h2 := HBY.out fp; have h3 := HNL.out kn; simp only [List.length_append, List.length_cons, List.length_nil]; omega)).mono ?_; rintro e w10 ⟨rfl, ho10, hb10, hk10⟩; have HO10 := hid_in ho10; have HW10 := hid_in (hk10.row HW9.out (by decide) (by decide)); have HB10 := hid_in (HB9.out.trans hb10); clear ho10 hb10 hk10)
      go_roundw
      case rel => exact ⟨i + 1, by have := HLT.out; omega, by go_num, ⟨by rw [HNX.out]; exact HO10.out, HW10.out, HB10.out⟩⟩
      case measure => have := HLT.out; simp [intOf]; omega
    · obtain rfl : i = n := by omega
      obtain ⟨v, hv⟩ := hpr.out.out
      have hall : fs.take i = fs := by rw [List.take_of_length_le]; rw [HFS.out]; exact Nat.le_refl _
      rw [hall] at hv
      have hbl := encs_len fs (fun f hf => (HIN.out f hf).1) (fun f hf => (HIN.out f hf).2.1)
      have HOB := hid_in (Nd.obytes_any _ _ _ v _ hv (by rw [List.length_append]; have := HXL.out; have h1 := HSL.out; rw [HFS.out] at hbl; omega))
      have HBW := hid_in hpr.out.bel
      clear hv hall hbl hlt hi hpr
      go_wp2_with (go_at_call 25; refine HOB.out.mono ?_; rintro e w11 ⟨v11, rfl, ho11, hb11⟩; have HO11 := hid_in ho11; have HB11 := hid_in (HBW.out.trans (hb11.mono HBW.out.size)); clear ho11 hb11)
      go_ret
      refine ⟨_, sp, rfl, HOR.out, ?_, HB11.out⟩
      have e : encU N Z L.length (sp.map Spot.fil) = X ++ fs.flatMap encI := by unfold encU; rw [HX.out, HEQ.out]
      rw [e]
      exact own_mono HO11.out HBW.out.size
end Go.Proofs.YtglfeocfhlmloaaGreat.Up
