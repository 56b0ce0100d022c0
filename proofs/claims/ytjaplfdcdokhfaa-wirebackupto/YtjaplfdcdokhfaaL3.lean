/-
  The walk of the statement WireWrites.
-/
import Derived.Test.YtjaplfdcdokhfaaV6
import Derived.Deep.RegionWith
import Derived.Deep.DrawnRows
namespace Go.Proofs.Ytjaplfdcdokhfaa
open Go.RowKit
attribute [local go_sem ↓] Go.wp_at_zero Go.wp_at_succ

theorem onum_nil (w : World) (n : Int) : Calls Try.prog 12 #[.pointer none, .int .u64 n] w fun e w' => e = .returned (.tuple #[]) ∧ w' = w := by
  go_enter Try.func12, Try.ntmps12
  go_wp2
  exact bodyPost_ret (results_none Try.results12 _ _ _) rfl ⟨rfl, rfl⟩
theorem otext_nil (w : World) (s : ByteArray) : Calls Try.prog 13 #[.pointer none, .string s] w fun e w' => e = .returned (.tuple #[]) ∧ w' = w := by
  go_enter Try.func13, Try.ntmps13
  go_wp2
  exact bodyPost_ret (results_none Try.results13 _ _ _) rfl ⟨rfl, rfl⟩
theorem obytes_nil (w : World) : Calls Try.prog 11 #[.pointer none] w fun e w' => e = .returned (.slice none 0 0) ∧ w' = w := by
  go_enter Try.func11, Try.ntmps11
  go_wp2
  go_ret
  exact ⟨rfl, rfl⟩

/-- a field that comes in -/
structure Fld where
  K : Int
  N : Nat
  S : ByteArray
  M : Int
def Fld.kind (f : Fld) : Nat := ((IntKind.u64.wrap f.K).tmod 5).toNat
theorem Fld.kind_eq (f : Fld) : (IntKind.u64.wrap f.K).tmod 5 = (f.kind : Int) ∧ f.kind < 5 := by
  have h0 : 0 ≤ IntKind.u64.wrap f.K := by rw [IntKind.wrap_u64]; omega
  have h1 : 0 ≤ (IntKind.u64.wrap f.K).tmod 5 := Int.tmod_nonneg _ h0
  have h2 : (IntKind.u64.wrap f.K).tmod 5 < 5 := Int.tmod_lt_of_pos _ (by omega)
  unfold Fld.kind
  omega
def Fld.bytes (f : Fld) : List Nat := fbytes f.kind f.N f.S
/-- fields that lie one behind the other -/
structure Fields (w : World) (b o : Nat) (fs : List Fld) : Prop where
  at0 : ∀ i f, fs[i]? = some f → w.cell? ⟨b, o + i * 4, none⟩ = some (.int .i64 f.K)
  at1 : ∀ i f, fs[i]? = some f → w.cell? ⟨b, o + i * 4 + 1, none⟩ = some (.int .u64 (f.N : Int))
  at2 : ∀ i f, fs[i]? = some f → w.cell? ⟨b, o + i * 4 + 2, none⟩ = some (.string f.S)
  at3 : ∀ i f, fs[i]? = some f → w.cell? ⟨b, o + i * 4 + 3, none⟩ = some (.int .i64 f.M)
  lt : ∀ f ∈ fs, f.N < 18446744073709551616
theorem Fields.below {w w' : World} {b o : Nat} {fs : List Fld} (h : Fields w b o fs) (hb : Below w.heap.size w w') : Fields w' b o fs :=
  ⟨fun i f hf => by rw [hb.cell (World.block_lt_of_cell? w _ (h.at0 i f hf))]; exact h.at0 i f hf, fun i f hf => by rw [hb.cell (World.block_lt_of_cell? w _ (h.at1 i f hf))]; exact h.at1 i f hf,
   fun i f hf => by rw [hb.cell (World.block_lt_of_cell? w _ (h.at2 i f hf))]; exact h.at2 i f hf, fun i f hf => by rw [hb.cell (World.block_lt_of_cell? w _ (h.at3 i f hf))]; exact h.at3 i f hf, h.lt⟩
/-- the bytes of fields -/
def fieldsB (fs : List Fld) : List Nat := fs.flatMap Fld.bytes
theorem fieldsB_succ {fs : List Fld} {i : Nat} {f : Fld} (h : fs[i]? = some f) : fieldsB (fs.take (i + 1)) = fieldsB (fs.take i) ++ f.bytes := by
  obtain ⟨hi, rfl⟩ := List.getElem?_eq_some_iff.1 h
  unfold fieldsB
  rw [List.take_succ_eq_append_getElem hi, List.flatMap_append]
  show _ ++ (_ ++ []) = _
  rw [List.append_nil]
theorem numF_pos : ∀ (k n : Nat), 0 < (Wire.numF k n).length
  | 0, _ => by simp [Wire.numF]
  | k + 1, n => by simp only [Wire.numF]; split <;> simp
theorem fbytes_pos (k N : Nat) (S : ByteArray) : 0 < (fbytes k N S).length := by
  unfold fbytes
  split
  · exact numF_pos 9 _
  · split
    · exact numF_pos 9 _
    · split
      · have := numF_pos 9 S.size; rw [List.length_append]; unfold Wire.num; omega
      · split
        · simp
        · rw [fold_length]; omega
/-- how long the bytes of fields can be -/
def roomF (fs : List Fld) : Nat := (fs.map fun f => 42 + f.S.size).sum
theorem fbytes_le (k N : Nat) (S : ByteArray) : (fbytes k N S).length ≤ 42 + S.size := by
  unfold fbytes
  split
  · have := num_length N; omega
  · split
    · have := num_length (Wire.zz (wrap64 (N : Int))); omega
    · split
      · have := num_length S.size; rw [List.length_append, bytesS_length]; omega
      · split
        · simp; omega
        · rw [fold_length]; omega
theorem fieldsB_le (fs : List Fld) : (fieldsB fs).length ≤ roomF fs := by
  induction fs with
  | nil => simp [fieldsB, roomF]
  | cons f r ih =>
    have := fbytes_le f.kind f.N f.S
    simp only [fieldsB, roomF, List.flatMap_cons, List.length_append, List.map_cons, List.sum_cons] at *
    unfold Fld.bytes
    unfold Fld.bytes at ih
    omega
theorem roomF_at {fs : List Fld} {i : Nat} {f : Fld} (h : fs[i]? = some f) : roomF (fs.take i) + (42 + f.S.size) ≤ roomF fs := by
  obtain ⟨hi, rfl⟩ := List.getElem?_eq_some_iff.1 h
  have e : fs = fs.take i ++ fs[i] :: fs.drop (i + 1) := by rw [List.getElem_cons_drop, List.take_append_drop]
  conv => rhs; rw [e]
  unfold roomF
  rw [List.map_append, List.sum_append, List.map_cons, List.sum_cons]
  omega

theorem own_keep' {w w' : World} {B n : Nat} {e : TypeId} {v : Value} {xs : List Value} {S : Nat → Prop} (h : w.ownsRow B e 1 v n xs) (hg : Grew w w' S) (hn : ∀ q, v.ownBlock = some q → ¬ S q) : w'.ownsRow B e 1 v n xs := by
  obtain ⟨h1, h2 | ⟨g, cap, cur, rfl, hB, hh, r⟩⟩ := h
  · exact ⟨h1, .inl h2⟩
  · refine ⟨h1, .inr ⟨g, cap, cur, rfl, hB, ?_, r⟩⟩
    have hlt : g < w.heap.size := (Array.getElem?_eq_some_iff.1 hh).1
    rw [hg.block g hlt (hn g rfl)]
    exact hh

/-- what WireWrites has gathered -/
structure Wrote (w1 w : World) (B g : Nat) (v vw : Value) (xs : List Nat) : Prop where
  out : OutIs w B g v xs
  want : w.ownsRow B 5 1 vw xs.length (xs.map u8v)
  apart : ∀ q, vw.ownBlock = some q → q ≠ g ∧ v.ownBlock ≠ some q
  bel : Below B w1 w
set_option maxHeartbeats 1000000 in
set_option maxRecDepth 100000 in
theorem writes_any (fs : List Fld) (pa : Option Addr) (ca fb fo : Nat) (w : World) (hfs : Fields w fb fo fs) (hpa : 0 < fs.length → pa = some ⟨fb, fo, none⟩) (hn : fs.length ≤ 9223372036854775807) (hroom : roomF fs ≤ 1099511627776) :
    Calls Try.prog 3 #[.slice pa fs.length ca] w fun e w' => e = .returned (.bool true) ∧ Below w.heap.size w w' := by
  obtain ⟨i5i, HI5, HE1, HE2, HE3⟩ := i5h
  have HPA := hid_in hpa
  have HFS := hid_in hfs
  clear hpa hfs
  go_enter Try.func3, Try.ntmps3
  go_wp2_with fail
  refine (awake_any w).mono ?_
  rintro e w1 ⟨rfl, hb1⟩
  go_wp2
  obtain ⟨g, hg⟩ : ∃ g, g = w1.heap.size := ⟨_, rfl⟩
  rw [← hg]
  have ho0 : OutIs (w1.alloc (.cells #[.slice none 0 0] 27)) w1.heap.size g (.slice none 0 0) [] := by rw [hg]; exact out_new w1
  have HGE := hid_in (Nat.le_of_eq hg.symm)
  clear hg
  go_loopw [4, 5] (fun v4 v5 w' => ∃ (k : Nat) (v : Value), k ≤ fs.length ∧ v5 = .int .i64 (k : Int) ∧ Wrote w1 w' w1.heap.size g v v4 (fieldsB (fs.take k))) (fun _ v5 _ => fs.length - (intOf v5).toNat)
  case atStart => exact ⟨0, .slice none 0 0, by omega, rfl, ⟨ho0, World.ownsRow_nil _ _ _ _, fun q h => by simp [Value.ownBlock] at h, (Below.refl _ _).alloc (Nat.le_refl _) _⟩⟩
  case round =>
    clear ho0
    obtain ⟨k, v, hk, rfl, hW⟩ := hrel
    have HW := hid_in hW
    have hbwr : Below w.heap.size w wr := hb1.trans (hW.bel.mono hb1.size)
    clear hW
    by_cases hlt : k < fs.length
    · obtain ⟨f, hf⟩ : ∃ f, fs[k]? = some f := ⟨_, List.getElem?_eq_getElem hlt⟩
      have hfr := HFS.out.below hbwr
      have c0 := hfr.at0 k f hf
      have c1 := hfr.at1 k f hf
      have c2 := hfr.at2 k f hf
      have c3 := hfr.at3 k f hf
      have hNl := hfr.lt f (List.mem_of_getElem? hf)
      have HB := hid_in (fieldsB_succ hf)
      have hrm := roomF_at hf
      have hle := fieldsB_le (fs.take k)
      have hle1 := fbytes_le f.kind f.N f.S
      have hp0 := fbytes_pos f.kind f.N f.S
      obtain ⟨hkd, hk5⟩ := f.kind_eq
      obtain rfl := HPA.out (by omega)
      obtain ⟨xs, hxs⟩ : ∃ xs, Hid (fieldsB (fs.take k) = xs) := ⟨_, rfl⟩
      rw [hxs.out] at HW hle HB
      have hput := put_any wr w1.heap.size g v xs f.K f.M f.N f.S f.kind hkd hk5 hNl HW.out.out (by omega)
      obtain ⟨FB, HFB⟩ : ∃ FB, Hid (fbytes f.kind f.N f.S = FB) := ⟨_, rfl⟩
      rw [HFB.out] at hput hle1 hp0
      have k1 : (k : Int) < (fs.length : Int) := by omega
      clear hf hfr hkd
      go_wp2_with fail
      refine hput.mono ?_
      rintro e w2 ⟨r, v2, rfl, hownr, ho2, hg2, hm2, hapr⟩
      have hW := HW.out
      obtain ⟨gr, cr, vs, rfl, hgrB, hgrlt, hrr, hn1, hn2, hvl, hvt⟩ := own_row hownr hp0
      have hwant2 : w2.ownsRow w1.heap.size 5 1 u4 xs.length (xs.map u8v) := own_keep' hW.want hg2 (fun q hq hs => by
        rcases hs with rfl | hs
        · exact (hW.apart q hq).1 rfl
        · exact (hW.apart q hq).2 hs.symm)
      have hvlt : ∀ q, u4.ownBlock = some q → q < wr.heap.size := fun q h => (hW.want.lt q h).2
      have hne2 : ∀ q, u4.ownBlock = some q → v2.ownBlock ≠ some q := fun q hq e => by
        rcases hm2 with h | ⟨q', h, hq'⟩
        · rw [h] at e; exact (hW.apart q hq).2 e
        · rw [h] at e; cases e; have := hvlt q hq; omega
      have hbase2 : w1.heap.size ≤ w2.heap.size := ho2.base
      have hb2 : Below w1.heap.size w1 w2 := hg2.below hW.bel hW.out.base (outS_ge hW.out HGE.out)
      have hnews : ∀ j u, (FB.map u8v)[j]? = some u → w2.cell? ((⟨gr, 0, none⟩ : Addr).add j) = some u := by
        intro j u hu
        have hj : j < FB.length := by simpa using (List.getElem?_eq_some_iff.1 hu).1
        rw [Addr.add_mid, Nat.zero_add, hrr.cell, ← List.getElem?_take_of_lt hj, hvt]
        exact hu
      have hl2 : (FB.map u8v).length = FB.length * 1 := by simp
      have hone := one_u8 FB
      have hf63 : xs.length + FB.length ≤ maxLen := by unfold maxLen; omega
      have hfby : (xs.length + FB.length) * 1 ≤ 140737488355328 := by omega
      have HO2 := hid_in ho2
      have HM2 := hid_in hm2
      have HAP := hid_in hW.apart
      have hYl : (xs ++ FB).length ≤ 1099511627776 := by rw [List.length_append]; omega
      clear hput hownr ho2 hg2 hm2 hapr hrr hvt hW c0 c1 c2 c3
      go_wp2_with (first | (at_builtin; refine wpList_append_own_at _ rfl _ _ 25 rfl w1.heap.size 5 i5i (.int .u8 0) 1 1 Try.underlying25 HI5.out HE3.out HE1.out HE2.out rfl (by decide) _ _ _ rfl hwant2 ⟨gr, 0, none⟩ FB.length cr (FB.map u8v) rfl hl2 hnews hone hf63 hfby hbase2 ?_; intro v3 w3 hown3 hg3 hnil3 hm3; have HM3 : Hid (v3.ownBlock = u4.ownBlock ∨ v3.ownBlock = some w2.heap.size) := hm3; have HG3 : Hid (w2.grownBy w3 u4.ownBlock) := hg3; clear hm3 hnil3 hg3))
      have ho3 : OutIs w3 w1.heap.size g v2 (xs ++ FB) :=
        ⟨HO2.out.row.grown HG3.out (fun e => (HAP.out g e.symm).1 rfl), own_keep' HO2.out.own (Grew.of_grown HG3.out) (fun q hq hs => hne2 q hs.symm hq), HO2.out.apart, Nat.le_trans hbase2 HG3.out.size, HO2.out.lt⟩
      have hb3 : Below w1.heap.size w1 w3 := own_step hb2 HG3.out hbase2 rfl hwant2
      have hown3' : w3.ownsRow w1.heap.size 5 1 v3 (xs ++ FB).length ((xs ++ FB).map u8v) := by rw [List.length_append, List.map_append]; exact hown3
      have hap3 : ∀ q, v3.ownBlock = some q → q ≠ g ∧ v2.ownBlock ≠ some q := fun q hq => by
        rcases HM3.out with h | h
        · rw [h] at hq; exact ⟨(HAP.out q hq).1, hne2 q hq⟩
        · rw [h] at hq
          cases hq
          have a := HO2.out.row.lt
          exact ⟨by omega, fun e => by have := (HO2.out.own.lt _ e).2; omega⟩
      obtain ⟨ys, HYS⟩ : ∃ ys, Hid (xs ++ FB = ys) := ⟨_, rfl⟩
      rw [HYS.out] at ho3 hown3' hYl
      have HYS2 : Hid (fieldsB (fs.take (k + 1)) = ys) := by show _ = _; rw [HB.out, ← HYS.out, ← HFB.out]; rfl
      obtain ⟨pw, cw, bw, rfl, hslw, _⟩ := own_sl ho3.lt hown3'
      obtain ⟨S, HS⟩ : ∃ S : ByteArray, Hid (S = str ys) := ⟨_, rfl⟩
      have hcw0 := conv_sl (show Sl w3.drew pw ys cw bw 0 from ⟨hslw.lt, hslw.cap1, hslw.cap2, hslw.at_, hslw.src⟩)
      rw [← HS.out] at hcw0
      have hod : OutIs w3.drew w1.heap.size g v2 ys := ⟨ho3.row.drew, ho3.own.drew, ho3.apart, ho3.base, ho3.lt⟩
      have HBY := hid_in (obytes_any w3.drew w1.heap.size g v2 ys hod (by omega))
      have HSW : Hid (Sl w3.drew pw ys cw bw 0) := ⟨hslw.lt, hslw.cap1, hslw.cap2, hslw.at_, hslw.src⟩
      have HLT := hid_in ho3.lt
      have HOD := hid_in hod
      have HOWD : Hid (w3.drew.ownsRow w1.heap.size 5 1 (.slice pw ys.length cw) ys.length (ys.map u8v)) := hown3'.drew
      have HBD : Hid (Below w1.heap.size w1 w3.drew) := hb3.drew
      have hss : (S.toList == S.toList) = true := by simp
      have HAP3 := hid_in hap3
      clear hown3 hwant2 hnews hslw hown3' ho3 hb3 hod hap3 hvlt hne2 hb2 HO2 hl2 hone hf63 hfby
      go_region_with (first | (go_at_call 11; refine HBY.out.mono ?_; rintro e w4 ⟨r4, rfl, hown4, hb4⟩; obtain ⟨p4, c4, b4, rfl, hsl4, _⟩ := own_sl HLT.out hown4; have hcb := conv_sl hsl4; rw [← HS.out] at hcb; have hcw := conv_sl (HSW.out.below hb4); rw [← HS.out] at hcw; clear hown4 hsl4))
      all_goals
        go_wp2
        go_roundw
        case rel =>
          go_light
          refine ⟨k + 1, v2, by omega, by go_num, ?_⟩
          rw [HYS2.out]
          exact ⟨HOD.out.below hb4, own_below HOWD.out hb4, HAP3.out, HBD.out.trans (hb4.mono HOD.out.base)⟩
        case measure => simp [intOf]; omega
    · have k1 : (fs.length : Int) ≤ (k : Int) := by omega
      go_wp2_with fail
      refine (onum_nil wr 1).mono ?_
      rintro e wa ⟨rfl, hwa⟩
      have hwa' := hwa.symm
      subst hwa'
      go_wp2_with fail
      refine (otext_nil wr _).mono ?_
      rintro e wb ⟨rfl, hwb⟩
      have hwb' := hwb.symm
      subst hwb'
      go_wp2_with fail
      refine (obytes_nil wr).mono ?_
      rintro e wc ⟨rfl, hwc⟩
      have hwc' := hwc.symm
      subst hwc'
      go_wp2
      go_ret
      exact ⟨rfl, hbwr⟩
end Go.Proofs.Ytjaplfdcdokhfaa
