/-
  awake. An act's call: Adopt and Lay, of entries of its own. An act's call on a journal whose platter is sound: what it answers and what is kept hang on what was kept alone.
-/
import Derived.Laws.Tables
import Derived.OwnWalk
import Derived.Lib.SlBytesConst
import Derived.Deep.RegionLaw
import Derived.Deep.CutRange
import Derived.Laws.CopyOwn
import Derived.Deep.DrawnRows
import Derived.Laws.StructEq
import Derived.Test.YtjjofjnhhajjjaaC00
import Derived.Test.YtjjofjnhhajjjaaC01
import Derived.Test.YtjjofjnhhajjjaaC02
import Derived.Test.YtjjofjnhhajjjaaC03
import Derived.Test.YtjjofjnhhajjjaaC04
import Derived.Test.YtjjofjnhhajjjaaC05
import Derived.Test.YtjjofjnhhajjjaaC06
import Derived.Test.YtjjofjnhhajjjaaC07
import Derived.Test.YtjjofjnhhajjjaaC08
import Derived.Test.YtjjofjnhhajjjaaC09
import Derived.Test.YtjjofjnhhajjjaaC10
import Derived.Test.YtjjofjnhhajjjaaC11
import Derived.Test.YtjjofjnhhajjjaaC12
import Derived.Test.YtjjofjnhhajjjaaC13
import Derived.Test.YtjjofjnhhajjjaaC14
import Derived.Test.YtjjofjnhhajjjaaC15
import Derived.Test.YtjjofjnhhajjjaaC16
import Derived.Test.YtjjofjnhhajjjaaC17
import Derived.Test.YtjjofjnhhajjjaaC18
import Derived.Test.YtjjofjnhhajjjaaC19
import Derived.Test.YtjjofjnhhajjjaaC20
import Derived.Test.YtjjofjnhhajjjaaC21
import Derived.Test.YtjjofjnhhajjjaaC22
import Derived.Test.YtjjofjnhhajjjaaC23
import Derived.Test.YtjjofjnhhajjjaaC24
import Derived.Test.YtjjofjnhhajjjaaC25
import Derived.Test.YtjjofjnhhajjjaaC26
import Derived.Test.YtjjofjnhhajjjaaC27
import Derived.Test.YtjjofjnhhajjjaaC28
import Derived.Test.YtjjofjnhhajjjaaC29
import Derived.Test.YtjjofjnhhajjjaaC30
import Derived.Test.YtjjofjnhhajjjaaC31
import Derived.Test.YtjjofjnhhajjjaaC32
import Derived.Test.YtjjofjnhhajjjaaC33
namespace Go.Proofs.Ytjjofjnhhajjjaa.Jr
open Go.RowKit
open Nd (Row wp_world post_Row grownBy_setCell grownBy_trans below_of_grown u8v Grew Sl hid_in i64r bytesS str)
open Pt (Ar Dk PtV FS Sub Stp liv arOf bytesOf)
def ent1 : Ent := ⟨1, 1, ⟨1, ⟨#[47, 97]⟩, ⟨#[]⟩, ⟨#[]⟩, 0, 0⟩⟩
def k1 : Kt := ⟨3, 0, 0, ⟨#[]⟩, []⟩
def k2 : Kt := ⟨3, 0, 0, ⟨#[]⟩, [ent1]⟩
def k3 : Kt := ⟨3, 3, 0, ⟨#[]⟩, []⟩
theorem f1 : foldS (recV 3) zeroK = some k1 := by rfl
theorem f2 : foldS (recE ent1) k1 = some k2 := by rfl
theorem f3 : foldS (recA 3 0 []) k2 = some k3 := by rfl
theorem f4 : foldS (recA 3 1 []) k3 = none := by rfl
theorem wr_some {r : Rc} {d : Dk} {k n : Kt} (hf : foldS r k = some n) (hb : behE (Nd.Wire.frame (payS r)) d = 0) : wrE r d k = 0 ∧ wrD r d k = behD (Nd.Wire.frame (payS r)) d ∧ wrK r d k = n := by
  unfold wrE wrD wrK
  simp only [hf, hb]
  exact ⟨trivial, trivial, rfl⟩
theorem wr_none {r : Rc} {d : Dk} {k : Kt} (hf : foldS r k = none) : wrE r d k = 1 ∧ wrD r d k = d ∧ wrK r d k = k := by
  unfold wrE wrD wrK
  simp only [hf]
  exact ⟨trivial, trivial, trivial⟩
theorem JV.typed {w : World} {B j g b : Nat} {v0 v1 ve : Value} {d : Dk} {k : Kt} {vs : List Value} {t : TypeId} (h : JV w B j g v0 v1 d ve k) (hr : Row w b vs t) (h5 : t ≠ 5) (h60 : t ≠ 60) (h68 : t ≠ 68) : ¬ FJ j g v0 v1 b := by
  rintro (rfl | hf)
  · have h2 := h.row
    unfold Row at h2 hr
    rw [hr] at h2
    injection h2 with h2
    injection h2 with _ h2
    exact h68 h2
  · exact h.pt.typed hr h5 h60 hf
theorem setAr_live (a : Int) (x : Ar) (d : Dk) : (Pt.setAr a x d).live = d.live := set_live.1
theorem begD_live (k a : Int) (d : Dk) : (Pt.begD k a d).live = d.live := by
  unfold Pt.begD Pt.spendD
  split
  · split <;> rfl
  · rfl
theorem behD_live (xs : List Nat) (d : Dk) : (behD xs d).live = d.live := by
  have happ : ∀ a, (Pt.appD a xs d).live = d.live := fun a => by
    unfold Pt.appD Pt.spendD
    split
    · split <;> exact setAr_live _ _ _
    · rfl
  have hsyn : ∀ a e, (Pt.synD a e).live = e.live := fun a e => by
    unfold Pt.synD
    split
    · rw [setAr_live, begD_live]
    · exact begD_live _ _ _
  unfold behD
  split
  · rw [hsyn, happ]
  · exact happ _
/-- what a call leaves that took its record -/
def Took (W : World) (B j g : Nat) (u0 u1 : Value) (d : Dk) (rs : List Rc) (r : Rc) (n : Kt) (m : Nat) (e : Ending) (w' : World) : Prop :=
  e = .returned (.int .i64 0) ∧ ∃ d' x0 x1 ve', JD d' (rs ++ [r]) n ∧ d'.live = d.live ∧ Lim d' (m + 262152) ∧ JV w' B j g x0 x1 d' ve' n ∧ Grew W w' (FJ j g u0 u1) ∧ Sub W (FJ j g u0 u1) (FJ j g x0 x1)
theorem cj_some {W : World} {B j g F m : Nat} {args : Array Value} {u0 u1 : Value} {d : Dk} {rs : List Rc} {r : Rc} {k n : Kt} (hc : Calls Try.prog F args W (CJ W B j g u0 u1 (wrE r d k) (wrD r d k) (wrK r d k))) (hd : JD d rs k) (hr : Rd r) (hf : foldS r k = some n) (hl : Lim d m) : Calls Try.prog F args W (Took W B j g u0 u1 d rs r n m) := by
  obtain ⟨h1, h2⟩ := hd.behind hr hf
  obtain ⟨e1, e2, e3⟩ := wr_some hf h1
  have hlim := hl.wr (k := k) (r := r) (fun _ _ => hr.pay)
  rw [e1, e2, e3] at hc
  rw [e2] at hlim
  refine hc.mono ?_
  rintro e w' ⟨h3, x0, x1, ve, h4, h5, h6⟩
  exact ⟨h3, _, x0, x1, ve, h2, behD_live _ _, hlim, h4, h5, h6⟩
theorem cj_none {W : World} {B j g F : Nat} {args : Array Value} {u0 u1 : Value} {d : Dk} {r : Rc} {k : Kt} (hc : Calls Try.prog F args W (CJ W B j g u0 u1 (wrE r d k) (wrD r d k) (wrK r d k))) (hf : foldS r k = none) : Calls Try.prog F args W (fun e w' => e = .returned (.int .i64 1) ∧ JStp W w' B j g u0 u1 d k) := by
  obtain ⟨e1, e2, e3⟩ := wr_none (d := d) hf
  rw [e1, e2, e3] at hc
  exact hc
theorem OpR.form {w w' : World} {B g : Nat} {v0 v1 : Value} {d : Dk} {kv kn kb : Int} {ks : ByteArray} {ke : List Ent} {e : Ending} (h : OpR w B g v0 v1 d ⟨kv, kn, kb, ks, ke⟩ e w') : ∃ j ve p c u0 u1, e = .returned (.tuple #[.pointer (some ⟨j, 0, none⟩), .agg #[.int .i64 kv, .int .i64 kn, .int .i64 kb, .string ks, .slice p ke.length c], .int .i64 0]) ∧ JV w' B j g u0 u1 d ve ⟨kv, kn, kb, ks, ke⟩ ∧ Et w' (.slice p ke.length c) ke ∧ w.heap.size ≤ j ∧ Grew w w' (FS g v0 v1) ∧ Sub w (FS g v0 v1) (FS g u0 u1) := by
  obtain ⟨j, ve, v, u0, u1, h1, h2, h3, h4⟩ := h
  obtain ⟨p, c, rfl, _, _⟩ := h3.val.form
  exact ⟨j, ve, p, c, u0, u1, h1, h2, h3, h4⟩
theorem frames_long (rs : List Rc) : 8 * rs.length ≤ (Nd.Wire.frames (rs.map payS)).length := by
  induction rs with
  | nil => exact Nat.le_refl _
  | cons r rs ih =>
    rw [List.map_cons, Nd.Wire.frames_cons, List.length_append, Nd.Wire.frame_length, List.length_cons]
    omega
theorem rd1 : Rd (recV 3) := Rd.v 3 (by decide) (by decide)
theorem ent1_ok : ent1.ok := ⟨⟨by decide, by decide⟩, ⟨by decide, by decide⟩, ⟨⟨by decide, by decide⟩, ⟨by decide, by decide⟩, ⟨by decide, by decide⟩, by decide, by decide, by decide⟩⟩
theorem rd2 : Rd (recE ent1) := Rd.e ent1 ent1_ok ⟨by decide, by decide, by decide⟩
theorem rd3 : Rd (recA 3 0 []) := Rd.a 3 0 [] (by decide) (by decide) (by decide) (by decide) (by decide) (fun _ h => by cases h) (fun _ h => by cases h)
end Go.Proofs.Ytjjofjnhhajjjaa.Jr
namespace Go.Proofs.Ytjjofjnhhajjjaa.Jr
open Go.RowKit
open Nd (Row wp_world post_Row grownBy_setCell grownBy_trans below_of_grown u8v Grew Sl hid_in i64r bytesS str)
open Pt (Ar Dk PtV FS Sub Stp liv arOf bytesOf)
theorem Pok.rowZ {w0 w : World} {B j g : Nat} {v0 v1 : Value} {D : Dk} {K : Kt} {q n Z : Nat} {vs : List Value} (h : Pok w0 w B j g v0 v1 D K q n) (hz : Row w Z vs 30) (i : Nat) (x : Value) : Row (w.setCell ⟨q, i, none⟩ x) Z vs 30 := by
  obtain ⟨u0, u1, vf, us, h1, h2, h3, h4, h5, h6, h7⟩ := h
  refine hz.grew (Grew.of_grown (grownBy_setCell w ⟨q, i, none⟩ x)) (fun e => ?_)
  cases e
  unfold Row at hz h6
  rw [hz] at h6
  injection h6 with h6
  injection h6 with _ h6
  exact absurd h6 (by decide)
set_option maxHeartbeats 4000000 in
set_option maxRecDepth 100000 in
theorem do_2 {w : World} {B j g : Nat} {v0 v1 ve : Value} {d : Dk} {k : Kt} (hJ : JV w B j g v0 v1 d ve k) (a : Ac) (ha : a.ok w) (hR : Room d) (hl : a.k.ents.length ≤ 100000000) (hm : (IntKind.u64.wrap a.kind).tmod 6 = 2) : Calls Try.prog 11 #[.pointer (some ⟨j, 0, none⟩), a.val] w (CJ w B j g v0 v1 (wrE (recA a.view a.frm a.k.ents) d k) (wrD (recA a.view a.frm a.k.ents) d k) (wrK (recA a.view a.frm a.k.ents) d k)) := by
  obtain ⟨W1, H1, R1, B1, S1⟩ := row_new w a.cells 36
  have HES := hid_in (fun W (hb : Below w.heap.size w W) => ha.es.below hb)
  have HC := hid_in (fun W (hb : Below w.heap.size w W) v (hv : Es W v a.k.ents) => adopt_cV (hJ.below hb) a.view a.frm v a.k.ents ha.view ha.frm hv ha.k.ents hl hR)
  have HP := hid_in (fun (v : Value) (w1 w4 : World) (D : Dk) (K : Kt) (hb : Below w.heap.size w w1) (ho : EO w1 w.heap.size v a.k.ents) (h : JStpV w1 w4 B j g v0 v1 ve D K) (hn : a.k.ents ≠ []) => Pok.of hJ hb ho h hn)
  generalize wrE (recA a.view a.frm a.k.ents) d k = E at *
  generalize wrD (recA a.view a.frm a.k.ents) d k = D at *
  generalize wrK (recA a.view a.frm a.k.ents) d k = K at *
  have hes := ha.es
  have hkp := ha.slice
  clear hJ hR ha
  obtain ⟨kd, vw, fr, ⟨kv, kn, kb, ks, es⟩, vs, fl, kp, kks⟩ := a
  simp only at hes hkp hm hl HC HES HP
  obtain ⟨p, cap, rfl, hc1, hc2⟩ := hes.form
  obtain ⟨r, l, c, rfl⟩ := hkp
  simp only [Ac.val, Ac.cells] at H1 R1 HC ⊢
  have a0 := R1.out.cell 0
  have a1 := R1.out.cell 1
  have a2 := R1.out.cell 2
  have a3 := R1.out.cell 3
  have a4 := R1.out.cell 4
  have a5 := R1.out.cell 5
  have a6 := R1.out.cell 6
  have a7 := R1.out.cell 7
  have a8 := R1.out.cell 8
  have a9 := R1.out.cell 9
  simp only [List.getElem?_cons_succ, List.getElem?_cons_zero] at a0 a1 a2 a3 a4 a5 a6 a7 a8 a9
  clear hes
  have HL := hid_in hl
  clear hl
  go_enter Try.func11, Try.ntmps11
  go_upto_region 1 with fail
  refine wp_world H1.out ?_
  go_upto_region 7 with fail
  obtain ⟨W2, H2, HN2, HB2⟩ := eo_empty W1
  have HE := hid_in (HES.out _ (B1.out.trans (HB2.out.mono B1.out.size)))
  have a7' := (R1.out.below HB2.out R1.out.lt).cell 7
  simp only [List.getElem?_cons_succ, List.getElem?_cons_zero] at a7'
  have hw := H2.out
  subst hw
  go_upto_region 8 with (first | (at_builtin; refine wpList_appE W1.heap.size rfl (.tmp 29) (.tmp 32) rfl (.slice (some ⟨W1.heap.size, 0, none⟩) 0 0) [] es rfl HN2.out _ rfl HE.out (by have := HL.out; simp only [List.length_nil]; omega) HB2.out.size ?_; intro v3 w3 hn3 hg3; have hb3 := HB2.out.grown hg3 HB2.out.size (fun k e => (HN2.out.lt k e).1); rw [List.nil_append] at hn3; obtain ⟨p3, c3, e3, -, -⟩ := hn3.es.form; subst e3; have HB3 := hid_in (B1.out.trans (hb3.mono B1.out.size)); have HN3 := hid_in (EO.mono hn3 B1.out.size); have R3 := hid_in (R1.out.below hb3 R1.out.lt); clear hn3 hg3 hb3))
  have HC3 := hid_in (HC.out w3 HB3.out _ HN3.out.es)
  have b1 := R3.out.cell 1
  have b2 := R3.out.cell 2
  simp only [List.getElem?_cons_succ, List.getElem?_cons_zero] at b1 b2
  go_upto_region 9 with (first | (go_at_call 23; refine HC3.out.mono ?_; rintro e w4 ⟨rfl, hs4⟩; have HS4 := hid_in hs4; clear hs4 HC3))
  have HF : Hid ((es.length = 0 ∧ w4 = w4) ∨ ∃ q, p3 = some ⟨q, 0, none⟩ ∧ Pok w w4 B j g v0 v1 D K q es.length) := hid_in (by
    by_cases hn : es = []
    · exact .inl ⟨by rw [hn]; rfl, rfl⟩
    · obtain ⟨q, cap', e1, e2⟩ := HP.out _ _ _ D K HB3.out HN3.out HS4.out hn
      simp only [Value.slice.injEq] at e1
      exact .inr ⟨q, e1.1, e2⟩)
  have HZ : Hid (es.length = 0 → JStp w w4 B j g v0 v1 D K) := hid_in (fun _ => JStp.ahead HB3.out HS4.out.weak)
  clear HP HC HES HN3 HS4
  generalize es.length = n at *
  go_upto_region 10 with fail
  go_loopw [7] (fun vi W => ∃ i : Nat, i ≤ n ∧ vi = .int .i64 (i : Int) ∧ Hid ((n = 0 ∧ W = w4) ∨ ∃ q, p3 = some ⟨q, 0, none⟩ ∧ Pok w W B j g v0 v1 D K q n)) (fun vi _ => n - (intOf vi).toNat)
  case atStart => exact ⟨0, by omega, rfl, hid_in (by simpa using HF.out)⟩
  case round =>
    obtain ⟨i, hi, rfl, hst⟩ := hrel
    by_cases hlt : i < n
    · obtain ⟨q, hq, hf⟩ : ∃ q, p3 = some ⟨q, 0, none⟩ ∧ Pok w wr B j g v0 v1 D K q n := by
        rcases hst.out with ⟨h0, -⟩ | h0
        · omega
        · exact h0
      subst hq
      obtain ⟨u, hu1, hu2⟩ := hf.at_ hlt
      have HN := hid_in (show (n = 0 ∧ wr.setCell ⟨q, i * 8, none⟩ (.int .i64 (-99)) = w4) ∨ ∃ q', some (⟨q, 0, none⟩ : Addr) = some ⟨q', 0, none⟩ ∧ Pok w (wr.setCell ⟨q, i * 8, none⟩ (.int .i64 (-99))) B j g v0 v1 D K q' n from .inr ⟨q, rfl, hf.set (i * 8) _⟩)
      have HIM := hid_in hlt
      have hlt2 : (i : Int) < (n : Int) := by omega
      have hmb : (n : Int) ≤ 100000000 := by have := HL.out; omega
      clear hst hf hlt hi
      go_wp2_with fail
      exact ⟨⟨i + 1, by have := HIM.out; omega, by go_num, HN.out⟩, by have := HIM.out; simp [intOf]; omega⟩
    · obtain rfl : i = n := by omega
      have HE := hid_in (show JStp w wr B j g v0 v1 D K by
        rcases hst.out with ⟨h0, rfl⟩ | ⟨q, -, hf⟩
        · exact HZ.out h0
        · exact hf.out)
      clear hst hi hlt
      go_wp2_with fail
      go_ret
      exact ⟨rfl, HE.out⟩
set_option maxHeartbeats 4000000 in
set_option maxRecDepth 100000 in
theorem do_3 {w : World} {B j g : Nat} {v0 v1 ve : Value} {d : Dk} {k : Kt} (hJ : JV w B j g v0 v1 d ve k) (a : Ac) (ha : a.ok w) (hR : Room d) (hl : a.k.ents.length ≤ 100000000) (hm : (IntKind.u64.wrap a.kind).tmod 6 = 3) : Calls Try.prog 11 #[.pointer (some ⟨j, 0, none⟩), a.val] w (CJ w B j g v0 v1 (lyE a.k d k) (lyD a.k d k) (lyK a.k d k)) := by
  obtain ⟨W1, H1, R1, B1, S1⟩ := row_new w a.cells 36
  have HES := hid_in (fun W (hb : Below w.heap.size w W) => ha.es.below hb)
  have HC := hid_in (fun W (hb : Below w.heap.size w W) v (hv : Es W v a.k.ents) => lay_cV (hJ.below hb) a.k v hv ha.k hl hR)
  have HT := hid_in (fun W (hb : Below w.heap.size w W) Z vs (hr : Row W Z vs 30) => (hJ.below hb).typed hr (by decide) (by decide) (by decide))
  have HP := hid_in (fun (v : Value) (w1 w4 : World) (D : Dk) (K : Kt) (hb : Below w.heap.size w w1) (ho : EO w1 w.heap.size v a.k.ents) (h : JStpV w1 w4 B j g v0 v1 ve D K) (hn : a.k.ents ≠ []) => Pok.of hJ hb ho h hn)
  generalize lyE a.k d k = E at *
  generalize lyD a.k d k = D at *
  generalize lyK a.k d k = K at *
  have hes := ha.es
  have hkp := ha.slice
  clear hJ hR ha
  obtain ⟨kd, vw, fr, ⟨kv, kn, kb, ks, es⟩, vs, fl, kp, kks⟩ := a
  simp only at hes hkp hm hl HC HES HP
  obtain ⟨p, cap, rfl, hc1, hc2⟩ := hes.form
  obtain ⟨r, l, c, rfl⟩ := hkp
  simp only [Ac.val, Ac.cells, Kt.val] at H1 R1 HC ⊢
  have a0 := R1.out.cell 0
  have a1 := R1.out.cell 1
  have a2 := R1.out.cell 2
  have a3 := R1.out.cell 3
  have a4 := R1.out.cell 4
  have a5 := R1.out.cell 5
  have a6 := R1.out.cell 6
  have a7 := R1.out.cell 7
  have a8 := R1.out.cell 8
  have a9 := R1.out.cell 9
  simp only [List.getElem?_cons_succ, List.getElem?_cons_zero] at a0 a1 a2 a3 a4 a5 a6 a7 a8 a9
  clear hes
  have HL := hid_in hl
  clear hl
  go_enter Try.func11, Try.ntmps11
  go_upto_region 1 with fail
  refine wp_world H1.out ?_
  obtain ⟨W2, H2, RZ, B2, S2⟩ := row_new W1 [.int .i64 kv, .int .i64 kn, .int .i64 kb, .string ks, .slice p es.length cap] 30
  have B12 := hid_in (B1.out.trans (B2.out.mono B1.out.size))
  go_upto_region 16 with fail
  refine wp_world H2.out ?_
  obtain ⟨W3, H3, HN3, HB3⟩ := eo_empty W2
  have HE := hid_in (HES.out _ (B12.out.trans (HB3.out.mono B12.out.size)))
  have a7' := ((R1.out.below B2.out R1.out.lt).below HB3.out (Nat.lt_of_lt_of_le R1.out.lt B2.out.size)).cell 7
  simp only [List.getElem?_cons_succ, List.getElem?_cons_zero] at a7'
  have hw := H3.out
  subst hw
  go_upto_region 17 with (first | (at_builtin; refine wpList_appE W2.heap.size rfl (.tmp 56) (.tmp 59) rfl (.slice (some ⟨W2.heap.size, 0, none⟩) 0 0) [] es rfl HN3.out _ rfl HE.out (by have := HL.out; simp only [List.length_nil]; omega) HB3.out.size ?_; intro v4 w4 hn4 hg4; have hb4 := HB3.out.grown hg4 HB3.out.size (fun k e => (HN3.out.lt k e).1); rw [List.nil_append] at hn4; obtain ⟨p3, c3, e3, -, -⟩ := hn4.es.form; subst e3; have RZ4 := hid_in (RZ.out.below hb4 RZ.out.lt); have HB4 := hid_in (B12.out.trans (hb4.mono B12.out.size)); have HN4 := hid_in hn4; have y4 := RZ4.out.cell 4; simp only [List.getElem?_cons_succ, List.getElem?_cons_zero] at y4; have fy4 := RZ4.out.frozen 4; clear hn4 hg4 hb4))
  have HG5 := hid_in (grownBy_setCell w4 ⟨W1.heap.size, 4, none⟩ (.slice p3 es.length c3))
  have RZ5 := hid_in (RZ4.out.set_same 4 (.slice p3 es.length c3))
  have HB5 := hid_in (HB4.out.grown HG5.out HB4.out.size (fun k e => by cases e; exact B1.out.size))
  have HN5 := hid_in (EO.keepG (EO.mono HN4.out B12.out.size) (Grew.of_grown HG5.out) (fun q hq e => by cases e; have h1 := (HN4.out.lt _ hq).1; have h2 := S2.out; simp only at h1; omega))
  simp only [List.set_cons_succ, List.set_cons_zero] at RZ5
  obtain ⟨W5, HW5⟩ : ∃ W5, Hid (w4.setCell ⟨W1.heap.size, 4, none⟩ (.slice p3 es.length c3) = W5) := ⟨_, hid_in rfl⟩
  rw [HW5.out] at RZ5 HB5 HN5
  refine wp_world HW5.out ?_
  clear y4 fy4 HG5 RZ4
  have b0 := RZ5.out.cell 0
  have b1 := RZ5.out.cell 1
  have b2 := RZ5.out.cell 2
  have b3 := RZ5.out.cell 3
  have b4 := RZ5.out.cell 4
  simp only [List.getElem?_cons_succ, List.getElem?_cons_zero] at b0 b1 b2 b3 b4
  have HC3 := hid_in (HC.out W5 HB5.out _ HN5.out.es)
  have HTY := hid_in (HT.out W5 HB5.out _ _ RZ5.out)
  go_upto_region 18 with (first | (go_at_call 18; refine HC3.out.mono ?_; rintro e w6 ⟨rfl, hs6⟩; have RZ6 := hid_in (by obtain ⟨_, _, _, _, hg, _⟩ := hs6; exact RZ5.out.grew hg HTY.out); have HS6 := hid_in hs6; clear hs6 HC3))
  have HF : Hid ((es.length = 0 ∧ w6 = w6) ∨ ∃ q, p3 = some ⟨q, 0, none⟩ ∧ Pok w w6 B j g v0 v1 D K q es.length) := hid_in (by
    by_cases hn : es = []
    · exact .inl ⟨by rw [hn]; rfl, rfl⟩
    · obtain ⟨q, cap', e1, e2⟩ := HP.out _ _ _ D K HB5.out HN5.out HS6.out hn
      simp only [Value.slice.injEq] at e1
      exact .inr ⟨q, e1.1, e2⟩)
  have HZ : Hid (es.length = 0 → JStp w w6 B j g v0 v1 D K) := hid_in (fun _ => JStp.ahead HB5.out HS6.out.weak)
  clear HP HC HES HN4 HN5 HS6
  generalize es.length = n at *
  go_upto_region 19 with fail
  go_loopw [10] (fun vi W => ∃ i : Nat, i ≤ n ∧ vi = .int .i64 (i : Int) ∧ Hid ((n = 0 ∧ W = w6) ∨ ∃ q, p3 = some ⟨q, 0, none⟩ ∧ Pok w W B j g v0 v1 D K q n) ∧ Hid (Row W W1.heap.size [.int .i64 kv, .int .i64 kn, .int .i64 kb, .string ks, .slice p3 n c3] 30)) (fun vi _ => n - (intOf vi).toNat)
  case atStart => exact ⟨0, by omega, rfl, hid_in (by simpa using HF.out), RZ6.out⟩
  case round =>
    obtain ⟨i, hi, rfl, hst, hz⟩ := hrel
    have z4 : wr.cell? ⟨W1.heap.size, 4, none⟩ = some (.slice p3 n c3) := hz.out.cell 4
    by_cases hlt : i < n
    · obtain ⟨q, hq, hf⟩ : ∃ q, p3 = some ⟨q, 0, none⟩ ∧ Pok w wr B j g v0 v1 D K q n := by
        rcases hst.out with ⟨h0, -⟩ | h0
        · omega
        · exact h0
      subst hq
      obtain ⟨u, hu1, hu2⟩ := hf.at_ hlt
      have HN := hid_in (show (n = 0 ∧ wr.setCell ⟨q, i * 8, none⟩ (.int .i64 (-99)) = w6) ∨ ∃ q', some (⟨q, 0, none⟩ : Addr) = some ⟨q', 0, none⟩ ∧ Pok w (wr.setCell ⟨q, i * 8, none⟩ (.int .i64 (-99))) B j g v0 v1 D K q' n from .inr ⟨q, rfl, hf.set (i * 8) _⟩)
      have HIM := hid_in hlt
      have HNZ := hid_in (hf.rowZ hz.out (i * 8) (.int .i64 (-99)))
      have hlt2 : (i : Int) < (n : Int) := by omega
      have hmb : (n : Int) ≤ 100000000 := by have := HL.out; omega
      clear hst hf hlt hi hz
      go_wp2_with fail
      exact ⟨⟨i + 1, by have := HIM.out; omega, by go_num, HN.out, HNZ.out⟩, by have := HIM.out; simp [intOf]; omega⟩
    · obtain rfl : i = n := by omega
      have HE := hid_in (show JStp w wr B j g v0 v1 D K by
        rcases hst.out with ⟨h0, rfl⟩ | ⟨q, -, hf⟩
        · exact HZ.out h0
        · exact hf.out)
      clear hst hi hlt hz
      go_wp2_with fail
      go_ret
      exact ⟨rfl, HE.out⟩
end Go.Proofs.Ytjjofjnhhajjjaa.Jr
namespace Go.Proofs.Ytjjofjnhhajjjaa.Jr
open Go.RowKit
open Nd (Row wp_world post_Row grownBy_setCell grownBy_trans below_of_grown u8v Grew Sl hid_in i64r bytesS str)
open Pt (Ar Dk PtV FS Sub Stp liv arOf bytesOf)
theorem rd_v {v : Int} {k n : Kt} (hk : may k = true) (h : foldS (recV v) k = some n) : Rd (recV v) := Rd.v v (recV_pay hk h).view.1 (recV_pay hk h).view.2
theorem rd_e {e : Ent} {k n : Kt} (he : e.ok) (h : foldS (recE e) k = some n) : Rd (recE e) := Rd.e e he ((recE_pay he h).sh e (List.mem_singleton.2 rfl))
theorem rd_a {v f : Int} {es : List Ent} {k n : Kt} (hk : may k = true) (he : ∀ e ∈ es, e.ok) (h : foldS (recA v f es) k = some n) : Rd (recA v f es) :=
  have p := recA_pay hk he h
  Rd.a v f es p.view.1 p.view.2 p.frm.1 p.frm.2 p.few he p.sh
/-- the record that an act brings -/
def rcO (m : Int) (a : Ac) : Rc := if m = 0 then recV a.view else if m = 1 then recE a.first else if m = 2 then recA a.view a.frm a.k.ents else recL a.k
def okE (a : Ac) (k : Kt) : Int := if kd a.kind = 4 ∨ kd a.kind = 5 then 0 else match foldS (rcO (kd a.kind) a) k with | none => 1 | some _ => 0
def okK (a : Ac) (k : Kt) : Kt := if kd a.kind = 4 ∨ kd a.kind = 5 then k else match foldS (rcO (kd a.kind) a) k with | none => k | some n => n
/-- what an act leaves of a journal whose platter is sound -/
def Snd (w : World) (B j g : Nat) (v0 v1 : Value) (k : Kt) (m : Nat) (E : Int) (e : Ending) (w' : World) : Prop :=
  e = .returned (.int .i64 E) ∧ ∃ d rs u0 u1 ve, JV w' B j g u0 u1 d ve k ∧ JD d rs k ∧ Lim d m ∧ Grew w w' (FJ j g v0 v1) ∧ Sub w (FJ j g v0 v1) (FJ j g u0 u1)
theorem snd_wr {w : World} {B j g m : Nat} {args : Array Value} {v0 v1 : Value} {d : Dk} {rs : List Rc} {r : Rc} {k : Kt} (hc : Calls Try.prog 11 args w (CJ w B j g v0 v1 (wrE r d k) (wrD r d k) (wrK r d k))) (hd : JD d rs k) (hl : Lim d m) (hr : ∀ n, foldS r k = some n → Rd r) :
    Calls Try.prog 11 args w (Snd w B j g v0 v1 (match foldS r k with | none => k | some n => n) (m + 262152) (match foldS r k with | none => 1 | some _ => 0)) := by
  cases hf : foldS r k with
  | none =>
    refine (cj_none hc hf).mono ?_
    rintro e w' ⟨h1, u0, u1, ve', h2, h3, h4⟩
    exact ⟨h1, d, rs, u0, u1, ve', h2, hd, hl.mono (by omega), h3, h4⟩
  | some n =>
    refine (cj_some hc hd (hr n hf) hf hl).mono ?_
    rintro e w' ⟨h1, d', x0, x1, ve', h2, -, h3, h4, h5, h6⟩
    exact ⟨h1, d', _, x0, x1, ve', h4, h2, h3, h5, h6⟩
theorem do_snd {w : World} {B j g n : Nat} {v0 v1 ve : Value} {d : Dk} {rs : List Rc} {k : Kt} (hJ : JV w B j g v0 v1 d ve k) (hd : JD d rs k) (hl : Lim d n) (hn : n ≤ 100000000) (a : Ac) (ha : a.ok w) (hlen : a.k.ents.length ≤ 100000000) :
    Calls Try.prog 11 #[.pointer (some ⟨j, 0, none⟩), a.val] w (Snd w B j g v0 v1 (okK a k) (n + 262152) (okE a k)) := by
  have hR : Room d := hl.room (by omega)
  unfold okK okE
  rcases kd_cases a.kind with h | h | h | h | h | h
  · rw [if_neg (by rw [h]; decide), if_neg (by rw [h]; decide), h]
    exact snd_wr (do_0 hJ a ha hR h) hd hl (fun _ hf => rd_v hJ.may hf)
  · rw [if_neg (by rw [h]; decide), if_neg (by rw [h]; decide), h]
    exact snd_wr (do_1 hJ a ha hR h) hd hl (fun _ hf => rd_e (Ac.first_ok ha) hf)
  · rw [if_neg (by rw [h]; decide), if_neg (by rw [h]; decide), h]
    exact snd_wr (do_2 hJ a ha hR hlen h) hd hl (fun _ hf => rd_a hJ.may ha.k.ents hf)
  · rw [if_neg (by rw [h]; decide), if_neg (by rw [h]; decide), h]
    have hc := do_3 hJ a ha hR hlen h
    have hlim := hl.ly (k := k) (k' := a.k) ha.k
    have e1 : rcO 3 a = recL a.k := rfl
    rw [e1]
    unfold lyE lyD lyK at hc
    unfold lyD at hlim
    cases hf : foldS (recL a.k) k with
    | none =>
      rw [hf] at hc
      refine hc.mono ?_
      rintro e w' ⟨h1, u0, u1, ve', h2, h3, h4⟩
      exact ⟨h1, d, rs, u0, u1, ve', h2, hd, hl.mono (by omega), h3, h4⟩
    | some x =>
      obtain ⟨rfl, hm⟩ := fold_recL hf
      obtain ⟨g1, g2⟩ := hd.anew ha.k hm
      rw [hf] at hc hlim
      simp only [g1, if_true] at hc
      refine hc.mono ?_
      rintro e w' ⟨h1, u0, u1, ve', h2, h3, h4⟩
      exact ⟨h1, _, _, u0, u1, ve', h2, g2, hlim, h3, h4⟩
  · rw [if_pos (.inl h), if_pos (.inl h)]
    refine (do_4 hJ a ha h).mono ?_
    rintro e w' ⟨h1, u0, u1, ve', h2, h3, h4⟩
    exact ⟨h1, d, rs, u0, u1, ve', h2, hd, hl.mono (by omega), h3, h4⟩
  · rw [if_pos (.inr h), if_pos (.inr h)]
    refine (do_5 hJ a ha h).mono ?_
    rintro e w' ⟨h1, u0, u1, ve', h2, h3, h4⟩
    exact ⟨h1, d, rs, u0, u1, ve', h2, hd, hl.mono (by omega), h3, h4⟩
end Go.Proofs.Ytjjofjnhhajjjaa.Jr
