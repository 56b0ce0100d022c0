/-
  Lay of what a journal keeps, where no loss is near. Open, where the live area ends in a torn frame: all is laid anew. What the live area has wherever the power went within a call. What is found behind a loss of power.
-/
import Derived.Laws.Tables
import Derived.OwnWalk
import Derived.Lib.SlBytesConst
import Derived.Deep.RegionLaw
import Derived.Deep.CutRange
import Derived.Laws.CopyOwn
import Derived.Deep.DrawnRows
import Derived.Laws.StructEq
import Derived.Test.YtjjofjnhhajjjaaC00
import Derived.Test.YtjjofjnhhajjjaaC01
import Derived.Test.YtjjofjnhhajjjaaC02
import Derived.Test.YtjjofjnhhajjjaaC03
import Derived.Test.YtjjofjnhhajjjaaC04
import Derived.Test.YtjjofjnhhajjjaaC05
import Derived.Test.YtjjofjnhhajjjaaC06
import Derived.Test.YtjjofjnhhajjjaaC07
import Derived.Test.YtjjofjnhhajjjaaC08
import Derived.Test.YtjjofjnhhajjjaaC09
import Derived.Test.YtjjofjnhhajjjaaC10
import Derived.Test.YtjjofjnhhajjjaaC11
import Derived.Test.YtjjofjnhhajjjaaC12
import Derived.Test.YtjjofjnhhajjjaaC13
import Derived.Test.YtjjofjnhhajjjaaC14
import Derived.Test.YtjjofjnhhajjjaaC15
import Derived.Test.YtjjofjnhhajjjaaC16
import Derived.Test.YtjjofjnhhajjjaaC17
import Derived.Test.YtjjofjnhhajjjaaC18
import Derived.Test.YtjjofjnhhajjjaaC19
import Derived.Test.YtjjofjnhhajjjaaC20
import Derived.Test.YtjjofjnhhajjjaaC21
import Derived.Test.YtjjofjnhhajjjaaC22
import Derived.Test.YtjjofjnhhajjjaaC23
import Derived.Test.YtjjofjnhhajjjaaC24
import Derived.Test.YtjjofjnhhajjjaaC25
import Derived.Test.YtjjofjnhhajjjaaC26
import Derived.Test.YtjjofjnhhajjjaaC27
import Derived.Test.YtjjofjnhhajjjaaC28
import Derived.Test.YtjjofjnhhajjjaaC29
import Derived.Test.YtjjofjnhhajjjaaC30
import Derived.Test.YtjjofjnhhajjjaaC31
import Derived.Test.YtjjofjnhhajjjaaC32
import Derived.Test.YtjjofjnhhajjjaaC33
import Derived.Test.YtjjofjnhhajjjaaC34
import Derived.Test.YtjjofjnhhajjjaaC35
import Derived.Test.YtjjofjnhhajjjaaC36
namespace Go.Proofs.Ytjjofjnhhajjjaa.Jr
open Go.RowKit
open Nd (Row wp_world post_Row grownBy_setCell grownBy_trans below_of_grown u8v Grew Sl hid_in i64r bytesS str)
open Pt (Ar Dk PtV FS Sub Stp liv arOf bytesOf)
theorem anew_ok {d : Dk} (xs : List Nat) (h1 : d.down = false) (h2 : d.left = 0) : (anewR xs d).1 = 0 := by
  obtain ⟨a0, a1, b, dn, lf⟩ := d
  simp only at h1 h2
  subst h1 h2
  cases b
  · rw [anew_f]
  · rw [anew_t]
theorem lay_ok {w : World} {B j g : Nat} {v0 v1 ve v : Value} {d : Dk} {k : Kt} (hJ : JV w B j g v0 v1 d ve k) (h1 : d.down = false) (h2 : d.left = 0) (hes : Es w v k.ents) (hR : Room d) :
    Calls Try.prog 18 #[.pointer (some ⟨j, 0, none⟩), k.val v] w (CJ w B j g v0 v1 0 (anewR (Nd.Wire.frame (payS (recL k))) d).2 k) := by
  have hfew := ((may_iff k).1 hJ.may).few
  have hc := lay_c hJ k v hes hJ.ok (by omega) hR
  have g1 := anew_ok (Nd.Wire.frame (payS (recL k))) h1 h2
  have hf := foldS_L (k := k) hJ.may
  unfold lyE lyD lyK at hc
  rw [hf] at hc
  simp only [g1, if_true] at hc
  exact hc
end Go.Proofs.Ytjjofjnhhajjjaa.Jr
namespace Go.Proofs.Ytjjofjnhhajjjaa.Jr
open Go.RowKit
open Nd (Row wp_world post_Row grownBy_setCell grownBy_trans below_of_grown u8v Grew Sl hid_in i64r bytesS str)
open Pt (Dk PtV FS Sub Stp liv arOf bytesOf)
set_option maxHeartbeats 8000000 in
set_option maxRecDepth 100000 in
theorem open_torn {w : World} {B g : Nat} {v0 v1 : Value} {d : Dk} (h : PtV w B g v0 v1 d) (hd : d.down = false) (rs : List Rc) (k : Kt) (hrd : ∀ r ∈ rs, Rd r) (hf : foldA rs zeroK = some k) (n : Nat) (hs : Nd.Wire.scan (bytesOf (liv d.live) d) = (rs.map payS, n)) (hnl : n < (bytesOf (liv d.live) d).length) (hlf : d.left = 0) (hroom : Room d) (hre : (bytesOf (liv d.live) d).length ≤ 1099511627776) :
    Calls Try.prog 9 #[.pointer (some ⟨g, 0, none⟩)] w (OpR w B g v0 v1 (anewR (Nd.Wire.frame (payS (recL k))) d).2 k) := by
  have hmf : ∀ (fn : Fn) (first cap : Array Value) (w : World), (Instr.makeFunc fn first cap).run Try.prog w = .ok (.func fn first cap) w := fun _ _ _ _ => rfl
  obtain ⟨W3, H3, R2, R3, R4, B3, S3⟩ := rows9 w (.pointer none) zcells (.int .i64 0)
  have HP3 := hid_in (h.below B3.out)
  have HD := hid_in (Pt.down_any HP3.out)
  rw [hd] at HD
  have HL := hid_in (Pt.live_any HP3.out)
  have HRD := hid_in (Pt.read_any HP3.out (liv d.live))
  have HLT := hid_in (bytes_lt h (liv d.live))
  obtain ⟨bs, HBS⟩ : ∃ bs, Hid (bytesOf (liv d.live) d = bs) := ⟨_, hid_in rfl⟩
  rw [HBS.out] at HRD HLT hs hre hnl
  have hnlI : (n : Int) < (bs.length : Int) := by omega
  have HLO := hid_in (fun W y e ve v (hJ : JV W B y g v0 v1 d ve k) (hes : Es W v k.ents) (_ : e = y) => lay_ok hJ hd hlf hes hroom)
  obtain ⟨D, HDD⟩ : ∃ D, Hid ((anewR (Nd.Wire.frame (payS (recL k))) d).2 = D) := ⟨_, hid_in rfl⟩
  rw [HDD.out] at HLO ⊢
  clear hnl hlf hroom HDD
  have hlenB : (bs.length : Int) ≤ 1099511627776 := by omega
  have hlen0 : (0 : Int) ≤ (bs.length : Int) := by omega
  have HSC := hid_in (fun W p cap b (hsl : Sl W p bs cap b 0) => Nd.scan_any bs p cap b 0 W hsl hre)
  rw [hs] at HSC
  simp only at HSC
  have HRC := hid_in (fun ps v W B' (hv : Nd.Held W B' v ps) (hps : ps.map (·.bs) = rs.map payS) => recall_c ps rs v W B' k hv hps hrd hf)
  have HPW := hid_in h
  obtain ⟨kv, kn, kb, ks, ke⟩ := k
  simp only [Kt.val] at HRC HLO
  obtain ⟨a, HA⟩ : ∃ a, Hid (liv d.live = a) := ⟨_, hid_in rfl⟩
  rw [HA.out] at HL HRD
  clear h hd hs hrd hf HBS
  have a0 : W3.cell? ⟨w.heap.size, 0, none⟩ = some (.pointer none) := R2.out.cell 0
  have fa0 := R2.out.frozen 0
  have z0 : W3.cell? ⟨w.heap.size + 1, 0, none⟩ = some (.int .i64 0) := R3.out.cell 0
  have fz0 := R3.out.frozen 0
  have z1 : W3.cell? ⟨w.heap.size + 1, 1, none⟩ = some (.int .i64 0) := R3.out.cell 1
  have fz1 := R3.out.frozen 1
  have z2 : W3.cell? ⟨w.heap.size + 1, 2, none⟩ = some (.int .i64 0) := R3.out.cell 2
  have fz2 := R3.out.frozen 2
  have z3 : W3.cell? ⟨w.heap.size + 1, 3, none⟩ = some (.string ⟨#[]⟩) := R3.out.cell 3
  have fz3 := R3.out.frozen 3
  have z4 : W3.cell? ⟨w.heap.size + 1, 4, none⟩ = some (.slice none 0 0) := R3.out.cell 4
  have fz4 := R3.out.frozen 4
  have e0 : W3.cell? ⟨w.heap.size + 1 + 1, 0, none⟩ = some (.int .i64 0) := R4.out.cell 0
  have fe0 := R4.out.frozen 0
  go_enter_defers Try.func9, Try.ntmps9
  go_upto_region 2 with fail
  refine wp_world H3.out ?_
  go_upto_region 7 with (first | (go_at_call 15; refine HD.out.mono ?_; rintro e w4 ⟨rfl, rfl⟩) | (go_at_call 26; refine HL.out.mono ?_; rintro e w4 ⟨rfl, rfl⟩) | (go_at_call 24; refine HRD.out.mono ?_; rintro e w4 ⟨v, rfl, h1, h2⟩; obtain ⟨p, cp, b, rfl, hsl, hno⟩ := Nd.own_sl HLT.out h1; have HB4 := hid_in h2; have HC4 := hid_in (HSC.out w4 p cp b hsl); clear h1 h2 hsl hno a0 fa0 z0 fz0 z1 fz1 z2 fz2 z3 fz3 z4 fz4 e0 fe0))
  go_upto_region 8 with (first | (go_at_call 27; refine HC4.out.mono ?_; rintro e w5 ⟨v, ps, rfl, h1, h2, h3⟩; have HB5 := hid_in (HB4.out.trans (h3.mono HB4.out.size)); have HC5 := hid_in (HRC.out ps v w5 _ h1 h2); clear h1 h2 h3))
  go_upto_region 9 with (first | (go_at_call 28; refine HC5.out.mono ?_; rintro e w6 ⟨u, rfl, h1, h2, h3, h4⟩; obtain ⟨up, uc, rfl, _, _⟩ := h1.val.form; have HB6 := hid_in (HB5.out.trans (h4.mono HB5.out.size)); have HE6 := hid_in h1; have HOK := hid_in h2; have HMY := hid_in h3; have X2 := hid_in (R2.out.below HB6.out R2.out.lt); have X3 := hid_in (R3.out.below HB6.out R3.out.lt); have X4 := hid_in (R4.out.below HB6.out R4.out.lt); have a0 : w6.cell? ⟨w.heap.size, 0, none⟩ = some (.pointer none) := X2.out.cell 0; have fa0 := X2.out.frozen 0; have z0 : w6.cell? ⟨w.heap.size + 1, 0, none⟩ = some (.int .i64 0) := X3.out.cell 0; have fz0 := X3.out.frozen 0; have z1 : w6.cell? ⟨w.heap.size + 1, 1, none⟩ = some (.int .i64 0) := X3.out.cell 1; have fz1 := X3.out.frozen 1; have z2 : w6.cell? ⟨w.heap.size + 1, 2, none⟩ = some (.int .i64 0) := X3.out.cell 2; have fz2 := X3.out.frozen 2; have z3 : w6.cell? ⟨w.heap.size + 1, 3, none⟩ = some (.string ⟨#[]⟩) := X3.out.cell 3; have fz3 := X3.out.frozen 3; have z4 : w6.cell? ⟨w.heap.size + 1, 4, none⟩ = some (.slice none 0 0) := X3.out.cell 4; have fz4 := X3.out.frozen 4; have e0 : w6.cell? ⟨w.heap.size + 1 + 1, 0, none⟩ = some (.int .i64 0) := X4.out.cell 0; have fe0 := X4.out.frozen 0; have hal : Below w6.heap.size w6 (w6.alloc (.cells #[.pointer (some ⟨g, 0, none⟩), .int .i64 kv, .int .i64 kn, .int .i64 kb, .string ks, .slice up ke.length uc] 68)) := (Below.refl _ _).alloc (Nat.le_refl _) _; have ac0 : (w6.alloc (.cells #[.pointer (some ⟨g, 0, none⟩), .int .i64 kv, .int .i64 kn, .int .i64 kb, .string ks, .slice up ke.length uc] 68)).cell? ⟨w.heap.size, 0, none⟩ = some (.pointer none) := (X2.out.below hal X2.out.lt).cell 0; have af0 : (w6.alloc (.cells #[.pointer (some ⟨g, 0, none⟩), .int .i64 kv, .int .i64 kn, .int .i64 kb, .string ks, .slice up ke.length uc] 68)).frozen? ⟨w.heap.size, 0, none⟩ = false := (X2.out.below hal X2.out.lt).frozen 0; clear hal h1 h2 h3 h4))
  clear a0 fa0 z0 fz0 z1 fz1 z2 fz2 z3 fz3 z4 fz4 e0 fe0 ac0 af0
  have hb6 : Below w.heap.size w w6 := B3.out.trans (HB6.out.mono B3.out.size)
  have hn6 : w.heap.size + 3 ≤ w6.heap.size := by have h1 := S3.out; have h2 := HB6.out.size; omega
  obtain ⟨W7, H7, J7, B7, S7⟩ := row_new w6 [.pointer (some ⟨g, 0, none⟩), .int .i64 kv, .int .i64 kn, .int .i64 kb, .string ks, .slice up ke.length uc] 68
  have hg7 := grownBy_setCell W7 ⟨w.heap.size, 0, none⟩ (.pointer (some ⟨w6.heap.size, 0, none⟩))
  obtain ⟨W8, H8, HG8⟩ : ∃ W8, Hid (W7.setCell ⟨w.heap.size, 0, none⟩ (.pointer (some ⟨w6.heap.size, 0, none⟩)) = W8) ∧ Hid (W7.grownBy W8 (some w.heap.size)) := ⟨_, rfl, hg7⟩
  have x2 := (X2.out.below B7.out X2.out.lt).set_same 0 (.pointer (some ⟨w6.heap.size, 0, none⟩))
  rw [H8.out] at x2
  have Y2 := hid_in x2
  have Y3 := hid_in ((X3.out.below B7.out X3.out.lt).grew (Grew.of_grown HG8.out) (fun e => by simp at e))
  have Y4 := hid_in ((X4.out.below B7.out X4.out.lt).grew (Grew.of_grown HG8.out) (fun e => by simp at e; omega))
  have hb7 : Below w.heap.size w W7 := hb6.trans (B7.out.mono hb6.size)
  have hb8 : Below w.heap.size w W8 := hb7.grown HG8.out hb7.size (fun k e => by cases e; exact Nat.le_refl _)
  have h51 : ∀ b cur, W7.heap[b]? = some (.cells cur 51 (0, 0)) → ¬ (some b = some w.heap.size) := fun b cur hb e => by
    cases e
    have hr := X2.out.below B7.out X2.out.lt
    unfold Row at hr
    rw [hr] at hb
    injection hb with hb
    injection hb with _ hb
    exact absurd hb (by decide)
  have HJV : Hid (JV W8 B w6.heap.size g v0 v1 d (.slice up ke.length uc) ⟨kv, kn, kb, ks, ke⟩) := hid_in ⟨HPW.out.below hb8, J7.out.grew (Grew.of_grown HG8.out) (fun e => by simp at e; omega), (HE6.out.below B7.out).keep (Grew.of_grown HG8.out) h51, by have h1 := HPW.out.base; have h2 := HPW.out.lt; omega, HOK.out, HMY.out⟩
  have HB8 := hid_in hb8
  have HN6 := hid_in hn6
  clear hb6 hn6 hg7 x2 hb7 hb8 h51
  refine wp_world (congrArg (fun x => World.setCell x _ _) H7.out) ?_
  refine wp_world H8.out ?_
  go_upto_region 10 with fail
  have a0 : W8.cell? ⟨w.heap.size, 0, none⟩ = some (.pointer (some ⟨w6.heap.size, 0, none⟩)) := Y2.out.cell 0; have fa0 := Y2.out.frozen 0; have z0 : W8.cell? ⟨w.heap.size + 1, 0, none⟩ = some (.int .i64 0) := Y3.out.cell 0; have fz0 := Y3.out.frozen 0; have z1 : W8.cell? ⟨w.heap.size + 1, 1, none⟩ = some (.int .i64 0) := Y3.out.cell 1; have fz1 := Y3.out.frozen 1; have z2 : W8.cell? ⟨w.heap.size + 1, 2, none⟩ = some (.int .i64 0) := Y3.out.cell 2; have fz2 := Y3.out.frozen 2; have z3 : W8.cell? ⟨w.heap.size + 1, 3, none⟩ = some (.string ⟨#[]⟩) := Y3.out.cell 3; have fz3 := Y3.out.frozen 3; have z4 : W8.cell? ⟨w.heap.size + 1, 4, none⟩ = some (.slice none 0 0) := Y3.out.cell 4; have fz4 := Y3.out.frozen 4; have e0 : W8.cell? ⟨w.heap.size + 1 + 1, 0, none⟩ = some (.int .i64 0) := Y4.out.cell 0; have fe0 := Y4.out.frozen 0
  have jr := HJV.out.row
  simp only [Kt.cells] at jr
  have q1 : W8.cell? ⟨w6.heap.size, 1, none⟩ = some (.int .i64 kv) := jr.cell 1
  have q2 : W8.cell? ⟨w6.heap.size, 2, none⟩ = some (.int .i64 kn) := jr.cell 2
  have q3 : W8.cell? ⟨w6.heap.size, 3, none⟩ = some (.int .i64 kb) := jr.cell 3
  have q4 : W8.cell? ⟨w6.heap.size, 4, none⟩ = some (.string ks) := jr.cell 4
  have q5 : W8.cell? ⟨w6.heap.size, 5, none⟩ = some (.slice up ke.length uc) := jr.cell 5
  have hbd0 : Below W8.heap.size W8 W8.drew := (Below.refl _ _).drew
  have HBD0 := hid_in hbd0
  have HLC := hid_in (HLO.out W8.drew _ _ _ _ (HJV.out.below hbd0) (HJV.out.below hbd0).et.val rfl)
  clear hbd0 jr
  first | go_region_with (first | (go_at_call 18; refine HLC.out.mono ?_; rintro e wc ⟨rfl, hst⟩; obtain ⟨t0, t1, vt, hJ9, hG9, hS9⟩ := JStp.ahead HBD0.out hst; have HJ9 := hid_in hJ9; have HG9 := hid_in hG9; have HS9 := hid_in hS9; have Z2 := hid_in (Y2.out.grew hG9 (HJV.out.typed Y2.out (by decide) (by decide) (by decide))); have Z3 := hid_in (Y3.out.grew hG9 (HJV.out.typed Y3.out (by decide) (by decide) (by decide))); have Z4 := hid_in (Y4.out.grew hG9 (HJV.out.typed Y4.out (by decide) (by decide) (by decide))); clear hst hJ9 hG9 hS9 q1 q2 q3 q4 q5 a0 fa0 z0 fz0 z1 fz1 z2 fz2 z3 fz3 z4 fz4 e0 fe0)) | fail
  all_goals
    go_upto_region 13 with fail
    have a0 : wc.cell? ⟨w.heap.size, 0, none⟩ = some (.pointer (some ⟨w6.heap.size, 0, none⟩)) := Z2.out.cell 0; have fa0 := Z2.out.frozen 0; have z0 : wc.cell? ⟨w.heap.size + 1, 0, none⟩ = some (.int .i64 0) := Z3.out.cell 0; have fz0 := Z3.out.frozen 0; have z1 : wc.cell? ⟨w.heap.size + 1, 1, none⟩ = some (.int .i64 0) := Z3.out.cell 1; have fz1 := Z3.out.frozen 1; have z2 : wc.cell? ⟨w.heap.size + 1, 2, none⟩ = some (.int .i64 0) := Z3.out.cell 2; have fz2 := Z3.out.frozen 2; have z3 : wc.cell? ⟨w.heap.size + 1, 3, none⟩ = some (.string ⟨#[]⟩) := Z3.out.cell 3; have fz3 := Z3.out.frozen 3; have z4 : wc.cell? ⟨w.heap.size + 1, 4, none⟩ = some (.slice none 0 0) := Z3.out.cell 4; have fz4 := Z3.out.frozen 4; have e0 : wc.cell? ⟨w.heap.size + 1 + 1, 0, none⟩ = some (.int .i64 0) := Z4.out.cell 0; have fe0 := Z4.out.frozen 0
    have hbd : Below wc.heap.size wc wc.drew := (Below.refl _ _).drew
    have HBD := hid_in hbd
    have HKC := hid_in (kept_c (HJ9.out.below hbd))
    simp only [Kt.val] at HKC
    clear hbd
    go_region_with (first | (go_at_call 12; refine HKC.out.mono ?_; rintro e w9 ⟨v, rfl, h1, h2⟩; obtain ⟨p9, c9, rfl⟩ := EO.form h1; have HB9 := hid_in (HBD.out.trans (h2.mono HBD.out.size)); have HE9 := hid_in (EO.et h1); have V2 := hid_in (Z2.out.below HB9.out Z2.out.lt); have V3 := hid_in (Z3.out.below HB9.out Z3.out.lt); have V4 := hid_in (Z4.out.below HB9.out Z4.out.lt); clear h1 h2 a0 fa0 z0 fz0 z1 fz1 z2 fz2 z3 fz3 z4 fz4 e0 fe0; have a0 : w9.cell? ⟨w.heap.size, 0, none⟩ = some (.pointer (some ⟨w6.heap.size, 0, none⟩)) := V2.out.cell 0; have fa0 := V2.out.frozen 0; have z0 : w9.cell? ⟨w.heap.size + 1, 0, none⟩ = some (.int .i64 0) := V3.out.cell 0; have fz0 := V3.out.frozen 0; have z1 : w9.cell? ⟨w.heap.size + 1, 1, none⟩ = some (.int .i64 0) := V3.out.cell 1; have fz1 := V3.out.frozen 1; have z2 : w9.cell? ⟨w.heap.size + 1, 2, none⟩ = some (.int .i64 0) := V3.out.cell 2; have fz2 := V3.out.frozen 2; have z3 : w9.cell? ⟨w.heap.size + 1, 3, none⟩ = some (.string ⟨#[]⟩) := V3.out.cell 3; have fz3 := V3.out.frozen 3; have z4 : w9.cell? ⟨w.heap.size + 1, 4, none⟩ = some (.slice none 0 0) := V3.out.cell 4; have fz4 := V3.out.frozen 4; have e0 : w9.cell? ⟨w.heap.size + 1 + 1, 0, none⟩ = some (.int .i64 0) := V4.out.cell 0; have fe0 := V4.out.frozen 0))
    all_goals go_wp2_with fail
    all_goals
      obtain ⟨W', H', X2', X3', X4', XG⟩ := set9 V2.out V3.out V4.out (.pointer (some ⟨w6.heap.size, 0, none⟩)) (.int .i64 kv) (.int .i64 kn) (.int .i64 kb) (.string ks) (.slice p9 ke.length c9) (.int .i64 0)
      have hn6 := HN6.out
      have hfs := HPW.out.fs_lt
      have h51 := no51_rows V2.out V3.out V4.out
      have hGA : Grew w wc (FS g v0 v1) := (Grew.of_below (FS g v0 v1) HB8.out).trans HG9.out (fun q hq hf => by
        rcases hf with rfl | hf
        · omega
        · exact hf)
      have hGB : Grew w w9 (FS g v0 v1) := hGA.trans (Grew.of_below (fun _ => False) HB9.out) (fun _ _ h => h.elim)
      have hGC : Grew w W' (FS g v0 v1) := hGB.trans XG.out (fun q hq hf => by exfalso; rcases hf with rfl | rfl | rfl <;> omega)
      refine open_door rfl rfl rfl rfl H'.out X2'.out X3'.out X4'.out ⟨w6.heap.size, vt, .slice p9 ke.length c9, t0, t1, rfl, (HJ9.out.below HB9.out).keep XG.out (fun b hb e => ?_) h51, HE9.out.keep XG.out h51, by omega, hGC, fun q hq => ?_⟩
      · rcases e with rfl | rfl | rfl
        · exact (HJ9.out.below HB9.out).typed V2.out (by decide) (by decide) (by decide) hb
        · exact (HJ9.out.below HB9.out).typed V3.out (by decide) (by decide) (by decide) hb
        · exact (HJ9.out.below HB9.out).typed V4.out (by decide) (by decide) (by decide) hb
      · rcases HS9.out q (.inr hq) with (rfl | h) | h
        · exact .inr (by omega)
        · exact .inl h
        · exact .inr (Nat.le_trans HB8.out.size h)
end Go.Proofs.Ytjjofjnhhajjjaa.Jr
namespace Go.Proofs.Ytjjofjnhhajjjaa.Jr
open Go.RowKit
open Nd (Row wp_world post_Row grownBy_setCell grownBy_trans below_of_grown u8v Grew Sl hid_in i64r bytesS str)
open Pt (Ar Dk PtV FS Sub Stp liv arOf setAr isA refE spendE spendD appE appD begE begD synD wipD fliD oth bytesOf cutAr cutN cutD armD)
/-- a record behind the others, the power going at the change number L -/
theorem beh_f (xs : List Nat) (a0 a1 : Ar) (L : Nat) : behE xs ⟨a0, a1, false, false, L⟩ = (if L = 1 ∨ L = 2 then 170 else 0) ∧ behD xs ⟨a0, a1, false, false, L⟩ = if L = 1 ∨ L = 2 then ⟨⟨a0.bs ++ xs, a0.sy⟩, a1, false, true, 0⟩ else ⟨⟨a0.bs ++ xs, (a0.bs ++ xs).length⟩, a1, false, false, L - 2⟩ := by
  rcases L with _ | _ | _ | L <;> simp [behE, behD, begE, begD, refE, appE, appD, synD, setAr, arOf, liv, isA, spendE, spendD]
theorem beh_t (xs : List Nat) (a0 a1 : Ar) (L : Nat) : behE xs ⟨a0, a1, true, false, L⟩ = (if L = 1 ∨ L = 2 then 170 else 0) ∧ behD xs ⟨a0, a1, true, false, L⟩ = if L = 1 ∨ L = 2 then ⟨a0, ⟨a1.bs ++ xs, a1.sy⟩, true, true, 0⟩ else ⟨a0, ⟨a1.bs ++ xs, (a1.bs ++ xs).length⟩, true, false, L - 2⟩ := by
  rcases L with _ | _ | _ | L <;> simp [behE, behD, begE, begD, refE, appE, appD, synD, setAr, arOf, liv, isA, spendE, spendD]
/-- all anew, the power going at the change number L -/
theorem anew_fL (xs : List Nat) (a0 a1 : Ar) (L : Nat) : anewR xs ⟨a0, a1, false, false, L⟩ = if L = 1 then (170, ⟨a0, a1, false, true, 0⟩) else if L = 2 ∨ L = 3 then (170, ⟨a0, ⟨xs, 0⟩, false, true, 0⟩) else if L = 4 then (170, ⟨a0, ⟨xs, xs.length⟩, false, true, 0⟩) else if L = 5 then (170, ⟨a0, ⟨xs, xs.length⟩, true, true, 0⟩) else (0, ⟨⟨[], 0⟩, ⟨xs, xs.length⟩, true, false, L - 5⟩) := by
  rcases L with _ | _ | _ | _ | _ | _ | L <;> simp [anewR, chg, begE, begD, refE, appE, appD, wipD, synD, fliD, setAr, arOf, oth, liv, isA, spendE, spendD]
theorem anew_tL (xs : List Nat) (a0 a1 : Ar) (L : Nat) : anewR xs ⟨a0, a1, true, false, L⟩ = if L = 1 then (170, ⟨a0, a1, true, true, 0⟩) else if L = 2 ∨ L = 3 then (170, ⟨⟨xs, 0⟩, a1, true, true, 0⟩) else if L = 4 then (170, ⟨⟨xs, xs.length⟩, a1, true, true, 0⟩) else if L = 5 then (170, ⟨⟨xs, xs.length⟩, a1, false, true, 0⟩) else (0, ⟨⟨xs, xs.length⟩, ⟨[], 0⟩, false, false, L - 5⟩) := by
  rcases L with _ | _ | _ | _ | _ | _ | L <;> simp [anewR, chg, begE, begD, refE, appE, appD, wipD, synD, fliD, setAr, arOf, oth, liv, isA, spendE, spendD]
end Go.Proofs.Ytjjofjnhhajjjaa.Jr
namespace Go.Proofs.Ytjjofjnhhajjjaa.Jr
open Go.RowKit
open Nd (Row wp_world post_Row grownBy_setCell grownBy_trans below_of_grown u8v Grew Sl hid_in i64r bytesS str)
open Pt (Ar Dk PtV FS Sub Stp liv arOf setAr isA refE spendE spendD appE appD begE begD synD wipD fliD oth bytesOf cutAr cutN cutD armD)
/-- the live area -/
def lva (d : Dk) : Ar := arOf (liv d.live) d
/-- a sound platter whose live area is all synced -/
structure JS (d : Dk) (rs : List Rc) (k : Kt) : Prop where
  jd : JD d rs k
  sy : (lva d).sy = (lva d).bs.length
/-- what the live area has wherever the power went: frames of records, the last of them perhaps not synced -/
def Lv (d : Dk) (P : Kt → Prop) : Prop :=
  (∃ rs k, (lva d).bs = Nd.Wire.frames (rs.map payS) ∧ (lva d).sy = (lva d).bs.length ∧ (∀ r ∈ rs, Rd r) ∧ foldA rs zeroK = some k ∧ P k) ∨
  (∃ rs r k n, (lva d).bs = Nd.Wire.frames ((rs ++ [r]).map payS) ∧ (Nd.Wire.frames (rs.map payS)).length ≤ (lva d).sy ∧ (∀ x ∈ rs ++ [r], Rd x) ∧ foldA rs zeroK = some k ∧ foldS r k = some n ∧ P k ∧ P n)
theorem JS.lv {d : Dk} {rs : List Rc} {k : Kt} {P : Kt → Prop} (h : JS d rs k) (hp : P k) : Lv d P := .inl ⟨rs, k, h.jd.bytes, h.sy, h.jd.rd, h.jd.fold, hp⟩
theorem lva_cut (ks : List Int) (d : Dk) : ∃ k, lva (cutD ks d) = cutAr k (lva d) ∧ (cutD ks d).live = d.live ∧ (cutD ks d).down = false ∧ (cutD ks d).left = 0 := by
  obtain ⟨a0, a1, b, dn, l⟩ := d
  cases b
  · exact ⟨_, rfl, rfl, rfl, rfl⟩
  · exact ⟨_, rfl, rfl, rfl, rfl⟩
theorem upto_len (ps : List (List Nat)) : Nd.Wire.upto ps ps.length = (Nd.Wire.frames ps).length := by unfold Nd.Wire.upto; rw [List.take_length]
theorem upto_snoc (ps : List (List Nat)) (p : List Nat) : Nd.Wire.upto (ps ++ [p]) ps.length = (Nd.Wire.frames ps).length := by unfold Nd.Wire.upto; rw [List.take_append_of_le_length (Nat.le_refl _), List.take_length]
/-- behind a cut: whole frames, and perhaps a torn one -/
theorem Lv.cut {d : Dk} {P : Kt → Prop} (h : Lv d P) (hsy : (lva d).sy ≤ (lva d).bs.length) (ks : List Int) (hb : ∀ x ∈ (lva d).bs, x < 256) : ∃ rs k n, (∀ r ∈ rs, Rd r) ∧ foldA rs zeroK = some k ∧ P k ∧ Nd.Wire.scan (lva (cutD ks d)).bs = (rs.map payS, n) ∧ n ≤ (lva (cutD ks d)).bs.length ∧ (lva (cutD ks d)).sy = (lva (cutD ks d)).bs.length ∧ (n = (lva (cutD ks d)).bs.length → (lva (cutD ks d)).bs = Nd.Wire.frames (rs.map payS)) := by
  obtain ⟨kk, hc, -⟩ := lva_cut ks d
  rw [hc]
  have hpok : ∀ rs : List Rc, (∀ r ∈ rs, Rd r) → (lva d).bs = Nd.Wire.frames (rs.map payS) → ∀ p ∈ rs.map payS, p.length ≤ 262144 ∧ ∀ x ∈ p, x < 256 := by
    intro rs hrd hbs p hp
    obtain ⟨r, hr, rfl⟩ := List.mem_map.1 hp
    refine ⟨payS_len r (hrd r hr).pay, fun x hx => hb x ?_⟩
    rw [hbs]
    refine List.mem_flatMap.2 ⟨payS r, hp, ?_⟩
    unfold Nd.Wire.frame
    exact List.mem_append_left _ (List.mem_append_right _ hx)
  rcases h with ⟨rs, k, h1, h2, h3, h4, h5⟩ | ⟨rs, r, k, n, h1, h2, h3, h4, h5, h6, h7⟩
  · have hcn : cutN kk (lva d) = (lva d).bs.length := by unfold cutN; omega
    have hs := Nd.Wire.scan_cut (rs.map payS) (lva d).bs.length (rs.map payS).length (hpok rs h3 h1) (Nat.le_refl _) (by rw [upto_len, h1]; exact Nat.le_refl _) (fun h => absurd h (Nat.lt_irrefl _))
    rw [List.take_length, ← h1, List.take_length, upto_len, ← h1] at hs
    refine ⟨rs, k, (lva d).bs.length, h3, h4, h5, ?_, ?_, ?_, fun _ => ?_⟩
    · show Nd.Wire.scan ((lva d).bs.take (cutN kk (lva d))) = _
      rw [hcn, List.take_length]
      exact hs
    · show _ ≤ ((lva d).bs.take (cutN kk (lva d))).length
      rw [hcn, List.take_length]
      exact Nat.le_refl _
    · show cutN kk (lva d) = ((lva d).bs.take (cutN kk (lva d))).length
      rw [hcn, List.take_length]
    · show (lva d).bs.take (cutN kk (lva d)) = _
      rw [hcn, List.take_length]
      exact h1
  · have hge : (Nd.Wire.frames (rs.map payS)).length ≤ cutN kk (lva d) := by unfold cutN; omega
    by_cases hw : (lva d).bs.length ≤ cutN kk (lva d)
    · have hs := Nd.Wire.scan_cut ((rs ++ [r]).map payS) (lva d).bs.length ((rs ++ [r]).map payS).length (hpok _ h3 h1) (Nat.le_refl _) (by rw [upto_len, h1]; exact Nat.le_refl _) (fun h => absurd h (Nat.lt_irrefl _))
      rw [List.take_length, ← h1, List.take_length, upto_len, ← h1] at hs
      have ht : (lva d).bs.take (cutN kk (lva d)) = (lva d).bs := List.take_of_length_le hw
      refine ⟨rs ++ [r], n, (lva d).bs.length, h3, by rw [foldA_app rs r zeroK k h4]; exact h5, h7, ?_, ?_, ?_, fun _ => ?_⟩
      · show Nd.Wire.scan ((lva d).bs.take (cutN kk (lva d))) = _
        rw [ht]
        exact hs
      · show _ ≤ ((lva d).bs.take (cutN kk (lva d))).length
        rw [ht]
        exact Nat.le_refl _
      · show cutN kk (lva d) = ((lva d).bs.take (cutN kk (lva d))).length
        rw [ht]
        unfold cutN at hw ⊢
        omega
      · show (lva d).bs.take (cutN kk (lva d)) = _
        rw [ht]
        exact h1
    · have hlen : ((lva d).bs.take (cutN kk (lva d))).length = cutN kk (lva d) := by rw [List.length_take]; omega
      have hml : (rs.map payS).length ≤ ((rs ++ [r]).map payS).length := by simp
      have hu : Nd.Wire.upto ((rs ++ [r]).map payS) (rs.map payS).length = (Nd.Wire.frames (rs.map payS)).length := by
        rw [List.map_append]
        exact upto_snoc _ _
      have hu2 : Nd.Wire.upto ((rs ++ [r]).map payS) ((rs.map payS).length + 1) = (lva d).bs.length := by
        have e : (rs.map payS).length + 1 = ((rs ++ [r]).map payS).length := by simp
        rw [e, upto_len, ← h1]
      have hs := Nd.Wire.scan_cut ((rs ++ [r]).map payS) (cutN kk (lva d)) (rs.map payS).length (hpok _ h3 h1) hml (by rw [hu]; exact hge) (fun _ => by rw [hu2]; omega)
      have htk : ((rs ++ [r]).map payS).take (rs.map payS).length = rs.map payS := by rw [List.map_append, List.take_append_of_le_length (Nat.le_refl _), List.take_length]
      rw [htk, hu, ← h1] at hs
      refine ⟨rs, k, (Nd.Wire.frames (rs.map payS)).length, fun x hx => h3 x (List.mem_append_left _ hx), h4, h6, hs, ?_, ?_, fun hn => ?_⟩
      · show _ ≤ ((lva d).bs.take (cutN kk (lva d))).length
        rw [hlen]
        exact hge
      · show cutN kk (lva d) = ((lva d).bs.take (cutN kk (lva d))).length
        rw [hlen]
      · have hn' : (Nd.Wire.frames (rs.map payS)).length = ((lva d).bs.take (cutN kk (lva d))).length := hn
        rw [hlen] at hn'
        show (lva d).bs.take (cutN kk (lva d)) = _
        rw [← hn', h1, List.map_append]
        have e : Nd.Wire.frames (rs.map payS ++ [r].map payS) = Nd.Wire.frames (rs.map payS) ++ Nd.Wire.frames ([r].map payS) := by simp [Nd.Wire.frames]
        rw [e, List.take_append_of_le_length (Nat.le_refl _), List.take_length]
end Go.Proofs.Ytjjofjnhhajjjaa.Jr
