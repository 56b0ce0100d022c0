/-
  keep: a record is brought to the platter (function 36), and what it makes is kept. fold, whatever the kind.
-/
import Derived.Laws.Tables
import Derived.OwnWalk
import Derived.Lib.SlBytesConst
import Derived.Deep.RegionLaw
import Derived.Deep.CutRange
import Derived.Laws.CopyOwn
import Derived.Deep.DrawnRows
import Derived.Laws.StructEq
import Derived.Test.YtjjofjnhhajjjaaC00
import Derived.Test.YtjjofjnhhajjjaaC01
import Derived.Test.YtjjofjnhhajjjaaC02
import Derived.Test.YtjjofjnhhajjjaaC03
import Derived.Test.YtjjofjnhhajjjaaC04
import Derived.Test.YtjjofjnhhajjjaaC05
import Derived.Test.YtjjofjnhhajjjaaC06
import Derived.Test.YtjjofjnhhajjjaaC07
import Derived.Test.YtjjofjnhhajjjaaC08
import Derived.Test.YtjjofjnhhajjjaaC09
import Derived.Test.YtjjofjnhhajjjaaC10
import Derived.Test.YtjjofjnhhajjjaaC11
import Derived.Test.YtjjofjnhhajjjaaC12
import Derived.Test.YtjjofjnhhajjjaaC13
import Derived.Test.YtjjofjnhhajjjaaC14
import Derived.Test.YtjjofjnhhajjjaaC15
import Derived.Test.YtjjofjnhhajjjaaC16
import Derived.Test.YtjjofjnhhajjjaaC17
import Derived.Test.YtjjofjnhhajjjaaC18
import Derived.Test.YtjjofjnhhajjjaaC19
import Derived.Test.YtjjofjnhhajjjaaC20
import Derived.Test.YtjjofjnhhajjjaaC21
import Derived.Test.YtjjofjnhhajjjaaC22
import Derived.Test.YtjjofjnhhajjjaaC23
import Derived.Test.YtjjofjnhhajjjaaC24
namespace Go.Proofs.Ytjjofjnhhajjjaa.Jr
open Go.RowKit
open Nd (Row wp_world post_Row grownBy_setCell grownBy_trans below_of_grown u8v Grew Sl hid_in i64r bytesS str)
open Pt (Dk PtV FS Sub Stp liv arOf appE appD begE begD synD wipD fliD oth)
set_option maxHeartbeats 20000000 in
set_option maxRecDepth 100000 in
theorem keep_36 {w : World} {B j g : Nat} {v0 v1 ve : Value} {d : Dk} {k : Kt} (hJ : JV w B j g v0 v1 d ve k) (r : Rc) (vr : Value) (hr : Es w vr r.told.ents)
    (hF : ∀ W, Below w.heap.size w W → Calls Try.prog 44 #[r.val vr, k.val ve] W fun e w' => Mk W w' W.heap.size ve (foldS r k) e)
    (hP : ∀ n, foldS r k = some n → PayOk r ∧ n.ok ∧ may n = true) (hl : ∀ n, foldS r k = some n → (arOf (oth d) (wipD (oth d) d)).bs.length + (Nd.Wire.frame (payS r)).length ≤ 140737488355328) :
    Calls Try.prog 35 #[.pointer (some ⟨j, 0, none⟩), r.val vr, .func (.func 36) #[.pointer (some ⟨j, 0, none⟩)] #[]] w (KeepR w B j g v0 v1 ve d k (foldS r k) ((anewR (Nd.Wire.frame (payS r)) d).1) ((anewR (Nd.Wire.frame (payS r)) d).2)) := by
  have HFR := hid_in (fun W (hb : Below w.heap.size w W) (hp : PayOk r) => frame_any r vr W hp (hr.below hb))
  have HPP := hid_in hP
  obtain ⟨o, HO⟩ : ∃ o, Hid (foldS r k = o) := ⟨_, hid_in rfl⟩
  rw [HO.out] at hF HPP hl ⊢
  obtain ⟨xs, HXS⟩ : ∃ xs, Hid (Nd.Wire.frame (payS r) = xs) := ⟨_, hid_in rfl⟩
  rw [HXS.out] at HFR hl ⊢
  have HLL := hid_in hl
  have HJ := hid_in hJ
  obtain ⟨kd, fr, ⟨tv, tn, tb, ts, te⟩⟩ := r
  obtain ⟨kv, kn, kb, ks, ke⟩ := k
  obtain ⟨kp, kc, rfl, _, _⟩ := hJ.et.val.form
  obtain ⟨rp, rc, rfl, _, _⟩ := hr.form
  simp only [Rc.val, Kt.val] at hF HFR ⊢
  obtain ⟨W1, H1, R1, B1, S1⟩ := row_new w [.int .i64 kd, .int .i64 fr, .int .i64 tv, .int .i64 tn, .int .i64 tb, .string ts, .slice rp te.length rc] 77
  have HM := hid_in hF
  have HJ1 := hid_in (hJ.row.below B1.out hJ.row.lt)
  simp only [Kt.cells] at HJ1
  have hjl := hJ.row.lt
  have hs1 : W1.heap.size = w.heap.size + 1 := S1.out
  have ha0 : ¬ w.heap.size = W1.heap.size := by omega
  have ha1 : ¬ j = W1.heap.size := by omega
  obtain ⟨E, HE⟩ : ∃ E, Hid ((anewR xs d).1 = E) := ⟨_, hid_in rfl⟩
  obtain ⟨D, HD⟩ : ∃ D, Hid ((anewR xs d).2 = D) := ⟨_, hid_in rfl⟩
  rw [HE.out, HD.out]
  clear hF hP hl hr hJ hs1 hjl
  have r0 : W1.cell? ⟨w.heap.size, 0, none⟩ = some (.int .i64 kd) := R1.out.cell 0
  have r1 : W1.cell? ⟨w.heap.size, 1, none⟩ = some (.int .i64 fr) := R1.out.cell 1
  have r2 : W1.cell? ⟨w.heap.size, 2, none⟩ = some (.int .i64 tv) := R1.out.cell 2
  have r3 : W1.cell? ⟨w.heap.size, 3, none⟩ = some (.int .i64 tn) := R1.out.cell 3
  have r4 : W1.cell? ⟨w.heap.size, 4, none⟩ = some (.int .i64 tb) := R1.out.cell 4
  have r5 : W1.cell? ⟨w.heap.size, 5, none⟩ = some (.string ts) := R1.out.cell 5
  have r6 : W1.cell? ⟨w.heap.size, 6, none⟩ = some (.slice rp te.length rc) := R1.out.cell 6
  have c0 : W1.cell? ⟨j, 0, none⟩ = some (.pointer (some ⟨g, 0, none⟩)) := HJ1.out.cell 0
  have k0 : W1.cell? ⟨j, 1, none⟩ = some (.int .i64 kv) := HJ1.out.cell 1
  have k1 : W1.cell? ⟨j, 2, none⟩ = some (.int .i64 kn) := HJ1.out.cell 2
  have k2 : W1.cell? ⟨j, 3, none⟩ = some (.int .i64 kb) := HJ1.out.cell 3
  have k3 : W1.cell? ⟨j, 4, none⟩ = some (.string ks) := HJ1.out.cell 4
  have k4 : W1.cell? ⟨j, 5, none⟩ = some (.slice kp ke.length kc) := HJ1.out.cell 5
  go_enter Try.func35, Try.ntmps35
  go_upto_region 1 with fail
  refine wp_world H1.out ?_
  go_upto_region 3 with fail
  go_cut [7, 8] from 12 to 20 (fun p q W => Fk w W (.slice kp ke.length kc) o p q ∧ Hid (Row W w.heap.size [.int .i64 kd, .int .i64 fr, .int .i64 tv, .int .i64 tn, .int .i64 tb, .string ts, .slice rp te.length rc] 77))
  case first =>
    have HM5 := hid_in (HM.out W1.drew B1.out.drew)
    have hbx : Below W1.heap.size W1 (W1.alloc (.cells #[.int .i64 0, .int .i64 0, .int .i64 0, .string ⟨#[]⟩, .slice none 0 0] 30)).drew := ((Below.refl _ _).alloc (Nat.le_refl _) _).drew
    have HBX := hid_in hbx
    have HQX : Hid (Row (W1.alloc (.cells #[.int .i64 0, .int .i64 0, .int .i64 0, .string ⟨#[]⟩, .slice none 0 0] 30)).drew W1.heap.size zcells 30) := row_drewJ (Row.new W1 zcells 30)
    have HMX := hid_in (HM.out _ (B1.out.trans (hbx.mono B1.out.size)))
    have HSX : Hid (W1.heap.size < (W1.alloc (.cells #[.int .i64 0, .int .i64 0, .int .i64 0, .string ⟨#[]⟩, .slice none 0 0] 30)).drew.heap.size) := HQX.out.lt
    clear hbx
    have hby : Below W1.heap.size W1 (W1.alloc (.cells #[.int .i64 0, .int .i64 0, .int .i64 0, .string ⟨#[]⟩, .slice none 0 0] 30)) := (Below.refl _ _).alloc (Nat.le_refl _) _
    have x0 : (W1.alloc (.cells #[.int .i64 0, .int .i64 0, .int .i64 0, .string ⟨#[]⟩, .slice none 0 0] 30)).cell? ⟨w.heap.size, 0, none⟩ = some (.int .i64 kd) := (R1.out.below hby R1.out.lt).cell 0
    have x1 : (W1.alloc (.cells #[.int .i64 0, .int .i64 0, .int .i64 0, .string ⟨#[]⟩, .slice none 0 0] 30)).cell? ⟨w.heap.size, 1, none⟩ = some (.int .i64 fr) := (R1.out.below hby R1.out.lt).cell 1
    have x2 : (W1.alloc (.cells #[.int .i64 0, .int .i64 0, .int .i64 0, .string ⟨#[]⟩, .slice none 0 0] 30)).cell? ⟨w.heap.size, 2, none⟩ = some (.int .i64 tv) := (R1.out.below hby R1.out.lt).cell 2
    have x3 : (W1.alloc (.cells #[.int .i64 0, .int .i64 0, .int .i64 0, .string ⟨#[]⟩, .slice none 0 0] 30)).cell? ⟨w.heap.size, 3, none⟩ = some (.int .i64 tn) := (R1.out.below hby R1.out.lt).cell 3
    have x4 : (W1.alloc (.cells #[.int .i64 0, .int .i64 0, .int .i64 0, .string ⟨#[]⟩, .slice none 0 0] 30)).cell? ⟨w.heap.size, 4, none⟩ = some (.int .i64 tb) := (R1.out.below hby R1.out.lt).cell 4
    have x5 : (W1.alloc (.cells #[.int .i64 0, .int .i64 0, .int .i64 0, .string ⟨#[]⟩, .slice none 0 0] 30)).cell? ⟨w.heap.size, 5, none⟩ = some (.string ts) := (R1.out.below hby R1.out.lt).cell 5
    have x6 : (W1.alloc (.cells #[.int .i64 0, .int .i64 0, .int .i64 0, .string ⟨#[]⟩, .slice none 0 0] 30)).cell? ⟨w.heap.size, 6, none⟩ = some (.slice rp te.length rc) := (R1.out.below hby R1.out.lt).cell 6
    have y0 : (W1.alloc (.cells #[.int .i64 0, .int .i64 0, .int .i64 0, .string ⟨#[]⟩, .slice none 0 0] 30)).cell? ⟨j, 1, none⟩ = some (.int .i64 kv) := (HJ1.out.below hby HJ1.out.lt).cell 1
    have y1 : (W1.alloc (.cells #[.int .i64 0, .int .i64 0, .int .i64 0, .string ⟨#[]⟩, .slice none 0 0] 30)).cell? ⟨j, 2, none⟩ = some (.int .i64 kn) := (HJ1.out.below hby HJ1.out.lt).cell 2
    have y2 : (W1.alloc (.cells #[.int .i64 0, .int .i64 0, .int .i64 0, .string ⟨#[]⟩, .slice none 0 0] 30)).cell? ⟨j, 3, none⟩ = some (.int .i64 kb) := (HJ1.out.below hby HJ1.out.lt).cell 3
    have y3 : (W1.alloc (.cells #[.int .i64 0, .int .i64 0, .int .i64 0, .string ⟨#[]⟩, .slice none 0 0] 30)).cell? ⟨j, 4, none⟩ = some (.string ks) := (HJ1.out.below hby HJ1.out.lt).cell 4
    have y4 : (W1.alloc (.cells #[.int .i64 0, .int .i64 0, .int .i64 0, .string ⟨#[]⟩, .slice none 0 0] 30)).cell? ⟨j, 5, none⟩ = some (.slice kp ke.length kc) := (HJ1.out.below hby HJ1.out.lt).cell 5
    clear hby
    go_region_with (first | (go_at_call 44; refine HM5.out.mono ?_; intro e w6 hmk; obtain ⟨hb, nv, nn, nb, ns, p, l, c, q, rfl, hm⟩ := hmk.form; have HB6 := hid_in (((Below.refl _ _).drew).trans (hb.mono (Nat.le_refl _))); have HM6 := hid_in hm; have HQ6 := hid_in trivial; clear hmk hb hm) | (go_at_call 44; refine HMX.out.mono ?_; intro e w6 hmk; obtain ⟨hb, nv, nn, nb, ns, p, l, c, q, rfl, hm⟩ := hmk.form; have HB6 := hid_in (HBX.out.trans (hb.mono HBX.out.size)); have HM6 := hid_in hm; have HQ6 := hid_in (HQX.out.below hb HQX.out.lt); clear hmk hb hm; have q0 : w6.cell? ⟨W1.heap.size, 0, none⟩ = some (.int .i64 0) := HQ6.out.cell 0; have fq0 := HQ6.out.frozen 0; have q1 : w6.cell? ⟨W1.heap.size, 1, none⟩ = some (.int .i64 0) := HQ6.out.cell 1; have fq1 := HQ6.out.frozen 1; have q2 : w6.cell? ⟨W1.heap.size, 2, none⟩ = some (.int .i64 0) := HQ6.out.cell 2; have fq2 := HQ6.out.frozen 2; have q3 : w6.cell? ⟨W1.heap.size, 3, none⟩ = some (.string ⟨#[]⟩) := HQ6.out.cell 3; have fq3 := HQ6.out.frozen 3; have q4 : w6.cell? ⟨W1.heap.size, 4, none⟩ = some (.slice none 0 0) := HQ6.out.cell 4; have fq4 := HQ6.out.frozen 4))
    all_goals go_wp2_with fail
    all_goals go_meet
    all_goals have hb6 := B1.out.trans (HB6.out.mono B1.out.size)
    all_goals first
      | (with_reducible refine ⟨fk_new ?_ HJ.out.et ?_ HM6.out, ?_⟩
         · exact hb6
         · exact B1.out.size
         · exact (R1.out.below HB6.out R1.out.lt).alloc _)
      | (with_reducible refine ⟨fk_old ?_ HJ.out.et ?_ HQ6.out HSX.out HM6.out, ?_⟩
         · exact hb6
         · have := S1.out; omega
         · exact (R1.out.below HB6.out R1.out.lt).grew (Grew.of_grown (set5 HQ6.out _ _ _ _ _).2) (fun e => by have := S1.out; simp at e; omega))
  case rest =>
    obtain ⟨⟨HBC, hcase⟩, HRC⟩ := hcut
    clear r0 r1 r2 r3 r4 r5 r6 c0 k0 k1 k2 k3 k4 ha0 ha1 HM
    have HJC := hid_in (HJ.out.below HBC.out)
    rcases hcase with ⟨rfl, rfl⟩ | ⟨⟨nv, nn, nb, ns, ne⟩, v, b, rfl, rfl, rfl, HBL, HRN, HEN, HVB⟩
    · go_wp2
      go_ret
      exact .inl ⟨rfl, rfl, JStpV.of_below HJ.out HBC.out⟩
    · obtain ⟨hpay, hnok, hnmay⟩ := HPP.out _ rfl
      have HNOK := hid_in hnok
      have HNM := hid_in hnmay
      have HFC := hid_in (HFR.out wc HBC.out hpay)
      obtain ⟨p, c, rfl, _, _⟩ := HEN.out.val.form
      simp only [Kt.cells] at HRN
      simp only at HEN
      clear hpay hnok hnmay HFR HPP
      have r0 : wc.cell? ⟨w.heap.size, 0, none⟩ = some (.int .i64 kd) := HRC.out.cell 0
      have r1 : wc.cell? ⟨w.heap.size, 1, none⟩ = some (.int .i64 fr) := HRC.out.cell 1
      have r2 : wc.cell? ⟨w.heap.size, 2, none⟩ = some (.int .i64 tv) := HRC.out.cell 2
      have r3 : wc.cell? ⟨w.heap.size, 3, none⟩ = some (.int .i64 tn) := HRC.out.cell 3
      have r4 : wc.cell? ⟨w.heap.size, 4, none⟩ = some (.int .i64 tb) := HRC.out.cell 4
      have r5 : wc.cell? ⟨w.heap.size, 5, none⟩ = some (.string ts) := HRC.out.cell 5
      have r6 : wc.cell? ⟨w.heap.size, 6, none⟩ = some (.slice rp te.length rc) := HRC.out.cell 6
      have HNJ : Hid (¬ b = j) := hid_in (by have h1 := HBL.out; have h2 := HJ.out.row.lt; omega)
      go_upto_region 7 with (first | (go_at_call 47; refine HFC.out.mono ?_; rintro e w7 ⟨u, rfl, h1, h2, h3⟩; obtain ⟨p2, c2, b2, rfl, hsl, hno⟩ := Nd.own_sl h3 h1; have HSL := hid_in hsl; have HNO := hid_in hno; have HB7 := hid_in h2; have HFL : Hid (0 < xs.length → wc.heap.size ≤ b2) := (fun h0 => by have e2 := World.ownsRow.lt h1 b2 (by rw [hsl.at_ h0]; rfl); exact e2.1); have HPT0 := hid_in HJC.out.pt; have HJ7 := hid_in (HJC.out.below h2); have HPT := hid_in HJ7.out.pt; have HJR := hid_in HJ7.out.row; have HBR := hid_in (anew_any HPT.out HJR.out p2 xs c2 b2 0 HSL.out HNO.out (fun h0 hfs => by have h9 := (HPT0.out.fs_lt b2 hfs).2; have h8 := HFL.out h0; omega) (HLL.out _ rfl)); rw [HE.out, HD.out] at HBR; have HR7 := hid_in (HRN.out.below h2 HRN.out.lt); have HE7 := hid_in (HEN.out.below h2); clear h1 h2 h3 hsl hno) | (go_at_call 36; refine HBR.out.mono ?_; rintro e w8 ⟨rfl, hs⟩; have HS8 := hid_in hs; clear hs))
      have HJS8 := hid_in (JStpV.of_stp HJ7.out HS8.out)
      have HR8 := hid_in (HS8.out.row HPT.out HR7.out (by decide) (by decide))
      have HE8 := hid_in (HE7.out.keep HS8.out.grew (fun b cur hb => no51 HPT.out hb))
      by_cases hE : E = 0
      · obtain ⟨y0, y1, yv, hJ8, hG8, hS8, hV8⟩ := HJS8.out
        have HV8 := hid_in hV8
        have HJ8 := hid_in hJ8
        have hrow := hJ8.row
        obtain ⟨yp, yc, rfl, _, _⟩ := hJ8.et.val.form
        simp only [Kt.cells] at hrow
        have j0 : w8.cell? ⟨j, 1, none⟩ = some (.int .i64 kv) := hrow.cell 1
        have f0 := hrow.frozen 1
        have j1 : w8.cell? ⟨j, 2, none⟩ = some (.int .i64 kn) := hrow.cell 2
        have f1 := hrow.frozen 2
        have j2 : w8.cell? ⟨j, 3, none⟩ = some (.int .i64 kb) := hrow.cell 3
        have f2 := hrow.frozen 3
        have j3 : w8.cell? ⟨j, 4, none⟩ = some (.string ks) := hrow.cell 4
        have f3 := hrow.frozen 4
        have j4 : w8.cell? ⟨j, 5, none⟩ = some (.slice yp ke.length yc) := hrow.cell 5
        have f4 := hrow.frozen 5
        have l0 : w8.cell? ⟨b, 0, none⟩ = some (.int .i64 nv) := HR8.out.cell 0
        have l1 : w8.cell? ⟨b, 1, none⟩ = some (.int .i64 nn) := HR8.out.cell 1
        have l2 : w8.cell? ⟨b, 2, none⟩ = some (.int .i64 nb) := HR8.out.cell 2
        have l3 : w8.cell? ⟨b, 3, none⟩ = some (.string ns) := HR8.out.cell 3
        have l4 : w8.cell? ⟨b, 4, none⟩ = some (.slice p ne.length c) := HR8.out.cell 4
        have HG8 := hid_in hG8
        have HSS := hid_in hS8
        have HBJ := hid_in (show ¬ b = j from HNJ.out)
        have hbj : ¬ b = j := HBJ.out
        clear hrow hJ8 hG8 hS8 hV8
        subst hE
        go_wp2
        go_ret
        obtain ⟨p0, p1, hj, hg, hs⟩ := JStp.putV (v := .slice p ne.length c) (n := ⟨nv, nn, nb, ns, ne⟩) HJ8.out HE8.out HNOK.out HNM.out
        have hst := JStpV.trans HG8.out HSS.out (.inl rfl) (ve := .slice p ne.length c) ⟨p0, p1, .slice p ne.length c, hj, hg, hs, .inl rfl⟩
        obtain ⟨q0, q1, qv, k1, k2, k3, k4⟩ := JStpV.ahead (HBC.out.trans (HB7.out.mono HBC.out.size)) hst
        refine .inr ⟨_, rfl, rfl, q0, q1, qv, k1, k2, k3, ?_⟩
        rcases k4 with rfl | k4
        · exact HVB.out
        · exact .inr k4
      · go_wp2
        go_ret
        refine .inr ⟨_, rfl, rfl, ?_⟩
        rw [if_neg hE]
        exact JStpV.ahead (HBC.out.trans (HB7.out.mono HBC.out.size)) HJS8.out
end Go.Proofs.Ytjjofjnhhajjjaa.Jr
namespace Go.Proofs.Ytjjofjnhhajjjaa.Jr
open Go.RowKit
open Nd (Row wp_world post_Row grownBy_setCell grownBy_trans below_of_grown u8v Grew Sl hid_in i64r bytesS str)
theorem fold_any (r : Rc) (k : Kt) (vr vk : Value) (w : World) (hr : Es w vr r.told.ents) (hk : Es w vk k.ents) (hro : r.ok) (hko : k.ok) (hm : may k = true) (hl : r.told.ents.length ≤ 100000000) :
    Calls Try.prog 44 #[r.val vr, k.val vk] w fun e w' => Mk w w' w.heap.size vk (foldS r k) e := by
  have hmk := (may_iff k).1 hm
  have hkf := hmk.few
  have hn : ∀ n, nextS r k = some n → n.ok := fun n h => nextS_ok hro hko (by omega) (by omega) h
  have hkind := hro.kind
  obtain ⟨kd, fr, ⟨tv, tn, tb, ts, te⟩⟩ := r
  simp only at hr hl hkind
  rcases hkind with rfl | rfl | rfl | rfl
  · exact fold_k1 fr tv tn tb ts te k vr vk w hr hk (fun W hb => rise_any ⟨1, fr, ⟨tv, tn, tb, ts, te⟩⟩ k vr vk W (hk.below hb)) hn
  · exact fold_k2 fr tv tn tb ts te k vr vk w hr hk (fun W hb => add_any ⟨2, fr, ⟨tv, tn, tb, ts, te⟩⟩ k vr vk W (hk.below hb) (hr.below hb) (by simp only; omega)) hn
  · exact fold_k3 fr tv tn tb ts te k vr vk w hr hk (fun W hb => adopt_any ⟨3, fr, ⟨tv, tn, tb, ts, te⟩⟩ k vr vk W (hk.below hb) (hr.below hb) hmk hro hl) hn
  · exact fold_k4 fr tv tn tb ts te k vr vk w hr hk (fun W hb => replace_any ⟨4, fr, ⟨tv, tn, tb, ts, te⟩⟩ k vr vk W (hr.below hb) (by simp only; omega)) hn
end Go.Proofs.Ytjjofjnhhajjjaa.Jr
