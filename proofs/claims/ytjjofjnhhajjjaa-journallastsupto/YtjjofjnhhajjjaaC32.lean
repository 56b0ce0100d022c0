/-
  recall: one payload more is folded into what is kept.
-/
import Derived.Laws.Tables
import Derived.OwnWalk
import Derived.Lib.SlBytesConst
import Derived.Deep.RegionLaw
import Derived.Deep.CutRange
import Derived.Laws.CopyOwn
import Derived.Deep.DrawnRows
import Derived.Laws.StructEq
import Derived.Test.YtjjofjnhhajjjaaC00
import Derived.Test.YtjjofjnhhajjjaaC01
import Derived.Test.YtjjofjnhhajjjaaC02
import Derived.Test.YtjjofjnhhajjjaaC03
import Derived.Test.YtjjofjnhhajjjaaC04
import Derived.Test.YtjjofjnhhajjjaaC05
import Derived.Test.YtjjofjnhhajjjaaC06
import Derived.Test.YtjjofjnhhajjjaaC07
import Derived.Test.YtjjofjnhhajjjaaC08
import Derived.Test.YtjjofjnhhajjjaaC09
import Derived.Test.YtjjofjnhhajjjaaC10
import Derived.Test.YtjjofjnhhajjjaaC11
import Derived.Test.YtjjofjnhhajjjaaC12
import Derived.Test.YtjjofjnhhajjjaaC13
import Derived.Test.YtjjofjnhhajjjaaC14
import Derived.Test.YtjjofjnhhajjjaaC15
import Derived.Test.YtjjofjnhhajjjaaC16
import Derived.Test.YtjjofjnhhajjjaaC17
import Derived.Test.YtjjofjnhhajjjaaC18
import Derived.Test.YtjjofjnhhajjjaaC19
import Derived.Test.YtjjofjnhhajjjaaC20
import Derived.Test.YtjjofjnhhajjjaaC21
import Derived.Test.YtjjofjnhhajjjaaC22
import Derived.Test.YtjjofjnhhajjjaaC23
import Derived.Test.YtjjofjnhhajjjaaC24
import Derived.Test.YtjjofjnhhajjjaaC25
import Derived.Test.YtjjofjnhhajjjaaC26
import Derived.Test.YtjjofjnhhajjjaaC29
import Derived.Test.YtjjofjnhhajjjaaC30
import Derived.Test.YtjjofjnhhajjjaaC31
namespace Go.Proofs.Ytjjofjnhhajjjaa.Jr
open Go.RowKit
open Nd (Row wp_world post_Row grownBy_setCell grownBy_trans below_of_grown u8v Grew Sl hid_in i64r bytesS str encO In)
set_option maxHeartbeats 20000000 in
set_option maxRecDepth 100000 in
theorem recall_c (ps : List Nd.Part) (rs : List Rc) (v : Value) (w : World) (B : Nat) (k : Kt) (hv : Nd.Held w B v ps) (hps : ps.map (·.bs) = rs.map payS) (hrd : ∀ r ∈ rs, Rd r) (hf : foldA rs zeroK = some k) :
    Calls Try.prog 28 #[v] w fun e w' => ∃ u, e = .returned (k.val u) ∧ Et w' u k.ents ∧ k.ok ∧ may k = true ∧ Below w.heap.size w w' := by
  have hlen : ps.length = rs.length := by have := congrArg List.length hps; simpa using this
  obtain ⟨p, cap, rfl, hcap1, hcap2⟩ : ∃ p cap, v = .slice p ps.length cap ∧ ps.length ≤ cap ∧ cap ≤ 9223372036854775807 := by
    rcases Held.at hv with ⟨rfl, rfl⟩ | ⟨g, cap, rfl, h1, h2, _⟩
    · exact ⟨none, 0, rfl, Nat.le_refl _, by decide⟩
    · exact ⟨_, cap, rfl, h1, h2⟩
  have HV := hid_in hv
  have HPS := hid_in hps
  have HRD := hid_in hrd
  have HF := hid_in hf
  obtain ⟨W1, H1, R1, B1, S1⟩ := row_new w zcells 30
  obtain ⟨W2, H2, R2, B2, S2⟩ := row_new W1 zcells 30
  have hs1 : W1.heap.size = w.heap.size + 1 := S1.out
  rw [hs1] at R2
  have B12 := hid_in (B1.out.trans (B2.out.mono B1.out.size))
  have R12 := hid_in (R1.out.below B2.out R1.out.lt)
  have hk0 : (ps.length : Int) ≤ 9223372036854775807 := by omega
  have hlenI : (0 : Int) ≤ (ps.length : Int) := by omega
  have HS2 : Hid (w.heap.size + 2 ≤ W2.heap.size) := by have := S2.out; show _ ≤ _; omega
  have HLN := hid_in hlen
  clear hv hps hrd hf hcap1 hcap2 B1 B2 S1 S2 R1 hlen
  go_enter Try.func28, Try.ntmps28
  go_upto_region 2 with fail
  refine wp_world (congrArg (fun x => World.alloc x _) H1.out) ?_
  refine wp_world H2.out ?_
  go_wp2_with fail
  go_loopw [10] (fun vi W => ∃ (i : Nat) (ki : Kt) (vk : Value), i ≤ ps.length ∧ vi = .int .i64 (i : Int) ∧ Hid (foldA (rs.drop i) ki = some k) ∧ Hid ki.ok ∧ Hid (may ki = true) ∧ Hid (Row W w.heap.size zcells 30) ∧ Hid (Row W (w.heap.size + 1) (ki.cells vk) 30) ∧ Hid (Et W vk ki.ents) ∧ Hid (Below w.heap.size w W) ∧ Hid (w.heap.size + 2 ≤ W.heap.size)) (fun vi _ => ps.length - (intOf vi).toNat)
  case atStart => exact ⟨0, zeroK, .slice none 0 0, by omega, rfl, HF.out, zeroK_ok, may_zero, R12.out, R2.out, Et.nil _, B12.out, HS2.out⟩
  case round =>
    obtain ⟨i, ⟨kv, kn, kb, ks, ke⟩, vk, hi, rfl, hfo, hok, hmay, hz, hkr, hke, hb, hsz⟩ := hrel
    obtain ⟨kp, kc, rfl, _, _⟩ := hke.out.val.form
    simp only [Kt.cells] at hkr
    by_cases hlt : i < ps.length
    · have hlr : i < rs.length := by have := HLN.out; omega
      have hdrop : rs.drop i = rs[i] :: rs.drop (i + 1) := List.drop_eq_getElem_cons hlr
      have hmem := List.getElem_mem hlr
      have hpx : ps[i]? = some ps[i] := List.getElem?_eq_getElem hlt
      have hpb : (ps[i]).bs = payS rs[i] := by
        have h1 : (ps.map (·.bs))[i]? = (rs.map payS)[i]? := by rw [HPS.out]
        rw [List.getElem?_map, List.getElem?_map, hpx, List.getElem?_eq_getElem hlr] at h1
        exact Option.some.inj h1
      have hpm := List.getElem_mem hlt
      have hfo' := hfo.out
      rw [hdrop] at hfo'
      have HR := hid_in (HRD.out _ hmem)
      have HV2 := hid_in (HV.out.below hb.out)
      obtain ⟨g, hg1, hg2⟩ : ∃ g, p = some ⟨g, 0, none⟩ ∧ wr.cell? ⟨g, i, none⟩ = some (ps[i]).val := by
        rcases Held.at HV2.out with ⟨h0, _⟩ | ⟨g, cap', h1, _, _, _, h3⟩
        · rw [h0] at hlt; exact absurd hlt (Nat.not_lt_zero _)
        · injection h1 with h1
          exact ⟨g, h1, h3 i _ hpx⟩
      subst hg1
      have HOK := hid_in (HV2.out.ok _ hpm)
      have HNO := hid_in (HV2.out.no _ hpm)
      generalize ps[i] = xp at *
      generalize rs[i] = r at *
      obtain ⟨xpp, xbs, xcap, xb, xoff⟩ := xp
      simp only [Nd.Part.val, Nd.Part.ok] at hg2 HOK HNO
      simp only at hpb
      have HC := hid_in (fun W (hbW : Below wr.heap.size wr W) => read_c HR.out W xbs hpb xpp xcap xb xoff (HOK.out.below hbW) HNO.out)
      obtain ⟨o, HO⟩ : ∃ o, Hid (foldS r ⟨kv, kn, kb, ks, ke⟩ = o) := ⟨_, hid_in rfl⟩
      have hfo2 : foldT (rs.drop (i + 1)) o = some k := by
        rw [foldA_cons, HO.out] at hfo'
        exact hfo'
      obtain ⟨⟨nv, nn, nb, ns, ne⟩, rfl⟩ : ∃ n, o = some n := by
        cases o with
        | none => cases hfo2
        | some n => exact ⟨n, rfl⟩
      have HFN : Hid (foldA (rs.drop (i + 1)) ⟨nv, nn, nb, ns, ne⟩ = some k) := hid_in hfo2
      obtain ⟨hnok, hnmay⟩ := foldS_ok HR.out hok.out hmay.out HO.out
      have HNOK := hid_in hnok
      have HNM := hid_in hnmay
      have HFD := hid_in (fun W vr (h1 : Es W vr r.told.ents) (h2 : Es W (.slice kp ke.length kc) ke) => fold_any r ⟨kv, kn, kb, ks, ke⟩ vr (.slice kp ke.length kc) W h1 h2 HR.out.ok hok.out hmay.out HR.out.few)
      rw [HO.out] at HFD
      obtain ⟨kd, fr, ⟨tv, tn, tb, ts, te⟩⟩ := r
      simp only [Rc.val, Kt.val] at HC HFD
      have HKE := hid_in hke.out
      obtain ⟨c, HCB⟩ : ∃ c, Hid (w.heap.size + 1 = c) := ⟨_, hid_in rfl⟩
      have hrow := hkr.out
      simp only [HCB.out] at hrow ⊢
      have HKR := hid_in hrow
      have hcl : c < wr.heap.size := hrow.lt
      have hnc : ¬ c = wr.heap.size := by omega
      have k0 : wr.cell? ⟨c, 0, none⟩ = some (.int .i64 kv) := hrow.cell 0; have k1 : wr.cell? ⟨c, 1, none⟩ = some (.int .i64 kn) := hrow.cell 1; have k2 : wr.cell? ⟨c, 2, none⟩ = some (.int .i64 kb) := hrow.cell 2; have k3 : wr.cell? ⟨c, 3, none⟩ = some (.string ks) := hrow.cell 3; have k4 : wr.cell? ⟨c, 4, none⟩ = some (.slice kp ke.length kc) := hrow.cell 4
      have hbA : Below wr.heap.size wr wr.drew := (Below.refl _ _).drew
      have HBA := hid_in hbA
      have hbx : Below wr.heap.size wr (wr.alloc (.cells #[.int .i64 0, .int .i64 0, .int .i64 0, .string ⟨#[]⟩, .slice none 0 0] 30)).drew := ((Below.refl _ _).alloc (Nat.le_refl _) _).drew
      have HBX := hid_in hbx
      have HQX : Hid (Row (wr.alloc (.cells #[.int .i64 0, .int .i64 0, .int .i64 0, .string ⟨#[]⟩, .slice none 0 0] 30)).drew wr.heap.size zcells 30) := row_drewJ (Row.new wr zcells 30)
      have HSX : Hid (wr.heap.size < (wr.alloc (.cells #[.int .i64 0, .int .i64 0, .int .i64 0, .string ⟨#[]⟩, .slice none 0 0] 30)).drew.heap.size) := HQX.out.lt
      have hby : Below wr.heap.size wr (wr.alloc (.cells #[.int .i64 0, .int .i64 0, .int .i64 0, .string ⟨#[]⟩, .slice none 0 0] 30)) := (Below.refl _ _).alloc (Nat.le_refl _) _
      have y0 : (wr.alloc (.cells #[.int .i64 0, .int .i64 0, .int .i64 0, .string ⟨#[]⟩, .slice none 0 0] 30)).cell? ⟨c, 0, none⟩ = some (.int .i64 kv) := (hrow.below hby hcl).cell 0; have y1 : (wr.alloc (.cells #[.int .i64 0, .int .i64 0, .int .i64 0, .string ⟨#[]⟩, .slice none 0 0] 30)).cell? ⟨c, 1, none⟩ = some (.int .i64 kn) := (hrow.below hby hcl).cell 1; have y2 : (wr.alloc (.cells #[.int .i64 0, .int .i64 0, .int .i64 0, .string ⟨#[]⟩, .slice none 0 0] 30)).cell? ⟨c, 2, none⟩ = some (.int .i64 kb) := (hrow.below hby hcl).cell 2; have y3 : (wr.alloc (.cells #[.int .i64 0, .int .i64 0, .int .i64 0, .string ⟨#[]⟩, .slice none 0 0] 30)).cell? ⟨c, 3, none⟩ = some (.string ks) := (hrow.below hby hcl).cell 3; have y4 : (wr.alloc (.cells #[.int .i64 0, .int .i64 0, .int .i64 0, .string ⟨#[]⟩, .slice none 0 0] 30)).cell? ⟨c, 4, none⟩ = some (.slice kp ke.length kc) := (hrow.below hby hcl).cell 4
      have hcx : (wr.alloc (.cells #[.int .i64 0, .int .i64 0, .int .i64 0, .string ⟨#[]⟩, .slice none 0 0] 30)).cell? ⟨g, i, none⟩ = some (.slice xpp xbs.length xcap) := by
        rw [hby.cell (World.block_lt_of_cell? wr _ hg2)]
        exact hg2
      have HCA := hid_in (HC.out _ hbA)
      have HCX := hid_in (HC.out _ hbx)
      have HCL := hid_in hcl
      clear hrow hbA hbx hby hcl hdrop hmem hpx hpb hpm hfo' hfo2 hnok hnmay hlr HC
      go_upto_region 5 with fail
      go_cut [6, 7] from 14 to 20 (fun p q W => Fk wr W (.slice kp ke.length kc) (some ⟨nv, nn, nb, ns, ne⟩) p q)
      case first =>
        go_region_with (first | (go_at_call 43; refine HCA.out.mono ?_; rintro e w6 ⟨vr, rfl, h0, h1⟩; obtain ⟨rp, rcc, rfl⟩ := EO.form h0; have HB6 := hid_in (HBA.out.trans (h1.mono (Nat.le_refl _))); have HK6 := hid_in (HKR.out.below HB6.out HCL.out); clear k0 k1 k2 k3 k4 y0 y1 y2 y3 y4; have k0 : w6.cell? ⟨c, 0, none⟩ = some (.int .i64 kv) := HK6.out.cell 0; have k1 : w6.cell? ⟨c, 1, none⟩ = some (.int .i64 kn) := HK6.out.cell 1; have k2 : w6.cell? ⟨c, 2, none⟩ = some (.int .i64 kb) := HK6.out.cell 2; have k3 : w6.cell? ⟨c, 3, none⟩ = some (.string ks) := HK6.out.cell 3; have k4 : w6.cell? ⟨c, 4, none⟩ = some (.slice kp ke.length kc) := HK6.out.cell 4; have hE6 := HKE.out.val.below HB6.out; have HFA := hid_in (HFD.out w6 _ h0.es hE6); have HBY := hid_in (show Below w6.heap.size w6 (w6.alloc (.cells #[.int .i64 0, .int .i64 0, .int .i64 0, .string ⟨#[]⟩, .slice none 0 0] 30)) from (Below.refl _ _).alloc (Nat.le_refl _) _); have HFB := hid_in (HFD.out (w6.alloc (.cells #[.int .i64 0, .int .i64 0, .int .i64 0, .string ⟨#[]⟩, .slice none 0 0] 30)) _ (h0.es.below HBY.out) (hE6.below HBY.out)); have HQ6 := hid_in trivial; have HQB : Hid (Row (w6.alloc (.cells #[.int .i64 0, .int .i64 0, .int .i64 0, .string ⟨#[]⟩, .slice none 0 0] 30)) w6.heap.size zcells 30) := Row.new w6 zcells 30; have hnc6 : ¬ c = w6.heap.size := (fun e => Nat.lt_irrefl _ (Nat.lt_of_lt_of_le (e ▸ HCL.out) HB6.out.size)); have y0 : (w6.alloc (.cells #[.int .i64 0, .int .i64 0, .int .i64 0, .string ⟨#[]⟩, .slice none 0 0] 30)).cell? ⟨c, 0, none⟩ = some (.int .i64 kv) := (HK6.out.below HBY.out HK6.out.lt).cell 0; have y1 : (w6.alloc (.cells #[.int .i64 0, .int .i64 0, .int .i64 0, .string ⟨#[]⟩, .slice none 0 0] 30)).cell? ⟨c, 1, none⟩ = some (.int .i64 kn) := (HK6.out.below HBY.out HK6.out.lt).cell 1; have y2 : (w6.alloc (.cells #[.int .i64 0, .int .i64 0, .int .i64 0, .string ⟨#[]⟩, .slice none 0 0] 30)).cell? ⟨c, 2, none⟩ = some (.int .i64 kb) := (HK6.out.below HBY.out HK6.out.lt).cell 2; have y3 : (w6.alloc (.cells #[.int .i64 0, .int .i64 0, .int .i64 0, .string ⟨#[]⟩, .slice none 0 0] 30)).cell? ⟨c, 3, none⟩ = some (.string ks) := (HK6.out.below HBY.out HK6.out.lt).cell 3; have y4 : (w6.alloc (.cells #[.int .i64 0, .int .i64 0, .int .i64 0, .string ⟨#[]⟩, .slice none 0 0] 30)).cell? ⟨c, 4, none⟩ = some (.slice kp ke.length kc) := (HK6.out.below HBY.out HK6.out.lt).cell 4; clear h0 h1 hE6) | (go_at_call 43; refine HCX.out.mono ?_; rintro e w6 ⟨vr, rfl, h0, h1⟩; obtain ⟨rp, rcc, rfl⟩ := EO.form h0; have HB6 := hid_in (HBX.out.trans (h1.mono HBX.out.size)); have HK6 := hid_in (HKR.out.below HB6.out HCL.out); clear k0 k1 k2 k3 k4 y0 y1 y2 y3 y4; have k0 : w6.cell? ⟨c, 0, none⟩ = some (.int .i64 kv) := HK6.out.cell 0; have k1 : w6.cell? ⟨c, 1, none⟩ = some (.int .i64 kn) := HK6.out.cell 1; have k2 : w6.cell? ⟨c, 2, none⟩ = some (.int .i64 kb) := HK6.out.cell 2; have k3 : w6.cell? ⟨c, 3, none⟩ = some (.string ks) := HK6.out.cell 3; have k4 : w6.cell? ⟨c, 4, none⟩ = some (.slice kp ke.length kc) := HK6.out.cell 4; have hE6 := HKE.out.val.below HB6.out; have HFA := hid_in (HFD.out w6 _ h0.es hE6); have HQ6 := hid_in (HQX.out.below h1 HQX.out.lt); have HL6 := hid_in (Nat.lt_of_lt_of_le HSX.out h1.size); have q0 : w6.cell? ⟨wr.heap.size, 0, none⟩ = some (.int .i64 0) := HQ6.out.cell 0; have fq0 := HQ6.out.frozen 0; have q1 : w6.cell? ⟨wr.heap.size, 1, none⟩ = some (.int .i64 0) := HQ6.out.cell 1; have fq1 := HQ6.out.frozen 1; have q2 : w6.cell? ⟨wr.heap.size, 2, none⟩ = some (.int .i64 0) := HQ6.out.cell 2; have fq2 := HQ6.out.frozen 2; have q3 : w6.cell? ⟨wr.heap.size, 3, none⟩ = some (.string ⟨#[]⟩) := HQ6.out.cell 3; have fq3 := HQ6.out.frozen 3; have q4 : w6.cell? ⟨wr.heap.size, 4, none⟩ = some (.slice none 0 0) := HQ6.out.cell 4; have fq4 := HQ6.out.frozen 4; clear h0 h1 hE6) | (go_at_call 44; refine HFA.out.mono ?_; intro e w7 hmk; obtain ⟨hb7, nv', nn', nb', ns', p', l', c', q', rfl, hm7⟩ := hmk.form; have HB7 := hid_in (HB6.out.trans (hb7.mono HB6.out.size)); have HM7 := hid_in hm7; have HQ7 := hid_in (HQ6.out.below hb7 (Nat.lt_of_lt_of_le HL6.out (Nat.le_refl _))); have HL7 := HL6; clear hmk hb7 hm7 q0 fq0 q1 fq1 q2 fq2 q3 fq3 q4 fq4; have q0 : w7.cell? ⟨wr.heap.size, 0, none⟩ = some (.int .i64 0) := HQ7.out.cell 0; have fq0 := HQ7.out.frozen 0; have q1 : w7.cell? ⟨wr.heap.size, 1, none⟩ = some (.int .i64 0) := HQ7.out.cell 1; have fq1 := HQ7.out.frozen 1; have q2 : w7.cell? ⟨wr.heap.size, 2, none⟩ = some (.int .i64 0) := HQ7.out.cell 2; have fq2 := HQ7.out.frozen 2; have q3 : w7.cell? ⟨wr.heap.size, 3, none⟩ = some (.string ⟨#[]⟩) := HQ7.out.cell 3; have fq3 := HQ7.out.frozen 3; have q4 : w7.cell? ⟨wr.heap.size, 4, none⟩ = some (.slice none 0 0) := HQ7.out.cell 4; have fq4 := HQ7.out.frozen 4) | (go_at_call 44; refine HFA.out.mono ?_; intro e w7 hmk; obtain ⟨hb7, nv', nn', nb', ns', p', l', c', q', rfl, hm7⟩ := hmk.form; have HB7 := hid_in (HB6.out.trans (hb7.mono HB6.out.size)); have HM7 := hid_in hm7; have HQ7 := hid_in trivial; clear hmk hb7 hm7) | (go_at_call 44; refine HFB.out.mono ?_; intro e w7 hmk; obtain ⟨hb7, nv', nn', nb', ns', p', l', c', q', rfl, hm7⟩ := hmk.form; have HB7 := hid_in (HB6.out.trans ((HBY.out.trans (hb7.mono HBY.out.size)).mono HB6.out.size)); have HM7 := hid_in hm7; have HQ7 := hid_in (HQB.out.below hb7 HQB.out.lt); have HL7 := hid_in HQB.out.lt; clear hmk hb7 hm7; have q0 : w7.cell? ⟨w6.heap.size, 0, none⟩ = some (.int .i64 0) := HQ7.out.cell 0; have fq0 := HQ7.out.frozen 0; have q1 : w7.cell? ⟨w6.heap.size, 1, none⟩ = some (.int .i64 0) := HQ7.out.cell 1; have fq1 := HQ7.out.frozen 1; have q2 : w7.cell? ⟨w6.heap.size, 2, none⟩ = some (.int .i64 0) := HQ7.out.cell 2; have fq2 := HQ7.out.frozen 2; have q3 : w7.cell? ⟨w6.heap.size, 3, none⟩ = some (.string ⟨#[]⟩) := HQ7.out.cell 3; have fq3 := HQ7.out.frozen 3; have q4 : w7.cell? ⟨w6.heap.size, 4, none⟩ = some (.slice none 0 0) := HQ7.out.cell 4; have fq4 := HQ7.out.frozen 4))
        all_goals go_wp2_with fail
        all_goals go_meet
        all_goals first
          | (with_reducible refine fk_new ?_ HKE.out ?_ HM7.out
             · exact HB7.out
             · exact HB6.out.size)
          | (with_reducible refine fk_old ?_ HKE.out ?_ HQ7.out HL7.out HM7.out
             · exact HB7.out
             · exact Nat.le_refl _)
          | (with_reducible refine fk_old ?_ HKE.out ?_ HQ7.out HL7.out HM7.out
             · exact HB7.out
             · exact HB6.out.size)
      case rest =>
        obtain ⟨HBC, hcase⟩ := hcut
        rcases hcase with ⟨h0, _⟩ | ⟨n, v, b, hn, rfl, rfl, HBL, HRN, HEN, _⟩
        · cases h0
        cases hn
        obtain ⟨p, cc, rfl, _, _⟩ := HEN.out.val.form
        simp only [Kt.cells] at HRN
        simp only at HEN
        have HZC := hid_in (hz.out.below HBC.out hz.out.lt)
        have HKC := hid_in (HKR.out.below HBC.out HCL.out)
        have hbc : ¬ b = c := by have h1 := HBL.out; have h2 := HCL.out; omega
        have hcb : ¬ c = b := fun e => hbc e.symm
        have n0 : wc.cell? ⟨b, 0, none⟩ = some (.int .i64 nv) := HRN.out.cell 0
        have n1 : wc.cell? ⟨b, 1, none⟩ = some (.int .i64 nn) := HRN.out.cell 1
        have n2 : wc.cell? ⟨b, 2, none⟩ = some (.int .i64 nb) := HRN.out.cell 2
        have n3 : wc.cell? ⟨b, 3, none⟩ = some (.string ns) := HRN.out.cell 3
        have n4 : wc.cell? ⟨b, 4, none⟩ = some (.slice p ne.length cc) := HRN.out.cell 4
        have t0 : wc.cell? ⟨c, 0, none⟩ = some (.int .i64 kv) := HKC.out.cell 0
        have ft0 := HKC.out.frozen 0
        have t1 : wc.cell? ⟨c, 1, none⟩ = some (.int .i64 kn) := HKC.out.cell 1
        have ft1 := HKC.out.frozen 1
        have t2 : wc.cell? ⟨c, 2, none⟩ = some (.int .i64 kb) := HKC.out.cell 2
        have ft2 := HKC.out.frozen 2
        have t3 : wc.cell? ⟨c, 3, none⟩ = some (.string ks) := HKC.out.cell 3
        have ft3 := HKC.out.frozen 3
        have t4 : wc.cell? ⟨c, 4, none⟩ = some (.slice kp ke.length kc) := HKC.out.cell 4
        have ft4 := HKC.out.frozen 4
        clear k0 k1 k2 k3 k4 y0 y1 y2 y3 y4 hcx hg2 hnc
        go_wp2_with fail
        go_roundw
        case rel =>
          have hF := set5 HKC.out (.int .i64 nv) (.int .i64 nn) (.int .i64 nb) (.string ns) (.slice p ne.length cc)
          have hcs := HCB.out
          have h51 : ∀ b' cur, wc.heap[b']? = some (.cells cur 51 (0, 0)) → ¬ (some b' = some c) := fun b' cur hb' e => by
            cases e
            have hkc := HKC.out
            unfold Row at hkc
            rw [hkc] at hb'
            injection hb' with hb'
            injection hb' with _ hb'
            exact absurd hb' (by decide)
          refine ⟨i + 1, ⟨nv, nn, nb, ns, ne⟩, .slice p ne.length cc, by omega, by go_num, HFN.out, HNOK.out, HNM.out, HZC.out.grew (Grew.of_grown hF.2) (fun e => by simp at e; omega), ?_, HEN.out.keep (Grew.of_grown hF.2) h51, (hb.out.trans (HBC.out.mono hb.out.size)).grown hF.2 (Nat.le_trans hb.out.size HBC.out.size) (fun k e => by cases e; omega), Nat.le_trans (Nat.le_trans hsz.out HBC.out.size) hF.2.size⟩
          exact hF.1
        case measure => simp [intOf]; omega
    · obtain rfl : i = ps.length := by omega
      have hfe := hfo.out
      rw [HLN.out, List.drop_length] at hfe
      have hke' : (⟨kv, kn, kb, ks, ke⟩ : Kt) = k := Option.some.inj hfe
      have HEQ := hid_in hke'
      have t0 : wr.cell? ⟨w.heap.size + 1, 0, none⟩ = some (.int .i64 kv) := hkr.out.cell 0
      have t1 : wr.cell? ⟨w.heap.size + 1, 1, none⟩ = some (.int .i64 kn) := hkr.out.cell 1
      have t2 : wr.cell? ⟨w.heap.size + 1, 2, none⟩ = some (.int .i64 kb) := hkr.out.cell 2
      have t3 : wr.cell? ⟨w.heap.size + 1, 3, none⟩ = some (.string ks) := hkr.out.cell 3
      have t4 : wr.cell? ⟨w.heap.size + 1, 4, none⟩ = some (.slice kp ke.length kc) := hkr.out.cell 4
      have z0 : wr.cell? ⟨w.heap.size, 0, none⟩ = some (.int .i64 0) := hz.out.cell 0
      have fz0 := hz.out.frozen 0
      have z1 : wr.cell? ⟨w.heap.size, 1, none⟩ = some (.int .i64 0) := hz.out.cell 1
      have fz1 := hz.out.frozen 1
      have z2 : wr.cell? ⟨w.heap.size, 2, none⟩ = some (.int .i64 0) := hz.out.cell 2
      have fz2 := hz.out.frozen 2
      have z3 : wr.cell? ⟨w.heap.size, 3, none⟩ = some (.string ⟨#[]⟩) := hz.out.cell 3
      have fz3 := hz.out.frozen 3
      have z4 : wr.cell? ⟨w.heap.size, 4, none⟩ = some (.slice none 0 0) := hz.out.cell 4
      have fz4 := hz.out.frozen 4
      clear hke' hfe
      go_wp2
      have hF := set5 hz.out (.int .i64 kv) (.int .i64 kn) (.int .i64 kb) (.string ks) (.slice kp ke.length kc)
      refine post_Row 2 30 Try.results28 w.heap.size rfl 30 _ hF.1 _ Try.underlying30 rfl 5 info30 rfl rfl ?_
      have h51 : ∀ b' cur, wr.heap[b']? = some (.cells cur 51 (0, 0)) → ¬ (some b' = some w.heap.size) := fun b' cur hb' e => by
        cases e
        have hkc := hz.out
        unfold Row at hkc
        rw [hkc] at hb'
        injection hb' with hb'
        injection hb' with _ hb'
        exact absurd hb' (by decide)
      rw [← HEQ.out]
      exact ⟨_, rfl, hke.out.keep (Grew.of_grown hF.2) h51, hok.out, hmay.out, hb.out.grown hF.2 hb.out.size (fun k e => by cases e; exact Nat.le_refl _)⟩
end Go.Proofs.Ytjjofjnhhajjjaa.Jr
