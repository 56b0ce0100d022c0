/-
  fold, a record of kind 4.
-/
import Derived.Laws.Tables
import Derived.OwnWalk
import Derived.Lib.SlBytesConst
import Derived.Deep.RegionLaw
import Derived.Deep.CutRange
import Derived.Laws.CopyOwn
import Derived.Deep.DrawnRows
import Derived.Laws.StructEq
import Derived.Test.YtjjofjnhhajjjaaC00
import Derived.Test.YtjjofjnhhajjjaaC01
import Derived.Test.YtjjofjnhhajjjaaC02
import Derived.Test.YtjjofjnhhajjjaaC03
import Derived.Test.YtjjofjnhhajjjaaC04
import Derived.Test.YtjjofjnhhajjjaaC05
import Derived.Test.YtjjofjnhhajjjaaC06
import Derived.Test.YtjjofjnhhajjjaaC07
import Derived.Test.YtjjofjnhhajjjaaC08
import Derived.Test.YtjjofjnhhajjjaaC09
import Derived.Test.YtjjofjnhhajjjaaC10
import Derived.Test.YtjjofjnhhajjjaaC11
import Derived.Test.YtjjofjnhhajjjaaC12
import Derived.Test.YtjjofjnhhajjjaaC13
namespace Go.Proofs.Ytjjofjnhhajjjaa.Jr
open Go.RowKit
open Nd (Row wp_world post_Row post_Row2 grownBy_setCell grownBy_trans below_of_grown u8v Grew Sl hid_in i64r bytesS str encO)
set_option maxHeartbeats 20000000 in
set_option maxRecDepth 100000 in
theorem fold_k4 (fr tv tn tb : Int) (ts : ByteArray) (te : List Ent) (k : Kt) (vr vk : Value) (w : World) (hr : Es w vr te) (hk : Es w vk k.ents)
    (hM : ∀ W, Below w.heap.size w W → Calls Try.prog 70 #[.agg #[.int .i64 4, .int .i64 fr, .int .i64 tv, .int .i64 tn, .int .i64 tb, .string ts, vr], k.val vk] W fun e w' => Mk W w' W.heap.size vk (nextS ⟨4, fr, ⟨tv, tn, tb, ts, te⟩⟩ k) e)
    (hn : ∀ n, nextS ⟨4, fr, ⟨tv, tn, tb, ts, te⟩⟩ k = some n → n.ok) :
    Calls Try.prog 44 #[.agg #[.int .i64 4, .int .i64 fr, .int .i64 tv, .int .i64 tn, .int .i64 tb, .string ts, vr], k.val vk] w fun e w' => Mk w w' w.heap.size vk (foldS ⟨4, fr, ⟨tv, tn, tb, ts, te⟩⟩ k) e := by
  obtain ⟨kv, kn, kb, ks, ke⟩ := k
  obtain ⟨kp, kc, rfl, hkc, hkc2⟩ := hk.form
  obtain ⟨rp, rc, rfl, _, _⟩ := hr.form
  simp only [Kt.val] at hM ⊢
  simp only at hk
  have HKV := hid_in hk
  obtain ⟨W3, H3, HZS, HR, HK, HZ, HB⟩ := rows3 w [.int .i64 4, .int .i64 fr, .int .i64 tv, .int .i64 tn, .int .i64 tb, .string ts, .slice rp te.length rc] [.int .i64 kv, .int .i64 kn, .int .i64 kb, .string ks, .slice kp ke.length kc]
  have r0 : W3.cell? ⟨w.heap.size, 0, none⟩ = some (.int .i64 4) := HR.out.cell 0
  have r1 : W3.cell? ⟨w.heap.size, 1, none⟩ = some (.int .i64 fr) := HR.out.cell 1
  have r2 : W3.cell? ⟨w.heap.size, 2, none⟩ = some (.int .i64 tv) := HR.out.cell 2
  have r3 : W3.cell? ⟨w.heap.size, 3, none⟩ = some (.int .i64 tn) := HR.out.cell 3
  have r4 : W3.cell? ⟨w.heap.size, 4, none⟩ = some (.int .i64 tb) := HR.out.cell 4
  have r5 : W3.cell? ⟨w.heap.size, 5, none⟩ = some (.string ts) := HR.out.cell 5
  have r6 : W3.cell? ⟨w.heap.size, 6, none⟩ = some (.slice rp te.length rc) := HR.out.cell 6
  have hmf : ∀ (fn : Fn) (first cap : Array Value) (w : World), (Instr.makeFunc fn first cap).run Try.prog w = .ok (.func fn first cap) w := fun _ _ _ _ => rfl
  have HM := hid_in hM
  have HN := hid_in hn
  clear hM hn hk hr
  obtain ⟨o, HO⟩ : ∃ o, Hid (nextS ⟨4, fr, ⟨tv, tn, tb, ts, te⟩⟩ ⟨kv, kn, kb, ks, ke⟩ = o) := ⟨_, hid_in rfl⟩
  rw [HO.out] at HM HN
  rw [foldS_O, HO.out]
  clear HO
  go_enter Try.func44, Try.ntmps44
  go_upto_region 1 with fail
  refine wp_world H3.out ?_
  go_upto_region 2 with (first | (refine Nd.wpList_store_new rfl rfl 106 4 _ _ rfl #[.nilFunc, .nilFunc, .nilFunc, .nilFunc] (makers (.agg #[.int .i64 4, .int .i64 fr, .int .i64 tv, .int .i64 tn, .int .i64 tb, .string ts, .slice rp te.length rc])) info106 rfl rfl (makers_one _) rfl rfl ?_; intro w4 hr4 hb4 hs4; have HR4 := hid_in hr4; have HB4 := hid_in hb4; have HS4 := hid_in hs4; clear hr4 hb4 hs4))
  have HR5 := hid_in (HR.out.below HB4.out HR.out.lt)
  have HK5 := hid_in (HK.out.below HB4.out HK.out.lt)
  have HZ5 := hid_in (HZ.out.below HB4.out HZ.out.lt)
  have HB5 := hid_in (HB.out.trans (HB4.out.mono HB.out.size))
  clear r0 r1 r2 r3 r4 r5 r6
  have r0 : w4.cell? ⟨w.heap.size, 0, none⟩ = some (.int .i64 4) := HR5.out.cell 0
  have k0 : w4.cell? ⟨w.heap.size + 1, 0, none⟩ = some (.int .i64 kv) := HK5.out.cell 0
  have k1 : w4.cell? ⟨w.heap.size + 1, 1, none⟩ = some (.int .i64 kn) := HK5.out.cell 1
  have k2 : w4.cell? ⟨w.heap.size + 1, 2, none⟩ = some (.int .i64 kb) := HK5.out.cell 2
  have k3 : w4.cell? ⟨w.heap.size + 1, 3, none⟩ = some (.string ks) := HK5.out.cell 3
  have k4 : w4.cell? ⟨w.heap.size + 1, 4, none⟩ = some (.slice kp ke.length kc) := HK5.out.cell 4
  have m0 : w4.cell? ⟨W3.heap.size, 3, none⟩ = some (.func (.func 70) #[.agg #[.int .i64 4, .int .i64 fr, .int .i64 tv, .int .i64 tn, .int .i64 tb, .string ts, .slice rp te.length rc]] #[]) := HR4.out.cell 3
  have HS3 := HZS.out
  have HS4' := HS4.out
  have HSW : Hid (w.heap.size + 3 ≤ w4.heap.size) := by show _ ≤ _; omega
  have ha0 : ¬ w.heap.size = w4.heap.size := by omega
  have ha1 : ¬ w.heap.size + 1 = w4.heap.size := by omega
  have ha3 : ¬ W3.heap.size = w4.heap.size := by omega
  clear HS3 HS4'
  obtain ⟨rv, HRV⟩ : ∃ rv : Value, Hid ((.agg #[.int .i64 4, .int .i64 fr, .int .i64 tv, .int .i64 tn, .int .i64 tb, .string ts, .slice rp te.length rc] : Value) = rv) := ⟨_, hid_in rfl⟩
  simp only [HRV.out] at HM m0 ⊢
  go_cut [7, 8] from 18 to 27 (fun p q W => Fo w W (.slice kp ke.length kc) o p q)
  case first =>
    have HM5 := hid_in (HM.out w4.drew HB5.out.drew)
    have hbx : Below w4.heap.size w4 (w4.alloc (.cells #[.int .i64 0, .int .i64 0, .int .i64 0, .string ⟨#[]⟩, .slice none 0 0] 30)).drew := ((Below.refl _ _).alloc (Nat.le_refl _) _).drew
    have HBX := hid_in hbx
    have HQX : Hid (Row (w4.alloc (.cells #[.int .i64 0, .int .i64 0, .int .i64 0, .string ⟨#[]⟩, .slice none 0 0] 30)).drew w4.heap.size zcells 30) := row_drewJ (Row.new w4 zcells 30)
    have HMX := hid_in (HM.out _ (HB5.out.trans (hbx.mono HB5.out.size)))
    have HSX : Hid (w4.heap.size < (w4.alloc (.cells #[.int .i64 0, .int .i64 0, .int .i64 0, .string ⟨#[]⟩, .slice none 0 0] 30)).drew.heap.size) := HQX.out.lt
    clear hbx
    have hby : Below w4.heap.size w4 (w4.alloc (.cells #[.int .i64 0, .int .i64 0, .int .i64 0, .string ⟨#[]⟩, .slice none 0 0] 30)) := (Below.refl _ _).alloc (Nat.le_refl _) _
    have x0 : (w4.alloc (.cells #[.int .i64 0, .int .i64 0, .int .i64 0, .string ⟨#[]⟩, .slice none 0 0] 30)).cell? ⟨w.heap.size, 0, none⟩ = some (.int .i64 4) := (HR5.out.below hby HR5.out.lt).cell 0
    have y0 : (w4.alloc (.cells #[.int .i64 0, .int .i64 0, .int .i64 0, .string ⟨#[]⟩, .slice none 0 0] 30)).cell? ⟨w.heap.size + 1, 0, none⟩ = some (.int .i64 kv) := (HK5.out.below hby HK5.out.lt).cell 0
    have y1 : (w4.alloc (.cells #[.int .i64 0, .int .i64 0, .int .i64 0, .string ⟨#[]⟩, .slice none 0 0] 30)).cell? ⟨w.heap.size + 1, 1, none⟩ = some (.int .i64 kn) := (HK5.out.below hby HK5.out.lt).cell 1
    have y2 : (w4.alloc (.cells #[.int .i64 0, .int .i64 0, .int .i64 0, .string ⟨#[]⟩, .slice none 0 0] 30)).cell? ⟨w.heap.size + 1, 2, none⟩ = some (.int .i64 kb) := (HK5.out.below hby HK5.out.lt).cell 2
    have y3 : (w4.alloc (.cells #[.int .i64 0, .int .i64 0, .int .i64 0, .string ⟨#[]⟩, .slice none 0 0] 30)).cell? ⟨w.heap.size + 1, 3, none⟩ = some (.string ks) := (HK5.out.below hby HK5.out.lt).cell 3
    have y4 : (w4.alloc (.cells #[.int .i64 0, .int .i64 0, .int .i64 0, .string ⟨#[]⟩, .slice none 0 0] 30)).cell? ⟨w.heap.size + 1, 4, none⟩ = some (.slice kp ke.length kc) := (HK5.out.below hby HK5.out.lt).cell 4
    have z0 : (w4.alloc (.cells #[.int .i64 0, .int .i64 0, .int .i64 0, .string ⟨#[]⟩, .slice none 0 0] 30)).cell? ⟨W3.heap.size, 3, none⟩ = some (.func (.func 70) #[rv] #[]) := by
      have h := (HR4.out.below hby HR4.out.lt).cell 3
      rw [HRV.out] at h
      exact h
    clear hby
    go_region_with (first | (go_at_call 70; refine HM5.out.mono ?_; intro e w6 hmk; obtain ⟨hb, nv, nn, nb, ns, p, l, c, q, rfl, hm⟩ := hmk.form; have HB6 := hid_in (((Below.refl _ _).drew).trans (hb.mono (Nat.le_refl _))); have HM6 := hid_in hm; have HQ6 := hid_in trivial; clear hmk hb hm) | (go_at_call 70; refine HMX.out.mono ?_; intro e w6 hmk; obtain ⟨hb, nv, nn, nb, ns, p, l, c, q, rfl, hm⟩ := hmk.form; have HB6 := hid_in (HBX.out.trans (hb.mono HBX.out.size)); have HM6 := hid_in hm; have HQ6 := hid_in (HQX.out.below hb HQX.out.lt); clear hmk hb hm; have q0 : w6.cell? ⟨w4.heap.size, 0, none⟩ = some (.int .i64 0) := HQ6.out.cell 0; have fq0 := HQ6.out.frozen 0; have q1 : w6.cell? ⟨w4.heap.size, 1, none⟩ = some (.int .i64 0) := HQ6.out.cell 1; have fq1 := HQ6.out.frozen 1; have q2 : w6.cell? ⟨w4.heap.size, 2, none⟩ = some (.int .i64 0) := HQ6.out.cell 2; have fq2 := HQ6.out.frozen 2; have q3 : w6.cell? ⟨w4.heap.size, 3, none⟩ = some (.string ⟨#[]⟩) := HQ6.out.cell 3; have fq3 := HQ6.out.frozen 3; have q4 : w6.cell? ⟨w4.heap.size, 4, none⟩ = some (.slice none 0 0) := HQ6.out.cell 4; have fq4 := HQ6.out.frozen 4))
    all_goals go_wp2_with fail
    all_goals go_meet
    all_goals have hb6 := HB5.out.trans (HB6.out.mono HB5.out.size)
    all_goals have hz6 := HZ5.out.below HB6.out HZ5.out.lt
    all_goals first
      | (with_reducible refine fo_new ?_ ?_ ?_ ?_ HM6.out
         · exact hb6
         · exact hz6
         · exact Nat.le_trans HSW.out HB6.out.size
         · exact HSW.out)
      | (with_reducible refine fo_old ?_ ?_ ?_ HQ6.out HKV.out HSX.out HM6.out
         · exact hb6
         · exact hz6
         · exact HSW.out)
  case rest =>
    obtain ⟨HBC, HZC, HSC, hcase⟩ := hcut
    clear r0 k0 k1 k2 k3 k4 m0 ha0 ha1 ha3 HM
    have g0 : wc.cell? ⟨w.heap.size + 1 + 1, 0, none⟩ = some (.int .i64 0) := HZC.out.cell 0
    have f0 := HZC.out.frozen 0
    have g1 : wc.cell? ⟨w.heap.size + 1 + 1, 1, none⟩ = some (.int .i64 0) := HZC.out.cell 1
    have f1 := HZC.out.frozen 1
    have g2 : wc.cell? ⟨w.heap.size + 1 + 1, 2, none⟩ = some (.int .i64 0) := HZC.out.cell 2
    have f2 := HZC.out.frozen 2
    have g3 : wc.cell? ⟨w.heap.size + 1 + 1, 3, none⟩ = some (.string ⟨#[]⟩) := HZC.out.cell 3
    have f3 := HZC.out.frozen 3
    have g4 : wc.cell? ⟨w.heap.size + 1 + 1, 4, none⟩ = some (.slice none 0 0) := HZC.out.cell 4
    have f4 := HZC.out.frozen 4
    rcases hcase with ⟨rfl, rfl⟩ | ⟨⟨nv, nn, nb, ns, ne⟩, v, b, rfl, rfl, rfl, HBL, HRN, HEN, HVN⟩
    · go_wp2
      have HF := hid_in (set5 HZC.out (.int .i64 0) (.int .i64 0) (.int .i64 0) (.string ⟨#[]⟩) (.slice none 0 0))
      refine post_Row2 4 5 30 Try.results44 (w.heap.size + 1 + 1) rfl 30 _ HF.out.1 _ Try.underlying30 rfl 5 info30 rfl rfl ?_
      exact ⟨HBC.out.grown HF.out.2 HBC.out.size (fun k e => by cases e; omega), .inl ⟨rfl, rfl⟩⟩
    · have HCK := hid_in (check_any ⟨nv, nn, nb, ns, ne⟩ v wc (HN.out _ rfl) HEN.out)
      obtain ⟨p, c, rfl, _, _⟩ := HEN.out.form
      simp only [Kt.val] at HCK
      simp only [Kt.cells] at HRN
      simp only at HEN HVN
      have n0 : wc.cell? ⟨b, 0, none⟩ = some (.int .i64 nv) := HRN.out.cell 0
      have n1 : wc.cell? ⟨b, 1, none⟩ = some (.int .i64 nn) := HRN.out.cell 1
      have n2 : wc.cell? ⟨b, 2, none⟩ = some (.int .i64 nb) := HRN.out.cell 2
      have n3 : wc.cell? ⟨b, 3, none⟩ = some (.string ns) := HRN.out.cell 3
      have n4 : wc.cell? ⟨b, 4, none⟩ = some (.slice p ne.length c) := HRN.out.cell 4
      by_cases hmy : may ⟨nv, nn, nb, ns, ne⟩ = true
      · have HFO := hid_in (foldO_yes hmy)
        rw [ckE_yes hmy] at HCK
        clear hmy
        go_upto_region 5 with (first | (go_at_call 19; refine HCK.out.mono ?_; rintro e w8 ⟨rfl, hb8⟩; have HB8 := hid_in hb8; have HZ8 := hid_in (HZC.out.below hb8 HZC.out.lt); have HR8 := hid_in (HRN.out.below hb8 HRN.out.lt); clear hb8))
        have e0 : w8.cell? ⟨w.heap.size + 1 + 1, 0, none⟩ = some (.int .i64 0) := HZ8.out.cell 0
        have d0 := HZ8.out.frozen 0
        have e1 : w8.cell? ⟨w.heap.size + 1 + 1, 1, none⟩ = some (.int .i64 0) := HZ8.out.cell 1
        have d1 := HZ8.out.frozen 1
        have e2 : w8.cell? ⟨w.heap.size + 1 + 1, 2, none⟩ = some (.int .i64 0) := HZ8.out.cell 2
        have d2 := HZ8.out.frozen 2
        have e3 : w8.cell? ⟨w.heap.size + 1 + 1, 3, none⟩ = some (.string ⟨#[]⟩) := HZ8.out.cell 3
        have d3 := HZ8.out.frozen 3
        have e4 : w8.cell? ⟨w.heap.size + 1 + 1, 4, none⟩ = some (.slice none 0 0) := HZ8.out.cell 4
        have d4 := HZ8.out.frozen 4
        have l0 : w8.cell? ⟨b, 0, none⟩ = some (.int .i64 nv) := HR8.out.cell 0
        have l1 : w8.cell? ⟨b, 1, none⟩ = some (.int .i64 nn) := HR8.out.cell 1
        have l2 : w8.cell? ⟨b, 2, none⟩ = some (.int .i64 nb) := HR8.out.cell 2
        have l3 : w8.cell? ⟨b, 3, none⟩ = some (.string ns) := HR8.out.cell 3
        have l4 : w8.cell? ⟨b, 4, none⟩ = some (.slice p ne.length c) := HR8.out.cell 4
        go_wp2
        obtain ⟨W, HW, HRW, HBW, HEW, HVW⟩ := mk_tailE (kv := nv) (kn := nn) (kb := nb) (ks := ns) (HBC.out.trans (HB8.out.mono HBC.out.size)) HZ8.out HKV.out (HEN.out.below HB8.out) (HVN.out.imp id (fun h => EO.below h HB8.out))
        refine bodyPost_world HW.out ?_
        refine post_Row2 4 5 30 Try.results44 (w.heap.size + 1 + 1) rfl 30 _ HRW.out _ Try.underlying30 rfl 5 info30 rfl rfl ?_
        exact ⟨HBW.out, .inr ⟨_, _, HFO.out, rfl, HEW.out, HVW.out⟩⟩
      · have hmy' : may ⟨nv, nn, nb, ns, ne⟩ = false := by simpa using hmy
        have HFO := hid_in (foldO_no hmy)
        rw [ckE_no hmy'] at HCK
        clear hmy hmy'
        go_upto_region 4 with (first | (go_at_call 19; refine HCK.out.mono ?_; rintro e w8 ⟨rfl, hb8⟩; have HB8 := hid_in hb8; have HZ8 := hid_in (HZC.out.below hb8 HZC.out.lt); clear hb8))
        have e0 : w8.cell? ⟨w.heap.size + 1 + 1, 0, none⟩ = some (.int .i64 0) := HZ8.out.cell 0
        have d0 := HZ8.out.frozen 0
        have e1 : w8.cell? ⟨w.heap.size + 1 + 1, 1, none⟩ = some (.int .i64 0) := HZ8.out.cell 1
        have d1 := HZ8.out.frozen 1
        have e2 : w8.cell? ⟨w.heap.size + 1 + 1, 2, none⟩ = some (.int .i64 0) := HZ8.out.cell 2
        have d2 := HZ8.out.frozen 2
        have e3 : w8.cell? ⟨w.heap.size + 1 + 1, 3, none⟩ = some (.string ⟨#[]⟩) := HZ8.out.cell 3
        have d3 := HZ8.out.frozen 3
        have e4 : w8.cell? ⟨w.heap.size + 1 + 1, 4, none⟩ = some (.slice none 0 0) := HZ8.out.cell 4
        have d4 := HZ8.out.frozen 4
        go_wp2
        have HF := hid_in (set5 HZ8.out (.int .i64 0) (.int .i64 0) (.int .i64 0) (.string ⟨#[]⟩) (.slice none 0 0))
        refine post_Row2 4 5 30 Try.results44 (w.heap.size + 1 + 1) rfl 30 _ HF.out.1 _ Try.underlying30 rfl 5 info30 rfl rfl ?_
        exact ⟨(HBC.out.trans (HB8.out.mono HBC.out.size)).grown HF.out.2 (Nat.le_trans HBC.out.size HB8.out.size) (fun k e => by cases e; omega), .inl ⟨HFO.out, rfl⟩⟩
end Go.Proofs.Ytjjofjnhhajjjaa.Jr
