/-
  What a record of the kind adopt makes of what is kept.
-/
import Derived.Laws.Tables
import Derived.Laws.CopyOwn
import Derived.OwnWalk
import Derived.Deep.CutRange
import Derived.Lib.SlBytesConst
import Derived.Deep.RegionLaw
import Derived.Deep.DrawnRows
import Derived.Laws.StructEq
import Derived.Test.YtjjofjnhhajjjaaB00
import Derived.Test.YtjjofjnhhajjjaaB01
import Derived.Test.YtjjofjnhhajjjaaB02
import Derived.Test.YtjjofjnhhajjjaaB03
import Derived.Test.YtjjofjnhhajjjaaB04
import Derived.Test.YtjjofjnhhajjjaaB05
import Derived.Test.YtjjofjnhhajjjaaB06
import Derived.Test.YtjjofjnhhajjjaaB07
import Derived.Test.YtjjofjnhhajjjaaB08
import Derived.Test.YtjjofjnhhajjjaaB09
import Derived.Test.YtjjofjnhhajjjaaB10
import Derived.Test.YtjjofjnhhajjjaaB11
import Derived.Test.YtjjofjnhhajjjaaB12
import Derived.Test.YtjjofjnhhajjjaaB13
namespace Go.Proofs.Ytjjofjnhhajjjaa.Jr
open Go.RowKit
open Nd (Row wp_world post_Row post_Row2 grownBy_setCell grownBy_trans below_of_grown u8v Grew Sl hid_in i64r bytesS str encO)
theorem row_drew {w : World} {b : Nat} {vs : List Value} {t : TypeId} (h : Row w b vs t) : Row w.drew b vs t := h.below (B := w.heap.size) ((Below.refl _ _).drew) h.lt
/-- the two views are stored -/
theorem adopt_mid {w W : World} {rv : List Value} {a0 a1 a2 a3 a4 tv : Value} (hr : Row W w.heap.size rv 77) (hk : Row W (w.heap.size + 1) [a0, a1, a2, a3, a4] 30) (hz : Row W (w.heap.size + 1 + 1) zcells 30) (hb : Below w.heap.size w W) (hs : w.heap.size + 3 ≤ W.heap.size) :
    Hid (Row ((W.setCell ⟨w.heap.size + 1, 0, none⟩ tv).setCell ⟨w.heap.size + 1, 1, none⟩ tv).drew w.heap.size rv 77) ∧ Hid (Row ((W.setCell ⟨w.heap.size + 1, 0, none⟩ tv).setCell ⟨w.heap.size + 1, 1, none⟩ tv).drew (w.heap.size + 1) [tv, tv, a2, a3, a4] 30) ∧ Hid (Row ((W.setCell ⟨w.heap.size + 1, 0, none⟩ tv).setCell ⟨w.heap.size + 1, 1, none⟩ tv).drew (w.heap.size + 1 + 1) zcells 30) ∧
      Hid (Below w.heap.size w ((W.setCell ⟨w.heap.size + 1, 0, none⟩ tv).setCell ⟨w.heap.size + 1, 1, none⟩ tv).drew) ∧ Hid (w.heap.size + 3 ≤ ((W.setCell ⟨w.heap.size + 1, 0, none⟩ tv).setCell ⟨w.heap.size + 1, 1, none⟩ tv).drew.heap.size) := by
  have hg := grownBy_trans (grownBy_setCell W ⟨w.heap.size + 1, 0, none⟩ tv) (grownBy_setCell _ ⟨w.heap.size + 1, 1, none⟩ tv)
  have h1 := (hk.set_same 0 tv).set_same 1 tv
  refine ⟨row_drew (hr.grew (Grew.of_grown hg) (fun e => by simp at e)), row_drew h1, row_drew (hz.grew (Grew.of_grown hg) (fun e => by simp at e)), (hb.grown hg hb.size (fun k e => by cases e; exact Nat.le_succ _)).drew, ?_⟩
  show _ ≤ _
  have := hg.size
  simp at this ⊢
  omega
/-- the tail: what is kept is answered -/
theorem mk_tailC {w w1 : World} {kv kn kb : Int} {ks : ByteArray} {v : Value} {es : List Ent} (hb : Below w.heap.size w w1) (hz : Row w1 (w.heap.size + 1 + 1) zcells 30) (C : Nat) (hC : w.heap.size + 3 ≤ C) (he : EO w1 C v es) :
    ∃ W, Hid ((((((w1.setCell ⟨w.heap.size + 1 + 1, 0, none⟩ (.int .i64 kv)).setCell ⟨w.heap.size + 1 + 1, 1, none⟩ (.int .i64 kn)).setCell ⟨w.heap.size + 1 + 1, 2, none⟩ (.int .i64 kb)).setCell ⟨w.heap.size + 1 + 1, 3, none⟩ (.string ks)).setCell ⟨w.heap.size + 1 + 1, 4, none⟩ v) = W) ∧
      Hid (Row W (w.heap.size + 1 + 1) [.int .i64 kv, .int .i64 kn, .int .i64 kb, .string ks, v] 30) ∧ Hid (Below w.heap.size w W) ∧ Hid (EO W w.heap.size v es) := by
  have HF := set5 hz (.int .i64 kv) (.int .i64 kn) (.int .i64 kb) (.string ks) v
  refine ⟨_, rfl, HF.1, hb.grown HF.2 hb.size (fun k e => by cases e; exact Nat.le_trans (Nat.le_succ _) (Nat.le_succ _)), ?_⟩
  exact (he.keepN HF.2 (by omega)).mono (by omega)
/-- the entries are stored -/
theorem adopt_put {w w1 : World} {a0 a1 a2 a3 a4 v : Value} {es : List Ent} (hb : Below w.heap.size w w1) (hk : Row w1 (w.heap.size + 1) [a0, a1, a2, a3, a4] 30) (hz : Row w1 (w.heap.size + 1 + 1) zcells 30) (he : EO w1 (w.heap.size + 3) v es) :
    Hid (Row (w1.setCell ⟨w.heap.size + 1, 4, none⟩ v) (w.heap.size + 1) [a0, a1, a2, a3, v] 30) ∧ Hid (Row (w1.setCell ⟨w.heap.size + 1, 4, none⟩ v) (w.heap.size + 1 + 1) zcells 30) ∧ Hid (Below w.heap.size w (w1.setCell ⟨w.heap.size + 1, 4, none⟩ v)) ∧ Hid (EO (w1.setCell ⟨w.heap.size + 1, 4, none⟩ v) (w.heap.size + 3) v es) := by
  have hg := grownBy_setCell w1 ⟨w.heap.size + 1, 4, none⟩ v
  exact ⟨hk.set_same 4 v, hz.grew (Grew.of_grown hg) (fun e => by simp at e), hb.grown hg hb.size (fun k e => by cases e; exact Nat.le_succ _), he.keepN hg (by show w.heap.size + 1 < w.heap.size + 3; omega)⟩
set_option maxHeartbeats 8000000 in
set_option maxRecDepth 100000 in
theorem adopt_any (r : Rc) (k : Kt) (vr vk : Value) (w : World) (hk : Es w vk k.ents) (hr : Es w vr r.told.ents) (hm : May k) (hro : r.ok) (hl : r.told.ents.length ≤ 100000000) : Calls Try.prog 69 #[r.val vr, k.val vk] w fun e w' => Mk w w' w.heap.size vk (adoptS r k) e := by
  have hko := hm.b0
  have hkg := hm.bg
  have hf := hm.few
  obtain ⟨hfr1, hfr2⟩ := hro.frm
  obtain ⟨kd, fr, ⟨tv, tn, tb, ts, te⟩⟩ := r
  obtain ⟨kv, kn, kb, ks, ke⟩ := k
  obtain ⟨kp, kc, rfl, hkc, hkc2⟩ := hk.form
  obtain ⟨rp, rc, rfl, _, _⟩ := hr.form
  simp only [Rc.val, Kt.val]
  simp only at hl hk hr hko hkg hf hfr1 hfr2 hkc hkc2
  obtain ⟨W3, H3, HZS, HR, HK, HZ, HB⟩ := rows3 w [.int .i64 kd, .int .i64 fr, .int .i64 tv, .int .i64 tn, .int .i64 tb, .string ts, .slice rp te.length rc] [.int .i64 kv, .int .i64 kn, .int .i64 kb, .string ks, .slice kp ke.length kc]
  have r1 : W3.cell? ⟨w.heap.size, 1, none⟩ = some (.int .i64 fr) := HR.out.cell 1
  have r2 : W3.cell? ⟨w.heap.size, 2, none⟩ = some (.int .i64 tv) := HR.out.cell 2
  have k0 : W3.cell? ⟨w.heap.size + 1, 0, none⟩ = some (.int .i64 kv) := HK.out.cell 0
  have k1 : W3.cell? ⟨w.heap.size + 1, 1, none⟩ = some (.int .i64 kn) := HK.out.cell 1
  have k2 : W3.cell? ⟨w.heap.size + 1, 2, none⟩ = some (.int .i64 kb) := HK.out.cell 2
  have k4 : W3.cell? ⟨w.heap.size + 1, 4, none⟩ = some (.slice kp ke.length kc) := HK.out.cell 4
  have g0 : W3.cell? ⟨w.heap.size + 1 + 1, 0, none⟩ = some (.int .i64 0) := HZ.out.cell 0
  have g1 : W3.cell? ⟨w.heap.size + 1 + 1, 1, none⟩ = some (.int .i64 0) := HZ.out.cell 1
  have g2 : W3.cell? ⟨w.heap.size + 1 + 1, 2, none⟩ = some (.int .i64 0) := HZ.out.cell 2
  have g3 : W3.cell? ⟨w.heap.size + 1 + 1, 3, none⟩ = some (.string ⟨#[]⟩) := HZ.out.cell 3
  have g4 : W3.cell? ⟨w.heap.size + 1 + 1, 4, none⟩ = some (.slice none 0 0) := HZ.out.cell 4
  have f0 := HZ.out.frozen 0
  have f1 := HZ.out.frozen 1
  have f2 := HZ.out.frozen 2
  have f3 := HZ.out.frozen 3
  have f4 := HZ.out.frozen 4
  have fk0 := HK.out.frozen 0
  have fk1 := HK.out.frozen 1
  have HA := hid_in (show adoptS ⟨kd, fr, ⟨tv, tn, tb, ts, te⟩⟩ ⟨kv, kn, kb, ks, ke⟩ = if fr < kb ∨ kb + (ke.length : Int) < fr ∨ tv < kv then none else some ⟨tv, tv, kb, ks, ke.take (fr - kb).toNat ++ te⟩ from rfl)
  rw [HA.out]
  have hw1 : IntKind.i64.wrap (kb + (ke.length : Int)) = kb + (ke.length : Int) := by rw [IntKind.wrap_i64]; omega
  by_cases c1 : fr < kb
  · rw [if_pos (.inl c1)]
    go_enter Try.func69, Try.ntmps69
    go_upto_region 1 with fail
    refine wp_world H3.out ?_
    go_wp2
    have HF := hid_in (set5 HZ.out (.int .i64 0) (.int .i64 0) (.int .i64 0) (.string ⟨#[]⟩) (.slice none 0 0))
    refine post_Row2 4 5 30 Try.results69 (w.heap.size + 1 + 1) rfl 30 _ HF.out.1 _ Try.underlying30 rfl 5 info30 rfl rfl ?_
    exact ⟨HB.out.grown HF.out.2 HB.out.size (fun k e => by cases e; omega), .inl ⟨rfl, rfl⟩⟩
  · by_cases c2 : kb + (ke.length : Int) < fr
    · rw [if_pos (.inr (.inl c2))]
      go_enter Try.func69, Try.ntmps69
      go_upto_region 1 with fail
      refine wp_world H3.out ?_
      go_wp2
      have HF := hid_in (set5 HZ.out (.int .i64 0) (.int .i64 0) (.int .i64 0) (.string ⟨#[]⟩) (.slice none 0 0))
      refine post_Row2 4 5 30 Try.results69 (w.heap.size + 1 + 1) rfl 30 _ HF.out.1 _ Try.underlying30 rfl 5 info30 rfl rfl ?_
      exact ⟨HB.out.grown HF.out.2 HB.out.size (fun k e => by cases e; omega), .inl ⟨rfl, rfl⟩⟩
    · by_cases c3 : tv < kv
      · rw [if_pos (.inr (.inr c3))]
        go_enter Try.func69, Try.ntmps69
        go_upto_region 1 with fail
        refine wp_world H3.out ?_
        go_wp2
        have HF := hid_in (set5 HZ.out (.int .i64 0) (.int .i64 0) (.int .i64 0) (.string ⟨#[]⟩) (.slice none 0 0))
        refine post_Row2 4 5 30 Try.results69 (w.heap.size + 1 + 1) rfl 30 _ HF.out.1 _ Try.underlying30 rfl 5 info30 rfl rfl ?_
        exact ⟨HB.out.grown HF.out.2 HB.out.size (fun k e => by cases e; omega), .inl ⟨rfl, rfl⟩⟩
      · rw [if_neg (by omega)]
        obtain ⟨m, hm⟩ : ∃ m : Nat, fr - kb = (m : Int) := ⟨(fr - kb).toNat, by omega⟩
        have hml : m ≤ ke.length := by omega
        rw [hm, Int.toNat_natCast]
        obtain rfl : fr = kb + (m : Int) := by omega
        have hz1 : kb + (m : Int) - kb = (m : Int) := by omega
        have hz2 : IntKind.i64.wrap (m : Int) = (m : Int) := by rw [IntKind.wrap_i64]; omega
        obtain ⟨ae, HAE⟩ : ∃ ae, Hid (ke.take m ++ te = ae) := ⟨_, hid_in rfl⟩
        have HC : Hid (∀ (W : World) (cb : Nat), Below w.heap.size w W → Row W cb [.slice kp m kc, .slice rp te.length rc] 28 → Calls Try.prog 85 #[.slice (some ⟨cb, 0, none⟩) 2 2] W fun e w' => ∃ v, e = .returned v ∧ EO w' W.heap.size v ae ∧ Below W.heap.size W w') := fun W cb hb hrow => by
          rw [← HAE.out]
          obtain ⟨_, _, he⟩ := (hk.below hb).first m hml
          exact econcat_any hrow he (hr.below hb) (by rw [List.length_take]; omega)
        have hsl := slice28_to kp ke.length kc m (by omega)
        rw [HAE.out]
        clear hk hr HA hkc hkc2
        go_enter Try.func69, Try.ntmps69
        go_upto_region 1 with fail
        refine wp_world H3.out ?_
        go_upto_region 3 with fail
        go_cut [5] from 31 to 38 (fun x W => x = .bool false ∧ Hid (Row W w.heap.size [.int .i64 kd, .int .i64 (kb + (m : Int)), .int .i64 tv, .int .i64 tn, .int .i64 tb, .string ts, .slice rp te.length rc] 77) ∧ Hid (Row W (w.heap.size + 1) [.int .i64 tv, .int .i64 tv, .int .i64 kb, .string ks, .slice kp ke.length kc] 30) ∧ Hid (Row W (w.heap.size + 1 + 1) zcells 30) ∧ Hid (Below w.heap.size w W) ∧ Hid (w.heap.size + 3 ≤ W.heap.size))
        case first =>
          go_region
          go_wp2_with fail
          go_meet
          exact ⟨rfl, adopt_mid HR.out HK.out HZ.out HB.out (Nat.le_of_eq HZS.out.symm)⟩
        case rest =>
          obtain ⟨rfl, HRA, HKA, HZA, HBA, HSA⟩ := hcut
          clear r1 r2 k0 k1 k2 k4 g0 g1 g2 g3 g4 f0 f1 f2 f3 f4 fk0 fk1 HR HK HZ HB HZS H3
          go_upto_region 4 with fail
          have r1 : wc.cell? ⟨w.heap.size, 1, none⟩ = some (.int .i64 (kb + (m : Int))) := HRA.out.cell 1
          have r6 : wc.cell? ⟨w.heap.size, 6, none⟩ = some (.slice rp te.length rc) := HRA.out.cell 6
          have k2 : wc.cell? ⟨w.heap.size + 1, 2, none⟩ = some (.int .i64 kb) := HKA.out.cell 2
          have k4 : wc.cell? ⟨w.heap.size + 1, 4, none⟩ = some (.slice kp ke.length kc) := HKA.out.cell 4
          have fk4 := HKA.out.frozen 4
          have hb4 : Below wc.heap.size wc (wc.alloc (.cells #[.slice kp m kc, .slice rp te.length rc] 28)).drew := ((Below.refl _ _).alloc (Nat.le_refl _) _).drew
          have HC4 := hid_in (HC.out _ wc.heap.size (HBA.out.trans (hb4.mono HBA.out.size)) (row_drew (Row.new wc [.slice kp m kc, .slice rp te.length rc] 28)))
          have HB4 := hid_in hb4
          clear hb4
          go_cut [51] from 39 to 52 (fun x W => ∃ c p, x = .slice p ae.length c ∧ Hid (Row W (w.heap.size + 1) [.int .i64 tv, .int .i64 tv, .int .i64 kb, .string ks, x] 30) ∧ Hid (Row W (w.heap.size + 1 + 1) zcells 30) ∧ Hid (Below w.heap.size w W) ∧ Hid (EO W (w.heap.size + 3) x ae))
          case first =>
            go_region_with (first | (go_at_call 85; refine HC4.out.mono ?_; rintro e w5 ⟨v, rfl, ho, hb⟩; obtain ⟨p, c, rfl⟩ := ho.form; have HO5 := hid_in ho; have HB5 := hid_in (HB4.out.trans (hb.mono HB4.out.size)); clear ho hb; have HK5 := hid_in (HKA.out.below HB5.out HKA.out.lt); have HZ5 := hid_in (HZA.out.below HB5.out HZA.out.lt); clear k2 k4 fk4; have k0 : w5.cell? ⟨w.heap.size + 1, 0, none⟩ = some (.int .i64 tv) := HK5.out.cell 0; have k1 : w5.cell? ⟨w.heap.size + 1, 1, none⟩ = some (.int .i64 tv) := HK5.out.cell 1; have k2 : w5.cell? ⟨w.heap.size + 1, 2, none⟩ = some (.int .i64 kb) := HK5.out.cell 2; have k3 : w5.cell? ⟨w.heap.size + 1, 3, none⟩ = some (.string ks) := HK5.out.cell 3; have k4 : w5.cell? ⟨w.heap.size + 1, 4, none⟩ = some (.slice kp ke.length kc) := HK5.out.cell 4; have fk4 := HK5.out.frozen 4))
            all_goals go_wp2_with fail
            all_goals go_meet
            all_goals obtain ⟨y1, y2, y3, y4⟩ := adopt_put (HBA.out.trans (HB5.out.mono HBA.out.size)) HK5.out HZ5.out (HO5.out.mono (by have := HSA.out; simp; omega))
            all_goals exact ⟨_, _, rfl, y1, y2, y3, y4⟩
          case rest =>
            obtain ⟨c, p, rfl, HKB, HZB, HBB, HOB⟩ := hcut
            clear r1 r6 k2 k4 fk4 HRA HKA HZA HBA HSA HC HC4 HB4
            have k0 : wc.cell? ⟨w.heap.size + 1, 0, none⟩ = some (.int .i64 tv) := HKB.out.cell 0
            have k1 : wc.cell? ⟨w.heap.size + 1, 1, none⟩ = some (.int .i64 tv) := HKB.out.cell 1
            have k2 : wc.cell? ⟨w.heap.size + 1, 2, none⟩ = some (.int .i64 kb) := HKB.out.cell 2
            have k3 : wc.cell? ⟨w.heap.size + 1, 3, none⟩ = some (.string ks) := HKB.out.cell 3
            have k4 : wc.cell? ⟨w.heap.size + 1, 4, none⟩ = some (.slice p ae.length c) := HKB.out.cell 4
            have g0 : wc.cell? ⟨w.heap.size + 1 + 1, 0, none⟩ = some (.int .i64 0) := HZB.out.cell 0
            have g1 : wc.cell? ⟨w.heap.size + 1 + 1, 1, none⟩ = some (.int .i64 0) := HZB.out.cell 1
            have g2 : wc.cell? ⟨w.heap.size + 1 + 1, 2, none⟩ = some (.int .i64 0) := HZB.out.cell 2
            have g3 : wc.cell? ⟨w.heap.size + 1 + 1, 3, none⟩ = some (.string ⟨#[]⟩) := HZB.out.cell 3
            have g4 : wc.cell? ⟨w.heap.size + 1 + 1, 4, none⟩ = some (.slice none 0 0) := HZB.out.cell 4
            have f0 := HZB.out.frozen 0
            have f1 := HZB.out.frozen 1
            have f2 := HZB.out.frozen 2
            have f3 := HZB.out.frozen 3
            have f4 := HZB.out.frozen 4
            go_wp2
            obtain ⟨W, HW, HRW, HBW, HOW⟩ := mk_tailC (kv := tv) (kn := tv) (kb := kb) (ks := ks) HBB.out HZB.out _ (Nat.le_refl _) HOB.out
            refine bodyPost_world HW.out ?_
            refine post_Row2 4 5 30 Try.results69 (w.heap.size + 1 + 1) rfl 30 _ HRW.out _ Try.underlying30 rfl 5 info30 rfl rfl ?_
            exact ⟨HBW.out, .inr ⟨_, _, rfl, rfl, HOW.out.es, .inr HOW.out⟩⟩
end Go.Proofs.Ytjjofjnhhajjjaa.Jr
