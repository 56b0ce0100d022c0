/-
  What a record of the kind adopt makes of what is kept. An entry's fields, and those of several, put behind what an Out has. Small laws on memory, on rows of a call's own, on slices of bytes; and of the walk for a block that is known whole.
-/
import Derived.Laws.Tables
import Derived.OwnWalk
import Derived.Lib.SlBytesConst
import Derived.Deep.RegionLaw
import Derived.Deep.CutRange
import Derived.Laws.CopyOwn
import Derived.Deep.DrawnRows
import Derived.Laws.StructEq
import Derived.WalkKit
import Derived.WalkSpells
import Derived.WalkLawsBesides
import Derived.Deep.AppendLies
import Derived.Deep.MidRow
import Derived.Deep.Light
import Derived.Laws.AppendOwnNone
import Derived.Laws.BytesArg
import Derived.Lib.Strings
import Derived.BigQuiet
import Derived.BigRegion
import Derived.Test.YtjjofjnhhajjjaaC00
import Derived.Test.YtjjofjnhhajjjaaC01
import Derived.Test.YtjjofjnhhajjjaaC02
import Derived.Test.YtjjofjnhhajjjaaC03
import Derived.Test.YtjjofjnhhajjjaaC04
import Derived.Test.YtjjofjnhhajjjaaC05
import Derived.Test.YtjjofjnhhajjjaaC06
import Derived.Test.YtjjofjnhhajjjaaC07
import Derived.Test.YtjjofjnhhajjjaaC08
import Derived.Test.YtjjofjnhhajjjaaC09
import Derived.Test.YtjjofjnhhajjjaaC10
import Derived.Test.YtjjofjnhhajjjaaC11
import Derived.Test.YtjjofjnhhajjjaaC12
namespace Go.Proofs.Ytjjofjnhhajjjaa.Jr
open Go.RowKit
open Nd (Row wp_world post_Row post_Row2 grownBy_setCell grownBy_trans below_of_grown u8v Grew Sl hid_in i64r bytesS str encO)
theorem row_drew {w : World} {b : Nat} {vs : List Value} {t : TypeId} (h : Row w b vs t) : Row w.drew b vs t := h.below (B := w.heap.size) ((Below.refl _ _).drew) h.lt
/-- the two views are stored -/
theorem adopt_mid {w W : World} {rv : List Value} {a0 a1 a2 a3 a4 tv : Value} (hr : Row W w.heap.size rv 77) (hk : Row W (w.heap.size + 1) [a0, a1, a2, a3, a4] 30) (hz : Row W (w.heap.size + 1 + 1) zcells 30) (hb : Below w.heap.size w W) (hs : w.heap.size + 3 ≤ W.heap.size) :
    Hid (Row ((W.setCell ⟨w.heap.size + 1, 0, none⟩ tv).setCell ⟨w.heap.size + 1, 1, none⟩ tv).drew w.heap.size rv 77) ∧ Hid (Row ((W.setCell ⟨w.heap.size + 1, 0, none⟩ tv).setCell ⟨w.heap.size + 1, 1, none⟩ tv).drew (w.heap.size + 1) [tv, tv, a2, a3, a4] 30) ∧ Hid (Row ((W.setCell ⟨w.heap.size + 1, 0, none⟩ tv).setCell ⟨w.heap.size + 1, 1, none⟩ tv).drew (w.heap.size + 1 + 1) zcells 30) ∧
      Hid (Below w.heap.size w ((W.setCell ⟨w.heap.size + 1, 0, none⟩ tv).setCell ⟨w.heap.size + 1, 1, none⟩ tv).drew) ∧ Hid (w.heap.size + 3 ≤ ((W.setCell ⟨w.heap.size + 1, 0, none⟩ tv).setCell ⟨w.heap.size + 1, 1, none⟩ tv).drew.heap.size) := by
  have hg := grownBy_trans (grownBy_setCell W ⟨w.heap.size + 1, 0, none⟩ tv) (grownBy_setCell _ ⟨w.heap.size + 1, 1, none⟩ tv)
  have h1 := (hk.set_same 0 tv).set_same 1 tv
  refine ⟨row_drew (hr.grew (Grew.of_grown hg) (fun e => by simp at e)), row_drew h1, row_drew (hz.grew (Grew.of_grown hg) (fun e => by simp at e)), (hb.grown hg hb.size (fun k e => by cases e; exact Nat.le_succ _)).drew, ?_⟩
  show _ ≤ _
  have := hg.size
  simp at this ⊢
  omega
/-- the tail: what is kept is answered -/
theorem mk_tailC {w w1 : World} {kv kn kb : Int} {ks : ByteArray} {v : Value} {es : List Ent} (hb : Below w.heap.size w w1) (hz : Row w1 (w.heap.size + 1 + 1) zcells 30) (C : Nat) (hC : w.heap.size + 3 ≤ C) (he : EO w1 C v es) :
    ∃ W, Hid ((((((w1.setCell ⟨w.heap.size + 1 + 1, 0, none⟩ (.int .i64 kv)).setCell ⟨w.heap.size + 1 + 1, 1, none⟩ (.int .i64 kn)).setCell ⟨w.heap.size + 1 + 1, 2, none⟩ (.int .i64 kb)).setCell ⟨w.heap.size + 1 + 1, 3, none⟩ (.string ks)).setCell ⟨w.heap.size + 1 + 1, 4, none⟩ v) = W) ∧
      Hid (Row W (w.heap.size + 1 + 1) [.int .i64 kv, .int .i64 kn, .int .i64 kb, .string ks, v] 30) ∧ Hid (Below w.heap.size w W) ∧ Hid (EO W w.heap.size v es) := by
  have HF := set5 hz (.int .i64 kv) (.int .i64 kn) (.int .i64 kb) (.string ks) v
  refine ⟨_, rfl, HF.1, hb.grown HF.2 hb.size (fun k e => by cases e; exact Nat.le_trans (Nat.le_succ _) (Nat.le_succ _)), ?_⟩
  exact (he.keepN HF.2 (by omega)).mono (by omega)
/-- the entries are stored -/
theorem adopt_put {w w1 : World} {a0 a1 a2 a3 a4 v : Value} {es : List Ent} (hb : Below w.heap.size w w1) (hk : Row w1 (w.heap.size + 1) [a0, a1, a2, a3, a4] 30) (hz : Row w1 (w.heap.size + 1 + 1) zcells 30) (he : EO w1 (w.heap.size + 3) v es) :
    Hid (Row (w1.setCell ⟨w.heap.size + 1, 4, none⟩ v) (w.heap.size + 1) [a0, a1, a2, a3, v] 30) ∧ Hid (Row (w1.setCell ⟨w.heap.size + 1, 4, none⟩ v) (w.heap.size + 1 + 1) zcells 30) ∧ Hid (Below w.heap.size w (w1.setCell ⟨w.heap.size + 1, 4, none⟩ v)) ∧ Hid (EO (w1.setCell ⟨w.heap.size + 1, 4, none⟩ v) (w.heap.size + 3) v es) := by
  have hg := grownBy_setCell w1 ⟨w.heap.size + 1, 4, none⟩ v
  exact ⟨hk.set_same 4 v, hz.grew (Grew.of_grown hg) (fun e => by simp at e), hb.grown hg hb.size (fun k e => by cases e; exact Nat.le_succ _), he.keepN hg (by show w.heap.size + 1 < w.heap.size + 3; omega)⟩
set_option maxHeartbeats 8000000 in
set_option maxRecDepth 100000 in
theorem adopt_any (r : Rc) (k : Kt) (vr vk : Value) (w : World) (hk : Es w vk k.ents) (hr : Es w vr r.told.ents) (hm : May k) (hro : r.ok) (hl : r.told.ents.length ≤ 100000000) : Calls Try.prog 69 #[r.val vr, k.val vk] w fun e w' => Mk w w' w.heap.size vk (adoptS r k) e := by
  have hko := hm.b0
  have hkg := hm.bg
  have hf := hm.few
  obtain ⟨hfr1, hfr2⟩ := hro.frm
  obtain ⟨kd, fr, ⟨tv, tn, tb, ts, te⟩⟩ := r
  obtain ⟨kv, kn, kb, ks, ke⟩ := k
  obtain ⟨kp, kc, rfl, hkc, hkc2⟩ := hk.form
  obtain ⟨rp, rc, rfl, _, _⟩ := hr.form
  simp only [Rc.val, Kt.val]
  simp only at hl hk hr hko hkg hf hfr1 hfr2 hkc hkc2
  obtain ⟨W3, H3, HZS, HR, HK, HZ, HB⟩ := rows3 w [.int .i64 kd, .int .i64 fr, .int .i64 tv, .int .i64 tn, .int .i64 tb, .string ts, .slice rp te.length rc] [.int .i64 kv, .int .i64 kn, .int .i64 kb, .string ks, .slice kp ke.length kc]
  have r1 : W3.cell? ⟨w.heap.size, 1, none⟩ = some (.int .i64 fr) := HR.out.cell 1
  have r2 : W3.cell? ⟨w.heap.size, 2, none⟩ = some (.int .i64 tv) := HR.out.cell 2
  have k0 : W3.cell? ⟨w.heap.size + 1, 0, none⟩ = some (.int .i64 kv) := HK.out.cell 0
  have k1 : W3.cell? ⟨w.heap.size + 1, 1, none⟩ = some (.int .i64 kn) := HK.out.cell 1
  have k2 : W3.cell? ⟨w.heap.size + 1, 2, none⟩ = some (.int .i64 kb) := HK.out.cell 2
  have k4 : W3.cell? ⟨w.heap.size + 1, 4, none⟩ = some (.slice kp ke.length kc) := HK.out.cell 4
  have g0 : W3.cell? ⟨w.heap.size + 1 + 1, 0, none⟩ = some (.int .i64 0) := HZ.out.cell 0
  have g1 : W3.cell? ⟨w.heap.size + 1 + 1, 1, none⟩ = some (.int .i64 0) := HZ.out.cell 1
  have g2 : W3.cell? ⟨w.heap.size + 1 + 1, 2, none⟩ = some (.int .i64 0) := HZ.out.cell 2
  have g3 : W3.cell? ⟨w.heap.size + 1 + 1, 3, none⟩ = some (.string ⟨#[]⟩) := HZ.out.cell 3
  have g4 : W3.cell? ⟨w.heap.size + 1 + 1, 4, none⟩ = some (.slice none 0 0) := HZ.out.cell 4
  have f0 := HZ.out.frozen 0
  have f1 := HZ.out.frozen 1
  have f2 := HZ.out.frozen 2
  have f3 := HZ.out.frozen 3
  have f4 := HZ.out.frozen 4
  have fk0 := HK.out.frozen 0
  have fk1 := HK.out.frozen 1
  have HA := hid_in (show adoptS ⟨kd, fr, ⟨tv, tn, tb, ts, te⟩⟩ ⟨kv, kn, kb, ks, ke⟩ = if fr < kb ∨ kb + (ke.length : Int) < fr ∨ tv < kv then none else some ⟨tv, tv, kb, ks, ke.take (fr - kb).toNat ++ te⟩ from rfl)
  rw [HA.out]
  have hw1 : IntKind.i64.wrap (kb + (ke.length : Int)) = kb + (ke.length : Int) := by rw [IntKind.wrap_i64]; omega
  by_cases c1 : fr < kb
  · rw [if_pos (.inl c1)]
    go_enter Try.func69, Try.ntmps69
    go_upto_region 1 with fail
    refine wp_world H3.out ?_
    go_wp2
    have HF := hid_in (set5 HZ.out (.int .i64 0) (.int .i64 0) (.int .i64 0) (.string ⟨#[]⟩) (.slice none 0 0))
    refine post_Row2 4 5 30 Try.results69 (w.heap.size + 1 + 1) rfl 30 _ HF.out.1 _ Try.underlying30 rfl 5 info30 rfl rfl ?_
    exact ⟨HB.out.grown HF.out.2 HB.out.size (fun k e => by cases e; omega), .inl ⟨rfl, rfl⟩⟩
  · by_cases c2 : kb + (ke.length : Int) < fr
    · rw [if_pos (.inr (.inl c2))]
      go_enter Try.func69, Try.ntmps69
      go_upto_region 1 with fail
      refine wp_world H3.out ?_
      go_wp2
      have HF := hid_in (set5 HZ.out (.int .i64 0) (.int .i64 0) (.int .i64 0) (.string ⟨#[]⟩) (.slice none 0 0))
      refine post_Row2 4 5 30 Try.results69 (w.heap.size + 1 + 1) rfl 30 _ HF.out.1 _ Try.underlying30 rfl 5 info30 rfl rfl ?_
      exact ⟨HB.out.grown HF.out.2 HB.out.size (fun k e => by cases e; omega), .inl ⟨rfl, rfl⟩⟩
    · by_cases c3 : tv < kv
      · rw [if_pos (.inr (.inr c3))]
        go_enter Try.func69, Try.ntmps69
        go_upto_region 1 with fail
        refine wp_world H3.out ?_
        go_wp2
        have HF := hid_in (set5 HZ.out (.int .i64 0) (.int .i64 0) (.int .i64 0) (.string ⟨#[]⟩) (.slice none 0 0))
        refine post_Row2 4 5 30 Try.results69 (w.heap.size + 1 + 1) rfl 30 _ HF.out.1 _ Try.underlying30 rfl 5 info30 rfl rfl ?_
        exact ⟨HB.out.grown HF.out.2 HB.out.size (fun k e => by cases e; omega), .inl ⟨rfl, rfl⟩⟩
      · rw [if_neg (by omega)]
        obtain ⟨m, hm⟩ : ∃ m : Nat, fr - kb = (m : Int) := ⟨(fr - kb).toNat, by omega⟩
        have hml : m ≤ ke.length := by omega
        rw [hm, Int.toNat_natCast]
        obtain rfl : fr = kb + (m : Int) := by omega
        have hz1 : kb + (m : Int) - kb = (m : Int) := by omega
        have hz2 : IntKind.i64.wrap (m : Int) = (m : Int) := by rw [IntKind.wrap_i64]; omega
        obtain ⟨ae, HAE⟩ : ∃ ae, Hid (ke.take m ++ te = ae) := ⟨_, hid_in rfl⟩
        have HC : Hid (∀ (W : World) (cb : Nat), Below w.heap.size w W → Row W cb [.slice kp m kc, .slice rp te.length rc] 28 → Calls Try.prog 85 #[.slice (some ⟨cb, 0, none⟩) 2 2] W fun e w' => ∃ v, e = .returned v ∧ EO w' W.heap.size v ae ∧ Below W.heap.size W w') := fun W cb hb hrow => by
          rw [← HAE.out]
          obtain ⟨_, _, he⟩ := (hk.below hb).first m hml
          exact econcat_any hrow he (hr.below hb) (by rw [List.length_take]; omega)
        have hsl := slice28_to kp ke.length kc m (by omega)
        rw [HAE.out]
        clear hk hr HA hkc hkc2
        go_enter Try.func69, Try.ntmps69
        go_upto_region 1 with fail
        refine wp_world H3.out ?_
        go_upto_region 3 with fail
        go_cut [5] from 31 to 38 (fun x W => x = .bool false ∧ Hid (Row W w.heap.size [.int .i64 kd, .int .i64 (kb + (m : Int)), .int .i64 tv, .int .i64 tn, .int .i64 tb, .string ts, .slice rp te.length rc] 77) ∧ Hid (Row W (w.heap.size + 1) [.int .i64 tv, .int .i64 tv, .int .i64 kb, .string ks, .slice kp ke.length kc] 30) ∧ Hid (Row W (w.heap.size + 1 + 1) zcells 30) ∧ Hid (Below w.heap.size w W) ∧ Hid (w.heap.size + 3 ≤ W.heap.size))
        case first =>
          go_region
          go_wp2_with fail
          go_meet
          exact ⟨rfl, adopt_mid HR.out HK.out HZ.out HB.out (Nat.le_of_eq HZS.out.symm)⟩
        case rest =>
          obtain ⟨rfl, HRA, HKA, HZA, HBA, HSA⟩ := hcut
          clear r1 r2 k0 k1 k2 k4 g0 g1 g2 g3 g4 f0 f1 f2 f3 f4 fk0 fk1 HR HK HZ HB HZS H3
          go_upto_region 4 with fail
          have r1 : wc.cell? ⟨w.heap.size, 1, none⟩ = some (.int .i64 (kb + (m : Int))) := HRA.out.cell 1
          have r6 : wc.cell? ⟨w.heap.size, 6, none⟩ = some (.slice rp te.length rc) := HRA.out.cell 6
          have k2 : wc.cell? ⟨w.heap.size + 1, 2, none⟩ = some (.int .i64 kb) := HKA.out.cell 2
          have k4 : wc.cell? ⟨w.heap.size + 1, 4, none⟩ = some (.slice kp ke.length kc) := HKA.out.cell 4
          have fk4 := HKA.out.frozen 4
          have hb4 : Below wc.heap.size wc (wc.alloc (.cells #[.slice kp m kc, .slice rp te.length rc] 28)).drew := ((Below.refl _ _).alloc (Nat.le_refl _) _).drew
          have HC4 := hid_in (HC.out _ wc.heap.size (HBA.out.trans (hb4.mono HBA.out.size)) (row_drew (Row.new wc [.slice kp m kc, .slice rp te.length rc] 28)))
          have HB4 := hid_in hb4
          clear hb4
          go_cut [51] from 39 to 52 (fun x W => ∃ c p, x = .slice p ae.length c ∧ Hid (Row W (w.heap.size + 1) [.int .i64 tv, .int .i64 tv, .int .i64 kb, .string ks, x] 30) ∧ Hid (Row W (w.heap.size + 1 + 1) zcells 30) ∧ Hid (Below w.heap.size w W) ∧ Hid (EO W (w.heap.size + 3) x ae))
          case first =>
            go_region_with (first | (go_at_call 85; refine HC4.out.mono ?_; rintro e w5 ⟨v, rfl, ho, hb⟩; obtain ⟨p, c, rfl⟩ := ho.form; have HO5 := hid_in ho; have HB5 := hid_in (HB4.out.trans (hb.mono HB4.out.size)); clear ho hb; have HK5 := hid_in (HKA.out.below HB5.out HKA.out.lt); have HZ5 := hid_in (HZA.out.below HB5.out HZA.out.lt); clear k2 k4 fk4; have k0 : w5.cell? ⟨w.heap.size + 1, 0, none⟩ = some (.int .i64 tv) := HK5.out.cell 0; have k1 : w5.cell? ⟨w.heap.size + 1, 1, none⟩ = some (.int .i64 tv) := HK5.out.cell 1; have k2 : w5.cell? ⟨w.heap.size + 1, 2, none⟩ = some (.int .i64 kb) := HK5.out.cell 2; have k3 : w5.cell? ⟨w.heap.size + 1, 3, none⟩ = some (.string ks) := HK5.out.cell 3; have k4 : w5.cell? ⟨w.heap.size + 1, 4, none⟩ = some (.slice kp ke.length kc) := HK5.out.cell 4; have fk4 := HK5.out.frozen 4))
            all_goals go_wp2_with fail
            all_goals go_meet
            all_goals obtain ⟨y1, y2, y3, y4⟩ := adopt_put (HBA.out.trans (HB5.out.mono HBA.out.size)) HK5.out HZ5.out (HO5.out.mono (by have := HSA.out; simp; omega))
            all_goals exact ⟨_, _, rfl, y1, y2, y3, y4⟩
          case rest =>
            obtain ⟨c, p, rfl, HKB, HZB, HBB, HOB⟩ := hcut
            clear r1 r6 k2 k4 fk4 HRA HKA HZA HBA HSA HC HC4 HB4
            have k0 : wc.cell? ⟨w.heap.size + 1, 0, none⟩ = some (.int .i64 tv) := HKB.out.cell 0
            have k1 : wc.cell? ⟨w.heap.size + 1, 1, none⟩ = some (.int .i64 tv) := HKB.out.cell 1
            have k2 : wc.cell? ⟨w.heap.size + 1, 2, none⟩ = some (.int .i64 kb) := HKB.out.cell 2
            have k3 : wc.cell? ⟨w.heap.size + 1, 3, none⟩ = some (.string ks) := HKB.out.cell 3
            have k4 : wc.cell? ⟨w.heap.size + 1, 4, none⟩ = some (.slice p ae.length c) := HKB.out.cell 4
            have g0 : wc.cell? ⟨w.heap.size + 1 + 1, 0, none⟩ = some (.int .i64 0) := HZB.out.cell 0
            have g1 : wc.cell? ⟨w.heap.size + 1 + 1, 1, none⟩ = some (.int .i64 0) := HZB.out.cell 1
            have g2 : wc.cell? ⟨w.heap.size + 1 + 1, 2, none⟩ = some (.int .i64 0) := HZB.out.cell 2
            have g3 : wc.cell? ⟨w.heap.size + 1 + 1, 3, none⟩ = some (.string ⟨#[]⟩) := HZB.out.cell 3
            have g4 : wc.cell? ⟨w.heap.size + 1 + 1, 4, none⟩ = some (.slice none 0 0) := HZB.out.cell 4
            have f0 := HZB.out.frozen 0
            have f1 := HZB.out.frozen 1
            have f2 := HZB.out.frozen 2
            have f3 := HZB.out.frozen 3
            have f4 := HZB.out.frozen 4
            go_wp2
            obtain ⟨W, HW, HRW, HBW, HOW⟩ := mk_tailC (kv := tv) (kn := tv) (kb := kb) (ks := ks) HBB.out HZB.out _ (Nat.le_refl _) HOB.out
            refine bodyPost_world HW.out ?_
            refine post_Row2 4 5 30 Try.results69 (w.heap.size + 1 + 1) rfl 30 _ HRW.out _ Try.underlying30 rfl 5 info30 rfl rfl ?_
            exact ⟨HBW.out, .inr ⟨_, _, rfl, rfl, HOW.out.es, .inr HOW.out⟩⟩
end Go.Proofs.Ytjjofjnhhajjjaa.Jr
namespace Go.Proofs.Ytjjofjnhhajjjaa.Jr
open Go.RowKit
open Nd (Row wp_world post_Row grownBy_setCell grownBy_trans below_of_grown u8v Grew Sl hid_in i64r bytesS str encO OutB OutA)
/-- the Out at block g has made the bytes xs, at most m -/
def OutL (w : World) (B g : Nat) (xs : List Nat) (m : Nat) : Prop := OutB w B g xs ∧ xs.length ≤ m
theorem OutL.below {w w' : World} {B g m : Nat} {xs : List Nat} (h : OutL w B g xs m) (hb : Below w.heap.size w w') : OutL w' B g xs m := ⟨Nd.OutB.below h.1 hb, h.2⟩
theorem num_l (w : World) (B g : Nat) (xs : List Nat) (m n : Nat) (hn : n < 18446744073709551616) (hg : B ≤ g) (ho : OutL w B g xs m) (hl : m ≤ 100000000000) :
    Calls Try.prog 88 #[.pointer (some ⟨g, 0, none⟩), .int .u64 (n : Int)] w fun e w' => e = .returned (.tuple #[]) ∧ OutL w' B g (xs ++ Nd.Wire.num n) (m + 10) ∧ Below B w w' := by
  have h2 := ho.2
  refine (Nd.num_o w B g xs n hn hg ho.1 (by omega)).mono ?_
  rintro e w' ⟨rfl, h3, h4⟩
  have := Nd.num_length n
  exact ⟨rfl, ⟨h3, by rw [List.length_append]; omega⟩, h4⟩
theorem text_l (w : World) (B g : Nat) (xs : List Nat) (m : Nat) (s : ByteArray) (hg : B ≤ g) (ho : OutL w B g xs m) (hl : m ≤ 100000000000) (hs : s.size ≤ 100000) :
    Calls Try.prog 76 #[.pointer (some ⟨g, 0, none⟩), .string s] w fun e w' => e = .returned (.tuple #[]) ∧ OutL w' B g (xs ++ (Nd.Wire.num s.size ++ bytesS s)) (m + 100010) ∧ Below B w w' := by
  have h2 := ho.2
  refine (Nd.text_o w B g xs s hg ho.1 (by omega)).mono ?_
  rintro e w' ⟨rfl, h3, h4⟩
  have := Nd.num_length s.size
  exact ⟨rfl, ⟨h3, by simp only [List.length_append, Nd.bytesS_length]; omega⟩, h4⟩
/-- the Out at block g has made the bytes xs; its bytes lie in no block from N up to M -/
def OutZ (w : World) (B g N M : Nat) (xs : List Nat) : Prop := ∃ v, Nd.OutIs w B g v xs ∧ ∀ q, v.ownBlock = some q → q < N ∨ M ≤ q
theorem OutL.toZ {w w' : World} {B g m M : Nat} {xs : List Nat} (h : OutL w B g xs m) (hb : Below w.heap.size w w') : OutZ w' B g w.heap.size M xs := by
  obtain ⟨⟨v, hv⟩, _⟩ := h
  exact ⟨v, hv.below hb, fun q hq => .inl (World.ownsRow.lt hv.own q hq).2⟩
theorem OutZ.to {w : World} {B g N M : Nat} {xs : List Nat} (h : OutZ w B g N M xs) : OutB w B g xs := by
  obtain ⟨v, hv, _⟩ := h
  exact ⟨v, hv⟩
theorem outZ_step {w w' : World} {B g N M : Nat} {v v' : Value} {xs ys : List Nat} (hg : B ≤ g) (hN : g < N) (hM : M ≤ w.heap.size) (hv : Nd.OutIs w B g v xs) (hz : ∀ q, v.ownBlock = some q → q < N ∨ M ≤ q) (h1 : Nd.OutIs w' B g v' ys) (h2 : Grew w w' (Nd.OutS g v)) (h3 : Nd.Moved w v v') :
    OutZ w' B g N M ys ∧ Below B w w' ∧ Grew w w' (fun k => k < N ∨ M ≤ k) := by
  refine ⟨⟨v', h1, fun q hq => ?_⟩, Nd.out_below hg hv h2, h2.mono ?_⟩
  · rcases h3 with h3 | ⟨r, h3, h4⟩
    · exact hz q (h3 ▸ hq)
    · rw [h3] at hq
      cases hq
      exact .inr (Nat.le_trans hM h4)
  · rintro k (rfl | hk)
    · exact .inl hN
    · exact hz k hk.symm
theorem int_z (w : World) (B g N M : Nat) (xs : List Nat) (n : Int) (hn : i64r n) (hg : B ≤ g) (hN : g < N) (hM : M ≤ w.heap.size) (ho : OutZ w B g N M xs) (hl : xs.length + 10 ≤ 140737488355328) :
    Calls Try.prog 75 #[.pointer (some ⟨g, 0, none⟩), .int .i64 n] w fun e w' => e = .returned (.tuple #[]) ∧ OutZ w' B g N M (xs ++ Nd.Wire.num (Nd.Wire.zz n)) ∧ Below B w w' ∧ Grew w w' (fun k => k < N ∨ M ≤ k) := by
  obtain ⟨v, hv, hz⟩ := ho
  refine (Nd.oint_any w B g v xs n hn.1 hn.2 hv hl).mono ?_
  rintro e w' ⟨rfl, v', h1, h2, h3⟩
  exact ⟨rfl, outZ_step hg hN hM hv hz h1 h2 h3⟩
set_option maxHeartbeats 2000000 in
set_option maxRecDepth 100000 in
theorem putEntry_any (w : World) (B g : Nat) (xs : List Nat) (m : Nat) (e : Ent) (hg : B ≤ g) (ho : OutL w B g xs m) (hl : m ≤ 100000000000) (he : e.ok) (hs : e.op.short) :
    Calls Try.prog 89 #[.pointer (some ⟨g, 0, none⟩), e.val] w fun x w' => x = .returned (.tuple #[]) ∧ OutL w' B g (xs ++ entS e) (m + 4030) ∧ Below B w w' := by
  obtain ⟨cl, nu, ⟨kd, pa, de, da, at_, sz⟩⟩ := e
  simp only [Ent.val]
  have hb := Nd.OutB.base ho.1
  have hgl := Nd.OutB.blk ho.1
  obtain ⟨W1, H1, HR1, HB1, HS1⟩ := row_new w [.int .i64 cl, .int .i64 nu, .int .i64 kd, .string pa, .string de, .string da, .int .i64 at_, .int .i64 sz] 51
  have HZ := hid_in (fun M W (hb : Below w.heap.size w W) => OutL.toZ (M := M) ho hb)
  have HE := hid_in (Nd.encode_ok ⟨kd, pa, de, da, at_, sz⟩ he.op hs W1)
  have HCL := hid_in he.cl
  have HNU := hid_in he.nu
  have h2 := ho.2
  have hel := Nd.encO_len ⟨kd, pa, de, da, at_, sz⟩ hs
  have HLT := hid_in (Nd.encO_lt he.op hs)
  have hz1 := Nd.num_length (Nd.Wire.zz cl)
  have hz2 := Nd.num_length (Nd.Wire.zz nu)
  have hz3 := Nd.num_length (encO ⟨kd, pa, de, da, at_, sz⟩).length
  have HL0 : Hid (xs.length + 10 ≤ 140737488355328) := by show _ ≤ _; omega
  have HL1 : Hid ((xs ++ Nd.Wire.num (Nd.Wire.zz cl)).length + 10 ≤ 140737488355328) := by show _ ≤ _; rw [List.length_append]; omega
  have HL2 : Hid (((xs ++ Nd.Wire.num (Nd.Wire.zz cl)) ++ Nd.Wire.num (Nd.Wire.zz nu)).length + 10 + (str (encO ⟨kd, pa, de, da, at_, sz⟩)).size ≤ 140737488355328) := by
    show _ ≤ _
    rw [Nd.str_size, List.length_append, List.length_append]; omega
  have HL3 : Hid ((xs ++ entS ⟨cl, nu, ⟨kd, pa, de, da, at_, sz⟩⟩).length ≤ m + 4030) := by
    show _ ≤ _
    unfold entS
    simp only [List.length_append]
    omega
  have HXX : Hid (xs ++ entS ⟨cl, nu, ⟨kd, pa, de, da, at_, sz⟩⟩ = ((xs ++ Nd.Wire.num (Nd.Wire.zz cl)) ++ Nd.Wire.num (Nd.Wire.zz nu)) ++ (Nd.Wire.num (str (encO ⟨kd, pa, de, da, at_, sz⟩)).size ++ bytesS (str (encO ⟨kd, pa, de, da, at_, sz⟩)))) := by
    show _ = _
    rw [Nd.str_size, Nd.bytesS_str HLT.out]
    unfold entS
    simp
  generalize encO ⟨kd, pa, de, da, at_, sz⟩ = eb at *
  have HBB := hid_in hb
  have HGL := hid_in hgl
  have q2 : W1.cell? ⟨w.heap.size, 2, none⟩ = some (.int .i64 kd) := HR1.out.cell 2
  have q3 : W1.cell? ⟨w.heap.size, 3, none⟩ = some (.string pa) := HR1.out.cell 3
  have q4 : W1.cell? ⟨w.heap.size, 4, none⟩ = some (.string de) := HR1.out.cell 4
  have q5 : W1.cell? ⟨w.heap.size, 5, none⟩ = some (.string da) := HR1.out.cell 5
  have q6 : W1.cell? ⟨w.heap.size, 6, none⟩ = some (.int .i64 at_) := HR1.out.cell 6
  have q7 : W1.cell? ⟨w.heap.size, 7, none⟩ = some (.int .i64 sz) := HR1.out.cell 7
  clear ho he hs h2 hel hz1 hz2 hz3 hl hb hgl
  go_enter Try.func89, Try.ntmps89
  go_upto_region 1 with fail
  refine wp_world H1.out ?_
  go_upto_region 2 with (first | (go_at_call 56; refine HE.out.mono ?_; rintro x w2 ⟨⟨u, rfl, hu⟩, hb⟩; have HOW := hid_in hu; obtain ⟨p, c, b, rfl, hsl, hno⟩ := Nd.own_sl HLT.out hu; have HSL := hid_in hsl; have HB2 := hid_in hb; clear hsl hno hu hb))
  have HR2 := hid_in (HR1.out.below HB2.out HR1.out.lt)
  have HA2 := hid_in (HZ.out w2.heap.size w2 (HB1.out.trans (HB2.out.mono HB1.out.size)))
  have HI2 : Hid (w.heap.size < w2.heap.size) := HR2.out.lt
  have HBI : Hid (0 < eb.length → w.heap.size < b ∧ b < w2.heap.size) := fun h0 => by
    have e1 := HSL.out.at_ h0
    subst e1
    have e2 := World.ownsRow.lt HOW.out b rfl
    rw [HS1.out] at e2
    exact ⟨by omega, e2.2⟩
  have r0 : w2.cell? ⟨w.heap.size, 0, none⟩ = some (.int .i64 cl) := HR2.out.cell 0
  go_upto_region 3 with (first | (go_at_call 75; refine (int_z _ B g w.heap.size w2.heap.size _ cl HCL.out hg HGL.out (Nat.le_refl _) HA2.out HL0.out).mono ?_; rintro x w3 ⟨rfl, h1, h2, h3⟩; have HA3 := hid_in h1; have HB3 := hid_in h2; have HR3 := hid_in (HR2.out.grew h3 (fun h => by have := HI2.out; omega)); have HG3 := hid_in h3; clear h1 h2 h3 r0))
  have r1 : w3.cell? ⟨w.heap.size, 1, none⟩ = some (.int .i64 nu) := HR3.out.cell 1
  go_upto_region 4 with (first | (go_at_call 75; refine (int_z _ B g w.heap.size w2.heap.size _ nu HNU.out hg HGL.out HG3.out.size HA3.out HL1.out).mono ?_; rintro x w4 ⟨rfl, h1, h2, h3⟩; have HO4 := hid_in h1.to; have HB4 := hid_in h2; have HG4 := hid_in (HG3.out.trans h3 (fun _ _ h => h)); clear h1 h2 h3 r1))
  have HS4 := hid_in (HSL.out.grew HG4.out (fun h0 h => by have := HBI.out h0; omega))
  have hcv := Nd.conv_sl HS4.out
  go_wp2_with (first | (go_at_call 76; refine (Nd.text_o _ B g _ _ hg HO4.out HL2.out).mono ?_; rintro x w5 ⟨rfl, h1, h2⟩; have HO5 := hid_in h1; have HB5 := hid_in h2; clear h1 h2))
  go_end0
  refine ⟨rfl, ⟨?_, HL3.out⟩, ?_⟩
  · rw [HXX.out]
    exact HO5.out
  · have b1 : Below B w w2 := (HB1.out.mono HBB.out).trans (HB2.out.mono (Nat.le_trans HBB.out HB1.out.size))
    exact ((b1.trans HB3.out).trans HB4.out).trans HB5.out
end Go.Proofs.Ytjjofjnhhajjjaa.Jr
namespace Go.Proofs.Ytjjofjnhhajjjaa.Nd
open Go.RowKit
theorem Row.drewN {w : World} {b : Nat} {vs : List Value} {t : TypeId} (h : Row w b vs t) (n : Nat) : Row (w.drewN n) b vs t := by
  refine h.of_block ?_; simp
theorem getD_lt {l : List Nat} {m : Nat} (h : ∀ x ∈ l, x < m) (j : Nat) (hm : 0 < m := by decide) : l.getD j 0 < m := by
  by_cases hj : j < l.length
  · simp only [List.getD_eq_getElem?_getD, List.getElem?_eq_getElem hj, Option.getD_some]; exact h _ (List.getElem_mem hj)
  · simp only [List.getD_eq_getElem?_getD, List.getElem?_eq_none (Nat.le_of_not_lt hj), Option.getD_none]; exact hm
end Go.Proofs.Ytjjofjnhhajjjaa.Nd
