/-
  addDir: the walk.
-/
import Derived.Deep.CutRange
import Derived.Test.YtamaejlbojbbeaaGreatDoorQ00
import Derived.Test.YtamaejlbojbbeaaGreatDoorQ01
import Derived.Test.YtamaejlbojbbeaaGreatDoorQ02
import Derived.Test.YtamaejlbojbbeaaGreatDoorQ03
import Derived.Test.YtamaejlbojbbeaaGreatDoorQ04
import Derived.Test.YtamaejlbojbbeaaGreatDoorQ05
import Derived.Test.YtamaejlbojbbeaaGreatDoorQ06
import Derived.Test.YtamaejlbojbbeaaGreatDoorQ07
import Derived.Test.YtamaejlbojbbeaaGreatDoorQ08
import Derived.Test.YtamaejlbojbbeaaGreatDoorQ09
import Derived.Test.YtamaejlbojbbeaaGreatDoorQ10
import Derived.Test.YtamaejlbojbbeaaGreatDoorQ11
import Derived.Test.YtamaejlbojbbeaaGreatDoorQ12
import Derived.Test.YtamaejlbojbbeaaGreatDoorQ13
import Derived.Test.YtamaejlbojbbeaaGreatDoorQ14
import Derived.Test.YtamaejlbojbbeaaGreatDoorQ15
import Derived.Test.YtamaejlbojbbeaaGreatDoorQ16
import Derived.Test.YtamaejlbojbbeaaGreatDoorQ17
import Derived.Test.YtamaejlbojbbeaaGreatDoorQ18
import Derived.Test.YtamaejlbojbbeaaGreatDoorQ19
namespace Go.Proofs.YtamaejlbojbbeaaGreatDoor.Tr
open Go.RowKit
open Sb (hid_in Row Sl T5 BL u8v Tab wp_world grownBy_setCell below_of_grown info39 one_u8 splice_all)
theorem it_splice {nm : ByteArray} {kd : Int} {D : List Nat} {V : List Value} (IT : List Value) (hI : IT = Nd.It.cells ⟨nm, kd, List.replicate 32 0⟩) (hD : D.length = 32) (hV : D.map u8v = V) : splice IT 2 V = Nd.It.cells ⟨nm, kd, D⟩ := by
  subst hI hV
  simp [splice, Nd.It.cells, hD, Nd.u8v]
  intro a _
  rfl
theorem walkT_sum_lt : ∀ {k : Nat} {dir : List Vp.Str} {sp : List Spot} {items : List Nd.It}, sp.length < k → ∀ x ∈ (walkT k dir sp items).2.1, x < 256
  | 0, _, _, _, h => absurd h (Nat.not_lt_zero _)
  | _ + 1, _, [], _, _ => sum_lt _
  | k + 1, dir, s :: sp, items, h => by
    simp only [List.length_cons] at h
    unfold walkT
    split
    · split
      · exact walkT_sum_lt (by have := (walkT_rest k s.names sp []).length_le; omega)
      · exact walkT_sum_lt (by omega)
    · exact sum_lt _
theorem build_run (d : Option Tmp) (ty : TypeId) (ps : String) (af : Array Edge) (gd : Option (Nat × Bool)) (x y : Operand) {ρ : Operand → Value} {nm : ByteArray} {kd : Int} (W : World) (h1 : ρ x = .string nm) (h2 : ρ y = .int .i64 kd) : (execOp ρ { dst := d, op := Op.build 114 #[(0, x), (1, y)], type := ty, pos := ps, after := af, guard := gd }).run Tryz.prog W = .ok (.value (.agg (Nd.It.cells ⟨nm, kd, List.replicate 32 0⟩).toArray)) W := by
  simp only [execOp, List.map_toArray, List.map_cons, List.map_nil, h1, h2, Sem.run_bind, build_item2, Result.andThen_ok, Sem.run_pure]
theorem info93 : (Tryz.prog.info? 93).map (·.size) = some 4 := by kernel_rfl
theorem walkT_sum : ∀ {k : Nat} {dir : List Vp.Str} {sp : List Spot} {items : List Nd.It}, sp.length < k → ((walkT k dir sp items).2.1).length = 32
  | 0, _, _, _, h => absurd h (Nat.not_lt_zero _)
  | _ + 1, _, [], _, _ => Sb.sum_length _
  | k + 1, dir, s :: sp, items, h => by
    simp only [List.length_cons] at h
    unfold walkT
    split
    · split
      · exact walkT_sum (by have := (walkT_rest k s.names sp []).length_le; omega)
      · exact walkT_sum (by omega)
    · exact Sb.sum_length _
set_option maxHeartbeats 4000000 in
set_option maxRecDepth 100000 in
theorem addDir_any : ∀ (k : Nat) (w : World) (base g sb ab cb : Nat) (L : List (List Nat)) (dirv : Value) (dir : List Vp.Str) (sv : Value) (sp : List Spot), sp.length < k → AD w base g sb ab cb L dirv dir sv sp →
    Calls Tryz.prog 95 #[dirv, .pointer (some ⟨sb, 0, none⟩), .pointer (some ⟨ab, 0, none⟩), .pointer (some ⟨cb, 0, none⟩)] w (ADp w base g sb L (walkT k dir sp [])) := by
  intro k
  induction k using Nat.strongRecOn with
  | ind k ih =>
    intro w base g sb ab cb L dirv dir sv sp hk had
    have IH := hid_in ih
    clear ih
    obtain ⟨dq, dc, rfl⟩ := own_shape had.dirn
    obtain ⟨Z, hz, hzl⟩ := Sb.zero39
    have HAD := hid_in had
    have HFU := hid_in hk
    have HZL := hid_in hzl
    clear had hzl
    go_enter Tryz.func95, Tryz.ntmps95
    go_wp2_with fail
    go_loopg [20] sp.length (fun gh _ W => ∃ (rest : List Spot) (items : List Nd.It) (Lc : List (List Nat)) (kk : Nat), gh = rest.length ∧ Hid (AI w base g sb ab cb L (.slice dq dir.length dc) dir sp k Z rest items Lc kk W))
    case atStart =>
      have hba : Below w.heap.size w ((w.alloc (.cells Z.toArray 30)).alloc (.cells #[.int .i64 3, .string ⟨#[]⟩, .int .i64 0, .slice none 0 0, .slice none 0 0] 108)) := ((Below.refl _ _).alloc (Nat.le_refl _) _).alloc (by simp) _
      refine ⟨sp, [], [], k, rfl, ?_⟩
      exact ⟨by simp, hk, Nat.le_refl _, List.suffix_refl _, by simp, (Row.new w Z 30).alloc _, ⟨_, Row.newAt _ _ [.int .i64 3, .string ⟨#[]⟩, .int .i64 0, .slice none 0 0, .slice none 0 0] 108 (by simp), World.ownsRow_nil _ _ _ _⟩, fun x hx => (by cases hx), by simp, ⟨sv, by simpa using HAD.out.below hba⟩, Fr.of_below hba HAD.out.bt.lt, HAD.out.bt.lt⟩
    case round =>
      obtain ⟨rest, items, Lc, kk, rfl, HA⟩ := hrel
      obtain ⟨sv1, had1⟩ := HA.out.ad
      cases rest with
      | nil =>
        obtain ⟨p1, c1, b1, o1, rfl, -⟩ := had1.sps
        have cs := had1.spb.cell
        have HAD1 := hid_in had1
        clear had1
        simp only [List.length_nil] at cs
        have hend : walkT kk dir [] items = ([encB (dirN items)], Sb.Sha.sum (encB (dirN items)), []) := by
          obtain ⟨k', rfl⟩ : ∃ k', kk = k' + 1 := ⟨kk - 1, by have := HA.out.fuel; omega⟩
          rfl
        have cc := HAD1.out.bb.cell
        obtain ⟨q, c, V, HV, hnr, hcall⟩ := HA.out.add hend; have k0 : wr.cell? ⟨w.heap.size + 1, 0, none⟩ = some (.int .i64 3) := hnr.cell 0; have k1 : wr.cell? ⟨w.heap.size + 1, 1, none⟩ = some (.string ⟨#[]⟩) := hnr.cell 1; have k2 : wr.cell? ⟨w.heap.size + 1, 2, none⟩ = some (.int .i64 0) := hnr.cell 2; have k3 : wr.cell? ⟨w.heap.size + 1, 3, none⟩ = some (.slice none 0 0) := hnr.cell 3; have k4 : wr.cell? ⟨w.heap.size + 1, 4, none⟩ = some (.slice q items.length c) := hnr.cell 4; have HVL : Hid (V.length = 32) := hid_in (by rw [HV.out, List.length_map, walkT_sum HFU.out]); have HV1 : Hid (∀ v ∈ V, v.oneCell' = true) := hid_in (by rw [HV.out]; exact one_u8 _); have HCALL := hid_in hcall; clear hcall hnr
        clear hend
        go_wp2_with (first | (go_at_call 97; refine HCALL.out.mono ?_; rintro e w7 ⟨rfl, hz7, hfin⟩; have HFIN := hid_in hfin; clear hfin) | (refine Sb.wpList_store_Row rfl 30 _ _ rfl w.heap.size 0 V rfl rfl 30 Z hz7 32 info39 HVL.out (by rw [HZL.out]; decide) HV1.out ?_; intro w8 hr8 hg8 hs8; rw [splice_all _ _ (by rw [HVL.out, HZL.out])] at hr8))
        refine Sb.post_Row 5 30 rfl w.heap.size rfl 30 V hr8 _ Tryz.underlying30 rfl 32 info39 HVL.out rfl (HFIN.out _ hr8 hg8)
      | cons s tl =>
        obtain ⟨p1, c1, b1, o1, rfl, -⟩ := had1.sps
        obtain ⟨-, b, o, rfl, hrg, hnm, hc1, hc2, hsp2, hsp3⟩ := had1.sps.tail
        have HSP2 := hid_in hsp2
        have HSP3 := hid_in hsp3
        have HRG := hid_in hrg
        have HNM := hid_in hnm
        clear hsp2 hsp3
        obtain ⟨nq, nc, hsv⟩ := own_shape hnm
        have cs := had1.spb.cell
        have n0 : wr.cell? ⟨b, o, none⟩ = some s.v := by simpa using hrg 0 _ rfl
        have HVN : Hid (Vp.Val wr (.slice nq s.names.length nc) s.names) := by show Vp.Val _ _ _; rw [← hsv]; exact hnm.val
        have HW := hid_in (Vp.within_v HVN.out had1.dirn.val)
        have HAD1 := hid_in had1
        clear had1
        rw [hsv] at n0
        have HSV := hid_in hsv
        clear hrg hnm hsv
        generalize hl1 : (s :: tl).length = ln at *
        have HL1 := hid_in hl1
        have hl0 : 0 < ln := by rw [← hl1]; simp
        clear hl1
        cases hw : Vp.withinS s.names dir with
        | false =>
          rw [hw] at HW
          have HEND : Hid (walkT kk dir (s :: tl) items = ([encB (dirN items)], Sb.Sha.sum (encB (dirN items)), s :: tl)) := by
            obtain ⟨k', rfl⟩ : ∃ k', kk = k' + 1 := ⟨kk - 1, by have := HA.out.fuel; omega⟩
            show walkT (k' + 1) dir (s :: tl) items = _
            rw [walkT, hw]; simp
          clear hw
          go_wp2_with (first | (go_at_call 96; refine HW.out.mono ?_; rintro e w2 ⟨rfl, m, hw2⟩; have HBD := hid_in (show Below wr.heap.size wr w2 by rw [hw2]; exact below_drewN (Below.refl _ _) m); clear hw2; have cc := (HAD1.out.below HBD.out).bb.cell; obtain ⟨q, c, V, HV, hnr, hcall⟩ := (HA.out.below HBD.out).add HEND.out; have k0 : w2.cell? ⟨w.heap.size + 1, 0, none⟩ = some (.int .i64 3) := hnr.cell 0; have k1 : w2.cell? ⟨w.heap.size + 1, 1, none⟩ = some (.string ⟨#[]⟩) := hnr.cell 1; have k2 : w2.cell? ⟨w.heap.size + 1, 2, none⟩ = some (.int .i64 0) := hnr.cell 2; have k3 : w2.cell? ⟨w.heap.size + 1, 3, none⟩ = some (.slice none 0 0) := hnr.cell 3; have k4 : w2.cell? ⟨w.heap.size + 1, 4, none⟩ = some (.slice q items.length c) := hnr.cell 4; have HVL : Hid (V.length = 32) := hid_in (by rw [HV.out, List.length_map, walkT_sum HFU.out]); have HV1 : Hid (∀ v ∈ V, v.oneCell' = true) := hid_in (by rw [HV.out]; exact one_u8 _); have HCALL := hid_in hcall; clear hcall hnr) | (go_at_call 97; refine HCALL.out.mono ?_; rintro e w7 ⟨rfl, hz7, hfin⟩; have HFIN := hid_in hfin; clear hfin) | (refine Sb.wpList_store_Row rfl 30 _ _ rfl w.heap.size 0 V rfl rfl 30 Z hz7 32 info39 HVL.out (by rw [HZL.out]; decide) HV1.out ?_; intro w8 hr8 hg8 hs8; rw [splice_all _ _ (by rw [HVL.out, HZL.out])] at hr8))
          refine Sb.post_Row 5 30 rfl w.heap.size rfl 30 V hr8 _ Tryz.underlying30 rfl 32 info39 HVL.out rfl (HFIN.out _ hr8 hg8)
        | true =>
          rw [hw] at HW
          have HHW := hid_in hw
          clear hw
          have HBL : Hid (b < wr.heap.size) := World.block_lt_of_cell? wr _ n0
          have HC4 : Hid ([Value.slice nq s.names.length nc, .string s.path, .bool s.dir, .string s.data].length = 4) := rfl
          have HO4 : Hid (∀ v ∈ [Value.slice nq s.names.length nc, .string s.path, .bool s.dir, .string s.data], v.oneCell' = true) := by
            intro v hv
            simp only [List.mem_cons, List.not_mem_nil, or_false] at hv
            rcases hv with rfl | rfl | rfl | rfl <;> rfl
          go_upto_region 4 with (first | (go_at_call 96; refine HW.out.mono ?_; rintro e w2 ⟨rfl, m, hw2⟩; have HBD := hid_in (show Below wr.heap.size wr w2 by rw [hw2]; exact below_drewN (Below.refl _ _) m); clear hw2; have cs2 := (HAD1.out.below HBD.out).spb.cell; have hrg2 := Nd.rangeAt_below HRG.out HBD.out HBL.out; have m0 : w2.cell? ⟨b, o, none⟩ = some (.slice nq s.names.length nc) := (by rw [← HSV.out]; simpa using hrg2 0 _ rfl); have m1 : w2.cell? ⟨b, o + 1, none⟩ = some (.string s.path) := hrg2 1 _ rfl; have m2 : w2.cell? ⟨b, o + 2, none⟩ = some (.bool s.dir) := hrg2 2 _ rfl; have m3 : w2.cell? ⟨b, o + 3, none⟩ = some (.string s.data) := hrg2 3 _ rfl; clear hrg2) | (refine Nd.wpList_store_new rfl rfl 93 4 _ _ rfl _ [Value.slice nq s.names.length nc, .string s.path, .bool s.dir, .string s.data] info93 rfl HC4 HO4 rfl rfl ?_; intro w5 hr5 hb5 hs5))
          have HB5 := hid_in (HBD.out.trans (hb5.mono HBD.out.size))
          have HR5 := hid_in hr5
          have HS5 := hid_in hs5
          have HAI5 := hid_in (HA.out.below HB5.out)
          have HAD5 := hid_in (HAD1.out.below HB5.out)
          have cs5 := HAD5.out.spb.cell
          have fs5 := HAD5.out.spb.frozen
          clear hb5 hr5 hs5 cs2 m0 m1 m2 m3 cs n0
          go_upto_region 5 with fail
          have hlt : dir.length < s.names.length := withinS_lt HHW.out (fun e => HAD5.out.notin (by rw [e]; simp))
          obtain ⟨nm0, hnm0⟩ : ∃ x, s.names[dir.length]? = some x := ⟨_, List.getElem?_eq_getElem hlt⟩
          obtain ⟨u, hu⟩ : ∃ u, Hid (u = Value.slice (if c1 = 1 then some ⟨b, o, none⟩ else some ⟨b, o + 4, none⟩) (ln - 1) (c1 - 1)) := ⟨_, hid_in rfl⟩
          have husp : Sps w5 u tl := by
            have hsp5 := HAD5.out.sps
            rw [hu.out]
            have hln : ln - 1 = tl.length := by rw [← HL1.out]; simp
            rw [hln]
            by_cases h1 : c1 = 1
            · have h0 : tl = [] := by
                have : ln = 1 := by omega
                rw [← HL1.out] at this
                simpa using this
              have h2 := HSP3.out h0 (if c1 = 1 then some ⟨b, o, none⟩ else some ⟨b, o + 4, none⟩)
              rw [h0]
              exact h2.below HB5.out
            · rw [if_neg h1]
              exact HSP2.out.below HB5.out
          have had6 := HAD5.out.pop husp
          rw [← hu.out]
          obtain ⟨W6, HW6⟩ : ∃ W6, Hid (w5.setCell ⟨sb, 0, none⟩ u = W6) := ⟨_, hid_in rfl⟩
          have hg6 := grownBy_setCell w5 ⟨sb, 0, none⟩ u
          rw [HW6.out] at had6 hg6 ⊢
          have key6 : ∀ {b : Nat} {cs : Array Value} {t : TypeId} {fr : Nat × Nat}, w5.heap[b]? = some (.cells cs t fr) → t ≠ 86 → W6.heap[b]? = some (.cells cs t fr) := fun e ht => kept_typed e hg6 (fun k e2 => by
            obtain rfl := Option.some.inj e2
            exact typed_ne e HAD5.out.spb ht)
          have hnm6 : Nm W6 (.slice nq s.names.length nc) s.names := by
            rw [← HSV.out]
            exact Nm.kept HNM.out (fun b cs fr e => key6 ((HB5.out.block b (Array.getElem?_eq_some_iff.1 e).1).trans e) (by decide))
          obtain ⟨gn, rfl, -, hnc, hgn, _⟩ := hnm6.get hnm0
          have hr6 : Row W6 w2.heap.size [Value.slice (some ⟨gn, 0, none⟩) s.names.length nc, .string s.path, .bool s.dir, .string s.data] 93 := key6 HR5.out (by decide)
          have hres6 : Row W6 w.heap.size Z 30 := key6 HAI5.out.res (by decide)
          obtain ⟨nv, hnr5, hno5⟩ := HAI5.out.nd
          have hnr6 : Row W6 (w.heap.size + 1) [.int .i64 3, .string ⟨#[]⟩, .int .i64 0, .slice none 0 0, nv] 108 := key6 hnr5 (by decide)
          have hno6 : W6.ownsRow (w.heap.size + 2) 114 34 nv items.length (items.map Nd.It.cells).flatten := own_grown hno5 hg6 (fun k e hk => by
            obtain rfl := Option.some.inj e
            obtain ⟨_, cs, fr, e3⟩ := own_block hno5 _ hk
            exact typed_ne e3 HAD5.out.spb (by decide) rfl)
          have hfr6 : Fr (· = sb) g w W6 := HAI5.out.fr.trans (Fr.of_grown hg6 rfl HAD5.out.bt.lt (by
            rintro rfl
            obtain ⟨v', cs, hr', _⟩ := HAD5.out.bt.ex
            exact typed_ne HAD5.out.spb hr' (by decide) rfl))
          have HAD6 := hid_in had6
          have HNM6 := hid_in hnm6
          have HR6 := hid_in hr6
          have HRES6 := hid_in hres6
          have HNR6 := hid_in hnr6
          have HNO6 := hid_in hno6
          have HFR6 := hid_in hfr6
          have HNM0 := hid_in hnm0
          have HNI : Hid (s.names ∉ tl.map Spot.names) := hid_in (List.nodup_cons.1 HAD5.out.nodup).1
          have HNS : Hid ((Vp.B nm0).size ≤ 9223372036854775807) := hid_in (HAD5.out.short s (by simp) nm0 (List.mem_of_getElem? hnm0))
          have HDS : Hid (s.data.size ≤ 1024) := hid_in (HAD5.out.data s (by simp))
          have HSD : Hid (SD w2.heap.size [Value.slice (some ⟨gn, 0, none⟩) s.names.length nc, .string s.path, .bool s.dir, .string s.data] gn dir.length (Vp.B nm0) W6.drew) := SD.below ⟨hr6, hgn⟩ (below_drew W6)
          clear had6 hnm6 hr6 hres6 hnr6 hno6 hfr6 hnm0 husp hg6 key6 hgn hnr5 hno5 cs5 fs5 HW6 hu HR5 HAI5 HSV HNM HRG HSP2 HSP3 HC4 HO4 HW HVN HBL HAD1 HB5 HBD HS5 HAD5
          refine wp_region_held_drew (S := SD w2.heap.size [Value.slice (some ⟨gn, 0, none⟩) s.names.length nc, .string s.path, .bool s.dir, .string s.data] gn dir.length (Vp.B nm0)) (by kernel_rfl) HSD.out (fun hHeld => ?_)
          have HBX := hid_in (below_drew W6)
          have HSX := HSD
          clear HSD
          generalize W6.drew = X at *
          obtain ⟨IT, HIT⟩ : ∃ IT, Hid (IT = Nd.It.cells ⟨Vp.B nm0, if s.dir then 3 else 2, List.replicate 32 0⟩) := ⟨_, hid_in rfl⟩
          have HITL : Hid (IT.length = 34) := hid_in (by rw [HIT.out]; rfl)
          have HIT1 : Hid (∀ v ∈ IT, v.oneCell' = true) := hid_in (by rw [HIT.out]; exact Nd.It.one _)
          refine Nd.take_put (i := 0) (d := 26) (v := ?_) rfl rfl (by kernel_rfl) (by kernel_rfl) (by kernel_rfl) (fun _ _ _ h => h) (Or.inl ⟨by kernel_rfl, ?_⟩) hHeld ?_
          rotate_left
          · (intro w hSw; (try dsimp only at hSw); go_simp; (try with_reducible rfl))
          simp only [Act.put, List.setIfInBounds_toArray, List.set_cons_zero, List.set_cons_succ]
          refine Nd.take_put (i := 2) (d := 28) (v := ?_) rfl rfl (by kernel_rfl) (by kernel_rfl) (by kernel_rfl) (fun _ _ _ h => h) (Or.inl ⟨by kernel_rfl, ?_⟩) hHeld ?_
          rotate_left
          · (intro w hSw; (try dsimp only at hSw); go_simp; (try with_reducible rfl))
          simp only [Act.put, List.setIfInBounds_toArray, List.set_cons_zero, List.set_cons_succ]
          refine Nd.take_put (i := 3) (d := 29) (v := ?_) rfl rfl (by kernel_rfl) (by kernel_rfl) (by kernel_rfl) (fun _ _ _ h => h) (Or.inl ⟨by kernel_rfl, ?_⟩) hHeld ?_
          rotate_left
          · (intro w hSw; (try dsimp only at hSw); go_simp; (try with_reducible rfl))
          simp only [Act.put, List.setIfInBounds_toArray, List.set_cons_zero, List.set_cons_succ]
          refine Nd.take_put (i := 6) (d := 32) (v := ?_) rfl rfl (by kernel_rfl) (by kernel_rfl) (by kernel_rfl) (fun _ _ _ h => h) (Or.inl ⟨by kernel_rfl, ?_⟩) hHeld ?_
          rotate_left
          · (intro w hSw; (try dsimp only at hSw); go_simp; (try with_reducible rfl))
          simp only [Act.put, List.setIfInBounds_toArray, List.set_cons_zero, List.set_cons_succ]
          refine Nd.take_put (i := 1) (d := 27) (v := .slice (some ⟨gn, 0, none⟩) s.names.length nc) rfl rfl (by kernel_rfl) (by kernel_rfl) (by kernel_rfl) (fun _ _ _ h => h) (Or.inl ⟨by kernel_rfl, ?_⟩) hHeld ?_
          · intro w' hS
            have hc : w'.cell? ⟨w2.heap.size, 0, none⟩ = some (.slice (some ⟨gn, 0, none⟩) s.names.length nc) := hS.1.cell 0
            go_simp
          simp only [Act.put, List.setIfInBounds_toArray, List.set_cons_zero, List.set_cons_succ]
          refine Nd.take_put (i := 4) (d := 30) (v := ?_) rfl rfl (by kernel_rfl) (by kernel_rfl) (by kernel_rfl) (fun _ _ _ h => h) (Or.inl ⟨by kernel_rfl, ?_⟩) hHeld ?_
          rotate_left
          · (intro w hSw; (try dsimp only at hSw); go_simp; (try with_reducible rfl))
          simp only [Act.put, List.setIfInBounds_toArray, List.set_cons_zero, List.set_cons_succ]
          refine Nd.take_put (i := 5) (d := 31) (v := .string (Vp.B nm0)) rfl rfl (by kernel_rfl) (by kernel_rfl) (by kernel_rfl) (fun _ _ _ h => h) (Or.inl ⟨by kernel_rfl, ?_⟩) hHeld ?_
          · intro w' hS
            have hc := hS.2
            go_simp
          simp only [Act.put, List.setIfInBounds_toArray, List.set_cons_zero, List.set_cons_succ]
          refine Nd.take_put (i := 7) (d := 33) (v := .agg #[.string s.path, .bool s.dir, .string s.data]) rfl rfl (by kernel_rfl) (by kernel_rfl) (by kernel_rfl) (fun _ _ _ h => h) (Or.inl ⟨by kernel_rfl, ?_⟩) hHeld ?_
          · intro w' hS
            have h1 : w'.cell? ⟨w2.heap.size, 1, none⟩ = some (.string s.path) := hS.1.cell 1
            have h2 : w'.cell? ⟨w2.heap.size, 2, none⟩ = some (.bool s.dir) := hS.1.cell 2
            have h3 : w'.cell? ⟨w2.heap.size, 3, none⟩ = some (.string s.data) := hS.1.cell 3
            go_simp
          simp only [Act.put, List.setIfInBounds_toArray, List.set_cons_zero, List.set_cons_succ]
          refine wpAnyH_ready (rs := [8, 10]) (by kernel_rfl) (by simp) ?_
          refine AllReadyH.cons rfl (fun K hK => ?_) (AllReadyH.cons rfl (fun K hK => ?_) AllReadyH.nil)
          · rw [if_pos (by rfl)]
            go_simp
            refine (kindOf_any s.path s.data s.dir _).mono ?_
            rintro e w7 ⟨rfl, rfl⟩
            go_simp
            refine hK.out _ _ (SD.below hHeld ((Below.refl _ _).alloc (Nat.le_refl _) _)) (fun hHeld => ?_)
            clear hK K
            refine Nd.take_put (i := 9) (d := 35) (v := .agg IT.toArray) rfl rfl (by kernel_rfl) (by kernel_rfl) (by kernel_rfl) (fun _ _ _ h => h) (Or.inl ⟨by kernel_rfl, fun w' _ => by rw [HIT.out]; exact build_run _ _ _ _ _ _ _ _ rfl rfl⟩) hHeld ?_
            simp only [Act.put, List.setIfInBounds_toArray, List.set_cons_zero, List.set_cons_succ]
            refine wpAnyH_ready (rs := [10]) (by kernel_rfl) (by simp) ?_
            refine AllReadyH.cons rfl (fun K hK => ?_) AllReadyH.nil
            rw [if_pos (by rfl)]
            go_simp
            refine hK.out _ _ (SD.below hHeld ((Below.refl _ _).alloc (Nat.le_refl _) _)) (fun hHeld => ?_)
            clear hK K
            refine wpAnyH_ready (rs := [11]) (by kernel_rfl) (by simp) ?_
            refine AllReadyH.cons rfl (fun K hK => ?_) AllReadyH.nil
            rw [if_pos (by rfl)]
            refine wp_store_row 114 34 _ _ rfl rfl (X.heap.size + 1) _ IT (Row.newAt _ _ _ 114 (by simp)) Nd.info51 rfl HITL.out HIT1.out rfl rfl ?_
            intro w8 hr8 hg8
            have HB8 := hid_in (show Below X.heap.size X w8 from below_of_grown (((Below.refl _ _).alloc (Nat.le_refl _) _).alloc (by simp) _) hg8 (by simp; omega) (by omega))
            generalize hib : X.heap.size + 1 = ib at *
            have HIB := hid_in (show X.heap.size ≤ ib by omega)
            clear hib hg8
            refine hK.out _ _ (SD.below HSX.out HB8.out) (fun hHeld => ?_)
            clear hK K
            refine wpAnyH_done (by kernel_rfl) ?_ _
            have HB68 := hid_in (HBX.out.trans (HB8.out.mono HBX.out.size))
            have HAD8 := hid_in (HAD6.out.below HB68.out)
            have hr8s := HR6.out.below HB68.out HR6.out.lt
            have HRES8 := hid_in (HRES6.out.below HB68.out HRES6.out.lt)
            have HNR8 := hid_in (HNR6.out.below HB68.out HNR6.out.lt)
            have HNO8 := hid_in (own_grown HNO6.out (grown_of_below HB68.out) (fun k e => by cases e))
            have HFR8 := hid_in (HFR6.out.trans (Fr.of_below HB68.out HAD6.out.bt.lt))
            have HNM8 := hid_in (Nm.kept HNM6.out (fun b cs fr e => (HB68.out.block b (Array.getElem?_eq_some_iff.1 e).1).trans e))
            have HIBL : Hid (w.heap.size + 2 ≤ ib) := hid_in (by have := HNR6.out.lt; have := HBX.out.size; have := HIB.out; omega)
            have HIBA : Hid (nv.ownBlock ≠ some ib) := hid_in (fun e => by
              obtain ⟨_, cs, fr, h⟩ := own_block HNO6.out _ e
              have := (Array.getElem?_eq_some_iff.1 h).1
              have := HBX.out.size
              have := HIB.out
              omega)
            have hfu : 0 < kk ∧ tl.length < kk - 1 := by have := HA.out.fuel; simp at this; omega
            have HFK := hid_in hfu
            have HITM := hid_in hr8
            have f0 : w8.cell? ⟨w2.heap.size, 0, none⟩ = some (.slice (some ⟨gn, 0, none⟩) s.names.length nc) := hr8s.cell 0
            have f2 : w8.cell? ⟨w2.heap.size, 2, none⟩ = some (.bool s.dir) := hr8s.cell 2
            have f3 : w8.cell? ⟨w2.heap.size, 3, none⟩ = some (.string s.data) := hr8s.cell 3
            have HNMS : Hid ((Vp.B nm0).size ≤ 9223372036854775807) := hid_in HNS.out
            have HADL := hid_in HAD.out.len
            have hnd0 : s.names.getD dir.length [] = nm0 := by rw [List.getD_eq_getElem?_getD, HNM0.out]; rfl
            have HND0 := hid_in hnd0
            obtain ⟨i114, z114, hi114, hs114, hb114, hz114, hzc114⟩ := info114h
            clear hr8s hr8 hfu hnd0 HR6 HNM6 HAD6 HRES6 HNR6 HNO6 HFR6 HSX
            cases hdir : s.dir with
            | true =>
              rw [hdir] at f2 HIT
              simp only [if_true] at HIT
              have HDIR := hid_in hdir
              clear hdir f3
              have cab := HAD8.out.fnb.cell
              have HIH := hid_in (IH.out (kk - 1) (by have := HFK.out; have := HA.out.fuelk; omega) w8 base g sb ab cb (L ++ Lc) (.slice (some ⟨gn, 0, none⟩) s.names.length nc) s.names u tl HFK.out.2 ⟨HAD8.out.bt, HAD8.out.tab, HAD8.out.base0, HAD8.out.basew, HAD8.out.spb, HAD8.out.sps, HAD8.out.fnb, HAD8.out.bb, HNM8.out, HAD8.out.nodup, HNI.out, HAD8.out.data, HAD8.out.short, HAD8.out.len, HAD8.out.sbl⟩)
              have HRS : Hid ((walkT (kk - 1) s.names tl []).2.2 <:+ tl) := walkT_rest _ _ _ _
              have HRL := hid_in (walkT_len (kk - 1) s.names tl [] HAD8.out.data)
              have HDG : Hid (Nd.Dg (walkT (kk - 1) s.names tl []).2.1) := ⟨walkT_sum HFK.out.2, walkT_sum_lt HFK.out.2⟩
              have HEQ : Hid (walkT kk dir (s :: tl) items = ((walkT (kk - 1) s.names tl []).1 ++ (walkT (kk - 1) dir (walkT (kk - 1) s.names tl []).2.2 (items ++ [⟨Vp.B nm0, 3, (walkT (kk - 1) s.names tl []).2.1⟩])).1, (walkT (kk - 1) dir (walkT (kk - 1) s.names tl []).2.2 (items ++ [⟨Vp.B nm0, 3, (walkT (kk - 1) s.names tl []).2.1⟩])).2)) := by
                obtain ⟨k', rfl⟩ : ∃ k', kk = k' + 1 := ⟨kk - 1, by have := HFK.out; omega⟩
                show walkT (k' + 1) dir (s :: tl) items = _
                rw [walkT, if_pos HHW.out, if_pos HDIR.out, HND0.out]
                rfl
              generalize walkT (kk - 1) s.names tl [] = r1 at *
              obtain ⟨rb, DD, rr⟩ := r1
              simp only at HRS HRL HDG HEQ
              have HVL : Hid ((DD.map u8v).length = 32) := hid_in (by rw [List.length_map]; exact HDG.out.1)
              have HV1 : Hid (∀ v ∈ DD.map u8v, v.oneCell' = true) := hid_in (one_u8 _)
              obtain ⟨V, HV⟩ : ∃ V, Hid (DD.map u8v = V) := ⟨_, hid_in rfl⟩
              have HSUF := HRS
              have HIH2 : Hid (Calls Tryz.prog 95 #[.slice (some ⟨gn, 0, none⟩) s.names.length nc, .pointer (some ⟨sb, 0, none⟩), .pointer (some ⟨ab, 0, none⟩), .pointer (some ⟨cb, 0, none⟩)] w8 fun e w9 => e = .returned (.agg V.toArray) ∧ AR w base g sb ab cb L (.slice dq dir.length dc) dir sp k Z items (Vp.B nm0) 3 ib DD (Lc ++ rb) rr (kk - 1) (List.replicate 32 0) w9) := by
                refine Calls.mono HIH.out ?_
                rintro e w9 ⟨rfl, hbt9, ⟨sv9, hspb9, hsps9⟩, hfr9⟩
                exact ⟨by rw [← HV.out], ar_make HA.out HADL.out HAD8.out HRES8.out HNR8.out HNO8.out HFR8.out (by rw [← HIT.out]; exact HITM.out) HIBL.out HIBA.out hfr9 hbt9 hspb9 hsps9 HRS.out (by have := HRL.out; omega) (by have := HRS.out.length_le; have := HFK.out; omega) HEQ.out HDG.out (.inr rfl) HNMS.out⟩
              rw [HV.out] at HVL HV1
              clear HIH HEQ HRL HRS
              go_upto_region 9 with (first | (go_at_call 95; refine HIH2.out.mono ?_; rintro e w9 ⟨rfl, har9⟩; have HAR9 := hid_in har9; have hit9 := har9.item; rw [← HIT.out] at hit9; clear har9) | (refine Sb.wpList_store_Row rfl 30 _ _ rfl ib 2 V rfl rfl 114 IT hit9 32 info39 HVL.out (by rw [HITL.out]; decide) HV1.out ?_; intro w10 hr10 hg10 hs10))
              have HAR10 := hid_in (HAR9.out.store (D1 := DD) (by rw [← it_splice IT HIT.out HDG.out.1 HV.out]; exact hr10) hg10)
              clear hr10 hg10 hs10 hit9 HAR9
              obtain ⟨q9, c9, hnr10, hoa10, happ10⟩ := HAR10.out.app
              have cn10 : w10.cell? ⟨w.heap.size + 1, 4, none⟩ = some (.slice q9 items.length c9) := hnr10.cell 4
              obtain ⟨IC, HIC⟩ : ∃ IC, Hid (Nd.It.cells ⟨Vp.B nm0, 3, DD⟩ = IC) := ⟨_, hid_in rfl⟩
              have hit10 := HAR10.out.item
              rw [HIC.out] at hoa10 happ10 hit10
              have HIL : Hid (IC.length = 34) := hid_in (by rw [← HIC.out]; have := HAR10.out.dg.1; simp [Nd.It.cells, this])
              have HI1 : Hid (∀ v ∈ IC, v.oneCell' = true) := hid_in (by rw [← HIC.out]; exact Nd.It.one _)
              have hil : items.length ≤ 60000 := by have := HAR10.out.ilen; have := HADL.out; omega
              have HBS2 : Hid (w.heap.size + 2 ≤ (w10.alloc (.cells IC.toArray 114)).heap.size) := hid_in (by have := HAR10.out.ibl; have := hit10.lt; simp; omega)
              have HGH : Hid (rr.length < (s :: tl).length) := hid_in (by have := HSUF.out.length_le; rw [List.length_cons]; omega)
              obtain ⟨il, Hil⟩ : ∃ il, Hid (items.length = il) := ⟨_, hid_in rfl⟩
              obtain ⟨FC, HFC⟩ : ∃ FC, Hid ((items.map Nd.It.cells).flatten = FC) := ⟨_, hid_in rfl⟩
              rw [Hil.out] at cn10 hoa10 happ10 hil
              rw [HFC.out] at hoa10 happ10
              have HAPP := hid_in happ10
              have HOA := hid_in hoa10
              clear happ10 hoa10 hnr10
              go_wp2_with (first | (refine Sb.wpList_load_Row rfl 114 _ rfl ib rfl 114 _ hit10 _ Tryz.underlying114 rfl 34 Nd.info51 HIL.out ?_; simp only [Act.put, List.setIfInBounds_toArray, List.set_cons_zero, List.set_cons_succ]) | (refine Nd.wpList_slice1 rfl 106 _ rfl (.agg IC.toArray) _ _ rfl (Nd.slice29 IC HIL.out _) ?_; simp only [Act.put, List.setIfInBounds_toArray, List.set_cons_zero, List.set_cons_succ]) | (at_builtin; refine wpList_append_own _ rfl _ _ 106 rfl (w.heap.size + 2) 114 i114 z114 34 56 Tryz.underlying106 hi114.out hz114.out hs114.out hb114.out hzc114.out (by decide) _ il FC rfl HOA.out ⟨w10.heap.size, 0, none⟩ 1 1 IC rfl (by rw [HIL.out]) (World.news_of_block (heap_alloc_new w10 _)) HI1.out (by unfold maxLen; omega) (by omega) HBS2.out ?_; intro v2 w11 ho11 hg11 _; obtain ⟨q2, c2, rfl⟩ := own_shape ho11; have hnx := HAPP.out _ w11 ho11 hg11; have cn2 := hnx.1.cell 4; have fn2 := hnx.1.frozen 4; simp only [List.getElem?_cons_succ, List.getElem?_cons_zero] at cn2; have HNX := hid_in hnx.2; clear hnx ho11 hg11))
              go_roundg rr.length
              case measure => rw [← HL1.out]; exact HGH.out
              case rel =>
                go_light
                exact ⟨rr, _, _, _, rfl, HNX.out⟩
            | false =>
              rw [hdir] at f2 HIT
              simp only [Bool.false_eq_true, if_false] at HIT
              have HDIR := hid_in hdir
              clear hdir f0
              have ccb := HAD8.out.bb.cell
              have hds : s.data.size ≤ 1024 := HDS.out
              obtain ⟨DD, HDD⟩ : ∃ DD, Hid (fileD s.data = DD) := ⟨_, hid_in rfl⟩
              obtain ⟨V, HV⟩ : ∃ V, Hid (DD.map u8v = V) := ⟨_, hid_in rfl⟩
              have HDG : Hid (Nd.Dg DD) := hid_in (by rw [← HDD.out]; exact ⟨Sb.sum_length _, sum_lt _⟩)
              have HVL : Hid (V.length = 32) := hid_in (by rw [← HV.out, List.length_map]; exact HDG.out.1)
              have HV1 : Hid (∀ v ∈ V, v.oneCell' = true) := hid_in (by rw [← HV.out]; exact one_u8 _)
              have HEQ : Hid (walkT kk dir (s :: tl) items = (fileBs s.data ++ (walkT (kk - 1) dir tl (items ++ [⟨Vp.B nm0, 2, DD⟩])).1, (walkT (kk - 1) dir tl (items ++ [⟨Vp.B nm0, 2, DD⟩])).2)) := by
                obtain ⟨k', rfl⟩ : ∃ k', kk = k' + 1 := ⟨kk - 1, by have := HFK.out; omega⟩
                show walkT (k' + 1) dir (s :: tl) items = _
                rw [walkT, if_pos HHW.out, if_neg (by rw [HDIR.out]; simp), HND0.out, HDD.out]
                all_goals rfl
              have HSUF : Hid (tl <:+ tl) := List.suffix_refl tl
              have HAF : Hid (Calls Tryz.prog 48 #[.pointer (some ⟨g, 0, none⟩), .string s.data] w8 fun e w9 => e = .returned (.agg V.toArray) ∧ AR w base g sb ab cb L (.slice dq dir.length dc) dir sp k Z items (Vp.B nm0) 2 ib DD (Lc ++ fileBs s.data) tl (kk - 1) (List.replicate 32 0) w9) := by
                refine Calls.mono (addFile_any w8 base g (L ++ Lc) s.data HAD8.out.bt HAD8.out.tab HDS.out (by have := HAD8.out.len; omega) HAD8.out.basew HAD8.out.base0 V (hid_in (by rw [← HV.out, ← HDD.out]; rfl))) ?_
                rintro e w9 ⟨rfl, hbt9, hfr9⟩
                have hf9 : Fr (· = sb) g w8 w9 := hfr9.mono (fun _ e => e.elim)
                exact ⟨rfl, ar_make HA.out HADL.out HAD8.out HRES8.out HNR8.out HNO8.out HFR8.out (by rw [← HIT.out]; exact HITM.out) HIBL.out HIBA.out hf9 (by unfold fileBs; rw [← List.append_assoc]; exact hbt9) (hfr9.typed HAD8.out.bt HAD8.out.spb (by decide) (by decide) (fun e => e)) (HAD8.out.sps.fr hfr9 HAD8.out.bt (fun k e => e.elim)) HSUF.out (by have := fileBs_len s.data HDS.out; omega) HFK.out.2 HEQ.out HDG.out (.inl rfl) HNMS.out⟩
              clear HEQ hds
              go_upto_region 9 with (first | (go_at_call 48; refine HAF.out.mono ?_; rintro e w9 ⟨rfl, har9⟩; have HAR9 := hid_in har9; have hit9 := har9.item; rw [← HIT.out] at hit9; clear har9) | (refine Sb.wpList_store_Row rfl 30 _ _ rfl ib 2 V rfl rfl 114 IT hit9 32 info39 HVL.out (by rw [HITL.out]; decide) HV1.out ?_; intro w10 hr10 hg10 hs10))
              have HAR10 := hid_in (HAR9.out.store (D1 := DD) (by rw [← it_splice IT HIT.out HDG.out.1 HV.out]; exact hr10) hg10)
              clear hr10 hg10 hs10 hit9 HAR9
              obtain ⟨q9, c9, hnr10, hoa10, happ10⟩ := HAR10.out.app
              have cn10 : w10.cell? ⟨w.heap.size + 1, 4, none⟩ = some (.slice q9 items.length c9) := hnr10.cell 4
              obtain ⟨IC, HIC⟩ : ∃ IC, Hid (Nd.It.cells ⟨Vp.B nm0, 2, DD⟩ = IC) := ⟨_, hid_in rfl⟩
              have hit10 := HAR10.out.item
              rw [HIC.out] at hoa10 happ10 hit10
              have HIL : Hid (IC.length = 34) := hid_in (by rw [← HIC.out]; have := HAR10.out.dg.1; simp [Nd.It.cells, this])
              have HI1 : Hid (∀ v ∈ IC, v.oneCell' = true) := hid_in (by rw [← HIC.out]; exact Nd.It.one _)
              have hil : items.length ≤ 60000 := by have := HAR10.out.ilen; have := HADL.out; omega
              have HBS2 : Hid (w.heap.size + 2 ≤ (w10.alloc (.cells IC.toArray 114)).heap.size) := hid_in (by have := HAR10.out.ibl; have := hit10.lt; simp; omega)
              have HGH : Hid (tl.length < (s :: tl).length) := hid_in (by have := HSUF.out.length_le; rw [List.length_cons]; omega)
              obtain ⟨il, Hil⟩ : ∃ il, Hid (items.length = il) := ⟨_, hid_in rfl⟩
              obtain ⟨FC, HFC⟩ : ∃ FC, Hid ((items.map Nd.It.cells).flatten = FC) := ⟨_, hid_in rfl⟩
              rw [Hil.out] at cn10 hoa10 happ10 hil
              rw [HFC.out] at hoa10 happ10
              have HAPP := hid_in happ10
              have HOA := hid_in hoa10
              clear happ10 hoa10 hnr10
              go_wp2_with (first | (refine Sb.wpList_load_Row rfl 114 _ rfl ib rfl 114 _ hit10 _ Tryz.underlying114 rfl 34 Nd.info51 HIL.out ?_; simp only [Act.put, List.setIfInBounds_toArray, List.set_cons_zero, List.set_cons_succ]) | (refine Nd.wpList_slice1 rfl 106 _ rfl (.agg IC.toArray) _ _ rfl (Nd.slice29 IC HIL.out _) ?_; simp only [Act.put, List.setIfInBounds_toArray, List.set_cons_zero, List.set_cons_succ]) | (at_builtin; refine wpList_append_own _ rfl _ _ 106 rfl (w.heap.size + 2) 114 i114 z114 34 56 Tryz.underlying106 hi114.out hz114.out hs114.out hb114.out hzc114.out (by decide) _ il FC rfl HOA.out ⟨w10.heap.size, 0, none⟩ 1 1 IC rfl (by rw [HIL.out]) (World.news_of_block (heap_alloc_new w10 _)) HI1.out (by unfold maxLen; omega) (by omega) HBS2.out ?_; intro v2 w11 ho11 hg11 _; obtain ⟨q2, c2, rfl⟩ := own_shape ho11; have hnx := HAPP.out _ w11 ho11 hg11; have cn2 := hnx.1.cell 4; have fn2 := hnx.1.frozen 4; simp only [List.getElem?_cons_succ, List.getElem?_cons_zero] at cn2; have HNX := hid_in hnx.2; clear hnx ho11 hg11))
              go_roundg tl.length
              case measure => rw [← HL1.out]; exact HGH.out
              case rel =>
                go_light
                exact ⟨tl, _, _, _, rfl, HNX.out⟩
          · rw [if_pos (by rfl)]
            go_simp
            refine hK.out _ _ (SD.below hHeld ((Below.refl _ _).alloc (Nat.le_refl _) _)) (fun hHeld => ?_)
            clear hK K
            refine wpAnyH_ready (rs := [8]) (by kernel_rfl) (by simp) ?_
            refine AllReadyH.cons rfl (fun K hK => ?_) AllReadyH.nil
            rw [if_pos (by rfl)]
            go_simp
            refine (kindOf_any s.path s.data s.dir _).mono ?_
            rintro e w7 ⟨rfl, rfl⟩
            go_simp
            refine hK.out _ _ (SD.below hHeld ((Below.refl _ _).alloc (Nat.le_refl _) _)) (fun hHeld => ?_)
            clear hK K
            refine Nd.take_put (i := 9) (d := 35) (v := .agg IT.toArray) rfl rfl (by kernel_rfl) (by kernel_rfl) (by kernel_rfl) (fun _ _ _ h => h) (Or.inl ⟨by kernel_rfl, fun w' _ => by rw [HIT.out]; exact build_run _ _ _ _ _ _ _ _ rfl rfl⟩) hHeld ?_
            simp only [Act.put, List.setIfInBounds_toArray, List.set_cons_zero, List.set_cons_succ]
            refine wpAnyH_ready (rs := [11]) (by kernel_rfl) (by simp) ?_
            refine AllReadyH.cons rfl (fun K hK => ?_) AllReadyH.nil
            rw [if_pos (by rfl)]
            refine wp_store_row 114 34 _ _ rfl rfl X.heap.size _ IT ((Row.newAt X _ _ 114 rfl).alloc _) Nd.info51 rfl HITL.out HIT1.out rfl rfl ?_
            intro w8 hr8 hg8
            have HB8 := hid_in (show Below X.heap.size X w8 from below_of_grown (((Below.refl _ _).alloc (Nat.le_refl _) _).alloc (by simp) _) hg8 (by simp; omega) (by omega))
            refine hK.out _ _ (SD.below HSX.out HB8.out) (fun hHeld => ?_)
            clear hK K hg8
            refine wpAnyH_done (by kernel_rfl) ?_ _
            obtain ⟨ib, hib⟩ : ∃ ib, X.heap.size = ib := ⟨_, rfl⟩
            have HIB := hid_in (show X.heap.size ≤ ib by omega)
            rw [hib] at hr8 ⊢
            clear hib
            have HB68 := hid_in (HBX.out.trans (HB8.out.mono HBX.out.size))
            have HAD8 := hid_in (HAD6.out.below HB68.out)
            have hr8s := HR6.out.below HB68.out HR6.out.lt
            have HRES8 := hid_in (HRES6.out.below HB68.out HRES6.out.lt)
            have HNR8 := hid_in (HNR6.out.below HB68.out HNR6.out.lt)
            have HNO8 := hid_in (own_grown HNO6.out (grown_of_below HB68.out) (fun k e => by cases e))
            have HFR8 := hid_in (HFR6.out.trans (Fr.of_below HB68.out HAD6.out.bt.lt))
            have HNM8 := hid_in (Nm.kept HNM6.out (fun b cs fr e => (HB68.out.block b (Array.getElem?_eq_some_iff.1 e).1).trans e))
            have HIBL : Hid (w.heap.size + 2 ≤ ib) := hid_in (by have := HNR6.out.lt; have := HBX.out.size; have := HIB.out; omega)
            have HIBA : Hid (nv.ownBlock ≠ some ib) := hid_in (fun e => by
              obtain ⟨_, cs, fr, h⟩ := own_block HNO6.out _ e
              have := (Array.getElem?_eq_some_iff.1 h).1
              have := HBX.out.size
              have := HIB.out
              omega)
            have hfu : 0 < kk ∧ tl.length < kk - 1 := by have := HA.out.fuel; simp at this; omega
            have HFK := hid_in hfu
            have HITM := hid_in hr8
            have f0 : w8.cell? ⟨w2.heap.size, 0, none⟩ = some (.slice (some ⟨gn, 0, none⟩) s.names.length nc) := hr8s.cell 0
            have f2 : w8.cell? ⟨w2.heap.size, 2, none⟩ = some (.bool s.dir) := hr8s.cell 2
            have f3 : w8.cell? ⟨w2.heap.size, 3, none⟩ = some (.string s.data) := hr8s.cell 3
            have HNMS : Hid ((Vp.B nm0).size ≤ 9223372036854775807) := hid_in HNS.out
            have HADL := hid_in HAD.out.len
            have hnd0 : s.names.getD dir.length [] = nm0 := by rw [List.getD_eq_getElem?_getD, HNM0.out]; rfl
            have HND0 := hid_in hnd0
            obtain ⟨i114, z114, hi114, hs114, hb114, hz114, hzc114⟩ := info114h
            clear hr8s hr8 hfu hnd0 HR6 HNM6 HAD6 HRES6 HNR6 HNO6 HFR6 HSX
            cases hdir : s.dir with
            | true =>
              rw [hdir] at f2 HIT
              simp only [if_true] at HIT
              have HDIR := hid_in hdir
              clear hdir f3
              have cab := HAD8.out.fnb.cell
              have HIH := hid_in (IH.out (kk - 1) (by have := HFK.out; have := HA.out.fuelk; omega) w8 base g sb ab cb (L ++ Lc) (.slice (some ⟨gn, 0, none⟩) s.names.length nc) s.names u tl HFK.out.2 ⟨HAD8.out.bt, HAD8.out.tab, HAD8.out.base0, HAD8.out.basew, HAD8.out.spb, HAD8.out.sps, HAD8.out.fnb, HAD8.out.bb, HNM8.out, HAD8.out.nodup, HNI.out, HAD8.out.data, HAD8.out.short, HAD8.out.len, HAD8.out.sbl⟩)
              have HRS : Hid ((walkT (kk - 1) s.names tl []).2.2 <:+ tl) := walkT_rest _ _ _ _
              have HRL := hid_in (walkT_len (kk - 1) s.names tl [] HAD8.out.data)
              have HDG : Hid (Nd.Dg (walkT (kk - 1) s.names tl []).2.1) := ⟨walkT_sum HFK.out.2, walkT_sum_lt HFK.out.2⟩
              have HEQ : Hid (walkT kk dir (s :: tl) items = ((walkT (kk - 1) s.names tl []).1 ++ (walkT (kk - 1) dir (walkT (kk - 1) s.names tl []).2.2 (items ++ [⟨Vp.B nm0, 3, (walkT (kk - 1) s.names tl []).2.1⟩])).1, (walkT (kk - 1) dir (walkT (kk - 1) s.names tl []).2.2 (items ++ [⟨Vp.B nm0, 3, (walkT (kk - 1) s.names tl []).2.1⟩])).2)) := by
                obtain ⟨k', rfl⟩ : ∃ k', kk = k' + 1 := ⟨kk - 1, by have := HFK.out; omega⟩
                show walkT (k' + 1) dir (s :: tl) items = _
                rw [walkT, if_pos HHW.out, if_pos HDIR.out, HND0.out]
                rfl
              generalize walkT (kk - 1) s.names tl [] = r1 at *
              obtain ⟨rb, DD, rr⟩ := r1
              simp only at HRS HRL HDG HEQ
              have HVL : Hid ((DD.map u8v).length = 32) := hid_in (by rw [List.length_map]; exact HDG.out.1)
              have HV1 : Hid (∀ v ∈ DD.map u8v, v.oneCell' = true) := hid_in (one_u8 _)
              obtain ⟨V, HV⟩ : ∃ V, Hid (DD.map u8v = V) := ⟨_, hid_in rfl⟩
              have HSUF := HRS
              have HIH2 : Hid (Calls Tryz.prog 95 #[.slice (some ⟨gn, 0, none⟩) s.names.length nc, .pointer (some ⟨sb, 0, none⟩), .pointer (some ⟨ab, 0, none⟩), .pointer (some ⟨cb, 0, none⟩)] w8 fun e w9 => e = .returned (.agg V.toArray) ∧ AR w base g sb ab cb L (.slice dq dir.length dc) dir sp k Z items (Vp.B nm0) 3 ib DD (Lc ++ rb) rr (kk - 1) (List.replicate 32 0) w9) := by
                refine Calls.mono HIH.out ?_
                rintro e w9 ⟨rfl, hbt9, ⟨sv9, hspb9, hsps9⟩, hfr9⟩
                exact ⟨by rw [← HV.out], ar_make HA.out HADL.out HAD8.out HRES8.out HNR8.out HNO8.out HFR8.out (by rw [← HIT.out]; exact HITM.out) HIBL.out HIBA.out hfr9 hbt9 hspb9 hsps9 HRS.out (by have := HRL.out; omega) (by have := HRS.out.length_le; have := HFK.out; omega) HEQ.out HDG.out (.inr rfl) HNMS.out⟩
              rw [HV.out] at HVL HV1
              clear HIH HEQ HRL HRS
              go_upto_region 9 with (first | (go_at_call 95; refine HIH2.out.mono ?_; rintro e w9 ⟨rfl, har9⟩; have HAR9 := hid_in har9; have hit9 := har9.item; rw [← HIT.out] at hit9; clear har9) | (refine Sb.wpList_store_Row rfl 30 _ _ rfl ib 2 V rfl rfl 114 IT hit9 32 info39 HVL.out (by rw [HITL.out]; decide) HV1.out ?_; intro w10 hr10 hg10 hs10))
              have HAR10 := hid_in (HAR9.out.store (D1 := DD) (by rw [← it_splice IT HIT.out HDG.out.1 HV.out]; exact hr10) hg10)
              clear hr10 hg10 hs10 hit9 HAR9
              obtain ⟨q9, c9, hnr10, hoa10, happ10⟩ := HAR10.out.app
              have cn10 : w10.cell? ⟨w.heap.size + 1, 4, none⟩ = some (.slice q9 items.length c9) := hnr10.cell 4
              obtain ⟨IC, HIC⟩ : ∃ IC, Hid (Nd.It.cells ⟨Vp.B nm0, 3, DD⟩ = IC) := ⟨_, hid_in rfl⟩
              have hit10 := HAR10.out.item
              rw [HIC.out] at hoa10 happ10 hit10
              have HIL : Hid (IC.length = 34) := hid_in (by rw [← HIC.out]; have := HAR10.out.dg.1; simp [Nd.It.cells, this])
              have HI1 : Hid (∀ v ∈ IC, v.oneCell' = true) := hid_in (by rw [← HIC.out]; exact Nd.It.one _)
              have hil : items.length ≤ 60000 := by have := HAR10.out.ilen; have := HADL.out; omega
              have HBS2 : Hid (w.heap.size + 2 ≤ (w10.alloc (.cells IC.toArray 114)).heap.size) := hid_in (by have := HAR10.out.ibl; have := hit10.lt; simp; omega)
              have HGH : Hid (rr.length < (s :: tl).length) := hid_in (by have := HSUF.out.length_le; rw [List.length_cons]; omega)
              obtain ⟨il, Hil⟩ : ∃ il, Hid (items.length = il) := ⟨_, hid_in rfl⟩
              obtain ⟨FC, HFC⟩ : ∃ FC, Hid ((items.map Nd.It.cells).flatten = FC) := ⟨_, hid_in rfl⟩
              rw [Hil.out] at cn10 hoa10 happ10 hil
              rw [HFC.out] at hoa10 happ10
              have HAPP := hid_in happ10
              have HOA := hid_in hoa10
              clear happ10 hoa10 hnr10
              go_wp2_with (first | (refine Sb.wpList_load_Row rfl 114 _ rfl ib rfl 114 _ hit10 _ Tryz.underlying114 rfl 34 Nd.info51 HIL.out ?_; simp only [Act.put, List.setIfInBounds_toArray, List.set_cons_zero, List.set_cons_succ]) | (refine Nd.wpList_slice1 rfl 106 _ rfl (.agg IC.toArray) _ _ rfl (Nd.slice29 IC HIL.out _) ?_; simp only [Act.put, List.setIfInBounds_toArray, List.set_cons_zero, List.set_cons_succ]) | (at_builtin; refine wpList_append_own _ rfl _ _ 106 rfl (w.heap.size + 2) 114 i114 z114 34 56 Tryz.underlying106 hi114.out hz114.out hs114.out hb114.out hzc114.out (by decide) _ il FC rfl HOA.out ⟨w10.heap.size, 0, none⟩ 1 1 IC rfl (by rw [HIL.out]) (World.news_of_block (heap_alloc_new w10 _)) HI1.out (by unfold maxLen; omega) (by omega) HBS2.out ?_; intro v2 w11 ho11 hg11 _; obtain ⟨q2, c2, rfl⟩ := own_shape ho11; have hnx := HAPP.out _ w11 ho11 hg11; have cn2 := hnx.1.cell 4; have fn2 := hnx.1.frozen 4; simp only [List.getElem?_cons_succ, List.getElem?_cons_zero] at cn2; have HNX := hid_in hnx.2; clear hnx ho11 hg11))
              go_roundg rr.length
              case measure => rw [← HL1.out]; exact HGH.out
              case rel =>
                go_light
                exact ⟨rr, _, _, _, rfl, HNX.out⟩
            | false =>
              rw [hdir] at f2 HIT
              simp only [Bool.false_eq_true, if_false] at HIT
              have HDIR := hid_in hdir
              clear hdir f0
              have ccb := HAD8.out.bb.cell
              have hds : s.data.size ≤ 1024 := HDS.out
              obtain ⟨DD, HDD⟩ : ∃ DD, Hid (fileD s.data = DD) := ⟨_, hid_in rfl⟩
              obtain ⟨V, HV⟩ : ∃ V, Hid (DD.map u8v = V) := ⟨_, hid_in rfl⟩
              have HDG : Hid (Nd.Dg DD) := hid_in (by rw [← HDD.out]; exact ⟨Sb.sum_length _, sum_lt _⟩)
              have HVL : Hid (V.length = 32) := hid_in (by rw [← HV.out, List.length_map]; exact HDG.out.1)
              have HV1 : Hid (∀ v ∈ V, v.oneCell' = true) := hid_in (by rw [← HV.out]; exact one_u8 _)
              have HEQ : Hid (walkT kk dir (s :: tl) items = (fileBs s.data ++ (walkT (kk - 1) dir tl (items ++ [⟨Vp.B nm0, 2, DD⟩])).1, (walkT (kk - 1) dir tl (items ++ [⟨Vp.B nm0, 2, DD⟩])).2)) := by
                obtain ⟨k', rfl⟩ : ∃ k', kk = k' + 1 := ⟨kk - 1, by have := HFK.out; omega⟩
                show walkT (k' + 1) dir (s :: tl) items = _
                rw [walkT, if_pos HHW.out, if_neg (by rw [HDIR.out]; simp), HND0.out, HDD.out]
                all_goals rfl
              have HSUF : Hid (tl <:+ tl) := List.suffix_refl tl
              have HAF : Hid (Calls Tryz.prog 48 #[.pointer (some ⟨g, 0, none⟩), .string s.data] w8 fun e w9 => e = .returned (.agg V.toArray) ∧ AR w base g sb ab cb L (.slice dq dir.length dc) dir sp k Z items (Vp.B nm0) 2 ib DD (Lc ++ fileBs s.data) tl (kk - 1) (List.replicate 32 0) w9) := by
                refine Calls.mono (addFile_any w8 base g (L ++ Lc) s.data HAD8.out.bt HAD8.out.tab HDS.out (by have := HAD8.out.len; omega) HAD8.out.basew HAD8.out.base0 V (hid_in (by rw [← HV.out, ← HDD.out]; rfl))) ?_
                rintro e w9 ⟨rfl, hbt9, hfr9⟩
                have hf9 : Fr (· = sb) g w8 w9 := hfr9.mono (fun _ e => e.elim)
                exact ⟨rfl, ar_make HA.out HADL.out HAD8.out HRES8.out HNR8.out HNO8.out HFR8.out (by rw [← HIT.out]; exact HITM.out) HIBL.out HIBA.out hf9 (by unfold fileBs; rw [← List.append_assoc]; exact hbt9) (hfr9.typed HAD8.out.bt HAD8.out.spb (by decide) (by decide) (fun e => e)) (HAD8.out.sps.fr hfr9 HAD8.out.bt (fun k e => e.elim)) HSUF.out (by have := fileBs_len s.data HDS.out; omega) HFK.out.2 HEQ.out HDG.out (.inl rfl) HNMS.out⟩
              clear HEQ hds
              go_upto_region 9 with (first | (go_at_call 48; refine HAF.out.mono ?_; rintro e w9 ⟨rfl, har9⟩; have HAR9 := hid_in har9; have hit9 := har9.item; rw [← HIT.out] at hit9; clear har9) | (refine Sb.wpList_store_Row rfl 30 _ _ rfl ib 2 V rfl rfl 114 IT hit9 32 info39 HVL.out (by rw [HITL.out]; decide) HV1.out ?_; intro w10 hr10 hg10 hs10))
              have HAR10 := hid_in (HAR9.out.store (D1 := DD) (by rw [← it_splice IT HIT.out HDG.out.1 HV.out]; exact hr10) hg10)
              clear hr10 hg10 hs10 hit9 HAR9
              obtain ⟨q9, c9, hnr10, hoa10, happ10⟩ := HAR10.out.app
              have cn10 : w10.cell? ⟨w.heap.size + 1, 4, none⟩ = some (.slice q9 items.length c9) := hnr10.cell 4
              obtain ⟨IC, HIC⟩ : ∃ IC, Hid (Nd.It.cells ⟨Vp.B nm0, 2, DD⟩ = IC) := ⟨_, hid_in rfl⟩
              have hit10 := HAR10.out.item
              rw [HIC.out] at hoa10 happ10 hit10
              have HIL : Hid (IC.length = 34) := hid_in (by rw [← HIC.out]; have := HAR10.out.dg.1; simp [Nd.It.cells, this])
              have HI1 : Hid (∀ v ∈ IC, v.oneCell' = true) := hid_in (by rw [← HIC.out]; exact Nd.It.one _)
              have hil : items.length ≤ 60000 := by have := HAR10.out.ilen; have := HADL.out; omega
              have HBS2 : Hid (w.heap.size + 2 ≤ (w10.alloc (.cells IC.toArray 114)).heap.size) := hid_in (by have := HAR10.out.ibl; have := hit10.lt; simp; omega)
              have HGH : Hid (tl.length < (s :: tl).length) := hid_in (by have := HSUF.out.length_le; rw [List.length_cons]; omega)
              obtain ⟨il, Hil⟩ : ∃ il, Hid (items.length = il) := ⟨_, hid_in rfl⟩
              obtain ⟨FC, HFC⟩ : ∃ FC, Hid ((items.map Nd.It.cells).flatten = FC) := ⟨_, hid_in rfl⟩
              rw [Hil.out] at cn10 hoa10 happ10 hil
              rw [HFC.out] at hoa10 happ10
              have HAPP := hid_in happ10
              have HOA := hid_in hoa10
              clear happ10 hoa10 hnr10
              go_wp2_with (first | (refine Sb.wpList_load_Row rfl 114 _ rfl ib rfl 114 _ hit10 _ Tryz.underlying114 rfl 34 Nd.info51 HIL.out ?_; simp only [Act.put, List.setIfInBounds_toArray, List.set_cons_zero, List.set_cons_succ]) | (refine Nd.wpList_slice1 rfl 106 _ rfl (.agg IC.toArray) _ _ rfl (Nd.slice29 IC HIL.out _) ?_; simp only [Act.put, List.setIfInBounds_toArray, List.set_cons_zero, List.set_cons_succ]) | (at_builtin; refine wpList_append_own _ rfl _ _ 106 rfl (w.heap.size + 2) 114 i114 z114 34 56 Tryz.underlying106 hi114.out hz114.out hs114.out hb114.out hzc114.out (by decide) _ il FC rfl HOA.out ⟨w10.heap.size, 0, none⟩ 1 1 IC rfl (by rw [HIL.out]) (World.news_of_block (heap_alloc_new w10 _)) HI1.out (by unfold maxLen; omega) (by omega) HBS2.out ?_; intro v2 w11 ho11 hg11 _; obtain ⟨q2, c2, rfl⟩ := own_shape ho11; have hnx := HAPP.out _ w11 ho11 hg11; have cn2 := hnx.1.cell 4; have fn2 := hnx.1.frozen 4; simp only [List.getElem?_cons_succ, List.getElem?_cons_zero] at cn2; have HNX := hid_in hnx.2; clear hnx ho11 hg11))
              go_roundg tl.length
              case measure => rw [← HL1.out]; exact HGH.out
              case rel =>
                go_light
                exact ⟨tl, _, _, _, rfl, HNX.out⟩
end Go.Proofs.YtamaejlbojbbeaaGreatDoor.Tr
