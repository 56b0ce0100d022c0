/-
  Put.
-/
import Derived.Laws.CopyOwn
import Derived.Deep.RegionLaw
import Derived.Deep.DrawnRows
import Derived.Laws.Tables
import Derived.Test.YtglfeocfhlmloaaGreatY00
import Derived.Test.YtglfeocfhlmloaaGreatY01
import Derived.Test.YtglfeocfhlmloaaGreatY02
import Derived.Test.YtglfeocfhlmloaaGreatY03
import Derived.Test.YtglfeocfhlmloaaGreatY04
import Derived.Test.YtglfeocfhlmloaaGreatY05
import Derived.Test.YtglfeocfhlmloaaGreatY06
import Derived.Test.YtglfeocfhlmloaaGreatY07
import Derived.Test.YtglfeocfhlmloaaGreatY08
import Derived.Test.YtglfeocfhlmloaaGreatY09
import Derived.Test.YtglfeocfhlmloaaGreatY11
import Derived.Test.YtglfeocfhlmloaaGreatY12
import Derived.Test.YtglfeocfhlmloaaGreatY13
import Derived.Test.YtglfeocfhlmloaaGreatY14
import Derived.Test.YtglfeocfhlmloaaGreatY15
import Derived.Test.YtglfeocfhlmloaaGreatY16
import Derived.Test.YtglfeocfhlmloaaGreatY17
import Derived.Test.YtglfeocfhlmloaaGreatY18
import Derived.Test.YtglfeocfhlmloaaGreatY19
import Derived.Test.YtglfeocfhlmloaaGreatY20
import Derived.Test.YtglfeocfhlmloaaGreatY21
import Derived.Test.YtglfeocfhlmloaaGreatY22
import Derived.Test.YtglfeocfhlmloaaGreatY23
import Derived.Test.YtglfeocfhlmloaaGreatY24
import Derived.Test.YtglfeocfhlmloaaGreatY25
import Derived.Test.YtglfeocfhlmloaaGreatY26
import Derived.Test.YtglfeocfhlmloaaGreatY27
import Derived.Test.YtglfeocfhlmloaaGreatY28
import Derived.Test.YtglfeocfhlmloaaGreatY29
import Derived.Test.YtglfeocfhlmloaaGreatY30
namespace Go.Proofs.YtglfeocfhlmloaaGreat.Up
open Go.RowKit
open Vp (Str B bl Val cmpL parseS showS withinS IsPath checkS)
open Nd (Row wp_world post_Row post_Row2 grownBy_setCell below_of_grown)
def nmsOf (s : ByteArray) : List Str := (parseS (bl s)).1
def errOf (s : ByteArray) : Int := (parseS (bl s)).2
theorem gp_nms (s : ByteArray) : Gp (nmsOf s) := gp_parse _
/-- what is wrong with an inode that is put -/
def putE (L : List Spot) (p : ByteArray) (k : Int) (q : Bool) (d : ByteArray) : Int := if errOf p ≠ 0 then errOf p else if nmsOf p = [] then 132 else if formE k q d ≠ 0 then formE k q d else placeE L (nmsOf p) k
theorem parse_p (s : ByteArray) (hs : s.size ≤ 9223372036854775807) (w : World) : Calls Tryz.prog 39 #[.string s] w fun e w' => ∃ pv c, e = .returned (.tuple #[.slice pv (nmsOf s).length c, .int .i64 (errOf s)]) ∧ Rf.Nm w' (.slice pv (nmsOf s).length c) (nmsOf s) ∧ Below w.heap.size w w' := by
  have h := Vp.parse_any (bl s) (by rw [Vp.bl_length]; exact hs) w
  rw [Vp.B_bl] at h
  refine h.mono ?_
  rintro e w' ⟨v, rfl, hn, hb⟩
  have h1 := Rf.Nm.of hn
  obtain ⟨pv, c, e1⟩ := h1.form
  rw [e1] at h1
  exact ⟨pv, c, by rw [e1]; rfl, h1, hb⟩
/-- what stands behind a Put -/
def Puts (_w : World) (g m : Nat) (N Z : Int) (L : List Spot) (p : ByteArray) (k : Int) (q : Bool) (d : ByteArray) (w' : World) : Prop := (putE L p k q d ≠ 0 ∧ Fs w' g m N Z L) ∨ (putE L p k q d = 0 ∧ ∃ v, Fs w' g m N Z (putP L ⟨v, nmsOf p, B (showS (nmsOf p)), k, q, d⟩))
set_option maxHeartbeats 4000000 in
set_option maxRecDepth 100000 in
theorem put_any {w : World} {g m : Nat} {N Z : Int} {L : List Spot} (h : Fs w g m N Z L) (hn : L.length ≤ 100000) (p : ByteArray) (k : Int) (q : Bool) (d : ByteArray) (hs : p.size ≤ 9223372036854775807) :
    Calls Tryz.prog 14 #[.pointer (some ⟨g, 0, none⟩), .agg #[.string p, .int .i64 k, .bool q, .string d]] w fun e w' => e = .returned (.int .i64 (putE L p k q d)) ∧ Puts w g m N Z L p k q d w' ∧ w.grownBy w' (some m) := by
  obtain ⟨w1, HW1⟩ : ∃ w1, Hid (w.alloc (.cells #[.string p, .int .i64 k, .bool q, .string d] 42) = w1) := ⟨_, hid_in rfl⟩
  have HB1 : Hid (Below w.heap.size w w1) := by rw [← HW1.out]; exact (Below.refl _ _).alloc (Nat.le_refl _) _
  have HR1 : Hid (Row w1 w.heap.size [.string p, .int .i64 k, .bool q, .string d] 42) := by rw [← HW1.out]; exact Row.new w [.string p, .int .i64 k, .bool q, .string d] 42
  have H := hid_in h
  have HPA := hid_in (parse_p p hs w1)
  have HFO := hid_in (fun W => form_any p k q d W)
  have HPL := hid_in (fun W nv (x : Below w.heap.size w W) (hv : Val W nv (nmsOf p)) (hne : nmsOf p ≠ []) => checkPlace_any (h.below x) hn hv (gp_nms p) hne k)
  have HSH := hid_in (fun W nv (hv : Val W nv (nmsOf p)) => show_at hv (gp_nms p) W (Below.refl _ _))
  have HPUT := hid_in (fun W v (x : Below w.heap.size w W) (hv : Rf.Nm W v (nmsOf p)) => (h.below x).map.put ⟨v, nmsOf p, B (showS (nmsOf p)), k, q, d⟩ rfl (gp_nms p) hv)
  have c0 : w1.cell? ⟨w.heap.size, 0, none⟩ = some (.string p) := HR1.out.cell 0
  simp only [Spot.val] at HPUT
  unfold Puts
  obtain ⟨E, HE⟩ : ∃ E, Hid (putE L p k q d = E) := ⟨_, hid_in rfl⟩
  rw [HE.out]
  unfold putE at HE
  generalize nmsOf p = ns at *
  generalize errOf p = er at *
  obtain ⟨T, HT⟩ : ∃ T, Hid (B (showS ns) = T) := ⟨_, hid_in rfl⟩
  rw [HT.out] at HSH HPUT ⊢
  clear h hn hs
  go_enter Tryz.func14, Tryz.ntmps14
  go_upto_region 1 with fail
  refine wp_world HW1.out ?_
  go_upto_region 4 with (first | (go_at_call 39; refine HPA.out.mono ?_; rintro e w2 ⟨pv, pc, rfl, hn2, hb2⟩; have HN2 := hid_in hn2; have HB2 := hid_in (HB1.out.trans (hb2.mono HB1.out.size)); have HR2 := hid_in (HR1.out.below hb2 HR1.out.lt); clear hn2 hb2))
  by_cases he : er = 0
  · subst he
    have HE2 : Hid ((if ns = [] then 132 else if formE k q d ≠ 0 then formE k q d else placeE L ns k) = E) := hid_in (by rw [← HE.out]; simp)
    clear HE
    by_cases hne : ns = []
    · have hl : ns.length = 0 := by rw [hne]; rfl
      have hE : E = 132 := by rw [← HE2.out, if_pos hne]
      subst hE
      rw [hl]
      clear hne hl HE2
      go_wp2
      go_ret
      exact ⟨rfl, .inl ⟨by decide, H.out.below HB2.out⟩, (grown_of_below HB2.out).but _⟩
    · have HNE := hid_in hne
      have hl : ((ns.length : Int) == 0) = false := by
        rw [beq_eq_false_iff_ne]
        have := List.length_pos_iff.2 hne
        omega
      have HE3 : Hid ((if formE k q d ≠ 0 then formE k q d else placeE L ns k) = E) := hid_in (by rw [← HE2.out, if_neg hne])
      obtain ⟨nl, HNL⟩ : ∃ nl, Hid (ns.length = nl) := ⟨_, hid_in rfl⟩
      rw [HNL.out] at hl HN2 ⊢
      clear HE2 hne
      have a0 : w2.cell? ⟨w.heap.size, 0, none⟩ = some (.string p) := HR2.out.cell 0
      have a1 : w2.cell? ⟨w.heap.size, 1, none⟩ = some (.int .i64 k) := HR2.out.cell 1
      have a2 : w2.cell? ⟨w.heap.size, 2, none⟩ = some (.bool q) := HR2.out.cell 2
      have a3 : w2.cell? ⟨w.heap.size, 3, none⟩ = some (.string d) := HR2.out.cell 3
      go_upto_region 9 with (first | (go_at_call 40; refine (HFO.out _).mono ?_; rintro e w3 ⟨rfl, hb3⟩; have HN3 := hid_in (HN2.out.below hb3); have HB3 := hid_in (HB2.out.trans (hb3.mono HB2.out.size)); have HR3 := hid_in (HR2.out.below hb3 HR2.out.lt); clear hb3))
      by_cases hf : formE k q d = 0
      · rw [hf]
        have HE4 : Hid (placeE L ns k = E) := hid_in (by rw [← HE3.out, hf]; simp)
        clear HE3 hf
        have b1 : w3.cell? ⟨w.heap.size, 1, none⟩ = some (.int .i64 k) := HR3.out.cell 1
        go_upto_region 12 with (first | (go_at_call 41; refine (HPL.out _ _ HB3.out HN3.out.val HNE.out).mono ?_; rw [HE4.out]; rintro e w4 ⟨rfl, hb4⟩; have HN4 := hid_in (HN3.out.below hb4); have HB4 := hid_in (HB3.out.trans (hb4.mono HB3.out.size)); have HR4 := hid_in (HR3.out.below hb4 HR3.out.lt); clear hb4))
        by_cases hE : E = 0
        · subst hE
          have e0 : w4.cell? ⟨w.heap.size, 0, none⟩ = some (.string p) := HR4.out.cell 0
          go_upto_region 15 with (first | (go_at_call 42; refine (HSH.out _ _ HN4.out.val).mono ?_; rintro e w5 ⟨rfl, -, hb5⟩; have HN5 := hid_in (HN4.out.below hb5); have HB5 := hid_in (HB4.out.trans (hb5.mono HB4.out.size)); have HR5 := hid_in (HR4.out.below hb5 HR4.out.lt); have e5 := HR5.out.cell 0; have f5 := HR5.out.frozen 0; clear hb5))
          have HR6 := hid_in (HR5.out.set_same 0 (.string T))
          have HB6 := hid_in (set_below (j := 0) HB5.out (Nat.le_refl _) HB5.out.size (.string T))
          have HN6 : Hid (Rf.Nm (w5.setCell ⟨w.heap.size, 0, none⟩ (.string T)) (.slice pv nl pc) ns) := hid_in (nm_kept HN5.out (fun b cs fr e => by
            have hg := grownBy_setCell w5 ⟨w.heap.size, 0, none⟩ (.string T)
            rw [hg.block b (Array.getElem?_eq_some_iff.1 e).1 (fun e2 => by
              have e3 : b = w.heap.size := Option.some.inj e2
              have hr := HR5.out
              unfold Row at hr
              rw [e3] at e
              rw [hr] at e
              cases e)]
            exact e))
          obtain ⟨w6, HW6⟩ : ∃ w6, Hid (w5.setCell ⟨w.heap.size, 0, none⟩ (.string T) = w6) := ⟨_, hid_in rfl⟩
          rw [HW6.out] at HR6 HB6 HN6
          refine wp_world HW6.out ?_
          have HBD := hid_in (below_drewN HB6.out.1 1)
          obtain ⟨w7, hp7, hm7, hg7, hs7⟩ := HPUT.out w6.drew (.slice pv nl pc) HBD.out (HN6.out.below (below_drew w6))
          have HM7 := hid_in hm7
          have HG7 := hid_in hg7
          clear hm7 hg7 hs7
          have HK : Hid (∀ W, Below w6.heap.size w6 W → W.cell? ⟨g, 2, none⟩ = some (.map (some m)) ∧ W.cell? ⟨w.heap.size, 0, none⟩ = some (.string T) ∧ W.cell? ⟨w.heap.size, 1, none⟩ = some (.int .i64 k) ∧ W.cell? ⟨w.heap.size, 2, none⟩ = some (.bool q) ∧ W.cell? ⟨w.heap.size, 3, none⟩ = some (.string d)) := hid_in (fun W x => by
            have hr := HR6.out.below x HR6.out.lt
            exact ⟨(H.out.below (HB6.out.1.trans (x.mono HB6.out.2))).cell.2.2, hr.cell 0, hr.cell 1, hr.cell 2, hr.cell 3⟩)
          have HK7 : Hid (w7.cell? ⟨g, 2, none⟩ = some (.map (some m)) ∧ w7.cell? ⟨w.heap.size, 0, none⟩ = some (.string T) ∧ w7.cell? ⟨w.heap.size, 1, none⟩ = some (.int .i64 k) ∧ w7.cell? ⟨w.heap.size, 2, none⟩ = some (.bool q) ∧ w7.cell? ⟨w.heap.size, 3, none⟩ = some (.string d)) := hid_in (by
            have hg0 := (H.out.below HBD.out).row.grown HG7.out (fun e => H.out.ne (Option.some.inj e))
            have hr := (HR6.out.below (below_drew w6) HR6.out.lt).grown HG7.out (fun e => by have := Option.some.inj e; have := H.out.map.lt; omega)
            exact ⟨hg0.cell 2, hr.cell 0, hr.cell 1, hr.cell 2, hr.cell 3⟩)
          have HFIN : Hid (Fs w7 g m N Z (putP L ⟨.slice pv nl pc, ns, T, k, q, d⟩)) := hid_in ⟨(H.out.below HBD.out).row.grown HG7.out (fun e => H.out.ne (Option.some.inj e)), HM7.out⟩
          have HGR := hid_in (grown_plus HBD.out HG7.out)
          go_region_held3 (fun W => W.cell? ⟨g, 2, none⟩ = some (.map (some m)) ∧ W.cell? ⟨w.heap.size, 0, none⟩ = some (.string T) ∧ W.cell? ⟨w.heap.size, 1, none⟩ = some (.int .i64 k) ∧ W.cell? ⟨w.heap.size, 2, none⟩ = some (.bool q) ∧ W.cell? ⟨w.heap.size, 3, none⟩ = some (.string d)) (first | (exact HK7.out) | (exact HK.out _ (below_drew _)) | (exact HK.out _ (Below.refl _ _))) (fail)
          all_goals
            go_wp2
            go_ret
            exact ⟨rfl, ⟨_, HFIN.out⟩, HGR.out⟩
        · have HEN := hid_in hE
          go_wp2
          go_ret
          exact ⟨rfl, .inl ⟨HEN.out, H.out.below HB4.out⟩, (grown_of_below HB4.out).but _⟩
      · have hE : E = formE k q d := by rw [← HE3.out, if_pos hf]
        have HEN := hid_in (show formE k q d ≠ 0 from hf)
        subst hE
        clear HE3
        go_wp2
        go_ret
        exact ⟨rfl, .inl ⟨HEN.out, H.out.below HB3.out⟩, (grown_of_below HB3.out).but _⟩
  · have hE : E = er := by rw [← HE.out, if_pos he]
    subst hE
    have HEN := hid_in he
    clear HE
    go_wp2
    go_ret
    exact ⟨rfl, .inl ⟨HEN.out, H.out.below HB2.out⟩, (grown_of_below HB2.out).but _⟩
end Go.Proofs.YtglfeocfhlmloaaGreat.Up
