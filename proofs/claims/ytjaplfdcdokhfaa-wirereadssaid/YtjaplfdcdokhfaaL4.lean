/-
  The walk of the statement WireReads.
-/
import Derived.Test.YtjaplfdcdokhfaaU16
import Derived.Test.YtjaplfdcdokhfaaL3
namespace Go.Proofs.Ytjaplfdcdokhfaa
open Go.RowKit

theorem same_any (w : World) (gi gr : Nat) (t : TypeId) (bs : List Nat) (k e : Nat) (f : Fld) (hm1 : -9223372036854775808 ≤ f.M) (hm2 : f.M ≤ 9223372036854775807) (hlt : ∀ x ∈ bs, x < 256) (hb : Both w gi gr t bs k e) :
    Calls Try.prog 16 #[.pointer (some ⟨gi, 0, none⟩), .pointer (some ⟨gr, 0, none⟩), .agg #[.int .i64 f.K, .int .u64 (f.N : Int), .string f.S, .int .i64 f.M]] w fun r w' => r = .returned (.bool true) ∧ ∃ k' e', Both w' gi gr t bs k' e' ∧ Grew w w' (fun q => q = gi ∨ q = gr) := by
  obtain ⟨h, h5⟩ := f.kind_eq
  obtain hk | hk | hk | hk | hk : f.kind = 0 ∨ f.kind = 1 ∨ f.kind = 2 ∨ f.kind = 3 ∨ f.kind = 4 := by omega
  all_goals rw [hk] at h
  · exact same_num w gi gr t bs k e f.K f.M f.N f.S h hlt hb
  · exact same_int w gi gr t bs k e f.K f.M f.N f.S h hlt hb
  · exact same_text w gi gr t bs k e f.K f.M f.N f.S h hm1 hm2 hlt hb
  · exact same_flag w gi gr t bs k e f.K f.M f.N f.S h hlt hb
  · exact same_dig w gi gr t bs k e f.K f.M f.N f.S h hlt hb
/-- the program's In, its bytes in a block from B on -/
def InA (w : World) (g : Nat) (bs : List Nat) (e B : Nat) : Prop :=
  ∃ p cap b off, Row w g [.slice p bs.length cap, .int .i64 (e : Int)] 80 ∧ Sl w p bs cap b off ∧ (p = none → bs.length = 0 ∧ cap = 0) ∧ (0 < bs.length → b ≠ g ∧ B ≤ b)
theorem InA.is {w : World} {g e B : Nat} {bs : List Nat} (h : InA w g bs e B) : InIs w g bs e := by
  obtain ⟨p, cap, b, off, hr, hsl, hno, hne⟩ := h
  exact ⟨p, cap, b, off, hr, hsl, hno, fun h0 => (hne h0).1⟩
theorem InA.grew {w w' : World} {g e B q : Nat} {bs : List Nat} (h : InA w g bs e B) (hg : Grew w w' (· = q)) (hq : q < B) (hgq : g ≠ q) : InA w' g bs e B := by
  obtain ⟨p, cap, b, off, hr, hsl, hno, hne⟩ := h
  exact ⟨p, cap, b, off, hr.of_block (hg.block g hr.lt hgq), hsl.grew hg (fun h0 e => by have := (hne h0).2; omega), hno, hne⟩
theorem readA (bs : List Nat) (p : Option Addr) (cap b off : Nat) (w : World) (hsl : Sl w p bs cap b off) (hno : p = none → bs.length = 0 ∧ cap = 0) (hre : bs.length ≤ 140737488355328) :
    Calls Try.prog 14 #[.slice p bs.length cap] w fun e w' => ∃ g, e = .returned (.pointer (some ⟨g, 0, none⟩)) ∧ InA w' g bs 0 w.heap.size ∧ w.heap.size ≤ g ∧ Below w.heap.size w w' := by
  have hc := clone_any bs p cap b off w hsl hno hre
  have hlt := hsl.lt
  clear hsl
  go_enter Try.func14, Try.ntmps14
  go_wp2_with fail
  refine hc.mono ?_
  rintro e w1 ⟨v1, rfl, hown, hb⟩
  obtain ⟨p1, cap1, b1, rfl, hsl1, hno1, hB1⟩ := own_sl2 hlt hown
  have HB1 := hid_in hB1
  clear hown hc hB1
  go_wp2
  go_ret
  have hb2 : Below w1.heap.size w1 (w1.alloc (.cells [.slice p1 bs.length cap1, .int .i64 0].toArray 80)) := (Below.refl _ _).alloc (Nat.le_refl _) _
  refine ⟨w1.heap.size, rfl, ⟨p1, cap1, b1, 0, Row.newAt w1 _ [.slice p1 bs.length cap1, .int .i64 0] 80 rfl, hsl1.below hb2, hno1, fun h0 => ⟨?_, HB1.out h0⟩⟩, hb.size, hb.alloc hb.size _⟩
  have := hsl1.blk h0
  omega
set_option maxHeartbeats 2000000 in
set_option maxRecDepth 100000 in
theorem reads_any (bs : List Nat) (p : Option Addr) (ca b off : Nat) (fs : List Fld) (pa : Option Addr) (cb fb fo : Nat) (w : World) (hsl : Sl w p bs ca b off) (hno : p = none → bs.length = 0 ∧ ca = 0) (hre : bs.length ≤ 140737488351232)
    (hfs : Fields w fb fo fs) (hpa : 0 < fs.length → pa = some ⟨fb, fo, none⟩) (hn : fs.length ≤ 9223372036854775807) (hM : ∀ f ∈ fs, -9223372036854775808 ≤ f.M ∧ f.M ≤ 9223372036854775807) :
    Calls Try.prog 4 #[.slice p bs.length ca, .slice pa fs.length cb] w fun e w' => e = .returned (.bool true) ∧ Below w.heap.size w w' := by
  obtain ⟨i5i, HI5, HE1, HE2, HE3⟩ := i5h
  have HA := hid_in hsl
  have HNO := hid_in hno
  have HPA := hid_in hpa
  have HFS := hid_in hfs
  have HM := hid_in hM
  clear hsl hfs hpa hno hM
  go_enter Try.func4, Try.ntmps4
  go_wp2_with fail
  refine (awake_any w).mono ?_
  rintro e w1 ⟨rfl, hb1⟩
  have hown0 := own_empty w1
  have hbE : Below w1.heap.size w1 (w1.alloc (.cells #[] 5)) := (Below.refl _ _).alloc (Nat.le_refl _) _
  have hn1 := ((HA.out.below hb1).below hbE).news
  have hl1 : (bs.map u8v).length = bs.length := by simp
  have hf1 : 0 + bs.length ≤ 140737488355328 := by omega
  have hf2 : bs.length + 1 ≤ 140737488355328 := by omega
  have hBs : w1.heap.size ≤ (w1.alloc (.cells #[] 5)).heap.size := by simp
  have hno := HNO.out
  go_wp2_with (first | (at_builtin; refine wpList_append_any rfl _ _ 25 rfl w1.heap.size 5 i5i (.int .u8 0) Try.underlying25 HI5.out HE3.out HE1.out HE2.out rfl _ 0 [] rfl hown0 p bs.length ca (bs.map u8v) rfl hl1 hno hn1 (one_u8 bs) hf1 hBs ?_; intro v10 w10 hown10 hg10; rw [Nat.zero_add, List.nil_append] at hown10; have hb10 := own_step hbE hg10 hBs rfl hown0; have hsz10 : w1.heap.size ≤ w10.heap.size := hb10.size) | (at_builtin; refine wpList_append_one rfl _ _ 25 rfl w1.heap.size 5 i5i (.int .u8 0) Try.underlying25 HI5.out HE3.out HE1.out HE2.out rfl _ _ _ rfl hown10 5 (.int .u8 5) rfl rfl hf2 hsz10 ?_; intro v11 w11 hown11 hb11 hsz11; obtain ⟨gw, cw, vs, rfl, hgB, hglt, hrow, hc1, hc2, hvl, hvt⟩ := own_row hown11 (Nat.succ_pos _); have hs1 := slice_to gw 0 (bs.length + 1) cw bs.length (Nat.le_of_succ_le hc1)))
  have hb11' : Below w.heap.size w w11 := hb1.trans ((hb11 w1 hb10).mono hb1.size)
  have hslR : Sl w11 (some ⟨gw, 0, none⟩) bs cw gw 0 := ⟨HA.out.lt, by omega, hc2, fun _ => rfl, fun j hj => by
    rw [Nat.zero_add, hrow.cell]
    have e1 : vs[j]? = (vs.take (bs.length + 1))[j]? := by rw [List.getElem?_take_of_lt (by omega)]
    rw [e1, hvt, List.getElem?_append_left (by simpa using hj)]
    simp [hj]⟩
  have HRD := hid_in (readA bs (some ⟨gw, 0, none⟩) cw gw 0 w11 hslR (fun h => by cases h) (by omega))
  have HROW := hid_in hrow
  have HB11 := hid_in hb11'
  have HVL : Hid (bs.length + 1 ≤ vs.length) := by rw [hvl]; exact hc1
  have HGW : Hid (w.heap.size ≤ gw ∧ gw < w11.heap.size) := ⟨Nat.le_trans hb1.size hgB, hglt⟩
  clear hown11 hown10 hown0 hn1 hrow hvt hb11 hb10 hslR hg10 hs1 hb11' hbE hBs hvl hgB hglt hsz10 hsz11 hb1
  refine HRD.out.mono ?_
  rintro e2 w2 ⟨gi, rfl, hI, hgi, hb2⟩
  have HI := hid_in hI
  have HGI : Hid (gw < gi) := by have := HGW.out.2; show _ < _; omega
  have HB2 : Hid (Below w.heap.size w w2) := HB11.out.trans (hb2.mono HB11.out.size)
  have HRW : Hid (Row w2 gw vs 5) := HROW.out.below hb2 HGW.out.2
  have HGB : Hid (gw < w11.heap.size) := HGW.out.2
  clear HRD hI HROW hgi hb2
  obtain ⟨R, HRR⟩ : ∃ R, Hid (bs.length + 1 = R) := ⟨_, rfl⟩
  rw [HRR.out]
  rw [HRR.out] at HVL hf2
  have hl3 : (R : Int) ≤ 9223372036854775807 := by omega
  go_wp2_with fail
  go_loopw [7] (fun v7 w' => ∃ (j : Nat) (us : List Value), j ≤ R ∧ v7 = .int .i64 (j : Int) ∧ us.length = vs.length ∧ Row w' gw us 5 ∧ Grew w2 w' (· = gw)) (fun v7 _ => R - (intOf v7).toNat)
  case atStart => exact ⟨0, vs, by omega, rfl, rfl, HRW.out, Grew.refl _ _⟩
  case round =>
    obtain ⟨j, us, hj, rfl, hul, hrow, hG⟩ := hrel
    by_cases hlt : j < R
    · have hju : j < us.length := by have := HVL.out; omega
      have c0 : wr.cell? ⟨gw, j, none⟩ = some us[j] := by rw [hrow.cell, List.getElem?_eq_getElem hju]
      have f0 := hrow.frozen j
      generalize us[j] = y at c0
      have HRO := hid_in hrow
      have HG := hid_in hG
      have HUL := hid_in hul
      have k1 : (j : Int) < (R : Int) := by omega
      clear hrow hG hul hju
      go_wp2
      go_roundw
      case rel =>
        go_light
        exact ⟨j + 1, us.set j (.int .u8 238), by omega, by go_num, by rw [List.length_set]; exact HUL.out, HRO.out.set_same _ _, HG.out.trans (grew_one (grownBy_setCell _ ⟨gw, j, none⟩ _)) (fun _ _ h => h)⟩
      case measure => simp [intOf]; omega
    · have k1 : (R : Int) ≤ (j : Int) := by omega
      have hI2 := HI.out.grew hG HGB.out (by have := HGI.out; omega)
      have hbr : Below w.heap.size w wr := hG.below HB2.out HB2.out.size (fun k hk => by have := HGW.out.1; omega)
      have hbA : Below wr.heap.size wr (wr.alloc (.cells #[.slice p bs.length ca, .int .i64 0, .int .i64 0] 41)) := (Below.refl _ _).alloc (Nat.le_refl _) _
      have hI3 := hI2.is.below hbA
      have hslw := (HA.out.below hbr).below hbA
      have hgiw : gi < wr.heap.size := by obtain ⟨_, _, _, _, h, _⟩ := hI2; exact h.lt
      have hbo : Both (wr.alloc (.cells #[.slice p bs.length ca, .int .i64 0, .int .i64 0] 41)) gi wr.heap.size 41 bs 0 0 :=
        ⟨by rw [List.drop_zero]; exact hI3, ⟨⟨p, ca, b, off, Row.newAt wr _ [.slice p bs.length ca, .int .i64 0, .int .i64 0] 41 rfl, hslw, fun h0 => by
          have h1 := HA.out.blk h0
          have h2 := hbr.size
          omega⟩, Nat.zero_le _⟩, by omega⟩
      have HBO := hid_in hbo
      have HLE := hid_in (ileft_any _ gi 0 bs hI3)
      have HBR : Hid (Below w.heap.size w (wr.alloc (.cells #[.slice p bs.length ca, .int .i64 0, .int .i64 0] 41))) := hbr.trans (hbA.mono hbr.size)
      have HGR : Hid (w.heap.size ≤ gi ∧ w.heap.size ≤ wr.heap.size) := ⟨by have := HGI.out; have := HGW.out.1; omega, hbr.size⟩
      have HLT := hid_in HA.out.lt
      clear hrow hG hul hlt hI2 hbr hbA hI3 hslw hgiw hbo HI HB2 HRW HGB HGI HGW HVL HB11
      go_wp2_with fail
      refine HLE.out.mono ?_
      rintro e3 w3 ⟨rfl, hw3⟩
      rw [← hw3] at HBO HBR
      clear HLE hw3
      generalize wr.heap.size = gr at HBO HGR ⊢
      go_wp2_with fail
      go_loopw [9] (fun v9 w' => ∃ (j k e : Nat), j ≤ fs.length ∧ v9 = .int .i64 (j : Int) ∧ Both w' gi gr 41 bs k e ∧ Below w.heap.size w w') (fun v9 _ => fs.length - (intOf v9).toNat)
      case atStart => exact ⟨0, 0, 0, by omega, rfl, HBO.out, HBR.out⟩
      case round =>
        clear HBO HBR
        obtain ⟨j, k, e, hj, rfl, hbo, hbw⟩ := hrel
        by_cases hlt : j < fs.length
        · obtain ⟨f, hf⟩ : ∃ f, fs[j]? = some f := ⟨_, List.getElem?_eq_getElem hlt⟩
          have hfr := HFS.out.below hbw
          have c0 := hfr.at0 j f hf
          have c1 := hfr.at1 j f hf
          have c2 := hfr.at2 j f hf
          have c3 := hfr.at3 j f hf
          obtain ⟨hm1, hm2⟩ := HM.out f (List.mem_of_getElem? hf)
          obtain rfl := HPA.out (by omega)
          have HSA := hid_in (same_any _ gi gr 41 bs k e f hm1 hm2 HLT.out hbo)
          have HBW := hid_in hbw
          have k2 : (j : Int) < (fs.length : Int) := by omega
          clear hf hfr hbo hbw
          go_wp2_with fail
          refine HSA.out.mono ?_
          rintro e4 w4 ⟨rfl, k', e', hbo4, hG4⟩
          have HBO4 := hid_in hbo4
          have HBW4 : Hid (Below w.heap.size w w4) := hG4.below HBW.out HBW.out.size (fun q hq => by have := HGR.out; omega)
          clear hbo4 hG4 HSA
          go_wp2
          go_roundw
          case rel =>
            go_light
            exact ⟨j + 1, k', e', by omega, by go_num, HBO4.out, HBW4.out⟩
          case measure => simp [intOf]; omega
        · have k2 : (fs.length : Int) ≤ (j : Int) := by omega
          have HBW := hid_in hbw
          clear hbo hbw
          have H17 := hid_in inum_nil
          go_wp2_with (first | (go_at_call 17; refine (inum_nil _).mono ?_; rintro x17 y17 ⟨rfl, h17⟩; subst h17) | (go_at_call 18; refine (itext_nil _).mono ?_; rintro x18 y18 ⟨rfl, h18⟩; subst h18) | (go_at_call 19; refine (iflag_nil _).mono ?_; rintro x19 y19 ⟨rfl, h19⟩; subst h19) | (go_at_call 20; refine (ierr_nil _).mono ?_; rintro x20 y20 ⟨rfl, h20⟩; subst h20) | (go_at_call 15; refine (ileft_nil _).mono ?_; rintro x15 y15 ⟨rfl, h15⟩; subst h15) | (go_at_call 21; refine (iend_nil _).mono ?_; rintro x21 y21 ⟨rfl, h21⟩; subst h21))
          go_ret
          exact ⟨rfl, HBW.out⟩
end Go.Proofs.Ytjaplfdcdokhfaa
