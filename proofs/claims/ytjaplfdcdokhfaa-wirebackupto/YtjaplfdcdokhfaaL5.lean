/-
  The walk of the statement WireBack.
-/
import Derived.Test.YtjaplfdcdokhfaaB1
import Derived.Test.YtjaplfdcdokhfaaU15
import Derived.Test.YtjaplfdcdokhfaaT4
namespace Go.Proofs.Ytjaplfdcdokhfaa
open Go.RowKit

theorem info31 : (Try.prog.info? 31).map (·.size) = some 4 := by kernel_rfl
theorem back_num {w : World} {gi : Nat} {f : Fld} {rest : List Nat} (hk : f.kind = 0) (hN : f.N < 18446744073709551616) (hi : InIs w gi (f.bytes ++ rest) 0) :
    Calls Try.prog 17 #[.pointer (some ⟨gi, 0, none⟩)] w fun r w' => r = .returned (.int .u64 (f.N : Int)) ∧ InIs w' gi rest 0 ∧ Grew w w' (· = gi) := by
  unfold Fld.bytes at hi; rw [hk] at hi; exact back_step rdr_num (fits_num f.N f.S hN) hi
theorem back_int {w : World} {gi : Nat} {f : Fld} {rest : List Nat} (hk : f.kind = 1) (hi : InIs w gi (f.bytes ++ rest) 0) :
    Calls Try.prog 23 #[.pointer (some ⟨gi, 0, none⟩)] w fun r w' => r = .returned (.int .i64 (wrap64 (f.N : Int))) ∧ InIs w' gi rest 0 ∧ Grew w w' (· = gi) := by
  unfold Fld.bytes at hi; rw [hk] at hi; exact back_step rdr_int (fits_int f.N f.S) hi
theorem back_text {w : World} {gi : Nat} {f : Fld} {rest : List Nat} (hk : f.kind = 2) (hS : f.S.size ≤ 9223372036854775807) (hi : InIs w gi (f.bytes ++ rest) 0) :
    Calls Try.prog 18 #[.pointer (some ⟨gi, 0, none⟩), .int .i64 (f.S.size : Int)] w fun r w' => r = .returned (.string f.S) ∧ InIs w' gi rest 0 ∧ Grew w w' (· = gi) := by
  unfold Fld.bytes at hi; rw [hk] at hi; exact back_step (rdr_text f.S.size hS) (fits_text f.N f.S (by omega)) hi
theorem back_flag {w : World} {gi : Nat} {f : Fld} {rest : List Nat} (hk : f.kind = 3) (hi : InIs w gi (f.bytes ++ rest) 0) :
    Calls Try.prog 19 #[.pointer (some ⟨gi, 0, none⟩)] w fun r w' => r = .returned (.bool (f.N % 2 == 1)) ∧ InIs w' gi rest 0 ∧ Grew w w' (· = gi) := by
  unfold Fld.bytes at hi; rw [hk] at hi; exact back_step rdr_flag (fits_flag f.N f.S) hi
theorem back_dig {w : World} {gi : Nat} {f : Fld} {rest : List Nat} (hk : f.kind = 4) (hi : InIs w gi (f.bytes ++ rest) 0) :
    Calls Try.prog 24 #[.pointer (some ⟨gi, 0, none⟩)] w fun r w' => r = .returned (.agg ((fold (bytesS f.S)).map u8v).toArray) ∧ InIs w' gi rest 0 ∧ Grew w w' (· = gi) := by
  unfold Fld.bytes at hi; rw [hk] at hi; exact back_step rdr_dig (fits_dig f.N f.S) hi
theorem Cut.below {w w' : World} {gi : Nat} {fs : List Fld} (h : Cut w gi fs) (hb : Below w.heap.size w w') : Cut w' gi fs :=
  h.imp (fun ⟨c, h1, h2⟩ => ⟨c, h1.below hb, h2⟩) (fun h => h.below hb)
/-- what WireBack has written -/
structure Put (w1 w : World) (g : Nat) (v : Value) (xs : List Nat) : Prop where
  out : OutIs w w1.heap.size g v xs
  bel : Below w1.heap.size w1 w
set_option maxHeartbeats 2000000 in
set_option maxRecDepth 100000 in
theorem back_any (fs : List Fld) (pa : Option Addr) (ca fb fo : Nat) (cut : Int) (_hc1 : -9223372036854775808 ≤ cut) (_hc2 : cut ≤ 9223372036854775807) (w : World) (hfs : Fields w fb fo fs) (hpa : 0 < fs.length → pa = some ⟨fb, fo, none⟩) (hn : fs.length ≤ 9223372036854775807) (hroom : roomF fs ≤ 1099511627776) :
    Calls Try.prog 5 #[.slice pa fs.length ca, .int .i64 cut] w fun e w' => e = .returned (.bool true) ∧ Below w.heap.size w w' := by
  have HPA := hid_in hpa
  have HFS := hid_in hfs
  have HROOM := hid_in hroom
  clear hpa hfs hroom
  go_enter Try.func5, Try.ntmps5
  go_wp2_with fail
  refine (awake_any w).mono ?_
  rintro e w1 ⟨rfl, hb1⟩
  go_wp2
  obtain ⟨g, hg⟩ : ∃ g, g = w1.heap.size := ⟨_, rfl⟩
  rw [← hg]
  have ho0 : OutIs (w1.alloc (.cells #[.slice none 0 0] 27)) w1.heap.size g (.slice none 0 0) [] := by rw [hg]; exact out_new w1
  have HGE := hid_in (Nat.le_of_eq hg.symm)
  clear hg
  go_loopw [6] (fun v6 w' => ∃ (k : Nat) (v : Value), k ≤ fs.length ∧ v6 = .int .i64 (k : Int) ∧ Put w1 w' g v (fieldsB (fs.take k))) (fun v6 _ => fs.length - (intOf v6).toNat)
  case atStart => exact ⟨0, .slice none 0 0, by omega, rfl, ⟨ho0, (Below.refl _ _).alloc (Nat.le_refl _) _⟩⟩
  case round =>
    clear ho0
    obtain ⟨k, v, hk, rfl, hW⟩ := hrel
    have HW := hid_in hW
    have hbwr : Below w.heap.size w wr := hb1.trans (hW.bel.mono hb1.size)
    clear hW
    by_cases hlt : k < fs.length
    · obtain ⟨f, hf⟩ : ∃ f, fs[k]? = some f := ⟨_, List.getElem?_eq_getElem hlt⟩
      have hfr := HFS.out.below hbwr
      have c0 := hfr.at0 k f hf
      have c1 := hfr.at1 k f hf
      have c2 := hfr.at2 k f hf
      have c3 := hfr.at3 k f hf
      have hNl := hfr.lt f (List.mem_of_getElem? hf)
      have HB := hid_in (fieldsB_succ hf)
      have hrm := roomF_at hf
      have hle := fieldsB_le (fs.take k)
      obtain ⟨hkd, hk5⟩ := f.kind_eq
      obtain rfl := HPA.out (by omega)
      have HPUT := hid_in (put_any wr w1.heap.size g v _ f.K f.M f.N f.S f.kind hkd hk5 hNl HW.out.out (by have := HROOM.out; omega))
      have k1 : (k : Int) < (fs.length : Int) := by omega
      clear hf hfr hkd hrm hle
      go_wp2_with fail
      refine HPUT.out.mono ?_
      rintro e w2 ⟨r, v2, rfl, _, ho2, hg2, _, _⟩
      have HO2 := hid_in ho2
      have HB2 : Hid (Below w1.heap.size w1 w2) := hg2.below HW.out.bel HW.out.out.base (outS_ge HW.out.out HGE.out)
      clear ho2 hg2 HPUT c0 c1 c2 c3
      go_wp2
      go_roundw
      case rel =>
        go_light
        refine ⟨k + 1, v2, by omega, by go_num, ?_, HB2.out⟩
        rw [HB.out]
        exact HO2.out
      case measure => simp [intOf]; omega
    · have k1 : (fs.length : Int) ≤ (k : Int) := by omega
      obtain rfl : k = fs.length := by omega
      rw [List.take_length] at HW
      have hle := fieldsB_le fs
      have hLr : (fieldsB fs).length ≤ 1099511627776 := by have := HROOM.out; omega
      have HBY := hid_in (obytes_any wr w1.heap.size g v _ HW.out.out (by omega))
      have HLT := hid_in HW.out.out.lt
      clear hle HGE
      go_wp2_with fail
      refine HBY.out.mono ?_
      rintro e w4 ⟨r4, rfl, hown4, hb4⟩
      obtain ⟨p4, c4, b4, rfl, hsl4, hno4⟩ := own_sl HLT.out hown4
      have HSL4 := hid_in hsl4
      have HNO4 := hid_in hno4
      have hbw4 : Below w.heap.size w w4 := hbwr.trans (hb4.mono hbwr.size)
      have HBW4 := hid_in hbw4
      have HRD := hid_in (read_any _ p4 c4 b4 0 w4 hsl4 hno4 (by omega))
      have hc41 := hsl4.cap1
      obtain ⟨L, HL⟩ : ∃ L, Hid ((fieldsB fs).length = L) := ⟨_, rfl⟩
      rw [HL.out] at HRD hc41 hLr ⊢
      clear hown4 hb4 hsl4 hno4 HBY HW hbwr hbw4 hb1
      go_wp2_with fail
      refine HRD.out.mono ?_
      rintro e w5 ⟨gi, rfl, hI, hgi, hb5⟩
      have HI := hid_in hI
      have HGI := hid_in hgi
      have HB5 : Hid (Below w.heap.size w w5) := HBW4.out.trans (hb5.mono HBW4.out.size)
      have HSL5 : Hid (Sl w5 p4 (fieldsB fs) c4 b4 0) := HSL4.out.below hb5
      have HBG : Hid (0 < (fieldsB fs).length → b4 ≠ gi) := fun h0 => by have := HSL4.out.blk h0; have := HGI.out; omega
      have HGW : Hid (w.heap.size ≤ gi) := by have := HBW4.out.size; have := HGI.out; show _ ≤ _; omega
      clear hI hgi hb5 HRD HSL4 HBW4 HGI
      go_wp2_with fail
      go_loopw [9] (fun v9 w' => ∃ (i : Nat), i ≤ fs.length ∧ v9 = .int .i64 (i : Int) ∧ InIs w' gi (fieldsB (fs.drop i)) 0 ∧ Grew w5 w' (· = gi)) (fun v9 _ => fs.length - (intOf v9).toNat)
      case atStart => exact ⟨0, by omega, rfl, HI.out, Grew.refl _ _⟩
      case round =>
        obtain ⟨i, hi, rfl, hI2, hG2⟩ := hrel
        have hbw : Below w.heap.size w wr := hG2.below HB5.out HB5.out.size (fun k hk => by have := HGW.out; omega)
        by_cases hlt2 : i < fs.length
        · obtain ⟨f, hf⟩ : ∃ f, fs[i]? = some f := ⟨_, List.getElem?_eq_getElem hlt2⟩
          have hfr := HFS.out.below hbw
          have c0 := hfr.at0 i f hf
          have c1 := hfr.at1 i f hf
          have c2 := hfr.at2 i f hf
          have c3 := hfr.at3 i f hf
          have HNl := hid_in (hfr.lt f (List.mem_of_getElem? hf))
          obtain rfl := HPA.out (by omega)
          rw [fieldsB_drop hf] at hI2
          have HI2 := hid_in hI2
          have HG2 := hid_in hG2
          have hSl : f.S.size ≤ 1099511627776 := by have := roomF_at hf; have := HROOM.out; omega
          obtain ⟨hkd, hk5⟩ := f.kind_eq
          have HKD := hid_in hkd
          have k2 : (i : Int) < (fs.length : Int) := by omega
          have hgl : gi < wr.heap.size := by obtain ⟨_, _, _, _, h, _⟩ := hI2.ex; exact h.lt
          have HGL := hid_in hgl
          have HBW := hid_in hbw
          clear hf hfr hkd hI2 hG2 hgl hbw
          have hkc : f.kind = 0 ∨ f.kind = 1 ∨ f.kind = 2 ∨ f.kind = 3 ∨ f.kind = 4 := by omega
          rcases hkc with hk | hk | hk | hk | hk
          · go_wp2_with fail
            refine (kind_any _ f.K f.M f.N f.S 0 (by rw [HKD.out, hk]) (by omega)).mono ?_
            rintro e6 w6 ⟨rfl, hb6⟩
            have hr6 : Row w6 wr.heap.size [.int .i64 f.K, .int .u64 (f.N : Int), .string f.S, .int .i64 f.M] 31 := (Row.newAt wr _ [.int .i64 f.K, .int .u64 (f.N : Int), .string f.S, .int .i64 f.M] 31 rfl).below hb6 (by simp)
            have d1 : w6.cell? ⟨wr.heap.size, 1, none⟩ = some (.int .u64 (f.N : Int)) := hr6.cell 1
            have d2 : w6.cell? ⟨wr.heap.size, 2, none⟩ = some (.string f.S) := hr6.cell 2
            have hbA : Below wr.heap.size wr w6 := ((Below.refl _ wr).alloc (Nat.le_refl _) _).trans (hb6.mono (by simp))
            have HID : Hid (InIs w6.drew gi (f.bytes ++ fieldsB (fs.drop (i + 1))) 0) := HI2.out.below hbA.drew
            have HROW : Hid (Row w6.drew wr.heap.size [.int .i64 f.K, .int .u64 (f.N : Int), .string f.S, .int .i64 f.M] 31) := hr6.drew
            have HGA : Hid (Grew w5 w6.drew (· = gi)) := HG2.out.trans (Grew.of_below _ hbA.drew) (fun _ _ h => h)
            have HC := hid_in (back_num hk HNl.out HID.out)
            clear hr6 hbA hb6 HI2 HG2 HID c0 c1 c2 c3
            go_wp2_with fail
            go_region_with (go_at_call 17; refine HC.out.mono ?_; rintro e7 w7 ⟨rfl, hI7, hG7⟩; have hr7 := HROW.out.of_block (hG7.block _ HROW.out.lt (by have := HGL.out; simp; omega)); have d1' : w7.cell? ⟨wr.heap.size, 1, none⟩ = some (.int .u64 (f.N : Int)) := hr7.cell 1; have d2' : w7.cell? ⟨wr.heap.size, 2, none⟩ = some (.string f.S) := hr7.cell 2; have HI7 := hid_in hI7; have HG7 := hid_in hG7; have HE := hid_in (ierr_any w7 gi 0 _ hI7); clear hI7 hG7 hr7)
            all_goals
              go_wp2_with (go_at_call 20; refine HE.out.mono ?_; rintro e8 w8 ⟨rfl, h8⟩; subst h8)
              go_roundw
              case rel =>
                go_light
                exact ⟨i + 1, by omega, by go_num, HI7.out, HGA.out.trans HG7.out (fun _ _ h => h)⟩
              case measure => simp [intOf]; omega
          · go_wp2_with fail
            refine (kind_any _ f.K f.M f.N f.S 1 (by rw [HKD.out, hk]) (by omega)).mono ?_
            rintro e6 w6 ⟨rfl, hb6⟩
            have hr6 : Row w6 wr.heap.size [.int .i64 f.K, .int .u64 (f.N : Int), .string f.S, .int .i64 f.M] 31 := (Row.newAt wr _ [.int .i64 f.K, .int .u64 (f.N : Int), .string f.S, .int .i64 f.M] 31 rfl).below hb6 (by simp)
            have d1 : w6.cell? ⟨wr.heap.size, 1, none⟩ = some (.int .u64 (f.N : Int)) := hr6.cell 1
            have d2 : w6.cell? ⟨wr.heap.size, 2, none⟩ = some (.string f.S) := hr6.cell 2
            have hbA : Below wr.heap.size wr w6 := ((Below.refl _ wr).alloc (Nat.le_refl _) _).trans (hb6.mono (by simp))
            have HID : Hid (InIs w6.drew gi (f.bytes ++ fieldsB (fs.drop (i + 1))) 0) := HI2.out.below hbA.drew
            have HROW : Hid (Row w6.drew wr.heap.size [.int .i64 f.K, .int .u64 (f.N : Int), .string f.S, .int .i64 f.M] 31) := hr6.drew
            have HGA : Hid (Grew w5 w6.drew (· = gi)) := HG2.out.trans (Grew.of_below _ hbA.drew) (fun _ _ h => h)
            have HC := hid_in (back_int hk HID.out)
            clear hr6 hbA hb6 HI2 HG2 HID c0 c1 c2 c3
            go_wp2_with fail
            go_region_with (go_at_call 23; refine HC.out.mono ?_; rintro e7 w7 ⟨rfl, hI7, hG7⟩; have hr7 := HROW.out.of_block (hG7.block _ HROW.out.lt (by have := HGL.out; simp; omega)); have d1' : w7.cell? ⟨wr.heap.size, 1, none⟩ = some (.int .u64 (f.N : Int)) := hr7.cell 1; have d2' : w7.cell? ⟨wr.heap.size, 2, none⟩ = some (.string f.S) := hr7.cell 2; have HI7 := hid_in hI7; have HG7 := hid_in hG7; have HE := hid_in (ierr_any w7 gi 0 _ hI7); clear hI7 hG7 hr7)
            all_goals
              go_wp2_with (go_at_call 20; refine HE.out.mono ?_; rintro e8 w8 ⟨rfl, h8⟩; subst h8)
              go_roundw
              case rel =>
                go_light
                exact ⟨i + 1, by omega, by go_num, HI7.out, HGA.out.trans HG7.out (fun _ _ h => h)⟩
              case measure => simp [intOf]; omega
          · go_wp2_with fail
            refine (kind_any _ f.K f.M f.N f.S 2 (by rw [HKD.out, hk]) (by omega)).mono ?_
            rintro e6 w6 ⟨rfl, hb6⟩
            have hr6 : Row w6 wr.heap.size [.int .i64 f.K, .int .u64 (f.N : Int), .string f.S, .int .i64 f.M] 31 := (Row.newAt wr _ [.int .i64 f.K, .int .u64 (f.N : Int), .string f.S, .int .i64 f.M] 31 rfl).below hb6 (by simp)
            have d1 : w6.cell? ⟨wr.heap.size, 1, none⟩ = some (.int .u64 (f.N : Int)) := hr6.cell 1
            have d2 : w6.cell? ⟨wr.heap.size, 2, none⟩ = some (.string f.S) := hr6.cell 2
            have hbA : Below wr.heap.size wr w6 := ((Below.refl _ wr).alloc (Nat.le_refl _) _).trans (hb6.mono (by simp))
            have HID : Hid (InIs w6.drew gi (f.bytes ++ fieldsB (fs.drop (i + 1))) 0) := HI2.out.below hbA.drew
            have HROW : Hid (Row w6.drew wr.heap.size [.int .i64 f.K, .int .u64 (f.N : Int), .string f.S, .int .i64 f.M] 31) := hr6.drew
            have HGA : Hid (Grew w5 w6.drew (· = gi)) := HG2.out.trans (Grew.of_below _ hbA.drew) (fun _ _ h => h)
            have hss : (f.S.toList == f.S.toList) = true := by simp
            have HC := hid_in (back_text hk (by omega) HID.out)
            clear hr6 hbA hb6 HI2 HG2 HID c0 c1 c2 c3
            go_wp2_with fail
            go_region_with (go_at_call 18; refine HC.out.mono ?_; rintro e7 w7 ⟨rfl, hI7, hG7⟩; have hr7 := HROW.out.of_block (hG7.block _ HROW.out.lt (by have := HGL.out; simp; omega)); have d1' : w7.cell? ⟨wr.heap.size, 1, none⟩ = some (.int .u64 (f.N : Int)) := hr7.cell 1; have d2' : w7.cell? ⟨wr.heap.size, 2, none⟩ = some (.string f.S) := hr7.cell 2; have HI7 := hid_in hI7; have HG7 := hid_in hG7; have HE := hid_in (ierr_any w7 gi 0 _ hI7); clear hI7 hG7 hr7)
            all_goals
              go_wp2_with (go_at_call 20; refine HE.out.mono ?_; rintro e8 w8 ⟨rfl, h8⟩; subst h8)
              go_roundw
              case rel =>
                go_light
                exact ⟨i + 1, by omega, by go_num, HI7.out, HGA.out.trans HG7.out (fun _ _ h => h)⟩
              case measure => simp [intOf]; omega
          · go_wp2_with fail
            refine (kind_any _ f.K f.M f.N f.S 3 (by rw [HKD.out, hk]) (by omega)).mono ?_
            rintro e6 w6 ⟨rfl, hb6⟩
            have hr6 : Row w6 wr.heap.size [.int .i64 f.K, .int .u64 (f.N : Int), .string f.S, .int .i64 f.M] 31 := (Row.newAt wr _ [.int .i64 f.K, .int .u64 (f.N : Int), .string f.S, .int .i64 f.M] 31 rfl).below hb6 (by simp)
            have d1 : w6.cell? ⟨wr.heap.size, 1, none⟩ = some (.int .u64 (f.N : Int)) := hr6.cell 1
            have d2 : w6.cell? ⟨wr.heap.size, 2, none⟩ = some (.string f.S) := hr6.cell 2
            have hbA : Below wr.heap.size wr w6 := ((Below.refl _ wr).alloc (Nat.le_refl _) _).trans (hb6.mono (by simp))
            have HID : Hid (InIs w6.drew gi (f.bytes ++ fieldsB (fs.drop (i + 1))) 0) := HI2.out.below hbA.drew
            have HROW : Hid (Row w6.drew wr.heap.size [.int .i64 f.K, .int .u64 (f.N : Int), .string f.S, .int .i64 f.M] 31) := hr6.drew
            have HGA : Hid (Grew w5 w6.drew (· = gi)) := HG2.out.trans (Grew.of_below _ hbA.drew) (fun _ _ h => h)
            have hc0 := back_flag hk HID.out
            by_cases hpar : f.N % 2 = 1
            · have hv : (f.N % 2 == 1) = true := by simp [hpar]
              rw [hv] at hc0
              have HC := hid_in hc0
              have k3 : (f.N : Int) % 2 = 1 := by omega
              clear hr6 hbA hb6 HI2 HG2 HID c0 c1 c2 c3 hc0 hv
              go_wp2_with fail
              go_region_with (go_at_call 19; refine HC.out.mono ?_; rintro e7 w7 ⟨rfl, hI7, hG7⟩; have hr7 := HROW.out.of_block (hG7.block _ HROW.out.lt (by have := HGL.out; simp; omega)); have d1' : w7.cell? ⟨wr.heap.size, 1, none⟩ = some (.int .u64 (f.N : Int)) := hr7.cell 1; have d2' : w7.cell? ⟨wr.heap.size, 2, none⟩ = some (.string f.S) := hr7.cell 2; have HI7 := hid_in hI7; have HG7 := hid_in hG7; have HE := hid_in (ierr_any w7 gi 0 _ hI7); clear hI7 hG7 hr7)
              all_goals
                go_wp2_with (go_at_call 20; refine HE.out.mono ?_; rintro e8 w8 ⟨rfl, h8⟩; subst h8)
                go_roundw
                case rel =>
                  go_light
                  exact ⟨i + 1, by omega, by go_num, HI7.out, HGA.out.trans HG7.out (fun _ _ h => h)⟩
                case measure => simp [intOf]; omega
            · have hv : (f.N % 2 == 1) = false := by simp [hpar]
              rw [hv] at hc0
              have HC := hid_in hc0
              have k3 : (f.N : Int) % 2 = 0 := by omega
              clear hr6 hbA hb6 HI2 HG2 HID c0 c1 c2 c3 hc0 hv
              go_wp2_with fail
              go_region_with (go_at_call 19; refine HC.out.mono ?_; rintro e7 w7 ⟨rfl, hI7, hG7⟩; have hr7 := HROW.out.of_block (hG7.block _ HROW.out.lt (by have := HGL.out; simp; omega)); have d1' : w7.cell? ⟨wr.heap.size, 1, none⟩ = some (.int .u64 (f.N : Int)) := hr7.cell 1; have d2' : w7.cell? ⟨wr.heap.size, 2, none⟩ = some (.string f.S) := hr7.cell 2; have HI7 := hid_in hI7; have HG7 := hid_in hG7; have HE := hid_in (ierr_any w7 gi 0 _ hI7); clear hI7 hG7 hr7)
              all_goals
                go_wp2_with (go_at_call 20; refine HE.out.mono ?_; rintro e8 w8 ⟨rfl, h8⟩; subst h8)
                go_roundw
                case rel =>
                  go_light
                  exact ⟨i + 1, by omega, by go_num, HI7.out, HGA.out.trans HG7.out (fun _ _ h => h)⟩
                case measure => simp [intOf]; omega
          · go_wp2_with fail
            refine (kind_any _ f.K f.M f.N f.S 4 (by rw [HKD.out, hk]) (by omega)).mono ?_
            rintro e6 w6 ⟨rfl, hb6⟩
            have hr6 : Row w6 wr.heap.size [.int .i64 f.K, .int .u64 (f.N : Int), .string f.S, .int .i64 f.M] 31 := (Row.newAt wr _ [.int .i64 f.K, .int .u64 (f.N : Int), .string f.S, .int .i64 f.M] 31 rfl).below hb6 (by simp)
            have d1 : w6.cell? ⟨wr.heap.size, 1, none⟩ = some (.int .u64 (f.N : Int)) := hr6.cell 1
            have d2 : w6.cell? ⟨wr.heap.size, 2, none⟩ = some (.string f.S) := hr6.cell 2
            have hbA : Below wr.heap.size wr w6 := ((Below.refl _ wr).alloc (Nat.le_refl _) _).trans (hb6.mono (by simp))
            have HID : Hid (InIs w6.drew gi (f.bytes ++ fieldsB (fs.drop (i + 1))) 0) := HI2.out.below hbA.drew
            have HROW : Hid (Row w6.drew wr.heap.size [.int .i64 f.K, .int .u64 (f.N : Int), .string f.S, .int .i64 f.M] 31) := hr6.drew
            have HGA : Hid (Grew w5 w6.drew (· = gi)) := HG2.out.trans (Grew.of_below _ hbA.drew) (fun _ _ h => h)
            obtain ⟨D, HD⟩ : ∃ D, Hid (((fold (bytesS f.S)).map u8v).toArray = D) := ⟨_, rfl⟩
            have heq := eq51 (fold (bytesS f.S)) (fold (bytesS f.S)) (fold_length _) (fold_length _)
            rw [show decide (fold (bytesS f.S) = fold (bytesS f.S)) = true by simp, HD.out] at heq
            have HFO : Hid (∀ (W : World) g0 C, Sl W (some ⟨g0, 0, none⟩) (bytesS f.S) C g0 0 → Calls Try.prog 25 #[.slice (some ⟨g0, 0, none⟩) f.S.size C] W fun e w' => e = .returned (.agg D) ∧ Below W.heap.size W w') := by
              show ∀ _, _
              intro W g0 C h
              have h' := fold_any (bytesS f.S) (some ⟨g0, 0, none⟩) g0 0 C W (by rw [bytesS_length]; omega) (fun _ => rfl) h.src
              rw [bytesS_length, HD.out] at h'
              exact h'
            obtain ⟨Cc, wc, hcv, hbc, hslc⟩ := conv_bytes w6.drew f.S (by omega)
            have HC0 := back_dig hk HID.out
            rw [HD.out] at HC0
            have HCA := hid_in HC0
            have HC1 := back_dig hk (HID.out.below hbc)
            rw [HD.out] at HC1
            have HCB := hid_in HC1
            have HBC := hid_in hbc
            have HSC := hid_in hslc
            have HSI : Hid (gi < w6.drew.heap.size) := by obtain ⟨_, _, _, _, h, _⟩ := HID.out.ex; exact h.lt
            have hS2 : f.S.size ≤ 140737488355328 := by omega
            clear hr6 hbA hb6 HI2 HG2 HID c0 c1 c2 c3 HC0 HC1 hbc hslc HD hSl
            go_wp2_with fail
            go_region_with (first | (go_at_call 24; refine HCA.out.mono ?_; rintro e7 w7 ⟨rfl, hI7, hG7⟩; have hr7 := HROW.out.of_block (hG7.block _ HROW.out.lt (by have := HGL.out; simp; omega)); have d2' : w7.cell? ⟨wr.heap.size, 2, none⟩ = some (.string f.S) := hr7.cell 2; obtain ⟨C7, wx, hcv7, hbx, hslx⟩ := conv_bytes w7 f.S hS2; have HIX := hid_in (hI7.below hbx); have HGX : Hid (Grew w6.drew wx (· = gi)) := hG7.trans (Grew.of_below _ hbx) (fun _ _ h => h); have HF := hid_in (HFO.out _ _ _ hslx); clear hI7 hG7 hr7 hslx hbx) | (go_at_call 24; refine HCB.out.mono ?_; rintro e7 wx ⟨rfl, hI7, hG7⟩; have HIX := hid_in hI7; have HGX : Hid (Grew w6.drew wx (· = gi)) := (Grew.of_below (· = gi) HBC.out).trans hG7 (fun _ _ h => h); have HF := hid_in (HFO.out _ _ _ (HSC.out.grew hG7 (fun _ e => by have := HSI.out; omega))); clear hI7 hG7) | (go_at_call 25; refine HF.out.mono ?_; rintro e9 w9 ⟨rfl, hb9⟩; have HI7 := hid_in (HIX.out.below hb9); have HG7 : Hid (Grew w6.drew w9 (· = gi)) := HGX.out.trans (Grew.of_below _ hb9) (fun _ _ h => h); have HE := hid_in (ierr_any w9 gi 0 _ HI7.out); clear hb9))
            all_goals
              go_wp2_with (go_at_call 20; refine HE.out.mono ?_; rintro e8 w8 ⟨rfl, h8⟩; subst h8)
              go_roundw
              case rel =>
                go_light
                exact ⟨i + 1, by omega, by go_num, HI7.out, HGA.out.trans HG7.out (fun _ _ h => h)⟩
              case measure => simp [intOf]; omega
        · have k2 : (fs.length : Int) ≤ (i : Int) := by omega
          obtain rfl : i = fs.length := by omega
          rw [List.drop_length] at hI2
          have HEN : Hid (Calls Try.prog 21 #[.pointer (some ⟨gi, 0, none⟩)] wr fun r w' => r = .returned (.bool true) ∧ w' = wr) := iend_any wr gi 0 [] hI2
          have HSLr : Hid (Sl wr p4 (fieldsB fs) c4 b4 0) := HSL5.out.grew hG2 (fun h0 e => HBG.out h0 e)
          have HBW := hid_in hbw
          clear hI2 hG2 hbw HI HB5 HSL5 HBG HGW hlt hk k1 hlt2 hi
          by_cases hL0 : L = 0
          · subst hL0
            go_wp2_with fail
            refine HEN.out.mono ?_
            rintro e6 w6 ⟨rfl, h6⟩
            have h6' := h6.symm
            subst h6'
            clear HEN h6
            go_wp2
            go_ret
            exact ⟨rfl, HBW.out⟩
          · have k3 : ((L : Int) == 0) = false := by rw [beq_eq_false_iff_ne]; omega
            have k4 : ¬ ((L : Int) = 0) := by omega
            obtain ⟨c, hc, hcL⟩ := umod cut L (by omega)
            have hsl := HSLr.out
            obtain rfl := hsl.at_ (by rw [HL.out]; omega)
            have hs1 := slice_pre25 (some ⟨b4, 0, none⟩) b4 0 L c4 c (by omega) (.inr rfl)
            have htl : ((fieldsB fs).take c).length = c := by rw [List.length_take, HL.out]; omega
            have hpt := hsl.part 0 c c4 (by rw [HL.out]; omega) (by omega) hsl.cap2
            rw [List.drop_zero, Nat.add_zero] at hpt
            have hrd := read_any _ (some ⟨b4, 0, none⟩) c4 b4 0 wr hpt (fun h => by cases h) (by rw [htl]; omega)
            rw [htl] at hrd
            have HRD := hid_in hrd
            clear hsl hpt hrd htl HSLr
            go_wp2_with fail
            refine HEN.out.mono ?_
            rintro e6 w6 ⟨rfl, h6⟩
            have h6' := h6.symm
            subst h6'
            clear HEN h6
            go_wp2_with fail
            refine HRD.out.mono ?_
            rintro e7 w7 ⟨gs, rfl, hIs, hgs, hb7⟩
            have HIS := hid_in hIs
            have HB7 : Hid (Below w.heap.size w w7) := HBW.out.trans (hb7.mono HBW.out.size)
            have HGS : Hid (w.heap.size ≤ gs) := by have := HBW.out.size; show _ ≤ _; omega
            have HCL : Hid (c < (fieldsB fs).length) := by rw [HL.out]; exact hcL
            clear hIs hgs hb7 HRD HBW hs1
            go_wp2_with fail
            go_loopw [13] (fun v13 w' => ∃ (i : Nat), i ≤ fs.length ∧ v13 = .int .i64 (i : Int) ∧ Cut w' gs (fs.drop i) ∧ Below w.heap.size w w') (fun v13 _ => fs.length - (intOf v13).toNat)
            case atStart => exact ⟨0, by omega, rfl, .inl ⟨c, HIS.out, HCL.out⟩, HB7.out⟩
            case round =>
              clear HIS HB7 HCL
              obtain ⟨i, hi, rfl, hCu, hbw⟩ := hrel
              by_cases hlt3 : i < fs.length
              · obtain ⟨f, hf⟩ : ∃ f, fs[i]? = some f := ⟨_, List.getElem?_eq_getElem hlt3⟩
                have HF := hid_in hf
                have hfr := HFS.out.below hbw
                have c0 := hfr.at0 i f hf
                have c1 := hfr.at1 i f hf
                have c2 := hfr.at2 i f hf
                have c3 := hfr.at3 i f hf
                have HNl := hid_in (hfr.lt f (List.mem_of_getElem? hf))
                obtain rfl := HPA.out (by omega)
                have hdr : fs.drop i = f :: fs.drop (i + 1) := by
                  obtain ⟨h, rfl⟩ := List.getElem?_eq_some_iff.1 hf
                  exact List.drop_eq_getElem_cons h
                rw [hdr] at hCu
                have HCU := hid_in hCu
                have HBW := hid_in hbw
                have hSl : f.S.size ≤ 1099511627776 := by have := roomF_at hf; have := HROOM.out; omega
                obtain ⟨hkd, hk5⟩ := f.kind_eq
                have HKD := hid_in hkd
                have k5 : (i : Int) < (fs.length : Int) := by omega
                have hkc : f.kind = 0 ∨ f.kind = 1 ∨ f.kind = 2 ∨ f.kind = 3 ∨ f.kind = 4 := by omega
                clear hf hfr hkd hCu hbw hdr
                rcases hkc with hk | hk | hk | hk | hk
                · go_wp2_with fail
                  refine (kind_any _ f.K f.M f.N f.S 0 (by rw [HKD.out, hk]) (by omega)).mono ?_
                  rintro e6 w6 ⟨rfl, hb6⟩
                  have hbA : Below w.heap.size w w6 := HBW.out.trans (hb6.mono HBW.out.size)
                  have HBA := hid_in hbA
                  have d2 := (HFS.out.below hbA).at2 i f HF.out
                  have HC := hid_in (cut_step (fs := fs.drop (i + 1)) (fd := f) rdr_num (by unfold Fld.bytes; rw [hk]; exact fits_num f.N f.S HNl.out) (Cut.below HCU.out hb6))
                  clear hb6 hbA HBW HCU
                  go_wp2_with fail
                  refine HC.out.mono ?_
                  rintro e7 w7 ⟨⟨v7, rfl⟩, hC7, hG7⟩
                  have HC7 := hid_in hC7
                  have HB7 : Hid (Below w.heap.size w w7) := hG7.below HBA.out HBA.out.size (fun q hq => by have := HGS.out; omega)
                  clear hC7 hG7 HC c0 c1 c2 c3 d2
                  go_wp2
                  go_roundw
                  case rel =>
                    go_light
                    exact ⟨i + 1, by omega, by go_num, HC7.out, HB7.out⟩
                  case measure => simp [intOf]; omega
                · go_wp2_with fail
                  refine (kind_any _ f.K f.M f.N f.S 1 (by rw [HKD.out, hk]) (by omega)).mono ?_
                  rintro e6 w6 ⟨rfl, hb6⟩
                  have hbA : Below w.heap.size w w6 := HBW.out.trans (hb6.mono HBW.out.size)
                  have HBA := hid_in hbA
                  have d2 := (HFS.out.below hbA).at2 i f HF.out
                  have HC := hid_in (cut_step (fs := fs.drop (i + 1)) (fd := f) rdr_int (by unfold Fld.bytes; rw [hk]; exact fits_int f.N f.S) (Cut.below HCU.out hb6))
                  clear hb6 hbA HBW HCU
                  go_wp2_with fail
                  refine HC.out.mono ?_
                  rintro e7 w7 ⟨⟨v7, rfl⟩, hC7, hG7⟩
                  have HC7 := hid_in hC7
                  have HB7 : Hid (Below w.heap.size w w7) := hG7.below HBA.out HBA.out.size (fun q hq => by have := HGS.out; omega)
                  clear hC7 hG7 HC c0 c1 c2 c3 d2
                  go_wp2
                  go_roundw
                  case rel =>
                    go_light
                    exact ⟨i + 1, by omega, by go_num, HC7.out, HB7.out⟩
                  case measure => simp [intOf]; omega
                · go_wp2_with fail
                  refine (kind_any _ f.K f.M f.N f.S 2 (by rw [HKD.out, hk]) (by omega)).mono ?_
                  rintro e6 w6 ⟨rfl, hb6⟩
                  have hbA : Below w.heap.size w w6 := HBW.out.trans (hb6.mono HBW.out.size)
                  have HBA := hid_in hbA
                  have d2 := (HFS.out.below hbA).at2 i f HF.out
                  have HC := hid_in (cut_step (fs := fs.drop (i + 1)) (fd := f) (rdr_text f.S.size (by omega)) (by unfold Fld.bytes; rw [hk]; exact fits_text f.N f.S (by omega)) (Cut.below HCU.out hb6))
                  clear hb6 hbA HBW HCU
                  go_wp2_with fail
                  refine HC.out.mono ?_
                  rintro e7 w7 ⟨⟨v7, rfl⟩, hC7, hG7⟩
                  have HC7 := hid_in hC7
                  have HB7 : Hid (Below w.heap.size w w7) := hG7.below HBA.out HBA.out.size (fun q hq => by have := HGS.out; omega)
                  clear hC7 hG7 HC c0 c1 c2 c3 d2
                  go_wp2
                  go_roundw
                  case rel =>
                    go_light
                    exact ⟨i + 1, by omega, by go_num, HC7.out, HB7.out⟩
                  case measure => simp [intOf]; omega
                · go_wp2_with fail
                  refine (kind_any _ f.K f.M f.N f.S 3 (by rw [HKD.out, hk]) (by omega)).mono ?_
                  rintro e6 w6 ⟨rfl, hb6⟩
                  have hbA : Below w.heap.size w w6 := HBW.out.trans (hb6.mono HBW.out.size)
                  have HBA := hid_in hbA
                  have d2 := (HFS.out.below hbA).at2 i f HF.out
                  have HC := hid_in (cut_step (fs := fs.drop (i + 1)) (fd := f) rdr_flag (by unfold Fld.bytes; rw [hk]; exact fits_flag f.N f.S) (Cut.below HCU.out hb6))
                  clear hb6 hbA HBW HCU
                  go_wp2_with fail
                  refine HC.out.mono ?_
                  rintro e7 w7 ⟨⟨v7, rfl⟩, hC7, hG7⟩
                  have HC7 := hid_in hC7
                  have HB7 : Hid (Below w.heap.size w w7) := hG7.below HBA.out HBA.out.size (fun q hq => by have := HGS.out; omega)
                  clear hC7 hG7 HC c0 c1 c2 c3 d2
                  go_wp2
                  go_roundw
                  case rel =>
                    go_light
                    exact ⟨i + 1, by omega, by go_num, HC7.out, HB7.out⟩
                  case measure => simp [intOf]; omega
                · go_wp2_with fail
                  refine (kind_any _ f.K f.M f.N f.S 4 (by rw [HKD.out, hk]) (by omega)).mono ?_
                  rintro e6 w6 ⟨rfl, hb6⟩
                  have hbA : Below w.heap.size w w6 := HBW.out.trans (hb6.mono HBW.out.size)
                  have HBA := hid_in hbA
                  have d2 := (HFS.out.below hbA).at2 i f HF.out
                  have HC := hid_in (cut_step (fs := fs.drop (i + 1)) (fd := f) rdr_dig (by unfold Fld.bytes; rw [hk]; exact fits_dig f.N f.S) (Cut.below HCU.out hb6))
                  clear hb6 hbA HBW HCU
                  go_wp2_with fail
                  refine HC.out.mono ?_
                  rintro e7 w7 ⟨⟨v7, rfl⟩, hC7, hG7⟩
                  have HC7 := hid_in hC7
                  have HB7 : Hid (Below w.heap.size w w7) := hG7.below HBA.out HBA.out.size (fun q hq => by have := HGS.out; omega)
                  clear hC7 hG7 HC c0 c1 c2 c3 d2
                  go_wp2
                  go_roundw
                  case rel =>
                    go_light
                    exact ⟨i + 1, by omega, by go_num, HC7.out, HB7.out⟩
                  case measure => simp [intOf]; omega
              · have k5 : (fs.length : Int) ≤ (i : Int) := by omega
                obtain rfl : i = fs.length := by omega
                rw [List.drop_length] at hCu
                have hIe : InIs wr gs [] 20 := by
                  rcases hCu with ⟨c', _, h⟩ | h
                  · exact absurd h (by simp [fieldsB])
                  · exact h
                have HBW := hid_in hbw
                have HA := hid_in (ierr_any wr gs 20 [] hIe)
                have HBB : Hid (Calls Try.prog 15 #[.pointer (some ⟨gs, 0, none⟩)] wr fun r w' => r = .returned (.int .i64 0) ∧ w' = wr) := ileft_any wr gs 20 [] hIe
                have HCC : Hid (Calls Try.prog 21 #[.pointer (some ⟨gs, 0, none⟩)] wr fun r w' => r = .returned (.bool false) ∧ w' = wr) := iend_any wr gs 20 [] hIe
                clear hIe hCu hbw
                go_wp2_with (first | (go_at_call 20; refine HA.out.mono ?_; rintro x20 y20 ⟨rfl, h20⟩; have h20' := h20.symm; subst h20'; clear h20) | (go_at_call 15; refine HBB.out.mono ?_; rintro x15 y15 ⟨rfl, h15⟩; have h15' := h15.symm; subst h15'; clear h15) | (go_at_call 21; refine HCC.out.mono ?_; rintro x21 y21 ⟨rfl, h21⟩; have h21' := h21.symm; subst h21'; clear h21))
                go_ret
                exact ⟨rfl, HBW.out⟩
end Go.Proofs.Ytjaplfdcdokhfaa
