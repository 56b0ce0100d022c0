/-
  The walk of awake: answers that the document fixes.
-/
import Derived.Test.YtjaplfdcdokhfaaS12
import Derived.Lib.SlBytesConst
namespace Go.Proofs.Ytjaplfdcdokhfaa
open Go.RowKit

theorem OutIs.below {w w' : World} {B g : Nat} {v : Value} {xs : List Nat} (h : OutIs w B g v xs) (hb : Below w.heap.size w w') : OutIs w' B g v xs :=
  ⟨h.row.below hb h.row.lt, own_below h.own hb, h.apart, Nat.le_trans h.base hb.size, h.lt⟩
theorem InIs.below {w w' : World} {g e : Nat} {bs : List Nat} (h : InIs w g bs e) (hb : Below w.heap.size w w') : InIs w' g bs e := by
  obtain ⟨p, cap, b, off, hr, hsl, hno, hne⟩ := h.ex
  exact ⟨p, cap, b, off, hr.below hb hr.lt, hsl.below hb, hno, hne⟩
theorem outS_ge {w : World} {B g : Nat} {v : Value} {xs : List Nat} (h : OutIs w B g v xs) (hg : B ≤ g) : ∀ k, OutS g v k → B ≤ k := by
  rintro k (rfl | hk)
  · exact hg
  · exact (h.own.lt k hk.symm).1
theorem out_new (w : World) : OutIs (w.alloc (.cells #[.slice none 0 0] 27)) w.heap.size w.heap.size (.slice none 0 0) [] :=
  ⟨Row.newAt w _ [.slice none 0 0] 27 rfl, World.ownsRow_nil _ _ _ _, by simp [Value.ownBlock], by simp, fun _ h => by cases h⟩
theorem num300 : Wire.num 300 = [172, 2] := by decide +kernel
theorem numM1 : Wire.num (Wire.zz (-1)) = [1] := by decide +kernel
theorem rnum300 : Wire.rnum [172, 2, 1] = (300, [1], 0) := by decide +kernel
theorem rnum1 : Wire.rnum [1] = (1, [], 0) := by decide +kernel
theorem check9 : Wire.check [49, 50, 51, 52, 53, 54, 55, 56, 57] = 3421780262 := by decide +kernel

theorem below_grown {w w' : World} {B g : Nat} {a : World} (hb : Below B a w) (hBw : B ≤ w.heap.size) (hg : w.grownBy w' (some g)) (hB : B ≤ g) : Below B a w' :=
  hb.grown hg hBw (fun k e => by cases e; exact hB)

theorem sl_lit (w : World) (xs : List Nat) (g : Nat) (fz : Nat × Nat) (hg : g = w.heap.size) (hlt : ∀ x ∈ xs, x < 256) (hl : xs.length ≤ 9223372036854775807) : Sl (w.alloc (.cells (xs.map u8v).toArray 5 fz)) (some ⟨g, 0, none⟩) xs xs.length g 0 := by
  subst hg
  refine ⟨hlt, Nat.le_refl _, hl, fun _ => rfl, fun j hj => ?_⟩
  rw [Nat.zero_add, cell_of_row _ _ _ _ _ _ (heap_alloc_new w _)]
  simp [hj]
theorem conv_lit (w : World) (C : Array Value) (n c g : Nat) (hg : g = w.heap.size) : (convert 25 25 (.slice (some ⟨g, 0, none⟩) n c)).run Try.prog (w.alloc (.cells C 5)) = .ok (.slice (some ⟨g, 0, none⟩) n c) (w.alloc (.cells C 5 (C.size, C.size + 1))) := by
  subst hg; exact Lib.run_convert_bytes_const w 25 5 C n c Try.underlying25 Try.underlying5

set_option maxHeartbeats 1000000 in
set_option maxRecDepth 100000 in
theorem awake_any (w : World) : Calls Try.prog 9 #[] w fun e w' => e = .returned (.bool true) ∧ Below w.heap.size w w' := by
  have ho0 := out_new w
  have hb0 : Below w.heap.size w (w.alloc (.cells #[.slice none 0 0] 27)) := (Below.refl _ _).alloc (Nat.le_refl _) _
  go_enter Try.func9, Try.ntmps9
  go_wp2_with fail
  refine (onum_any _ w.heap.size w.heap.size _ [] 300 (by decide) ho0 (by decide)).mono ?_
  rintro e w1 ⟨rfl, v1, ho1, hg1, hm1⟩
  rw [num300, List.nil_append] at ho1
  have hb1 : Below w.heap.size w w1 := hg1.below hb0 (by simp) (outS_ge ho0 (Nat.le_refl _))
  obtain ⟨g, hg⟩ : ∃ g, g = w.heap.size := ⟨_, rfl⟩
  have HO1 : Hid (OutIs w1 w.heap.size g v1 [172, 2]) := by rw [hg]; exact ho1
  have HGE : Hid (w.heap.size ≤ g) := by show _ ≤ _; omega
  rw [← hg]
  clear ho0 hb0 ho1 hg1 hm1 hg
  go_wp2_with fail
  refine (oint_any w1 w.heap.size g v1 [172, 2] (-1) (by decide) (by decide) HO1.out (by decide)).mono ?_
  rintro e w2 ⟨rfl, v2, ho2, hg2, hm2⟩
  rw [numM1] at ho2
  have HO2 : Hid (OutIs w2 w.heap.size g v2 [172, 2, 1]) := ho2
  have hb2 : Below w.heap.size w w2 := hg2.below hb1 hb1.size (outS_ge HO1.out HGE.out)
  clear HO1 ho2 hg2 hm2 hb1
  have hbA : Below w2.heap.size w2 (w2.alloc (.cells #[.int .u8 172, .int .u8 2, .int .u8 1] 5)) := (Below.refl _ _).alloc (Nat.le_refl _) _
  have hslA : Sl (w2.alloc (.cells #[.int .u8 172, .int .u8 2, .int .u8 1] 5)) (some ⟨w2.heap.size, 0, none⟩) [172, 2, 1] 3 w2.heap.size 0 := row_sl0 (xs := [172, 2, 1]) (Row.newAt w2 _ _ 5 rfl) (by decide) (by decide)
  have hrd := read_any [172, 2, 1] _ 3 _ 0 _ hslA (fun h => by cases h) (by decide)
  have HOA := HO2.out.below hbA
  have hbwA : Below w.heap.size w (w2.alloc (.cells #[.int .u8 172, .int .u8 2, .int .u8 1] 5)) := hb2.alloc hb2.size _
  clear hslA HO2 hbA
  go_wp2_with fail
  refine hrd.mono ?_
  rintro e w3 ⟨gi, rfl, hin3, hgi, hb3⟩
  have HO3 := hid_in (HOA.below hb3)
  have HI3 := hid_in hin3
  have hb3' : Below w.heap.size w w3 := hbwA.trans (hb3.mono hbwA.size)
  have HGI : Hid (w.heap.size ≤ gi) := Nat.le_trans hbwA.size hgi
  clear hrd HOA hin3 hgi hb3 hbwA hb2
  go_wp2_with fail
  refine (obytes_any w3 w.heap.size g v2 [172, 2, 1] HO3.out (by decide)).mono ?_
  rintro e w4 ⟨v4, rfl, hown4, hb4⟩
  obtain ⟨p4, c4, b4, rfl, hsl4, hno4⟩ := own_sl (by decide) hown4
  have hcv : (convert 25 9 (.slice p4 3 c4)).run Try.prog w4 = .ok (.string { data := #[172, 2, 1] }) w4 := conv_sl hsl4
  have HI4 := hid_in (HI3.out.below hb4)
  have hb4' : Below w.heap.size w w4 := hb3'.trans (hb4.mono hb3'.size)
  clear hown4 hb4 hsl4 hno4 HO3 HI3 hb3'
  go_wp2_with fail
  refine (inum_any w4 gi [172, 2, 1] (by decide) HI4.out).mono ?_
  rintro e w5 ⟨rfl, hi5, hg5, hs5⟩
  rw [rnum300] at hi5 ⊢
  have HI5 : Hid (InIs w5 gi [1] 0) := hi5
  have hb5 : Below w.heap.size w w5 := below_grown hb4' hb4'.size hg5 HGI.out
  clear hi5 hg5 hs5 hb4' HI4 hcv
  go_wp2_with fail
  refine (iint_of w5 gi (Wire.rnum [1]).1 (rnum_lt _) _ (inum_any w5 gi [1] (by decide) HI5.out)).mono ?_
  rintro e w6 ⟨rfl, hi6, hg6, hs6⟩
  have eU : Wire.unzz (Wire.rnum [1]).1 = -1 := by rw [rnum1]; decide
  rw [eU]
  rw [rnum1] at hi6
  clear eU
  have HI6 : Hid (InIs w6 gi [] 0) := hi6
  have hb6 : Below w.heap.size w w6 := below_grown hb5 hb5.size hg6 HGI.out
  clear hi6 hg6 hs6 hb5 HI5
  go_wp2_with fail
  refine (iend_any w6 gi 0 [] HI6.out).mono ?_
  rintro e w7 ⟨rfl, hw7⟩
  have hw7' := hw7.symm
  subst hw7'
  have eD : decide ((0 : Nat) = 0 ∧ ([] : List Nat).length = 0) = true := rfl
  rw [eD]
  clear eD HI6 hw7
  have hbB : Below w6.heap.size w6 (((w6.alloc (.cells #[.int .u8 49, .int .u8 50, .int .u8 51, .int .u8 52] 5 (4, 5))).alloc (.cells #[.int .u8 53, .int .u8 54, .int .u8 55, .int .u8 56, .int .u8 57] 5 (5, 6))).alloc (.cells #[.slice (some ⟨w6.heap.size, 0, none⟩) 4 4, .slice (some ⟨w6.heap.size + 1, 0, none⟩) 5 5] 25)) := (((Below.refl _ _).alloc (Nat.le_refl _) _).alloc (by simp) _).alloc (by simp; omega) _
  have hps : Parts (((w6.alloc (.cells #[.int .u8 49, .int .u8 50, .int .u8 51, .int .u8 52] 5 (4, 5))).alloc (.cells #[.int .u8 53, .int .u8 54, .int .u8 55, .int .u8 56, .int .u8 57] 5 (5, 6))).alloc (.cells #[.slice (some ⟨w6.heap.size, 0, none⟩) 4 4, .slice (some ⟨w6.heap.size + 1, 0, none⟩) 5 5] 25)) (w6.heap.size + 1 + 1) 0 [⟨some ⟨w6.heap.size, 0, none⟩, [49, 50, 51, 52], 4, w6.heap.size, 0⟩, ⟨some ⟨w6.heap.size + 1, 0, none⟩, [53, 54, 55, 56, 57], 5, w6.heap.size + 1, 0⟩] := by
    refine parts_row (Row.newAt _ _ _ 25 (by simp)) ?_ ?_
    · intro x hx
      simp only [List.mem_cons, List.not_mem_nil, or_false] at hx
      rcases hx with rfl | rfl
      · exact Sl.below (Sl.below (sl_lit w6 [49, 50, 51, 52] _ (4, 5) rfl (by decide) (by decide)) ((Below.refl _ _).alloc (Nat.le_refl _) _)) ((Below.refl _ _).alloc (Nat.le_refl _) _)
      · exact Sl.below (sl_lit (w6.alloc _) [53, 54, 55, 56, 57] _ (5, 6) (by simp) (by decide) (by decide)) ((Below.refl _ _).alloc (Nat.le_refl _) _)
    · intro x hx
      simp only [List.mem_cons, List.not_mem_nil, or_false] at hx
      rcases hx with rfl | rfl <;> (intro h; cases h)
  have hck := check_any _ _ 0 2 _ hps (by simp)
  have eB : bytesOf [⟨some ⟨w6.heap.size, 0, none⟩, [49, 50, 51, 52], 4, w6.heap.size, 0⟩, ⟨some ⟨w6.heap.size + 1, 0, none⟩, [53, 54, 55, 56, 57], 5, w6.heap.size + 1, 0⟩] = [49, 50, 51, 52, 53, 54, 55, 56, 57] := rfl
  rw [eB, check9] at hck
  have kc1 := conv_lit w6 #[.int .u8 49, .int .u8 50, .int .u8 51, .int .u8 52] 4 4 w6.heap.size rfl
  have kc2 := conv_lit (w6.alloc (.cells #[.int .u8 49, .int .u8 50, .int .u8 51, .int .u8 52] 5 (4, 5))) #[.int .u8 53, .int .u8 54, .int .u8 55, .int .u8 56, .int .u8 57] 5 5 (w6.heap.size + 1) (by simp)
  clear hps eB
  go_wp2_with fail
  refine hck.mono ?_
  rintro e w8 ⟨rfl, hw8⟩
  have hb8 : Below w.heap.size w w8 := by rw [hw8]; exact hb6.trans (hbB.mono hb6.size)
  clear hck hw8 hbB
  go_wp2
  go_ret
  exact ⟨rfl, hb8⟩
end Go.Proofs.Ytjaplfdcdokhfaa
