/-
  The foremost of votes. The reference's best vote. What most have reached: plain facts on a list in order. slices.Sort at the numbers' type, laid at this program: what it makes of a row of numbers.
-/
import Derived.Deep.LoopGhost
import Derived.Deep.RegionLaw
import Derived.Deep.DrawnRows
import Derived.OwnWalk
import Derived.Laws.CopyOwn
import Derived.Laws.Tables
import Derived.Lib.AppendZeros
import Derived.Lib.SlBytesConst
import Derived.Laws.StructEq
import Derived.Shelf.SortM.Plain
import Derived.Ground.SlgmProg
import Derived.Test.YtpmakigmhcjegaaRows
import Derived.Test.YtpmakigmhcjegaaE00
import Derived.Test.YtpmakigmhcjegaaE01
namespace Go.Proofs.Ytpmakigmhcjegaa.Vw
open Go.RowKit
open Nd (Row wp_world u8v Grew Sl hid_in)
def zv : Vt := ⟨0, 0, 0⟩
/-- the place of the best of the first k -/
def bst (vs : List Vt) : Nat → Int
  | 0 => -1
  | k + 1 => if bst vs k < 0 ∨ ahead (vs.getD k zv) (vs.getD (bst vs k).toNat zv) then (k : Int) else bst vs k
theorem bst_range (vs : List Vt) : ∀ k, -1 ≤ bst vs k ∧ bst vs k < k ∧ (0 < k → 0 ≤ bst vs k)
  | 0 => ⟨by simp [bst], by simp [bst], fun h => absurd h (by omega)⟩
  | k + 1 => by
    obtain ⟨h1, h2, h3⟩ := bst_range vs k
    rw [bst]
    split
    · omega
    · rename_i h
      refine ⟨h1, by omega, fun _ => ?_⟩
      have h4 : ¬ bst vs k < 0 := fun h5 => h (.inl h5)
      omega
theorem getD_of {vs : List Vt} {k : Nat} (h : k < vs.length) : vs.getD k zv = vs[k] := by simp [h]
theorem cells3 {W : World} {b o i : Nat} {e : Vt} (h : ∀ (y : Nat) u, e.cells[y]? = some u → W.cell? ⟨b, o + i * 3 + y, none⟩ = some u) : W.cell? ⟨b, o + i * 3, none⟩ = some (.int .i64 e.r) ∧ W.cell? ⟨b, o + i * 3 + 1, none⟩ = some (.int .i64 e.n) ∧ W.cell? ⟨b, o + i * 3 + 2, none⟩ = some (.int .i64 e.l) :=
  ⟨by have := h 0 _ rfl; exact this, h 1 _ rfl, h 2 _ rfl⟩
theorem Es.at3 {w : World} {n c : Nat} {p : Option Addr} {es : List Vt} (h : Es w (.slice p n c) es) {i : Nat} {e : Vt} (hi : es[i]? = some e) : ∃ b o, p = some ⟨b, o, none⟩ ∧ w.cell? ⟨b, o + i * 3, none⟩ = some (.int .i64 e.r) ∧ w.cell? ⟨b, o + i * 3 + 1, none⟩ = some (.int .i64 e.n) ∧ w.cell? ⟨b, o + i * 3 + 2, none⟩ = some (.int .i64 e.l) := by
  obtain ⟨b, o, rfl, hm⟩ := h.at hi
  exact ⟨b, o, rfl, cells3 hm⟩
theorem bst_lt {vs : List Vt} {k : Nat} (h : bst vs k < 0) : bst vs (k + 1) = (k : Int) := by rw [bst, if_pos (.inl h)]
theorem bst_yes {vs : List Vt} {k f : Nat} (hk : k < vs.length) (hf : f < vs.length) (h : bst vs k = (f : Int)) (ha : ahead vs[k] vs[f]) : bst vs (k + 1) = (k : Int) := by
  rw [bst, if_pos (.inr (by rw [h, Int.toNat_natCast, getD_of hk, getD_of hf]; exact ha))]
theorem bst_no {vs : List Vt} {k f : Nat} (hk : k < vs.length) (hf : f < vs.length) (h : bst vs k = (f : Int)) (ha : ¬ ahead vs[k] vs[f]) : bst vs (k + 1) = (f : Int) := by
  rw [bst, if_neg ?_, h]
  rw [h, Int.toNat_natCast, getD_of hk, getD_of hf]
  rintro (h1 | h1)
  · omega
  · exact ha h1
set_option maxHeartbeats 4000000 in
set_option maxRecDepth 100000 in
theorem foremost_any (vs : List Vt) (v : Value) (w : World) (hv : Es w v vs) : Calls Try.prog 21 #[v, .func (.func 22) #[] #[]] w fun e w' => e = .returned (.int .i64 (bst vs vs.length)) ∧ Below w.heap.size w w' := by
  obtain ⟨p, cap, rfl, hc1, hc2⟩ := hv.form
  have HV := hid_in hv
  have HBL := hid_in byLog_any
  have k1 : (vs.length : Int) ≤ 9223372036854775807 := by omega
  clear hv hc1 hc2
  go_enter Try.func21, Try.ntmps21
  go_wp2_with fail
  go_loopg [5, 10] vs.length (fun g vb vi W => ∃ k : Nat, g + k = vs.length ∧ vi = .int .i64 (k : Int) ∧ vb = .int .i64 (bst vs k) ∧ Hid (Below w.heap.size w W))
  case atStart => exact ⟨0, by omega, rfl, rfl, Below.refl _ _⟩
  case round =>
    obtain ⟨k, hg, rfl, rfl, hB⟩ := hrel
    by_cases hlt : k < vs.length
    · obtain ⟨b, o, rfl, m0, m1, m2⟩ := (HV.out.below hB.out).at3 (List.getElem?_eq_getElem hlt)
      go_upto_region 5 with fail
      obtain ⟨W1, HW1⟩ : ∃ W1, Hid (wr.alloc (.cells #[.int .i64 vs[k].r, .int .i64 vs[k].n, .int .i64 vs[k].l] 31) = W1) := ⟨_, hid_in rfl⟩
      have HB1 : Hid (Below wr.heap.size wr W1) := hid_in (by rw [← HW1.out]; exact (Below.refl _ _).alloc (Nat.le_refl _) _)
      have HR1 : Hid (Row W1 wr.heap.size [.int .i64 vs[k].r, .int .i64 vs[k].n, .int .i64 vs[k].l] 31) := hid_in (by rw [← HW1.out]; exact Row.new wr _ 31)
      refine wp_world HW1.out ?_
      have HV1 := hid_in (HV.out.below (hB.out.trans (HB1.out.mono hB.out.size)))
      by_cases hf : bst vs k < 0
      · have HN := hid_in (bst_lt hf)
        have hq : bst vs k = -1 := by have := (bst_range vs k).1; omega
        rw [hq]
        clear m0 m1 m2 HR1 HW1 HV1 hf hq
        generalize vs[k] = x at *
        go_region
        go_wp2_with fail
        go_roundg (vs.length - (k + 1))
        case measure => omega
        case rel => exact ⟨k + 1, by omega, by go_num, by rw [HN.out], hB.out.trans ((HB1.out.drew).mono hB.out.size)⟩
      · obtain ⟨r1, r2, r3⟩ := bst_range vs k
        obtain ⟨f, HF⟩ : ∃ f : Nat, bst vs k = (f : Int) := ⟨(bst vs k).toNat, by omega⟩
        have hfk : f < vs.length := by omega
        obtain ⟨b', o', hbo, n0, n1, n2⟩ := HV1.out.at3 (List.getElem?_eq_getElem hfk)
        injection hbo with hbo
        injection hbo with hb1 ho1
        subst hb1 ho1
        have HY := hid_in (bst_yes hlt hfk HF)
        have HNO := hid_in (bst_no hlt hfk HF)
        have HO := hid_in (ordI_lt vs[k] vs[f])
        have q0 : W1.cell? ⟨wr.heap.size, 0, none⟩ = some (.int .i64 vs[k].r) := HR1.out.cell 0
        have q1 : W1.cell? ⟨wr.heap.size, 1, none⟩ = some (.int .i64 vs[k].n) := HR1.out.cell 1
        have q2 : W1.cell? ⟨wr.heap.size, 2, none⟩ = some (.int .i64 vs[k].l) := HR1.out.cell 2
        rw [HF] at hf r1 r2 r3 ⊢
        have k2 : ¬ (f : Int) < 0 := by omega
        clear m0 m1 m2 HR1 HW1 HV1 HF hf r1 r2 r3
        generalize hxe : vs[k] = x at *
        generalize hye : vs[f] = y at *
        clear hxe hye
        obtain ⟨xr, xn, xl⟩ := x
        obtain ⟨yr, yn, yl⟩ := y
        dsimp only at *
        have HK : Hid (∀ W, Below W1.heap.size W1 W → W.cell? ⟨wr.heap.size, 0, none⟩ = some (.int .i64 xr) ∧ W.cell? ⟨wr.heap.size, 1, none⟩ = some (.int .i64 xn) ∧ W.cell? ⟨wr.heap.size, 2, none⟩ = some (.int .i64 xl) ∧ W.cell? ⟨b, o + f * 3, none⟩ = some (.int .i64 yr) ∧ W.cell? ⟨b, o + f * 3 + 1, none⟩ = some (.int .i64 yn) ∧ W.cell? ⟨b, o + f * 3 + 2, none⟩ = some (.int .i64 yl)) := hid_in (fun W hb => ⟨by rw [hb.cell (World.block_lt_of_cell? _ _ q0)]; exact q0, by rw [hb.cell (World.block_lt_of_cell? _ _ q1)]; exact q1, by rw [hb.cell (World.block_lt_of_cell? _ _ q2)]; exact q2, by rw [hb.cell (World.block_lt_of_cell? _ _ n0)]; exact n0, by rw [hb.cell (World.block_lt_of_cell? _ _ n1)]; exact n1, by rw [hb.cell (World.block_lt_of_cell? _ _ n2)]; exact n2⟩)
        by_cases ha : ahead ⟨xr, xn, xl⟩ ⟨yr, yn, yl⟩
        · have hc := (HO.out).2 ha
          have HZ := hid_in (HY.out ha)
          have HB := hid_in (HBL.out ⟨xr, xn, xl⟩ ⟨yr, yn, yl⟩)
          generalize ordI ⟨xr, xn, xl⟩ ⟨yr, yn, yl⟩ = oi at *
          clear HY HNO HO ha q0 q1 q2 n0 n1 n2 HBL
          go_region_held3 (fun W => W.cell? ⟨wr.heap.size, 0, none⟩ = some (.int .i64 xr) ∧ W.cell? ⟨wr.heap.size, 1, none⟩ = some (.int .i64 xn) ∧ W.cell? ⟨wr.heap.size, 2, none⟩ = some (.int .i64 xl) ∧ W.cell? ⟨b, o + f * 3, none⟩ = some (.int .i64 yr) ∧ W.cell? ⟨b, o + f * 3 + 1, none⟩ = some (.int .i64 yn) ∧ W.cell? ⟨b, o + f * 3 + 2, none⟩ = some (.int .i64 yl)) (first | (exact HK.out _ (Below.refl _ _)) | (exact HK.out _ (Below.refl _ _).drew) | (exact HK.out _ HB3.out)) (first | (go_at_call 22; refine (HB.out _).mono ?_; rintro e w3 ⟨rfl, hb3⟩; have HB3 := hid_in ((Below.refl _ _).drew.trans (hb3.mono (Below.refl W1.heap.size W1).drew.size)); clear hb3))
          go_wp2_with fail
          go_roundg (vs.length - (k + 1))
          case measure => omega
          case rel => exact ⟨k + 1, by omega, by go_num, by rw [HZ.out], hB.out.trans ((HB1.out.trans (HB3.out.mono HB1.out.size)).mono hB.out.size)⟩
        · have hc : ¬ ordI ⟨xr, xn, xl⟩ ⟨yr, yn, yl⟩ < 0 := fun h => ha ((HO.out).1 h)
          have HZ := hid_in (HNO.out ha)
          have HB := hid_in (HBL.out ⟨xr, xn, xl⟩ ⟨yr, yn, yl⟩)
          generalize ordI ⟨xr, xn, xl⟩ ⟨yr, yn, yl⟩ = oi at *
          clear HY HNO HO ha q0 q1 q2 n0 n1 n2 HBL
          go_region_held3 (fun W => W.cell? ⟨wr.heap.size, 0, none⟩ = some (.int .i64 xr) ∧ W.cell? ⟨wr.heap.size, 1, none⟩ = some (.int .i64 xn) ∧ W.cell? ⟨wr.heap.size, 2, none⟩ = some (.int .i64 xl) ∧ W.cell? ⟨b, o + f * 3, none⟩ = some (.int .i64 yr) ∧ W.cell? ⟨b, o + f * 3 + 1, none⟩ = some (.int .i64 yn) ∧ W.cell? ⟨b, o + f * 3 + 2, none⟩ = some (.int .i64 yl)) (first | (exact HK.out _ (Below.refl _ _)) | (exact HK.out _ (Below.refl _ _).drew) | (exact HK.out _ HB3.out)) (first | (go_at_call 22; refine (HB.out _).mono ?_; rintro e w3 ⟨rfl, hb3⟩; have HB3 := hid_in ((Below.refl _ _).drew.trans (hb3.mono (Below.refl W1.heap.size W1).drew.size)); clear hb3))
          go_wp2_with fail
          go_roundg (vs.length - (k + 1))
          case measure => omega
          case rel => exact ⟨k + 1, by omega, by go_num, by rw [HZ.out], hB.out.trans ((HB1.out.trans (HB3.out.mono HB1.out.size)).mono hB.out.size)⟩
    · obtain rfl : k = vs.length := by omega
      go_wp2_with fail
      go_ret
      exact ⟨rfl, hB.out⟩
theorem best_any (vs : List Vt) (v : Value) (w : World) (hv : Es w v vs) : Calls Try.prog 17 #[v] w fun e w' => e = .returned (.int .i64 (bst vs vs.length)) ∧ Below w.heap.size w w' := by
  obtain ⟨p, cap, rfl, hc1, hc2⟩ := hv.form
  have HF := hid_in (foremost_any vs _ w hv)
  clear hv
  go_enter Try.func17, Try.ntmps17
  go_wp2_with (first | (go_at_call 21; refine HF.out.mono ?_; rintro e w3 ⟨rfl, hb3⟩; have HB3 := hid_in hb3; clear hb3))
  go_ret
  exact ⟨rfl, HB3.out⟩
end Go.Proofs.Ytpmakigmhcjegaa.Vw
namespace Go.Proofs.Ytpmakigmhcjegaa.Vw
open Go.RowKit
open Nd (Row wp_world u8v Grew Sl hid_in)
set_option maxHeartbeats 4000000 in
set_option maxRecDepth 100000 in
theorem rbest_any (vs : List Vt) (v : Value) (w : World) (hv : Es w v vs) : Calls Try.prog 18 #[v] w fun e w' => e = .returned (.int .i64 (bst vs vs.length)) ∧ Below w.heap.size w w' := by
  obtain ⟨p, cap, rfl, hc1, hc2⟩ := hv.form
  have HV := hid_in hv
  have k1 : (vs.length : Int) ≤ 9223372036854775807 := by omega
  clear hv hc1 hc2
  go_enter Try.func18, Try.ntmps18
  go_wp2_with fail
  go_loopg [3, 4] vs.length (fun g vb vi W => ∃ k : Nat, g + k = vs.length ∧ vi = .int .i64 (k : Int) ∧ vb = .int .i64 (bst vs k) ∧ Hid (Below w.heap.size w W))
  case atStart => exact ⟨0, by omega, rfl, rfl, Below.refl _ _⟩
  case round =>
    obtain ⟨k, hg, rfl, rfl, hB⟩ := hrel
    by_cases hlt : k < vs.length
    · obtain ⟨b, o, rfl, m0, m1, m2⟩ := (HV.out.below hB.out).at3 (List.getElem?_eq_getElem hlt)
      by_cases hf : bst vs k < 0
      · have HN := hid_in (bst_lt hf)
        have hq : bst vs k = -1 := by have := (bst_range vs k).1; omega
        rw [hq]
        clear m0 m1 m2 hf hq
        go_upto_region 5 with fail
        go_region
        go_wp2_with fail
        go_roundg (vs.length - (k + 1))
        case measure => omega
        case rel => exact ⟨k + 1, by omega, by go_num, by rw [HN.out], hB.out.trans (((Below.refl _ _).drew).mono hB.out.size)⟩
      · obtain ⟨r1, r2, r3⟩ := bst_range vs k
        obtain ⟨f, HF⟩ : ∃ f : Nat, bst vs k = (f : Int) := ⟨(bst vs k).toNat, by omega⟩
        have hfk : f < vs.length := by omega
        obtain ⟨b', o', hbo, n0, n1, n2⟩ := (HV.out.below hB.out).at3 (List.getElem?_eq_getElem hfk)
        injection hbo with hbo
        injection hbo with hb1 ho1
        subst hb1 ho1
        have HY := hid_in (bst_yes hlt hfk HF)
        have HNO := hid_in (bst_no hlt hfk HF)
        rw [HF] at hf r1 r2 r3 ⊢
        have k2 : ¬ (f : Int) < 0 := by omega
        clear HF hf r1 r2 r3
        generalize hxe : vs[k] = x at *
        generalize hye : vs[f] = y at *
        clear hxe hye
        obtain ⟨xr, xn, xl⟩ := x
        obtain ⟨yr, yn, yl⟩ := y
        dsimp only at *
        have HK : Hid (∀ W, Below wr.heap.size wr W → W.cell? ⟨b, o + k * 3, none⟩ = some (.int .i64 xr) ∧ W.cell? ⟨b, o + k * 3 + 1, none⟩ = some (.int .i64 xn) ∧ W.cell? ⟨b, o + k * 3 + 2, none⟩ = some (.int .i64 xl) ∧ W.cell? ⟨b, o + f * 3, none⟩ = some (.int .i64 yr) ∧ W.cell? ⟨b, o + f * 3 + 1, none⟩ = some (.int .i64 yn) ∧ W.cell? ⟨b, o + f * 3 + 2, none⟩ = some (.int .i64 yl)) := hid_in (fun W hb => ⟨by rw [hb.cell (World.block_lt_of_cell? _ _ m0)]; exact m0, by rw [hb.cell (World.block_lt_of_cell? _ _ m1)]; exact m1, by rw [hb.cell (World.block_lt_of_cell? _ _ m2)]; exact m2, by rw [hb.cell (World.block_lt_of_cell? _ _ n0)]; exact n0, by rw [hb.cell (World.block_lt_of_cell? _ _ n1)]; exact n1, by rw [hb.cell (World.block_lt_of_cell? _ _ n2)]; exact n2⟩)
        go_upto_region 5 with fail
        by_cases c1 : yn < xn
        · have HZ := hid_in (HY.out (.inl c1))
          clear HY HNO m0 m1 m2 n0 n1 n2
          go_region_held3 (fun W => W.cell? ⟨b, o + k * 3, none⟩ = some (.int .i64 xr) ∧ W.cell? ⟨b, o + k * 3 + 1, none⟩ = some (.int .i64 xn) ∧ W.cell? ⟨b, o + k * 3 + 2, none⟩ = some (.int .i64 xl) ∧ W.cell? ⟨b, o + f * 3, none⟩ = some (.int .i64 yr) ∧ W.cell? ⟨b, o + f * 3 + 1, none⟩ = some (.int .i64 yn) ∧ W.cell? ⟨b, o + f * 3 + 2, none⟩ = some (.int .i64 yl)) (first | (exact HK.out _ (Below.refl _ _)) | (exact HK.out _ (Below.refl _ _).drew)) (fail)
          go_wp2_with fail
          go_roundg (vs.length - (k + 1))
          case measure => omega
          case rel => exact ⟨k + 1, by omega, by go_num, by rw [HZ.out], hB.out.trans (((Below.refl _ _).drew).mono hB.out.size)⟩
        · go_region_held3 (fun W => W.cell? ⟨b, o + k * 3, none⟩ = some (.int .i64 xr) ∧ W.cell? ⟨b, o + k * 3 + 1, none⟩ = some (.int .i64 xn) ∧ W.cell? ⟨b, o + k * 3 + 2, none⟩ = some (.int .i64 xl) ∧ W.cell? ⟨b, o + f * 3, none⟩ = some (.int .i64 yr) ∧ W.cell? ⟨b, o + f * 3 + 1, none⟩ = some (.int .i64 yn) ∧ W.cell? ⟨b, o + f * 3 + 2, none⟩ = some (.int .i64 yl)) (first | (exact HK.out _ (Below.refl _ _)) | (exact HK.out _ (Below.refl _ _).drew)) (fail)
          obtain ⟨e0, e1, e2, e3, e4, e5⟩ := HK.out _ (Below.refl _ _).drew
          have HB4 : Hid (Below wr.heap.size wr wr.drew) := hid_in (Below.refl _ _).drew
          generalize wr.drew = w4 at *
          have HB6 : Hid (Below wr.heap.size wr ((w4.alloc (.cells #[.int .i64 xr, .int .i64 xn, .int .i64 xl] 31)).alloc (.cells #[.int .i64 yr, .int .i64 yn, .int .i64 yl] 31))) := hid_in ((HB4.out.alloc HB4.out.size _).alloc (by have := HB4.out.size; simp; omega) _)
          obtain ⟨h0, h1, h2, h3, h4, h5⟩ := HK.out _ (HB4.out.alloc HB4.out.size (.cells #[.int .i64 xr, .int .i64 xn, .int .i64 xl] 31))
          clear m0 m1 m2 n0 n1 n2 HK
          by_cases c2 : xn = yn
          · subst c2
            by_cases c3 : yl < xl
            · have HZ := hid_in (HY.out (.inr ⟨rfl, .inl c3⟩))
              clear HY HNO
              go_wp2_with fail
              go_roundg (vs.length - (k + 1))
              case measure => omega
              case rel => exact ⟨k + 1, by omega, by go_num, by rw [HZ.out], hB.out.trans (HB6.out.mono hB.out.size)⟩
            · by_cases c4 : xl = yl
              · subst c4
                by_cases c5 : xr < yr
                · have HZ := hid_in (HY.out (.inr ⟨rfl, .inr ⟨rfl, c5⟩⟩))
                  clear HY HNO
                  go_wp2_with fail
                  go_roundg (vs.length - (k + 1))
                  case measure => omega
                  case rel => exact ⟨k + 1, by omega, by go_num, by rw [HZ.out], hB.out.trans (HB6.out.mono hB.out.size)⟩
                · have HZ := hid_in (HNO.out (by unfold ahead; dsimp only; omega))
                  clear HY HNO
                  go_wp2_with fail
                  go_roundg (vs.length - (k + 1))
                  case measure => omega
                  case rel => exact ⟨k + 1, by omega, by go_num, by rw [HZ.out], hB.out.trans (HB6.out.mono hB.out.size)⟩
              · have HZ := hid_in (HNO.out (by unfold ahead; dsimp only; omega))
                have c4' : (xl == yl) = false := by simpa using c4
                clear HY HNO
                go_wp2_with fail
                go_roundg (vs.length - (k + 1))
                case measure => omega
                case rel => exact ⟨k + 1, by omega, by go_num, by rw [HZ.out], hB.out.trans (HB6.out.mono hB.out.size)⟩
          · have HZ := hid_in (HNO.out (by unfold ahead; dsimp only; omega))
            have c2' : (xn == yn) = false := by simpa using c2
            clear HY HNO
            go_wp2_with fail
            go_roundg (vs.length - (k + 1))
            case measure => omega
            case rel => exact ⟨k + 1, by omega, by go_num, by rw [HZ.out], hB.out.trans (HB6.out.mono hB.out.size)⟩
    · obtain rfl : k = vs.length := by omega
      go_wp2_with fail
      go_ret
      exact ⟨rfl, hB.out⟩
end Go.Proofs.Ytpmakigmhcjegaa.Vw
namespace Go.Proofs.Ytpmakigmhcjegaa.Vw
def srt (ks : List Int) : List Int := ks.mergeSort fun x y => decide (x ≤ y)
/-- how many are at x or above -/
def ge (ks : List Int) (x : Int) : Nat := ks.countP fun y => decide (x ≤ y)
def gt (ks : List Int) (x : Int) : Nat := ks.countP fun y => decide (x < y)
theorem srt_perm (ks : List Int) : (srt ks).Perm ks := List.mergeSort_perm _ _
theorem srt_len (ks : List Int) : (srt ks).length = ks.length := (srt_perm ks).length_eq
theorem srt_sorted (ks : List Int) : (srt ks).Pairwise (fun x y => x ≤ y) := by
  have h := List.pairwise_mergeSort (le := fun (x y : Int) => decide (x ≤ y)) (fun a b c h1 h2 => by simp at h1 h2 ⊢; omega) (fun a b => by simp; omega) ks
  exact h.imp (fun h => by simpa using h)
def qn (n : Nat) : Nat := n / 2 + 1
/-- the place of what most have reached, in order -/
def rch (ks : List Int) : Int := (srt ks).getD (ks.length - qn ks.length) 0
theorem ge_perm {a b : List Int} (h : a.Perm b) (x : Int) : ge a x = ge b x := h.countP_eq _
theorem gt_perm {a b : List Int} (h : a.Perm b) (x : Int) : gt a x = gt b x := h.countP_eq _
theorem ge_app (a b : List Int) (x : Int) : ge (a ++ b) x = ge a x + ge b x := List.countP_append
theorem gt_app (a b : List Int) (x : Int) : gt (a ++ b) x = gt a x + gt b x := List.countP_append
theorem sorted_at {s : List Int} (h : s.Pairwise (fun x y => x ≤ y)) {m : Nat} (hm : m < s.length) :
    s.length - m ≤ ge s s[m] ∧ gt s s[m] ≤ s.length - m - 1 := by
  have e : s = s.take m ++ s[m] :: s.drop (m + 1) := by rw [← List.drop_eq_getElem_cons hm, List.take_append_drop]
  generalize hx : s[m] = x at *
  have h1 : ∀ y ∈ s.drop (m + 1), x ≤ y := by
    rw [e] at h
    exact (List.pairwise_cons.1 (List.pairwise_append.1 h).2.1).1
  have h2 : ∀ y ∈ s.take m, y ≤ x := by
    rw [e] at h
    exact fun y hy => (List.pairwise_append.1 h).2.2 y hy x (List.mem_cons_self ..)
  constructor
  · have h3 : ge (x :: s.drop (m + 1)) x = (x :: s.drop (m + 1)).length := by
      unfold ge
      rw [List.countP_eq_length]
      intro y hy
      rcases List.mem_cons.1 hy with rfl | hy
      · simp
      · simpa using h1 y hy
    have h4 : ge s x = ge (s.take m) x + ge (x :: s.drop (m + 1)) x := by rw [← ge_app, ← e]
    rw [h4, h3, List.length_cons, List.length_drop]
    omega
  · have h3 : gt (s.take m) x = 0 := by
      unfold gt
      rw [List.countP_eq_zero]
      intro y hy
      have := h2 y hy
      simp
      omega
    have h4 : gt s x = gt (s.take m) x + gt (x :: s.drop (m + 1)) x := by rw [← gt_app, ← e]
    have h5 : gt (x :: s.drop (m + 1)) x = gt (s.drop (m + 1)) x := by simp [gt]
    have h6 : gt (s.drop (m + 1)) x ≤ (s.drop (m + 1)).length := List.countP_le_length
    rw [h4, h3, h5]
    rw [List.length_drop] at h6
    omega
theorem qn_le {n : Nat} (h : 0 < n) : 1 ≤ qn n ∧ qn n ≤ n := by unfold qn; omega
/-- it is one of them, most have it, one more than it most haven't -/
theorem rch_is {ks : List Int} (h : ks ≠ []) : rch ks ∈ ks ∧ qn ks.length ≤ ge ks (rch ks) ∧ gt ks (rch ks) < qn ks.length := by
  have hp : 0 < ks.length := List.length_pos_iff.2 h
  obtain ⟨q1, q2⟩ := qn_le hp
  have hm : ks.length - qn ks.length < (srt ks).length := by rw [srt_len]; omega
  have e : rch ks = (srt ks)[ks.length - qn ks.length] := by unfold rch; simp [hm]
  obtain ⟨h1, h2⟩ := sorted_at (srt_sorted ks) hm
  rw [← e, srt_len] at h1 h2
  refine ⟨?_, ?_, ?_⟩
  · rw [e]; exact (srt_perm ks).mem_iff.1 (List.getElem_mem hm)
  · rw [← ge_perm (srt_perm ks)]; omega
  · rw [← gt_perm (srt_perm ks)]; omega
theorem ge_le_gt (ks : List Int) {x y : Int} (h : x < y) : ge ks y ≤ gt ks x := by
  unfold ge gt
  exact List.countP_mono_left (fun z _ hz => by simp at hz ⊢; omega)
theorem rch_max {ks : List Int} (h : ks ≠ []) {x : Int} (hx : qn ks.length ≤ ge ks x) : x ≤ rch ks := by
  by_cases hlt : rch ks < x
  · have := ge_le_gt ks hlt
    have := (rch_is h).2.2
    omega
  · omega
/-- what the reference has found behind the first k -/
def rr (ks : List Int) : Nat → Bool × Int
  | 0 => (false, 0)
  | k + 1 => if qn ks.length ≤ ge ks (ks.getD k 0) ∧ ((rr ks k).1 = false ∨ (rr ks k).2 < ks.getD k 0) then (true, ks.getD k 0) else rr ks k
theorem rr_inv (ks : List Int) : ∀ k, k ≤ ks.length →
    ((rr ks k).1 = true → (rr ks k).2 ∈ ks ∧ qn ks.length ≤ ge ks (rr ks k).2) ∧
    (∀ x ∈ ks.take k, qn ks.length ≤ ge ks x → (rr ks k).1 = true ∧ x ≤ (rr ks k).2)
  | 0, _ => ⟨fun h => by simp [rr] at h, fun x h => by simp at h⟩
  | k + 1, hk => by
    obtain ⟨h1, h2⟩ := rr_inv ks k (by omega)
    have hlt : k < ks.length := by omega
    have e : ks.getD k 0 = ks[k] := by simp [hlt]
    have ht : ks.take (k + 1) = ks.take k ++ [ks[k]] := List.take_succ_eq_append_getElem hlt
    rw [rr, e, ht]
    split
    · rename_i hc
      refine ⟨fun _ => ⟨List.getElem_mem hlt, hc.1⟩, fun x hx hq => ⟨rfl, ?_⟩⟩
      rcases List.mem_append.1 hx with hx | hx
      · obtain ⟨h3, h4⟩ := h2 x hx hq
        rcases hc.2 with h5 | h5
        · rw [h5] at h3; cases h3
        · exact Int.le_of_lt (Int.lt_of_le_of_lt h4 h5)
      · simp at hx; rw [hx]; exact Int.le_refl _
    · rename_i hc
      refine ⟨h1, fun x hx hq => ?_⟩
      rcases List.mem_append.1 hx with hx | hx
      · exact h2 x hx hq
      · simp at hx
        subst hx
        cases h6 : (rr ks k).1 with
        | false => exact absurd ⟨hq, .inl h6⟩ hc
        | true => exact ⟨rfl, by
            by_cases h7 : (rr ks k).2 < ks[k]
            · exact absurd ⟨hq, .inr h7⟩ hc
            · omega⟩
theorem rr_is {ks : List Int} (h : ks ≠ []) : (rr ks ks.length).2 = rch ks := by
  obtain ⟨h1, h2⟩ := rr_inv ks ks.length (Nat.le_refl _)
  obtain ⟨r1, r2, r3⟩ := rch_is h
  obtain ⟨h3, h4⟩ := h2 (rch ks) (by rw [List.take_length]; exact r1) r2
  have h5 := rch_max h (h1 h3).2
  omega
end Go.Proofs.Ytpmakigmhcjegaa.Vw
namespace Go.Proofs
open Go.Shelf
def Try.laySort_ren : Go.Shelf.Ren := ⟨fun | 5 => 24 | 8 => 29 | 7 => 28 | 19 => 41 | 20 => 42 | 10 => 32 | 11 => 33 | 12 => 34 | 13 => 35 | 14 => 36 | 15 => 37 | 16 => 38 | 17 => 39 | 18 => 40 | 30 => 43 | 31 => 44 | 32 => 45 | 33 => 46 | 34 => 47 | 35 => 30 | 40 => 48 | n => n, fun | 23 => 34 | 25 => 2 | 3 => 3 | 32 => 32 | 22 => 34 | 0 => 0 | 44 => 61 | 46 => 63 | 4 => 4 | 36 => 53 | 35 => 52 | 41 => 58 | 5 => 5 | 9 => 9 | 53 => 64 | 57 => 68 | 63 => 70 | 64 => 71 | n => n, fun | n => n⟩
theorem Try.laySort : Go.Proofs.SlLaysM.n5 Try.prog Try.laySort_ren := {
  mixed := by kernel_rfl
  f5 := ⟨Try.f24.name, by decide, Try.func24.trans (congrArg some (by kernel_rfl))⟩
  f7 := ⟨Try.f28.name, by decide, Try.func28.trans (congrArg some (by kernel_rfl))⟩
  f8 := Try.func29.trans (congrArg some (by kernel_rfl))
  f10 := ⟨Try.f32.name, by decide, Try.func32.trans (congrArg some (by kernel_rfl))⟩
  f11 := ⟨Try.f33.name, by decide, Try.func33.trans (congrArg some (by kernel_rfl))⟩
  f12 := ⟨Try.f34.name, by decide, Try.func34.trans (congrArg some (by kernel_rfl))⟩
  f13 := ⟨Try.f35.name, by decide, Try.func35.trans (congrArg some (by kernel_rfl))⟩
  f14 := ⟨Try.f36.name, by decide, Try.func36.trans (congrArg some (by kernel_rfl))⟩
  f15 := ⟨Try.f37.name, by decide, Try.func37.trans (congrArg some (by kernel_rfl))⟩
  f16 := ⟨Try.f38.name, by decide, Try.func38.trans (congrArg some (by kernel_rfl))⟩
  f17 := ⟨Try.f39.name, by decide, Try.func39.trans (congrArg some (by kernel_rfl))⟩
  f18 := ⟨Try.f40.name, by decide, Try.func40.trans (congrArg some (by kernel_rfl))⟩
  f19 := Try.func41.trans (congrArg some (by kernel_rfl))
  f20 := Try.func42.trans (congrArg some (by kernel_rfl))
  f30 := ⟨Try.f43.name, by decide, Try.func43.trans (congrArg some (by kernel_rfl))⟩
  f31 := Try.func44.trans (congrArg some (by kernel_rfl))
  f32 := Try.func45.trans (congrArg some (by kernel_rfl))
  f33 := ⟨Try.f46.name, by decide, Try.func46.trans (congrArg some (by kernel_rfl))⟩
  f34 := ⟨Try.f47.name, by decide, Try.func47.trans (congrArg some (by kernel_rfl))⟩
  f35 := ⟨Try.f30.name, by decide, Try.func30.trans (congrArg some (by kernel_rfl))⟩
  f40 := ⟨Try.f48.name, by decide, Try.func48.trans (congrArg some (by kernel_rfl))⟩
  t0 := Try.underlying0
  a0 := Try.isAgg0
  z0 := Try.sizeOf0
  v0 := Try.zeroValue0
  t3 := Try.underlying3
  a3 := Try.isAgg3
  z3 := Try.sizeOf3
  v3 := Try.zeroValue3
  t4 := Try.underlying4
  a4 := Try.isAgg4
  z4 := Try.sizeOf4
  v4 := Try.zeroValue4
  t5 := Try.underlying5
  a5 := Try.isAgg5
  z5 := Try.sizeOf5
  v5 := Try.zeroValue5
  t9 := Try.underlying9
  a9 := Try.isAgg9
  z9 := Try.sizeOf9
  v9 := Try.zeroValue9
  t22 := Try.underlying34
  a22 := Try.isAgg34
  z22 := Try.sizeOf34
  v22 := Try.zeroValue34
  t23 := Try.underlying34
  a23 := Try.isAgg34
  z23 := Try.sizeOf34
  v23 := Try.zeroValue34
  t25 := Try.underlying2
  a25 := Try.isAgg2
  z25 := Try.sizeOf2
  v25 := Try.zeroValue2
  t32 := Try.underlying32
  a32 := Try.isAgg32
  z32 := Try.sizeOf32
  v32 := Try.zeroValue32
  t35 := Try.underlying52
  a35 := Try.isAgg52
  z35 := Try.sizeOf52
  v35 := Try.zeroValue52
  t36 := Try.underlying53
  a36 := Try.isAgg53
  z36 := Try.sizeOf53
  v36 := Try.zeroValue53
  t41 := Try.underlying58
  a41 := Try.isAgg58
  z41 := Try.sizeOf58
  v41 := Try.zeroValue58
  t44 := Try.underlying61
  a44 := Try.isAgg61
  z44 := Try.sizeOf61
  v44 := Try.zeroValue61
  t46 := Try.underlying63
  a46 := Try.isAgg63
  z46 := Try.sizeOf63
  v46 := Try.zeroValue63
  t53 := Try.underlying64
  a53 := Try.isAgg64
  z53 := Try.sizeOf64
  v53 := Try.zeroValue64
  t57 := Try.underlying68
  a57 := Try.isAgg68
  z57 := Try.sizeOf68
  v57 := Try.zeroValue68
  t63 := Try.underlying70
  a63 := Try.isAgg70
  z63 := Try.sizeOf70
  v63 := Try.zeroValue70
  t64 := Try.underlying71
  a64 := Try.isAgg71
  z64 := Try.sizeOf71
  v64 := Try.zeroValue71 }
end Go.Proofs
namespace Go.Proofs.Ytpmakigmhcjegaa.Vw
open Go.Shelf Go.Sort Go.RowKit
theorem sort_k (blk off cap : Nat) (zs : List Int) (w : World) (hH : Holds (Value.int .i64) w blk off zs.toArray) (hblk : blk < w.heap.size) (hsz : zs.length < 4611686018427387904) :
    Calls Try.prog 24 #[.slice (some ⟨blk, off, none⟩) zs.length cap] w fun e w' =>
      e = .returned (.tuple #[]) ∧ ∃ n os, w' = grow (putRow (Value.int .i64) (Sort.ahead w n) blk off (zs.mergeSort fun x y => decide (x ≤ y)).toArray) os :=
  AnyM.slices_Sort_int Try.laySort blk off cap zs w hH hblk hsz
end Go.Proofs.Ytpmakigmhcjegaa.Vw
