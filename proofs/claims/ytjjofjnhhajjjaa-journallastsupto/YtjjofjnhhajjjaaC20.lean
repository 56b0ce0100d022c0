/-
  The walk of wire.Scan. putEntries, the fields of a record, its frame.
-/
import Derived.Laws.Tables
import Derived.OwnWalk
import Derived.Deep.CutRange
import Derived.Laws.CopyOwn
import Derived.Deep.RegionLaw
import Derived.Deep.DrawnRows
import Derived.Laws.StructEq
import Derived.Lib.SlBytesConst
import Derived.Test.YtjjofjnhhajjjaaC00
import Derived.Test.YtjjofjnhhajjjaaC01
import Derived.Test.YtjjofjnhhajjjaaC02
import Derived.Test.YtjjofjnhhajjjaaC03
import Derived.Test.YtjjofjnhhajjjaaC04
import Derived.Test.YtjjofjnhhajjjaaC05
import Derived.Test.YtjjofjnhhajjjaaC06
import Derived.Test.YtjjofjnhhajjjaaC07
import Derived.Test.YtjjofjnhhajjjaaC08
import Derived.Test.YtjjofjnhhajjjaaC09
import Derived.Test.YtjjofjnhhajjjaaC10
import Derived.Test.YtjjofjnhhajjjaaC11
import Derived.Test.YtjjofjnhhajjjaaC17
import Derived.Test.YtjjofjnhhajjjaaC18
import Derived.Test.YtjjofjnhhajjjaaC19
namespace Go.Proofs.Ytjjofjnhhajjjaa.Nd
open Go.RowKit
/-- slices of bytes that a row of the call's own holds -/
structure Held (w : World) (B : Nat) (v : Value) (ps : List Part) : Prop where
  own : w.ownsRow B 54 1 v ps.length (ps.map Part.val)
  ok : ∀ x ∈ ps, x.ok w
  no : ∀ x ∈ ps, x.p = none → x.bs.length = 0 ∧ x.cap = 0
  apart : ∀ x ∈ ps, 0 < x.bs.length → some x.b ≠ v.ownBlock
theorem Held.below {w w' : World} {B : Nat} {v : Value} {ps : List Part} (h : Held w B v ps) (hb : Below w.heap.size w w') : Held w' B v ps := by
  refine ⟨?_, fun x hx => Sl.below (h.ok x hx) hb, h.no, h.apart⟩
  obtain ⟨h1, h2 | ⟨g, cap, cur, rfl, hB, hh, r⟩⟩ := h.own
  · exact ⟨h1, .inl h2⟩
  · refine ⟨h1, .inr ⟨g, cap, cur, rfl, hB, ?_, r⟩⟩
    rw [hb.block g (Array.getElem?_eq_some_iff.1 hh).1]
    exact hh
theorem Held.nil (w : World) (B : Nat) : Held w B (.slice none 0 0) [] :=
  ⟨World.ownsRow_nil _ _ _ _, fun _ h => (by cases h), fun _ h => (by cases h), fun _ h => (by cases h)⟩
theorem Held.push {w w' : World} {B : Nat} {v v' : Value} {ps : List Part} {x : Part} (h : Held w B v ps) (hx : x.ok w) (hxn : x.p = none → x.bs.length = 0 ∧ x.cap = 0) (hxa : 0 < x.bs.length → some x.b ≠ v.ownBlock)
    (hown : w'.ownsRow B 54 1 v' (ps.length + 1) (ps.map Part.val ++ [x.val])) (hg : Grew w w' (fun k => some k = v.ownBlock)) (hm : Moved w v v') : Held w' B v' (ps ++ [x]) := by
  have hall : ∀ y ∈ ps ++ [x], Part.ok w y ∧ (y.p = none → y.bs.length = 0 ∧ y.cap = 0) ∧ (0 < y.bs.length → some y.b ≠ v.ownBlock) := by
    intro y hy
    rcases List.mem_append.1 hy with hy | hy
    · exact ⟨h.ok y hy, h.no y hy, h.apart y hy⟩
    · simp at hy; subst hy; exact ⟨hx, hxn, hxa⟩
  refine ⟨?_, fun y hy => Sl.grew (hall y hy).1 hg (hall y hy).2.2, fun y hy => (hall y hy).2.1, fun y hy h0 => ?_⟩
  · rw [List.length_append, List.map_append]; exact hown
  · rcases hm with hm | ⟨q, hq, hs⟩
    · rw [hm]; exact (hall y hy).2.2 h0
    · rw [hq]; intro e; cases e; have := Sl.blk (hall y hy).1 h0; omega
set_option maxHeartbeats 1000000 in
set_option maxRecDepth 100000 in
theorem scan_any (bs : List Nat) (p : Option Addr) (cap b off : Nat) (w : World) (hsl : Sl w p bs cap b off) (hre : bs.length ≤ 1099511627776) :
    Calls Try.prog 27 #[.slice p bs.length cap] w fun e w' => ∃ v ps, e = .returned (.tuple #[v, .int .i64 ((Wire.scan bs).2 : Int)]) ∧ Held w' w.heap.size v ps ∧ ps.map (·.bs) = (Wire.scan bs).1 ∧ Below w.heap.size w w' := by
  obtain ⟨i25i, HI5, HE1, HE2, HE3⟩ := i25h
  have HSL := hid_in hsl
  have hcap := hsl.cap1
  have hcap2 := hsl.cap2
  have hp := hsl.at_
  have HP := hid_in hp
  clear hsl hp
  go_enter Try.func27, Try.ntmps27
  go_wp2_with fail
  go_loopw [4, 5] (fun v4 v5 w' => ∃ (P : Nat) (ps : List Part), v5 = .int .i64 (P : Int) ∧ P ≤ bs.length ∧ ps.length * 8 ≤ P ∧ ps.map (·.bs) ++ (Wire.scan (bs.drop P)).1 = (Wire.scan bs).1 ∧ P + (Wire.scan (bs.drop P)).2 = (Wire.scan bs).2 ∧ Held w' w.heap.size v4 ps ∧ Below w.heap.size w w') (fun _ v5 _ => bs.length - (intOf v5).toNat)
  case atStart => exact ⟨0, [], rfl, by omega, by simp, by simp, by simp, Held.nil _ _, Below.refl _ _⟩
  case round =>
    obtain ⟨P, ps, rfl, hP, hps8, hs1, hs2, hheld, hbel⟩ := hrel
    have HS1 := hid_in hs1
    have HS2 := hid_in hs2
    have HH := hid_in hheld
    have hsl := HSL.out.below hbel
    obtain ⟨q, hq, hsl1⟩ := slice_from p b off bs.length cap P hP hcap HP.out
    have hrest := hsl.rest P hP hq
    have hnx := next_any _ _ _ _ _ _ hrest
    rw [List.length_drop] at hnx
    have hown := hheld.own
    clear hs1 hs2 hheld hsl hq hrest
    obtain ⟨R, HR⟩ : ∃ R, Hid (Wire.next (bs.drop P) = R) := ⟨_, rfl⟩
    rw [HR.out] at hnx
    obtain ⟨pl, N, X⟩ := R
    have hpl : ∀ x ∈ pl, x < 256 := by
      intro x hx
      by_cases hX : X = 0
      · have h := Wire.next_ok (b := bs.drop P) (by rw [HR.out]; exact hX)
        rw [HR.out] at h
        simp only at h
        rw [h.2.2.1] at hx
        exact HSL.out.lt x (List.mem_of_mem_drop (List.mem_of_mem_drop (List.mem_of_mem_take hx)))
      · have h := next_err' (bs.drop P) (by rw [HR.out]; exact hX)
        rw [HR.out] at h
        simp only at h
        rw [h.2] at hx
        cases hx
    have k0 : (P : Int) ≤ (bs.length : Int) := by omega
    go_wp2_with fail
    refine hnx.mono ?_
    rintro e w1 ⟨v1, rfl, hown1, hb1⟩
    simp only at hown1 ⊢
    have hbw1 : Below w.heap.size w w1 := hbel.trans (hb1.mono hbel.size)
    have hh1 := HH.out.below hb1
    have HH1 := hid_in hh1
    clear hnx hsl1 hown hbel
    by_cases hX : X = 0
    · subst hX
      have hok := Wire.next_ok (b := bs.drop P) (by rw [HR.out])
      have hsc := Wire.scan_ok (b := bs.drop P) (by rw [HR.out])
      rw [HR.out] at hok hsc
      simp only [List.drop_drop, List.length_drop] at hok hsc
      obtain ⟨x, hx, hxv, hxn, hxb, hxbs⟩ : ∃ x : Part, x.ok w1 ∧ v1 = x.val ∧ (x.p = none → x.bs.length = 0 ∧ x.cap = 0) ∧ (0 < x.bs.length → wr.heap.size ≤ x.b) ∧ x.bs = pl := by
        obtain ⟨p1, c1, b1, rfl, h1, h2, h3⟩ := own_sl2 hpl hown1
        exact ⟨⟨p1, pl, c1, b1, 0⟩, h1, rfl, h2, h3, rfl⟩
      have hxa : 0 < x.bs.length → some x.b ≠ u4.ownBlock := fun h0 e => by
        have h1 := HH.out.own.lt x.b e.symm
        have h2 := hxb h0
        omega
      have hown1' := hh1.own
      have hb25 : w.heap.size ≤ w1.heap.size := hbw1.size
      have hfit : (ps.length + 1) * 24 ≤ 140737488355328 := by omega
      have hmax : ps.length + 1 ≤ 9223372036854775807 := by omega
      have hlm : (ps.map Part.val).length = ps.length := by simp
      obtain ⟨px, bx, cx, bbx, ox⟩ := x
      have hxv' : v1 = .slice px bx.length cx := hxv
      subst hxv'
      have kN : (P : Int) + (N : Int) ≤ 1099511627776 := by omega
      have HX := hid_in hx
      have HXN := hid_in hxn
      have HXA := hid_in hxa
      have HOK := hid_in hok
      have HSC := hid_in hsc
      have HBS := hid_in hxbs
      clear hx hxn hxa hxb hxv hown1 hpl hok hsc hh1 hlm hxbs
      go_wp2_with (at_builtin; refine wpList_append_one_by rfl _ _ 63 rfl w.heap.size 54 i25i (.slice none 0 0) 24 Try.underlying63 HI5.out HE3.out HE1.out HE2.out rfl _ _ _ rfl hown1' 54 _ rfl rfl hmax hfit hb25 ?_; intro v2 w2 hown2 hg2 hm2; have HM2 := hid_in hm2; clear hm2)
      have hok := HOK.out
      have hbw2 : Below w.heap.size w w2 := hg2.below hbw1 hb25 (fun k hk => (hown1'.lt k hk.symm).1)
      have hpush := HH1.out.push (x := ⟨px, bx, cx, bbx, ox⟩) HX.out HXN.out HXA.out hown2 hg2 HM2.out
      have h1 := HS1.out
      have h2 := HS2.out
      rw [HSC.out] at h1 h2
      have hbx : bx = pl := HBS.out
      refine ⟨⟨P + N, ps ++ [⟨px, bx, cx, bbx, ox⟩], by go_num, by omega, by simp; omega, ?_, ?_, hpush, hbw2⟩, by simp [intOf]; omega⟩
      · rw [List.map_append, ← h1]
        simp [hbx]
      · simp only at h2
        omega
    · have kX : ¬ ((X : Int) = 0) := by omega
      have hsc := Wire.scan_bad (b := bs.drop P) (by rw [HR.out]; exact hX)
      have HSC := hid_in hsc
      clear hown1 hpl hh1 hsc
      go_wp2
      go_ret2
      have h1 := HS1.out
      have h2 := HS2.out
      rw [HSC.out] at h1 h2
      simp only [List.append_nil, Nat.add_zero] at h1 h2
      exact ⟨_, ps, by rw [← h2]; rfl, HH1.out, h1, hbw1⟩
end Go.Proofs.Ytjjofjnhhajjjaa.Nd
namespace Go.Proofs.Ytjjofjnhhajjjaa.Jr
open Go.RowKit
open Nd (Row wp_world post_Row grownBy_setCell grownBy_trans below_of_grown u8v Grew Sl hid_in i64r bytesS str encO OutB OutA)
theorem entS_len (e : Ent) (h : e.op.short) : (entS e).length ≤ 4030 := by
  have h1 := Nd.num_length (Nd.Wire.zz e.cl)
  have h2 := Nd.num_length (Nd.Wire.zz e.nu)
  have h3 := Nd.num_length (encO e.op).length
  have h4 := Nd.encO_len e.op h
  unfold entS
  simp only [List.length_append]
  omega
theorem entsS_len (es : List Ent) (h : ∀ e ∈ es, e.op.short) : (entsS es).length ≤ 4030 * es.length := by
  induction es with
  | nil => simp [entsS]
  | cons e r ih =>
    rw [entsS_cons, List.length_append, List.length_cons]
    have h1 := entS_len e (h e (by simp))
    have h2 := ih (fun x hx => h x (by simp [hx]))
    omega
theorem set8 {W : World} {Z : Nat} {t : TypeId} {a0 a1 a2 a3 a4 a5 a6 a7 : Value} (h : Row W Z [a0, a1, a2, a3, a4, a5, a6, a7] t) (b0 b1 b2 b3 b4 b5 b6 b7 : Value) :
    Row ((((((((W.setCell ⟨Z, 0, none⟩ b0).setCell ⟨Z, 1, none⟩ b1).setCell ⟨Z, 2, none⟩ b2).setCell ⟨Z, 3, none⟩ b3).setCell ⟨Z, 4, none⟩ b4).setCell ⟨Z, 5, none⟩ b5).setCell ⟨Z, 6, none⟩ b6).setCell ⟨Z, 7, none⟩ b7) Z [b0, b1, b2, b3, b4, b5, b6, b7] t :=
  (((((((h.set_same 0 b0).set_same 1 b1).set_same 2 b2).set_same 3 b3).set_same 4 b4).set_same 5 b5).set_same 6 b6).set_same 7 b7
set_option maxHeartbeats 4000000 in
set_option maxRecDepth 100000 in
theorem putEntries_any (w0 w : World) (B g : Nat) (xs : List Nat) (es : List Ent) (v : Value) (hB : w0.heap.size ≤ B) (hb0 : Below w0.heap.size w0 w) (hes : Es w0 v es) (hg : B ≤ g) (ho : OutL w B g xs 200000) (hn : es.length ≤ 32) (hok : ∀ e ∈ es, e.ok) (hs : ∀ e ∈ es, e.op.short) :
    Calls Try.prog 90 #[.pointer (some ⟨g, 0, none⟩), v] w fun x w' => x = .returned (.tuple #[]) ∧ OutL w' B g (xs ++ manyS es) 1000000 ∧ Below B w w' := by
  obtain ⟨p, cap, rfl, hc1, hc2⟩ := hes.form
  have HO := hid_in ho
  have HE := hid_in hes
  have HK := hid_in hok
  have HS := hid_in hs
  have HB0 := hid_in hb0
  have hn64 : (es.length : Int) ≤ 32 := by omega
  have hn0 : (0 : Int) ≤ (es.length : Int) := by omega
  have HNM := hid_in (Nd.num_length es.length)
  clear ho hes hok hs hb0
  go_enter Try.func90, Try.ntmps90
  go_upto_region 1 with (first | (go_at_call 88; refine (num_l w B g xs 200000 es.length (by omega) hg HO.out (by omega)).mono ?_; rintro x w1 ⟨rfl, h1, h2⟩; have HO1 := hid_in h1; have HB1 := hid_in h2; clear h1 h2))
  go_wp2_with fail
  go_loopw [13] (fun vi W => ∃ i : Nat, i ≤ es.length ∧ vi = .int .i64 (i : Int) ∧ Hid (OutL W B g (xs ++ (Nd.Wire.num es.length ++ entsS (es.take i))) (200010 + i * 4030)) ∧ Hid (Below B w W)) (fun vi _ => es.length - (intOf vi).toNat)
  case atStart => exact ⟨0, by omega, rfl, hid_in (by simpa [entsS, List.append_assoc] using HO1.out), HB1.out⟩
  case round =>
    obtain ⟨i, hi, rfl, hO, hB1⟩ := hrel
    by_cases hlt : i < es.length
    · have hg1 : es[i]? = some es[i] := List.getElem?_eq_getElem hlt
      have hbe : Below w0.heap.size w0 wr := HB0.out.trans (hB1.out.mono hB)
      obtain ⟨b, o, rfl, hm⟩ := (HE.out.below hbe).at hg1
      have HEO := hid_in (HK.out _ (List.getElem_mem hlt))
      have HES := hid_in (HS.out _ (List.getElem_mem hlt))
      have HT : Hid (entsS (es.take (i + 1)) = entsS (es.take i) ++ entS es[i]) := hid_in (by
        rw [List.take_succ_eq_append_getElem hlt, entsS_app]; simp [entsS])
      generalize es[i] = x at *
      obtain ⟨cl, nu, ⟨kd, pa, de, da, at_, sz⟩⟩ := x
      have m0 : wr.cell? ⟨b, o + i * 8, none⟩ = some (.int .i64 cl) := by simpa using hm 0 _ rfl
      have m1 : wr.cell? ⟨b, o + i * 8 + 1, none⟩ = some (.int .i64 nu) := hm 1 _ rfl
      have m2 : wr.cell? ⟨b, o + i * 8 + 2, none⟩ = some (.int .i64 kd) := hm 2 _ rfl
      have m3 : wr.cell? ⟨b, o + i * 8 + 3, none⟩ = some (.string pa) := hm 3 _ rfl
      have m4 : wr.cell? ⟨b, o + i * 8 + 4, none⟩ = some (.string de) := hm 4 _ rfl
      have m5 : wr.cell? ⟨b, o + i * 8 + 5, none⟩ = some (.string da) := hm 5 _ rfl
      have m6 : wr.cell? ⟨b, o + i * 8 + 6, none⟩ = some (.int .i64 at_) := hm 6 _ rfl
      have m7 : wr.cell? ⟨b, o + i * 8 + 7, none⟩ = some (.int .i64 sz) := hm 7 _ rfl
      clear hm hg1 hbe
      obtain ⟨W1, HW1, HR1, HBW, HSW⟩ := row_new wr [.int .i64 cl, .int .i64 nu, .int .i64 kd, .string pa, .string de, .string da, .int .i64 at_, .int .i64 sz] 51
      have hom := hO.out
      have HP := hid_in (putEntry_any W1 B g _ _ ⟨cl, nu, ⟨kd, pa, de, da, at_, sz⟩⟩ hg (hom.below HBW.out) (by omega) HEO.out HES.out)
      simp only [Ent.val] at HP
      have HBO : Hid (B ≤ wr.heap.size) := Nd.OutB.base hom.1
      clear hom
      go_upto_region 4 with fail
      refine wp_world HW1.out ?_
      have q0 : W1.cell? ⟨wr.heap.size, 0, none⟩ = some (.int .i64 cl) := HR1.out.cell 0
      have q1 : W1.cell? ⟨wr.heap.size, 1, none⟩ = some (.int .i64 nu) := HR1.out.cell 1
      have q2 : W1.cell? ⟨wr.heap.size, 2, none⟩ = some (.int .i64 kd) := HR1.out.cell 2
      have q3 : W1.cell? ⟨wr.heap.size, 3, none⟩ = some (.string pa) := HR1.out.cell 3
      have q4 : W1.cell? ⟨wr.heap.size, 4, none⟩ = some (.string de) := HR1.out.cell 4
      have q5 : W1.cell? ⟨wr.heap.size, 5, none⟩ = some (.string da) := HR1.out.cell 5
      have q6 : W1.cell? ⟨wr.heap.size, 6, none⟩ = some (.int .i64 at_) := HR1.out.cell 6
      have q7 : W1.cell? ⟨wr.heap.size, 7, none⟩ = some (.int .i64 sz) := HR1.out.cell 7
      go_wp2_with (first | (go_at_call 89; refine HP.out.mono ?_; rintro x w2 ⟨rfl, h1, h2⟩; have HO2 := hid_in h1; have HB2 := hid_in h2; clear h1 h2 q0 q1 q2 q3 q4 q5 q6 q7))
      go_roundw
      case rel =>
        refine ⟨i + 1, by omega, by go_num, hid_in ?_, (hB1.out.trans (HBW.out.mono HBO.out)).trans HB2.out⟩
        rw [HT.out]
        refine ⟨by simpa [List.append_assoc] using HO2.out.1, ?_⟩
        have := HO2.out.2
        simp only [List.append_assoc] at this ⊢
        omega
      case measure => simp [intOf]; omega
    · obtain rfl : i = es.length := by omega
      go_wp2
      go_end0
      rw [List.take_length] at hO
      exact ⟨rfl, ⟨hO.out.1, by have := hO.out.2; unfold manyS; omega⟩, hB1.out⟩
end Go.Proofs.Ytjjofjnhhajjjaa.Jr
