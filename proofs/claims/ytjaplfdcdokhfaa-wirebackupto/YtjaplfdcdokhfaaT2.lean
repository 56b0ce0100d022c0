/-
  The walk of wire.Scan.
-/
import Derived.Test.YtjaplfdcdokhfaaT1
namespace Go.Proofs.Ytjaplfdcdokhfaa
open Go.RowKit

/-- slices of bytes that a row of the call's own holds -/
structure Held (w : World) (B : Nat) (v : Value) (ps : List Part) : Prop where
  own : w.ownsRow B 25 1 v ps.length (ps.map Part.val)
  ok : ∀ x ∈ ps, x.ok w
  no : ∀ x ∈ ps, x.p = none → x.bs.length = 0 ∧ x.cap = 0
  apart : ∀ x ∈ ps, 0 < x.bs.length → some x.b ≠ v.ownBlock
theorem Held.below {w w' : World} {B : Nat} {v : Value} {ps : List Part} (h : Held w B v ps) (hb : Below w.heap.size w w') : Held w' B v ps := by
  refine ⟨?_, fun x hx => Sl.below (h.ok x hx) hb, h.no, h.apart⟩
  obtain ⟨h1, h2 | ⟨g, cap, cur, rfl, hB, hh, r⟩⟩ := h.own
  · exact ⟨h1, .inl h2⟩
  · refine ⟨h1, .inr ⟨g, cap, cur, rfl, hB, ?_, r⟩⟩
    rw [hb.block g (Array.getElem?_eq_some_iff.1 hh).1]
    exact hh
theorem Held.nil (w : World) (B : Nat) : Held w B (.slice none 0 0) [] :=
  ⟨World.ownsRow_nil _ _ _ _, fun _ h => (by cases h), fun _ h => (by cases h), fun _ h => (by cases h)⟩
theorem Held.push {w w' : World} {B : Nat} {v v' : Value} {ps : List Part} {x : Part} (h : Held w B v ps) (hx : x.ok w) (hxn : x.p = none → x.bs.length = 0 ∧ x.cap = 0) (hxa : 0 < x.bs.length → some x.b ≠ v.ownBlock)
    (hown : w'.ownsRow B 25 1 v' (ps.length + 1) (ps.map Part.val ++ [x.val])) (hg : Grew w w' (fun k => some k = v.ownBlock)) (hm : Moved w v v') : Held w' B v' (ps ++ [x]) := by
  have hall : ∀ y ∈ ps ++ [x], Part.ok w y ∧ (y.p = none → y.bs.length = 0 ∧ y.cap = 0) ∧ (0 < y.bs.length → some y.b ≠ v.ownBlock) := by
    intro y hy
    rcases List.mem_append.1 hy with hy | hy
    · exact ⟨h.ok y hy, h.no y hy, h.apart y hy⟩
    · simp at hy; subst hy; exact ⟨hx, hxn, hxa⟩
  refine ⟨?_, fun y hy => Sl.grew (hall y hy).1 hg (hall y hy).2.2, fun y hy => (hall y hy).2.1, fun y hy h0 => ?_⟩
  · rw [List.length_append, List.map_append]; exact hown
  · rcases hm with hm | ⟨q, hq, hs⟩
    · rw [hm]; exact (hall y hy).2.2 h0
    · rw [hq]; intro e; cases e; have := Sl.blk (hall y hy).1 h0; omega

set_option maxHeartbeats 1000000 in
set_option maxRecDepth 100000 in
theorem scan_any (bs : List Nat) (p : Option Addr) (cap b off : Nat) (w : World) (hsl : Sl w p bs cap b off) (hre : bs.length ≤ 1099511627776) :
    Calls Try.prog 30 #[.slice p bs.length cap] w fun e w' => ∃ v ps, e = .returned (.tuple #[v, .int .i64 ((Wire.scan bs).2 : Int)]) ∧ Held w' w.heap.size v ps ∧ ps.map (·.bs) = (Wire.scan bs).1 ∧ Below w.heap.size w w' := by
  obtain ⟨i25i, HI5, HE1, HE2, HE3⟩ := i25h
  have HSL := hid_in hsl
  have hcap := hsl.cap1
  have hcap2 := hsl.cap2
  have hp := hsl.at_
  have HP := hid_in hp
  clear hsl hp
  go_enter Try.func30, Try.ntmps30
  go_wp2_with fail
  go_loopw [4, 5] (fun v4 v5 w' => ∃ (P : Nat) (ps : List Part), v5 = .int .i64 (P : Int) ∧ P ≤ bs.length ∧ ps.length * 8 ≤ P ∧ ps.map (·.bs) ++ (Wire.scan (bs.drop P)).1 = (Wire.scan bs).1 ∧ P + (Wire.scan (bs.drop P)).2 = (Wire.scan bs).2 ∧ Held w' w.heap.size v4 ps ∧ Below w.heap.size w w') (fun _ v5 _ => bs.length - (intOf v5).toNat)
  case atStart => exact ⟨0, [], rfl, by omega, by simp, by simp, by simp, Held.nil _ _, Below.refl _ _⟩
  case round =>
    obtain ⟨P, ps, rfl, hP, hps8, hs1, hs2, hheld, hbel⟩ := hrel
    have HS1 := hid_in hs1
    have HS2 := hid_in hs2
    have HH := hid_in hheld
    have hsl := HSL.out.below hbel
    obtain ⟨q, hq, hsl1⟩ := slice_from p b off bs.length cap P hP hcap HP.out
    have hrest := hsl.rest P hP hq
    have hnx := next_any _ _ _ _ _ _ hrest
    rw [List.length_drop] at hnx
    have hown := hheld.own
    clear hs1 hs2 hheld hsl hq hrest
    obtain ⟨R, HR⟩ : ∃ R, Hid (Wire.next (bs.drop P) = R) := ⟨_, rfl⟩
    rw [HR.out] at hnx
    obtain ⟨pl, N, X⟩ := R
    have hpl : ∀ x ∈ pl, x < 256 := by
      intro x hx
      by_cases hX : X = 0
      · have h := Wire.next_ok (b := bs.drop P) (by rw [HR.out]; exact hX)
        rw [HR.out] at h
        simp only at h
        rw [h.2.2.1] at hx
        exact HSL.out.lt x (List.mem_of_mem_drop (List.mem_of_mem_drop (List.mem_of_mem_take hx)))
      · have h := next_err' (bs.drop P) (by rw [HR.out]; exact hX)
        rw [HR.out] at h
        simp only at h
        rw [h.2] at hx
        cases hx
    have k0 : (P : Int) ≤ (bs.length : Int) := by omega
    go_wp2_with fail
    refine hnx.mono ?_
    rintro e w1 ⟨v1, rfl, hown1, hb1⟩
    simp only at hown1 ⊢
    have hbw1 : Below w.heap.size w w1 := hbel.trans (hb1.mono hbel.size)
    have hh1 := HH.out.below hb1
    have HH1 := hid_in hh1
    clear hnx hsl1 hown hbel
    by_cases hX : X = 0
    · subst hX
      have hok := Wire.next_ok (b := bs.drop P) (by rw [HR.out])
      have hsc := Wire.scan_ok (b := bs.drop P) (by rw [HR.out])
      rw [HR.out] at hok hsc
      simp only [List.drop_drop, List.length_drop] at hok hsc
      obtain ⟨x, hx, hxv, hxn, hxb, hxbs⟩ : ∃ x : Part, x.ok w1 ∧ v1 = x.val ∧ (x.p = none → x.bs.length = 0 ∧ x.cap = 0) ∧ (0 < x.bs.length → wr.heap.size ≤ x.b) ∧ x.bs = pl := by
        obtain ⟨p1, c1, b1, rfl, h1, h2, h3⟩ := own_sl2 hpl hown1
        exact ⟨⟨p1, pl, c1, b1, 0⟩, h1, rfl, h2, h3, rfl⟩
      have hxa : 0 < x.bs.length → some x.b ≠ u4.ownBlock := fun h0 e => by
        have h1 := HH.out.own.lt x.b e.symm
        have h2 := hxb h0
        omega
      have hown1' := hh1.own
      have hb25 : w.heap.size ≤ w1.heap.size := hbw1.size
      have hfit : (ps.length + 1) * 24 ≤ 140737488355328 := by omega
      have hmax : ps.length + 1 ≤ 9223372036854775807 := by omega
      have hlm : (ps.map Part.val).length = ps.length := by simp
      obtain ⟨px, bx, cx, bbx, ox⟩ := x
      have hxv' : v1 = .slice px bx.length cx := hxv
      subst hxv'
      have kN : (P : Int) + (N : Int) ≤ 1099511627776 := by omega
      have HX := hid_in hx
      have HXN := hid_in hxn
      have HXA := hid_in hxa
      have HOK := hid_in hok
      have HSC := hid_in hsc
      have HBS := hid_in hxbs
      clear hx hxn hxa hxb hxv hown1 hpl hok hsc hh1 hlm hxbs
      go_wp2_with (at_builtin; refine wpList_append_one_by rfl _ _ 60 rfl w.heap.size 25 i25i (.slice none 0 0) 24 Try.underlying60 HI5.out HE3.out HE1.out HE2.out rfl _ _ _ rfl hown1' 25 _ rfl rfl hmax hfit hb25 ?_; intro v2 w2 hown2 hg2 hm2; have HM2 := hid_in hm2; clear hm2)
      have hok := HOK.out
      have hbw2 : Below w.heap.size w w2 := hg2.below hbw1 hb25 (fun k hk => (hown1'.lt k hk.symm).1)
      have hpush := HH1.out.push (x := ⟨px, bx, cx, bbx, ox⟩) HX.out HXN.out HXA.out hown2 hg2 HM2.out
      have h1 := HS1.out
      have h2 := HS2.out
      rw [HSC.out] at h1 h2
      have hbx : bx = pl := HBS.out
      refine ⟨⟨P + N, ps ++ [⟨px, bx, cx, bbx, ox⟩], by go_num, by omega, by simp; omega, ?_, ?_, hpush, hbw2⟩, by simp [intOf]; omega⟩
      · rw [List.map_append, ← h1]
        simp [hbx]
      · simp only at h2
        omega
    · have kX : ¬ ((X : Int) = 0) := by omega
      have hsc := Wire.scan_bad (b := bs.drop P) (by rw [HR.out]; exact hX)
      have HSC := hid_in hsc
      clear hown1 hpl hh1 hsc
      go_wp2
      go_ret2
      have h1 := HS1.out
      have h2 := HS2.out
      rw [HSC.out] at h1 h2
      simp only [List.append_nil, Nat.add_zero] at h1 h2
      exact ⟨_, ps, by rw [← h2]; rfl, HH1.out, h1, hbw1⟩
end Go.Proofs.Ytjaplfdcdokhfaa
