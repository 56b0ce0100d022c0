/-
  The walk of (*wire.In).Num. The walks of (*wire.In).Int, Err, Left and End. The walk of awake: answers that the document fixes. Names: what the document says of them, and the tests of the program and of the reference (as of layer 4). No byte taken; the walk of (*wire.In).Text.
-/
import Derived.Lib.SlBytesConst
import Derived.Deep.Light
import Derived.Lib.Strings
import Derived.Test.YtjjofjnhhajjjaaC00
import Derived.Test.YtjjofjnhhajjjaaC01
namespace Go.Proofs.Ytjjofjnhhajjjaa.Nd
open Go.RowKit
namespace Wire
/-- a number that is read, its first k bytes passed: what it is, what is left, what is wrong -/
def rnumF : Nat → Nat → Nat → List Nat → Nat × List Nat × Nat
  | 0, _, _, _ => (0, [], 21)
  | _ + 1, _, _, [] => (0, [], 20)
  | f + 1, k, acc, c :: r => if (c = 0 ∧ 0 < k) ∨ (1 < c ∧ k = 9) then (0, [], 21) else if c < 128 then (acc + c * 128 ^ k, r, 0) else rnumF f (k + 1) (acc + c % 128 * 128 ^ k) r
def rnum (bs : List Nat) : Nat × List Nat × Nat := rnumF 10 0 0 bs
end Wire
theorem andNot128 (y : Nat) (h : y < 256) : bits .andNot .u8 (y : Int) 128 = ((y % 128 : Nat) : Int) := by
  have h1 := u8_andNot_nat y 128 h (by decide)
  have h2 : ∀ z : Fin 256, (z.1 &&& (255 - 128)) = z.1 % 128 := by decide +kernel
  rw [h2 ⟨y, h⟩] at h1
  exact h1
theorem or_pow (acc x k : Nat) (ha : acc < 128 ^ k) (hx : x * 128 ^ k < 18446744073709551616) (hacc : acc < 18446744073709551616) : bits .or .u64 (acc : Int) ((x : Int) * 2 ^ (7 * k) % 18446744073709551616) = ((acc + x * 128 ^ k : Nat) : Int) := by
  have e : (128 : Nat) ^ k = 2 ^ (7 * k) := by rw [Nat.pow_mul]
  have e1 : (x : Int) * 2 ^ (7 * k) % 18446744073709551616 = ((x * 128 ^ k : Nat) : Int) := by
    rw [e] at hx ⊢
    have : (x : Int) * 2 ^ (7 * k) = ((x * 2 ^ (7 * k) : Nat) : Int) := by simp
    rw [this]
    omega
  rw [e1, u64_or_nat _ _ hacc hx, Nat.or_comm, nat_join (7 * k) _ _ (by rw [e]; exact Nat.mul_mod_left _ _) (by rw [← e]; exact ha)]
  rw [Nat.add_comm]
theorem or_fin (acc c k : Nat) (ha : acc < 128 ^ k) (hx : c % 128 * 128 ^ k < 18446744073709551616) (hacc : acc < 18446744073709551616) : bits .or .u64 (acc : Int) (IntKind.u64.wrap ((c : Int) % 128 * 2 ^ (7 * k))) = ((acc + c % 128 * 128 ^ k : Nat) : Int) := by
  have h := or_pow acc (c % 128) k ha hx hacc
  rw [show ((c % 128 : Nat) : Int) = (c : Int) % 128 by simp] at h
  rw [IntKind.wrap_u64]
  exact h
theorem or_one (acc k : Nat) (ha : acc < 128 ^ k) (hx : 1 % 128 * 128 ^ k < 18446744073709551616) (hacc : acc < 18446744073709551616) : bits .or .u64 (acc : Int) (IntKind.u64.wrap (IntKind.u64.wrap (bits .andNot .u8 1 128) * 2 ^ (7 * k))) = ((acc + 1 % 128 * 128 ^ k : Nat) : Int) := by
  have h := or_fin acc 1 k ha hx hacc
  have e : IntKind.u64.wrap (bits .andNot .u8 1 128) = ((1 : Nat) : Int) % 128 := by decide
  rw [e]
  exact h
set_option maxHeartbeats 1000000 in
theorem inum_bad {B : Nat} (w : World) (g e : Nat) (bs : List Nat) (he : e ≠ 0) (hi : InIs B w g bs e) :
    Calls Try.prog 79 #[.pointer (some ⟨g, 0, none⟩)] w fun r w' => r = .returned (.int .u64 0) ∧ w' = w := by
  go_enter Try.func79, Try.ntmps79
  go_wp2_with fail
  go_loopw [3, 4] (fun _ _ w' => w' = w) (fun _ _ _ => 0)
  case atStart => rfl
  case round =>
    obtain rfl := hrel
    go_wp2_with fail
    refine (take_bad _ g e 1 bs he hi).mono ?_
    rintro e w1 ⟨rfl, rfl⟩
    clear hi
    go_wp2
    go_ret
    exact ⟨rfl, rfl⟩
set_option maxHeartbeats 2000000 in
set_option maxRecDepth 100000 in
theorem inum_any {B : Nat} (w : World) (g : Nat) (bs : List Nat) (hlt : ∀ x ∈ bs, x < 256) (hi : InIs B w g bs 0) :
    Calls Try.prog 79 #[.pointer (some ⟨g, 0, none⟩)] w fun r w' => r = .returned (.int .u64 ((Wire.rnum bs).1 : Int)) ∧ InIs B w' g (Wire.rnum bs).2.1 (Wire.rnum bs).2.2 ∧ w.grownBy w' (some g) ∧ w'.heap.size = w.heap.size := by
  go_enter Try.func79, Try.ntmps79
  go_wp2_with fail
  go_loopw [3, 4] (fun vn vs w' => ∃ (k acc : Nat) (r : List Nat), k ≤ 9 ∧ vs = .int .i64 ((7 * k : Nat) : Int) ∧ vn = .int .u64 (acc : Int) ∧ acc < 128 ^ k ∧ (∀ x ∈ r, x < 256) ∧ InIs B w' g r 0 ∧ Wire.rnumF (10 - k) k acc r = Wire.rnum bs ∧ w.grownBy w' (some g) ∧ w'.heap.size = w.heap.size) (fun _ vs _ => 64 - (intOf vs).toNat)
  case atStart => exact ⟨0, 0, bs, by omega, rfl, rfl, by simp, hlt, hi, rfl, grownBy_refl _ _, rfl⟩
  case round =>
    clear hi hlt
    obtain ⟨k, acc, r, hk, rfl, rfl, hacc, hlt, hi, hr, hg, hs⟩ := hrel
    have HR := hid_in hr
    have HG := hid_in hg
    have HS := hid_in hs
    have HI := hid_in hi
    clear hr hg hs hi
    have h128 : 128 ^ k ≤ 9223372036854775808 := by
      have : (128 : Nat) ^ k ≤ 128 ^ 9 := Nat.pow_le_pow_right (by decide) hk
      simpa using this
    rcases r with _ | ⟨c, r⟩
    · have hrn : Hid (Wire.rnum bs = (0, [], 20)) := by
        show _ = _
        rw [← HR.out, show 10 - k = (9 - k) + 1 by omega]; rfl
      go_wp2_with fail
      refine (take_short _ g 1 [] (by simp) HI.out).mono ?_
      rintro e w1 ⟨rfl, h1, h2, h3⟩
      have H1 := hid_in h1
      have H3 := hid_in h3
      clear h1 h3
      go_wp2
      go_ret
      rw [hrn.out]
      exact ⟨rfl, H1.out, grownBy_trans HG.out h2, H3.out.trans HS.out⟩
    · have hc := hlt c (by simp)
      have hlt' : ∀ x ∈ r, x < 256 := fun x hx => hlt x (by simp [hx])
      clear hlt
      go_wp2_with fail
      refine (take_some _ g 1 (c :: r) (by omega) (by simp) HI.out).mono ?_
      rintro e w1 ⟨b, off, cap, rfl, hsl, h1, h2, h3⟩
      have c0 : w1.cell? ⟨b, off, none⟩ = some (.int .u8 (c : Int)) := hsl.src 0 (by simp)
      have H1 : Hid (InIs B w1 g r 0) := h1
      have HG1 := hid_in (grownBy_trans HG.out h2)
      have HS1 := hid_in (h3.trans HS.out)
      have HF1 := hid_in (h1.ex)
      clear h1 h2 h3 hsl HG HS HI
      have hAN := andNot128 c hc
      by_cases hbad : (c = 0 ∧ 0 < k) ∨ (1 < c ∧ k = 9)
      · have hrn : Hid (Wire.rnum bs = (0, [], 21)) := by
          show _ = _
          rw [← HR.out, show 10 - k = (9 - k) + 1 by omega]
          simp only [Wire.rnumF]
          rw [if_pos hbad]
        obtain ⟨p2, cap2, b2, off2, hrow, _, _, _⟩ := HF1.out
        have hff := fail_any (B := B) w1 g 21 _ _ hrow
        have HFF := hid_in hff
        clear hrow hff hAN
        rcases hbad with ⟨rfl, hk0⟩ | ⟨hc1, rfl⟩
        · have k1 : (0 : Int) < (k : Int) := by omega
          go_wp2_with fail
          refine HFF.out.mono ?_
          rintro e w2 ⟨rfl, h1, h2, h3⟩
          have H2 := hid_in h1
          have H3 := hid_in h3
          clear h1 h3
          go_wp2
          go_ret
          rw [hrn.out]
          exact ⟨rfl, H2.out, grownBy_trans HG1.out h2, H3.out.trans HS1.out⟩
        · have k1 : (1 : Int) < (c : Int) := by omega
          have k2 : ¬ ((c : Int) = 0) := by omega
          go_wp2_with fail
          refine HFF.out.mono ?_
          rintro e w2 ⟨rfl, h1, h2, h3⟩
          have H2 := hid_in h1
          have H3 := hid_in h3
          clear h1 h3
          go_wp2
          go_ret
          rw [hrn.out]
          exact ⟨rfl, H2.out, grownBy_trans HG1.out h2, H3.out.trans HS1.out⟩
      · have hx : c % 128 * 128 ^ k < 18446744073709551616 := by
          rcases Nat.lt_or_eq_of_le hk with h | h
          · have h8 : (128 : Nat) ^ k ≤ 128 ^ 8 := Nat.pow_le_pow_right (by decide) (by omega)
            have : c % 128 * 128 ^ k ≤ 127 * 128 ^ 8 := Nat.mul_le_mul (by omega) h8
            have e8 : (128 : Nat) ^ 8 = 72057594037927936 := by decide
            omega
          · have hc1 : c % 128 ≤ 1 := by omega
            have : c % 128 * 128 ^ k ≤ 1 * 9223372036854775808 := Nat.mul_le_mul hc1 h128
            omega
        have hc0 : c = 0 ∧ k = 0 ∨ c = 1 ∨ 1 < c ∧ k < 9 := by omega
        have k7 : (7 * k : Nat) ≤ 63 := by omega
        by_cases h128c : c < 128
        · have hrn : Hid (Wire.rnum bs = (acc + c % 128 * 128 ^ k, r, 0)) := by
            show _ = _
            rw [← HR.out, show 10 - k = (9 - k) + 1 by omega]
            simp only [Wire.rnumF]
            rw [if_neg hbad, if_pos h128c, show c % 128 = c by omega]
          have k5 : (c : Int) < 128 := by omega
          have HX := hid_in hx
          have HACC := hid_in hacc
          clear hbad hx hacc
          rcases hc0 with ⟨rfl, rfl⟩ | rfl | ⟨hc1, hk9⟩
          · go_wp2
            go_ret
            rw [hrn.out]
            have h0 := HACC.out
            obtain rfl : acc = 0 := by simpa using h0
            have e0 : bits .or .u64 ((0 : Nat) : Int) (IntKind.u64.wrap (IntKind.u64.wrap (bits .andNot .u8 0 128))) = ((0 + 0 % 128 * 128 ^ 0 : Nat) : Int) := by decide
            rw [e0]
            exact ⟨rfl, H1.out, HG1.out, HS1.out⟩
          · go_wp2
            go_ret
            rw [hrn.out, or_one acc k HACC.out HX.out (by have := HACC.out; omega)]
            exact ⟨rfl, H1.out, HG1.out, HS1.out⟩
          · have k1 : (1 : Int) < (c : Int) := by omega
            have k2 : ¬ ((c : Int) = 0) := by omega
            have k3 : (7 * k : Nat) < 63 := by omega
            go_wp2
            go_ret
            rw [hrn.out, or_fin acc c k HACC.out HX.out (by have := HACC.out; omega)]
            exact ⟨rfl, H1.out, HG1.out, HS1.out⟩
        · have k1 : (1 : Int) < (c : Int) := by omega
          have k2 : ¬ ((c : Int) = 0) := by omega
          have k3 : (7 * k : Nat) < 63 := by omega
          have k5 : (128 : Int) ≤ (c : Int) := by omega
          have hrn : Hid (Wire.rnumF (10 - (k + 1)) (k + 1) (acc + c % 128 * 128 ^ k) r = Wire.rnum bs) := by
            show _ = _
            rw [← HR.out, show 10 - k = (10 - (k + 1)) + 1 by omega]
            simp only [Wire.rnumF]
            rw [if_neg hbad, if_neg h128c]
          have HX := hid_in hx
          have HACC := hid_in hacc
          clear hbad hx hacc
          go_wp2
          rw [or_fin acc c k HACC.out HX.out (by have := HACC.out; omega)]
          refine ⟨⟨k + 1, acc + c % 128 * 128 ^ k, r, by omega, by go_num, rfl, ?_, hlt', H1.out, hrn.out, HG1.out, HS1.out⟩, by simp [intOf]; omega⟩
          have ha := HACC.out
          have : c % 128 * 128 ^ k ≤ 127 * 128 ^ k := Nat.mul_le_mul_right _ (by omega)
          rw [Nat.pow_succ]
          omega
end Go.Proofs.Ytjjofjnhhajjjaa.Nd
namespace Go.Proofs.Ytjjofjnhhajjjaa.Nd
open Go.RowKit
namespace Wire
end Wire
theorem rnumF_lt : ∀ (f k acc : Nat) (bs : List Nat), k ≤ 9 → acc < 128 ^ k → (Wire.rnumF f k acc bs).1 < 18446744073709551616
  | 0, _, _, _, _, _ => by simp [Wire.rnumF]
  | _ + 1, _, _, [], _, _ => by simp [Wire.rnumF]
  | f + 1, k, acc, c :: r, hk, ha => by
    simp only [Wire.rnumF]
    split
    · simp
    · rename_i hbad
      have h128 : (128 : Nat) ^ k ≤ 9223372036854775808 := by
        have : (128 : Nat) ^ k ≤ 128 ^ 9 := Nat.pow_le_pow_right (by decide) hk
        simpa using this
      split
      · rename_i hc
        simp only
        rcases Nat.lt_or_eq_of_le hk with h | h
        · have h8 : (128 : Nat) ^ k ≤ 128 ^ 8 := Nat.pow_le_pow_right (by decide) (by omega)
          have e8 : (128 : Nat) ^ 8 = 72057594037927936 := by decide
          have : c * 128 ^ k ≤ 127 * 128 ^ 8 := Nat.mul_le_mul (by omega) h8
          omega
        · have : c * 128 ^ k ≤ 1 * 9223372036854775808 := Nat.mul_le_mul (by omega) h128
          omega
      · rename_i hc
        rcases Nat.lt_or_eq_of_le hk with h | h
        · refine rnumF_lt f (k + 1) _ r (by omega) ?_
          have : c % 128 * 128 ^ k ≤ 127 * 128 ^ k := Nat.mul_le_mul_right _ (by omega)
          rw [Nat.pow_succ]
          omega
        · omega
theorem rnum_lt (bs : List Nat) : (Wire.rnum bs).1 < 18446744073709551616 := rnumF_lt 10 0 0 bs (by omega) (by simp)
theorem iend_any {B : Nat} (w : World) (g e : Nat) (bs : List Nat) (hi : InIs B w g bs e) : Calls Try.prog 66 #[.pointer (some ⟨g, 0, none⟩)] w fun r w' => r = .returned (.bool (decide (e = 0 ∧ bs.length = 0))) ∧ w' = w := by
  obtain ⟨p, cap, b, off, hr, hsl, hno, hne⟩ := hi.ex
  have c0 : w.cell? ⟨g, 0, none⟩ = some (.slice p bs.length cap) := hr.cell 0
  have c1 : w.cell? ⟨g, 1, none⟩ = some (.int .i64 (e : Int)) := hr.cell 1
  clear hi hr hsl hno hne
  obtain ⟨bo, HB⟩ : ∃ bo, Hid (decide (e = 0 ∧ bs.length = 0) = bo) := ⟨_, rfl⟩
  rw [HB.out]
  by_cases h0 : e = 0
  · subst h0
    by_cases h1 : bs.length = 0
    · rw [h1] at c0
      have HD : Hid (bo = true) := by show _ = _; rw [← HB.out]; simp [h1]
      clear h1
      go_enter Try.func66, Try.ntmps66
      go_wp2
      go_ret
      rw [HD.out]
      exact ⟨rfl, rfl⟩
    · have k2 : ((bs.length : Int) == 0) = false := by rw [beq_eq_false_iff_ne]; omega
      have HD : Hid (bo = false) := by show _ = _; rw [← HB.out]; simp [h1]
      clear h1
      go_enter Try.func66, Try.ntmps66
      go_wp2
      go_ret
      rw [HD.out]
      exact ⟨rfl, rfl⟩
  · have k1 : ((e : Int) == 0) = false := by rw [beq_eq_false_iff_ne]; omega
    have HD : Hid (bo = false) := by show _ = _; rw [← HB.out]; simp [h0]
    go_enter Try.func66, Try.ntmps66
    go_wp2
    go_ret
    rw [HD.out]
    exact ⟨rfl, rfl⟩
end Go.Proofs.Ytjjofjnhhajjjaa.Nd
namespace Go.Proofs.Ytjjofjnhhajjjaa.Nd
open Go.RowKit
theorem OutIs.below {w w' : World} {B g : Nat} {v : Value} {xs : List Nat} (h : OutIs w B g v xs) (hb : Below w.heap.size w w') : OutIs w' B g v xs :=
  ⟨h.row.below hb h.row.lt, own_below h.own hb, h.apart, Nat.le_trans h.base hb.size, h.lt⟩
theorem InIs.below {B : Nat} {w w' : World} {g e : Nat} {bs : List Nat} (h : InIs B w g bs e) (hb : Below w.heap.size w w') : InIs B w' g bs e := by
  obtain ⟨p, cap, b, off, hr, hsl, hno, hne⟩ := h.ex
  exact ⟨p, cap, b, off, hr.below hb hr.lt, hsl.below hb, hno, hne⟩
theorem outS_ge {w : World} {B g : Nat} {v : Value} {xs : List Nat} (h : OutIs w B g v xs) (hg : B ≤ g) : ∀ k, OutS g v k → B ≤ k := by
  rintro k (rfl | hk)
  · exact hg
  · exact (h.own.lt k hk.symm).1
theorem out_new (w : World) : OutIs (w.alloc (.cells #[.slice none 0 0] 112)) w.heap.size w.heap.size (.slice none 0 0) [] :=
  ⟨Row.newAt w _ [.slice none 0 0] 112 rfl, World.ownsRow_nil _ _ _ _, by simp [Value.ownBlock], by simp, fun _ h => by cases h⟩
end Go.Proofs.Ytjjofjnhhajjjaa.Nd
namespace Go.Proofs.Ytjjofjnhhajjjaa.Nd
open Go.RowKit
/-- a text's bytes -/
abbrev Str := List UInt8
def bl (s : ByteArray) : Str := s.data.toList
theorem bl_length (s : ByteArray) : (bl s).length = s.size := by simp only [bl, Array.length_toList]; rfl
/-- may a byte stand in a name? -/
def plainN (n : Nat) : Prop := (97 ≤ n ∧ n ≤ 122) ∨ (65 ≤ n ∧ n ≤ 90) ∨ (48 ≤ n ∧ n ≤ 57) ∨ n = 46 ∨ n = 95 ∨ n = 45
instance (n : Nat) : Decidable (plainN n) := by unfold plainN; infer_instance
/-- may a byte stand in a name? -/
def plain (c : UInt8) : Bool := decide (plainN c.toNat)
def isNameS (x : Str) : Bool := !(x == []) && !(x == [46]) && !(x == [46, 46]) && decide (x.length ≤ 16) && x.all plain
end Go.Proofs.Ytjjofjnhhajjjaa.Nd
namespace Go.Proofs.Ytjjofjnhhajjjaa.Nd
open Go.RowKit
theorem slice_to0 (p : Option Addr) (L C : Nat) (w : World) : (Instr.slice 54 (.slice p L C) none (some (.int .i64 0)) none).run Try.prog w = .ok (.slice p 0 C) w := by
  have ht : Try.prog.underlying 54 = some (.slice (Try.prog.elem 54)) := by kernel_rfl
  have he : Try.prog.elem 54 = 5 := by kernel_rfl
  have hsz : (sizeOf 5).run Try.prog w = .ok 1 w := by kernel_rfl
  rw [run_slice_h w 54 p L C ht .i64 0 (by omega) (by omega), he, hsz]
  rcases p with _ | ⟨b, o, s⟩ <;> simp [sliced, Addr.add]
theorem slice_from0 (p : Option Addr) (L C : Nat) (w : World) : (Instr.slice 54 (.slice p L C) (some (.int .i64 0)) none none).run Try.prog w = .ok (.slice p L C) w := by
  have ht : Try.prog.underlying 54 = some (.slice (Try.prog.elem 54)) := by kernel_rfl
  have he : Try.prog.elem 54 = 5 := by kernel_rfl
  have hsz : (sizeOf 5).run Try.prog w = .ok 1 w := by kernel_rfl
  rw [run_slice_l w 54 p L C ht .i64 0 (by omega) (by omega), he, hsz]
  rcases p with _ | ⟨b, o, s⟩ <;> simp [sliced, Addr.add]
set_option maxHeartbeats 400000 in
/-- none of the bytes -/
theorem take_zero {B : Nat} (w : World) (g : Nat) (bs : List Nat) (hi : InIs B w g bs 0) :
    Calls Try.prog 84 #[.pointer (some ⟨g, 0, none⟩), .int .i64 0] w fun r w' => ∃ p cap, r = .returned (.tuple #[.slice p 0 cap, .bool true]) ∧ InIs B w' g bs 0 ∧ w.grownBy w' (some g) ∧ w'.heap.size = w.heap.size := by
  obtain ⟨p, cap, b, off, hr, hsl, hno, hne⟩ := hi.ex
  have c0 : w.cell? ⟨g, 0, none⟩ = some (.slice p bs.length cap) := hr.cell 0
  have c1 : w.cell? ⟨g, 1, none⟩ = some (.int .i64 0) := hr.cell 1
  have f0 := hr.frozen 0
  have HR := hid_in hr
  have HSL := hid_in hsl
  have HNO := hid_in hno
  have HNE := hid_in hne
  have k1 : (0 : Int) ≤ (bs.length : Int) := by omega
  have hs1 := slice_to0 p bs.length cap
  have hs2 := slice_from0 p bs.length cap
  clear hi hr hsl hno hne
  go_enter Try.func84, Try.ntmps84
  go_wp2
  go_ret2
  have hg := grownBy_setCell w ⟨g, 0, none⟩ (.slice p bs.length cap)
  refine ⟨p, cap, rfl, ⟨p, cap, b, off, HR.out.set_same 0 _, HSL.out.grown hg (fun h => by simpa using (HNE.out h).1), HNO.out, HNE.out⟩, hg, by simp [World.setCell]⟩
end Go.Proofs.Ytjjofjnhhajjjaa.Nd
