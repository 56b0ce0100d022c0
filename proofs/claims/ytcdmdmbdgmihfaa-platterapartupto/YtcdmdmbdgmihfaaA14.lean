/-
  The walk of PlatterFlips.
-/
import Derived.Test.YtcdmdmbdgmihfaaA00
import Derived.Test.YtcdmdmbdgmihfaaA01
import Derived.Test.YtcdmdmbdgmihfaaA02
import Derived.Test.YtcdmdmbdgmihfaaA03
import Derived.Test.YtcdmdmbdgmihfaaA04
import Derived.Test.YtcdmdmbdgmihfaaA05
import Derived.Test.YtcdmdmbdgmihfaaA06
import Derived.Test.YtcdmdmbdgmihfaaA07
import Derived.Test.YtcdmdmbdgmihfaaA08
import Derived.Test.YtcdmdmbdgmihfaaA09
import Derived.Test.YtcdmdmbdgmihfaaA10
import Derived.Test.YtcdmdmbdgmihfaaA11
namespace Go.Proofs.Ytcdmdmbdgmihfaa.Pt
open Go.RowKit
open Nd (Row wp_world grownBy_setCell below_of_grown grownBy_trans grown_of_below grownBy_refl u8v Grew Moved Sl hid_in i5h str)
/-- numbers that came in -/
def Kin (a : World) (v : Value) (ks : List Int) : Prop := ∃ p cap b o, v = .slice p ks.length cap ∧ ks.length ≤ 9223372036854775807 ∧ (ks ≠ [] → p = some ⟨b, o, none⟩ ∧ b < a.heap.size) ∧ ∀ (i : Nat) k, ks[i]? = some k → a.cell? ⟨b, o + i, none⟩ = some (.int .i64 k)
theorem Kin.kp {a w : World} {v : Value} {ks : List Int} (h : Kin a v ks) (hb : Below a.heap.size a w) (S : Nat → Prop) (hS : ∀ k, S k → a.heap.size ≤ k) : Kp w S v ks :=
  Cl1.ok.kp (c := ⟨0, 0, .slice none 0 0, 0, v, [], ks⟩) ⟨⟨none, 0, 0, 0, rfl, ⟨by simp, by simp, by simp, by simp, by simp⟩, fun _ => ⟨rfl, rfl⟩⟩, h, by simp⟩ hb S hS
theorem cut_qi {a w : World} {g : Nat} {d : Dk} (h : Pq a w g d) {v : Value} {ks : List Int} (hk : Kin a v ks) : Calls Try.prog 19 #[.pointer (some ⟨g, 0, none⟩), v] w fun e w' => e = .returned (.tuple #[]) ∧ Pq a w' g (cutD ks d) := by
  obtain ⟨h1, v0, v1, h2⟩ := h
  exact (cut_any h2 v ks (hk.kp h1 _ (fun k hk => (h2.fs_lt k hk).1))).mono fun e w' k => ⟨k.1, Pq.stp h1 h2 k.2⟩
theorem cutAr_all (k : Int) (xs : List Nat) : cutAr k ⟨xs, xs.length⟩ = ⟨xs, xs.length⟩ := by
  have e : cutN k ⟨xs, xs.length⟩ = xs.length := by unfold cutN; simp
  unfold cutAr
  rw [e]
  simp
theorem cutAr_nil (k : Int) : cutAr k ⟨[], 0⟩ = ⟨[], 0⟩ := cutAr_all k []
set_option maxHeartbeats 2000000 in
set_option maxRecDepth 100000 in
theorem flips_1 (a : World) (calls : Int) (hK : (IntKind.u64.wrap calls).tmod 6 = 0) (p0 p1 : Option Addr) (xs ys : List Nat) (c0 b0 o0 c1 b1 o1 : Nat) (v : Value) (ks : List Int)
    (h0 : Sl a p0 xs c0 b0 o0) (n0 : p0 = none → xs.length = 0 ∧ c0 = 0) (h1 : Sl a p1 ys c1 b1 o1) (n1 : p1 = none → ys.length = 0 ∧ c1 = 0) (hk : Kin a v ks) (hl : xs.length + ys.length ≤ 20000) :
    Calls Try.prog 5 #[.slice p0 xs.length c0, .slice p1 ys.length c1, .int .i64 calls, v] a fun e w' => e = .returned (.bool true) ∧ Below a.heap.size a w' := by
  have HAW := hid_in (awake_any a)
  have HN := hid_in (fun (w : World) (h : Below a.heap.size a w) => new_q h)
  have HA1 : Hid (∀ (W : World) g, Pq a W g newD → Calls Try.prog 17 #[.pointer (some ⟨g, 0, none⟩), .int .i64 0, .slice p0 xs.length c0] W fun e w' => e = .returned (.int .i64 0) ∧ Pq a w' g ⟨⟨xs, 0⟩, ⟨[], 0⟩, false, false, 0⟩) := hid_in (fun W g h => append_q h 0 p0 xs c0 b0 o0 (h0.below h.1) n0 (by simp [arOf, newD]; omega))
  have HA2 : Hid (∀ (W : World) g, Pq a W g ⟨⟨xs, 0⟩, ⟨[], 0⟩, false, false, 0⟩ → Calls Try.prog 18 #[.pointer (some ⟨g, 0, none⟩), .int .i64 0] W fun e w' => e = .returned (.int .i64 0) ∧ Pq a w' g ⟨⟨xs, xs.length⟩, ⟨[], 0⟩, false, false, 0⟩) := hid_in (fun W g h => sync_q h 0)
  have HA3 : Hid (∀ (W : World) g, Pq a W g ⟨⟨xs, xs.length⟩, ⟨[], 0⟩, false, false, 0⟩ → Calls Try.prog 15 #[.pointer (some ⟨g, 0, none⟩), .int .i64 1] W fun e w' => e = .returned (.tuple #[]) ∧ Pq a w' g ⟨⟨xs, xs.length⟩, ⟨[], 0⟩, false, false, 1⟩) := hid_in (fun W g h => arm_q h 1 (by decide))
  have HA4 : Hid (∀ (W : World) g, Pq a W g ⟨⟨xs, xs.length⟩, ⟨[], 0⟩, false, false, 1⟩ → Calls Try.prog 17 #[.pointer (some ⟨g, 0, none⟩), .int .i64 1, .slice p1 ys.length c1] W fun e w' => e = .returned (.int .i64 170) ∧ Pq a w' g ⟨⟨xs, xs.length⟩, ⟨ys, 0⟩, false, true, 0⟩) := hid_in (fun W g h => append_q h 1 p1 ys c1 b1 o1 (h1.below h.1) n1 (by simp [arOf]; omega))
  have HA5 : Hid (∀ (W : World) g, Pq a W g ⟨⟨xs, xs.length⟩, ⟨ys, 0⟩, false, true, 0⟩ → Calls Try.prog 18 #[.pointer (some ⟨g, 0, none⟩), .int .i64 1] W fun e w' => e = .returned (.int .i64 170) ∧ Pq a w' g ⟨⟨xs, xs.length⟩, ⟨ys, 0⟩, false, true, 0⟩) := hid_in (fun W g h => sync_q h 1)
  have r5 : refE 3 (oth ⟨⟨xs, xs.length⟩, ⟨ys, 0⟩, false, true, 0⟩) ⟨⟨xs, xs.length⟩, ⟨ys, 0⟩, false, true, 0⟩ = 170 := by simp [refE, oth, liv, isA]
  have f6 : begE 3 (oth ⟨⟨xs, xs.length⟩, ⟨ys, 0⟩, false, true, 0⟩) ⟨⟨xs, xs.length⟩, ⟨ys, 0⟩, false, true, 0⟩ = 170 := by unfold begE; rw [r5]; rfl
  have g6 : fliD ⟨⟨xs, xs.length⟩, ⟨ys, 0⟩, false, true, 0⟩ = ⟨⟨xs, xs.length⟩, ⟨ys, 0⟩, false, true, 0⟩ := by unfold fliD; rw [f6]; unfold begD; rw [r5]; rfl
  have HA6 : Hid (∀ (W : World) g, Pq a W g ⟨⟨xs, xs.length⟩, ⟨ys, 0⟩, false, true, 0⟩ → Calls Try.prog 21 #[.pointer (some ⟨g, 0, none⟩)] W fun e w' => e = .returned (.int .i64 170) ∧ Pq a w' g ⟨⟨xs, xs.length⟩, ⟨ys, 0⟩, false, true, 0⟩) := hid_in (fun W g h => by
    have k := flip_q h
    rw [f6, g6] at k
    exact k)
  have HA7 : Hid (∀ (W : World) g, Pq a W g ⟨⟨xs, xs.length⟩, ⟨ys, 0⟩, false, true, 0⟩ → Calls Try.prog 22 #[.pointer (some ⟨g, 0, none⟩), .int .i64 0] W fun e w' => e = .returned (.int .i64 170) ∧ Pq a w' g ⟨⟨xs, xs.length⟩, ⟨ys, 0⟩, false, true, 0⟩) := hid_in (fun W g h => wipe_q h 0)
  have HA8 : Hid (∀ (W : World) g, Pq a W g ⟨⟨xs, xs.length⟩, ⟨ys, 0⟩, false, true, 0⟩ → Calls Try.prog 16 #[.pointer (some ⟨g, 0, none⟩)] W fun e w' => e = .returned (.bool true) ∧ w' = W) := hid_in (fun W g h => down_q h)
  have g9 : ∃ A : Ar, cutD ks ⟨⟨xs, xs.length⟩, ⟨ys, 0⟩, false, true, 0⟩ = ⟨⟨xs, xs.length⟩, A, false, false, 0⟩ := by
    refine ⟨cutAr (ks.getD 1 0) ⟨ys, 0⟩, ?_⟩
    unfold cutD
    simp only [cutAr_all]
  obtain ⟨A, hA⟩ := g9
  have HA9 : Hid (∀ (W : World) g, Pq a W g ⟨⟨xs, xs.length⟩, ⟨ys, 0⟩, false, true, 0⟩ → Calls Try.prog 19 #[.pointer (some ⟨g, 0, none⟩), v] W fun e w' => e = .returned (.tuple #[]) ∧ Pq a w' g ⟨⟨xs, xs.length⟩, A, false, false, 0⟩) := hid_in (fun W g h => by
    have k := cut_qi h hk
    rw [hA] at k
    exact k)
  have HA10 : Hid (∀ (W : World) g, Pq a W g ⟨⟨xs, xs.length⟩, A, false, false, 0⟩ → Calls Try.prog 20 #[.pointer (some ⟨g, 0, none⟩)] W fun e w' => e = .returned (.int .i64 0) ∧ w' = W) := hid_in (fun W g h => live_q h)
  have HA11 : Hid (∀ (W : World) g, Pq a W g ⟨⟨xs, xs.length⟩, A, false, false, 0⟩ → Calls Try.prog 13 #[.pointer (some ⟨g, 0, none⟩), .int .i64 0] W fun e w' => (∃ p c, e = .returned (.slice p xs.length c) ∧ ∀ W', Below w'.heap.size w' W' → (convert 34 9 (.slice p xs.length c)).run Try.prog W' = .ok (.string (str xs)) W') ∧ Pq a w' g ⟨⟨xs, xs.length⟩, A, false, false, 0⟩) := hid_in (fun W g h => read_q h 0)
  have HCV : Hid (∀ W : World, Below a.heap.size a W → (convert 34 9 (.slice p0 xs.length c0)).run Try.prog W = .ok (.string (str xs)) W) := hid_in (fun W h => Nd.conv_sl (h0.below h))
  have hlt : ¬ (20000 : Int) < (xs.length : Int) + (ys.length : Int) := by omega
  have hlx : (xs.length : Int) + (ys.length : Int) ≤ 20000 := by omega
  have hp0 : 0 ≤ (xs.length : Int) + (ys.length : Int) := by omega
  have z1 : wrap64 ((xs.length : Int) + (ys.length : Int)) = (xs.length : Int) + (ys.length : Int) := by unfold wrap64; omega
  have z2 : IntKind.i64.wrap ((xs.length : Int) + (ys.length : Int)) = (xs.length : Int) + (ys.length : Int) := by rw [IntKind.wrap_i64]; omega
  generalize (⟨⟨xs, 0⟩, ⟨[], 0⟩, false, false, 0⟩ : Dk) = E1 at *
  generalize (⟨⟨xs, xs.length⟩, ⟨[], 0⟩, false, false, 0⟩ : Dk) = E2 at *
  generalize (⟨⟨xs, xs.length⟩, ⟨[], 0⟩, false, false, 1⟩ : Dk) = E3 at *
  generalize (⟨⟨xs, xs.length⟩, A, false, false, 0⟩ : Dk) = E8 at *
  generalize (⟨⟨xs, xs.length⟩, ⟨ys, 0⟩, false, true, 0⟩ : Dk) = E4 at *
  generalize newD = E0 at *
  generalize str xs = Z at *
  generalize xs.length = lx at *
  generalize ys.length = ly at *
  clear r5 f6 g6 hA h0 h1 n0 n1 hk hl
  go_enter Try.func5, Try.ntmps5
  go_upto_region 3 with (first | (go_at_call 7; refine HAW.out.mono ?_; rintro e w0 ⟨rfl, hb0⟩; have HB0 := hid_in hb0; clear hb0))
  go_upto_region 8 with (first | (go_at_call 9; refine (HN.out _ HB0.out).mono ?_; rintro e w1 ⟨g, rfl, q1⟩; have Q1 := hid_in q1; clear q1))
  go_upto_region 9 with (first | (go_at_call 17; refine (HA1.out _ _ Q1.out).mono ?_; rintro e w2 ⟨rfl, q2⟩; have Q2 := hid_in q2; clear q2))
  go_upto_region 11 with (first | (go_at_call 18; refine (HA2.out _ _ Q2.out).mono ?_; rintro e w3 ⟨rfl, q3⟩; have Q3 := hid_in q3; clear q3))
  go_upto_region 12 with (first | (go_at_call 15; refine (HA3.out _ _ Q3.out).mono ?_; rintro e w4 ⟨rfl, q4⟩; have Q4 := hid_in q4; clear q4))
  go_upto_region 13 with (first | (go_at_call 17; refine (HA4.out _ _ Q4.out).mono ?_; rintro e w5 ⟨rfl, q5⟩; have Q5 := hid_in q5; clear q5))
  go_upto_region 14 with (first | (go_at_call 18; refine (HA5.out _ _ Q5.out).mono ?_; rintro e w6 ⟨rfl, q6⟩; have Q6 := hid_in q6; clear q6))
  go_upto_region 15 with (first | (go_at_call 21; refine (HA6.out _ _ Q6.out).mono ?_; rintro e w7 ⟨rfl, q7⟩; have Q7 := hid_in q7; clear q7))
  go_upto_region 16 with (first | (go_at_call 22; refine (HA7.out _ _ Q7.out).mono ?_; rintro e w8 ⟨rfl, q8⟩; have Q8 := hid_in q8; clear q8))
  go_upto_region 17 with (first | (go_at_call 16; refine (HA8.out _ _ Q8.out).mono ?_; rintro e w9 ⟨rfl, rfl⟩))
  go_upto_region 18 with (first | (go_at_call 19; refine (HA9.out _ _ Q8.out).mono ?_; rintro e w10 ⟨rfl, q10⟩; have Q10 := hid_in q10; clear q10))
  go_upto_region 19 with (first | (go_at_call 20; refine (HA10.out _ _ Q10.out).mono ?_; rintro e w11 ⟨rfl, rfl⟩) | (go_at_call 13; refine (HA11.out _ _ Q10.out).mono ?_; rintro e w12 ⟨⟨p12, c12, rfl, hcv⟩, q12⟩; have Q12 := hid_in q12; have hc12 := hcv w12 (Below.refl _ _); clear q12 hcv))
  have hcz := HCV.out _ Q12.out.1
  go_wp2_with (first | (go_at_call 20; refine (HA10.out _ _ Q12.out).mono ?_; rintro e w13 ⟨rfl, rfl⟩))
  go_ret
  exact ⟨rfl, Q12.out.1⟩
set_option maxHeartbeats 2000000 in
set_option maxRecDepth 100000 in
theorem flips_2 (a : World) (calls : Int) (hK : (IntKind.u64.wrap calls).tmod 6 = 1) (p0 p1 : Option Addr) (xs ys : List Nat) (c0 b0 o0 c1 b1 o1 : Nat) (v : Value) (ks : List Int)
    (h0 : Sl a p0 xs c0 b0 o0) (n0 : p0 = none → xs.length = 0 ∧ c0 = 0) (h1 : Sl a p1 ys c1 b1 o1) (n1 : p1 = none → ys.length = 0 ∧ c1 = 0) (hk : Kin a v ks) (hl : xs.length + ys.length ≤ 20000) :
    Calls Try.prog 5 #[.slice p0 xs.length c0, .slice p1 ys.length c1, .int .i64 calls, v] a fun e w' => e = .returned (.bool true) ∧ Below a.heap.size a w' := by
  have HAW := hid_in (awake_any a)
  have HN := hid_in (fun (w : World) (h : Below a.heap.size a w) => new_q h)
  have HA1 : Hid (∀ (W : World) g, Pq a W g newD → Calls Try.prog 17 #[.pointer (some ⟨g, 0, none⟩), .int .i64 0, .slice p0 xs.length c0] W fun e w' => e = .returned (.int .i64 0) ∧ Pq a w' g ⟨⟨xs, 0⟩, ⟨[], 0⟩, false, false, 0⟩) := hid_in (fun W g h => append_q h 0 p0 xs c0 b0 o0 (h0.below h.1) n0 (by simp [arOf, newD]; omega))
  have HA2 : Hid (∀ (W : World) g, Pq a W g ⟨⟨xs, 0⟩, ⟨[], 0⟩, false, false, 0⟩ → Calls Try.prog 18 #[.pointer (some ⟨g, 0, none⟩), .int .i64 0] W fun e w' => e = .returned (.int .i64 0) ∧ Pq a w' g ⟨⟨xs, xs.length⟩, ⟨[], 0⟩, false, false, 0⟩) := hid_in (fun W g h => sync_q h 0)
  have HA3 : Hid (∀ (W : World) g, Pq a W g ⟨⟨xs, xs.length⟩, ⟨[], 0⟩, false, false, 0⟩ → Calls Try.prog 15 #[.pointer (some ⟨g, 0, none⟩), .int .i64 2] W fun e w' => e = .returned (.tuple #[]) ∧ Pq a w' g ⟨⟨xs, xs.length⟩, ⟨[], 0⟩, false, false, 2⟩) := hid_in (fun W g h => arm_q h 2 (by decide))
  have HA4 : Hid (∀ (W : World) g, Pq a W g ⟨⟨xs, xs.length⟩, ⟨[], 0⟩, false, false, 2⟩ → Calls Try.prog 17 #[.pointer (some ⟨g, 0, none⟩), .int .i64 1, .slice p1 ys.length c1] W fun e w' => e = .returned (.int .i64 0) ∧ Pq a w' g ⟨⟨xs, xs.length⟩, ⟨ys, 0⟩, false, false, 1⟩) := hid_in (fun W g h => append_q h 1 p1 ys c1 b1 o1 (h1.below h.1) n1 (by simp [arOf]; omega))
  have HA5 : Hid (∀ (W : World) g, Pq a W g ⟨⟨xs, xs.length⟩, ⟨ys, 0⟩, false, false, 1⟩ → Calls Try.prog 18 #[.pointer (some ⟨g, 0, none⟩), .int .i64 1] W fun e w' => e = .returned (.int .i64 170) ∧ Pq a w' g ⟨⟨xs, xs.length⟩, ⟨ys, 0⟩, false, true, 0⟩) := hid_in (fun W g h => sync_q h 1)
  have r5 : refE 3 (oth ⟨⟨xs, xs.length⟩, ⟨ys, 0⟩, false, true, 0⟩) ⟨⟨xs, xs.length⟩, ⟨ys, 0⟩, false, true, 0⟩ = 170 := by simp [refE, oth, liv, isA]
  have f6 : begE 3 (oth ⟨⟨xs, xs.length⟩, ⟨ys, 0⟩, false, true, 0⟩) ⟨⟨xs, xs.length⟩, ⟨ys, 0⟩, false, true, 0⟩ = 170 := by unfold begE; rw [r5]; rfl
  have g6 : fliD ⟨⟨xs, xs.length⟩, ⟨ys, 0⟩, false, true, 0⟩ = ⟨⟨xs, xs.length⟩, ⟨ys, 0⟩, false, true, 0⟩ := by unfold fliD; rw [f6]; unfold begD; rw [r5]; rfl
  have HA6 : Hid (∀ (W : World) g, Pq a W g ⟨⟨xs, xs.length⟩, ⟨ys, 0⟩, false, true, 0⟩ → Calls Try.prog 21 #[.pointer (some ⟨g, 0, none⟩)] W fun e w' => e = .returned (.int .i64 170) ∧ Pq a w' g ⟨⟨xs, xs.length⟩, ⟨ys, 0⟩, false, true, 0⟩) := hid_in (fun W g h => by
    have k := flip_q h
    rw [f6, g6] at k
    exact k)
  have HA7 : Hid (∀ (W : World) g, Pq a W g ⟨⟨xs, xs.length⟩, ⟨ys, 0⟩, false, true, 0⟩ → Calls Try.prog 22 #[.pointer (some ⟨g, 0, none⟩), .int .i64 0] W fun e w' => e = .returned (.int .i64 170) ∧ Pq a w' g ⟨⟨xs, xs.length⟩, ⟨ys, 0⟩, false, true, 0⟩) := hid_in (fun W g h => wipe_q h 0)
  have HA8 : Hid (∀ (W : World) g, Pq a W g ⟨⟨xs, xs.length⟩, ⟨ys, 0⟩, false, true, 0⟩ → Calls Try.prog 16 #[.pointer (some ⟨g, 0, none⟩)] W fun e w' => e = .returned (.bool true) ∧ w' = W) := hid_in (fun W g h => down_q h)
  have g9 : ∃ A : Ar, cutD ks ⟨⟨xs, xs.length⟩, ⟨ys, 0⟩, false, true, 0⟩ = ⟨⟨xs, xs.length⟩, A, false, false, 0⟩ := by
    refine ⟨cutAr (ks.getD 1 0) ⟨ys, 0⟩, ?_⟩
    unfold cutD
    simp only [cutAr_all]
  obtain ⟨A, hA⟩ := g9
  have HA9 : Hid (∀ (W : World) g, Pq a W g ⟨⟨xs, xs.length⟩, ⟨ys, 0⟩, false, true, 0⟩ → Calls Try.prog 19 #[.pointer (some ⟨g, 0, none⟩), v] W fun e w' => e = .returned (.tuple #[]) ∧ Pq a w' g ⟨⟨xs, xs.length⟩, A, false, false, 0⟩) := hid_in (fun W g h => by
    have k := cut_qi h hk
    rw [hA] at k
    exact k)
  have HA10 : Hid (∀ (W : World) g, Pq a W g ⟨⟨xs, xs.length⟩, A, false, false, 0⟩ → Calls Try.prog 20 #[.pointer (some ⟨g, 0, none⟩)] W fun e w' => e = .returned (.int .i64 0) ∧ w' = W) := hid_in (fun W g h => live_q h)
  have HA11 : Hid (∀ (W : World) g, Pq a W g ⟨⟨xs, xs.length⟩, A, false, false, 0⟩ → Calls Try.prog 13 #[.pointer (some ⟨g, 0, none⟩), .int .i64 0] W fun e w' => (∃ p c, e = .returned (.slice p xs.length c) ∧ ∀ W', Below w'.heap.size w' W' → (convert 34 9 (.slice p xs.length c)).run Try.prog W' = .ok (.string (str xs)) W') ∧ Pq a w' g ⟨⟨xs, xs.length⟩, A, false, false, 0⟩) := hid_in (fun W g h => read_q h 0)
  have HCV : Hid (∀ W : World, Below a.heap.size a W → (convert 34 9 (.slice p0 xs.length c0)).run Try.prog W = .ok (.string (str xs)) W) := hid_in (fun W h => Nd.conv_sl (h0.below h))
  have hlt : ¬ (20000 : Int) < (xs.length : Int) + (ys.length : Int) := by omega
  have hlx : (xs.length : Int) + (ys.length : Int) ≤ 20000 := by omega
  have hp0 : 0 ≤ (xs.length : Int) + (ys.length : Int) := by omega
  have z1 : wrap64 ((xs.length : Int) + (ys.length : Int)) = (xs.length : Int) + (ys.length : Int) := by unfold wrap64; omega
  have z2 : IntKind.i64.wrap ((xs.length : Int) + (ys.length : Int)) = (xs.length : Int) + (ys.length : Int) := by rw [IntKind.wrap_i64]; omega
  generalize (⟨⟨xs, 0⟩, ⟨[], 0⟩, false, false, 0⟩ : Dk) = E1 at *
  generalize (⟨⟨xs, xs.length⟩, ⟨[], 0⟩, false, false, 0⟩ : Dk) = E2 at *
  generalize (⟨⟨xs, xs.length⟩, ⟨[], 0⟩, false, false, 2⟩ : Dk) = E3 at *
  generalize (⟨⟨xs, xs.length⟩, A, false, false, 0⟩ : Dk) = E8 at *
  generalize (⟨⟨xs, xs.length⟩, ⟨ys, 0⟩, false, false, 1⟩ : Dk) = E4 at *
  generalize (⟨⟨xs, xs.length⟩, ⟨ys, 0⟩, false, true, 0⟩ : Dk) = E5 at *
  generalize newD = E0 at *
  generalize str xs = Z at *
  generalize xs.length = lx at *
  generalize ys.length = ly at *
  clear r5 f6 g6 hA h0 h1 n0 n1 hk hl
  go_enter Try.func5, Try.ntmps5
  go_upto_region 3 with (first | (go_at_call 7; refine HAW.out.mono ?_; rintro e w0 ⟨rfl, hb0⟩; have HB0 := hid_in hb0; clear hb0))
  go_upto_region 8 with (first | (go_at_call 9; refine (HN.out _ HB0.out).mono ?_; rintro e w1 ⟨g, rfl, q1⟩; have Q1 := hid_in q1; clear q1))
  go_upto_region 9 with (first | (go_at_call 17; refine (HA1.out _ _ Q1.out).mono ?_; rintro e w2 ⟨rfl, q2⟩; have Q2 := hid_in q2; clear q2))
  go_upto_region 11 with (first | (go_at_call 18; refine (HA2.out _ _ Q2.out).mono ?_; rintro e w3 ⟨rfl, q3⟩; have Q3 := hid_in q3; clear q3))
  go_upto_region 12 with (first | (go_at_call 15; refine (HA3.out _ _ Q3.out).mono ?_; rintro e w4 ⟨rfl, q4⟩; have Q4 := hid_in q4; clear q4))
  go_upto_region 13 with (first | (go_at_call 17; refine (HA4.out _ _ Q4.out).mono ?_; rintro e w5 ⟨rfl, q5⟩; have Q5 := hid_in q5; clear q5))
  go_upto_region 14 with (first | (go_at_call 18; refine (HA5.out _ _ Q5.out).mono ?_; rintro e w6 ⟨rfl, q6⟩; have Q6 := hid_in q6; clear q6))
  go_upto_region 15 with (first | (go_at_call 21; refine (HA6.out _ _ Q6.out).mono ?_; rintro e w7 ⟨rfl, q7⟩; have Q7 := hid_in q7; clear q7))
  go_upto_region 16 with (first | (go_at_call 22; refine (HA7.out _ _ Q7.out).mono ?_; rintro e w8 ⟨rfl, q8⟩; have Q8 := hid_in q8; clear q8))
  go_upto_region 17 with (first | (go_at_call 16; refine (HA8.out _ _ Q8.out).mono ?_; rintro e w9 ⟨rfl, rfl⟩))
  go_upto_region 18 with (first | (go_at_call 19; refine (HA9.out _ _ Q8.out).mono ?_; rintro e w10 ⟨rfl, q10⟩; have Q10 := hid_in q10; clear q10))
  go_upto_region 19 with (first | (go_at_call 20; refine (HA10.out _ _ Q10.out).mono ?_; rintro e w11 ⟨rfl, rfl⟩) | (go_at_call 13; refine (HA11.out _ _ Q10.out).mono ?_; rintro e w12 ⟨⟨p12, c12, rfl, hcv⟩, q12⟩; have Q12 := hid_in q12; have hc12 := hcv w12 (Below.refl _ _); clear q12 hcv))
  have hcz := HCV.out _ Q12.out.1
  go_wp2_with (first | (go_at_call 20; refine (HA10.out _ _ Q12.out).mono ?_; rintro e w13 ⟨rfl, rfl⟩))
  go_ret
  exact ⟨rfl, Q12.out.1⟩
set_option maxHeartbeats 2000000 in
set_option maxRecDepth 100000 in
theorem flips_3 (a : World) (calls : Int) (hK : (IntKind.u64.wrap calls).tmod 6 = 2) (p0 p1 : Option Addr) (xs ys : List Nat) (c0 b0 o0 c1 b1 o1 : Nat) (v : Value) (ks : List Int)
    (h0 : Sl a p0 xs c0 b0 o0) (n0 : p0 = none → xs.length = 0 ∧ c0 = 0) (h1 : Sl a p1 ys c1 b1 o1) (n1 : p1 = none → ys.length = 0 ∧ c1 = 0) (hk : Kin a v ks) (hl : xs.length + ys.length ≤ 20000) :
    Calls Try.prog 5 #[.slice p0 xs.length c0, .slice p1 ys.length c1, .int .i64 calls, v] a fun e w' => e = .returned (.bool true) ∧ Below a.heap.size a w' := by
  have HAW := hid_in (awake_any a)
  have HN := hid_in (fun (w : World) (h : Below a.heap.size a w) => new_q h)
  have HA1 : Hid (∀ (W : World) g, Pq a W g newD → Calls Try.prog 17 #[.pointer (some ⟨g, 0, none⟩), .int .i64 0, .slice p0 xs.length c0] W fun e w' => e = .returned (.int .i64 0) ∧ Pq a w' g ⟨⟨xs, 0⟩, ⟨[], 0⟩, false, false, 0⟩) := hid_in (fun W g h => append_q h 0 p0 xs c0 b0 o0 (h0.below h.1) n0 (by simp [arOf, newD]; omega))
  have HA2 : Hid (∀ (W : World) g, Pq a W g ⟨⟨xs, 0⟩, ⟨[], 0⟩, false, false, 0⟩ → Calls Try.prog 18 #[.pointer (some ⟨g, 0, none⟩), .int .i64 0] W fun e w' => e = .returned (.int .i64 0) ∧ Pq a w' g ⟨⟨xs, xs.length⟩, ⟨[], 0⟩, false, false, 0⟩) := hid_in (fun W g h => sync_q h 0)
  have HA3 : Hid (∀ (W : World) g, Pq a W g ⟨⟨xs, xs.length⟩, ⟨[], 0⟩, false, false, 0⟩ → Calls Try.prog 15 #[.pointer (some ⟨g, 0, none⟩), .int .i64 3] W fun e w' => e = .returned (.tuple #[]) ∧ Pq a w' g ⟨⟨xs, xs.length⟩, ⟨[], 0⟩, false, false, 3⟩) := hid_in (fun W g h => arm_q h 3 (by decide))
  have HA4 : Hid (∀ (W : World) g, Pq a W g ⟨⟨xs, xs.length⟩, ⟨[], 0⟩, false, false, 3⟩ → Calls Try.prog 17 #[.pointer (some ⟨g, 0, none⟩), .int .i64 1, .slice p1 ys.length c1] W fun e w' => e = .returned (.int .i64 0) ∧ Pq a w' g ⟨⟨xs, xs.length⟩, ⟨ys, 0⟩, false, false, 2⟩) := hid_in (fun W g h => append_q h 1 p1 ys c1 b1 o1 (h1.below h.1) n1 (by simp [arOf]; omega))
  have HA5 : Hid (∀ (W : World) g, Pq a W g ⟨⟨xs, xs.length⟩, ⟨ys, 0⟩, false, false, 2⟩ → Calls Try.prog 18 #[.pointer (some ⟨g, 0, none⟩), .int .i64 1] W fun e w' => e = .returned (.int .i64 0) ∧ Pq a w' g ⟨⟨xs, xs.length⟩, ⟨ys, ys.length⟩, false, false, 1⟩) := hid_in (fun W g h => sync_q h 1)
  have r5 : refE 3 (oth ⟨⟨xs, xs.length⟩, ⟨ys, ys.length⟩, false, false, 1⟩) ⟨⟨xs, xs.length⟩, ⟨ys, ys.length⟩, false, false, 1⟩ = 0 := by simp [refE, oth, liv, isA, arOf]
  have f6 : begE 3 (oth ⟨⟨xs, xs.length⟩, ⟨ys, ys.length⟩, false, false, 1⟩) ⟨⟨xs, xs.length⟩, ⟨ys, ys.length⟩, false, false, 1⟩ = 170 := by unfold begE; rw [r5]; rfl
  have g6 : fliD ⟨⟨xs, xs.length⟩, ⟨ys, ys.length⟩, false, false, 1⟩ = ⟨⟨xs, xs.length⟩, ⟨ys, ys.length⟩, false, true, 0⟩ := by unfold fliD; rw [f6]; unfold begD; rw [r5]; rfl
  have HA6 : Hid (∀ (W : World) g, Pq a W g ⟨⟨xs, xs.length⟩, ⟨ys, ys.length⟩, false, false, 1⟩ → Calls Try.prog 21 #[.pointer (some ⟨g, 0, none⟩)] W fun e w' => e = .returned (.int .i64 170) ∧ Pq a w' g ⟨⟨xs, xs.length⟩, ⟨ys, ys.length⟩, false, true, 0⟩) := hid_in (fun W g h => by
    have k := flip_q h
    rw [f6, g6] at k
    exact k)
  have HA7 : Hid (∀ (W : World) g, Pq a W g ⟨⟨xs, xs.length⟩, ⟨ys, ys.length⟩, false, true, 0⟩ → Calls Try.prog 22 #[.pointer (some ⟨g, 0, none⟩), .int .i64 0] W fun e w' => e = .returned (.int .i64 170) ∧ Pq a w' g ⟨⟨xs, xs.length⟩, ⟨ys, ys.length⟩, false, true, 0⟩) := hid_in (fun W g h => wipe_q h 0)
  have HA8 : Hid (∀ (W : World) g, Pq a W g ⟨⟨xs, xs.length⟩, ⟨ys, ys.length⟩, false, true, 0⟩ → Calls Try.prog 16 #[.pointer (some ⟨g, 0, none⟩)] W fun e w' => e = .returned (.bool true) ∧ w' = W) := hid_in (fun W g h => down_q h)
  have g9 : ∃ A : Ar, cutD ks ⟨⟨xs, xs.length⟩, ⟨ys, ys.length⟩, false, true, 0⟩ = ⟨⟨xs, xs.length⟩, ⟨ys, ys.length⟩, false, false, 0⟩ := by
    refine ⟨⟨[], 0⟩, ?_⟩
    unfold cutD
    simp only [cutAr_all]
  obtain ⟨A, hA⟩ := g9
  have HA9 : Hid (∀ (W : World) g, Pq a W g ⟨⟨xs, xs.length⟩, ⟨ys, ys.length⟩, false, true, 0⟩ → Calls Try.prog 19 #[.pointer (some ⟨g, 0, none⟩), v] W fun e w' => e = .returned (.tuple #[]) ∧ Pq a w' g ⟨⟨xs, xs.length⟩, ⟨ys, ys.length⟩, false, false, 0⟩) := hid_in (fun W g h => by
    have k := cut_qi h hk
    rw [hA] at k
    exact k)
  have HA10 : Hid (∀ (W : World) g, Pq a W g ⟨⟨xs, xs.length⟩, ⟨ys, ys.length⟩, false, false, 0⟩ → Calls Try.prog 20 #[.pointer (some ⟨g, 0, none⟩)] W fun e w' => e = .returned (.int .i64 0) ∧ w' = W) := hid_in (fun W g h => live_q h)
  have HA11 : Hid (∀ (W : World) g, Pq a W g ⟨⟨xs, xs.length⟩, ⟨ys, ys.length⟩, false, false, 0⟩ → Calls Try.prog 13 #[.pointer (some ⟨g, 0, none⟩), .int .i64 0] W fun e w' => (∃ p c, e = .returned (.slice p xs.length c) ∧ ∀ W', Below w'.heap.size w' W' → (convert 34 9 (.slice p xs.length c)).run Try.prog W' = .ok (.string (str xs)) W') ∧ Pq a w' g ⟨⟨xs, xs.length⟩, ⟨ys, ys.length⟩, false, false, 0⟩) := hid_in (fun W g h => read_q h 0)
  have HCV : Hid (∀ W : World, Below a.heap.size a W → (convert 34 9 (.slice p0 xs.length c0)).run Try.prog W = .ok (.string (str xs)) W) := hid_in (fun W h => Nd.conv_sl (h0.below h))
  have hlt : ¬ (20000 : Int) < (xs.length : Int) + (ys.length : Int) := by omega
  have hlx : (xs.length : Int) + (ys.length : Int) ≤ 20000 := by omega
  have hp0 : 0 ≤ (xs.length : Int) + (ys.length : Int) := by omega
  have z1 : wrap64 ((xs.length : Int) + (ys.length : Int)) = (xs.length : Int) + (ys.length : Int) := by unfold wrap64; omega
  have z2 : IntKind.i64.wrap ((xs.length : Int) + (ys.length : Int)) = (xs.length : Int) + (ys.length : Int) := by rw [IntKind.wrap_i64]; omega
  generalize (⟨⟨xs, 0⟩, ⟨[], 0⟩, false, false, 0⟩ : Dk) = E1 at *
  generalize (⟨⟨xs, xs.length⟩, ⟨[], 0⟩, false, false, 0⟩ : Dk) = E2 at *
  generalize (⟨⟨xs, xs.length⟩, ⟨[], 0⟩, false, false, 3⟩ : Dk) = E3 at *
  generalize (⟨⟨xs, xs.length⟩, ⟨ys, ys.length⟩, false, false, 0⟩ : Dk) = E8 at *
  generalize (⟨⟨xs, xs.length⟩, ⟨ys, 0⟩, false, false, 2⟩ : Dk) = E4 at *
  generalize (⟨⟨xs, xs.length⟩, ⟨ys, ys.length⟩, false, false, 1⟩ : Dk) = E5 at *
  generalize (⟨⟨xs, xs.length⟩, ⟨ys, ys.length⟩, false, true, 0⟩ : Dk) = E6 at *
  generalize newD = E0 at *
  generalize str xs = Z at *
  generalize xs.length = lx at *
  generalize ys.length = ly at *
  clear r5 f6 g6 hA h0 h1 n0 n1 hk hl
  go_enter Try.func5, Try.ntmps5
  go_upto_region 3 with (first | (go_at_call 7; refine HAW.out.mono ?_; rintro e w0 ⟨rfl, hb0⟩; have HB0 := hid_in hb0; clear hb0))
  go_upto_region 8 with (first | (go_at_call 9; refine (HN.out _ HB0.out).mono ?_; rintro e w1 ⟨g, rfl, q1⟩; have Q1 := hid_in q1; clear q1))
  go_upto_region 9 with (first | (go_at_call 17; refine (HA1.out _ _ Q1.out).mono ?_; rintro e w2 ⟨rfl, q2⟩; have Q2 := hid_in q2; clear q2))
  go_upto_region 11 with (first | (go_at_call 18; refine (HA2.out _ _ Q2.out).mono ?_; rintro e w3 ⟨rfl, q3⟩; have Q3 := hid_in q3; clear q3))
  go_upto_region 12 with (first | (go_at_call 15; refine (HA3.out _ _ Q3.out).mono ?_; rintro e w4 ⟨rfl, q4⟩; have Q4 := hid_in q4; clear q4))
  go_upto_region 13 with (first | (go_at_call 17; refine (HA4.out _ _ Q4.out).mono ?_; rintro e w5 ⟨rfl, q5⟩; have Q5 := hid_in q5; clear q5))
  go_upto_region 14 with (first | (go_at_call 18; refine (HA5.out _ _ Q5.out).mono ?_; rintro e w6 ⟨rfl, q6⟩; have Q6 := hid_in q6; clear q6))
  go_upto_region 15 with (first | (go_at_call 21; refine (HA6.out _ _ Q6.out).mono ?_; rintro e w7 ⟨rfl, q7⟩; have Q7 := hid_in q7; clear q7))
  go_upto_region 16 with (first | (go_at_call 22; refine (HA7.out _ _ Q7.out).mono ?_; rintro e w8 ⟨rfl, q8⟩; have Q8 := hid_in q8; clear q8))
  go_upto_region 17 with (first | (go_at_call 16; refine (HA8.out _ _ Q8.out).mono ?_; rintro e w9 ⟨rfl, rfl⟩))
  go_upto_region 18 with (first | (go_at_call 19; refine (HA9.out _ _ Q8.out).mono ?_; rintro e w10 ⟨rfl, q10⟩; have Q10 := hid_in q10; clear q10))
  go_upto_region 19 with (first | (go_at_call 20; refine (HA10.out _ _ Q10.out).mono ?_; rintro e w11 ⟨rfl, rfl⟩) | (go_at_call 13; refine (HA11.out _ _ Q10.out).mono ?_; rintro e w12 ⟨⟨p12, c12, rfl, hcv⟩, q12⟩; have Q12 := hid_in q12; have hc12 := hcv w12 (Below.refl _ _); clear q12 hcv))
  have hcz := HCV.out _ Q12.out.1
  go_wp2_with (first | (go_at_call 20; refine (HA10.out _ _ Q12.out).mono ?_; rintro e w13 ⟨rfl, rfl⟩))
  go_ret
  exact ⟨rfl, Q12.out.1⟩
set_option maxHeartbeats 2000000 in
set_option maxRecDepth 100000 in
theorem flips_4 (a : World) (calls : Int) (hK : (IntKind.u64.wrap calls).tmod 6 = 3) (p0 p1 : Option Addr) (xs ys : List Nat) (c0 b0 o0 c1 b1 o1 : Nat) (v : Value) (ks : List Int)
    (h0 : Sl a p0 xs c0 b0 o0) (n0 : p0 = none → xs.length = 0 ∧ c0 = 0) (h1 : Sl a p1 ys c1 b1 o1) (n1 : p1 = none → ys.length = 0 ∧ c1 = 0) (hk : Kin a v ks) (hl : xs.length + ys.length ≤ 20000) :
    Calls Try.prog 5 #[.slice p0 xs.length c0, .slice p1 ys.length c1, .int .i64 calls, v] a fun e w' => e = .returned (.bool true) ∧ Below a.heap.size a w' := by
  have HAW := hid_in (awake_any a)
  have HN := hid_in (fun (w : World) (h : Below a.heap.size a w) => new_q h)
  have HA1 : Hid (∀ (W : World) g, Pq a W g newD → Calls Try.prog 17 #[.pointer (some ⟨g, 0, none⟩), .int .i64 0, .slice p0 xs.length c0] W fun e w' => e = .returned (.int .i64 0) ∧ Pq a w' g ⟨⟨xs, 0⟩, ⟨[], 0⟩, false, false, 0⟩) := hid_in (fun W g h => append_q h 0 p0 xs c0 b0 o0 (h0.below h.1) n0 (by simp [arOf, newD]; omega))
  have HA2 : Hid (∀ (W : World) g, Pq a W g ⟨⟨xs, 0⟩, ⟨[], 0⟩, false, false, 0⟩ → Calls Try.prog 18 #[.pointer (some ⟨g, 0, none⟩), .int .i64 0] W fun e w' => e = .returned (.int .i64 0) ∧ Pq a w' g ⟨⟨xs, xs.length⟩, ⟨[], 0⟩, false, false, 0⟩) := hid_in (fun W g h => sync_q h 0)
  have HA3 : Hid (∀ (W : World) g, Pq a W g ⟨⟨xs, xs.length⟩, ⟨[], 0⟩, false, false, 0⟩ → Calls Try.prog 15 #[.pointer (some ⟨g, 0, none⟩), .int .i64 4] W fun e w' => e = .returned (.tuple #[]) ∧ Pq a w' g ⟨⟨xs, xs.length⟩, ⟨[], 0⟩, false, false, 4⟩) := hid_in (fun W g h => arm_q h 4 (by decide))
  have HA4 : Hid (∀ (W : World) g, Pq a W g ⟨⟨xs, xs.length⟩, ⟨[], 0⟩, false, false, 4⟩ → Calls Try.prog 17 #[.pointer (some ⟨g, 0, none⟩), .int .i64 1, .slice p1 ys.length c1] W fun e w' => e = .returned (.int .i64 0) ∧ Pq a w' g ⟨⟨xs, xs.length⟩, ⟨ys, 0⟩, false, false, 3⟩) := hid_in (fun W g h => append_q h 1 p1 ys c1 b1 o1 (h1.below h.1) n1 (by simp [arOf]; omega))
  have HA5 : Hid (∀ (W : World) g, Pq a W g ⟨⟨xs, xs.length⟩, ⟨ys, 0⟩, false, false, 3⟩ → Calls Try.prog 18 #[.pointer (some ⟨g, 0, none⟩), .int .i64 1] W fun e w' => e = .returned (.int .i64 0) ∧ Pq a w' g ⟨⟨xs, xs.length⟩, ⟨ys, ys.length⟩, false, false, 2⟩) := hid_in (fun W g h => sync_q h 1)
  have r5 : refE 3 (oth ⟨⟨xs, xs.length⟩, ⟨ys, ys.length⟩, false, false, 2⟩) ⟨⟨xs, xs.length⟩, ⟨ys, ys.length⟩, false, false, 2⟩ = 0 := by simp [refE, oth, liv, isA, arOf]
  have f6 : begE 3 (oth ⟨⟨xs, xs.length⟩, ⟨ys, ys.length⟩, false, false, 2⟩) ⟨⟨xs, xs.length⟩, ⟨ys, ys.length⟩, false, false, 2⟩ = 0 := by unfold begE; rw [r5]; rfl
  have g6 : fliD ⟨⟨xs, xs.length⟩, ⟨ys, ys.length⟩, false, false, 2⟩ = ⟨⟨xs, xs.length⟩, ⟨ys, ys.length⟩, true, false, 1⟩ := by unfold fliD; rw [f6]; unfold begD; rw [r5]; rfl
  have HA6 : Hid (∀ (W : World) g, Pq a W g ⟨⟨xs, xs.length⟩, ⟨ys, ys.length⟩, false, false, 2⟩ → Calls Try.prog 21 #[.pointer (some ⟨g, 0, none⟩)] W fun e w' => e = .returned (.int .i64 0) ∧ Pq a w' g ⟨⟨xs, xs.length⟩, ⟨ys, ys.length⟩, true, false, 1⟩) := hid_in (fun W g h => by
    have k := flip_q h
    rw [f6, g6] at k
    exact k)
  have HA7 : Hid (∀ (W : World) g, Pq a W g ⟨⟨xs, xs.length⟩, ⟨ys, ys.length⟩, true, false, 1⟩ → Calls Try.prog 22 #[.pointer (some ⟨g, 0, none⟩), .int .i64 0] W fun e w' => e = .returned (.int .i64 170) ∧ Pq a w' g ⟨⟨xs, xs.length⟩, ⟨ys, ys.length⟩, true, true, 0⟩) := hid_in (fun W g h => wipe_q h 0)
  have HA8 : Hid (∀ (W : World) g, Pq a W g ⟨⟨xs, xs.length⟩, ⟨ys, ys.length⟩, true, true, 0⟩ → Calls Try.prog 16 #[.pointer (some ⟨g, 0, none⟩)] W fun e w' => e = .returned (.bool true) ∧ w' = W) := hid_in (fun W g h => down_q h)
  have g9 : ∃ A : Ar, cutD ks ⟨⟨xs, xs.length⟩, ⟨ys, ys.length⟩, true, true, 0⟩ = ⟨⟨xs, xs.length⟩, ⟨ys, ys.length⟩, true, false, 0⟩ := by
    refine ⟨⟨[], 0⟩, ?_⟩
    unfold cutD
    simp only [cutAr_all]
  obtain ⟨A, hA⟩ := g9
  have HA9 : Hid (∀ (W : World) g, Pq a W g ⟨⟨xs, xs.length⟩, ⟨ys, ys.length⟩, true, true, 0⟩ → Calls Try.prog 19 #[.pointer (some ⟨g, 0, none⟩), v] W fun e w' => e = .returned (.tuple #[]) ∧ Pq a w' g ⟨⟨xs, xs.length⟩, ⟨ys, ys.length⟩, true, false, 0⟩) := hid_in (fun W g h => by
    have k := cut_qi h hk
    rw [hA] at k
    exact k)
  have HA10 : Hid (∀ (W : World) g, Pq a W g ⟨⟨xs, xs.length⟩, ⟨ys, ys.length⟩, true, false, 0⟩ → Calls Try.prog 20 #[.pointer (some ⟨g, 0, none⟩)] W fun e w' => e = .returned (.int .i64 1) ∧ w' = W) := hid_in (fun W g h => live_q h)
  have HA11 : Hid (∀ (W : World) g, Pq a W g ⟨⟨xs, xs.length⟩, ⟨ys, ys.length⟩, true, false, 0⟩ → Calls Try.prog 13 #[.pointer (some ⟨g, 0, none⟩), .int .i64 1] W fun e w' => (∃ p c, e = .returned (.slice p ys.length c) ∧ ∀ W', Below w'.heap.size w' W' → (convert 34 9 (.slice p ys.length c)).run Try.prog W' = .ok (.string (str ys)) W') ∧ Pq a w' g ⟨⟨xs, xs.length⟩, ⟨ys, ys.length⟩, true, false, 0⟩) := hid_in (fun W g h => read_q h 1)
  have HCV : Hid (∀ W : World, Below a.heap.size a W → (convert 34 9 (.slice p1 ys.length c1)).run Try.prog W = .ok (.string (str ys)) W) := hid_in (fun W h => Nd.conv_sl (h1.below h))
  have hlt : ¬ (20000 : Int) < (xs.length : Int) + (ys.length : Int) := by omega
  have hlx : (xs.length : Int) + (ys.length : Int) ≤ 20000 := by omega
  have hp0 : 0 ≤ (xs.length : Int) + (ys.length : Int) := by omega
  have z1 : wrap64 ((xs.length : Int) + (ys.length : Int)) = (xs.length : Int) + (ys.length : Int) := by unfold wrap64; omega
  have z2 : IntKind.i64.wrap ((xs.length : Int) + (ys.length : Int)) = (xs.length : Int) + (ys.length : Int) := by rw [IntKind.wrap_i64]; omega
  generalize (⟨⟨xs, 0⟩, ⟨[], 0⟩, false, false, 0⟩ : Dk) = E1 at *
  generalize (⟨⟨xs, xs.length⟩, ⟨[], 0⟩, false, false, 0⟩ : Dk) = E2 at *
  generalize (⟨⟨xs, xs.length⟩, ⟨[], 0⟩, false, false, 4⟩ : Dk) = E3 at *
  generalize (⟨⟨xs, xs.length⟩, ⟨ys, ys.length⟩, true, false, 0⟩ : Dk) = E8 at *
  generalize (⟨⟨xs, xs.length⟩, ⟨ys, 0⟩, false, false, 3⟩ : Dk) = E4 at *
  generalize (⟨⟨xs, xs.length⟩, ⟨ys, ys.length⟩, false, false, 2⟩ : Dk) = E5 at *
  generalize (⟨⟨xs, xs.length⟩, ⟨ys, ys.length⟩, true, false, 1⟩ : Dk) = E6 at *
  generalize (⟨⟨xs, xs.length⟩, ⟨ys, ys.length⟩, true, true, 0⟩ : Dk) = E7 at *
  generalize newD = E0 at *
  generalize str ys = Z at *
  generalize xs.length = lx at *
  generalize ys.length = ly at *
  clear r5 f6 g6 hA h0 h1 n0 n1 hk hl
  go_enter Try.func5, Try.ntmps5
  go_upto_region 3 with (first | (go_at_call 7; refine HAW.out.mono ?_; rintro e w0 ⟨rfl, hb0⟩; have HB0 := hid_in hb0; clear hb0))
  go_upto_region 8 with (first | (go_at_call 9; refine (HN.out _ HB0.out).mono ?_; rintro e w1 ⟨g, rfl, q1⟩; have Q1 := hid_in q1; clear q1))
  go_upto_region 9 with (first | (go_at_call 17; refine (HA1.out _ _ Q1.out).mono ?_; rintro e w2 ⟨rfl, q2⟩; have Q2 := hid_in q2; clear q2))
  go_upto_region 11 with (first | (go_at_call 18; refine (HA2.out _ _ Q2.out).mono ?_; rintro e w3 ⟨rfl, q3⟩; have Q3 := hid_in q3; clear q3))
  go_upto_region 12 with (first | (go_at_call 15; refine (HA3.out _ _ Q3.out).mono ?_; rintro e w4 ⟨rfl, q4⟩; have Q4 := hid_in q4; clear q4))
  go_upto_region 13 with (first | (go_at_call 17; refine (HA4.out _ _ Q4.out).mono ?_; rintro e w5 ⟨rfl, q5⟩; have Q5 := hid_in q5; clear q5))
  go_upto_region 14 with (first | (go_at_call 18; refine (HA5.out _ _ Q5.out).mono ?_; rintro e w6 ⟨rfl, q6⟩; have Q6 := hid_in q6; clear q6))
  go_upto_region 15 with (first | (go_at_call 21; refine (HA6.out _ _ Q6.out).mono ?_; rintro e w7 ⟨rfl, q7⟩; have Q7 := hid_in q7; clear q7))
  go_upto_region 16 with (first | (go_at_call 22; refine (HA7.out _ _ Q7.out).mono ?_; rintro e w8 ⟨rfl, q8⟩; have Q8 := hid_in q8; clear q8))
  go_upto_region 17 with (first | (go_at_call 16; refine (HA8.out _ _ Q8.out).mono ?_; rintro e w9 ⟨rfl, rfl⟩))
  go_upto_region 18 with (first | (go_at_call 19; refine (HA9.out _ _ Q8.out).mono ?_; rintro e w10 ⟨rfl, q10⟩; have Q10 := hid_in q10; clear q10))
  go_upto_region 19 with (first | (go_at_call 20; refine (HA10.out _ _ Q10.out).mono ?_; rintro e w11 ⟨rfl, rfl⟩) | (go_at_call 13; refine (HA11.out _ _ Q10.out).mono ?_; rintro e w12 ⟨⟨p12, c12, rfl, hcv⟩, q12⟩; have Q12 := hid_in q12; have hc12 := hcv w12 (Below.refl _ _); clear q12 hcv))
  have hcz := HCV.out _ Q12.out.1
  go_wp2_with (first | (go_at_call 20; refine (HA10.out _ _ Q12.out).mono ?_; rintro e w13 ⟨rfl, rfl⟩))
  go_ret
  exact ⟨rfl, Q12.out.1⟩
set_option maxHeartbeats 2000000 in
set_option maxRecDepth 100000 in
theorem flips_5 (a : World) (calls : Int) (hK : (IntKind.u64.wrap calls).tmod 6 = 4) (p0 p1 : Option Addr) (xs ys : List Nat) (c0 b0 o0 c1 b1 o1 : Nat) (v : Value) (ks : List Int)
    (h0 : Sl a p0 xs c0 b0 o0) (n0 : p0 = none → xs.length = 0 ∧ c0 = 0) (h1 : Sl a p1 ys c1 b1 o1) (n1 : p1 = none → ys.length = 0 ∧ c1 = 0) (hk : Kin a v ks) (hl : xs.length + ys.length ≤ 20000) :
    Calls Try.prog 5 #[.slice p0 xs.length c0, .slice p1 ys.length c1, .int .i64 calls, v] a fun e w' => e = .returned (.bool true) ∧ Below a.heap.size a w' := by
  have HAW := hid_in (awake_any a)
  have HN := hid_in (fun (w : World) (h : Below a.heap.size a w) => new_q h)
  have HA1 : Hid (∀ (W : World) g, Pq a W g newD → Calls Try.prog 17 #[.pointer (some ⟨g, 0, none⟩), .int .i64 0, .slice p0 xs.length c0] W fun e w' => e = .returned (.int .i64 0) ∧ Pq a w' g ⟨⟨xs, 0⟩, ⟨[], 0⟩, false, false, 0⟩) := hid_in (fun W g h => append_q h 0 p0 xs c0 b0 o0 (h0.below h.1) n0 (by simp [arOf, newD]; omega))
  have HA2 : Hid (∀ (W : World) g, Pq a W g ⟨⟨xs, 0⟩, ⟨[], 0⟩, false, false, 0⟩ → Calls Try.prog 18 #[.pointer (some ⟨g, 0, none⟩), .int .i64 0] W fun e w' => e = .returned (.int .i64 0) ∧ Pq a w' g ⟨⟨xs, xs.length⟩, ⟨[], 0⟩, false, false, 0⟩) := hid_in (fun W g h => sync_q h 0)
  have HA3 : Hid (∀ (W : World) g, Pq a W g ⟨⟨xs, xs.length⟩, ⟨[], 0⟩, false, false, 0⟩ → Calls Try.prog 15 #[.pointer (some ⟨g, 0, none⟩), .int .i64 5] W fun e w' => e = .returned (.tuple #[]) ∧ Pq a w' g ⟨⟨xs, xs.length⟩, ⟨[], 0⟩, false, false, 5⟩) := hid_in (fun W g h => arm_q h 5 (by decide))
  have HA4 : Hid (∀ (W : World) g, Pq a W g ⟨⟨xs, xs.length⟩, ⟨[], 0⟩, false, false, 5⟩ → Calls Try.prog 17 #[.pointer (some ⟨g, 0, none⟩), .int .i64 1, .slice p1 ys.length c1] W fun e w' => e = .returned (.int .i64 0) ∧ Pq a w' g ⟨⟨xs, xs.length⟩, ⟨ys, 0⟩, false, false, 4⟩) := hid_in (fun W g h => append_q h 1 p1 ys c1 b1 o1 (h1.below h.1) n1 (by simp [arOf]; omega))
  have HA5 : Hid (∀ (W : World) g, Pq a W g ⟨⟨xs, xs.length⟩, ⟨ys, 0⟩, false, false, 4⟩ → Calls Try.prog 18 #[.pointer (some ⟨g, 0, none⟩), .int .i64 1] W fun e w' => e = .returned (.int .i64 0) ∧ Pq a w' g ⟨⟨xs, xs.length⟩, ⟨ys, ys.length⟩, false, false, 3⟩) := hid_in (fun W g h => sync_q h 1)
  have r5 : refE 3 (oth ⟨⟨xs, xs.length⟩, ⟨ys, ys.length⟩, false, false, 3⟩) ⟨⟨xs, xs.length⟩, ⟨ys, ys.length⟩, false, false, 3⟩ = 0 := by simp [refE, oth, liv, isA, arOf]
  have f6 : begE 3 (oth ⟨⟨xs, xs.length⟩, ⟨ys, ys.length⟩, false, false, 3⟩) ⟨⟨xs, xs.length⟩, ⟨ys, ys.length⟩, false, false, 3⟩ = 0 := by unfold begE; rw [r5]; rfl
  have g6 : fliD ⟨⟨xs, xs.length⟩, ⟨ys, ys.length⟩, false, false, 3⟩ = ⟨⟨xs, xs.length⟩, ⟨ys, ys.length⟩, true, false, 2⟩ := by unfold fliD; rw [f6]; unfold begD; rw [r5]; rfl
  have HA6 : Hid (∀ (W : World) g, Pq a W g ⟨⟨xs, xs.length⟩, ⟨ys, ys.length⟩, false, false, 3⟩ → Calls Try.prog 21 #[.pointer (some ⟨g, 0, none⟩)] W fun e w' => e = .returned (.int .i64 0) ∧ Pq a w' g ⟨⟨xs, xs.length⟩, ⟨ys, ys.length⟩, true, false, 2⟩) := hid_in (fun W g h => by
    have k := flip_q h
    rw [f6, g6] at k
    exact k)
  have HA7 : Hid (∀ (W : World) g, Pq a W g ⟨⟨xs, xs.length⟩, ⟨ys, ys.length⟩, true, false, 2⟩ → Calls Try.prog 22 #[.pointer (some ⟨g, 0, none⟩), .int .i64 0] W fun e w' => e = .returned (.int .i64 0) ∧ Pq a w' g ⟨⟨[], 0⟩, ⟨ys, ys.length⟩, true, false, 1⟩) := hid_in (fun W g h => wipe_q h 0)
  have HA8 : Hid (∀ (W : World) g, Pq a W g ⟨⟨[], 0⟩, ⟨ys, ys.length⟩, true, false, 1⟩ → Calls Try.prog 16 #[.pointer (some ⟨g, 0, none⟩)] W fun e w' => e = .returned (.bool false) ∧ w' = W) := hid_in (fun W g h => down_q h)
  have g9 : ∃ A : Ar, cutD ks ⟨⟨[], 0⟩, ⟨ys, ys.length⟩, true, false, 1⟩ = ⟨⟨[], 0⟩, ⟨ys, ys.length⟩, true, false, 0⟩ := by
    refine ⟨⟨[], 0⟩, ?_⟩
    unfold cutD
    simp only [cutAr_all, cutAr_nil]
  obtain ⟨A, hA⟩ := g9
  have HA9 : Hid (∀ (W : World) g, Pq a W g ⟨⟨[], 0⟩, ⟨ys, ys.length⟩, true, false, 1⟩ → Calls Try.prog 19 #[.pointer (some ⟨g, 0, none⟩), v] W fun e w' => e = .returned (.tuple #[]) ∧ Pq a w' g ⟨⟨[], 0⟩, ⟨ys, ys.length⟩, true, false, 0⟩) := hid_in (fun W g h => by
    have k := cut_qi h hk
    rw [hA] at k
    exact k)
  have HA10 : Hid (∀ (W : World) g, Pq a W g ⟨⟨[], 0⟩, ⟨ys, ys.length⟩, true, false, 0⟩ → Calls Try.prog 20 #[.pointer (some ⟨g, 0, none⟩)] W fun e w' => e = .returned (.int .i64 1) ∧ w' = W) := hid_in (fun W g h => live_q h)
  have HA11 : Hid (∀ (W : World) g, Pq a W g ⟨⟨[], 0⟩, ⟨ys, ys.length⟩, true, false, 0⟩ → Calls Try.prog 13 #[.pointer (some ⟨g, 0, none⟩), .int .i64 1] W fun e w' => (∃ p c, e = .returned (.slice p ys.length c) ∧ ∀ W', Below w'.heap.size w' W' → (convert 34 9 (.slice p ys.length c)).run Try.prog W' = .ok (.string (str ys)) W') ∧ Pq a w' g ⟨⟨[], 0⟩, ⟨ys, ys.length⟩, true, false, 0⟩) := hid_in (fun W g h => read_q h 1)
  have HCV : Hid (∀ W : World, Below a.heap.size a W → (convert 34 9 (.slice p1 ys.length c1)).run Try.prog W = .ok (.string (str ys)) W) := hid_in (fun W h => Nd.conv_sl (h1.below h))
  have hlt : ¬ (20000 : Int) < (xs.length : Int) + (ys.length : Int) := by omega
  have hlx : (xs.length : Int) + (ys.length : Int) ≤ 20000 := by omega
  have hp0 : 0 ≤ (xs.length : Int) + (ys.length : Int) := by omega
  have z1 : wrap64 ((xs.length : Int) + (ys.length : Int)) = (xs.length : Int) + (ys.length : Int) := by unfold wrap64; omega
  have z2 : IntKind.i64.wrap ((xs.length : Int) + (ys.length : Int)) = (xs.length : Int) + (ys.length : Int) := by rw [IntKind.wrap_i64]; omega
  generalize (⟨⟨xs, 0⟩, ⟨[], 0⟩, false, false, 0⟩ : Dk) = E1 at *
  generalize (⟨⟨xs, xs.length⟩, ⟨[], 0⟩, false, false, 0⟩ : Dk) = E2 at *
  generalize (⟨⟨xs, xs.length⟩, ⟨[], 0⟩, false, false, 5⟩ : Dk) = E3 at *
  generalize (⟨⟨[], 0⟩, ⟨ys, ys.length⟩, true, false, 0⟩ : Dk) = E8 at *
  generalize (⟨⟨xs, xs.length⟩, ⟨ys, 0⟩, false, false, 4⟩ : Dk) = E4 at *
  generalize (⟨⟨xs, xs.length⟩, ⟨ys, ys.length⟩, false, false, 3⟩ : Dk) = E5 at *
  generalize (⟨⟨xs, xs.length⟩, ⟨ys, ys.length⟩, true, false, 2⟩ : Dk) = E6 at *
  generalize (⟨⟨[], 0⟩, ⟨ys, ys.length⟩, true, false, 1⟩ : Dk) = E7 at *
  generalize newD = E0 at *
  generalize str ys = Z at *
  generalize xs.length = lx at *
  generalize ys.length = ly at *
  clear r5 f6 g6 hA h0 h1 n0 n1 hk hl
  go_enter Try.func5, Try.ntmps5
  go_upto_region 3 with (first | (go_at_call 7; refine HAW.out.mono ?_; rintro e w0 ⟨rfl, hb0⟩; have HB0 := hid_in hb0; clear hb0))
  go_upto_region 8 with (first | (go_at_call 9; refine (HN.out _ HB0.out).mono ?_; rintro e w1 ⟨g, rfl, q1⟩; have Q1 := hid_in q1; clear q1))
  go_upto_region 9 with (first | (go_at_call 17; refine (HA1.out _ _ Q1.out).mono ?_; rintro e w2 ⟨rfl, q2⟩; have Q2 := hid_in q2; clear q2))
  go_upto_region 11 with (first | (go_at_call 18; refine (HA2.out _ _ Q2.out).mono ?_; rintro e w3 ⟨rfl, q3⟩; have Q3 := hid_in q3; clear q3))
  go_upto_region 12 with (first | (go_at_call 15; refine (HA3.out _ _ Q3.out).mono ?_; rintro e w4 ⟨rfl, q4⟩; have Q4 := hid_in q4; clear q4))
  go_upto_region 13 with (first | (go_at_call 17; refine (HA4.out _ _ Q4.out).mono ?_; rintro e w5 ⟨rfl, q5⟩; have Q5 := hid_in q5; clear q5))
  go_upto_region 14 with (first | (go_at_call 18; refine (HA5.out _ _ Q5.out).mono ?_; rintro e w6 ⟨rfl, q6⟩; have Q6 := hid_in q6; clear q6))
  go_upto_region 15 with (first | (go_at_call 21; refine (HA6.out _ _ Q6.out).mono ?_; rintro e w7 ⟨rfl, q7⟩; have Q7 := hid_in q7; clear q7))
  go_upto_region 16 with (first | (go_at_call 22; refine (HA7.out _ _ Q7.out).mono ?_; rintro e w8 ⟨rfl, q8⟩; have Q8 := hid_in q8; clear q8))
  go_upto_region 17 with (first | (go_at_call 16; refine (HA8.out _ _ Q8.out).mono ?_; rintro e w9 ⟨rfl, rfl⟩))
  go_upto_region 18 with (first | (go_at_call 19; refine (HA9.out _ _ Q8.out).mono ?_; rintro e w10 ⟨rfl, q10⟩; have Q10 := hid_in q10; clear q10))
  go_upto_region 19 with (first | (go_at_call 20; refine (HA10.out _ _ Q10.out).mono ?_; rintro e w11 ⟨rfl, rfl⟩) | (go_at_call 13; refine (HA11.out _ _ Q10.out).mono ?_; rintro e w12 ⟨⟨p12, c12, rfl, hcv⟩, q12⟩; have Q12 := hid_in q12; have hc12 := hcv w12 (Below.refl _ _); clear q12 hcv))
  have hcz := HCV.out _ Q12.out.1
  go_wp2_with (first | (go_at_call 20; refine (HA10.out _ _ Q12.out).mono ?_; rintro e w13 ⟨rfl, rfl⟩))
  go_ret
  exact ⟨rfl, Q12.out.1⟩
set_option maxHeartbeats 2000000 in
set_option maxRecDepth 100000 in
theorem flips_6 (a : World) (calls : Int) (hK : (IntKind.u64.wrap calls).tmod 6 = 5) (p0 p1 : Option Addr) (xs ys : List Nat) (c0 b0 o0 c1 b1 o1 : Nat) (v : Value) (ks : List Int)
    (h0 : Sl a p0 xs c0 b0 o0) (n0 : p0 = none → xs.length = 0 ∧ c0 = 0) (h1 : Sl a p1 ys c1 b1 o1) (n1 : p1 = none → ys.length = 0 ∧ c1 = 0) (hk : Kin a v ks) (hl : xs.length + ys.length ≤ 20000) :
    Calls Try.prog 5 #[.slice p0 xs.length c0, .slice p1 ys.length c1, .int .i64 calls, v] a fun e w' => e = .returned (.bool true) ∧ Below a.heap.size a w' := by
  have HAW := hid_in (awake_any a)
  have HN := hid_in (fun (w : World) (h : Below a.heap.size a w) => new_q h)
  have HA1 : Hid (∀ (W : World) g, Pq a W g newD → Calls Try.prog 17 #[.pointer (some ⟨g, 0, none⟩), .int .i64 0, .slice p0 xs.length c0] W fun e w' => e = .returned (.int .i64 0) ∧ Pq a w' g ⟨⟨xs, 0⟩, ⟨[], 0⟩, false, false, 0⟩) := hid_in (fun W g h => append_q h 0 p0 xs c0 b0 o0 (h0.below h.1) n0 (by simp [arOf, newD]; omega))
  have HA2 : Hid (∀ (W : World) g, Pq a W g ⟨⟨xs, 0⟩, ⟨[], 0⟩, false, false, 0⟩ → Calls Try.prog 18 #[.pointer (some ⟨g, 0, none⟩), .int .i64 0] W fun e w' => e = .returned (.int .i64 0) ∧ Pq a w' g ⟨⟨xs, xs.length⟩, ⟨[], 0⟩, false, false, 0⟩) := hid_in (fun W g h => sync_q h 0)
  have HA3 : Hid (∀ (W : World) g, Pq a W g ⟨⟨xs, xs.length⟩, ⟨[], 0⟩, false, false, 0⟩ → Calls Try.prog 15 #[.pointer (some ⟨g, 0, none⟩), .int .i64 6] W fun e w' => e = .returned (.tuple #[]) ∧ Pq a w' g ⟨⟨xs, xs.length⟩, ⟨[], 0⟩, false, false, 6⟩) := hid_in (fun W g h => arm_q h 6 (by decide))
  have HA4 : Hid (∀ (W : World) g, Pq a W g ⟨⟨xs, xs.length⟩, ⟨[], 0⟩, false, false, 6⟩ → Calls Try.prog 17 #[.pointer (some ⟨g, 0, none⟩), .int .i64 1, .slice p1 ys.length c1] W fun e w' => e = .returned (.int .i64 0) ∧ Pq a w' g ⟨⟨xs, xs.length⟩, ⟨ys, 0⟩, false, false, 5⟩) := hid_in (fun W g h => append_q h 1 p1 ys c1 b1 o1 (h1.below h.1) n1 (by simp [arOf]; omega))
  have HA5 : Hid (∀ (W : World) g, Pq a W g ⟨⟨xs, xs.length⟩, ⟨ys, 0⟩, false, false, 5⟩ → Calls Try.prog 18 #[.pointer (some ⟨g, 0, none⟩), .int .i64 1] W fun e w' => e = .returned (.int .i64 0) ∧ Pq a w' g ⟨⟨xs, xs.length⟩, ⟨ys, ys.length⟩, false, false, 4⟩) := hid_in (fun W g h => sync_q h 1)
  have r5 : refE 3 (oth ⟨⟨xs, xs.length⟩, ⟨ys, ys.length⟩, false, false, 4⟩) ⟨⟨xs, xs.length⟩, ⟨ys, ys.length⟩, false, false, 4⟩ = 0 := by simp [refE, oth, liv, isA, arOf]
  have f6 : begE 3 (oth ⟨⟨xs, xs.length⟩, ⟨ys, ys.length⟩, false, false, 4⟩) ⟨⟨xs, xs.length⟩, ⟨ys, ys.length⟩, false, false, 4⟩ = 0 := by unfold begE; rw [r5]; rfl
  have g6 : fliD ⟨⟨xs, xs.length⟩, ⟨ys, ys.length⟩, false, false, 4⟩ = ⟨⟨xs, xs.length⟩, ⟨ys, ys.length⟩, true, false, 3⟩ := by unfold fliD; rw [f6]; unfold begD; rw [r5]; rfl
  have HA6 : Hid (∀ (W : World) g, Pq a W g ⟨⟨xs, xs.length⟩, ⟨ys, ys.length⟩, false, false, 4⟩ → Calls Try.prog 21 #[.pointer (some ⟨g, 0, none⟩)] W fun e w' => e = .returned (.int .i64 0) ∧ Pq a w' g ⟨⟨xs, xs.length⟩, ⟨ys, ys.length⟩, true, false, 3⟩) := hid_in (fun W g h => by
    have k := flip_q h
    rw [f6, g6] at k
    exact k)
  have HA7 : Hid (∀ (W : World) g, Pq a W g ⟨⟨xs, xs.length⟩, ⟨ys, ys.length⟩, true, false, 3⟩ → Calls Try.prog 22 #[.pointer (some ⟨g, 0, none⟩), .int .i64 0] W fun e w' => e = .returned (.int .i64 0) ∧ Pq a w' g ⟨⟨[], 0⟩, ⟨ys, ys.length⟩, true, false, 2⟩) := hid_in (fun W g h => wipe_q h 0)
  have HA8 : Hid (∀ (W : World) g, Pq a W g ⟨⟨[], 0⟩, ⟨ys, ys.length⟩, true, false, 2⟩ → Calls Try.prog 16 #[.pointer (some ⟨g, 0, none⟩)] W fun e w' => e = .returned (.bool false) ∧ w' = W) := hid_in (fun W g h => down_q h)
  have g9 : ∃ A : Ar, cutD ks ⟨⟨[], 0⟩, ⟨ys, ys.length⟩, true, false, 2⟩ = ⟨⟨[], 0⟩, ⟨ys, ys.length⟩, true, false, 0⟩ := by
    refine ⟨⟨[], 0⟩, ?_⟩
    unfold cutD
    simp only [cutAr_all, cutAr_nil]
  obtain ⟨A, hA⟩ := g9
  have HA9 : Hid (∀ (W : World) g, Pq a W g ⟨⟨[], 0⟩, ⟨ys, ys.length⟩, true, false, 2⟩ → Calls Try.prog 19 #[.pointer (some ⟨g, 0, none⟩), v] W fun e w' => e = .returned (.tuple #[]) ∧ Pq a w' g ⟨⟨[], 0⟩, ⟨ys, ys.length⟩, true, false, 0⟩) := hid_in (fun W g h => by
    have k := cut_qi h hk
    rw [hA] at k
    exact k)
  have HA10 : Hid (∀ (W : World) g, Pq a W g ⟨⟨[], 0⟩, ⟨ys, ys.length⟩, true, false, 0⟩ → Calls Try.prog 20 #[.pointer (some ⟨g, 0, none⟩)] W fun e w' => e = .returned (.int .i64 1) ∧ w' = W) := hid_in (fun W g h => live_q h)
  have HA11 : Hid (∀ (W : World) g, Pq a W g ⟨⟨[], 0⟩, ⟨ys, ys.length⟩, true, false, 0⟩ → Calls Try.prog 13 #[.pointer (some ⟨g, 0, none⟩), .int .i64 1] W fun e w' => (∃ p c, e = .returned (.slice p ys.length c) ∧ ∀ W', Below w'.heap.size w' W' → (convert 34 9 (.slice p ys.length c)).run Try.prog W' = .ok (.string (str ys)) W') ∧ Pq a w' g ⟨⟨[], 0⟩, ⟨ys, ys.length⟩, true, false, 0⟩) := hid_in (fun W g h => read_q h 1)
  have HCV : Hid (∀ W : World, Below a.heap.size a W → (convert 34 9 (.slice p1 ys.length c1)).run Try.prog W = .ok (.string (str ys)) W) := hid_in (fun W h => Nd.conv_sl (h1.below h))
  have hlt : ¬ (20000 : Int) < (xs.length : Int) + (ys.length : Int) := by omega
  have hlx : (xs.length : Int) + (ys.length : Int) ≤ 20000 := by omega
  have hp0 : 0 ≤ (xs.length : Int) + (ys.length : Int) := by omega
  have z1 : wrap64 ((xs.length : Int) + (ys.length : Int)) = (xs.length : Int) + (ys.length : Int) := by unfold wrap64; omega
  have z2 : IntKind.i64.wrap ((xs.length : Int) + (ys.length : Int)) = (xs.length : Int) + (ys.length : Int) := by rw [IntKind.wrap_i64]; omega
  generalize (⟨⟨xs, 0⟩, ⟨[], 0⟩, false, false, 0⟩ : Dk) = E1 at *
  generalize (⟨⟨xs, xs.length⟩, ⟨[], 0⟩, false, false, 0⟩ : Dk) = E2 at *
  generalize (⟨⟨xs, xs.length⟩, ⟨[], 0⟩, false, false, 6⟩ : Dk) = E3 at *
  generalize (⟨⟨[], 0⟩, ⟨ys, ys.length⟩, true, false, 0⟩ : Dk) = E8 at *
  generalize (⟨⟨xs, xs.length⟩, ⟨ys, 0⟩, false, false, 5⟩ : Dk) = E4 at *
  generalize (⟨⟨xs, xs.length⟩, ⟨ys, ys.length⟩, false, false, 4⟩ : Dk) = E5 at *
  generalize (⟨⟨xs, xs.length⟩, ⟨ys, ys.length⟩, true, false, 3⟩ : Dk) = E6 at *
  generalize (⟨⟨[], 0⟩, ⟨ys, ys.length⟩, true, false, 2⟩ : Dk) = E7 at *
  generalize newD = E0 at *
  generalize str ys = Z at *
  generalize xs.length = lx at *
  generalize ys.length = ly at *
  clear r5 f6 g6 hA h0 h1 n0 n1 hk hl
  go_enter Try.func5, Try.ntmps5
  go_upto_region 3 with (first | (go_at_call 7; refine HAW.out.mono ?_; rintro e w0 ⟨rfl, hb0⟩; have HB0 := hid_in hb0; clear hb0))
  go_upto_region 8 with (first | (go_at_call 9; refine (HN.out _ HB0.out).mono ?_; rintro e w1 ⟨g, rfl, q1⟩; have Q1 := hid_in q1; clear q1))
  go_upto_region 9 with (first | (go_at_call 17; refine (HA1.out _ _ Q1.out).mono ?_; rintro e w2 ⟨rfl, q2⟩; have Q2 := hid_in q2; clear q2))
  go_upto_region 11 with (first | (go_at_call 18; refine (HA2.out _ _ Q2.out).mono ?_; rintro e w3 ⟨rfl, q3⟩; have Q3 := hid_in q3; clear q3))
  go_upto_region 12 with (first | (go_at_call 15; refine (HA3.out _ _ Q3.out).mono ?_; rintro e w4 ⟨rfl, q4⟩; have Q4 := hid_in q4; clear q4))
  go_upto_region 13 with (first | (go_at_call 17; refine (HA4.out _ _ Q4.out).mono ?_; rintro e w5 ⟨rfl, q5⟩; have Q5 := hid_in q5; clear q5))
  go_upto_region 14 with (first | (go_at_call 18; refine (HA5.out _ _ Q5.out).mono ?_; rintro e w6 ⟨rfl, q6⟩; have Q6 := hid_in q6; clear q6))
  go_upto_region 15 with (first | (go_at_call 21; refine (HA6.out _ _ Q6.out).mono ?_; rintro e w7 ⟨rfl, q7⟩; have Q7 := hid_in q7; clear q7))
  go_upto_region 16 with (first | (go_at_call 22; refine (HA7.out _ _ Q7.out).mono ?_; rintro e w8 ⟨rfl, q8⟩; have Q8 := hid_in q8; clear q8))
  go_upto_region 17 with (first | (go_at_call 16; refine (HA8.out _ _ Q8.out).mono ?_; rintro e w9 ⟨rfl, rfl⟩))
  go_upto_region 18 with (first | (go_at_call 19; refine (HA9.out _ _ Q8.out).mono ?_; rintro e w10 ⟨rfl, q10⟩; have Q10 := hid_in q10; clear q10))
  go_upto_region 19 with (first | (go_at_call 20; refine (HA10.out _ _ Q10.out).mono ?_; rintro e w11 ⟨rfl, rfl⟩) | (go_at_call 13; refine (HA11.out _ _ Q10.out).mono ?_; rintro e w12 ⟨⟨p12, c12, rfl, hcv⟩, q12⟩; have Q12 := hid_in q12; have hc12 := hcv w12 (Below.refl _ _); clear q12 hcv))
  have hcz := HCV.out _ Q12.out.1
  go_wp2_with (first | (go_at_call 20; refine (HA10.out _ _ Q12.out).mono ?_; rintro e w13 ⟨rfl, rfl⟩))
  go_ret
  exact ⟨rfl, Q12.out.1⟩
set_option maxHeartbeats 1000000 in
set_option maxRecDepth 100000 in
theorem flips_big (a : World) (calls : Int) (p0 p1 : Option Addr) (lx ly c0 c1 : Nat) (v : Value) (h0 : lx ≤ 4611686018427387904) (h1 : ly ≤ 4611686018427387903) (hl : ¬ lx + ly ≤ 20000) :
    Calls Try.prog 5 #[.slice p0 lx c0, .slice p1 ly c1, .int .i64 calls, v] a fun e w' => e = .returned (.bool true) ∧ Below a.heap.size a w' := by
  have HAW := hid_in (awake_any a)
  have hlt : (20000 : Int) < (lx : Int) + (ly : Int) := by omega
  have z1 : wrap64 ((lx : Int) + (ly : Int)) = (lx : Int) + (ly : Int) := by unfold wrap64; omega
  have z2 : IntKind.i64.wrap ((lx : Int) + (ly : Int)) = (lx : Int) + (ly : Int) := by rw [IntKind.wrap_i64]; omega
  clear hl h0 h1
  go_enter Try.func5, Try.ntmps5
  go_upto_region 3 with (first | (go_at_call 7; refine HAW.out.mono ?_; rintro e w0 ⟨rfl, hb0⟩; have HB0 := hid_in hb0; clear hb0))
  go_wp2_with fail
  go_ret
  exact ⟨rfl, HB0.out⟩
theorem flips_any (a : World) (calls : Int) (p0 p1 : Option Addr) (xs ys : List Nat) (c0 b0 o0 c1 b1 o1 : Nat) (v : Value) (ks : List Int)
    (h0 : Sl a p0 xs c0 b0 o0) (n0 : p0 = none → xs.length = 0 ∧ c0 = 0) (h1 : Sl a p1 ys c1 b1 o1) (n1 : p1 = none → ys.length = 0 ∧ c1 = 0) (hk : Kin a v ks) (hx : xs.length ≤ 4611686018427387903) (hy : ys.length ≤ 4611686018427387903) :
    Calls Try.prog 5 #[.slice p0 xs.length c0, .slice p1 ys.length c1, .int .i64 calls, v] a fun e w' => e = .returned (.bool true) ∧ Below a.heap.size a w' := by
  by_cases hl : xs.length + ys.length ≤ 20000
  · rcases kmod_cases calls with hK | hK | hK | hK | hK | hK
    · exact flips_1 a calls hK p0 p1 xs ys c0 b0 o0 c1 b1 o1 v ks h0 n0 h1 n1 hk hl
    · exact flips_2 a calls hK p0 p1 xs ys c0 b0 o0 c1 b1 o1 v ks h0 n0 h1 n1 hk hl
    · exact flips_3 a calls hK p0 p1 xs ys c0 b0 o0 c1 b1 o1 v ks h0 n0 h1 n1 hk hl
    · exact flips_4 a calls hK p0 p1 xs ys c0 b0 o0 c1 b1 o1 v ks h0 n0 h1 n1 hk hl
    · exact flips_5 a calls hK p0 p1 xs ys c0 b0 o0 c1 b1 o1 v ks h0 n0 h1 n1 hk hl
    · exact flips_6 a calls hK p0 p1 xs ys c0 b0 o0 c1 b1 o1 v ks h0 n0 h1 n1 hk hl
  · exact flips_big a calls p0 p1 _ _ c0 c1 v (by omega) (by omega) hl
end Go.Proofs.Ytcdmdmbdgmihfaa.Pt
