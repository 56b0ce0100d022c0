/-
  Calls on a platter, in memory that is new; do, all of it; awake.
-/
import Derived.Test.YtcdmdmbdgmihfaaA00
import Derived.Test.YtcdmdmbdgmihfaaA01
import Derived.Test.YtcdmdmbdgmihfaaA02
import Derived.Test.YtcdmdmbdgmihfaaA03
import Derived.Test.YtcdmdmbdgmihfaaA04
import Derived.Test.YtcdmdmbdgmihfaaA05
import Derived.Test.YtcdmdmbdgmihfaaA06
import Derived.Test.YtcdmdmbdgmihfaaA07
import Derived.Test.YtcdmdmbdgmihfaaA08
import Derived.Test.YtcdmdmbdgmihfaaA09
import Derived.Test.YtcdmdmbdgmihfaaA10
namespace Go.Proofs.Ytcdmdmbdgmihfaa.Pt
open Go.RowKit
open Nd (Row wp_world grownBy_setCell below_of_grown grownBy_trans grown_of_below grownBy_refl u8v Grew Moved Sl hid_in i5h str)
theorem do_any {w : World} {B g : Nat} {v0 v1 : Value} {d : Dk} (h : PtV w B g v0 v1 d) (c : Cl1) (hb : ∃ p cap b off, c.bv = .slice p c.xs.length cap ∧ Sl w p c.xs cap b off ∧ (p = none → c.xs.length = 0 ∧ cap = 0)) (hlx : (arOf c.a d).bs.length + c.xs.length ≤ 140737488355328) (hn : c.n ≤ 9223372036854775807) (hks : Kp w (FS g v0 v1) c.kv c.ks) :
    Calls Try.prog 10 #[.pointer (some ⟨g, 0, none⟩), .agg #[.int .i64 c.K, .int .i64 c.a, c.bv, .int .i64 c.n, c.kv]] w fun e w' => e = .returned (.int .i64 (doE (kmod c.K) c.a d)) ∧ Stp w w' B g v0 v1 (doD (kmod c.K) c.a c.xs c.n c.ks d) := by
  have hK0 : (IntKind.u64.wrap c.K).tmod 6 = kmod c.K := rfl
  rcases kmod_cases c.K with hK | hK | hK | hK | hK | hK
  · rw [hK] at hK0 ⊢
    exact do_0 h c hK0 hb hlx
  · rw [hK] at hK0 ⊢
    exact do_1 h c hK0
  · rw [hK] at hK0 ⊢
    exact do_2 h c hK0
  · rw [hK] at hK0 ⊢
    exact do_3 h c hK0
  · rw [hK] at hK0 ⊢
    exact do_4 h c hK0 hn
  · rw [hK] at hK0 ⊢
    exact do_5 h c hK0 hks
/-- a platter of one's own -/
def Pq (a w : World) (g : Nat) (d : Dk) : Prop := Below a.heap.size a w ∧ ∃ v0 v1, PtV w a.heap.size g v0 v1 d
theorem Pq.below {a w w' : World} {g : Nat} {d : Dk} (h : Pq a w g d) (hb : Below w.heap.size w w') : Pq a w' g d := by
  obtain ⟨h1, v0, v1, h2⟩ := h
  exact ⟨h1.trans (hb.mono h1.size), v0, v1, h2.below hb⟩
theorem Pq.stp {a w w' : World} {g : Nat} {d d' : Dk} {v0 v1 : Value} (h1 : Below a.heap.size a w) (h2 : PtV w a.heap.size g v0 v1 d) (hs : Stp w w' a.heap.size g v0 v1 d') : Pq a w' g d' :=
  ⟨Stp.after h2 h1 hs, hs.pt⟩
theorem new_q {a w : World} (hb : Below a.heap.size a w) : Calls Try.prog 9 #[] w fun e w' => ∃ g, e = .returned (.pointer (some ⟨g, 0, none⟩)) ∧ Pq a w' g newD := by
  refine (new_any w).mono ?_
  rintro e w' ⟨g, rfl, hp, hb2⟩
  exact ⟨g, rfl, hb.trans (hb2.mono hb.size), _, _, hp.base_mono hb.size⟩
theorem sync_q {a w : World} {g : Nat} {d : Dk} (h : Pq a w g d) (x : Int) : Calls Try.prog 18 #[.pointer (some ⟨g, 0, none⟩), .int .i64 x] w fun e w' => e = .returned (.int .i64 (begE 1 x d)) ∧ Pq a w' g (synD x d) := by
  obtain ⟨h1, v0, v1, h2⟩ := h
  exact (sync_any h2 x).mono fun e w' k => ⟨k.1, Pq.stp h1 h2 k.2⟩
theorem wipe_q {a w : World} {g : Nat} {d : Dk} (h : Pq a w g d) (x : Int) : Calls Try.prog 22 #[.pointer (some ⟨g, 0, none⟩), .int .i64 x] w fun e w' => e = .returned (.int .i64 (begE 2 x d)) ∧ Pq a w' g (wipD x d) := by
  obtain ⟨h1, v0, v1, h2⟩ := h
  exact (wipe_any h2 x).mono fun e w' k => ⟨k.1, Pq.stp h1 h2 k.2⟩
theorem flip_q {a w : World} {g : Nat} {d : Dk} (h : Pq a w g d) : Calls Try.prog 21 #[.pointer (some ⟨g, 0, none⟩)] w fun e w' => e = .returned (.int .i64 (begE 3 (oth d) d)) ∧ Pq a w' g (fliD d) := by
  obtain ⟨h1, v0, v1, h2⟩ := h
  exact (flip_any h2).mono fun e w' k => ⟨k.1, Pq.stp h1 h2 k.2⟩
theorem arm_q {a w : World} {g : Nat} {d : Dk} (h : Pq a w g d) (n : Int) (hn : n ≤ 9223372036854775807) : Calls Try.prog 15 #[.pointer (some ⟨g, 0, none⟩), .int .i64 n] w fun e w' => e = .returned (.tuple #[]) ∧ Pq a w' g (armD n d) := by
  obtain ⟨h1, v0, v1, h2⟩ := h
  exact (arm_any h2 n hn).mono fun e w' k => ⟨k.1, Pq.stp h1 h2 k.2⟩
theorem append_q {a w : World} {g : Nat} {d : Dk} (h : Pq a w g d) (x : Int) (p : Option Addr) (xs : List Nat) (cap b off : Nat) (hsl : Sl w p xs cap b off) (hno : p = none → xs.length = 0 ∧ cap = 0) (hl : (arOf x d).bs.length + xs.length ≤ 140737488355328) :
    Calls Try.prog 17 #[.pointer (some ⟨g, 0, none⟩), .int .i64 x, .slice p xs.length cap] w fun e w' => e = .returned (.int .i64 (appE x d)) ∧ Pq a w' g (appD x xs d) := by
  obtain ⟨h1, v0, v1, h2⟩ := h
  exact (append_any h2 x p xs cap b off hsl hno hl).mono fun e w' k => ⟨k.1, Pq.stp h1 h2 k.2⟩
theorem cut_q0 {a w : World} {g : Nat} {d : Dk} (h : Pq a w g d) : Calls Try.prog 19 #[.pointer (some ⟨g, 0, none⟩), .slice none 0 0] w fun e w' => e = .returned (.tuple #[]) ∧ Pq a w' g (cutD [] d) := by
  obtain ⟨h1, v0, v1, h2⟩ := h
  exact (cut_any h2 _ [] ⟨none, 0, rfl, by simp, fun h => absurd rfl h⟩).mono fun e w' k => ⟨k.1, Pq.stp h1 h2 k.2⟩
theorem cut_q1 {a w : World} {g : Nat} {d : Dk} (h : Pq a w g d) (k : Int) : Calls Try.prog 19 #[.pointer (some ⟨g, 0, none⟩), .slice (some ⟨w.heap.size, 0, none⟩) 1 1] (w.alloc (.cells #[.int .i64 k] 3)) fun e w' => e = .returned (.tuple #[]) ∧ Pq a w' g (cutD [k] d) := by
  obtain ⟨h1, v0, v1, h2⟩ := h.below (w' := w.alloc (.cells #[.int .i64 k] 3)) ((Below.refl _ _).alloc (Nat.le_refl _) _)
  have hr : Row (w.alloc (.cells #[.int .i64 k] 3)) w.heap.size [.int .i64 k] 3 := Row.new w _ 3
  have hn := h2.typed hr (by decide) (by decide)
  refine (cut_any h2 _ [k] ⟨_, 1, rfl, by simp, fun _ => ⟨_, 0, rfl, fun W hW i x hx => ?_⟩⟩).mono fun e w' k => ⟨k.1, Pq.stp h1 h2 k.2⟩
  have hi : i = 0 := by have := (List.getElem?_eq_some_iff.1 hx).1; simp at this; exact this
  subst hi
  have e := (hr.grew hW hn).cell 0
  simp at hx
  subst hx
  exact e
/-- a slice of bytes of the call's own, of which the text is read -/
theorem read_q {a w : World} {g : Nat} {d : Dk} (h : Pq a w g d) (x : Int) : Calls Try.prog 13 #[.pointer (some ⟨g, 0, none⟩), .int .i64 x] w fun e w' => (∃ p c, e = .returned (.slice p (bytesOf x d).length c) ∧ ∀ W, Below w'.heap.size w' W → (convert 34 9 (.slice p (bytesOf x d).length c)).run Try.prog W = .ok (.string (str (bytesOf x d))) W) ∧ Pq a w' g d := by
  obtain ⟨h1, v0, v1, h2⟩ := h
  refine (read_any h2 x).mono ?_
  rintro e w' ⟨v, rfl, ho, hb⟩
  have hlt : ∀ y ∈ bytesOf x d, y < 256 := by
    unfold bytesOf
    split
    · exact (arOf_ok h2.ok).2.1
    · intro y hy; cases hy
  obtain ⟨p, c, b, rfl, hsl, -⟩ := Nd.own_sl hlt ho
  exact ⟨⟨p, c, rfl, fun W hW => Nd.conv_sl (hsl.below hW)⟩, h1.trans (hb.mono h1.size), v0, v1, h2.below hb⟩
theorem synced_q {a w : World} {g : Nat} {d : Dk} (h : Pq a w g d) (x : Int) : Calls Try.prog 14 #[.pointer (some ⟨g, 0, none⟩), .int .i64 x] w fun e w' => e = .returned (.int .i64 (if isA x then ((arOf x d).sy : Int) else 0)) ∧ w' = w := by
  obtain ⟨h1, v0, v1, h2⟩ := h
  exact synced_any h2 x
theorem live_q {a w : World} {g : Nat} {d : Dk} (h : Pq a w g d) : Calls Try.prog 20 #[.pointer (some ⟨g, 0, none⟩)] w fun e w' => e = .returned (.int .i64 (liv d.live)) ∧ w' = w := by
  obtain ⟨h1, v0, v1, h2⟩ := h
  exact live_any h2
theorem down_q {a w : World} {g : Nat} {d : Dk} (h : Pq a w g d) : Calls Try.prog 16 #[.pointer (some ⟨g, 0, none⟩)] w fun e w' => e = .returned (.bool d.down) ∧ w' = w := by
  obtain ⟨h1, v0, v1, h2⟩ := h
  exact down_any h2
def A1 : Dk := ⟨⟨[97, 98], 0⟩, ⟨[], 0⟩, false, false, 0⟩
def A2 : Dk := ⟨⟨[97, 98], 2⟩, ⟨[], 0⟩, false, false, 0⟩
def A3 : Dk := ⟨⟨[97, 98, 99, 100], 2⟩, ⟨[], 0⟩, false, false, 0⟩
def A4 : Dk := ⟨⟨[97, 98, 99], 3⟩, ⟨[], 0⟩, false, false, 0⟩
set_option maxHeartbeats 1000000 in
set_option maxRecDepth 100000 in
theorem awake_any (a : World) : Calls Try.prog 7 #[] a fun e w' => e = .returned (.bool true) ∧ Below a.heap.size a w' := by
  have HN := hid_in (new_q (Below.refl a.heap.size a))
  have e1 : appD 0 [97, 98] newD = A1 := by kernel_rfl
  have e2 : synD 0 A1 = A2 := by kernel_rfl
  have e3 : appD 0 [99, 100] A2 = A3 := by kernel_rfl
  have e4 : cutD [1] A3 = A4 := by kernel_rfl
  have HL1 : Hid (∀ (W : World) g fz, Pq a W g newD → Calls Try.prog 17 #[.pointer (some ⟨g, 0, none⟩), .int .i64 0, .slice (some ⟨W.heap.size, 0, none⟩) 2 2] (W.alloc (.cells #[.int .u8 97, .int .u8 98] 5 fz)) fun e w' => e = .returned (.int .i64 0) ∧ Pq a w' g A1) := fun W g fz h => by
    have k := append_q (h.below (w' := W.alloc (.cells #[.int .u8 97, .int .u8 98] 5 fz)) ((Below.refl _ _).alloc (Nat.le_refl _) _)) 0 (some ⟨W.heap.size, 0, none⟩) [97, 98] 2 W.heap.size 0 (Nd.sl_lit W [97, 98] _ fz rfl (by decide) (by decide)) (fun h => by cases h) (by decide)
    rw [e1] at k
    exact k
  have HL3 : Hid (∀ (W : World) g fz, Pq a W g A2 → Calls Try.prog 17 #[.pointer (some ⟨g, 0, none⟩), .int .i64 0, .slice (some ⟨W.heap.size, 0, none⟩) 2 2] (W.alloc (.cells #[.int .u8 99, .int .u8 100] 5 fz)) fun e w' => e = .returned (.int .i64 0) ∧ Pq a w' g A3) := fun W g fz h => by
    have k := append_q (h.below (w' := W.alloc (.cells #[.int .u8 99, .int .u8 100] 5 fz)) ((Below.refl _ _).alloc (Nat.le_refl _) _)) 0 (some ⟨W.heap.size, 0, none⟩) [99, 100] 2 W.heap.size 0 (Nd.sl_lit W [99, 100] _ fz rfl (by decide) (by decide)) (fun h => by cases h) (by decide)
    rw [e3] at k
    exact k
  have HL2 : Hid (∀ (W : World) g, Pq a W g A1 → Calls Try.prog 18 #[.pointer (some ⟨g, 0, none⟩), .int .i64 0] W fun e w' => e = .returned (.int .i64 0) ∧ Pq a w' g A2) := fun W g h => by
    have k := sync_q h 0
    rw [e2] at k
    exact k
  have HL4 : Hid (∀ (W : World) g, Pq a W g A3 → Calls Try.prog 19 #[.pointer (some ⟨g, 0, none⟩), .slice (some ⟨W.heap.size, 0, none⟩) 1 1] (W.alloc (.cells #[.int .i64 1] 3)) fun e w' => e = .returned (.tuple #[]) ∧ Pq a w' g A4) := fun W g h => by
    have k := cut_q1 h 1
    rw [e4] at k
    exact k
  have HL5 : Hid (∀ (W : World) g, Pq a W g A4 → Calls Try.prog 13 #[.pointer (some ⟨g, 0, none⟩), .int .i64 0] W fun e w' => (∃ p c, e = .returned (.slice p 3 c) ∧ ∀ W', Below w'.heap.size w' W' → (convert 34 9 (.slice p 3 c)).run Try.prog W' = .ok (.string ⟨#[97, 98, 99]⟩) W') ∧ Pq a w' g A4) := fun W g h => read_q h 0
  have HL6 : Hid (∀ (W : World) g, Pq a W g A4 → Calls Try.prog 14 #[.pointer (some ⟨g, 0, none⟩), .int .i64 0] W fun e w' => e = .returned (.int .i64 3) ∧ w' = W) := fun W g h => synced_q h 0
  have HL7 : Hid (∀ (W : World) g, Pq a W g A4 → Calls Try.prog 22 #[.pointer (some ⟨g, 0, none⟩), .int .i64 0] W fun e w' => e = .returned (.int .i64 6) ∧ Pq a w' g A4) := fun W g h => wipe_q h 0
  have HL8 : Hid (∀ (W : World) g, Pq a W g A4 → Calls Try.prog 17 #[.pointer (some ⟨g, 0, none⟩), .int .i64 2, .slice none 0 0] W fun e w' => e = .returned (.int .i64 1) ∧ Pq a w' g A4) := fun W g h => append_q h 2 none [] 0 0 0 ⟨by simp, by simp, by simp, by simp, by simp⟩ (fun _ => ⟨rfl, rfl⟩) (by decide)
  have kc := fun (w : World) (C : Array Value) (n c : Nat) => Lib.run_convert_bytes_const (P := Try.prog) w 34 5 C n c Try.underlying34 Try.underlying5
  clear e1 e2 e3 e4
  generalize A1 = D1 at *
  generalize A2 = D2 at *
  generalize A3 = D3 at *
  generalize A4 = D4 at *
  go_enter Try.func7, Try.ntmps7
  go_upto_region 4 with (first | (go_at_call 9; refine HN.out.mono ?_; rintro e w1 ⟨g, rfl, h1⟩; have H1 := hid_in h1; clear h1))
  go_upto_region 5 with (first | (go_at_call 17; refine (HL1.out _ _ _ H1.out).mono ?_; rintro e w2 ⟨rfl, h2⟩; have H2 := hid_in h2; clear h2))
  go_upto_region 6 with (first | (go_at_call 18; refine (HL2.out _ _ H2.out).mono ?_; rintro e w3 ⟨rfl, h3⟩; have H3 := hid_in h3; clear h3))
  go_upto_region 7 with (first | (go_at_call 17; refine (HL3.out _ _ _ H3.out).mono ?_; rintro e w4 ⟨rfl, h4⟩; have H4 := hid_in h4; clear h4))
  go_upto_region 8 with (first | (go_at_call 19; refine (HL4.out _ _ H4.out).mono ?_; rintro e w5 ⟨rfl, h5⟩; have H5 := hid_in h5; clear h5))
  go_wp2_with (first | (go_at_call 13; refine (HL5.out _ _ H5.out).mono ?_; rintro e w6 ⟨⟨p6, c6, rfl, hcv⟩, h6⟩; have H6 := hid_in h6; have hc6 := hcv w6 (Below.refl _ _); clear h6 hcv) | (go_at_call 14; refine (HL6.out _ _ H6.out).mono ?_; rintro e w7 ⟨rfl, rfl⟩) | (go_at_call 22; refine (HL7.out _ _ H6.out).mono ?_; rintro e w8 ⟨rfl, h8⟩; have H8 := hid_in h8; clear h8) | (go_at_call 17; refine (HL8.out _ _ H8.out).mono ?_; rintro e w9 ⟨rfl, h9⟩; have H9 := hid_in h9; clear h9))
  go_ret
  exact ⟨rfl, H9.out.1⟩
end Go.Proofs.Ytcdmdmbdgmihfaa.Pt
