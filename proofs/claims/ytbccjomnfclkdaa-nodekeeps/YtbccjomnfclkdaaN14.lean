/-
  The walk of awake.
-/
import Derived.Test.YtbccjomnfclkdaaN12
namespace Go.Proofs.Ytbccjomnfclkdaa
open Go.RowKit
theorem decode_any (bs : List Nat) (p : Option Addr) (cap b off : Nat) (w : World) (hsl : Sl w p bs cap b off) (hno : p = none → bs.length = 0 ∧ cap = 0) (hre : bs.length ≤ 140737488355328) :
    Calls Try.prog 15 #[.slice p bs.length cap] w fun e w' => (∃ v k, e = .returned (.tuple #[v, .int .i64 k]) ∧ Fresh w.heap.size v ∧ ((k = 0 ∧ ∃ n, Means bs n ∧ IsN w' v n) ∨ (k = 21 ∧ (∀ n, ¬ Means bs n) ∧ IsN w' v zeroN))) ∧ Below w.heap.size w w' := by
  refine (decode_p bs p cap b off w hsl hno hre).mono ?_
  rintro e w' ⟨⟨v, k, rfl, hf, h⟩, hb⟩
  refine ⟨⟨v, k, rfl, hf, ?_⟩, hb⟩
  rcases h with ⟨rfl, ⟨h1, h2⟩, h3⟩ | ⟨rfl, h1, h2⟩
  · exact .inl ⟨rfl, _, ⟨h2, h3.ok, enc_rd hsl.lt h1 h2⟩, h3⟩
  · refine .inr ⟨rfl, fun n hn => h1 ?_, h2⟩
    rw [hn.rd]
    exact ⟨rfl, hn.1⟩
end Go.Proofs.Ytbccjomnfclkdaa
namespace Go.Proofs.Ytbccjomnfclkdaa
open Go.RowKit
def abN : Nd := ⟨1, ⟨#[97, 98]⟩, 0, [], []⟩
def dirN : Nd := ⟨3, ByteArray.empty, 0, [], []⟩
theorem abN_right : right abN := .inl ⟨rfl, by decide, by decide, rfl, rfl, rfl⟩
theorem abN_enc : enc abN = [1, 2, 97, 98] := by decide +kernel
theorem dirN_means : Means [3, 0] dirN := ⟨.inr (.inr ⟨rfl, rfl, rfl, rfl, by simp [dirN], fun i hi => by simp [dirN] at hi⟩), ⟨fun d h => (by cases h), fun d h => (by cases h), i64_3, i64_0⟩, by decide +kernel⟩
theorem bad_means : ∀ n, ¬ Means [1, 0] n := by
  intro n hn
  have h := hn.rd
  have e : (rd ([1, 0], 0)).1.kind = 1 ∧ (rd ([1, 0], 0)).1.data.size = 0 := by decide +kernel
  rw [h] at e
  rcases hn.1 with ⟨_, q, _⟩ | ⟨q, _⟩ | ⟨q, _⟩
  · have := e.2; simp only at this; omega
  · have := e.1; simp only at this; omega
  · have := e.1; simp only at this; omega
set_option maxHeartbeats 2000000 in
set_option maxRecDepth 100000 in
theorem awake_any (w : World) : Calls Try.prog 9 #[] w fun e w' => e = .returned (.bool true) ∧ Below w.heap.size w w' := by
  have HE : Hid (∀ W, Calls Try.prog 11 #[.agg #[.int .i64 1, .string ⟨#[97, 98]⟩, .int .i64 0, .slice none 0 0, .slice none 0 0]] W fun e w' => (∃ p cap b, e = .returned (.tuple #[.slice p 4 cap, .int .i64 0]) ∧ Sl w' p [1, 2, 97, 98] cap b 0) ∧ Below W.heap.size W w') := fun W => by
    refine (encode_any W _ abN ⟨⟨_, _, rfl, Els.nil _ _, Els.nil _ _⟩, ⟨fun d h => (by cases h), fun d h => (by cases h), i64_1, i64_0⟩⟩ ⟨by decide, fun x h => by cases h⟩).mono ?_
    rintro e w' ⟨⟨u, k, rfl, h⟩, hb⟩
    rcases h with ⟨rfl, _, h2⟩ | ⟨_, h2, _⟩
    · rw [abN_enc] at h2
      obtain ⟨p, cap, b, rfl, hs, _⟩ := own_sl (by decide) h2
      exact ⟨⟨p, cap, b, rfl, hs⟩, hb⟩
    · exact absurd abN_right h2
  have HD : Hid (∀ (W : World) g, Sl W (some ⟨g, 0, none⟩) [3, 0] 2 g 0 → Calls Try.prog 15 #[.slice (some ⟨g, 0, none⟩) 2 2] W fun e w' => (∃ d s pp np cp pi ni ci, e = .returned (.tuple #[.agg #[.int .i64 3, .string d, .int .i64 s, .slice pp np cp, .slice pi ni ci], .int .i64 0])) ∧ Below W.heap.size W w') := fun W g hs => by
    refine (decode_any [3, 0] _ 2 g 0 W hs (fun h => by cases h) (by decide)).mono ?_
    rintro e w' ⟨⟨v, k, rfl, _, h⟩, hb⟩
    rcases h with ⟨rfl, n, h1, h2⟩ | ⟨_, h1, _⟩
    · obtain rfl := h1.unique dirN_means
      obtain ⟨pp, cp, pi, ci, rfl⟩ := h2.form
      exact ⟨⟨_, _, _, _, _, _, _, _, rfl⟩, hb⟩
    · exact absurd dirN_means (h1 _)
  have HF : Hid (∀ (W : World) g, Sl W (some ⟨g, 0, none⟩) [1, 0] 2 g 0 → Calls Try.prog 15 #[.slice (some ⟨g, 0, none⟩) 2 2] W fun e w' => (∃ k d s pp np cp pi ni ci, e = .returned (.tuple #[.agg #[.int .i64 k, .string d, .int .i64 s, .slice pp np cp, .slice pi ni ci], .int .i64 21])) ∧ Below W.heap.size W w') := fun W g hs => by
    refine (decode_any [1, 0] _ 2 g 0 W hs (fun h => by cases h) (by decide)).mono ?_
    rintro e w' ⟨⟨v, k, rfl, _, h⟩, hb⟩
    rcases h with ⟨_, n, h1, _⟩ | ⟨rfl, _, h2⟩
    · exact absurd h1 (bad_means _)
    · obtain ⟨pp, cp, pi, ci, rfl⟩ := h2.form
      exact ⟨⟨_, _, _, _, _, _, _, _, _, rfl⟩, hb⟩
  have HL3 : Hid (∀ W : World, Sl (W.alloc (.cells #[.int .u8 3, .int .u8 0] 5)) (some ⟨W.heap.size, 0, none⟩) [3, 0] 2 W.heap.size 0) := fun W => sl_lit W [3, 0] _ _ rfl (by simp) (by simp)
  have HL1 : Hid (∀ W : World, Sl (W.alloc (.cells #[.int .u8 1, .int .u8 0] 5)) (some ⟨W.heap.size, 0, none⟩) [1, 0] 2 W.heap.size 0) := fun W => sl_lit W [1, 0] _ _ rfl (by simp) (by simp)
  go_enter Try.func9, Try.ntmps9
  go_upto_region 2 with (first | (go_at_call 11; refine (HE.out _).mono ?_; rintro e w1 ⟨⟨p1, cap1, b1, rfl, hs1⟩, hb1⟩; have HS1 := hid_in hs1; have HB1 := hid_in hb1; clear hs1 hb1 HE))
  go_wp2_with fail
  refine (HD.out _ _ (HL3.out w1)).mono ?_
  rintro e w2 ⟨⟨d2, s2, pp2, np2, cp2, pi2, ni2, ci2, rfl⟩, hb2⟩
  have HB2 := hid_in hb2
  clear hb2 HD
  go_upto_region 3 with fail
  obtain ⟨W2, HW2, HR2, HBW2, HS2⟩ := node_row w2 3 s2 d2 (.slice pp2 np2 cp2) (.slice pi2 ni2 ci2)
  refine wp_world HW2.out ?_
  clear HW2
  go_wp2_with fail
  refine (HF.out _ _ (HL1.out W2)).mono ?_
  rintro e w3 ⟨⟨k3, d3, s3, pp3, np3, cp3, pi3, ni3, ci3, rfl⟩, hb3⟩
  have HB3 := hid_in hb3
  clear hb3 HF HL1 HL3
  go_upto_region 4 with fail
  obtain ⟨W4, HW4, HR4, HBW4, HS4⟩ := node_row w3 k3 s3 d3 (.slice pp3 np3 cp3) (.slice pi3 ni3 ci3)
  refine wp_world HW4.out ?_
  clear HW4
  have hb12 : Below w1.heap.size w1 w2 := ((Below.refl _ _).alloc (Nat.le_refl _) _).trans (HB2.out.mono (by simp))
  have hb1W : Below w1.heap.size w1 W2 := hb12.trans (HBW2.out.mono hb12.size)
  have hbW3 : Below W2.heap.size W2 w3 := ((Below.refl _ _).alloc (Nat.le_refl _) _).trans (HB3.out.mono (by simp))
  have hbW4 : Below W2.heap.size W2 W4 := hbW3.trans (HBW4.out.mono hbW3.size)
  have hb14 : Below w1.heap.size w1 W4 := hb1W.trans (hbW4.mono hb1W.size)
  have hcv : (convert 33 9 (.slice p1 4 cap1)).run Try.prog W4 = .ok (.string ⟨#[1, 2, 97, 98]⟩) W4 := conv_sl (HS1.out.below hb14)
  have c0 : W4.cell? ⟨w2.heap.size, 0, none⟩ = some (.int .i64 3) := (HR2.out.below hbW4 HR2.out.lt).cell 0
  have HBF : Hid (Below w.heap.size w W4) := HB1.out.trans (hb14.mono HB1.out.size)
  clear hb12 hb1W hbW3 hbW4 hb14 HB1 HB2 HB3 HS1 HR2 HR4 HBW2 HBW4 HS2 HS4
  go_wp2_with fail
  go_ret
  exact ⟨rfl, HBF.out⟩
end Go.Proofs.Ytbccjomnfclkdaa
