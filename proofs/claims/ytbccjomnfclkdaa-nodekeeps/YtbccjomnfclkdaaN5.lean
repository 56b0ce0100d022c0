/-
  Fields that are read, by states: what is still to be read and what was wrong; node.number.
-/
import Derived.Test.YtbccjomnfclkdaaN4
namespace Go.Proofs.Ytbccjomnfclkdaa
open Go.RowKit
theorem InIs.lt {B : Nat} {w : World} {g e : Nat} {bs : List Nat} (h : InIs B w g bs e) : ∀ x ∈ bs, x < 256 := by
  obtain ⟨_, _, _, _, _, hsl, _⟩ := h.ex
  exact hsl.lt
theorem InIs.blk {B : Nat} {w : World} {g e : Nat} {bs : List Nat} (h : InIs B w g bs e) : g < w.heap.size := by
  obtain ⟨_, _, _, _, hr, _⟩ := h.ex
  exact hr.lt
/-- the In at block g is in state s -/
def In (B : Nat) (w : World) (g : Nat) (s : Sta) : Prop := InIs B w g s.1 s.2
theorem grew_of_grownS {w w' : World} {g : Nat} (h : w.grownBy w' (some g)) : Grew w w' (· = g) := (Grew.of_grown h).mono (fun q hq => by simpa using hq)
theorem num_s (w : World) (g B : Nat) (s : Sta) (hi : In B w g s) : Calls Try.prog 54 #[.pointer (some ⟨g, 0, none⟩)] w fun r w' => r = .returned (.int .u64 ((sNum s).1 : Int)) ∧ In B w' g (sNum s).2 ∧ Grew w w' (· = g) := by
  obtain ⟨bs, e⟩ := s
  unfold sNum
  split
  · rename_i h
    obtain rfl : e = 0 := h
    refine (inum_any w g bs hi.lt hi).mono ?_
    rintro r w' ⟨rfl, h1, h2, _⟩
    exact ⟨rfl, h1, grew_of_grownS h2⟩
  · rename_i h
    refine (inum_bad w g e bs h hi).mono ?_
    rintro r w' ⟨rfl, rfl⟩
    exact ⟨rfl, hi, Grew.refl _ _⟩
theorem text_s (w : World) (g B : Nat) (s : Sta) (m : Nat) (hm : m ≤ 9223372036854775807) (hi : In B w g s) : Calls Try.prog 49 #[.pointer (some ⟨g, 0, none⟩), .int .i64 (m : Int)] w fun r w' => r = .returned (.string (str (sText m s).1)) ∧ In B w' g (sText m s).2 ∧ Grew w w' (· = g) := by
  obtain ⟨bs, e⟩ := s
  unfold sText
  split
  · rename_i h
    obtain rfl : e = 0 := h
    refine (itext_any w g bs m (by omega) (by omega) hi.lt hi).mono ?_
    rintro r w' ⟨rfl, h1, h2, _⟩
    exact ⟨rfl, h1, grew_of_grownS h2⟩
  · rename_i h
    refine (itext_bad w g e bs m (by omega) (by omega) h hi).mono ?_
    rintro r w' ⟨rfl, rfl⟩
    exact ⟨rfl, hi, Grew.refl _ _⟩
theorem dig_s (w : World) (g B : Nat) (s : Sta) (hB : B ≤ w.heap.size) (hi : In B w g s) : Calls Try.prog 57 #[.pointer (some ⟨g, 0, none⟩)] w fun r w' => r = .returned (.agg (dcells (sDig s).1).toArray) ∧ In B w' g (sDig s).2 ∧ Grew w w' (· = g) := by
  obtain ⟨bs, e⟩ := s
  unfold sDig rdigest dcells
  split
  · rename_i h
    obtain rfl : e = 0 := h
    split
    · rename_i h2
      exact idigest_short w g bs h2 hB hi
    · rename_i h2
      exact idigest_some w g bs (by simpa using h2) hB hi
  · rename_i h
    refine (idigest_bad w g e bs h hi).mono ?_
    rintro r w' ⟨rfl, h2⟩
    exact ⟨rfl, hi.below h2, Grew.of_below _ h2⟩
/-- a number, cut off above the most -/
def cutN (m n : Nat) : Nat := min n (m + 1)
set_option maxHeartbeats 400000 in
theorem number_s (w : World) (g B : Nat) (s : Sta) (m : Nat) (hm : m ≤ 100000) (hi : In B w g s) : Calls Try.prog 48 #[.pointer (some ⟨g, 0, none⟩), .int .i64 (m : Int)] w fun r w' => r = .returned (.int .i64 (cutN m (sNum s).1 : Int)) ∧ In B w' g (sNum s).2 ∧ Grew w w' (· = g) := by
  have HN := hid_in (num_s w g B s hi)
  have HC : Hid (cutN m (sNum s).1 = min (sNum s).1 (m + 1)) := rfl
  rw [HC.out]
  clear hi HC
  generalize (sNum s).1 = N at *
  generalize (sNum s).2 = s2 at *
  go_enter Try.func48, Try.ntmps48
  go_wp2_with (first | (go_at_call 54; refine HN.out.mono ?_; rintro e w2 ⟨rfl, h1, h2⟩; have H1 := hid_in h1; have H2 := hid_in h2; clear h1 h2))
  · go_ret
    refine ⟨congrArg (fun z => Ending.returned (Value.int .i64 z)) ?_, H1.out, H2.out⟩
    omega
  · go_ret
    refine ⟨congrArg (fun z => Ending.returned (Value.int .i64 z)) ?_, H1.out, H2.out⟩
    omega
end Go.Proofs.Ytbccjomnfclkdaa
