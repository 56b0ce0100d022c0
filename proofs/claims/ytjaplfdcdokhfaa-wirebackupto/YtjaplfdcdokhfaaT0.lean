/-
  Frames one behind the other, in plain numbers. No program in it.
-/
import Derived.Test.YtjaplfdcdokhfaaC0
namespace Go.Proofs.Ytjaplfdcdokhfaa.Wire

/-- the frames at the beginning: their payloads, how many bytes they have -/
def scanF : Nat → List Nat → List (List Nat) × Nat
  | 0, _ => ([], 0)
  | f + 1, b => if (next b).2.2 = 0 then ((next b).1 :: (scanF f (b.drop (next b).2.1)).1, (next b).2.1 + (scanF f (b.drop (next b).2.1)).2) else ([], 0)
def scan (b : List Nat) : List (List Nat) × Nat := scanF (b.length + 1) b

theorem next_ok {b : List Nat} (h : (next b).2.2 = 0) : (next b).2.1 = val b + 8 ∧ val b + 8 ≤ b.length ∧ (next b).1 = (b.drop 4).take (val b) ∧ val b ≤ 262144 := by
  unfold next at *
  split at h
  · simp at h
  · split at h
    · simp at h
    · split at h
      · simp at h
      · split at h
        · simp at h
        · rename_i h1 h2 h3 h4
          rw [if_neg h1, if_neg h2, if_neg h3, if_neg h4]
          exact ⟨rfl, by omega, rfl, by omega⟩
theorem scanF_fuel : ∀ (f f' : Nat) (b : List Nat), b.length < f → b.length < f' → scanF f b = scanF f' b
  | 0, _, _, h, _ => by omega
  | _, 0, _, _, h => by omega
  | f + 1, f' + 1, b, h, h' => by
    simp only [scanF]
    by_cases hn : (next b).2.2 = 0
    · rw [if_pos hn, if_pos hn]
      obtain ⟨e1, e2, _, _⟩ := next_ok hn
      rw [scanF_fuel f f' (b.drop (next b).2.1) (by simp; omega) (by simp; omega)]
    · rw [if_neg hn, if_neg hn]
theorem scan_ok {b : List Nat} (h : (next b).2.2 = 0) : scan b = ((next b).1 :: (scan (b.drop (next b).2.1)).1, (next b).2.1 + (scan (b.drop (next b).2.1)).2) := by
  obtain ⟨e1, e2, _, _⟩ := next_ok h
  conv => lhs; unfold scan
  simp only [scanF]
  rw [if_pos h, scanF_fuel b.length ((b.drop (next b).2.1).length + 1) _ (by simp; omega) (by omega)]
  rfl
theorem scan_bad {b : List Nat} (h : (next b).2.2 ≠ 0) : scan b = ([], 0) := by
  unfold scan
  simp only [scanF]
  rw [if_neg h]
theorem scanF_le : ∀ (f : Nat) (b : List Nat), (scanF f b).2 ≤ b.length ∧ (scanF f b).1.length * 8 ≤ b.length
  | 0, b => by simp [scanF]
  | f + 1, b => by
    simp only [scanF]
    by_cases hn : (next b).2.2 = 0
    · rw [if_pos hn]
      obtain ⟨e1, e2, _, _⟩ := next_ok hn
      have := scanF_le f (b.drop (next b).2.1)
      rw [List.length_drop] at this
      simp only [List.length_cons]
      omega
    · rw [if_neg hn]; simp
theorem scan_le (b : List Nat) : (scan b).2 ≤ b.length ∧ (scan b).1.length * 8 ≤ b.length := scanF_le _ b

/-- a frame that is cut off is none -/
theorem next_cut {p : List Nat} (hl : p.length ≤ 262144) (r : List Nat) (j : Nat) (hj : j < p.length + 8) : (next ((frame p ++ r).take j)).2.2 ≠ 0 := by
  have hlen : ((frame p ++ r).take j).length = j := by
    rw [List.length_take, List.length_append, frame_length]; omega
  unfold next
  by_cases h4 : j < 4
  · rw [hlen, if_pos h4]; simp
  · have hv : val ((frame p ++ r).take j) = p.length := by
      have h0 : val (frame p ++ r) = p.length := by
        unfold frame
        rw [List.append_assoc, List.append_assoc]
        exact val_four _ (by omega) _
      rw [← h0]
      unfold val
      simp only [List.getD_eq_getElem?_getD]
      rw [List.getElem?_take_of_lt (by omega), List.getElem?_take_of_lt (by omega), List.getElem?_take_of_lt (by omega), List.getElem?_take_of_lt (by omega)]
    rw [hlen, if_neg h4, hv, if_neg (by omega), if_pos hj]
    simp
/-- the bytes of frames one behind the other -/
def frames (ps : List (List Nat)) : List Nat := ps.flatMap frame
/-- how many bytes the first n frames have -/
def upto (ps : List (List Nat)) (n : Nat) : Nat := (frames (ps.take n)).length
theorem frames_cons (p : List Nat) (ps : List (List Nat)) : frames (p :: ps) = frame p ++ frames ps := by simp [frames]
theorem upto_zero (ps : List (List Nat)) : upto ps 0 = 0 := by simp [upto, frames]
theorem upto_succ {ps : List (List Nat)} {n : Nat} {p : List Nat} (h : ps[n]? = some p) : upto ps (n + 1) = upto ps n + (p.length + 8) := by
  obtain ⟨hn, rfl⟩ := List.getElem?_eq_some_iff.1 h
  unfold upto frames
  rw [List.take_succ_eq_append_getElem hn, List.flatMap_append, List.length_append]
  show _ + (frame _ ++ []).length = _
  rw [List.append_nil, frame_length]
theorem upto_cons (p : List Nat) (ps : List (List Nat)) (n : Nat) : upto (p :: ps) (n + 1) = p.length + 8 + upto ps n := by
  simp [upto, frames, frame_length]
/-- of frames that are cut anywhere just the whole ones are read -/
theorem scan_cut : ∀ (ps : List (List Nat)) (K n : Nat), (∀ p ∈ ps, p.length ≤ 262144 ∧ ∀ x ∈ p, x < 256) → n ≤ ps.length → upto ps n ≤ K → (n < ps.length → K < upto ps (n + 1)) → scan ((frames ps).take K) = (ps.take n, upto ps n)
  | [], K, n, _, hn, _, _ => by
    have : n = 0 := by simpa using hn
    subst this
    rw [upto_zero]
    simp only [frames, List.flatMap_nil, List.take_nil]
    exact scan_bad (by decide)
  | p :: ps, K, 0, hp, _, _, h2 => by
    have h2 := h2 (by simp)
    rw [upto_cons, upto_zero] at h2
    rw [frames_cons, upto_zero, List.take_zero]
    exact scan_bad (next_cut (hp p (by simp)).1 _ _ (by omega))
  | p :: ps, K, n + 1, hp, hn, h1, h2 => by
    obtain ⟨hpl, hpb⟩ := hp p (by simp)
    rw [upto_cons] at h1
    have hK : K = p.length + 8 + (K - (p.length + 8)) := by omega
    have e : (frames (p :: ps)).take K = frame p ++ (frames ps).take (K - (p.length + 8)) := by
      rw [frames_cons, List.take_append, frame_length, List.take_of_length_le (by rw [frame_length]; omega)]
    have hnx := next_frame hpb hpl ((frames ps).take (K - (p.length + 8)))
    have ih := scan_cut ps (K - (p.length + 8)) n (fun q hq => hp q (by simp [hq])) (by simpa using hn) (by omega) (fun hlt => by
      have := h2 (by simpa using hlt)
      rw [upto_cons] at this
      omega)
    rw [e, scan_ok (by rw [hnx]), hnx]
    simp only
    rw [List.drop_append_of_le_length (by rw [frame_length]; omega), List.drop_eq_nil_of_le (by rw [frame_length]; omega), List.nil_append, ih, upto_cons]
    rfl
end Go.Proofs.Ytjaplfdcdokhfaa.Wire
