/-
  Check sums and frames in plain numbers, by the document's chapter 2. No program in it.
-/
import Derived.Test.YtjaplfdcdokhfaaS0
namespace Go.Proofs.Ytjaplfdcdokhfaa.Wire

/-- one bit goes -/
def step (x : Nat) : Nat := if x % 2 = 1 then (x / 2) ^^^ 3988292384 else x / 2
def steps : Nat → Nat → Nat
  | 0, x => x
  | k + 1, x => step (steps k x)
/-- one byte comes -/
def byte (s b : Nat) : Nat := steps 8 (s ^^^ b)
def run (s : Nat) (bs : List Nat) : Nat := bs.foldl byte s
def check (bs : List Nat) : Nat := 4294967295 ^^^ run 4294967295 bs
def four (n : Nat) : List Nat := [n % 256, n / 256 % 256, n / 65536 % 256, n / 16777216 % 256]
def val (b : List Nat) : Nat := b.getD 0 0 + b.getD 1 0 * 256 + b.getD 2 0 * 65536 + b.getD 3 0 * 16777216
/-- the bytes of a frame -/
def frame (p : List Nat) : List Nat := four p.length ++ p ++ four (check (four p.length ++ p))
/-- the frame at the beginning: its payload, how many bytes it has, what is wrong -/
def next (b : List Nat) : List Nat × Nat × Nat :=
  if b.length < 4 then ([], 0, 20)
  else if 262144 < val b then ([], 0, 2)
  else if b.length < val b + 8 then ([], 0, 20)
  else if check (b.take (val b + 4)) ≠ val (b.drop (val b + 4)) then ([], 0, 22)
  else ((b.drop 4).take (val b), val b + 8, 0)

theorem xor_lt {x y : Nat} (hx : x < 4294967296) (hy : y < 4294967296) : x ^^^ y < 4294967296 := Nat.xor_lt_two_pow (n := 32) hx hy
theorem step_lt {x : Nat} (h : x < 4294967296) : step x < 4294967296 := by
  unfold step
  split
  · exact xor_lt (by omega) (by decide)
  · omega
theorem steps_lt (k : Nat) {x : Nat} (h : x < 4294967296) : steps k x < 4294967296 := by
  induction k with
  | zero => exact h
  | succ k ih => exact step_lt ih
theorem byte_lt {s b : Nat} (hs : s < 4294967296) (hb : b < 256) : byte s b < 4294967296 := steps_lt 8 (xor_lt hs (by omega))
theorem run_lt {s : Nat} {bs : List Nat} (hs : s < 4294967296) (hb : ∀ x ∈ bs, x < 256) : run s bs < 4294967296 := by
  induction bs generalizing s with
  | nil => exact hs
  | cons b bs ih => exact ih (byte_lt hs (hb b (by simp))) (fun x hx => hb x (by simp [hx]))
theorem check_lt {bs : List Nat} (hb : ∀ x ∈ bs, x < 256) : check bs < 4294967296 := xor_lt (by decide) (run_lt (by decide) hb)
theorem top_xor {x : Nat} (h : x < 2147483648) : 2147483648 ≤ x ^^^ 3988292384 := by
  rcases Nat.lt_or_ge (x ^^^ 3988292384) 2147483648 with h1 | h1
  · exfalso
    have h2 : (x ^^^ 3988292384).testBit 31 = false := Nat.testBit_lt_two_pow (i := 31) h1
    have h3 : x.testBit 31 = false := Nat.testBit_lt_two_pow (i := 31) h
    rw [Nat.testBit_xor, h3] at h2
    exact absurd h2 (by decide)
  · exact h1
theorem xor_cancel {a x y : Nat} (h : a ^^^ x = a ^^^ y) : x = y := by
  have := congrArg (fun z => a ^^^ z) h
  simpa [← Nat.xor_assoc] using this
theorem step_inj {x y : Nat} (hx : x < 4294967296) (hy : y < 4294967296) (h : step x = step y) : x = y := by
  unfold step at h
  by_cases h1 : x % 2 = 1 <;> by_cases h2 : y % 2 = 1
  · rw [if_pos h1, if_pos h2, Nat.xor_comm, Nat.xor_comm (y / 2)] at h
    have := xor_cancel h
    omega
  · rw [if_pos h1, if_neg h2] at h
    have := top_xor (show x / 2 < 2147483648 by omega)
    omega
  · rw [if_neg h1, if_pos h2] at h
    have := top_xor (show y / 2 < 2147483648 by omega)
    omega
  · rw [if_neg h1, if_neg h2] at h
    omega
theorem steps_inj (k : Nat) {x y : Nat} (hx : x < 4294967296) (hy : y < 4294967296) (h : steps k x = steps k y) : x = y := by
  induction k with
  | zero => exact h
  | succ k ih => exact ih (step_inj (steps_lt k hx) (steps_lt k hy) h)
theorem byte_inj_b {s b c : Nat} (hs : s < 4294967296) (hb : b < 256) (hc : c < 256) (h : byte s b = byte s c) : b = c :=
  xor_cancel (steps_inj 8 (xor_lt hs (by omega)) (xor_lt hs (by omega)) h)
theorem byte_inj_s {s t b : Nat} (hs : s < 4294967296) (ht : t < 4294967296) (hb : b < 256) (h : byte s b = byte t b) : s = t := by
  have := steps_inj 8 (xor_lt hs (by omega)) (xor_lt ht (by omega)) h
  rw [Nat.xor_comm, Nat.xor_comm t] at this
  exact xor_cancel this
theorem run_inj {s t : Nat} {bs : List Nat} (hs : s < 4294967296) (ht : t < 4294967296) (hb : ∀ x ∈ bs, x < 256) (h : run s bs = run t bs) : s = t := by
  induction bs generalizing s t with
  | nil => exact h
  | cons b bs ih =>
    have hb0 := hb b (by simp)
    exact byte_inj_s hs ht hb0 (ih (byte_lt hs hb0) (byte_lt ht hb0) (fun x hx => hb x (by simp [hx])) h)
theorem run_append (s : Nat) (a b : List Nat) : run s (a ++ b) = run (run s a) b := by simp [run]
theorem getD_lt' {l : List Nat} {m : Nat} (h : ∀ x ∈ l, x < m) (j : Nat) (hm : 0 < m) : l.getD j 0 < m := Go.Proofs.Ytjaplfdcdokhfaa.getD_lt h j hm
/-- one byte changed is another check sum -/
theorem check_set {bs : List Nat} (hb : ∀ x ∈ bs, x < 256) {j c : Nat} (hj : j < bs.length) (hc : c < 256) (hne : c ≠ bs.getD j 0) : check (bs.set j c) ≠ check bs := by
  intro h
  have h := xor_cancel h
  have e1 : bs = bs.take j ++ bs.getD j 0 :: bs.drop (j + 1) := by
    have hg : bs.getD j 0 = bs[j] := by simp [hj]
    rw [hg, List.getElem_cons_drop, List.take_append_drop]
  have e2 : bs.set j c = bs.take j ++ c :: bs.drop (j + 1) := by rw [List.set_eq_take_append_cons_drop, if_pos hj]
  have hd : ∀ x ∈ bs.drop (j + 1), x < 256 := fun x hx => hb x (List.mem_of_mem_drop hx)
  have ht : ∀ x ∈ bs.take j, x < 256 := fun x hx => hb x (List.mem_of_mem_take hx)
  have hs := run_lt (s := 4294967295) (by decide) ht
  have hg := getD_lt' hb j (by decide)
  rw [e2] at h
  conv at h => rhs; rw [e1]
  rw [run_append, run_append] at h
  have h' := run_inj (byte_lt hs hc) (byte_lt hs hg) hd h
  exact hne (byte_inj_b hs hc hg h')
theorem four_lt (n : Nat) : ∀ x ∈ four n, x < 256 := by
  intro x hx
  simp only [four, List.mem_cons, List.not_mem_nil, or_false] at hx
  omega
theorem val_four (n : Nat) (h : n < 4294967296) (r : List Nat) : val (four n ++ r) = n := by
  simp only [four, val, List.cons_append, List.nil_append, List.getD_cons_zero, List.getD_cons_succ]
  omega
theorem four_length (n : Nat) : (four n).length = 4 := rfl
theorem val_lt {b : List Nat} (h : ∀ x ∈ b, x < 256) : val b < 4294967296 := by
  have h0 := getD_lt' h 0 (by decide)
  have h1 := getD_lt' h 1 (by decide)
  have h2 := getD_lt' h 2 (by decide)
  have h3 := getD_lt' h 3 (by decide)
  unfold val; omega
/-- one of four bytes changed is another number -/
theorem val_set {b : List Nat} (h : ∀ x ∈ b, x < 256) {j c : Nat} (hj : j < 4) (hl : 4 ≤ b.length) (_hc : c < 256) (hne : c ≠ b.getD j 0) : val (b.set j c) ≠ val b := by
  have h0 := getD_lt' h 0 (by decide)
  have h1 := getD_lt' h 1 (by decide)
  have h2 := getD_lt' h 2 (by decide)
  have h3 := getD_lt' h 3 (by decide)
  have hg : ∀ k, k < 4 → (b.set j c).getD k 0 = if j = k then c else b.getD k 0 := by
    intro k hk
    simp only [List.getD_eq_getElem?_getD, List.getElem?_set]
    by_cases e : j = k
    · rw [if_pos e, if_pos e, if_pos (by omega)]; rfl
    · rw [if_neg e, if_neg e]
  unfold val
  rw [hg 0 (by omega), hg 1 (by omega), hg 2 (by omega), hg 3 (by omega)]
  clear hg
  have hne' : (j = 0 → c ≠ b.getD 0 0) ∧ (j = 1 → c ≠ b.getD 1 0) ∧ (j = 2 → c ≠ b.getD 2 0) ∧ (j = 3 → c ≠ b.getD 3 0) :=
    ⟨fun e => e ▸ hne, fun e => e ▸ hne, fun e => e ▸ hne, fun e => e ▸ hne⟩
  clear hne
  generalize b.getD 0 0 = x0 at *
  generalize b.getD 1 0 = x1 at *
  generalize b.getD 2 0 = x2 at *
  generalize b.getD 3 0 = x3 at *
  obtain rfl | rfl | rfl | rfl : j = 0 ∨ j = 1 ∨ j = 2 ∨ j = 3 := by omega
  all_goals (simp at hne' ⊢; omega)
theorem frame_length (p : List Nat) : (frame p).length = p.length + 8 := by simp [frame, four_length]; omega
theorem frame_lt {p : List Nat} (h : ∀ x ∈ p, x < 256) : ∀ x ∈ frame p, x < 256 := by
  intro x hx
  simp only [frame, List.mem_append] at hx
  rcases hx with (hx | hx) | hx
  · exact four_lt _ x hx
  · exact h x hx
  · exact four_lt _ x hx
theorem next_frame {p : List Nat} (h : ∀ x ∈ p, x < 256) (hl : p.length ≤ 262144) (r : List Nat) : next (frame p ++ r) = (p, p.length + 8, 0) := by
  have hv : val (frame p ++ r) = p.length := by
    unfold frame
    rw [List.append_assoc, List.append_assoc]
    exact val_four _ (by omega) _
  have hlen : (frame p ++ r).length = p.length + 8 + r.length := by rw [List.length_append, frame_length]
  have hin : ∀ x ∈ four p.length ++ p, x < 256 := by
    intro x hx
    rcases List.mem_append.1 hx with hx | hx
    · exact four_lt _ x hx
    · exact h x hx
  have ht : (frame p ++ r).take (p.length + 4) = four p.length ++ p := by
    unfold frame
    rw [List.append_assoc, List.take_append_of_le_length (by simp [four_length]; omega), List.take_of_length_le (by simp [four_length]; omega)]
  have hd : (frame p ++ r).drop (p.length + 4) = four (check (four p.length ++ p)) ++ r := by
    unfold frame
    rw [List.append_assoc, List.drop_append_of_le_length (by simp [four_length]; omega), List.drop_eq_nil_of_le (by simp [four_length]; omega), List.nil_append]
  have hp : ((frame p ++ r).drop 4).take p.length = p := by
    unfold frame
    rw [List.append_assoc, List.append_assoc, List.drop_append_of_le_length (by simp [four_length]), List.drop_eq_nil_of_le (by simp [four_length]), List.nil_append, List.take_append_of_le_length (Nat.le_refl _), List.take_of_length_le (Nat.le_refl _)]
  unfold next
  rw [hv, hlen, if_neg (by omega), if_neg (by omega), if_neg (by omega), ht, hd, val_four _ (check_lt hin), if_neg (by simp), hp]
/-- a frame of which one byte is another one isn't read as a frame of its length -/
theorem next_set {p : List Nat} (h : ∀ x ∈ p, x < 256) (hl : p.length ≤ 262144) {j c : Nat} (hj : j < p.length + 8) (hc : c < 256) (hne : c ≠ (frame p).getD j 0) :
    (next ((frame p).set j c)).2.2 ≠ 0 ∨ (next ((frame p).set j c)).2.1 ≠ p.length + 8 := by
  have hF := frame_lt h
  have hFl := frame_length p
  have hlen : ((frame p).set j c).length = p.length + 8 := by rw [List.length_set, hFl]
  have hv0 : val (frame p) = p.length := by
    unfold frame; rw [List.append_assoc]; exact val_four _ (by omega) _
  by_cases h4 : j < 4
  · have hv := val_set hF h4 (by omega) hc hne
    rw [hv0] at hv
    unfold next
    split
    · left; simp
    · split
      · left; simp
      · split
        · left; simp
        · split
          · left; simp
          · right; simp; omega
  · have hv : val ((frame p).set j c) = p.length := by
      rw [← hv0]
      unfold val
      simp only [List.getD_eq_getElem?_getD]
      rw [List.getElem?_set_ne (by omega), List.getElem?_set_ne (by omega), List.getElem?_set_ne (by omega), List.getElem?_set_ne (by omega)]
    left
    unfold next
    rw [hv, hlen, if_neg (by omega), if_neg (by omega), if_neg (by omega)]
    have ht : (frame p).take (p.length + 4) = four p.length ++ p := by
      unfold frame
      rw [List.take_append_of_le_length (by simp [four_length]; omega), List.take_of_length_le (by simp [four_length]; omega)]
    have hd : (frame p).drop (p.length + 4) = four (check (four p.length ++ p)) := by
      unfold frame
      rw [List.drop_append_of_le_length (by simp [four_length]; omega), List.drop_eq_nil_of_le (by simp [four_length]; omega), List.nil_append]
    have hin : ∀ x ∈ four p.length ++ p, x < 256 := by
      intro x hx
      rcases List.mem_append.1 hx with hx | hx
      · exact four_lt _ x hx
      · exact h x hx
    have hv4 := val_four (check (four p.length ++ p)) (check_lt hin) []
    rw [List.append_nil] at hv4
    rw [if_pos ?_]
    · simp
    by_cases hjp : j < p.length + 4
    · have e1 : ((frame p).set j c).take (p.length + 4) = (four p.length ++ p).set j c := by rw [← ht, List.take_set]
      have e2 : ((frame p).set j c).drop (p.length + 4) = four (check (four p.length ++ p)) := by rw [List.drop_set_of_lt hjp, hd]
      rw [e1, e2, hv4]
      refine check_set hin (by simp [four_length]; omega) hc ?_
      have : (four p.length ++ p).getD j 0 = (frame p).getD j 0 := by
        rw [← ht]; simp [hjp]
      rw [this]; exact hne
    · have e1 : ((frame p).set j c).take (p.length + 4) = four p.length ++ p := by
        rw [List.take_set_of_le (by omega), ht]
      have e2 : ((frame p).set j c).drop (p.length + 4) = (four (check (four p.length ++ p))).set (j - (p.length + 4)) c := by
        rw [List.drop_set, if_neg hjp, hd]
      rw [e1, e2]
      have hk : (four (check (four p.length ++ p))).getD (j - (p.length + 4)) 0 = (frame p).getD j 0 := by
        rw [← hd]
        simp only [List.getD_eq_getElem?_getD, List.getElem?_drop]
        rw [show p.length + 4 + (j - (p.length + 4)) = j by omega]
      have := val_set (four_lt (check (four p.length ++ p))) (j := j - (p.length + 4)) (c := c) (by omega) (by simp [four_length]) hc (by rw [hk]; exact hne)
      rw [hv4] at this
      exact fun e => this e.symm
end Go.Proofs.Ytjaplfdcdokhfaa.Wire
