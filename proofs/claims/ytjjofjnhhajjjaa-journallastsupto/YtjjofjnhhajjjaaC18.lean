/-
  Check sums and frames in plain numbers, by the document's chapter 2. No program in it. The walks of wire.shiftedByByte and wire.Check: the check sum of parts. The walks of wire.word, wire.valueOf, bytes.Clone, slices.Grow (of nothing) and slices.Concat. The walks of bytes.Clone, slices.Grow (of nothing) and slices.Concat. The walk of slices.Concat.
-/
import Derived.Laws.Tables
import Derived.OwnWalk
import Derived.Deep.CutRange
import Derived.Laws.StructEq
import Derived.Laws.CopyOwn
import Derived.Deep.RegionLaw
import Derived.Deep.DrawnRows
import Derived.Lib.AppendZeros
import Derived.Test.YtjjofjnhhajjjaaC00
import Derived.Test.YtjjofjnhhajjjaaC01
import Derived.Test.YtjjofjnhhajjjaaC02
import Derived.Test.YtjjofjnhhajjjaaC03
import Derived.Test.YtjjofjnhhajjjaaC04
import Derived.Test.YtjjofjnhhajjjaaC05
import Derived.Test.YtjjofjnhhajjjaaC06
import Derived.Test.YtjjofjnhhajjjaaC17
namespace Go.Proofs.Ytjjofjnhhajjjaa.Nd.Wire
def check (bs : List Nat) : Nat := 4294967295 ^^^ run 4294967295 bs
def four (n : Nat) : List Nat := [n % 256, n / 256 % 256, n / 65536 % 256, n / 16777216 % 256]
/-- the bytes of a frame -/
def frame (p : List Nat) : List Nat := four p.length ++ p ++ four (check (four p.length ++ p))
/-- the frame at the beginning: its payload, how many bytes it has, what is wrong -/
def next (b : List Nat) : List Nat × Nat × Nat :=
  if b.length < 4 then ([], 0, 20)
  else if 262144 < val b then ([], 0, 2)
  else if b.length < val b + 8 then ([], 0, 20)
  else if check (b.take (val b + 4)) ≠ val (b.drop (val b + 4)) then ([], 0, 22)
  else ((b.drop 4).take (val b), val b + 8, 0)
theorem xor_lt {x y : Nat} (hx : x < 4294967296) (hy : y < 4294967296) : x ^^^ y < 4294967296 := Nat.xor_lt_two_pow (n := 32) hx hy
theorem step_lt {x : Nat} (h : x < 4294967296) : step x < 4294967296 := by
  unfold step
  split
  · exact xor_lt (by omega) (by decide)
  · omega
theorem steps_lt (k : Nat) {x : Nat} (h : x < 4294967296) : steps k x < 4294967296 := by
  induction k with
  | zero => exact h
  | succ k ih => exact step_lt ih
theorem byte_lt {s b : Nat} (hs : s < 4294967296) (hb : b < 256) : byte s b < 4294967296 := steps_lt 8 (xor_lt hs (by omega))
theorem run_lt {s : Nat} {bs : List Nat} (hs : s < 4294967296) (hb : ∀ x ∈ bs, x < 256) : run s bs < 4294967296 := by
  induction bs generalizing s with
  | nil => exact hs
  | cons b bs ih => exact ih (byte_lt hs (hb b (by simp))) (fun x hx => hb x (by simp [hx]))
theorem check_lt {bs : List Nat} (hb : ∀ x ∈ bs, x < 256) : check bs < 4294967296 := xor_lt (by decide) (run_lt (by decide) hb)
theorem run_append (s : Nat) (a b : List Nat) : run s (a ++ b) = run (run s a) b := by simp [run]
theorem getD_lt' {l : List Nat} {m : Nat} (h : ∀ x ∈ l, x < m) (j : Nat) (hm : 0 < m) : l.getD j 0 < m := Go.Proofs.Ytjjofjnhhajjjaa.Nd.getD_lt h j hm
theorem four_lt (n : Nat) : ∀ x ∈ four n, x < 256 := by
  intro x hx
  simp only [four, List.mem_cons, List.not_mem_nil, or_false] at hx
  omega
theorem val_four (n : Nat) (h : n < 4294967296) (r : List Nat) : val (four n ++ r) = n := by
  simp only [four, val, List.cons_append, List.nil_append, List.getD_cons_zero, List.getD_cons_succ]
  omega
theorem four_length (n : Nat) : (four n).length = 4 := rfl
theorem val_lt {b : List Nat} (h : ∀ x ∈ b, x < 256) : val b < 4294967296 := by
  have h0 := getD_lt' h 0 (by decide)
  have h1 := getD_lt' h 1 (by decide)
  have h2 := getD_lt' h 2 (by decide)
  have h3 := getD_lt' h 3 (by decide)
  unfold val; omega
theorem frame_length (p : List Nat) : (frame p).length = p.length + 8 := by simp [frame, four_length]; omega
theorem frame_lt {p : List Nat} (h : ∀ x ∈ p, x < 256) : ∀ x ∈ frame p, x < 256 := by
  intro x hx
  simp only [frame, List.mem_append] at hx
  rcases hx with (hx | hx) | hx
  · exact four_lt _ x hx
  · exact h x hx
  · exact four_lt _ x hx
theorem next_frame {p : List Nat} (h : ∀ x ∈ p, x < 256) (hl : p.length ≤ 262144) (r : List Nat) : next (frame p ++ r) = (p, p.length + 8, 0) := by
  have hv : val (frame p ++ r) = p.length := by
    unfold frame
    rw [List.append_assoc, List.append_assoc]
    exact val_four _ (by omega) _
  have hlen : (frame p ++ r).length = p.length + 8 + r.length := by rw [List.length_append, frame_length]
  have hin : ∀ x ∈ four p.length ++ p, x < 256 := by
    intro x hx
    rcases List.mem_append.1 hx with hx | hx
    · exact four_lt _ x hx
    · exact h x hx
  have ht : (frame p ++ r).take (p.length + 4) = four p.length ++ p := by
    unfold frame
    rw [List.append_assoc, List.take_append_of_le_length (by simp [four_length]; omega), List.take_of_length_le (by simp [four_length]; omega)]
  have hd : (frame p ++ r).drop (p.length + 4) = four (check (four p.length ++ p)) ++ r := by
    unfold frame
    rw [List.append_assoc, List.drop_append_of_le_length (by simp [four_length]; omega), List.drop_eq_nil_of_le (by simp [four_length]; omega), List.nil_append]
  have hp : ((frame p ++ r).drop 4).take p.length = p := by
    unfold frame
    rw [List.append_assoc, List.append_assoc, List.drop_append_of_le_length (by simp [four_length]), List.drop_eq_nil_of_le (by simp [four_length]), List.nil_append, List.take_append_of_le_length (Nat.le_refl _), List.take_of_length_le (Nat.le_refl _)]
  unfold next
  rw [hv, hlen, if_neg (by omega), if_neg (by omega), if_neg (by omega), ht, hd, val_four _ (check_lt hin), if_neg (by simp), hp]
end Go.Proofs.Ytjjofjnhhajjjaa.Nd.Wire
namespace Go.Proofs.Ytjjofjnhhajjjaa.Nd
open Go.RowKit
theorem and_one32 (x : Nat) (hx : x < 4294967296) : bits .and .u32 (x : Int) 1 = ((x % 2 : Nat) : Int) := by
  have := u32_and_nat x 1 hx (by decide)
  rw [Nat.and_one_is_mod] at this
  exact this
theorem xor32 (x y : Nat) (hx : x < 4294967296) (hy : y < 4294967296) (z : Int) (hz : z = (y : Int)) : bits .xor .u32 (x : Int) z = ((x ^^^ y : Nat) : Int) := by
  rw [hz, u32_xor_nat x y hx hy]
set_option maxHeartbeats 400000 in
set_option maxRecDepth 100000 in
theorem shifted_any (x : Nat) (hx : x < 4294967296) (w : World) :
    Calls Try.prog 78 #[.int .u32 (x : Int)] w fun e w' => e = .returned (.int .u32 ((Wire.steps 8 x : Nat) : Int)) ∧ w' = w := by
  go_enter Try.func78, Try.ntmps78
  go_wp2_with fail
  go_loopw [0, 4] (fun v i w' => ∃ k : Nat, k ≤ 8 ∧ i = .int .i64 (k : Int) ∧ v = .int .u32 ((Wire.steps k x : Nat) : Int) ∧ w' = w) (fun _ i _ => 8 - (intOf i).toNat)
  case atStart => exact ⟨0, by omega, rfl, rfl, rfl⟩
  case round =>
    obtain ⟨k, hk, rfl, rfl, rfl⟩ := hrel
    by_cases hlt : k < 8
    · have hb := Wire.steps_lt k hx
      have HS : Hid (Wire.steps (k + 1) x = Wire.step (Wire.steps k x)) := rfl
      generalize Wire.steps k x = y at hb HS
      have a1 := and_one32 y hb
      by_cases h1 : y % 2 = 1
      · have a2 : bits .and .u32 (y : Int) 1 = 1 := by rw [a1, h1]; rfl
        have a3 := xor32 (y / 2) 3988292384 (by omega) (by decide) 3988292384 rfl
        rw [show ((y / 2 : Nat) : Int) = (y : Int) / 2 by simp] at a3
        clear a1
        go_wp2
        go_roundw
        case rel =>
          go_light
          refine ⟨k + 1, by omega, by go_num, ?_, by trivial⟩
          rw [HS.out, Wire.step, if_pos h1]
        case measure => simp [intOf]; omega
      · have a2 : bits .and .u32 (y : Int) 1 = 0 := by rw [a1, show y % 2 = 0 by omega]; rfl
        clear a1
        go_wp2
        go_roundw
        case rel =>
          go_light
          refine ⟨k + 1, by omega, by go_num, ?_, by trivial⟩
          rw [HS.out, Wire.step, if_neg h1]
          simp
        case measure => simp [intOf]; omega
    · have HK : Hid (k = 8) := by show k = 8; omega
      go_wp2
      go_ret
      rw [HK.out]
      exact ⟨rfl, rfl⟩
def bytesOf (ps : List Part) : List Nat := ps.flatMap (·.bs)
theorem bytesOf_take_lt {w : World} {pb po : Nat} {ps : List Part} (h : Parts w pb po ps) (i : Nat) : ∀ x ∈ bytesOf (ps.take i), x < 256 := by
  intro x hx
  simp only [bytesOf, List.mem_flatMap] at hx
  obtain ⟨y, hy, hx⟩ := hx
  exact (h.ok y (List.mem_of_mem_take hy)).lt x hx
theorem bytesOf_succ {ps : List Part} {i : Nat} {x : Part} (h : ps[i]? = some x) : bytesOf (ps.take (i + 1)) = bytesOf (ps.take i) ++ x.bs := by
  have hi := (List.getElem?_eq_some_iff.1 h)
  obtain ⟨hi, rfl⟩ := hi
  unfold bytesOf
  rw [List.take_succ_eq_append_getElem hi, List.flatMap_append]
  show _ ++ (_ ++ []) = _
  rw [List.append_nil]
theorem run_succ (S : Nat) (bs : List Nat) (j : Nat) (h : j < bs.length) : Wire.run S (bs.take (j + 1)) = Wire.byte (Wire.run S (bs.take j)) (bs.getD j 0) := by
  rw [List.take_succ_eq_append_getElem h, Wire.run_append]
  simp [Wire.run, h]
theorem not32 (x : Nat) (hx : x < 4294967296) : bits .xor .u32 (if IntKind.u32.signed = true then -1 else IntKind.u32.max) (x : Int) = ((4294967295 ^^^ x : Nat) : Int) := by
  have h : (if IntKind.u32.signed = true then -1 else IntKind.u32.max : Int) = ((4294967295 : Nat) : Int) := by decide
  rw [h, u32_xor_nat _ _ (by decide) hx]
theorem shifted_k (x y : Nat) (hx : x < 4294967296) (hy : y < 256) (w : World) :
    Calls Try.prog 78 #[.int .u32 (bits .xor .u32 (x : Int) (y : Int))] w fun e w' => e = .returned (.int .u32 ((Wire.byte x y : Nat) : Int)) ∧ w' = w := by
  rw [u32_xor_nat x y hx (by omega)]
  exact shifted_any _ (Wire.xor_lt hx (by omega)) w
set_option maxHeartbeats 400000 in
set_option maxRecDepth 100000 in
theorem wcheck_any (ps : List Part) (pb po cap : Nat) (w : World) (hps : Parts w pb po ps) (hn : ps.length ≤ 9223372036854775807) :
    Calls Try.prog 60 #[.slice (some ⟨pb, po, none⟩) ps.length cap] w fun e w' => e = .returned (.int .u32 ((Wire.check (bytesOf ps) : Nat) : Int)) ∧ w' = w := by
  go_enter Try.func60, Try.ntmps60
  go_wp2_with fail
  go_loopw [3, 10] (fun v i w' => ∃ k : Nat, k ≤ ps.length ∧ i = .int .i64 (k : Int) ∧ v = .int .u32 ((Wire.run 4294967295 (bytesOf (ps.take k)) : Nat) : Int) ∧ w' = w) (fun _ i _ => ps.length - (intOf i).toNat)
  case atStart => exact ⟨0, by omega, rfl, rfl, rfl⟩
  case round =>
    obtain ⟨k, hk, rfl, rfl, rfl⟩ := hrel
    by_cases hlt : k < ps.length
    · obtain ⟨x, hx⟩ : ∃ x, ps[k]? = some x := ⟨_, List.getElem?_eq_getElem hlt⟩
      have hok := hps.ok x (List.mem_of_getElem? hx)
      have c0 : wr.cell? ⟨pb, po + k, none⟩ = some (.slice x.p x.bs.length x.cap) := hps.at_ k x hx
      have HB : Hid (bytesOf (ps.take (k + 1)) = bytesOf (ps.take k) ++ x.bs) := bytesOf_succ hx
      have hS := Wire.run_lt (s := 4294967295) (by decide) (bytesOf_take_lt hps k)
      have HR : Hid (Wire.run 4294967295 (bytesOf (ps.take (k + 1))) = Wire.run (Wire.run 4294967295 (bytesOf (ps.take k))) x.bs) := by show _ = _; rw [HB.out, Wire.run_append]
      generalize Wire.run 4294967295 (bytesOf (ps.take k)) = S at hS HR
      obtain ⟨p, bs, cap', b, off⟩ := x
      have hok' : Sl wr p bs cap' b off := hok
      have k1 : (k : Int) < (ps.length : Int) := by omega
      have HN : Hid (ps.length ≤ 9223372036854775807) := hn
      have HPS : Hid (Parts wr pb po ps) := hps
      simp only at c0 HR
      clear hok hx HB hps
      have k2 : (bs.length : Int) ≤ 9223372036854775807 := by have := hok'.cap1; have := hok'.cap2; omega
      go_wp2
      go_loopw [3, 16] (fun v i w' => ∃ j : Nat, j ≤ bs.length ∧ i = .int .i64 (j : Int) ∧ v = .int .u32 ((Wire.run S (bs.take j) : Nat) : Int) ∧ w' = wr) (fun _ i _ => bs.length - (intOf i).toNat)
      case atStart => exact ⟨0, by omega, rfl, rfl, rfl⟩
      case round =>
        obtain ⟨j, hj, rfl, rfl, rfl⟩ := hrel
        by_cases hlt2 : j < bs.length
        · obtain rfl := hok'.at_ (by omega)
          have c1 : wr.cell? ⟨b, off + j, none⟩ = some (.int .u8 ((bs.getD j 0 : Nat) : Int)) := hok'.src j hlt2
          have hy : bs.getD j 0 < 256 := getD_lt hok'.lt j
          have hT : Wire.run S (bs.take j) < 4294967296 := Wire.run_lt hS (fun x hx => hok'.lt x (List.mem_of_mem_take hx))
          have HT : Hid (Wire.run S (bs.take (j + 1)) = Wire.byte (Wire.run S (bs.take j)) (bs.getD j 0)) := run_succ S bs j hlt2
          generalize Wire.run S (bs.take j) = T at hT HT
          generalize bs.getD j 0 = y at c1 hy HT
          have k3 : (j : Int) < (bs.length : Int) := by omega
          have HOK : Hid (Sl wr (some ⟨b, off, none⟩) bs cap' b off) := hok'
          clear hok' c0
          go_wp2_with fail
          refine (shifted_k T y hT hy _).mono ?_
          rintro e w' ⟨rfl, rfl⟩
          go_wp2
          go_roundw
          case rel =>
            go_light
            refine ⟨j + 1, by omega, by go_num, ?_, by trivial⟩
            rw [HT.out]
          case measure => simp [intOf]; omega
        · have HJ : Hid (j = bs.length) := by show j = _; omega
          clear hok' c0
          go_wp2
          go_roundw
          case rel =>
            go_light
            refine ⟨k + 1, by omega, by go_num, ?_, by trivial⟩
            rw [HJ.out, List.take_of_length_le (Nat.le_refl _), HR.out]
          case measure => simp [intOf]; omega
    · have HK : Hid (k = ps.length) := by show k = _; omega
      have hS := Wire.run_lt (s := 4294967295) (by decide) (bytesOf_take_lt hps k)
      have HC : Hid (Wire.check (bytesOf ps) = 4294967295 ^^^ Wire.run 4294967295 (bytesOf (ps.take k))) := by
        show _ = _
        rw [HK.out, List.take_of_length_le (Nat.le_refl _)]; rfl
      generalize Wire.run 4294967295 (bytesOf (ps.take k)) = S at hS HC
      have hnn := not32 S hS
      clear hps
      go_wp2
      go_ret
      rw [HC.out]
      exact ⟨rfl, rfl⟩
theorem bytesOf_le (ps : List Part) (i : Nat) : (bytesOf (ps.take i)).length ≤ (bytesOf ps).length := by
  conv => rhs; rw [← List.take_append_drop i ps]
  unfold bytesOf
  rw [List.flatMap_append, List.length_append]
  omega
end Go.Proofs.Ytjjofjnhhajjjaa.Nd
namespace Go.Proofs.Ytjjofjnhhajjjaa.Nd
open Go.RowKit
theorem word_any (n : Nat) (hn : n < 4294967296) (w : World) :
    Calls Try.prog 86 #[.int .u32 (n : Int)] w fun e w' => e = .returned (.slice (some ⟨w.heap.size, 0, none⟩) 4 4) ∧ w' = w.alloc (.cells ((Wire.four n).map u8v).toArray 5) := by
  go_enter Try.func86, Try.ntmps86
  go_wp2
  go_ret
  refine ⟨rfl, ?_⟩
  have e0 : (n : Int) % 256 = ((n % 256 : Nat) : Int) := by omega
  have e1 : (n : Int) / 256 % 256 = ((n / 256 % 256 : Nat) : Int) := by omega
  have e2 : (n : Int) / 65536 % 256 = ((n / 65536 % 256 : Nat) : Int) := by omega
  have e3 : (n : Int) / 16777216 = ((n / 16777216 % 256 : Nat) : Int) := by omega
  rw [e0, e1, e2, e3]
  rfl
theorem val_form (x0 x1 x2 x3 : Nat) (b0 : x0 < 256) (b1 : x1 < 256) (b2 : x2 < 256) (b3 : x3 < 256) :
    bits .or .u32 (bits .or .u32 (bits .or .u32 (x0 : Int) ((x1 : Int) * 256)) ((x2 : Int) * 65536)) ((x3 : Int) * 16777216) = ((x0 + x1 * 256 + x2 * 65536 + x3 * 16777216 : Nat) : Int) := by
  have e1 : (x1 : Int) * 256 = ((x1 * 256 : Nat) : Int) := by simp
  have e2 : (x2 : Int) * 65536 = ((x2 * 65536 : Nat) : Int) := by simp
  have e3 : (x3 : Int) * 16777216 = ((x3 * 16777216 : Nat) : Int) := by simp
  have j1 : x0 ||| x1 * 256 = x0 + x1 * 256 := by rw [Nat.or_comm, nat_join 8 _ _ (by omega) (by omega)]; omega
  have j2 : (x0 + x1 * 256) ||| x2 * 65536 = x0 + x1 * 256 + x2 * 65536 := by rw [Nat.or_comm, nat_join 16 _ _ (by omega) (by omega)]; omega
  have j3 : (x0 + x1 * 256 + x2 * 65536) ||| x3 * 16777216 = x0 + x1 * 256 + x2 * 65536 + x3 * 16777216 := by rw [Nat.or_comm, nat_join 24 _ _ (by omega) (by omega)]; omega
  rw [e1, e2, e3, u32_or_nat _ _ (by omega) (by omega), j1, u32_or_nat _ _ (by omega) (by omega), j2, u32_or_nat _ _ (by omega) (by omega), j3]
set_option maxHeartbeats 1000000 in
set_option maxRecDepth 100000 in
theorem value_any (bs : List Nat) (p : Option Addr) (cap b off : Nat) (w : World) (hsl : Sl w p bs cap b off) (h4 : 4 ≤ bs.length) :
    Calls Try.prog 59 #[.slice p bs.length cap] w fun e w' => e = .returned (.int .u32 ((Wire.val bs : Nat) : Int)) ∧ ∃ m, w' = w.drewN m := by
  obtain rfl := hsl.at_ (by omega)
  have c0 : w.cell? ⟨b, off, none⟩ = some (.int .u8 ((bs.getD 0 0 : Nat) : Int)) := hsl.src 0 (by omega)
  have c1 : w.cell? ⟨b, off + 1, none⟩ = some (.int .u8 ((bs.getD 1 0 : Nat) : Int)) := hsl.src 1 (by omega)
  have c2 : w.cell? ⟨b, off + 2, none⟩ = some (.int .u8 ((bs.getD 2 0 : Nat) : Int)) := hsl.src 2 (by omega)
  have c3 : w.cell? ⟨b, off + 3, none⟩ = some (.int .u8 ((bs.getD 3 0 : Nat) : Int)) := hsl.src 3 (by omega)
  have b0 : bs.getD 0 0 < 256 := getD_lt hsl.lt 0
  have b1 : bs.getD 1 0 < 256 := getD_lt hsl.lt 1
  have b2 : bs.getD 2 0 < 256 := getD_lt hsl.lt 2
  have b3 : bs.getD 3 0 < 256 := getD_lt hsl.lt 3
  have HV : Hid (Wire.val bs = bs.getD 0 0 + bs.getD 1 0 * 256 + bs.getD 2 0 * 65536 + bs.getD 3 0 * 16777216) := rfl
  generalize bs.getD 0 0 = x0 at c0 b0 HV
  generalize bs.getD 1 0 = x1 at c1 b1 HV
  generalize bs.getD 2 0 = x2 at c2 b2 HV
  generalize bs.getD 3 0 = x3 at c3 b3 HV
  have k1 : (3 : Int) < (bs.length : Int) := by omega
  have k2 : (2 : Int) < (bs.length : Int) := by omega
  have k3 : (1 : Int) < (bs.length : Int) := by omega
  have k4 : (0 : Int) < (bs.length : Int) := by omega
  have hvf := val_form x0 x1 x2 x3 b0 b1 b2 b3
  clear hsl
  go_enter Try.func59, Try.ntmps59
  go_wp2
  go_quiet (fail)
  go_wp2
  go_ret
  rw [HV.out]
  exact ⟨rfl, _, rfl⟩
end Go.Proofs.Ytjjofjnhhajjjaa.Nd
namespace Go.Proofs.Ytjjofjnhhajjjaa.Nd
open Go.RowKit
theorem zeroCells_u8 (n : Nat) : (Builtin.zeroCells (Value.int .u8 0).cells n).size = n := by
  simp [Builtin.zeroCells, Value.cells]
set_option maxHeartbeats 1000000 in
set_option maxRecDepth 100000 in
theorem grow_any (n : Nat) (h0 : 0 < n) (hn : n ≤ 140737488355328) (w : World) :
    Calls Try.prog 92 #[.slice none 0 0, .int .i64 (n : Int)] w fun e w' => ∃ v, e = .returned v ∧ w'.ownsRow w.heap.size 5 1 v 0 [] ∧ Below w.heap.size w w' := by
  obtain ⟨i5i, HI5, HE1, HE2, HE3⟩ := i5h
  have hG := Lib.run_append_nil_zeros (P := Try.prog) w 54 3 54 5 i5i (.int .u8 0) .i64 .i64 Try.underlying54 Try.underlying3 HI5.out HE3.out n h0 (by rw [HE1.out]; decide) (by omega) (by rw [HE2.out]; omega)
  have hGm := grownCap_le_maxLen w n 0 5 (by unfold maxLen; omega)
  have hGn : n ≤ grownCap w n 0 5 := grownCap_ge w _ _ _
  obtain ⟨G, hGe⟩ : ∃ G, Hid (G = grownCap w n 0 5) := ⟨_, rfl⟩
  rw [← hGe.out] at hG hGm hGn
  have hsz : (Builtin.zeroCells (Value.int .u8 0).cells n ++ Builtin.zeroCells (Value.int .u8 0).cells (G - n)).size = G := by
    rw [Array.size_append, zeroCells_u8, zeroCells_u8]; omega
  generalize Builtin.zeroCells (Value.int .u8 0).cells n ++ Builtin.zeroCells (Value.int .u8 0).cells (G - n) = Z at hG hsz
  have hsl := slice_to w.heap.size 0 n G 0 (by omega)
  have k1 : (0 : Int) < (n : Int) := by omega
  go_enter Try.func92, Try.ntmps92
  go_wp2_with (at_builtin; refine Lib.wpList_append_run _ rfl _ _ _ _ rfl _ _ rfl rfl _ _ hG ?_)
  go_ret
  refine ⟨_, rfl, ?_, ((Below.refl _ _).drew).alloc (Nat.le_refl _) _⟩
  exact World.ownsRow_made (base := w.heap.size) (e := 5) (size := 1) w.drew Z G (Nat.le_refl _) hGm (by omega)
end Go.Proofs.Ytjjofjnhhajjjaa.Nd
namespace Go.Proofs.Ytjjofjnhhajjjaa.Nd
open Go.RowKit
set_option maxHeartbeats 1000000 in
set_option maxRecDepth 100000 in
theorem concat_any (ps : List Part) (pb po cap : Nat) (w : World) (hps : Parts w pb po ps) (hn : ps.length ≤ 9223372036854775807) (h0 : 0 < (bytesOf ps).length) (hre : (bytesOf ps).length ≤ 140737488355328) :
    Calls Try.prog 87 #[.slice (some ⟨pb, po, none⟩) ps.length cap] w fun e w' => ∃ v, e = .returned v ∧ w'.ownsRow w.heap.size 5 1 v (bytesOf ps).length ((bytesOf ps).map u8v) ∧ Below w.heap.size w w' := by
  obtain ⟨i5i, HI5, HE1, HE2, HE3⟩ := i5h
  have HPS : Hid (Parts w pb po ps) := hps
  clear hps
  go_enter Try.func87, Try.ntmps87
  go_wp2_with fail
  go_loopw [3, 11] (fun v i w' => ∃ k : Nat, k ≤ ps.length ∧ i = .int .i64 (k : Int) ∧ v = .int .i64 (((bytesOf (ps.take k)).length : Nat) : Int) ∧ w' = w) (fun _ i _ => ps.length - (intOf i).toNat)
  case atStart => exact ⟨0, by omega, rfl, rfl, rfl⟩
  case round =>
    obtain ⟨k, hk, rfl, rfl, hwr⟩ := hrel
    have hwr' := hwr.symm
    subst hwr'
    by_cases hlt : k < ps.length
    · obtain ⟨x, hx⟩ : ∃ x, ps[k]? = some x := ⟨_, List.getElem?_eq_getElem hlt⟩
      have c0 : w.cell? ⟨pb, po + k, none⟩ = some (.slice x.p x.bs.length x.cap) := HPS.out.at_ k x hx
      have HB : Hid (bytesOf (ps.take (k + 1)) = bytesOf (ps.take k) ++ x.bs) := bytesOf_succ hx
      have hle := bytesOf_le ps (k + 1)
      rw [HB.out, List.length_append] at hle
      have k1 : (k : Int) < (ps.length : Int) := by omega
      have k2 : ((bytesOf (ps.take k)).length : Int) + (x.bs.length : Int) ≤ 140737488355328 := by omega
      generalize hm : (bytesOf (ps.take k)).length = m at k2 hle
      clear hx
      go_wp2
      go_roundw
      case rel =>
        go_light
        refine ⟨k + 1, by omega, by go_num, ?_, by trivial⟩
        rw [HB.out, List.length_append, hm]
        go_num
      case measure => simp [intOf]; omega
    · have HK : Hid (k = ps.length) := by show k = _; omega
      have k1 : (ps.length : Int) ≤ (k : Int) := by omega
      have HA : Hid ((bytesOf (ps.take k)).length = (bytesOf ps).length) := by show _ = _; rw [HK.out, List.take_of_length_le (Nat.le_refl _)]
      rw [HA.out]
      obtain ⟨T, hT⟩ : ∃ T, T = (bytesOf ps).length := ⟨_, rfl⟩
      rw [← hT] at h0 hre ⊢
      have HT : Hid (T = (bytesOf ps).length) := hT
      clear hT HK hk hlt
      go_wp2_with fail
      refine (grow_any T h0 hre w).mono ?_
      rintro e w1 ⟨v1, rfl, hown1, hb1⟩
      go_wp2_with fail
      go_loopw [6, 27] (fun v i w' => ∃ k : Nat, k ≤ ps.length ∧ i = .int .i64 (k : Int) ∧ w'.ownsRow w.heap.size 5 1 v (bytesOf (ps.take k)).length ((bytesOf (ps.take k)).map u8v) ∧ Below w.heap.size w w') (fun _ i _ => ps.length - (intOf i).toNat)
      case atStart => exact ⟨0, by omega, rfl, hown1, hb1⟩
      case round =>
        clear hown1 hb1
        obtain ⟨k2, hk2, rfl, hown, hbel⟩ := hrel
        have HBEL : Hid (Below w.heap.size w wr) := hbel
        by_cases hlt2 : k2 < ps.length
        · obtain ⟨x, hx⟩ : ∃ x, ps[k2]? = some x := ⟨_, List.getElem?_eq_getElem hlt2⟩
          have hpr := HPS.out.below hbel
          have hxm := List.mem_of_getElem? hx
          have c0 : wr.cell? ⟨pb, po + k2, none⟩ = some (.slice x.p x.bs.length x.cap) := hpr.at_ k2 x hx
          have hnews := Sl.news (hpr.ok x hxm)
          have hno := hpr.no x hxm
          have HB : Hid (bytesOf (ps.take (k2 + 1)) = bytesOf (ps.take k2) ++ x.bs) := bytesOf_succ hx
          have hle := bytesOf_le ps (k2 + 1)
          rw [HB.out, List.length_append] at hle
          have k3 : (k2 : Int) < (ps.length : Int) := by omega
          have hfit : (bytesOf (ps.take k2)).length + x.bs.length ≤ 140737488355328 := by have := HT.out; omega
          have hl : (x.bs.map u8v).length = x.bs.length := by simp
          have hsz : w.heap.size ≤ wr.heap.size := hbel.size
          clear hx hxm hpr hbel hle
          go_wp2_with (at_builtin; refine wpList_append_any rfl _ _ 54 rfl w.heap.size 5 i5i (.int .u8 0) Try.underlying54 HI5.out HE3.out HE1.out HE2.out rfl _ _ _ rfl hown x.p x.bs.length x.cap (x.bs.map u8v) rfl hl hno hnews (one_u8 x.bs) hfit hsz ?_; intro v6 w6 hown6 hg6)
          have hb6 := own_step HBEL.out hg6 hsz rfl hown
          go_roundw
          case rel =>
            go_light
            refine ⟨k2 + 1, by omega, by go_num, ?_, hb6⟩
            rw [HB.out, List.length_append, List.map_append]
            exact hown6
          case measure => simp [intOf]; omega
        · have HK2 : Hid (k2 = ps.length) := by show k2 = _; omega
          have k3 : (ps.length : Int) ≤ (k2 : Int) := by omega
          have HOWN : Hid (wr.ownsRow w.heap.size 5 1 u6 (bytesOf (ps.take k2)).length ((bytesOf (ps.take k2)).map u8v)) := hown
          clear hown
          go_wp2
          go_ret
          have h := HOWN.out
          rw [HK2.out, List.take_of_length_le (Nat.le_refl _)] at h
          rw [HT.out]
          exact ⟨_, rfl, h, HBEL.out⟩
end Go.Proofs.Ytjjofjnhhajjjaa.Nd
