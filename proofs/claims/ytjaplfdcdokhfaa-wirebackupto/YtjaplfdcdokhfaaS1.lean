/-
  The walks of wire.shiftedByByte and wire.Check: the check sum of parts.
-/
import Derived.Test.YtjaplfdcdokhfaaC0
namespace Go.Proofs.Ytjaplfdcdokhfaa
open Go.RowKit

theorem and_one32 (x : Nat) (hx : x < 4294967296) : bits .and .u32 (x : Int) 1 = ((x % 2 : Nat) : Int) := by
  have := u32_and_nat x 1 hx (by decide)
  rw [Nat.and_one_is_mod] at this
  exact this
theorem xor32 (x y : Nat) (hx : x < 4294967296) (hy : y < 4294967296) (z : Int) (hz : z = (y : Int)) : bits .xor .u32 (x : Int) z = ((x ^^^ y : Nat) : Int) := by
  rw [hz, u32_xor_nat x y hx hy]

set_option maxHeartbeats 400000 in
theorem shifted_any (x : Nat) (hx : x < 4294967296) (w : World) :
    Calls Try.prog 55 #[.int .u32 (x : Int)] w fun e w' => e = .returned (.int .u32 ((Wire.steps 8 x : Nat) : Int)) ∧ w' = w := by
  go_enter Try.func55, Try.ntmps55
  go_wp2_with fail
  go_loopw [0, 4] (fun v i w' => ∃ k : Nat, k ≤ 8 ∧ i = .int .i64 (k : Int) ∧ v = .int .u32 ((Wire.steps k x : Nat) : Int) ∧ w' = w) (fun _ i _ => 8 - (intOf i).toNat)
  case atStart => exact ⟨0, by omega, rfl, rfl, rfl⟩
  case round =>
    obtain ⟨k, hk, rfl, rfl, rfl⟩ := hrel
    by_cases hlt : k < 8
    · have hb := Wire.steps_lt k hx
      have HS : Hid (Wire.steps (k + 1) x = Wire.step (Wire.steps k x)) := rfl
      generalize Wire.steps k x = y at hb HS
      have a1 := and_one32 y hb
      by_cases h1 : y % 2 = 1
      · have a2 : bits .and .u32 (y : Int) 1 = 1 := by rw [a1, h1]; rfl
        have a3 := xor32 (y / 2) 3988292384 (by omega) (by decide) 3988292384 rfl
        rw [show ((y / 2 : Nat) : Int) = (y : Int) / 2 by simp] at a3
        clear a1
        go_wp2
        go_roundw
        case rel =>
          go_light
          refine ⟨k + 1, by omega, by go_num, ?_, by trivial⟩
          rw [HS.out, Wire.step, if_pos h1]
        case measure => simp [intOf]; omega
      · have a2 : bits .and .u32 (y : Int) 1 = 0 := by rw [a1, show y % 2 = 0 by omega]; rfl
        clear a1
        go_wp2
        go_roundw
        case rel =>
          go_light
          refine ⟨k + 1, by omega, by go_num, ?_, by trivial⟩
          rw [HS.out, Wire.step, if_neg h1]
          simp
        case measure => simp [intOf]; omega
    · have HK : Hid (k = 8) := by show k = 8; omega
      go_wp2
      go_ret
      rw [HK.out]
      exact ⟨rfl, rfl⟩

/-- a slice of bytes among several: where it lies, its bytes -/
structure Part where
  p : Option Addr
  bs : List Nat
  cap : Nat
  b : Nat
  off : Nat
def Part.val (x : Part) : Value := .slice x.p x.bs.length x.cap
def Part.ok (w : World) (x : Part) : Prop := Sl w x.p x.bs x.cap x.b x.off
/-- slices of bytes that lie one behind the other -/
structure Parts (w : World) (pb po : Nat) (ps : List Part) : Prop where
  at_ : ∀ i x, ps[i]? = some x → w.cell? ⟨pb, po + i, none⟩ = some x.val
  ok : ∀ x ∈ ps, x.ok w
  no : ∀ x ∈ ps, x.p = none → x.bs.length = 0 ∧ x.cap = 0
theorem Parts.below {w w' : World} {pb po : Nat} {ps : List Part} (h : Parts w pb po ps) (hb : Below w.heap.size w w') : Parts w' pb po ps :=
  ⟨fun i x hx => by rw [hb.cell (World.block_lt_of_cell? w _ (h.at_ i x hx))]; exact h.at_ i x hx, fun x hx => (h.ok x hx).below hb, h.no⟩
def bytesOf (ps : List Part) : List Nat := ps.flatMap (·.bs)
theorem bytesOf_lt {w : World} {pb po : Nat} {ps : List Part} (h : Parts w pb po ps) : ∀ x ∈ bytesOf ps, x < 256 := by
  intro x hx
  simp only [bytesOf, List.mem_flatMap] at hx
  obtain ⟨y, hy, hx⟩ := hx
  exact (h.ok y hy).lt x hx
theorem bytesOf_take_lt {w : World} {pb po : Nat} {ps : List Part} (h : Parts w pb po ps) (i : Nat) : ∀ x ∈ bytesOf (ps.take i), x < 256 := by
  intro x hx
  simp only [bytesOf, List.mem_flatMap] at hx
  obtain ⟨y, hy, hx⟩ := hx
  exact (h.ok y (List.mem_of_mem_take hy)).lt x hx
theorem bytesOf_succ {ps : List Part} {i : Nat} {x : Part} (h : ps[i]? = some x) : bytesOf (ps.take (i + 1)) = bytesOf (ps.take i) ++ x.bs := by
  have hi := (List.getElem?_eq_some_iff.1 h)
  obtain ⟨hi, rfl⟩ := hi
  unfold bytesOf
  rw [List.take_succ_eq_append_getElem hi, List.flatMap_append]
  show _ ++ (_ ++ []) = _
  rw [List.append_nil]
theorem run_succ (S : Nat) (bs : List Nat) (j : Nat) (h : j < bs.length) : Wire.run S (bs.take (j + 1)) = Wire.byte (Wire.run S (bs.take j)) (bs.getD j 0) := by
  rw [List.take_succ_eq_append_getElem h, Wire.run_append]
  simp [Wire.run, h]
theorem not32 (x : Nat) (hx : x < 4294967296) : bits .xor .u32 (if IntKind.u32.signed = true then -1 else IntKind.u32.max) (x : Int) = ((4294967295 ^^^ x : Nat) : Int) := by
  have h : (if IntKind.u32.signed = true then -1 else IntKind.u32.max : Int) = ((4294967295 : Nat) : Int) := by decide
  rw [h, u32_xor_nat _ _ (by decide) hx]
theorem shifted_k (x y : Nat) (hx : x < 4294967296) (hy : y < 256) (w : World) :
    Calls Try.prog 55 #[.int .u32 (bits .xor .u32 (x : Int) (y : Int))] w fun e w' => e = .returned (.int .u32 ((Wire.byte x y : Nat) : Int)) ∧ w' = w := by
  rw [u32_xor_nat x y hx (by omega)]
  exact shifted_any _ (Wire.xor_lt hx (by omega)) w

set_option maxHeartbeats 400000 in
theorem check_any (ps : List Part) (pb po cap : Nat) (w : World) (hps : Parts w pb po ps) (hn : ps.length ≤ 9223372036854775807) :
    Calls Try.prog 33 #[.slice (some ⟨pb, po, none⟩) ps.length cap] w fun e w' => e = .returned (.int .u32 ((Wire.check (bytesOf ps) : Nat) : Int)) ∧ w' = w := by
  go_enter Try.func33, Try.ntmps33
  go_wp2_with fail
  go_loopw [3, 10] (fun v i w' => ∃ k : Nat, k ≤ ps.length ∧ i = .int .i64 (k : Int) ∧ v = .int .u32 ((Wire.run 4294967295 (bytesOf (ps.take k)) : Nat) : Int) ∧ w' = w) (fun _ i _ => ps.length - (intOf i).toNat)
  case atStart => exact ⟨0, by omega, rfl, rfl, rfl⟩
  case round =>
    obtain ⟨k, hk, rfl, rfl, rfl⟩ := hrel
    by_cases hlt : k < ps.length
    · obtain ⟨x, hx⟩ : ∃ x, ps[k]? = some x := ⟨_, List.getElem?_eq_getElem hlt⟩
      have hok := hps.ok x (List.mem_of_getElem? hx)
      have c0 : wr.cell? ⟨pb, po + k, none⟩ = some (.slice x.p x.bs.length x.cap) := hps.at_ k x hx
      have HB : Hid (bytesOf (ps.take (k + 1)) = bytesOf (ps.take k) ++ x.bs) := bytesOf_succ hx
      have hS := Wire.run_lt (s := 4294967295) (by decide) (bytesOf_take_lt hps k)
      have HR : Hid (Wire.run 4294967295 (bytesOf (ps.take (k + 1))) = Wire.run (Wire.run 4294967295 (bytesOf (ps.take k))) x.bs) := by show _ = _; rw [HB.out, Wire.run_append]
      generalize Wire.run 4294967295 (bytesOf (ps.take k)) = S at hS HR
      obtain ⟨p, bs, cap', b, off⟩ := x
      have hok' : Sl wr p bs cap' b off := hok
      have k1 : (k : Int) < (ps.length : Int) := by omega
      have HN : Hid (ps.length ≤ 9223372036854775807) := hn
      have HPS : Hid (Parts wr pb po ps) := hps
      simp only at c0 HR
      clear hok hx HB hps
      have k2 : (bs.length : Int) ≤ 9223372036854775807 := by have := hok'.cap1; have := hok'.cap2; omega
      go_wp2
      go_loopw [3, 16] (fun v i w' => ∃ j : Nat, j ≤ bs.length ∧ i = .int .i64 (j : Int) ∧ v = .int .u32 ((Wire.run S (bs.take j) : Nat) : Int) ∧ w' = wr) (fun _ i _ => bs.length - (intOf i).toNat)
      case atStart => exact ⟨0, by omega, rfl, rfl, rfl⟩
      case round =>
        obtain ⟨j, hj, rfl, rfl, rfl⟩ := hrel
        by_cases hlt2 : j < bs.length
        · obtain rfl := hok'.at_ (by omega)
          have c1 : wr.cell? ⟨b, off + j, none⟩ = some (.int .u8 ((bs.getD j 0 : Nat) : Int)) := hok'.src j hlt2
          have hy : bs.getD j 0 < 256 := getD_lt hok'.lt j
          have hT : Wire.run S (bs.take j) < 4294967296 := Wire.run_lt hS (fun x hx => hok'.lt x (List.mem_of_mem_take hx))
          have HT : Hid (Wire.run S (bs.take (j + 1)) = Wire.byte (Wire.run S (bs.take j)) (bs.getD j 0)) := run_succ S bs j hlt2
          generalize Wire.run S (bs.take j) = T at hT HT
          generalize bs.getD j 0 = y at c1 hy HT
          have k3 : (j : Int) < (bs.length : Int) := by omega
          have HOK : Hid (Sl wr (some ⟨b, off, none⟩) bs cap' b off) := hok'
          clear hok' c0
          go_wp2_with fail
          refine (shifted_k T y hT hy _).mono ?_
          rintro e w' ⟨rfl, rfl⟩
          go_wp2
          go_roundw
          case rel =>
            go_light
            refine ⟨j + 1, by omega, by go_num, ?_, by trivial⟩
            rw [HT.out]
          case measure => simp [intOf]; omega
        · have HJ : Hid (j = bs.length) := by show j = _; omega
          clear hok' c0
          go_wp2
          go_roundw
          case rel =>
            go_light
            refine ⟨k + 1, by omega, by go_num, ?_, by trivial⟩
            rw [HJ.out, List.take_of_length_le (Nat.le_refl _), HR.out]
          case measure => simp [intOf]; omega
    · have HK : Hid (k = ps.length) := by show k = _; omega
      have hS := Wire.run_lt (s := 4294967295) (by decide) (bytesOf_take_lt hps k)
      have HC : Hid (Wire.check (bytesOf ps) = 4294967295 ^^^ Wire.run 4294967295 (bytesOf (ps.take k))) := by
        show _ = _
        rw [HK.out, List.take_of_length_le (Nat.le_refl _)]; rfl
      generalize Wire.run 4294967295 (bytesOf (ps.take k)) = S at hS HC
      have hnn := not32 S hS
      clear hps
      go_wp2
      go_ret
      rw [HC.out]
      exact ⟨rfl, rfl⟩
/-- a row that a call owns, as a block that is known whole -/
theorem own_row {w : World} {B n : Nat} {v : Value} {xs : List Value} (h : w.ownsRow B 5 1 v n xs) (hn : 0 < n) : ∃ g cap vs, v = .slice (some ⟨g, 0, none⟩) n cap ∧ B ≤ g ∧ g < w.heap.size ∧ Row w g vs 5 ∧ n ≤ cap ∧ cap ≤ 9223372036854775807 ∧ vs.length = cap ∧ vs.take n = xs := by
  obtain ⟨_, ⟨_, h0⟩ | ⟨g, cap, cur, hv, hb, hg, h1, h2, h3, h4⟩⟩ := h
  · omega
  · have hr : Row w g cur.toList 5 := by unfold Row; rw [hg]
    unfold maxLen at h2
    exact ⟨g, cap, cur.toList, hv, hb, hr.lt, hr, h1, by omega, by simpa using h3, by simpa using h4⟩
theorem row_sl {w : World} {g n cap : Nat} {vs : List Value} {xs : List Nat} (hr : Row w g vs 5) (ht : vs.take n = xs.map u8v) (hn : xs.length ≤ n) (hlt : ∀ x ∈ xs, x < 256) (h1 : xs.length ≤ cap) (h2 : cap ≤ 9223372036854775807) : Sl w (some ⟨g, 0, none⟩) xs cap g 0 :=
  ⟨hlt, h1, h2, fun _ => rfl, fun j hj => by
    rw [Nat.zero_add, hr.cell]
    have e : vs[j]? = (vs.take n)[j]? := by rw [List.getElem?_take_of_lt (by omega)]
    rw [e, ht]
    simp [hj]⟩
theorem Sl.grown {w w' : World} {p : Option Addr} {bs : List Nat} {cap b off : Nat} {row : Option Nat} (h : Sl w p bs cap b off) (hb : w.grownBy w' row) (hne : 0 < bs.length → some b ≠ row) : Sl w' p bs cap b off :=
  ⟨h.lt, h.cap1, h.cap2, h.at_, fun j hj => hb.cell (h.src j hj) (hne (by omega))⟩
theorem Sl.blk {w : World} {p : Option Addr} {bs : List Nat} {cap b off : Nat} (h : Sl w p bs cap b off) (h0 : 0 < bs.length) : b < w.heap.size := World.block_lt_of_cell? w _ (h.src 0 h0)

theorem bytesOf_le (ps : List Part) (i : Nat) : (bytesOf (ps.take i)).length ≤ (bytesOf ps).length := by
  conv => rhs; rw [← List.take_append_drop i ps]
  unfold bytesOf
  rw [List.flatMap_append, List.length_append]
  omega
theorem own_sl {w : World} {B : Nat} {v : Value} {xs : List Nat} (hlt : ∀ x ∈ xs, x < 256) (h : w.ownsRow B 5 1 v xs.length (xs.map u8v)) : ∃ p cap b, v = .slice p xs.length cap ∧ Sl w p xs cap b 0 ∧ (p = none → xs.length = 0 ∧ cap = 0) := by
  by_cases h0 : 0 < xs.length
  · obtain ⟨g, cap, vs, hv, hb, hglt, hr, h1, h2, h3, h4⟩ := own_row h h0
    exact ⟨_, cap, g, hv, row_sl hr h4 (Nat.le_refl _) hlt h1 h2, fun h => by cases h⟩
  · have hx : xs = [] := List.eq_nil_of_length_eq_zero (by omega)
    subst hx
    obtain ⟨_, ⟨rfl, _⟩ | ⟨g, cap, cur, rfl, hb, hg, h1, h2, h3, h4⟩⟩ := h
    · exact ⟨none, 0, 0, rfl, ⟨hlt, by simp, by omega, fun h => by simp at h, fun j hj => by simp at hj⟩, fun _ => ⟨rfl, rfl⟩⟩
    · exact ⟨_, cap, g, rfl, ⟨hlt, by simp, by unfold maxLen at h2; omega, fun h => by simp at h, fun j hj => by simp at hj⟩, fun h => by cases h⟩
theorem own_below {w w' : World} {B : Nat} {v : Value} {n : Nat} {xs : List Value} (h : w.ownsRow B 5 1 v n xs) (hb : Below w.heap.size w w') : w'.ownsRow B 5 1 v n xs := by
  refine h.kept (grown_of_below (row := none) hb) ?_
  cases v.ownBlock <;> simp
end Go.Proofs.Ytjaplfdcdokhfaa
