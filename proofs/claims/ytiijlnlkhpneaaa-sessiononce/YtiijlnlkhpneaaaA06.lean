/-
  Plain facts for SessionOnce. A script that comes in.
-/
import Derived.Laws.StructEq
import Derived.Deep.RegionLaw
import Derived.Deep.DrawnRows
import Derived.Laws.Tables
import Derived.OwnWalk
import Derived.Lib.AppendZeros
import Derived.Laws.CopyOwn
import Derived.ProofKit
import Derived.OpenShut
import Derived.ShutString
import Derived.ChangeOld
import Derived.Deep.DeepHandedRow
import Derived.Deep.Slices
import Derived.SizedLaws
import Derived.Lib.LaidTab
import Derived.Test.YtiijlnlkhpneaaaA00
import Derived.Test.YtiijlnlkhpneaaaA01
import Derived.Test.YtiijlnlkhpneaaaA02
import Derived.Test.YtiijlnlkhpneaaaA03
import Derived.Test.YtiijlnlkhpneaaaA04
import Derived.Test.YtiijlnlkhpneaaaA05
namespace Go.Proofs.Ytiijlnlkhpneaaa.Se
open Go.RowKit
open Nd (Row wp_world grownBy_setCell below_of_grown grownBy_trans grown_of_below grownBy_refl)
def nums (T : List Seat) : List Int := 0 :: T.map (·.number)
/-- the last numbers, as they lie in memory -/
def nine (T : List Seat) : List Value := (nums T).map (Value.int .i64)
theorem nine_at {T : List Seat} {i : Nat} {s : Seat} (h : T[i]? = some s) : (nine T)[i + 1]? = some (.int .i64 s.number) := by
  simp [nine, nums, h]
theorem nums_set (T : List Seat) (i : Nat) (s : Seat) : nums (T.set i s) = (nums T).set (i + 1) s.number := by
  simp [nums, List.map_set]
theorem nine_set (T : List Seat) (i : Nat) (s : Seat) : nine (T.set i s) = (nine T).set (i + 1) (.int .i64 s.number) := by
  unfold nine
  rw [nums_set, List.map_set]
theorem nums_hush {T : List Seat} {i : Nat} {s : Seat} (h : T[i]? = some s) : nums (T.set i (hush s)) = nums T := by
  rw [nums_set]
  have h1 : (nums T)[i + 1]? = some s.number := by simp [nums, h]
  refine List.ext_getElem? fun j => ?_
  rw [List.getElem?_set]
  split
  · rename_i hj
    subst hj
    split
    · rw [h1]; rfl
    · rename_i hl
      rw [List.getElem?_eq_none (by omega)]
  · rfl
theorem forgT_nums {T : List Seat} (hr : Right T) (c : Int) : nums (forgT T c) = nums T ∧ Right (forgT T c) := by
  unfold forgT
  split
  · rename_i hc
    obtain ⟨i, s, hi, rfl, hs, hg⟩ := isC_at hc hr.len
    rw [hg, show ((i : Int) + 1 - 1).toNat = i by omega]
    exact ⟨nums_hush hs, hr.set i _ (hr.at_ i s hs).hush⟩
  · exact ⟨rfl, hr⟩
theorem mkR_nums {room : Int} (h0 : 0 ≤ room) {T : List Seat} (hr : Right T) : nums (mkR room T) = nums T := by
  have h := mk_ind h0 (fun X => nums X = nums T) (fun X i s hX hp hs _ _ => by rw [nums_hush hs, hp]) _ T (Nat.le_refl _) hr rfl
  exact h.1
/-- what a record does, by cases -/
theorem rec_cases {room : Int} (h0 : 0 ≤ room) {T : List Seat} (hr : Right T) (c n a : Int) (r : ByteArray) :
    (recE T c n r ≠ 0 ∧ recT room T c n a r = T ∧ (isC c = false → recE T c n r = 1)) ∨ (∃ (i : Nat) (s : Seat), recE T c n r = 0 ∧ i < 8 ∧ c = (i : Int) + 1 ∧ T[i]? = some s ∧ s.number < n ∧ isN n = true ∧ r.size ≤ 8192 ∧ recT room T c n a r = mkR room (T.set i ⟨(i : Int) + 1, n, a, true, r⟩) ∧ Right (T.set i ⟨(i : Int) + 1, n, a, true, r⟩) ∧ Right (recT room T c n a r)) := by
  by_cases he : recE T c n r = 0
  · right
    have h1 : (lookS T c n).1 = 1 := by
      have h := he
      unfold recE at h
      split at h
      · cases h
      · split at h
        · assumption
        · cases h
    have h2 : r.size ≤ 8192 := by
      have h := he
      unfold recE at h
      rw [h1] at h
      simp at h
      omega
    obtain ⟨hc, hn⟩ := look_range T c n (by rw [h1]; decide)
    obtain ⟨i, s, hi, rfl, hs, hg⟩ := isC_at hc hr.len
    have h3 : s.number < n := by
      unfold lookS at h1
      rw [hc, hn, hg] at h1
      simp only [Bool.and_self, if_true] at h1
      unfold seatSays at h1
      split at h1
      · assumption
      · split at h1
        · cases h1
        · split at h1 <;> cases h1
    have h4 : recT room T ((i : Int) + 1) n a r = mkR room (T.set i ⟨(i : Int) + 1, n, a, true, r⟩) := by
      unfold recT
      rw [if_pos he, show ((i : Int) + 1 - 1).toNat = i by omega]
    exact ⟨i, s, he, hi, rfl, hs, h3, hn, h2, h4, right_put hr hn h2, recT_right h0 hr _ _ _ _⟩
  · left
    refine ⟨he, by unfold recT; rw [if_neg he], fun hc => ?_⟩
    unfold recE lookS
    rw [hc]
    simp
theorem rec_nine {room : Int} (h0 : 0 ≤ room) {T : List Seat} {i : Nat} {n a : Int} {r : ByteArray} (hR : Right (T.set i ⟨(i : Int) + 1, n, a, true, r⟩)) : nine (mkR room (T.set i ⟨(i : Int) + 1, n, a, true, r⟩)) = (nine T).set (i + 1) (.int .i64 n) := by
  have h1 := mkR_nums h0 hR
  rw [show nine (mkR room (T.set i ⟨(i : Int) + 1, n, a, true, r⟩)) = nine (T.set i ⟨(i : Int) + 1, n, a, true, r⟩) by unfold nine; rw [h1], nine_set]
/-- what is known of a client's own number -/
theorem look_own {T : List Seat} (hr : Right T) {i : Nat} {s : Seat} (hi : i < 8) (hs : T[i]? = some s) : (s.number = 0 ∧ (lookS T ((i : Int) + 1) s.number).1 = 0) ∨ (s.number ≠ 0 ∧ (lookS T ((i : Int) + 1) s.number).1 ≠ 0 ∧ (lookS T ((i : Int) + 1) s.number).1 ≠ 1) := by
  have hc : isC ((i : Int) + 1) = true := decide_eq_true (by omega)
  have hg : T.getD ((i : Int) + 1 - 1).toNat noSeat = s := by
    rw [show ((i : Int) + 1 - 1).toNat = i by omega, List.getD_eq_getElem?_getD, hs]
    rfl
  rcases (hr.at_ i s hs).who with h | ⟨h1, h2⟩
  · left
    have h0 : s.number = 0 := by rw [h]; rfl
    refine ⟨h0, ?_⟩
    rw [h0]
    unfold lookS
    rw [hc]
    rfl
  · right
    have h3 : 1 ≤ s.number ∧ s.number ≤ 1099511627776 := of_decide_eq_true h1
    have e : lookS T ((i : Int) + 1) s.number = seatSays s s.number := by
      unfold lookS
      rw [hc, h1, hg]
      rfl
    rw [e]
    unfold seatSays
    rw [if_neg (by omega), if_neg (by omega)]
    refine ⟨by omega, ?_⟩
    split <;> exact ⟨by simp, by simp⟩
/-- a seat that is listed -/
theorem listed {T : List Seat} (hr : Right T) {k : Nat} {s : Seat} (h : (T.filter seated)[k]? = some s) : ∃ i : Nat, i < 8 ∧ T[i]? = some s ∧ s.client = (i : Int) + 1 ∧ s.number ≠ 0 ∧ (nine T)[i + 1]? = some (.int .i64 s.number) := by
  have h1 := List.mem_filter.1 (List.mem_of_getElem? h)
  obtain ⟨i, hi⟩ := List.getElem?_of_mem h1.1
  have h2 : s.number ≠ 0 := by simpa [seated] using h1.2
  have hl : i < 8 := by rw [← hr.len]; exact (List.getElem?_eq_some_iff.1 hi).1
  refine ⟨i, hl, hi, ?_, h2, nine_at hi⟩
  rcases (hr.at_ i s hi).who with h3 | h3
  · rw [h3] at h2
    exact absurd rfl h2
  · exact h3.2
theorem filter_le8 {T : List Seat} (hr : Right T) : (T.filter seated).length ≤ 8 := Nat.le_trans (List.length_filter_le _ _) (Nat.le_of_eq hr.len)
end Go.Proofs.Ytiijlnlkhpneaaa.Se
namespace Go.Proofs.Ytiijlnlkhpneaaa.Se
open Go.ChangeShapes Go.WideShapes Go.ChangeAt Go.RowKit Go.Deep
theorem cells9 : Try.prog.cellsOf 9 = 1 := by kernel_rfl
theorem cells3 : Try.prog.cellsOf 3 = 1 := by kernel_rfl
theorem cells4 : Try.prog.cellsOf 4 = 1 := by kernel_rfl
theorem cells2 : Try.prog.cellsOf 2 = 1 := by kernel_rfl
theorem cells44 : Try.prog.cellsOf 44 = 5 := by kernel_rfl
set_option maxRecDepth 100000 in
theorem act_at {H : Type} {enc : TypeId × Value → H} {W : World} {fuel : Nat} {cs : List Value} {d : DataW H} {p : List MemPlace} (hf : DataW.trod enc Try.prog W 0 (fun _ => true) true fuel 44 cs = some (d, p)) :
    ∃ s : Act1, cs = s.cells ∧ s.reply.size ≤ 9223372036854775807 := by
  obtain ⟨zs, n2, _, _, hl2, hzl, hg2⟩ := DataW.trod_struct Try.underlying44 hf
  have hzl' : zs.length = 5 := hzl
  rw [cells44] at hl2
  match zs, hzl', cs, hl2 with
  | [z0, z1, z2, z3, z4], _, [v0, v1, v2, v3, v4], _ =>
    have k0 := hg2 0 _ rfl
    have k1 := hg2 1 _ rfl
    have k2 := hg2 2 _ rfl
    have k3 := hg2 3 _ rfl
    have k4 := hg2 4 _ rfl
    obtain ⟨Q, f0, _, _⟩ := DataW.trod_bool Try.underlying4 k0
    obtain ⟨K1, f1, _, _⟩ := DataW.trod_int Try.underlying3 k1
    obtain ⟨K2, f2, _, _⟩ := DataW.trod_int Try.underlying2 k2
    obtain ⟨K3, f3, _, _⟩ := DataW.trod_int Try.underlying2 k3
    obtain ⟨X, f4, _, hX⟩ := DataW.trod_string Try.underlying9 k4
    simp [cells3, cells4, cells9, cells2] at f0 f1 f2 f3 f4
    subst f0 f1 f2 f3 f4
    unfold maxLen at hX
    exact ⟨⟨Q, K1, K2, K3, X⟩, rfl, by simp only; omega⟩
/-- a script that comes in -/
theorem acts_in {H : Type} {enc : TypeId × Value → H} {W : World} {a : Option Addr} {len cap : Nat} {d : DataW H} {p : List MemPlace} (h : DataW.Trod enc Try.prog W 0 (fun _ => true) true 22 (.slice a len cap) d p) :
    ∃ ss : List Act1, Acts W (.slice a len cap) ss ∧ ∀ x ∈ ss, x.reply.size ≤ 9223372036854775807 := by
  obtain ⟨fuel, hf⟩ := h
  rcases open_slice Try.underlying22 hf with ⟨hcs, hx⟩ | ⟨x, l, c, m, n, D, Pl, hcs, _, hl, hm, hmm, hx, hr⟩
  · simp [Value.cells] at hcs
    obtain ⟨rfl, rfl, rfl⟩ := hcs
    exact ⟨[], ⟨none, 0, 0, 0, rfl, by simp, by omega, fun h => absurd rfl h, fun i f hi => by simp at hi⟩, fun f hf => by cases hf⟩
  · simp [Value.cells] at hcs
    obtain ⟨rfl, rfl, rfl⟩ := hcs
    simp only [if_true] at hmm
    subst hmm
    rw [cells44] at hr
    have each : ∀ r, r < len → ∃ f : Act1, f.reply.size ≤ 9223372036854775807 ∧ ∀ (j : Nat) u, f.cells[j]? = some u → W.cell? ((x.add (r * 5)).add j) = some u := by
      intro r hlt
      obtain ⟨cs', h1, h2⟩ := hr r (by omega)
      obtain ⟨_, hlen, hcell⟩ := World.cells?_some h1
      obtain ⟨o, rfl, ho⟩ := act_at h2
      refine ⟨o, ho, fun j u hj => ?_⟩
      have hj5 : j < 5 := by have := (List.getElem?_eq_some_iff.1 hj).1; exact this
      have := hcell j hj5
      rw [this]
      exact hj
    haveI : Inhabited Act1 := ⟨⟨false, 0, 0, 0, ⟨#[]⟩⟩⟩
    obtain ⟨y, hy⟩ := choose_lt each
    have hcap : m ≤ 9223372036854775807 := by unfold maxLen at hm; omega
    obtain ⟨b, o, hpx⟩ : ∃ b o, 0 < len → x = ⟨b, o, none⟩ ∧ b < W.heap.size := by
      by_cases h0 : 0 < len
      · have hc := (hy 0 h0).2 0 _ rfl
        obtain ⟨b', o', sp⟩ := x
        have hspot : sp = none := by simpa [Addr.add] using World.cell?_spot hc
        subst hspot
        rw [Addr.add_mid, Addr.add_mid] at hc
        exact ⟨b', o', fun _ => ⟨rfl, World.block_lt_of_cell? W _ hc⟩⟩
      · exact ⟨0, 0, fun h => absurd h h0⟩
    refine ⟨(List.range len).map y, ⟨some x, m, b, o, by simp, by simpa using hl, hcap, fun h => ?_, fun j f hj => ?_⟩, fun f hf => ?_⟩
    · have h0 : 0 < len := by
        rcases Nat.eq_zero_or_pos len with h1 | h1
        · subst h1; exact absurd rfl h
        · exact h1
      exact ⟨by rw [(hpx h0).1], (hpx h0).2⟩
    · have hi : j < len := by have := (List.getElem?_eq_some_iff.1 hj).1; simpa using this
      simp [hi] at hj
      subst hj
      intro i u hu
      have := (hy j hi).2 i u hu
      rw [(hpx (by omega)).1, Addr.add_mid, Addr.add_mid] at this
      exact this
    · obtain ⟨r, hr2, rfl⟩ := List.mem_map.1 hf
      exact (hy r (by simpa using hr2)).1
end Go.Proofs.Ytiijlnlkhpneaaa.Se
