/-
  Plain facts for SessionRoom; the reference's Seats of equal lists. A script that comes in.
-/
import Derived.Lib.AppendZeros
import Derived.Deep.DrawnRows
import Derived.OwnWalk
import Derived.Laws.StructEq
import Derived.Laws.Tables
import Derived.Deep.RegionLaw
import Derived.Laws.CopyOwn
import Derived.ProofKit
import Derived.OpenShut
import Derived.ShutString
import Derived.ChangeOld
import Derived.Deep.DeepHandedRow
import Derived.Deep.Slices
import Derived.SizedLaws
import Derived.Lib.LaidTab
import Derived.Test.YtiijlnlkhpneaaaC00
import Derived.Test.YtiijlnlkhpneaaaC01
import Derived.Test.YtiijlnlkhpneaaaC02
import Derived.Test.YtiijlnlkhpneaaaC03
import Derived.Test.YtiijlnlkhpneaaaC04
import Derived.Test.YtiijlnlkhpneaaaC05
namespace Go.Proofs.Ytiijlnlkhpneaaa.Se
open Go.RowKit
open Nd (Row wp_world grownBy_setCell below_of_grown grownBy_trans grown_of_below grownBy_refl)
def others (c : Int) (X : List Seat) : List Seat := X.filter (fun s => s.client != c)
/-- seats at their places, from a place on -/
def From (off : Nat) (T : List Seat) : Prop := ∀ (j : Nat) s, T[j]? = some s → s = noSeat ∨ (s.number ≠ 0 ∧ s.client = ((off + j : Nat) : Int) + 1)
theorem From.tail {off : Nat} {a : Seat} {r : List Seat} (h : From off (a :: r)) : From (off + 1) r := fun j s hs => by
  have h1 := h (j + 1) s (by simpa using hs)
  rw [show off + (j + 1) = off + 1 + j by omega] at h1
  exact h1
theorem Right.from {T : List Seat} (h : Right T) : From 0 T := fun j s hs => by
  rcases (h.at_ j s hs).who with h1 | ⟨h1, h2⟩
  · exact .inl h1
  · have h3 : 1 ≤ s.number ∧ s.number ≤ 1099511627776 := of_decide_eq_true h1
    exact .inr ⟨by omega, by rw [h2, Nat.zero_add]⟩
theorem seated_no {s : Seat} (h : s = noSeat) : seated s = false := by rw [h]; rfl
theorem others_keep : ∀ (T : List Seat) (off : Nat) (c : Int), From off T → c ≤ (off : Int) → others c (T.filter seated) = T.filter seated
  | [], _, _, _, _ => rfl
  | a :: r, off, c, h, hc => by
    have ih := others_keep r (off + 1) c h.tail (by omega)
    rcases h 0 a rfl with h1 | ⟨h1, h2⟩
    · rw [List.filter_cons, seated_no h1]
      exact ih
    · have h3 : seated a = true := by simpa [seated] using h1
      rw [List.filter_cons, h3]
      simp only [if_true]
      unfold others at ih ⊢
      rw [List.filter_cons, ih]
      have h4 : (a.client != c) = true := by
        have : a.client ≠ c := by rw [h2]; omega
        simpa using this
      rw [h4]
      rfl
theorem others_set : ∀ (T : List Seat) (off i : Nat), From off T → others (((off + i : Nat) : Int) + 1) (T.filter seated) = (T.set i noSeat).filter seated
  | [], _, _, _ => rfl
  | a :: r, off, 0, h => by
    have ih := others_keep r (off + 1) (((off + 0 : Nat) : Int) + 1) h.tail (by omega)
    rw [List.set_cons_zero, List.filter_cons, List.filter_cons, seated_no rfl]
    simp only [Bool.false_eq_true, if_false]
    rcases h 0 a rfl with h1 | ⟨h1, h2⟩
    · rw [seated_no h1]
      exact ih
    · have h3 : seated a = true := by simpa [seated] using h1
      rw [h3]
      simp only [if_true]
      unfold others at ih ⊢
      rw [List.filter_cons, ih]
      have h4 : (a.client != ((off + 0 : Nat) : Int) + 1) = false := by rw [h2]; simp
      rw [h4]
      rfl
  | a :: r, off, i + 1, h => by
    have ih := others_set r (off + 1) i h.tail
    rw [show off + 1 + i = off + (i + 1) by omega] at ih
    rw [List.set_cons_succ, List.filter_cons, List.filter_cons]
    rcases h 0 a rfl with h1 | ⟨h1, h2⟩
    · rw [seated_no h1]
      exact ih
    · have h3 : seated a = true := by simpa [seated] using h1
      rw [h3]
      simp only [if_true]
      unfold others at ih ⊢
      rw [List.filter_cons, ih]
      have h4 : (a.client != ((off + (i + 1) : Nat) : Int) + 1) = true := by
        have : a.client ≠ ((off + (i + 1) : Nat) : Int) + 1 := by rw [h2]; omega
        simpa using this
      rw [h4]
      rfl
theorem sumR_cons (a : Seat) (r : List Seat) : sumR (a :: r) = a.reply.size + sumR r := by simp [sumR]
theorem keptN_cons (a : Seat) (r : List Seat) : keptN (a :: r) = (if a.kept then 1 else 0) + keptN r := by
  unfold keptN
  rw [List.filter_cons]
  cases a.kept <;> simp <;> omega
theorem sums_seated : ∀ (T : List Seat) (off : Nat), From off T → sumR (T.filter seated) = sumR T ∧ keptN (T.filter seated) = keptN T
  | [], _, _ => ⟨rfl, rfl⟩
  | a :: r, off, h => by
    obtain ⟨h1, h2⟩ := sums_seated r (off + 1) h.tail
    rw [List.filter_cons]
    rcases h 0 a rfl with h3 | ⟨h3, _⟩
    · rw [seated_no h3]
      simp only [Bool.false_eq_true, if_false]
      rw [h1, h2, sumR_cons, keptN_cons, h3]
      exact ⟨(Nat.zero_add _).symm, (Nat.zero_add _).symm⟩
    · have h4 : seated a = true := by simpa [seated] using h3
      rw [h4]
      simp only [if_true]
      rw [sumR_cons, sumR_cons, keptN_cons, keptN_cons, h1, h2]
      exact ⟨rfl, rfl⟩
theorem sums_set : ∀ (T : List Seat) (i : Nat) (s : Seat), i < T.length → s.kept = true → sumR (T.set i noSeat) + s.reply.size = sumR (T.set i s) ∧ keptN (T.set i noSeat) + 1 = keptN (T.set i s)
  | [], i, s, h, _ => by simp at h
  | a :: r, 0, s, _, hk => by
    rw [List.set_cons_zero, List.set_cons_zero, sumR_cons, sumR_cons, keptN_cons, keptN_cons, hk]
    have e1 : noSeat.reply.size = 0 := rfl
    have e2 : noSeat.kept = false := rfl
    rw [e1, e2]
    simp
    omega
  | a :: r, i + 1, s, h, hk => by
    obtain ⟨h1, h2⟩ := sums_set r i s (by simpa using h) hk
    rw [List.set_cons_succ, List.set_cons_succ, sumR_cons, sumR_cons, keptN_cons, keptN_cons]
    omega
/-- what others have, and what is there behind a record -/
theorem room_says {room : Int} (h0 : 0 ≤ room) {T : List Seat} (hr : Right T) {i : Nat} (hi : i < 8) {n a : Int} {r : ByteArray} (hR : Right (T.set i ⟨(i : Int) + 1, n, a, true, r⟩)) :
    ∃ S k S' k' : Nat, sumR (others ((i : Int) + 1) (T.filter seated)) = S ∧ keptN (others ((i : Int) + 1) (T.filter seated)) = k ∧ sumR ((mkR room (T.set i ⟨(i : Int) + 1, n, a, true, r⟩)).filter seated) = S' ∧ keptN ((mkR room (T.set i ⟨(i : Int) + 1, n, a, true, r⟩)).filter seated) = k' ∧ (S' : Int) ≤ room ∧ (((S : Int) + (r.size : Int) ≤ room ∧ k' = k + 1) ∨ (room < (S : Int) + (r.size : Int) ∧ k' ≠ k + 1)) ∧ S ≤ 65536 ∧ k ≤ 8 ∧ k' ≤ 8 := by
  refine ⟨_, _, _, _, rfl, rfl, rfl, rfl, ?_⟩
  have e1 := others_set T 0 i hr.from
  rw [Nat.zero_add] at e1
  rw [e1]
  have hs0 : Right (T.set i noSeat) := hr.set i _ ⟨.inl rfl, fun _ => rfl, by decide⟩
  obtain ⟨f1, f2⟩ := sums_seated _ 0 hs0.from
  obtain ⟨g1, g2⟩ := sums_set T i ⟨(i : Int) + 1, n, a, true, r⟩ (by rw [hr.len]; exact hi) rfl
  have hm := mk_ind h0 (fun X => keptN X ≤ keptN (T.set i ⟨(i : Int) + 1, n, a, true, r⟩)) (fun X j s hX hp hs hk _ => by have := keptN_set hs hk; omega) _ _ (Nat.le_refl _) hR (Nat.le_refl _)
  obtain ⟨k1, k2⟩ := sums_seated _ 0 hm.2.1.from
  rw [f1, f2, k1, k2]
  simp only at g1
  have hl8 : ∀ X : List Seat, X.length = 8 → keptN X ≤ 8 := fun X hX => by rw [← hX]; exact List.length_filter_le _ _
  refine ⟨hm.2.2, ?_, ?_, hl8 _ hs0.len, hl8 _ hm.2.1.len⟩
  · by_cases hbig : room < (sumR (T.set i ⟨(i : Int) + 1, n, a, true, r⟩) : Int)
    · right
      refine ⟨by omega, ?_⟩
      obtain ⟨j, s, q1, q2, q3, q4, q5, q6, q7⟩ := mk_step hR h0 hbig
      rw [q7]
      have hm2 := mk_ind h0 (fun X => keptN X ≤ keptN ((T.set i ⟨(i : Int) + 1, n, a, true, r⟩).set j (hush s))) (fun X j s hX hp hs hk _ => by have := keptN_set hs hk; omega) _ _ (Nat.le_refl _) q5 (Nat.le_refl _)
      have := hm2.1
      omega
    · left
      have : mkR room (T.set i ⟨(i : Int) + 1, n, a, true, r⟩) = T.set i ⟨(i : Int) + 1, n, a, true, r⟩ := mk_done hbig _
      rw [this]
      omega
  · have := sumR_le hs0.short
    rw [hs0.len] at this
    omega
theorem SO.grown {W W' : World} {B g : Nat} {v : Value} {X : List Seat} (h : SO W B v X) (hg : W.grownBy W' (some g)) (hB : g < B) : SO W' B v X := by
  obtain ⟨h1, h2 | ⟨b, cap, cur, hv, hb, hh, r⟩⟩ := h
  · exact ⟨h1, .inl h2⟩
  · refine ⟨h1, .inr ⟨b, cap, cur, hv, hb, ?_, r⟩⟩
    rw [hg.block b (Array.getElem?_eq_some_iff.1 hh).1 (fun e => by have := Option.some.inj e; omega)]
    exact hh
set_option maxHeartbeats 2000000 in
set_option maxRecDepth 100000 in
theorem seats_yes {w : World} {u v : Value} {X : List Seat} (hu : Sls w u X) (hv : Sls w v X) : Calls Try.prog 12 #[u, v] w fun e w' => e = .returned (.bool true) ∧ Below w.heap.size w w' := by
  obtain ⟨p, c, rfl, hl, hat⟩ := hu.at_
  obtain ⟨p', c', rfl, -, hat'⟩ := hv.at_
  have HA := hid_in hat
  have HA' := hid_in hat'
  have hM : (X.length : Int) ≤ 9223372036854775807 := by omega
  generalize hm : X.length = m at *
  have HM := hid_in hm
  clear hu hv hat hat' hl hm
  go_enter Try.func12, Try.ntmps12
  go_wp2_with fail
  go_loopw [5] (fun vk W => ∃ k : Nat, k ≤ m ∧ vk = .int .i64 (k : Int) ∧ ∃ d, W = w.drewN d) (fun vk _ => m - (intOf vk).toNat)
  case atStart => exact ⟨0, by omega, rfl, 0, rfl⟩
  case round =>
    obtain ⟨k, hk, rfl, d, rfl⟩ := hrel
    by_cases hkm : k < m
    · obtain ⟨s, hs⟩ : ∃ s, X[k]? = some s := ⟨_, List.getElem?_eq_getElem (by rw [HM.out]; exact hkm)⟩
      obtain ⟨b, o, rfl, hcs⟩ := HA.out (by rintro rfl; simp at hs)
      obtain ⟨b', o', rfl, hcs'⟩ := HA'.out (by rintro rfl; simp at hs)
      obtain ⟨u0, u1, u2, u3, u4⟩ := hcs _ (Below.refl _ _) k s hs
      obtain ⟨v0, v1, v2, v3, v4⟩ := hcs' _ (Below.refl _ _) k s hs
      obtain ⟨sc, sn, sa, sk, sr⟩ := s
      simp only at u0 u1 u2 u3 u4 v0 v1 v2 v3 v4
      have hkm2 : (k : Int) < (m : Int) := by omega
      have HKM := hid_in hkm
      clear hs hcs hcs' hk hkm
      go_upto_region 6 with fail
      go_quiet (fail)
      go_wp2_with fail
      exact ⟨⟨k + 1, by have := HKM.out; omega, by go_num, _, rfl⟩, by have := HKM.out; simp [intOf]; omega⟩
    · obtain rfl : k = m := by omega
      clear hk hkm
      go_wp2_with fail
      go_ret
      exact ⟨rfl, Nd.below_drewN (Below.refl _ _) d⟩
end Go.Proofs.Ytiijlnlkhpneaaa.Se
namespace Go.Proofs.Ytiijlnlkhpneaaa.Se
open Go.ChangeShapes Go.WideShapes Go.ChangeAt Go.RowKit Go.Deep
theorem cells9 : Try.prog.cellsOf 9 = 1 := by kernel_rfl
theorem cells3 : Try.prog.cellsOf 3 = 1 := by kernel_rfl
theorem cells4 : Try.prog.cellsOf 4 = 1 := by kernel_rfl
theorem cells2 : Try.prog.cellsOf 2 = 1 := by kernel_rfl
theorem cells44 : Try.prog.cellsOf 44 = 5 := by kernel_rfl
set_option maxRecDepth 100000 in
theorem act_at {H : Type} {enc : TypeId × Value → H} {W : World} {fuel : Nat} {cs : List Value} {d : DataW H} {p : List MemPlace} (hf : DataW.trod enc Try.prog W 0 (fun _ => true) true fuel 44 cs = some (d, p)) :
    ∃ s : Act1, cs = s.cells ∧ s.reply.size ≤ 9223372036854775807 := by
  obtain ⟨zs, n2, _, _, hl2, hzl, hg2⟩ := DataW.trod_struct Try.underlying44 hf
  have hzl' : zs.length = 5 := hzl
  rw [cells44] at hl2
  match zs, hzl', cs, hl2 with
  | [z0, z1, z2, z3, z4], _, [v0, v1, v2, v3, v4], _ =>
    have k0 := hg2 0 _ rfl
    have k1 := hg2 1 _ rfl
    have k2 := hg2 2 _ rfl
    have k3 := hg2 3 _ rfl
    have k4 := hg2 4 _ rfl
    obtain ⟨Q, f0, _, _⟩ := DataW.trod_bool Try.underlying4 k0
    obtain ⟨K1, f1, _, _⟩ := DataW.trod_int Try.underlying3 k1
    obtain ⟨K2, f2, _, _⟩ := DataW.trod_int Try.underlying2 k2
    obtain ⟨K3, f3, _, _⟩ := DataW.trod_int Try.underlying2 k3
    obtain ⟨X, f4, _, hX⟩ := DataW.trod_string Try.underlying9 k4
    simp [cells3, cells4, cells9, cells2] at f0 f1 f2 f3 f4
    subst f0 f1 f2 f3 f4
    unfold maxLen at hX
    exact ⟨⟨Q, K1, K2, K3, X⟩, rfl, by simp only; omega⟩
/-- a script that comes in -/
theorem acts_in {H : Type} {enc : TypeId × Value → H} {W : World} {a : Option Addr} {len cap : Nat} {d : DataW H} {p : List MemPlace} (h : DataW.Trod enc Try.prog W 0 (fun _ => true) true 22 (.slice a len cap) d p) :
    ∃ ss : List Act1, Acts W (.slice a len cap) ss ∧ ∀ x ∈ ss, x.reply.size ≤ 9223372036854775807 := by
  obtain ⟨fuel, hf⟩ := h
  rcases open_slice Try.underlying22 hf with ⟨hcs, hx⟩ | ⟨x, l, c, m, n, D, Pl, hcs, _, hl, hm, hmm, hx, hr⟩
  · simp [Value.cells] at hcs
    obtain ⟨rfl, rfl, rfl⟩ := hcs
    exact ⟨[], ⟨none, 0, 0, 0, rfl, by simp, by omega, fun h => absurd rfl h, fun i f hi => by simp at hi⟩, fun f hf => by cases hf⟩
  · simp [Value.cells] at hcs
    obtain ⟨rfl, rfl, rfl⟩ := hcs
    simp only [if_true] at hmm
    subst hmm
    rw [cells44] at hr
    have each : ∀ r, r < len → ∃ f : Act1, f.reply.size ≤ 9223372036854775807 ∧ ∀ (j : Nat) u, f.cells[j]? = some u → W.cell? ((x.add (r * 5)).add j) = some u := by
      intro r hlt
      obtain ⟨cs', h1, h2⟩ := hr r (by omega)
      obtain ⟨_, hlen, hcell⟩ := World.cells?_some h1
      obtain ⟨o, rfl, ho⟩ := act_at h2
      refine ⟨o, ho, fun j u hj => ?_⟩
      have hj5 : j < 5 := by have := (List.getElem?_eq_some_iff.1 hj).1; exact this
      have := hcell j hj5
      rw [this]
      exact hj
    haveI : Inhabited Act1 := ⟨⟨false, 0, 0, 0, ⟨#[]⟩⟩⟩
    obtain ⟨y, hy⟩ := choose_lt each
    have hcap : m ≤ 9223372036854775807 := by unfold maxLen at hm; omega
    obtain ⟨b, o, hpx⟩ : ∃ b o, 0 < len → x = ⟨b, o, none⟩ ∧ b < W.heap.size := by
      by_cases h0 : 0 < len
      · have hc := (hy 0 h0).2 0 _ rfl
        obtain ⟨b', o', sp⟩ := x
        have hspot : sp = none := by simpa [Addr.add] using World.cell?_spot hc
        subst hspot
        rw [Addr.add_mid, Addr.add_mid] at hc
        exact ⟨b', o', fun _ => ⟨rfl, World.block_lt_of_cell? W _ hc⟩⟩
      · exact ⟨0, 0, fun h => absurd h h0⟩
    refine ⟨(List.range len).map y, ⟨some x, m, b, o, by simp, by simpa using hl, hcap, fun h => ?_, fun j f hj => ?_⟩, fun f hf => ?_⟩
    · have h0 : 0 < len := by
        rcases Nat.eq_zero_or_pos len with h1 | h1
        · subst h1; exact absurd rfl h
        · exact h1
      exact ⟨by rw [(hpx h0).1], (hpx h0).2⟩
    · have hi : j < len := by have := (List.getElem?_eq_some_iff.1 hj).1; simpa using this
      simp [hi] at hj
      subst hj
      intro i u hu
      have := (hy j hi).2 i u hu
      rw [(hpx (by omega)).1, Addr.add_mid, Addr.add_mid] at this
      exact this
    · obtain ⟨r, hr2, rfl⟩ := List.mem_map.1 hf
      exact (hy r (by simpa using hr2)).1
end Go.Proofs.Ytiijlnlkhpneaaa.Se
