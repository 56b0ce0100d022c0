/-
  A script that is read; fits; awake. Plain facts for SessionOnce. Plain facts for SessionRoom; the reference's Seats of equal lists. The reference's In, by states.
-/
import Derived.OwnWalk
import Derived.Laws.Tables
import Derived.Laws.CopyOwn
import Derived.Deep.RegionLaw
import Derived.Deep.DrawnRows
import Derived.Test.YtiijlnlkhpneaaaE00
import Derived.Test.YtiijlnlkhpneaaaE01
import Derived.Test.YtiijlnlkhpneaaaE02
import Derived.Test.YtiijlnlkhpneaaaE03
import Derived.Test.YtiijlnlkhpneaaaE04
import Derived.Test.YtiijlnlkhpneaaaE05
import Derived.Test.YtiijlnlkhpneaaaE06
import Derived.Test.YtiijlnlkhpneaaaE07
import Derived.Test.YtiijlnlkhpneaaaE08
import Derived.Test.YtiijlnlkhpneaaaE09
namespace Go.Proofs.Ytiijlnlkhpneaaa.Se
open Go.RowKit
open Nd (Row wp_world post_Row grownBy_setCell below_of_grown grownBy_trans grown_of_below grownBy_refl)
/-- a record, or a forget -/
structure Act1 where
  forget : Bool
  client : Int
  number : Int
  at_ : Int
  reply : ByteArray
def Act1.cells (s : Act1) : List Value := [.bool s.forget, .int .i64 s.client, .int .i64 s.number, .int .i64 s.at_, .string s.reply]
/-- a value that reads as acts -/
def Acts (w : World) (v : Value) (ss : List Act1) : Prop := ∃ p cap b o, v = .slice p ss.length cap ∧ ss.length ≤ cap ∧ cap ≤ 9223372036854775807 ∧ (ss ≠ [] → p = some ⟨b, o, none⟩ ∧ b < w.heap.size) ∧ (∀ (i : Nat) x, ss[i]? = some x → w.rangeAt b (o + i * 5) x.cells)
theorem Acts.below {w w' : World} {v : Value} {ss : List Act1} (h : Acts w v ss) (hb : Below w.heap.size w w') : Acts w' v ss := by
  obtain ⟨p, cap, b, o, h1, h2, h3, h4, h5⟩ := h
  refine ⟨p, cap, b, o, h1, h2, h3, fun hn => ⟨(h4 hn).1, Nat.lt_of_lt_of_le (h4 hn).2 hb.size⟩, fun i x hi j u hj => ?_⟩
  have hne : ss ≠ [] := by rintro rfl; simp at hi
  rw [hb.cell (p := ⟨b, _, none⟩) (h4 hne).2]
  exact h5 i x hi j u hj
theorem Acts.at_ {w : World} {v : Value} {ss : List Act1} (h : Acts w v ss) : ∃ p c, v = .slice p ss.length c ∧ ss.length ≤ 9223372036854775807 ∧ (ss ≠ [] → ∃ b o, p = some ⟨b, o, none⟩ ∧ ∀ W, Below w.heap.size w W → ∀ (i : Nat) x, ss[i]? = some x → W.cell? ⟨b, o + i * 5, none⟩ = some (.bool x.forget) ∧ W.cell? ⟨b, o + i * 5 + 1, none⟩ = some (.int .i64 x.client) ∧ W.cell? ⟨b, o + i * 5 + 2, none⟩ = some (.int .i64 x.number) ∧ W.cell? ⟨b, o + i * 5 + 3, none⟩ = some (.int .i64 x.at_) ∧ W.cell? ⟨b, o + i * 5 + 4, none⟩ = some (.string x.reply)) := by
  obtain ⟨p, cap, b, o, h1, h2, h3, h4, h5⟩ := h
  refine ⟨p, cap, h1, by omega, fun hne => ⟨b, o, (h4 hne).1, fun W hb i x hi => ?_⟩⟩
  have hr := h5 i x hi
  have hc : ∀ j, W.cell? ⟨b, j, none⟩ = w.cell? ⟨b, j, none⟩ := fun j => hb.cell (p := ⟨b, j, none⟩) (h4 hne).2
  simp only [hc]
  exact ⟨hr 0 _ rfl, hr 1 _ rfl, hr 2 _ rfl, hr 3 _ rfl, hr 4 _ rfl⟩
set_option maxHeartbeats 2000000 in
set_option maxRecDepth 100000 in
theorem fits_any (w : World) (v : Value) (ss : List Act1) (h : Acts w v ss) :
    Calls Try.prog 9 #[v] w fun e w' => (∃ t, e = .returned (.bool t)) ∧ w' = w := by
  obtain ⟨p, c, rfl, hl, hat⟩ := h.at_
  have HAT := hid_in hat
  have hM : (ss.length : Int) ≤ 9223372036854775807 := by omega
  generalize hn : ss.length = n at *
  have HNN := hid_in hn
  clear h hat hl hn
  go_enter Try.func9, Try.ntmps9
  go_wp2
  go_loopw [4, 3] (fun vj vs W => W = w ∧ ∃ (j : Nat) (s : Int), j ≤ n ∧ vj = .int .i64 (j : Int) ∧ vs = .int .i64 s) (fun vj _ _ => n - (intOf vj).toNat)
  case atStart => exact ⟨rfl, 0, 0, by omega, rfl, rfl⟩
  case round =>
    obtain ⟨rfl, j, s, hj, rfl, rfl⟩ := hrel
    by_cases hlt : j < n
    · have hlo : j < ss.length := by rw [HNN.out]; exact hlt
      obtain ⟨b, o, rfl, hcs⟩ := HAT.out (by intro e; rw [e] at hlo; simp at hlo)
      obtain ⟨k0, k1, k2, k3, k4⟩ := hcs wr (Below.refl _ _) j _ (List.getElem?_eq_getElem hlo)
      generalize (ss[j]).reply = xd at *
      have HL := hid_in hlt
      have hlt2 : (j : Int) < (n : Int) := by omega
      clear hj hlt hlo hcs k1 k2 k3 k0
      go_wp2
      exact ⟨⟨trivial, j + 1, _, by have := HL.out; omega, by go_num, rfl⟩, by have := HL.out; simp [intOf]; omega⟩
    · obtain rfl : j = n := by omega
      clear hj hlt
      go_wp2
      go_ret
      exact ⟨⟨_, rfl⟩, rfl⟩
def A1 : List Seat := recT 5 noTab 1 1 10 ⟨#[97, 98, 99]⟩
def A2 : List Seat := recT 5 A1 2 7 11 ⟨#[100, 101]⟩
def A3 : List Seat := recT 5 A2 3 1 12 ⟨#[102]⟩
theorem recT_right {room : Int} (h0 : 0 ≤ room) {T : List Seat} (hr : Right T) (c n a : Int) (r : ByteArray) : Right (recT room T c n a r) := by
  unfold recT
  split
  · rename_i h
    have h1 : (lookS T c n).1 = 1 := by
      unfold recE at h
      split at h
      · cases h
      · split at h
        · assumption
        · cases h
    have h2 : r.size ≤ 8192 := by
      unfold recE at h
      rw [h1] at h
      simp at h
      omega
    obtain ⟨hc, hn⟩ := look_range T c n (by rw [h1]; decide)
    obtain ⟨i, s, hi, rfl, hs, -⟩ := isC_at hc hr.len
    rw [show ((i : Int) + 1 - 1).toNat = i by omega]
    exact (mk_ind h0 (fun _ => True) (fun _ _ _ _ _ _ _ _ => trivial) _ _ (Nat.le_refl _) (right_put hr hn h2) trivial).2.1
  · exact hr
set_option maxHeartbeats 2000000 in
set_option maxRecDepth 100000 in
theorem awake_any (w : World) : Calls Try.prog 8 #[] w fun e w' => e = .returned (.bool true) ∧ Below w.heap.size w w' := by
  have HM := hid_in (make_ok 5 w ⟨by decide, by decide⟩)
  have R1 : Right A1 := recT_right (by decide) right_no _ _ _ _
  have R2 : Right A2 := recT_right (by decide) R1 _ _ _ _
  have H1 := hid_in (fun W g (h : Tab W g 5 noTab) => record_any h right_no (by decide) 1 1 10 ⟨#[97, 98, 99]⟩)
  have H2 := hid_in (fun W g (h : Tab W g 5 A1) => record_any h R1 (by decide) 2 7 11 ⟨#[100, 101]⟩)
  have H3 := hid_in (fun W g (h : Tab W g 5 A2) => record_any h R2 (by decide) 3 1 12 ⟨#[102]⟩)
  have e1 : recE noTab 1 1 ⟨#[97, 98, 99]⟩ = 0 := by decide +kernel
  have e2 : recE A1 2 7 ⟨#[100, 101]⟩ = 0 := by decide +kernel
  have e3 : recE A2 3 1 ⟨#[102]⟩ = 0 := by decide +kernel
  rw [e1] at H1
  rw [e2] at H2
  rw [e3] at H3
  have L1 := hid_in (fun W g (h : Tab W g 5 A3) => look_any h 1 1)
  have L2 := hid_in (fun W g (h : Tab W g 5 A3) => look_any h 2 7)
  have L3 := hid_in (fun W g (h : Tab W g 5 A3) => look_any h 2 6)
  have f1 : lookS A3 1 1 = (3, ⟨#[]⟩) := by kernel_rfl
  have f2 : lookS A3 2 7 = (2, ⟨#[100, 101]⟩) := by kernel_rfl
  have f3 : lookS A3 2 6 = (4, ⟨#[]⟩) := by kernel_rfl
  rw [f1] at L1
  rw [f2] at L2
  rw [f3] at L3
  have q1 : recT 5 noTab 1 1 10 ⟨#[97, 98, 99]⟩ = A1 := rfl
  have q2 : recT 5 A1 2 7 11 ⟨#[100, 101]⟩ = A2 := rfl
  have q3 : recT 5 A2 3 1 12 ⟨#[102]⟩ = A3 := rfl
  rw [q1] at H1
  rw [q2] at H2
  rw [q3] at H3
  generalize A1 = X1 at *
  generalize A2 = X2 at *
  generalize A3 = X3 at *
  generalize noTab = X0 at *
  clear R1 R2 e1 e2 e3 f1 f2 f3 q1 q2 q3
  go_enter Try.func8, Try.ntmps8
  go_upto_region 4 with (first | (go_at_call 10; refine HM.out.mono ?_; rintro e w1 ⟨g, rfl, ht1, hb1, hg1⟩; have HT1 := hid_in ht1; have HB1 := hid_in hb1; have HGE := hid_in hg1; clear ht1 hb1 hg1))
  go_upto_region 5 with (first | (go_at_call 17; refine (H1.out _ _ HT1.out).mono ?_; rintro e w2 ⟨rfl, ht2, hg2⟩; have HT2 := hid_in ht2; have HB2 := hid_in (below_of_grown HB1.out hg2 HB1.out.size HGE.out); clear ht2 hg2))
  go_upto_region 6 with (first | (go_at_call 17; refine (H2.out _ _ HT2.out).mono ?_; rintro e w3 ⟨rfl, ht3, hg3⟩; have HT3 := hid_in ht3; have HB3 := hid_in (below_of_grown HB2.out hg3 HB2.out.size HGE.out); clear ht3 hg3))
  go_upto_region 7 with (first | (go_at_call 17; refine (H3.out _ _ HT3.out).mono ?_; rintro e w4 ⟨rfl, ht4, hg4⟩; have HT4 := hid_in ht4; have HB4 := hid_in (below_of_grown HB3.out hg4 HB3.out.size HGE.out); clear ht4 hg4))
  go_upto_region 8 with (first | (go_at_call 14; refine (L1.out _ _ HT4.out).mono ?_; rintro e w5 ⟨rfl, hb5⟩; have HT5 := hid_in (HT4.out.below hb5 HT4.out.lt); have HB5 := hid_in (HB4.out.trans (hb5.mono HB4.out.size)); clear hb5))
  go_upto_region 9 with (first | (go_at_call 14; refine (L2.out _ _ HT5.out).mono ?_; rintro e w6 ⟨rfl, hb6⟩; have HT6 := hid_in (HT5.out.below hb6 HT5.out.lt); have HB6 := hid_in (HB5.out.trans (hb6.mono HB5.out.size)); clear hb6))
  go_wp2_with (first | (go_at_call 14; refine (L3.out _ _ HT6.out).mono ?_; rintro e w7 ⟨rfl, hb7⟩; have HB7 := hid_in (HB6.out.trans (hb7.mono HB6.out.size)); clear hb7))
  go_ret
  exact ⟨rfl, HB7.out⟩
end Go.Proofs.Ytiijlnlkhpneaaa.Se
namespace Go.Proofs.Ytiijlnlkhpneaaa.Se
open Go.RowKit
open Nd (Row wp_world post_Row grownBy_setCell below_of_grown grownBy_trans grown_of_below grownBy_refl)
def nums (T : List Seat) : List Int := 0 :: T.map (·.number)
/-- the last numbers, as they lie in memory -/
def nine (T : List Seat) : List Value := (nums T).map (Value.int .i64)
theorem nine_at {T : List Seat} {i : Nat} {s : Seat} (h : T[i]? = some s) : (nine T)[i + 1]? = some (.int .i64 s.number) := by
  simp [nine, nums, h]
/-- a seat that is listed -/
theorem listed {T : List Seat} (hr : Right T) {k : Nat} {s : Seat} (h : (T.filter seated)[k]? = some s) : ∃ i : Nat, i < 8 ∧ T[i]? = some s ∧ s.client = (i : Int) + 1 ∧ s.number ≠ 0 ∧ (nine T)[i + 1]? = some (.int .i64 s.number) := by
  have h1 := List.mem_filter.1 (List.mem_of_getElem? h)
  obtain ⟨i, hi⟩ := List.getElem?_of_mem h1.1
  have h2 : s.number ≠ 0 := by simpa [seated] using h1.2
  have hl : i < 8 := by rw [← hr.len]; exact (List.getElem?_eq_some_iff.1 hi).1
  refine ⟨i, hl, hi, ?_, h2, nine_at hi⟩
  rcases (hr.at_ i s hi).who with h3 | h3
  · rw [h3] at h2
    exact absurd rfl h2
  · exact h3.2
theorem filter_le8 {T : List Seat} (hr : Right T) : (T.filter seated).length ≤ 8 := Nat.le_trans (List.length_filter_le _ _) (Nat.le_of_eq hr.len)
end Go.Proofs.Ytiijlnlkhpneaaa.Se
namespace Go.Proofs.Ytiijlnlkhpneaaa.Se
open Go.RowKit
open Nd (Row wp_world post_Row grownBy_setCell below_of_grown grownBy_trans grown_of_below grownBy_refl)
/-- seats at their places, from a place on -/
def From (off : Nat) (T : List Seat) : Prop := ∀ (j : Nat) s, T[j]? = some s → s = noSeat ∨ (s.number ≠ 0 ∧ s.client = ((off + j : Nat) : Int) + 1)
theorem From.tail {off : Nat} {a : Seat} {r : List Seat} (h : From off (a :: r)) : From (off + 1) r := fun j s hs => by
  have h1 := h (j + 1) s (by simpa using hs)
  rw [show off + (j + 1) = off + 1 + j by omega] at h1
  exact h1
theorem Right.from {T : List Seat} (h : Right T) : From 0 T := fun j s hs => by
  rcases (h.at_ j s hs).who with h1 | ⟨h1, h2⟩
  · exact .inl h1
  · have h3 : 1 ≤ s.number ∧ s.number ≤ 1099511627776 := of_decide_eq_true h1
    exact .inr ⟨by omega, by rw [h2, Nat.zero_add]⟩
theorem seated_no {s : Seat} (h : s = noSeat) : seated s = false := by rw [h]; rfl
theorem sumR_cons (a : Seat) (r : List Seat) : sumR (a :: r) = a.reply.size + sumR r := by simp [sumR]
theorem keptN_cons (a : Seat) (r : List Seat) : keptN (a :: r) = (if a.kept then 1 else 0) + keptN r := by
  unfold keptN
  rw [List.filter_cons]
  cases a.kept <;> simp <;> omega
theorem sums_seated : ∀ (T : List Seat) (off : Nat), From off T → sumR (T.filter seated) = sumR T ∧ keptN (T.filter seated) = keptN T
  | [], _, _ => ⟨rfl, rfl⟩
  | a :: r, off, h => by
    obtain ⟨h1, h2⟩ := sums_seated r (off + 1) h.tail
    rw [List.filter_cons]
    rcases h 0 a rfl with h3 | ⟨h3, _⟩
    · rw [seated_no h3]
      simp only [Bool.false_eq_true, if_false]
      rw [h1, h2, sumR_cons, keptN_cons, h3]
      exact ⟨(Nat.zero_add _).symm, (Nat.zero_add _).symm⟩
    · have h4 : seated a = true := by simpa [seated] using h3
      rw [h4]
      simp only [if_true]
      rw [sumR_cons, sumR_cons, keptN_cons, keptN_cons, h1, h2]
      exact ⟨rfl, rfl⟩
theorem SO.grown {W W' : World} {B g : Nat} {v : Value} {X : List Seat} (h : SO W B v X) (hg : W.grownBy W' (some g)) (hB : g < B) : SO W' B v X := by
  obtain ⟨h1, h2 | ⟨b, cap, cur, hv, hb, hh, r⟩⟩ := h
  · exact ⟨h1, .inl h2⟩
  · refine ⟨h1, .inr ⟨b, cap, cur, hv, hb, ?_, r⟩⟩
    rw [hg.block b (Array.getElem?_eq_some_iff.1 hh).1 (fun e => by have := Option.some.inj e; omega)]
    exact hh
set_option maxHeartbeats 2000000 in
set_option maxRecDepth 100000 in
theorem seats_yes {w : World} {u v : Value} {X : List Seat} (hu : Sls w u X) (hv : Sls w v X) : Calls Try.prog 12 #[u, v] w fun e w' => e = .returned (.bool true) ∧ Below w.heap.size w w' := by
  obtain ⟨p, c, rfl, hl, hat⟩ := hu.at_
  obtain ⟨p', c', rfl, -, hat'⟩ := hv.at_
  have HA := hid_in hat
  have HA' := hid_in hat'
  have hM : (X.length : Int) ≤ 9223372036854775807 := by omega
  generalize hm : X.length = m at *
  have HM := hid_in hm
  clear hu hv hat hat' hl hm
  go_enter Try.func12, Try.ntmps12
  go_wp2_with fail
  go_loopw [5] (fun vk W => ∃ k : Nat, k ≤ m ∧ vk = .int .i64 (k : Int) ∧ ∃ d, W = w.drewN d) (fun vk _ => m - (intOf vk).toNat)
  case atStart => exact ⟨0, by omega, rfl, 0, rfl⟩
  case round =>
    obtain ⟨k, hk, rfl, d, rfl⟩ := hrel
    by_cases hkm : k < m
    · obtain ⟨s, hs⟩ : ∃ s, X[k]? = some s := ⟨_, List.getElem?_eq_getElem (by rw [HM.out]; exact hkm)⟩
      obtain ⟨b, o, rfl, hcs⟩ := HA.out (by rintro rfl; simp at hs)
      obtain ⟨b', o', rfl, hcs'⟩ := HA'.out (by rintro rfl; simp at hs)
      obtain ⟨u0, u1, u2, u3, u4⟩ := hcs _ (Below.refl _ _) k s hs
      obtain ⟨v0, v1, v2, v3, v4⟩ := hcs' _ (Below.refl _ _) k s hs
      obtain ⟨sc, sn, sa, sk, sr⟩ := s
      simp only at u0 u1 u2 u3 u4 v0 v1 v2 v3 v4
      have hkm2 : (k : Int) < (m : Int) := by omega
      have HKM := hid_in hkm
      clear hs hcs hcs' hk hkm
      go_upto_region 6 with fail
      go_quiet (fail)
      go_wp2_with fail
      exact ⟨⟨k + 1, by have := HKM.out; omega, by go_num, _, rfl⟩, by have := HKM.out; simp [intOf]; omega⟩
    · obtain rfl : k = m := by omega
      clear hk hkm
      go_wp2_with fail
      go_ret
      exact ⟨rfl, Nd.below_drewN (Below.refl _ _) d⟩
end Go.Proofs.Ytiijlnlkhpneaaa.Se
namespace Go.Proofs.Ytiijlnlkhpneaaa.Nd
open Go.RowKit
/-- the reference's In at block g is in state s -/
def RI (B : Nat) (w : World) (g : Nat) (s : Sta) : Prop := ∃ bs k, RIs B w g 83 bs k s.2 ∧ bs.drop k = s.1
theorem RI.blk {B : Nat} {w : World} {g : Nat} {s : Sta} (h : RI B w g s) : g < w.heap.size := by
  obtain ⟨bs, k, h, _⟩ := h
  obtain ⟨_, _, _, _, hr, _⟩ := h.ex
  exact hr.lt
theorem RI.ok {B : Nat} {w : World} {g : Nat} {s : Sta} (h : RI B w g s) : okS s := by
  obtain ⟨bs, k, h, hd⟩ := h
  obtain ⟨_, _, _, _, _, hsl, _⟩ := h.ex
  exact fun x hx => hsl.lt x (List.mem_of_mem_drop (by rw [hd]; exact hx))
def zs : List Value := [.int .i64 0, .string ⟨#[]⟩, .int .i64 0, .slice none 0 0, .slice none 0 0]
end Go.Proofs.Ytiijlnlkhpneaaa.Nd
