/-
  Plain facts for SessionRoom; the reference's Seats of equal lists. The reference's In, by states. The walks of the reference's Num, Int, Text and Flag.
-/
import Derived.OwnWalk
import Derived.Laws.CopyOwn
import Derived.Laws.Tables
import Derived.Deep.RegionLaw
import Derived.Deep.DrawnRows
import Derived.Test.YtiijlnlkhpneaaaF00
import Derived.Test.YtiijlnlkhpneaaaF01
import Derived.Test.YtiijlnlkhpneaaaF02
import Derived.Test.YtiijlnlkhpneaaaF03
import Derived.Test.YtiijlnlkhpneaaaF04
import Derived.Test.YtiijlnlkhpneaaaF05
import Derived.Test.YtiijlnlkhpneaaaF06
import Derived.Test.YtiijlnlkhpneaaaF07
import Derived.Test.YtiijlnlkhpneaaaF08
import Derived.Test.YtiijlnlkhpneaaaF09
import Derived.Test.YtiijlnlkhpneaaaF10
import Derived.Test.YtiijlnlkhpneaaaF11
import Derived.Test.YtiijlnlkhpneaaaF12
namespace Go.Proofs.Ytiijlnlkhpneaaa.Se
open Go.RowKit
open Nd (Row wp_world post_Row grownBy_setCell below_of_grown grownBy_trans grown_of_below grownBy_refl)
/-- seats at their places, from a place on -/
def From (off : Nat) (T : List Seat) : Prop := ∀ (j : Nat) s, T[j]? = some s → s = noSeat ∨ (s.number ≠ 0 ∧ s.client = ((off + j : Nat) : Int) + 1)
theorem From.tail {off : Nat} {a : Seat} {r : List Seat} (h : From off (a :: r)) : From (off + 1) r := fun j s hs => by
  have h1 := h (j + 1) s (by simpa using hs)
  rw [show off + (j + 1) = off + 1 + j by omega] at h1
  exact h1
theorem Right.from {T : List Seat} (h : Right T) : From 0 T := fun j s hs => by
  rcases (h.at_ j s hs).who with h1 | ⟨h1, h2⟩
  · exact .inl h1
  · have h3 : 1 ≤ s.number ∧ s.number ≤ 1099511627776 := of_decide_eq_true h1
    exact .inr ⟨by omega, by rw [h2, Nat.zero_add]⟩
theorem seated_no {s : Seat} (h : s = noSeat) : seated s = false := by rw [h]; rfl
theorem sumR_cons (a : Seat) (r : List Seat) : sumR (a :: r) = a.reply.size + sumR r := by simp [sumR]
theorem keptN_cons (a : Seat) (r : List Seat) : keptN (a :: r) = (if a.kept then 1 else 0) + keptN r := by
  unfold keptN
  rw [List.filter_cons]
  cases a.kept <;> simp <;> omega
theorem sums_seated : ∀ (T : List Seat) (off : Nat), From off T → sumR (T.filter seated) = sumR T ∧ keptN (T.filter seated) = keptN T
  | [], _, _ => ⟨rfl, rfl⟩
  | a :: r, off, h => by
    obtain ⟨h1, h2⟩ := sums_seated r (off + 1) h.tail
    rw [List.filter_cons]
    rcases h 0 a rfl with h3 | ⟨h3, _⟩
    · rw [seated_no h3]
      simp only [Bool.false_eq_true, if_false]
      rw [h1, h2, sumR_cons, keptN_cons, h3]
      exact ⟨(Nat.zero_add _).symm, (Nat.zero_add _).symm⟩
    · have h4 : seated a = true := by simpa [seated] using h3
      rw [h4]
      simp only [if_true]
      rw [sumR_cons, sumR_cons, keptN_cons, keptN_cons, h1, h2]
      exact ⟨rfl, rfl⟩
theorem SO.grown {W W' : World} {B g : Nat} {v : Value} {X : List Seat} (h : SO W B v X) (hg : W.grownBy W' (some g)) (hB : g < B) : SO W' B v X := by
  obtain ⟨h1, h2 | ⟨b, cap, cur, hv, hb, hh, r⟩⟩ := h
  · exact ⟨h1, .inl h2⟩
  · refine ⟨h1, .inr ⟨b, cap, cur, hv, hb, ?_, r⟩⟩
    rw [hg.block b (Array.getElem?_eq_some_iff.1 hh).1 (fun e => by have := Option.some.inj e; omega)]
    exact hh
set_option maxHeartbeats 2000000 in
set_option maxRecDepth 100000 in
theorem seats_yes {w : World} {u v : Value} {X : List Seat} (hu : Sls w u X) (hv : Sls w v X) : Calls Try.prog 12 #[u, v] w fun e w' => e = .returned (.bool true) ∧ Below w.heap.size w w' := by
  obtain ⟨p, c, rfl, hl, hat⟩ := hu.at_
  obtain ⟨p', c', rfl, -, hat'⟩ := hv.at_
  have HA := hid_in hat
  have HA' := hid_in hat'
  have hM : (X.length : Int) ≤ 9223372036854775807 := by omega
  generalize hm : X.length = m at *
  have HM := hid_in hm
  clear hu hv hat hat' hl hm
  go_enter Try.func12, Try.ntmps12
  go_wp2_with fail
  go_loopw [5] (fun vk W => ∃ k : Nat, k ≤ m ∧ vk = .int .i64 (k : Int) ∧ ∃ d, W = w.drewN d) (fun vk _ => m - (intOf vk).toNat)
  case atStart => exact ⟨0, by omega, rfl, 0, rfl⟩
  case round =>
    obtain ⟨k, hk, rfl, d, rfl⟩ := hrel
    by_cases hkm : k < m
    · obtain ⟨s, hs⟩ : ∃ s, X[k]? = some s := ⟨_, List.getElem?_eq_getElem (by rw [HM.out]; exact hkm)⟩
      obtain ⟨b, o, rfl, hcs⟩ := HA.out (by rintro rfl; simp at hs)
      obtain ⟨b', o', rfl, hcs'⟩ := HA'.out (by rintro rfl; simp at hs)
      obtain ⟨u0, u1, u2, u3, u4⟩ := hcs _ (Below.refl _ _) k s hs
      obtain ⟨v0, v1, v2, v3, v4⟩ := hcs' _ (Below.refl _ _) k s hs
      obtain ⟨sc, sn, sa, sk, sr⟩ := s
      simp only at u0 u1 u2 u3 u4 v0 v1 v2 v3 v4
      have hkm2 : (k : Int) < (m : Int) := by omega
      have HKM := hid_in hkm
      clear hs hcs hcs' hk hkm
      go_upto_region 6 with fail
      go_quiet (fail)
      go_wp2_with fail
      exact ⟨⟨k + 1, by have := HKM.out; omega, by go_num, _, rfl⟩, by have := HKM.out; simp [intOf]; omega⟩
    · obtain rfl : k = m := by omega
      clear hk hkm
      go_wp2_with fail
      go_ret
      exact ⟨rfl, Nd.below_drewN (Below.refl _ _) d⟩
end Go.Proofs.Ytiijlnlkhpneaaa.Se
namespace Go.Proofs.Ytiijlnlkhpneaaa.Nd
open Go.RowKit
/-- the reference's In at block g is in state s -/
def RI (B : Nat) (w : World) (g : Nat) (s : Sta) : Prop := ∃ bs k, RIs B w g 83 bs k s.2 ∧ bs.drop k = s.1
theorem RI.blk {B : Nat} {w : World} {g : Nat} {s : Sta} (h : RI B w g s) : g < w.heap.size := by
  obtain ⟨bs, k, h, _⟩ := h
  obtain ⟨_, _, _, _, hr, _⟩ := h.ex
  exact hr.lt
theorem RI.ok {B : Nat} {w : World} {g : Nat} {s : Sta} (h : RI B w g s) : okS s := by
  obtain ⟨bs, k, h, hd⟩ := h
  obtain ⟨_, _, _, _, _, hsl, _⟩ := h.ex
  exact fun x hx => hsl.lt x (List.mem_of_mem_drop (by rw [hd]; exact hx))
theorem RI.belowM {B m : Nat} {w w' : World} {g : Nat} {s : Sta} (h : RI B w g s) (hb : Below m w w') (hg : g < m) (hB : B ≤ m) : RI B w' g s := by
  obtain ⟨bs, k, h, hd⟩ := h
  obtain ⟨p, cap, b, off, hr, hsl, hne⟩ := h.ex
  refine ⟨bs, k, ⟨⟨p, cap, b, off, hr.below hb hg, ⟨hsl.lt, hsl.cap1, hsl.cap2, hsl.at_, fun j hj => ?_⟩, hne⟩, h.le⟩, hd⟩
  have hlt : b < m := Nat.lt_of_lt_of_le (hne (by omega)).2 hB
  rw [hb.cell (p := ⟨b, off + j, none⟩) hlt]
  exact hsl.src j hj
theorem rnum_s (w : World) (g B : Nat) (s : Sta) (hi : RI B w g s) : Calls Try.prog 42 #[.pointer (some ⟨g, 0, none⟩)] w fun r w' => r = .returned (.int .u64 ((sNum s).1 : Int)) ∧ RI B w' g (sNum s).2 ∧ Grew w w' (· = g) := by
  obtain ⟨l, e⟩ := s
  obtain ⟨bs, k, h, hd⟩ := hi
  simp only at h hd
  unfold sNum
  split
  · rename_i h0
    obtain rfl : e = 0 := h0
    refine (rnumI_any w g 83 bs k h).mono ?_
    rintro r w' ⟨rfl, ⟨k', h1, h2⟩, h3⟩
    rw [hd] at h1 h2 ⊢
    exact ⟨rfl, ⟨bs, k', h2, h1⟩, h3⟩
  · rename_i h0
    refine (rnumI_bad w g 83 bs k e h0 h).mono ?_
    rintro r w' ⟨rfl, rfl⟩
    exact ⟨rfl, ⟨bs, k, h, hd⟩, Grew.refl _ _⟩
theorem rtext_s (w : World) (g B : Nat) (s : Sta) (m : Nat) (hm : m ≤ 9223372036854775807) (hi : RI B w g s) : Calls Try.prog 45 #[.pointer (some ⟨g, 0, none⟩), .int .i64 (m : Int)] w fun r w' => r = .returned (.string (str (sText m s).1)) ∧ RI B w' g (sText m s).2 ∧ Grew w w' (· = g) := by
  obtain ⟨l, e⟩ := s
  obtain ⟨bs, k, h, hd⟩ := hi
  simp only at h hd
  unfold sText
  split
  · rename_i h0
    obtain rfl : e = 0 := h0
    refine (rtextI_any w g 83 bs k m (by omega) (by omega) h).mono ?_
    rintro r w' ⟨rfl, ⟨k', h1, h2⟩, h3⟩
    rw [hd] at h1 h2 ⊢
    exact ⟨rfl, ⟨bs, k', h2, h1⟩, h3⟩
  · rename_i h0
    refine (rtextI_bad w g 83 bs k e m h0 h).mono ?_
    rintro r w' ⟨rfl, rfl⟩
    exact ⟨rfl, ⟨bs, k, h, hd⟩, Grew.refl _ _⟩
theorem rleft_s (w : World) (g B : Nat) (s : Sta) (hi : RI B w g s) : Calls Try.prog 46 #[.pointer (some ⟨g, 0, none⟩)] w fun r w' => r = .returned (.int .i64 (s.1.length : Int)) ∧ w' = w.drew := by
  obtain ⟨bs, k, h, hd⟩ := hi
  rw [← hd]
  exact rleft_any w g 83 bs k s.2 h
theorem rleft_t (w : World) (g B : Nat) (t1 : List Nat) (t2 : Nat) (hi : RI B w g (t1, t2)) : Calls Try.prog 46 #[.pointer (some ⟨g, 0, none⟩)] w fun rr w' => rr = .returned (.int .i64 (t1.length : Int)) ∧ w' = w.drew := rleft_s w g B (t1, t2) hi
def zs : List Value := [.int .i64 0, .string ⟨#[]⟩, .int .i64 0, .slice none 0 0, .slice none 0 0]
end Go.Proofs.Ytiijlnlkhpneaaa.Nd
namespace Go.Proofs.Ytiijlnlkhpneaaa.Nd
open Go.RowKit
set_option maxHeartbeats 1000000 in
set_option maxRecDepth 100000 in
theorem rwnum_any (w : World) (n : Nat) (hn : n < 18446744073709551616) :
    Calls Try.prog 35 #[.int .u64 (n : Int)] w fun e w' => ∃ v, e = .returned v ∧ w'.ownsRow w.heap.size 5 1 v (Wire.num n).length ((Wire.num n).map u8v) ∧ Below w.heap.size w w' := by
  obtain ⟨i5i, HI5, HE1, HE2, HE3⟩ := i5h
  go_enter Try.func35, Try.ntmps35
  go_wp2_with fail
  go_loopw [0, 3] (fun u v w' => ∃ (k m : Nat) (pre : List Nat), u = .int .u64 (m : Int) ∧ m < 128 ^ (k + 1) ∧ m < 18446744073709551616 ∧ pre.length + (k + 1) ≤ 10 ∧ pre ++ Wire.numF k m = Wire.num n ∧ w'.ownsRow w.heap.size 5 1 v pre.length (pre.map u8v) ∧ Below w.heap.size w w' ∧ w.heap.size ≤ w'.heap.size) (fun u _ _ => (intOf u).toNat)
  case atStart => exact ⟨9, n, [], rfl, by omega, hn, by simp, rfl, World.ownsRow_nil _ _ _ _, Below.refl _ _, Nat.le_refl _⟩
  case round =>
    obtain ⟨k, m, pre, rfl, hm, hm64, hpl, hpre, hown, hbel, hsz⟩ := hrel
    have HP := hid_in hpre
    have HB := hid_in hbel
    have hfit : pre.length + 1 ≤ 140737488355328 := by omega
    clear hpre hbel
    by_cases h128 : 128 ≤ m
    · have hk0 : k ≠ 0 := by intro h; subst h; simp at hm; omega
      obtain ⟨k', rfl⟩ : ∃ k', k = k' + 1 := ⟨k - 1, by omega⟩
      have k1 : (128 : Int) ≤ (m : Int) := by omega
      have HM2 : Hid (m / 128 < 128 ^ (k' + 1)) := by show _ < _; rw [Nat.div_lt_iff_lt_mul (by decide)]; rw [Nat.pow_succ] at hm; exact hm
      clear hm hk0
      go_wp2_with (at_builtin; refine wpList_append_one rfl _ _ 50 rfl w.heap.size 5 i5i (.int .u8 0) Try.underlying50 HI5.out HE3.out HE1.out HE2.out rfl _ _ _ rfl hown 5 _ rfl rfl hfit hsz ?_; intro v1 w1 hown1 hb1 hs1; have HB1 := hid_in hb1; clear hb1)
      go_roundw
      case rel =>
        go_light
        have e0 : (m : Int) / 128 = ((m / 128 : Nat) : Int) := by simp
        have e1 : (m : Int) % 128 + 128 = ((m % 128 + 128 : Nat) : Int) := by omega
        rw [e0]
        rw [e1] at hown1
        refine ⟨k', m / 128, pre ++ [m % 128 + 128], rfl, HM2.out, by omega, by rw [List.length_append]; simp; omega, ?_, ?_, HB1.out _ HB.out, hs1⟩
        · rw [← HP.out, List.append_assoc]
          congr 1
          simp only [Wire.numF]
          rw [if_neg (by omega)]
          rfl
        · rw [List.length_append, List.map_append]; exact hown1
      case measure => simp [intOf]; omega
    · have k1 : (m : Int) < 128 := by omega
      have HN : Hid (Wire.numF k m = [m]) := by
        show _ = _
        rcases k with _ | k
        · rfl
        · simp only [Wire.numF]; rw [if_pos (by omega)]
      clear hm
      go_wp2_with (at_builtin; refine wpList_append_one rfl _ _ 50 rfl w.heap.size 5 i5i (.int .u8 0) Try.underlying50 HI5.out HE3.out HE1.out HE2.out rfl _ _ _ rfl hown 5 _ rfl rfl hfit hsz ?_; intro v1 w1 hown1 hb1 hs1; have HB1 := hid_in hb1; clear hb1)
      go_ret
      refine ⟨_, rfl, ?_, HB1.out _ HB.out⟩
      rw [← HP.out, HN.out, List.length_append, List.map_append]
      exact hown1
set_option maxHeartbeats 1000000 in
theorem rwtext_any (w : World) (s : ByteArray) (hl : 10 + s.size ≤ 140737488355328) :
    Calls Try.prog 38 #[.string s] w fun e w' => ∃ v, e = .returned v ∧ w'.ownsRow w.heap.size 5 1 v (Wire.num s.size ++ bytesS s).length ((Wire.num s.size ++ bytesS s).map u8v) ∧ Below w.heap.size w w' := by
  obtain ⟨i5i, HI5, HE1, HE2, HE3⟩ := i5h
  have hnum := rwnum_any w s.size (by omega)
  have ks : (s.size : Int) ≤ 140737488355328 := by omega
  have hnl := num_length s.size
  go_enter Try.func38, Try.ntmps38
  go_wp2_with fail
  refine hnum.mono ?_
  rintro e w1 ⟨v1, rfl, hown, hb⟩
  have HB := hid_in hb
  have hbase : w.heap.size ≤ w1.heap.size := hb.size
  have hfit : (Wire.num s.size).length + s.size ≤ 140737488355328 := by omega
  clear hnum hb
  go_wp2_with (at_builtin; refine wpList_append_string_at rfl _ _ 50 9 rfl w.heap.size 5 i5i Try.underlying50 Try.underlying9 HI5.out HE3.out HE1.out HE2.out _ _ _ rfl hown s rfl hfit hbase ?_; intro v2 w2 hown2 hg2 hm2; have HG2 : Hid (w1.grownBy w2 v1.ownBlock) := hg2; clear hm2)
  go_ret
  refine ⟨_, rfl, ?_, own_step HB.out HG2.out hbase rfl hown⟩
  rw [List.length_append, List.map_append, bytesS_length, ← strCells_bytes]
  exact hown2
end Go.Proofs.Ytiijlnlkhpneaaa.Nd
