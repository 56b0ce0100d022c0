/-
  The walk of slices.Concat. The walks of wire.Frame and wire.Next. The walk of wire.Next.
-/
import Derived.Laws.StructEq
import Derived.Laws.Tables
import Derived.Laws.CopyOwn
import Derived.OwnWalk
import Derived.Deep.RegionLaw
import Derived.Deep.DrawnRows
import Derived.Deep.CutRange
import Derived.Deep.RegionHeld3
import Derived.Test.YtjjofjnhhajjjaaA00
import Derived.Test.YtjjofjnhhajjjaaA01
import Derived.Test.YtjjofjnhhajjjaaA02
import Derived.Test.YtjjofjnhhajjjaaA03
import Derived.Test.YtjjofjnhhajjjaaA04
import Derived.Test.YtjjofjnhhajjjaaA05
import Derived.Test.YtjjofjnhhajjjaaA06
import Derived.Test.YtjjofjnhhajjjaaA08
import Derived.Test.YtjjofjnhhajjjaaA14
namespace Go.Proofs.Ytjjofjnhhajjjaa.Nd
open Go.RowKit
set_option maxHeartbeats 1000000 in
set_option maxRecDepth 100000 in
theorem concat_any (ps : List Part) (pb po cap : Nat) (w : World) (hps : Parts w pb po ps) (hn : ps.length ≤ 9223372036854775807) (h0 : 0 < (bytesOf ps).length) (hre : (bytesOf ps).length ≤ 140737488355328) :
    Calls Try.prog 87 #[.slice (some ⟨pb, po, none⟩) ps.length cap] w fun e w' => ∃ v, e = .returned v ∧ w'.ownsRow w.heap.size 5 1 v (bytesOf ps).length ((bytesOf ps).map u8v) ∧ Below w.heap.size w w' := by
  obtain ⟨i5i, HI5, HE1, HE2, HE3⟩ := i5h
  have HPS : Hid (Parts w pb po ps) := hps
  clear hps
  go_enter Try.func87, Try.ntmps87
  go_wp2_with fail
  go_loopw [3, 11] (fun v i w' => ∃ k : Nat, k ≤ ps.length ∧ i = .int .i64 (k : Int) ∧ v = .int .i64 (((bytesOf (ps.take k)).length : Nat) : Int) ∧ w' = w) (fun _ i _ => ps.length - (intOf i).toNat)
  case atStart => exact ⟨0, by omega, rfl, rfl, rfl⟩
  case round =>
    obtain ⟨k, hk, rfl, rfl, hwr⟩ := hrel
    have hwr' := hwr.symm
    subst hwr'
    by_cases hlt : k < ps.length
    · obtain ⟨x, hx⟩ : ∃ x, ps[k]? = some x := ⟨_, List.getElem?_eq_getElem hlt⟩
      have c0 : w.cell? ⟨pb, po + k, none⟩ = some (.slice x.p x.bs.length x.cap) := HPS.out.at_ k x hx
      have HB : Hid (bytesOf (ps.take (k + 1)) = bytesOf (ps.take k) ++ x.bs) := bytesOf_succ hx
      have hle := bytesOf_le ps (k + 1)
      rw [HB.out, List.length_append] at hle
      have k1 : (k : Int) < (ps.length : Int) := by omega
      have k2 : ((bytesOf (ps.take k)).length : Int) + (x.bs.length : Int) ≤ 140737488355328 := by omega
      generalize hm : (bytesOf (ps.take k)).length = m at k2 hle
      clear hx
      go_wp2
      go_roundw
      case rel =>
        go_light
        refine ⟨k + 1, by omega, by go_num, ?_, by trivial⟩
        rw [HB.out, List.length_append, hm]
        go_num
      case measure => simp [intOf]; omega
    · have HK : Hid (k = ps.length) := by show k = _; omega
      have k1 : (ps.length : Int) ≤ (k : Int) := by omega
      have HA : Hid ((bytesOf (ps.take k)).length = (bytesOf ps).length) := by show _ = _; rw [HK.out, List.take_of_length_le (Nat.le_refl _)]
      rw [HA.out]
      obtain ⟨T, hT⟩ : ∃ T, T = (bytesOf ps).length := ⟨_, rfl⟩
      rw [← hT] at h0 hre ⊢
      have HT : Hid (T = (bytesOf ps).length) := hT
      clear hT HK hk hlt
      go_wp2_with fail
      refine (grow_any T h0 hre w).mono ?_
      rintro e w1 ⟨v1, rfl, hown1, hb1⟩
      go_wp2_with fail
      go_loopw [6, 27] (fun v i w' => ∃ k : Nat, k ≤ ps.length ∧ i = .int .i64 (k : Int) ∧ w'.ownsRow w.heap.size 5 1 v (bytesOf (ps.take k)).length ((bytesOf (ps.take k)).map u8v) ∧ Below w.heap.size w w') (fun _ i _ => ps.length - (intOf i).toNat)
      case atStart => exact ⟨0, by omega, rfl, hown1, hb1⟩
      case round =>
        clear hown1 hb1
        obtain ⟨k2, hk2, rfl, hown, hbel⟩ := hrel
        have HBEL : Hid (Below w.heap.size w wr) := hbel
        by_cases hlt2 : k2 < ps.length
        · obtain ⟨x, hx⟩ : ∃ x, ps[k2]? = some x := ⟨_, List.getElem?_eq_getElem hlt2⟩
          have hpr := HPS.out.below hbel
          have hxm := List.mem_of_getElem? hx
          have c0 : wr.cell? ⟨pb, po + k2, none⟩ = some (.slice x.p x.bs.length x.cap) := hpr.at_ k2 x hx
          have hnews := Sl.news (hpr.ok x hxm)
          have hno := hpr.no x hxm
          have HB : Hid (bytesOf (ps.take (k2 + 1)) = bytesOf (ps.take k2) ++ x.bs) := bytesOf_succ hx
          have hle := bytesOf_le ps (k2 + 1)
          rw [HB.out, List.length_append] at hle
          have k3 : (k2 : Int) < (ps.length : Int) := by omega
          have hfit : (bytesOf (ps.take k2)).length + x.bs.length ≤ 140737488355328 := by have := HT.out; omega
          have hl : (x.bs.map u8v).length = x.bs.length := by simp
          have hsz : w.heap.size ≤ wr.heap.size := hbel.size
          clear hx hxm hpr hbel hle
          go_wp2_with (at_builtin; refine wpList_append_any rfl _ _ 54 rfl w.heap.size 5 i5i (.int .u8 0) Try.underlying54 HI5.out HE3.out HE1.out HE2.out rfl _ _ _ rfl hown x.p x.bs.length x.cap (x.bs.map u8v) rfl hl hno hnews (one_u8 x.bs) hfit hsz ?_; intro v6 w6 hown6 hg6)
          have hb6 := own_step HBEL.out hg6 hsz rfl hown
          go_roundw
          case rel =>
            go_light
            refine ⟨k2 + 1, by omega, by go_num, ?_, hb6⟩
            rw [HB.out, List.length_append, List.map_append]
            exact hown6
          case measure => simp [intOf]; omega
        · have HK2 : Hid (k2 = ps.length) := by show k2 = _; omega
          have k3 : (ps.length : Int) ≤ (k2 : Int) := by omega
          have HOWN : Hid (wr.ownsRow w.heap.size 5 1 u6 (bytesOf (ps.take k2)).length ((bytesOf (ps.take k2)).map u8v)) := hown
          clear hown
          go_wp2
          go_ret
          have h := HOWN.out
          rw [HK2.out, List.take_of_length_le (Nat.le_refl _)] at h
          rw [HT.out]
          exact ⟨_, rfl, h, HBEL.out⟩
end Go.Proofs.Ytjjofjnhhajjjaa.Nd
namespace Go.Proofs.Ytjjofjnhhajjjaa.Nd
open Go.RowKit
theorem parts_row {w : World} {pb : Nat} {ps : List Part} {t : TypeId} (h : Row w pb (ps.map Part.val) t) (hok : ∀ x ∈ ps, x.ok w) (hno : ∀ x ∈ ps, x.p = none → x.bs.length = 0 ∧ x.cap = 0) : Parts w pb 0 ps :=
  ⟨fun i x hx => by rw [Nat.zero_add, h.cell]; simp [hx], hok, hno⟩
set_option maxHeartbeats 1000000 in
set_option maxRecDepth 100000 in
theorem frame_any (bs : List Nat) (p : Option Addr) (cap b off : Nat) (w : World) (hsl : Sl w p bs cap b off) (hno : p = none → bs.length = 0 ∧ cap = 0) :
    Calls Try.prog 72 #[.slice p bs.length cap] w fun e w' => Below w.heap.size w w' ∧
      ((262144 < bs.length ∧ e = .returned (.tuple #[.slice none 0 0, .int .i64 2])) ∨
       (bs.length ≤ 262144 ∧ ∃ v, e = .returned (.tuple #[v, .int .i64 0]) ∧ w'.ownsRow w.heap.size 5 1 v (Wire.frame bs).length ((Wire.frame bs).map u8v))) := by
  have k0 : (bs.length : Int) ≤ 9223372036854775807 := by have := hsl.cap1; have := hsl.cap2; omega
  by_cases hL : 262144 < bs.length
  · have k1 : (262144 : Int) < (bs.length : Int) := by omega
    clear hsl
    go_enter Try.func72, Try.ntmps72
    go_wp2
    go_ret2
    exact ⟨Below.refl _ _, .inl ⟨hL, rfl⟩⟩
  · have k1 : (bs.length : Int) ≤ 262144 := by omega
    have HSL : Hid (Sl w p bs cap b off) := hsl
    clear hsl
    go_enter Try.func72, Try.ntmps72
    go_wp2_with fail
    refine (word_any bs.length (by omega) w).mono ?_
    rintro e w1 ⟨rfl, hw1⟩
    have hb1 : Below w.heap.size w w1 := by rw [hw1]; exact (Below.refl _ _).alloc (Nat.le_refl _) _
    have hr1 : Row w1 w.heap.size ((Wire.four bs.length).map u8v) 5 := by rw [hw1]; exact Row.newAt w _ _ 5 rfl
    have hs1 : w1.heap.size = w.heap.size + 1 := by rw [hw1]; simp
    have HS1 : Hid (w1.heap.size = w.heap.size + 1) := hs1
    have hsl1 := HSL.out.below hb1
    clear hw1 hs1
    obtain ⟨A, hA⟩ : ∃ A, A = w.heap.size := ⟨_, rfl⟩
    rw [← hA] at hr1 ⊢
    have HA : Hid (A = w.heap.size) := hA
    clear hA
    have hx1 : Part.ok w1 ⟨some ⟨A, 0, none⟩, Wire.four bs.length, 4, A, 0⟩ := row_sl0 hr1 (Wire.four_lt _) (by simp [Wire.four_length])
    have hx2 : Part.ok w1 ⟨p, bs, cap, b, off⟩ := hsl1
    have hb2 : Below w1.heap.size w1 (w1.alloc (.cells #[.slice (some ⟨A, 0, none⟩) 4 4, .slice p bs.length cap] 54)) := (Below.refl _ _).alloc (Nat.le_refl _) _
    have hps : Parts (w1.alloc (.cells #[.slice (some ⟨A, 0, none⟩) 4 4, .slice p bs.length cap] 54)) w1.heap.size 0 [⟨some ⟨A, 0, none⟩, Wire.four bs.length, 4, A, 0⟩, ⟨p, bs, cap, b, off⟩] := by
      refine parts_row (Row.newAt w1 _ _ 54 rfl) ?_ ?_
      · intro x hx
        simp only [List.mem_cons, List.not_mem_nil, or_false] at hx
        rcases hx with rfl | rfl
        · exact Sl.below hx1 hb2
        · exact Sl.below hx2 hb2
      · intro x hx
        simp only [List.mem_cons, List.not_mem_nil, or_false] at hx
        rcases hx with rfl | rfl
        · intro h; cases h
        · exact hno
    have hck := wcheck_any _ w1.heap.size 0 2 _ hps (by simp)
    have eB : bytesOf [⟨some ⟨A, 0, none⟩, Wire.four bs.length, 4, A, 0⟩, ⟨p, bs, cap, b, off⟩] = Wire.four bs.length ++ bs := by simp [bytesOf]
    rw [eB] at hck
    go_wp2_with fail
    refine hck.mono ?_
    rintro e w2 ⟨rfl, hw2⟩
    have hb2' : Below w1.heap.size w1 w2 := by rw [hw2]; exact hb2
    have hx1' : Part.ok w2 ⟨some ⟨A, 0, none⟩, Wire.four bs.length, 4, A, 0⟩ := Sl.below hx1 hb2'
    have hx2' : Part.ok w2 ⟨p, bs, cap, b, off⟩ := Sl.below hx2 hb2'
    have hbw2 : Below w.heap.size w w2 := hb1.trans (hb2'.mono hb1.size)
    have hin : ∀ x ∈ Wire.four bs.length ++ bs, x < 256 := by
      intro x hx
      rcases List.mem_append.1 hx with hx | hx
      · exact Wire.four_lt _ x hx
      · exact HSL.out.lt x hx
    have hcl := Wire.check_lt hin
    obtain ⟨c, HC⟩ : ∃ c, Hid (c = Wire.check (Wire.four bs.length ++ bs)) := ⟨_, rfl⟩
    rw [← HC.out] at hcl ⊢
    have hF : Wire.four bs.length ++ bs ++ Wire.four c = Wire.frame bs := by rw [HC.out]; rfl
    have HF : Hid (Wire.four bs.length ++ bs ++ Wire.four c = Wire.frame bs) := hF
    clear hck hps hb2 hw2 hx1 hx2 hsl1 hr1 hb1 HS1 hb2' hF eB hin
    go_wp2_with fail
    refine (word_any c hcl w2).mono ?_
    rintro e w3 ⟨rfl, hw3⟩
    have hb3 : Below w2.heap.size w2 w3 := by rw [hw3]; exact (Below.refl _ _).alloc (Nat.le_refl _) _
    have hr3 : Row w3 w2.heap.size ((Wire.four c).map u8v) 5 := by rw [hw3]; exact Row.newAt w2 _ _ 5 rfl
    clear hw3
    obtain ⟨D, hD⟩ : ∃ D, D = w2.heap.size := ⟨_, rfl⟩
    rw [← hD] at hr3 ⊢
    have hx1 : Part.ok w3 ⟨some ⟨A, 0, none⟩, Wire.four bs.length, 4, A, 0⟩ := Sl.below hx1' hb3
    have hx2 : Part.ok w3 ⟨p, bs, cap, b, off⟩ := Sl.below hx2' hb3
    have hx3 : Part.ok w3 ⟨some ⟨D, 0, none⟩, Wire.four c, 4, D, 0⟩ := row_sl0 hr3 (Wire.four_lt _) (by simp [Wire.four_length])
    have hbw3 : Below w.heap.size w w3 := hbw2.trans (hb3.mono hbw2.size)
    have hb4 : Below w3.heap.size w3 (w3.alloc (.cells #[.slice (some ⟨A, 0, none⟩) 4 4, .slice p bs.length cap, .slice (some ⟨D, 0, none⟩) 4 4] 54)) := (Below.refl _ _).alloc (Nat.le_refl _) _
    have hps : Parts (w3.alloc (.cells #[.slice (some ⟨A, 0, none⟩) 4 4, .slice p bs.length cap, .slice (some ⟨D, 0, none⟩) 4 4] 54)) w3.heap.size 0 [⟨some ⟨A, 0, none⟩, Wire.four bs.length, 4, A, 0⟩, ⟨p, bs, cap, b, off⟩, ⟨some ⟨D, 0, none⟩, Wire.four c, 4, D, 0⟩] := by
      refine parts_row (Row.newAt w3 _ _ 54 rfl) ?_ ?_
      · intro x hx
        simp only [List.mem_cons, List.not_mem_nil, or_false] at hx
        rcases hx with rfl | rfl | rfl
        · exact Sl.below hx1 hb4
        · exact Sl.below hx2 hb4
        · exact Sl.below hx3 hb4
      · intro x hx
        simp only [List.mem_cons, List.not_mem_nil, or_false] at hx
        rcases hx with rfl | rfl | rfl
        · intro h; cases h
        · exact hno
        · intro h; cases h
    have eB : bytesOf [⟨some ⟨A, 0, none⟩, Wire.four bs.length, 4, A, 0⟩, ⟨p, bs, cap, b, off⟩, ⟨some ⟨D, 0, none⟩, Wire.four c, 4, D, 0⟩] = Wire.frame bs := by
      rw [← HF.out]; simp [bytesOf]
    have hfl := Wire.frame_length bs
    have hcc := concat_any _ w3.heap.size 0 3 _ hps (by simp) (by rw [eB]; omega) (by rw [eB]; omega)
    rw [eB] at hcc
    clear hD hx1 hx2 hx3 hps hx1' hx2' hr3 eB
    go_wp2_with fail
    refine hcc.mono ?_
    rintro e w5 ⟨v5, rfl, hown5, hb5⟩
    have hbw5 : Below w.heap.size w w5 := (hbw3.alloc hbw3.size _).trans (hb5.mono (by rw [World.size_alloc]; have := hbw3.size; omega))
    have hown5' := own_mono (B' := w.heap.size) hown5 (by rw [World.size_alloc]; have := hbw3.size; omega)
    have HOWN : Hid (w5.ownsRow w.heap.size 5 1 v5 (Wire.frame bs).length ((Wire.frame bs).map u8v)) := hown5'
    clear hcc hown5 hown5' hb5
    go_wp2
    go_ret2
    exact ⟨hbw5, .inr ⟨by omega, _, rfl, HOWN.out⟩⟩
end Go.Proofs.Ytjjofjnhhajjjaa.Nd
namespace Go.Proofs.Ytjjofjnhhajjjaa.Nd
open Go.RowKit
set_option maxHeartbeats 1000000 in
set_option maxRecDepth 100000 in
theorem next_any (bs : List Nat) (p : Option Addr) (cap b off : Nat) (w : World) (hsl : Sl w p bs cap b off) :
    Calls Try.prog 42 #[.slice p bs.length cap] w fun e w' => ∃ v, e = .returned (.tuple #[v, .int .i64 ((Wire.next bs).2.1 : Int), .int .i64 ((Wire.next bs).2.2 : Int)]) ∧ w'.ownsRow w.heap.size 5 1 v (Wire.next bs).1.length ((Wire.next bs).1.map u8v) ∧ Below w.heap.size w w' := by
  have k0 : (bs.length : Int) ≤ 9223372036854775807 := by have := hsl.cap1; have := hsl.cap2; omega
  by_cases h4 : bs.length < 4
  · have k1 : (bs.length : Int) < 4 := by omega
    have HN : Hid (Wire.next bs = ([], 0, 20)) := by show _ = _; unfold Wire.next; rw [if_pos h4]
    clear hsl
    go_enter Try.func42, Try.ntmps42
    go_wp2
    go_ret3
    rw [HN.out]
    exact ⟨_, rfl, World.ownsRow_nil _ _ _ _, Below.refl _ _⟩
  have k1 : (4 : Int) ≤ (bs.length : Int) := by omega
  have hva := value_any bs p cap b off w hsl (by omega)
  have hvl := Wire.val_lt hsl.lt
  obtain ⟨n, HV⟩ : ∃ n, Hid (n = Wire.val bs) := ⟨_, rfl⟩
  rw [← HV.out] at hva hvl
  have HSL : Hid (Sl w p bs cap b off) := hsl
  have hcap := hsl.cap1
  have hcap2 := hsl.cap2
  obtain rfl := hsl.at_ (by omega)
  clear hsl
  go_enter Try.func42, Try.ntmps42
  go_wp2_with fail
  refine hva.mono ?_
  rintro e w1 ⟨rfl, m1, hw1⟩
  have hb1 : Below w.heap.size w w1 := by rw [hw1]; exact below_drewN (Below.refl _ _) _
  have HS1 : Hid (w1.heap.size = w.heap.size) := by show _ = _; rw [hw1]; simp
  clear hw1 hva
  by_cases hbig : 262144 < n
  · have k2 : (262144 : Int) < (n : Int) := by omega
    have HN : Hid (Wire.next bs = ([], 0, 2)) := by show _ = _; unfold Wire.next; rw [if_neg h4, ← HV.out, if_pos hbig]
    go_wp2
    go_ret3
    rw [HN.out]
    exact ⟨_, rfl, World.ownsRow_nil _ _ _ _, hb1⟩
  have k2 : (n : Int) ≤ 262144 := by omega
  by_cases hsh : bs.length < n + 8
  · have k3 : (bs.length : Int) < (n : Int) + 8 := by omega
    have HN : Hid (Wire.next bs = ([], 0, 20)) := by show _ = _; unfold Wire.next; rw [if_neg h4, ← HV.out, if_neg hbig, if_pos hsh]
    go_wp2
    go_ret3
    rw [HN.out]
    exact ⟨_, rfl, World.ownsRow_nil _ _ _ _, hb1⟩
  have k3 : (n : Int) + 8 ≤ (bs.length : Int) := by omega
  have hS1 := slice_hi b off bs.length cap (n + 4) (by omega) (4 + (n : Int)) (by omega)
  have hS2 := slice_lo b off bs.length cap (n + 4) (by omega) hcap (4 + (n : Int)) (by omega)
  have hsl1 := HSL.out.below hb1
  have hsl1d : Sl w1.drew (some ⟨b, off, none⟩) bs cap b off := ⟨hsl1.lt, hsl1.cap1, hsl1.cap2, hsl1.at_, hsl1.src⟩
  have hb2 : Below w1.drew.heap.size w1.drew (w1.drew.alloc (.cells #[.slice (some ⟨b, off, none⟩) (n + 4) cap] 54)) := (Below.refl _ _).alloc (Nat.le_refl _) _
  have hp1 := hsl1d.part 0 (n + 4) cap (by omega) (by omega) hcap2
  have hp2 := hsl1d.part (n + 4) (bs.length - (n + 4)) (cap - (n + 4)) (by omega) (by omega) (by omega)
  rw [Nat.add_zero, List.drop_zero] at hp1
  have et : (bs.take (n + 4)).length = n + 4 := by simp; omega
  have ed : ((bs.drop (n + 4)).take (bs.length - (n + 4))) = bs.drop (n + 4) := List.take_of_length_le (by simp)
  have edl : (bs.drop (n + 4)).length = bs.length - (n + 4) := by simp
  rw [ed] at hp2
  have hps : Parts (w1.drew.alloc (.cells #[.slice (some ⟨b, off, none⟩) (n + 4) cap] 54)) w1.drew.heap.size 0 [⟨some ⟨b, off, none⟩, bs.take (n + 4), cap, b, off⟩] := by
    refine parts_row (by simpa [Part.val, et] using Row.newAt w1.drew _ [.slice (some ⟨b, off, none⟩) (n + 4) cap] 54 rfl) ?_ ?_
    · intro x hx
      simp only [List.mem_cons, List.not_mem_nil, or_false] at hx
      subst hx
      exact Sl.below hp1 hb2
    · intro x hx
      simp only [List.mem_cons, List.not_mem_nil, or_false] at hx
      subst hx
      intro h; cases h
  have hck := wcheck_any _ _ 0 1 _ hps (by simp)
  have eB : bytesOf [⟨some ⟨b, off, none⟩, bs.take (n + 4), cap, b, off⟩] = bs.take (n + 4) := by simp [bytesOf]
  rw [eB] at hck
  have hva := value_any _ _ _ _ _ _ (Sl.below hp2 hb2) (by rw [edl]; omega)
  rw [edl] at hva
  obtain ⟨c, HC⟩ : ∃ c, Hid (c = Wire.check (bs.take (n + 4))) := ⟨_, rfl⟩
  obtain ⟨x, HX⟩ : ∃ x, Hid (x = Wire.val (bs.drop (n + 4))) := ⟨_, rfl⟩
  rw [← HC.out] at hck
  rw [← HX.out] at hva
  have hcl : c < 4294967296 := by rw [HC.out]; exact Wire.check_lt (fun y hy => HSL.out.lt y (List.mem_of_mem_take hy))
  have hxl : x < 4294967296 := by rw [HX.out]; exact Wire.val_lt (fun y hy => HSL.out.lt y (List.mem_of_mem_drop hy))
  have e1 : w1.drew.heap.size = w1.heap.size := rfl
  rw [e1] at hck
  have HCK : Hid (Calls Try.prog 60 #[.slice (some ⟨w1.heap.size, 0, none⟩) 1 1] (w1.drew.alloc (.cells #[.slice (some ⟨b, off, none⟩) (n + 4) cap] 54)) fun e w' => e = .returned (.int .u32 (c : Int)) ∧ w' = (w1.drew.alloc (.cells #[.slice (some ⟨b, off, none⟩) (n + 4) cap] 54))) := hck
  have HVA : Hid (Calls Try.prog 59 #[.slice (some ⟨b, off + (n + 4), none⟩) (bs.length - (n + 4)) (cap - (n + 4))] (w1.drew.alloc (.cells #[.slice (some ⟨b, off, none⟩) (n + 4) cap] 54)) fun e w' => e = .returned (.int .u32 (x : Int)) ∧ ∃ m, w' = (w1.drew.alloc (.cells #[.slice (some ⟨b, off, none⟩) (n + 4) cap] 54)).drewN m) := hva
  have hbw2 : Below w.heap.size w (w1.drew.alloc (.cells #[.slice (some ⟨b, off, none⟩) (n + 4) cap] 54)) := (hb1.drew).alloc (by rw [e1, HS1.out]; exact Nat.le_refl _) _
  clear hck hva hps hp1 hp2 et ed edl eB hb2 hsl1 hsl1d e1
  go_wp2
  go_region_with (first | (go_at_call 60; refine HCK.out.mono ?_; rintro e wc ⟨rfl, rfl⟩) | (go_at_call 59; refine HVA.out.mono ?_; rintro e w2 ⟨rfl, m2, hw2⟩; have HW2 := hid_in hw2; clear hw2))
  have hb2 : Below w.heap.size w w2 := by rw [HW2.out]; exact below_drewN hbw2 _
  have HS2 : Hid (w.heap.size ≤ w2.heap.size) := hb2.size
  clear HW2 hbw2 HCK HVA hS1 hS2
  by_cases hcx : c = x
  · subst hcx
    have HN : Hid (Wire.next bs = ((bs.drop 4).take n, n + 8, 0)) := by
      show _ = _
      unfold Wire.next
      rw [if_neg h4, ← HV.out, if_neg hbig, if_neg hsh, ← HC.out, ← HX.out, if_neg (by simp)]
    have hS3 := slice_lohi b off bs.length cap 4 (n + 4) (by omega) (by omega) (by omega) 4 (4 + (n : Int)) rfl (by omega)
    rw [show n + 4 - 4 = n by omega] at hS3
    have hp := (HSL.out.below hb2).part 4 n (cap - 4) (by omega) (by omega) (by omega)
    have hpl : ((bs.drop 4).take n).length = n := by simp; omega
    have hcl2 := clone_any ((bs.drop 4).take n) (some ⟨b, off + 4, none⟩) (cap - 4) b (off + 4) w2 hp (fun h => by cases h) (by omega)
    rw [hpl] at hcl2
    have HP : Hid (((bs.drop 4).take n).length = n) := hpl
    clear hp hpl
    go_wp2_with fail
    refine hcl2.mono ?_
    rintro e w3 ⟨v3, rfl, hown3, hb3⟩
    have hown3' := own_mono (B' := w.heap.size) hown3 HS2.out
    have HOWN : Hid (w3.ownsRow w.heap.size 5 1 v3 n (((bs.drop 4).take n).map u8v)) := hown3'
    have hbw3 : Below w.heap.size w w3 := hb2.trans (hb3.mono HS2.out)
    clear hcl2 hown3 hown3' hb3
    go_wp2
    go_ret3
    rw [HN.out]
    refine ⟨_, by rw [show ((n + 8 : Nat) : Int) = 4 + (n : Int) + 4 by omega]; rfl, ?_, hbw3⟩
    simp only
    rw [HP.out]
    exact HOWN.out
  · have k4 : ¬ ((c : Int) = (x : Int)) := by omega
    have HN : Hid (Wire.next bs = ([], 0, 22)) := by
      show _ = _
      unfold Wire.next
      rw [if_neg h4, ← HV.out, if_neg hbig, if_neg hsh, ← HC.out, ← HX.out, if_pos hcx]
    go_wp2
    go_ret3
    rw [HN.out]
    exact ⟨_, rfl, World.ownsRow_nil _ _ _ _, hb2⟩
end Go.Proofs.Ytjjofjnhhajjjaa.Nd
