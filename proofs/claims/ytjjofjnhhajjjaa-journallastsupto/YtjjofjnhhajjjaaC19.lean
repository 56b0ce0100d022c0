/-
  The walks of wire.Frame and wire.Next. The walk of wire.Next. Frames one behind the other, in plain numbers. No program in it. The walk of wire.Scan.
-/
import Derived.Laws.Tables
import Derived.OwnWalk
import Derived.Deep.CutRange
import Derived.Laws.StructEq
import Derived.Laws.CopyOwn
import Derived.Deep.RegionLaw
import Derived.Deep.DrawnRows
import Derived.Deep.RegionHeld3
import Derived.Test.YtjjofjnhhajjjaaC00
import Derived.Test.YtjjofjnhhajjjaaC01
import Derived.Test.YtjjofjnhhajjjaaC02
import Derived.Test.YtjjofjnhhajjjaaC03
import Derived.Test.YtjjofjnhhajjjaaC04
import Derived.Test.YtjjofjnhhajjjaaC05
import Derived.Test.YtjjofjnhhajjjaaC06
import Derived.Test.YtjjofjnhhajjjaaC17
import Derived.Test.YtjjofjnhhajjjaaC18
namespace Go.Proofs.Ytjjofjnhhajjjaa.Nd
open Go.RowKit
theorem parts_row {w : World} {pb : Nat} {ps : List Part} {t : TypeId} (h : Row w pb (ps.map Part.val) t) (hok : ∀ x ∈ ps, x.ok w) (hno : ∀ x ∈ ps, x.p = none → x.bs.length = 0 ∧ x.cap = 0) : Parts w pb 0 ps :=
  ⟨fun i x hx => by rw [Nat.zero_add, h.cell]; simp [hx], hok, hno⟩
set_option maxHeartbeats 1000000 in
set_option maxRecDepth 100000 in
theorem frame_any (bs : List Nat) (p : Option Addr) (cap b off : Nat) (w : World) (hsl : Sl w p bs cap b off) (hno : p = none → bs.length = 0 ∧ cap = 0) :
    Calls Try.prog 72 #[.slice p bs.length cap] w fun e w' => Below w.heap.size w w' ∧
      ((262144 < bs.length ∧ e = .returned (.tuple #[.slice none 0 0, .int .i64 2])) ∨
       (bs.length ≤ 262144 ∧ ∃ v, e = .returned (.tuple #[v, .int .i64 0]) ∧ w'.ownsRow w.heap.size 5 1 v (Wire.frame bs).length ((Wire.frame bs).map u8v))) := by
  have k0 : (bs.length : Int) ≤ 9223372036854775807 := by have := hsl.cap1; have := hsl.cap2; omega
  by_cases hL : 262144 < bs.length
  · have k1 : (262144 : Int) < (bs.length : Int) := by omega
    clear hsl
    go_enter Try.func72, Try.ntmps72
    go_wp2
    go_ret2
    exact ⟨Below.refl _ _, .inl ⟨hL, rfl⟩⟩
  · have k1 : (bs.length : Int) ≤ 262144 := by omega
    have HSL : Hid (Sl w p bs cap b off) := hsl
    clear hsl
    go_enter Try.func72, Try.ntmps72
    go_wp2_with fail
    refine (word_any bs.length (by omega) w).mono ?_
    rintro e w1 ⟨rfl, hw1⟩
    have hb1 : Below w.heap.size w w1 := by rw [hw1]; exact (Below.refl _ _).alloc (Nat.le_refl _) _
    have hr1 : Row w1 w.heap.size ((Wire.four bs.length).map u8v) 5 := by rw [hw1]; exact Row.newAt w _ _ 5 rfl
    have hs1 : w1.heap.size = w.heap.size + 1 := by rw [hw1]; simp
    have HS1 : Hid (w1.heap.size = w.heap.size + 1) := hs1
    have hsl1 := HSL.out.below hb1
    clear hw1 hs1
    obtain ⟨A, hA⟩ : ∃ A, A = w.heap.size := ⟨_, rfl⟩
    rw [← hA] at hr1 ⊢
    have HA : Hid (A = w.heap.size) := hA
    clear hA
    have hx1 : Part.ok w1 ⟨some ⟨A, 0, none⟩, Wire.four bs.length, 4, A, 0⟩ := row_sl0 hr1 (Wire.four_lt _) (by simp [Wire.four_length])
    have hx2 : Part.ok w1 ⟨p, bs, cap, b, off⟩ := hsl1
    have hb2 : Below w1.heap.size w1 (w1.alloc (.cells #[.slice (some ⟨A, 0, none⟩) 4 4, .slice p bs.length cap] 54)) := (Below.refl _ _).alloc (Nat.le_refl _) _
    have hps : Parts (w1.alloc (.cells #[.slice (some ⟨A, 0, none⟩) 4 4, .slice p bs.length cap] 54)) w1.heap.size 0 [⟨some ⟨A, 0, none⟩, Wire.four bs.length, 4, A, 0⟩, ⟨p, bs, cap, b, off⟩] := by
      refine parts_row (Row.newAt w1 _ _ 54 rfl) ?_ ?_
      · intro x hx
        simp only [List.mem_cons, List.not_mem_nil, or_false] at hx
        rcases hx with rfl | rfl
        · exact Sl.below hx1 hb2
        · exact Sl.below hx2 hb2
      · intro x hx
        simp only [List.mem_cons, List.not_mem_nil, or_false] at hx
        rcases hx with rfl | rfl
        · intro h; cases h
        · exact hno
    have hck := wcheck_any _ w1.heap.size 0 2 _ hps (by simp)
    have eB : bytesOf [⟨some ⟨A, 0, none⟩, Wire.four bs.length, 4, A, 0⟩, ⟨p, bs, cap, b, off⟩] = Wire.four bs.length ++ bs := by simp [bytesOf]
    rw [eB] at hck
    go_wp2_with fail
    refine hck.mono ?_
    rintro e w2 ⟨rfl, hw2⟩
    have hb2' : Below w1.heap.size w1 w2 := by rw [hw2]; exact hb2
    have hx1' : Part.ok w2 ⟨some ⟨A, 0, none⟩, Wire.four bs.length, 4, A, 0⟩ := Sl.below hx1 hb2'
    have hx2' : Part.ok w2 ⟨p, bs, cap, b, off⟩ := Sl.below hx2 hb2'
    have hbw2 : Below w.heap.size w w2 := hb1.trans (hb2'.mono hb1.size)
    have hin : ∀ x ∈ Wire.four bs.length ++ bs, x < 256 := by
      intro x hx
      rcases List.mem_append.1 hx with hx | hx
      · exact Wire.four_lt _ x hx
      · exact HSL.out.lt x hx
    have hcl := Wire.check_lt hin
    obtain ⟨c, HC⟩ : ∃ c, Hid (c = Wire.check (Wire.four bs.length ++ bs)) := ⟨_, rfl⟩
    rw [← HC.out] at hcl ⊢
    have hF : Wire.four bs.length ++ bs ++ Wire.four c = Wire.frame bs := by rw [HC.out]; rfl
    have HF : Hid (Wire.four bs.length ++ bs ++ Wire.four c = Wire.frame bs) := hF
    clear hck hps hb2 hw2 hx1 hx2 hsl1 hr1 hb1 HS1 hb2' hF eB hin
    go_wp2_with fail
    refine (word_any c hcl w2).mono ?_
    rintro e w3 ⟨rfl, hw3⟩
    have hb3 : Below w2.heap.size w2 w3 := by rw [hw3]; exact (Below.refl _ _).alloc (Nat.le_refl _) _
    have hr3 : Row w3 w2.heap.size ((Wire.four c).map u8v) 5 := by rw [hw3]; exact Row.newAt w2 _ _ 5 rfl
    clear hw3
    obtain ⟨D, hD⟩ : ∃ D, D = w2.heap.size := ⟨_, rfl⟩
    rw [← hD] at hr3 ⊢
    have hx1 : Part.ok w3 ⟨some ⟨A, 0, none⟩, Wire.four bs.length, 4, A, 0⟩ := Sl.below hx1' hb3
    have hx2 : Part.ok w3 ⟨p, bs, cap, b, off⟩ := Sl.below hx2' hb3
    have hx3 : Part.ok w3 ⟨some ⟨D, 0, none⟩, Wire.four c, 4, D, 0⟩ := row_sl0 hr3 (Wire.four_lt _) (by simp [Wire.four_length])
    have hbw3 : Below w.heap.size w w3 := hbw2.trans (hb3.mono hbw2.size)
    have hb4 : Below w3.heap.size w3 (w3.alloc (.cells #[.slice (some ⟨A, 0, none⟩) 4 4, .slice p bs.length cap, .slice (some ⟨D, 0, none⟩) 4 4] 54)) := (Below.refl _ _).alloc (Nat.le_refl _) _
    have hps : Parts (w3.alloc (.cells #[.slice (some ⟨A, 0, none⟩) 4 4, .slice p bs.length cap, .slice (some ⟨D, 0, none⟩) 4 4] 54)) w3.heap.size 0 [⟨some ⟨A, 0, none⟩, Wire.four bs.length, 4, A, 0⟩, ⟨p, bs, cap, b, off⟩, ⟨some ⟨D, 0, none⟩, Wire.four c, 4, D, 0⟩] := by
      refine parts_row (Row.newAt w3 _ _ 54 rfl) ?_ ?_
      · intro x hx
        simp only [List.mem_cons, List.not_mem_nil, or_false] at hx
        rcases hx with rfl | rfl | rfl
        · exact Sl.below hx1 hb4
        · exact Sl.below hx2 hb4
        · exact Sl.below hx3 hb4
      · intro x hx
        simp only [List.mem_cons, List.not_mem_nil, or_false] at hx
        rcases hx with rfl | rfl | rfl
        · intro h; cases h
        · exact hno
        · intro h; cases h
    have eB : bytesOf [⟨some ⟨A, 0, none⟩, Wire.four bs.length, 4, A, 0⟩, ⟨p, bs, cap, b, off⟩, ⟨some ⟨D, 0, none⟩, Wire.four c, 4, D, 0⟩] = Wire.frame bs := by
      rw [← HF.out]; simp [bytesOf]
    have hfl := Wire.frame_length bs
    have hcc := concat_any _ w3.heap.size 0 3 _ hps (by simp) (by rw [eB]; omega) (by rw [eB]; omega)
    rw [eB] at hcc
    clear hD hx1 hx2 hx3 hps hx1' hx2' hr3 eB
    go_wp2_with fail
    refine hcc.mono ?_
    rintro e w5 ⟨v5, rfl, hown5, hb5⟩
    have hbw5 : Below w.heap.size w w5 := (hbw3.alloc hbw3.size _).trans (hb5.mono (by rw [World.size_alloc]; have := hbw3.size; omega))
    have hown5' := own_mono (B' := w.heap.size) hown5 (by rw [World.size_alloc]; have := hbw3.size; omega)
    have HOWN : Hid (w5.ownsRow w.heap.size 5 1 v5 (Wire.frame bs).length ((Wire.frame bs).map u8v)) := hown5'
    clear hcc hown5 hown5' hb5
    go_wp2
    go_ret2
    exact ⟨hbw5, .inr ⟨by omega, _, rfl, HOWN.out⟩⟩
end Go.Proofs.Ytjjofjnhhajjjaa.Nd
namespace Go.Proofs.Ytjjofjnhhajjjaa.Nd
open Go.RowKit
set_option maxHeartbeats 1000000 in
set_option maxRecDepth 100000 in
theorem next_any (bs : List Nat) (p : Option Addr) (cap b off : Nat) (w : World) (hsl : Sl w p bs cap b off) :
    Calls Try.prog 42 #[.slice p bs.length cap] w fun e w' => ∃ v, e = .returned (.tuple #[v, .int .i64 ((Wire.next bs).2.1 : Int), .int .i64 ((Wire.next bs).2.2 : Int)]) ∧ w'.ownsRow w.heap.size 5 1 v (Wire.next bs).1.length ((Wire.next bs).1.map u8v) ∧ Below w.heap.size w w' := by
  have k0 : (bs.length : Int) ≤ 9223372036854775807 := by have := hsl.cap1; have := hsl.cap2; omega
  by_cases h4 : bs.length < 4
  · have k1 : (bs.length : Int) < 4 := by omega
    have HN : Hid (Wire.next bs = ([], 0, 20)) := by show _ = _; unfold Wire.next; rw [if_pos h4]
    clear hsl
    go_enter Try.func42, Try.ntmps42
    go_wp2
    go_ret3
    rw [HN.out]
    exact ⟨_, rfl, World.ownsRow_nil _ _ _ _, Below.refl _ _⟩
  have k1 : (4 : Int) ≤ (bs.length : Int) := by omega
  have hva := value_any bs p cap b off w hsl (by omega)
  have hvl := Wire.val_lt hsl.lt
  obtain ⟨n, HV⟩ : ∃ n, Hid (n = Wire.val bs) := ⟨_, rfl⟩
  rw [← HV.out] at hva hvl
  have HSL : Hid (Sl w p bs cap b off) := hsl
  have hcap := hsl.cap1
  have hcap2 := hsl.cap2
  obtain rfl := hsl.at_ (by omega)
  clear hsl
  go_enter Try.func42, Try.ntmps42
  go_wp2_with fail
  refine hva.mono ?_
  rintro e w1 ⟨rfl, m1, hw1⟩
  have hb1 : Below w.heap.size w w1 := by rw [hw1]; exact below_drewN (Below.refl _ _) _
  have HS1 : Hid (w1.heap.size = w.heap.size) := by show _ = _; rw [hw1]; simp
  clear hw1 hva
  by_cases hbig : 262144 < n
  · have k2 : (262144 : Int) < (n : Int) := by omega
    have HN : Hid (Wire.next bs = ([], 0, 2)) := by show _ = _; unfold Wire.next; rw [if_neg h4, ← HV.out, if_pos hbig]
    go_wp2
    go_ret3
    rw [HN.out]
    exact ⟨_, rfl, World.ownsRow_nil _ _ _ _, hb1⟩
  have k2 : (n : Int) ≤ 262144 := by omega
  by_cases hsh : bs.length < n + 8
  · have k3 : (bs.length : Int) < (n : Int) + 8 := by omega
    have HN : Hid (Wire.next bs = ([], 0, 20)) := by show _ = _; unfold Wire.next; rw [if_neg h4, ← HV.out, if_neg hbig, if_pos hsh]
    go_wp2
    go_ret3
    rw [HN.out]
    exact ⟨_, rfl, World.ownsRow_nil _ _ _ _, hb1⟩
  have k3 : (n : Int) + 8 ≤ (bs.length : Int) := by omega
  have hS1 := slice_hi b off bs.length cap (n + 4) (by omega) (4 + (n : Int)) (by omega)
  have hS2 := slice_lo b off bs.length cap (n + 4) (by omega) hcap (4 + (n : Int)) (by omega)
  have hsl1 := HSL.out.below hb1
  have hsl1d : Sl w1.drew (some ⟨b, off, none⟩) bs cap b off := ⟨hsl1.lt, hsl1.cap1, hsl1.cap2, hsl1.at_, hsl1.src⟩
  have hb2 : Below w1.drew.heap.size w1.drew (w1.drew.alloc (.cells #[.slice (some ⟨b, off, none⟩) (n + 4) cap] 54)) := (Below.refl _ _).alloc (Nat.le_refl _) _
  have hp1 := hsl1d.part 0 (n + 4) cap (by omega) (by omega) hcap2
  have hp2 := hsl1d.part (n + 4) (bs.length - (n + 4)) (cap - (n + 4)) (by omega) (by omega) (by omega)
  rw [Nat.add_zero, List.drop_zero] at hp1
  have et : (bs.take (n + 4)).length = n + 4 := by simp; omega
  have ed : ((bs.drop (n + 4)).take (bs.length - (n + 4))) = bs.drop (n + 4) := List.take_of_length_le (by simp)
  have edl : (bs.drop (n + 4)).length = bs.length - (n + 4) := by simp
  rw [ed] at hp2
  have hps : Parts (w1.drew.alloc (.cells #[.slice (some ⟨b, off, none⟩) (n + 4) cap] 54)) w1.drew.heap.size 0 [⟨some ⟨b, off, none⟩, bs.take (n + 4), cap, b, off⟩] := by
    refine parts_row (by simpa [Part.val, et] using Row.newAt w1.drew _ [.slice (some ⟨b, off, none⟩) (n + 4) cap] 54 rfl) ?_ ?_
    · intro x hx
      simp only [List.mem_cons, List.not_mem_nil, or_false] at hx
      subst hx
      exact Sl.below hp1 hb2
    · intro x hx
      simp only [List.mem_cons, List.not_mem_nil, or_false] at hx
      subst hx
      intro h; cases h
  have hck := wcheck_any _ _ 0 1 _ hps (by simp)
  have eB : bytesOf [⟨some ⟨b, off, none⟩, bs.take (n + 4), cap, b, off⟩] = bs.take (n + 4) := by simp [bytesOf]
  rw [eB] at hck
  have hva := value_any _ _ _ _ _ _ (Sl.below hp2 hb2) (by rw [edl]; omega)
  rw [edl] at hva
  obtain ⟨c, HC⟩ : ∃ c, Hid (c = Wire.check (bs.take (n + 4))) := ⟨_, rfl⟩
  obtain ⟨x, HX⟩ : ∃ x, Hid (x = Wire.val (bs.drop (n + 4))) := ⟨_, rfl⟩
  rw [← HC.out] at hck
  rw [← HX.out] at hva
  have hcl : c < 4294967296 := by rw [HC.out]; exact Wire.check_lt (fun y hy => HSL.out.lt y (List.mem_of_mem_take hy))
  have hxl : x < 4294967296 := by rw [HX.out]; exact Wire.val_lt (fun y hy => HSL.out.lt y (List.mem_of_mem_drop hy))
  have e1 : w1.drew.heap.size = w1.heap.size := rfl
  rw [e1] at hck
  have HCK : Hid (Calls Try.prog 60 #[.slice (some ⟨w1.heap.size, 0, none⟩) 1 1] (w1.drew.alloc (.cells #[.slice (some ⟨b, off, none⟩) (n + 4) cap] 54)) fun e w' => e = .returned (.int .u32 (c : Int)) ∧ w' = (w1.drew.alloc (.cells #[.slice (some ⟨b, off, none⟩) (n + 4) cap] 54))) := hck
  have HVA : Hid (Calls Try.prog 59 #[.slice (some ⟨b, off + (n + 4), none⟩) (bs.length - (n + 4)) (cap - (n + 4))] (w1.drew.alloc (.cells #[.slice (some ⟨b, off, none⟩) (n + 4) cap] 54)) fun e w' => e = .returned (.int .u32 (x : Int)) ∧ ∃ m, w' = (w1.drew.alloc (.cells #[.slice (some ⟨b, off, none⟩) (n + 4) cap] 54)).drewN m) := hva
  have hbw2 : Below w.heap.size w (w1.drew.alloc (.cells #[.slice (some ⟨b, off, none⟩) (n + 4) cap] 54)) := (hb1.drew).alloc (by rw [e1, HS1.out]; exact Nat.le_refl _) _
  clear hck hva hps hp1 hp2 et ed edl eB hb2 hsl1 hsl1d e1
  go_wp2
  go_region_with (first | (go_at_call 60; refine HCK.out.mono ?_; rintro e wc ⟨rfl, rfl⟩) | (go_at_call 59; refine HVA.out.mono ?_; rintro e w2 ⟨rfl, m2, hw2⟩; have HW2 := hid_in hw2; clear hw2))
  have hb2 : Below w.heap.size w w2 := by rw [HW2.out]; exact below_drewN hbw2 _
  have HS2 : Hid (w.heap.size ≤ w2.heap.size) := hb2.size
  clear HW2 hbw2 HCK HVA hS1 hS2
  by_cases hcx : c = x
  · subst hcx
    have HN : Hid (Wire.next bs = ((bs.drop 4).take n, n + 8, 0)) := by
      show _ = _
      unfold Wire.next
      rw [if_neg h4, ← HV.out, if_neg hbig, if_neg hsh, ← HC.out, ← HX.out, if_neg (by simp)]
    have hS3 := slice_lohi b off bs.length cap 4 (n + 4) (by omega) (by omega) (by omega) 4 (4 + (n : Int)) rfl (by omega)
    rw [show n + 4 - 4 = n by omega] at hS3
    have hp := (HSL.out.below hb2).part 4 n (cap - 4) (by omega) (by omega) (by omega)
    have hpl : ((bs.drop 4).take n).length = n := by simp; omega
    have hcl2 := clone_any ((bs.drop 4).take n) (some ⟨b, off + 4, none⟩) (cap - 4) b (off + 4) w2 hp (fun h => by cases h) (by omega)
    rw [hpl] at hcl2
    have HP : Hid (((bs.drop 4).take n).length = n) := hpl
    clear hp hpl
    go_wp2_with fail
    refine hcl2.mono ?_
    rintro e w3 ⟨v3, rfl, hown3, hb3⟩
    have hown3' := own_mono (B' := w.heap.size) hown3 HS2.out
    have HOWN : Hid (w3.ownsRow w.heap.size 5 1 v3 n (((bs.drop 4).take n).map u8v)) := hown3'
    have hbw3 : Below w.heap.size w w3 := hb2.trans (hb3.mono HS2.out)
    clear hcl2 hown3 hown3' hb3
    go_wp2
    go_ret3
    rw [HN.out]
    refine ⟨_, by rw [show ((n + 8 : Nat) : Int) = 4 + (n : Int) + 4 by omega]; rfl, ?_, hbw3⟩
    simp only
    rw [HP.out]
    exact HOWN.out
  · have k4 : ¬ ((c : Int) = (x : Int)) := by omega
    have HN : Hid (Wire.next bs = ([], 0, 22)) := by
      show _ = _
      unfold Wire.next
      rw [if_neg h4, ← HV.out, if_neg hbig, if_neg hsh, ← HC.out, ← HX.out, if_pos hcx]
    go_wp2
    go_ret3
    rw [HN.out]
    exact ⟨_, rfl, World.ownsRow_nil _ _ _ _, hb2⟩
end Go.Proofs.Ytjjofjnhhajjjaa.Nd
namespace Go.Proofs.Ytjjofjnhhajjjaa.Nd.Wire
/-- the frames at the beginning: their payloads, how many bytes they have -/
def scanF : Nat → List Nat → List (List Nat) × Nat
  | 0, _ => ([], 0)
  | f + 1, b => if (next b).2.2 = 0 then ((next b).1 :: (scanF f (b.drop (next b).2.1)).1, (next b).2.1 + (scanF f (b.drop (next b).2.1)).2) else ([], 0)
def scan (b : List Nat) : List (List Nat) × Nat := scanF (b.length + 1) b
theorem next_ok {b : List Nat} (h : (next b).2.2 = 0) : (next b).2.1 = val b + 8 ∧ val b + 8 ≤ b.length ∧ (next b).1 = (b.drop 4).take (val b) ∧ val b ≤ 262144 := by
  unfold next at *
  split at h
  · simp at h
  · split at h
    · simp at h
    · split at h
      · simp at h
      · split at h
        · simp at h
        · rename_i h1 h2 h3 h4
          rw [if_neg h1, if_neg h2, if_neg h3, if_neg h4]
          exact ⟨rfl, by omega, rfl, by omega⟩
theorem scanF_fuel : ∀ (f f' : Nat) (b : List Nat), b.length < f → b.length < f' → scanF f b = scanF f' b
  | 0, _, _, h, _ => by omega
  | _, 0, _, _, h => by omega
  | f + 1, f' + 1, b, h, h' => by
    simp only [scanF]
    by_cases hn : (next b).2.2 = 0
    · rw [if_pos hn, if_pos hn]
      obtain ⟨e1, e2, _, _⟩ := next_ok hn
      rw [scanF_fuel f f' (b.drop (next b).2.1) (by simp; omega) (by simp; omega)]
    · rw [if_neg hn, if_neg hn]
theorem scan_ok {b : List Nat} (h : (next b).2.2 = 0) : scan b = ((next b).1 :: (scan (b.drop (next b).2.1)).1, (next b).2.1 + (scan (b.drop (next b).2.1)).2) := by
  obtain ⟨e1, e2, _, _⟩ := next_ok h
  conv => lhs; unfold scan
  simp only [scanF]
  rw [if_pos h, scanF_fuel b.length ((b.drop (next b).2.1).length + 1) _ (by simp; omega) (by omega)]
  rfl
theorem scan_bad {b : List Nat} (h : (next b).2.2 ≠ 0) : scan b = ([], 0) := by
  unfold scan
  simp only [scanF]
  rw [if_neg h]
/-- a frame that is cut off is none -/
theorem next_cut {p : List Nat} (hl : p.length ≤ 262144) (r : List Nat) (j : Nat) (hj : j < p.length + 8) : (next ((frame p ++ r).take j)).2.2 ≠ 0 := by
  have hlen : ((frame p ++ r).take j).length = j := by
    rw [List.length_take, List.length_append, frame_length]; omega
  unfold next
  by_cases h4 : j < 4
  · rw [hlen, if_pos h4]; simp
  · have hv : val ((frame p ++ r).take j) = p.length := by
      have h0 : val (frame p ++ r) = p.length := by
        unfold frame
        rw [List.append_assoc, List.append_assoc]
        exact val_four _ (by omega) _
      rw [← h0]
      unfold val
      simp only [List.getD_eq_getElem?_getD]
      rw [List.getElem?_take_of_lt (by omega), List.getElem?_take_of_lt (by omega), List.getElem?_take_of_lt (by omega), List.getElem?_take_of_lt (by omega)]
    rw [hlen, if_neg h4, hv, if_neg (by omega), if_pos hj]
    simp
/-- the bytes of frames one behind the other -/
def frames (ps : List (List Nat)) : List Nat := ps.flatMap frame
/-- how many bytes the first n frames have -/
def upto (ps : List (List Nat)) (n : Nat) : Nat := (frames (ps.take n)).length
theorem frames_cons (p : List Nat) (ps : List (List Nat)) : frames (p :: ps) = frame p ++ frames ps := by simp [frames]
theorem upto_zero (ps : List (List Nat)) : upto ps 0 = 0 := by simp [upto, frames]
theorem upto_cons (p : List Nat) (ps : List (List Nat)) (n : Nat) : upto (p :: ps) (n + 1) = p.length + 8 + upto ps n := by
  simp [upto, frames, frame_length]
/-- of frames that are cut anywhere just the whole ones are read -/
theorem scan_cut : ∀ (ps : List (List Nat)) (K n : Nat), (∀ p ∈ ps, p.length ≤ 262144 ∧ ∀ x ∈ p, x < 256) → n ≤ ps.length → upto ps n ≤ K → (n < ps.length → K < upto ps (n + 1)) → scan ((frames ps).take K) = (ps.take n, upto ps n)
  | [], K, n, _, hn, _, _ => by
    have : n = 0 := by simpa using hn
    subst this
    rw [upto_zero]
    simp only [frames, List.flatMap_nil, List.take_nil]
    exact scan_bad (by decide)
  | p :: ps, K, 0, hp, _, _, h2 => by
    have h2 := h2 (by simp)
    rw [upto_cons, upto_zero] at h2
    rw [frames_cons, upto_zero, List.take_zero]
    exact scan_bad (next_cut (hp p (by simp)).1 _ _ (by omega))
  | p :: ps, K, n + 1, hp, hn, h1, h2 => by
    obtain ⟨hpl, hpb⟩ := hp p (by simp)
    rw [upto_cons] at h1
    have hK : K = p.length + 8 + (K - (p.length + 8)) := by omega
    have e : (frames (p :: ps)).take K = frame p ++ (frames ps).take (K - (p.length + 8)) := by
      rw [frames_cons, List.take_append, frame_length, List.take_of_length_le (by rw [frame_length]; omega)]
    have hnx := next_frame hpb hpl ((frames ps).take (K - (p.length + 8)))
    have ih := scan_cut ps (K - (p.length + 8)) n (fun q hq => hp q (by simp [hq])) (by simpa using hn) (by omega) (fun hlt => by
      have := h2 (by simpa using hlt)
      rw [upto_cons] at this
      omega)
    rw [e, scan_ok (by rw [hnx]), hnx]
    simp only
    rw [List.drop_append_of_le_length (by rw [frame_length]; omega), List.drop_eq_nil_of_le (by rw [frame_length]; omega), List.nil_append, ih, upto_cons]
    rfl
end Go.Proofs.Ytjjofjnhhajjjaa.Nd.Wire
namespace Go.Proofs.Ytjjofjnhhajjjaa.Nd
open Go.RowKit
theorem i25 : (Try.prog.info? 54).map (fun i => (i.size, i.bytes, i.zero)) = some (1, 24, some (.slice none 0 0)) := by kernel_rfl
theorem i25h : ∃ i, Hid (Try.prog.info? 54 = some i) ∧ Hid (i.size = 1) ∧ Hid (i.bytes = 24) ∧ Hid (i.zero = some (.slice none 0 0)) := by
  obtain ⟨i, hi, he⟩ := Option.map_eq_some_iff.1 i25
  simp only [Prod.mk.injEq] at he
  obtain ⟨e1, e2, e3⟩ := he
  exact ⟨i, hi, e1, e2, e3⟩
theorem next_err' (b : List Nat) (h : (Wire.next b).2.2 ≠ 0) : (Wire.next b).2.1 = 0 ∧ (Wire.next b).1 = [] := by
  unfold Wire.next at *
  split
  · exact ⟨rfl, rfl⟩
  · split
    · exact ⟨rfl, rfl⟩
    · split
      · exact ⟨rfl, rfl⟩
      · split
        · exact ⟨rfl, rfl⟩
        · simp_all
/-- append of one value of whatever size in bytes, that was just laid into a block of its own; where the row then lies -/
theorem wpList_append_one_by {P : Program} {w : World} {ops : Array Oper} {rest : List Oper} {o : Oper} {a : Act} {Q : Exit → Act → World → Prop} (hgd : o.guard = none) (s x : Operand) (t : TypeId)
    (ho : o.op = .call { callee := .builtin .append, args := #[s, x], argTypes := #[t, t] })
    (base : Nat) (e : TypeId) (i : TypeInfo) (z : Value) (bytes : Nat) (ht : P.underlying t = some (.slice e)) (hi : P.info? e = some i) (hz : i.zero = some z)
    (hsize : i.size = 1) (hby : i.bytes = bytes) (hzs : z.cells.size = 1)
    (v : Value) (n : Nat) (xs : List Value) (hs : a.eval s = v) (hown : w.ownsRow base e 1 v n xs) (e' : TypeId) (u : Value) (hu : u.oneCell' = true)
    (hx : a.eval x = .slice (some ⟨w.heap.size, 0, none⟩) 1 1) (hmax : n + 1 ≤ 9223372036854775807) (hbytes : (n + 1) * bytes ≤ 140737488355328) (hbase : base ≤ w.heap.size)
    (h : ∀ v' w', w'.ownsRow base e 1 v' (n + 1) (xs ++ [u]) → Grew w w' (fun k => some k = v.ownBlock) → (v'.ownBlock = v.ownBlock ∨ ∃ q, v'.ownBlock = some q ∧ w.heap.size ≤ q) → wpList P ops Q rest (a.put o.dst v') w') : wpList P ops Q (o :: rest) a (w.alloc (.cells #[u] e')) := by
  have hs1 : base ≤ (w.alloc (.cells #[u] e')).heap.size := by rw [World.size_alloc]; omega
  refine wpList_append_own_at _ hgd s x t ho base e i z 1 bytes ht hi hz hsize hby hzs (by decide) v n xs hs (hown.alloc _) ⟨w.heap.size, 0, none⟩ 1 1 [u] hx rfl ?_ (fun v hv => by simp at hv; subst hv; exact hu) (by unfold maxLen; omega) hbytes hs1 ?_
  · intro j u' hj
    have h0 : j = 0 := by have := (List.getElem?_eq_some_iff.1 hj).1; simp at this; omega
    subst h0
    rw [Addr.add_mid, (Row.newAt w w.heap.size [u] e' rfl).cell]
    exact hj
  · intro v' w' h2 h3 _ h5
    refine h v' w' h2 ?_ ?_
    · exact (Grew.of_below _ ((Below.refl w.heap.size w).alloc (Nat.le_refl _) _)).trans (Grew.of_grown h3) (fun q _ hq => hq)
    · rcases h5 with h5 | h5
      · exact .inl h5
      · exact .inr ⟨_, h5, by rw [World.size_alloc]; omega⟩
theorem own_sl2 {w : World} {B : Nat} {v : Value} {xs : List Nat} (hlt : ∀ x ∈ xs, x < 256) (h : w.ownsRow B 5 1 v xs.length (xs.map u8v)) : ∃ p cap b, v = .slice p xs.length cap ∧ Sl w p xs cap b 0 ∧ (p = none → xs.length = 0 ∧ cap = 0) ∧ (0 < xs.length → B ≤ b) := by
  by_cases h0 : 0 < xs.length
  · obtain ⟨g, cap, vs, hv, hb, hglt, hr, h1, h2, h3, h4⟩ := own_row h h0
    exact ⟨_, cap, g, hv, row_sl hr h4 (Nat.le_refl _) hlt h1 h2, fun h => (by cases h), fun _ => hb⟩
  · obtain ⟨p, cap, b, h1, h2, h3⟩ := own_sl hlt h
    exact ⟨p, cap, b, h1, h2, h3, fun h => absurd h h0⟩
theorem slice_from (p : Option Addr) (b o L C n : Nat) (h1 : n ≤ L) (h2 : L ≤ C) (hp : 0 < L → p = some ⟨b, o, none⟩) : ∃ q, (n < L → q = some ⟨b, o + n, none⟩) ∧ ∀ w, (Instr.slice 54 (.slice p L C) (some (.int .i64 (n : Int))) none none).run Try.prog w = .ok (.slice q (L - n) (C - n)) w := by
  have ht : Try.prog.underlying 54 = some (.slice (Try.prog.elem 54)) := by kernel_rfl
  have he : Try.prog.elem 54 = 5 := by kernel_rfl
  by_cases h0 : 0 < L
  · obtain rfl := hp h0
    refine ⟨some (if C = n then ⟨b, o, none⟩ else ⟨b, o + n, none⟩), fun h => by rw [if_neg (by omega)], fun w => ?_⟩
    have hsz : (sizeOf 5).run Try.prog w = .ok 1 w := by kernel_rfl
    rw [run_slice_l w 54 (some ⟨b, o, none⟩) L C ht .i64 (n : Int) (by omega) (by omega), he, hsz]
    simp [sliced, Addr.add_mid]
    split <;> rfl
  · obtain rfl : L = 0 := by omega
    obtain rfl : n = 0 := by omega
    cases p with
    | none =>
      refine ⟨none, fun h => by omega, fun w => ?_⟩
      have hsz : (sizeOf 5).run Try.prog w = .ok 1 w := by kernel_rfl
      rw [run_slice_l w 54 none 0 C ht .i64 ((0 : Nat) : Int) (by omega) (by omega), he, hsz]
      simp [sliced]
    | some a =>
      refine ⟨some (if C = 0 then a else a.add 0), fun h => by omega, fun w => ?_⟩
      have hsz : (sizeOf 5).run Try.prog w = .ok 1 w := by kernel_rfl
      rw [run_slice_l w 54 (some a) 0 C ht .i64 ((0 : Nat) : Int) (by omega) (by omega), he, hsz]
      simp [sliced]
      split <;> rfl
end Go.Proofs.Ytjjofjnhhajjjaa.Nd
