/-
  The walks of wire.Frame and wire.Next.
-/
import Derived.Test.YtjaplfdcdokhfaaS4
namespace Go.Proofs.Ytjaplfdcdokhfaa
open Go.RowKit

theorem parts_row {w : World} {pb : Nat} {ps : List Part} {t : TypeId} (h : Row w pb (ps.map Part.val) t) (hok : ∀ x ∈ ps, x.ok w) (hno : ∀ x ∈ ps, x.p = none → x.bs.length = 0 ∧ x.cap = 0) : Parts w pb 0 ps :=
  ⟨fun i x hx => by rw [Nat.zero_add, h.cell]; simp [hx], hok, hno⟩
theorem row_sl0 {w : World} {g : Nat} {xs : List Nat} (hr : Row w g (xs.map u8v) 5) (hlt : ∀ x ∈ xs, x < 256) (h2 : xs.length ≤ 9223372036854775807) : Sl w (some ⟨g, 0, none⟩) xs xs.length g 0 :=
  row_sl hr (List.take_of_length_le (by simp)) (Nat.le_refl _) hlt (Nat.le_refl _) h2

theorem own_mono {w : World} {B B' n : Nat} {v : Value} {xs : List Value} (h : w.ownsRow B 5 1 v n xs) (hb : B' ≤ B) : w.ownsRow B' 5 1 v n xs := by
  obtain ⟨h1, h2 | ⟨g, cap, cur, hv, hB, r⟩⟩ := h
  · exact ⟨h1, .inl h2⟩
  · exact ⟨h1, .inr ⟨g, cap, cur, hv, Nat.le_trans hb hB, r⟩⟩

set_option maxHeartbeats 1000000 in
theorem frame_any (bs : List Nat) (p : Option Addr) (cap b off : Nat) (w : World) (hsl : Sl w p bs cap b off) (hno : p = none → bs.length = 0 ∧ cap = 0) :
    Calls Try.prog 26 #[.slice p bs.length cap] w fun e w' => Below w.heap.size w w' ∧
      ((262144 < bs.length ∧ e = .returned (.tuple #[.slice none 0 0, .int .i64 2])) ∨
       (bs.length ≤ 262144 ∧ ∃ v, e = .returned (.tuple #[v, .int .i64 0]) ∧ w'.ownsRow w.heap.size 5 1 v (Wire.frame bs).length ((Wire.frame bs).map u8v))) := by
  have k0 : (bs.length : Int) ≤ 9223372036854775807 := by have := hsl.cap1; have := hsl.cap2; omega
  by_cases hL : 262144 < bs.length
  · have k1 : (262144 : Int) < (bs.length : Int) := by omega
    clear hsl
    go_enter Try.func26, Try.ntmps26
    go_wp2
    go_ret2
    exact ⟨Below.refl _ _, .inl ⟨hL, rfl⟩⟩
  · have k1 : (bs.length : Int) ≤ 262144 := by omega
    have HSL : Hid (Sl w p bs cap b off) := hsl
    clear hsl
    go_enter Try.func26, Try.ntmps26
    go_wp2_with fail
    refine (word_any bs.length (by omega) w).mono ?_
    rintro e w1 ⟨rfl, hw1⟩
    have hb1 : Below w.heap.size w w1 := by rw [hw1]; exact (Below.refl _ _).alloc (Nat.le_refl _) _
    have hr1 : Row w1 w.heap.size ((Wire.four bs.length).map u8v) 5 := by rw [hw1]; exact Row.newAt w _ _ 5 rfl
    have hs1 : w1.heap.size = w.heap.size + 1 := by rw [hw1]; simp
    have HS1 : Hid (w1.heap.size = w.heap.size + 1) := hs1
    have hsl1 := HSL.out.below hb1
    clear hw1 hs1
    obtain ⟨A, hA⟩ : ∃ A, A = w.heap.size := ⟨_, rfl⟩
    rw [← hA] at hr1 ⊢
    have HA : Hid (A = w.heap.size) := hA
    clear hA
    have hx1 : Part.ok w1 ⟨some ⟨A, 0, none⟩, Wire.four bs.length, 4, A, 0⟩ := row_sl0 hr1 (Wire.four_lt _) (by simp [Wire.four_length])
    have hx2 : Part.ok w1 ⟨p, bs, cap, b, off⟩ := hsl1
    have hb2 : Below w1.heap.size w1 (w1.alloc (.cells #[.slice (some ⟨A, 0, none⟩) 4 4, .slice p bs.length cap] 25)) := (Below.refl _ _).alloc (Nat.le_refl _) _
    have hps : Parts (w1.alloc (.cells #[.slice (some ⟨A, 0, none⟩) 4 4, .slice p bs.length cap] 25)) w1.heap.size 0 [⟨some ⟨A, 0, none⟩, Wire.four bs.length, 4, A, 0⟩, ⟨p, bs, cap, b, off⟩] := by
      refine parts_row (Row.newAt w1 _ _ 25 rfl) ?_ ?_
      · intro x hx
        simp only [List.mem_cons, List.not_mem_nil, or_false] at hx
        rcases hx with rfl | rfl
        · exact Sl.below hx1 hb2
        · exact Sl.below hx2 hb2
      · intro x hx
        simp only [List.mem_cons, List.not_mem_nil, or_false] at hx
        rcases hx with rfl | rfl
        · intro h; cases h
        · exact hno
    have hck := check_any _ w1.heap.size 0 2 _ hps (by simp)
    have eB : bytesOf [⟨some ⟨A, 0, none⟩, Wire.four bs.length, 4, A, 0⟩, ⟨p, bs, cap, b, off⟩] = Wire.four bs.length ++ bs := by simp [bytesOf]
    rw [eB] at hck
    go_wp2_with fail
    refine hck.mono ?_
    rintro e w2 ⟨rfl, hw2⟩
    have hb2' : Below w1.heap.size w1 w2 := by rw [hw2]; exact hb2
    have hx1' : Part.ok w2 ⟨some ⟨A, 0, none⟩, Wire.four bs.length, 4, A, 0⟩ := Sl.below hx1 hb2'
    have hx2' : Part.ok w2 ⟨p, bs, cap, b, off⟩ := Sl.below hx2 hb2'
    have hbw2 : Below w.heap.size w w2 := hb1.trans (hb2'.mono hb1.size)
    have hin : ∀ x ∈ Wire.four bs.length ++ bs, x < 256 := by
      intro x hx
      rcases List.mem_append.1 hx with hx | hx
      · exact Wire.four_lt _ x hx
      · exact HSL.out.lt x hx
    have hcl := Wire.check_lt hin
    obtain ⟨c, HC⟩ : ∃ c, Hid (c = Wire.check (Wire.four bs.length ++ bs)) := ⟨_, rfl⟩
    rw [← HC.out] at hcl ⊢
    have hF : Wire.four bs.length ++ bs ++ Wire.four c = Wire.frame bs := by rw [HC.out]; rfl
    have HF : Hid (Wire.four bs.length ++ bs ++ Wire.four c = Wire.frame bs) := hF
    clear hck hps hb2 hw2 hx1 hx2 hsl1 hr1 hb1 HS1 hb2' hF eB hin
    go_wp2_with fail
    refine (word_any c hcl w2).mono ?_
    rintro e w3 ⟨rfl, hw3⟩
    have hb3 : Below w2.heap.size w2 w3 := by rw [hw3]; exact (Below.refl _ _).alloc (Nat.le_refl _) _
    have hr3 : Row w3 w2.heap.size ((Wire.four c).map u8v) 5 := by rw [hw3]; exact Row.newAt w2 _ _ 5 rfl
    clear hw3
    obtain ⟨D, hD⟩ : ∃ D, D = w2.heap.size := ⟨_, rfl⟩
    rw [← hD] at hr3 ⊢
    have hx1 : Part.ok w3 ⟨some ⟨A, 0, none⟩, Wire.four bs.length, 4, A, 0⟩ := Sl.below hx1' hb3
    have hx2 : Part.ok w3 ⟨p, bs, cap, b, off⟩ := Sl.below hx2' hb3
    have hx3 : Part.ok w3 ⟨some ⟨D, 0, none⟩, Wire.four c, 4, D, 0⟩ := row_sl0 hr3 (Wire.four_lt _) (by simp [Wire.four_length])
    have hbw3 : Below w.heap.size w w3 := hbw2.trans (hb3.mono hbw2.size)
    have hb4 : Below w3.heap.size w3 (w3.alloc (.cells #[.slice (some ⟨A, 0, none⟩) 4 4, .slice p bs.length cap, .slice (some ⟨D, 0, none⟩) 4 4] 25)) := (Below.refl _ _).alloc (Nat.le_refl _) _
    have hps : Parts (w3.alloc (.cells #[.slice (some ⟨A, 0, none⟩) 4 4, .slice p bs.length cap, .slice (some ⟨D, 0, none⟩) 4 4] 25)) w3.heap.size 0 [⟨some ⟨A, 0, none⟩, Wire.four bs.length, 4, A, 0⟩, ⟨p, bs, cap, b, off⟩, ⟨some ⟨D, 0, none⟩, Wire.four c, 4, D, 0⟩] := by
      refine parts_row (Row.newAt w3 _ _ 25 rfl) ?_ ?_
      · intro x hx
        simp only [List.mem_cons, List.not_mem_nil, or_false] at hx
        rcases hx with rfl | rfl | rfl
        · exact Sl.below hx1 hb4
        · exact Sl.below hx2 hb4
        · exact Sl.below hx3 hb4
      · intro x hx
        simp only [List.mem_cons, List.not_mem_nil, or_false] at hx
        rcases hx with rfl | rfl | rfl
        · intro h; cases h
        · exact hno
        · intro h; cases h
    have eB : bytesOf [⟨some ⟨A, 0, none⟩, Wire.four bs.length, 4, A, 0⟩, ⟨p, bs, cap, b, off⟩, ⟨some ⟨D, 0, none⟩, Wire.four c, 4, D, 0⟩] = Wire.frame bs := by
      rw [← HF.out]; simp [bytesOf]
    have hfl := Wire.frame_length bs
    have hcc := concat_any _ w3.heap.size 0 3 _ hps (by simp) (by rw [eB]; omega) (by rw [eB]; omega)
    rw [eB] at hcc
    clear hD hx1 hx2 hx3 hps hx1' hx2' hr3 eB
    go_wp2_with fail
    refine hcc.mono ?_
    rintro e w5 ⟨v5, rfl, hown5, hb5⟩
    have hbw5 : Below w.heap.size w w5 := (hbw3.alloc hbw3.size _).trans (hb5.mono (by rw [World.size_alloc]; have := hbw3.size; omega))
    have hown5' := own_mono (B' := w.heap.size) hown5 (by rw [World.size_alloc]; have := hbw3.size; omega)
    have HOWN : Hid (w5.ownsRow w.heap.size 5 1 v5 (Wire.frame bs).length ((Wire.frame bs).map u8v)) := hown5'
    clear hcc hown5 hown5' hb5
    go_wp2
    go_ret2
    exact ⟨hbw5, .inr ⟨by omega, _, rfl, HOWN.out⟩⟩
end Go.Proofs.Ytjaplfdcdokhfaa
