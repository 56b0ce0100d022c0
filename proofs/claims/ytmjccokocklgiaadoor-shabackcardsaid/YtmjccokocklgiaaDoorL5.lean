/-
  The walk of the statement ShaOrder.
-/
import Derived.Test.YtmjccokocklgiaaDoorW12
import Derived.Test.YtmjccokocklgiaaDoorSlc
import Derived.Lib.Strings
namespace Go.Proofs.YtmjccokocklgiaaDoor
open Go.RowKit

theorem cmp_swap : ∀ (a b : List Nat), cmpN b a = 0 - cmpN a b
  | [], [] => rfl
  | [], _ :: _ => rfl
  | _ :: _, [] => rfl
  | x :: a, y :: b => by
    simp only [cmpN]
    have := cmp_swap a b
    by_cases h1 : x < y
    · rw [if_neg (by omega), if_pos h1, if_pos h1]; rfl
    · by_cases h2 : y < x
      · rw [if_pos h2, if_neg h1, if_pos h2]; rfl
      · rw [if_neg h2, if_neg h1, if_neg h1, if_neg h2]; exact this
theorem cmp_range : ∀ (a b : List Nat), -1 ≤ cmpN a b ∧ cmpN a b ≤ 1
  | [], [] => by simp [cmpN]
  | [], _ :: _ => by simp [cmpN]
  | _ :: _, [] => by simp [cmpN]
  | x :: a, y :: b => by
    have := cmp_range a b
    simp only [cmpN]
    split
    · omega
    · split <;> omega
theorem cmp_zero : ∀ (a b : List Nat), cmpN a b = 0 ↔ a = b
  | [], [] => by simp [cmpN]
  | [], _ :: _ => by simp [cmpN]
  | _ :: _, [] => by simp [cmpN]
  | x :: a, y :: b => by
    have := cmp_zero a b
    simp only [cmpN, List.cons.injEq]
    by_cases h1 : x < y
    · rw [if_pos h1]; constructor
      · intro h; omega
      · rintro ⟨rfl, _⟩; omega
    · by_cases h2 : y < x
      · rw [if_neg h1, if_pos h2]; constructor
        · intro h; omega
        · rintro ⟨rfl, _⟩; omega
      · rw [if_neg h1, if_neg h2, this]
        constructor
        · intro h; exact ⟨by omega, h⟩
        · exact fun h => h.2
theorem hexdig_mono (m n : Nat) (hm : m < 16) (hn : n < 16) : Sha.hexdig m < Sha.hexdig n ↔ m < n := by
  unfold Sha.hexdig; split <;> split <;> omega
theorem hexdig_inj (m n : Nat) (hm : m < 16) (hn : n < 16) : Sha.hexdig m = Sha.hexdig n ↔ m = n := by
  unfold Sha.hexdig; split <;> split <;> omega
theorem ofNat_inj (x y : Nat) (hx : x < 256) (hy : y < 256) : UInt8.ofNat x = UInt8.ofNat y ↔ x = y := by
  rw [← UInt8.toNat_inj]; simp [UInt8.toNat_ofNat']; omega
theorem hexu_lt (m n : Nat) (hm : m < 16) (hn : n < 16) : UInt8.ofNat (Sha.hexdig m) < UInt8.ofNat (Sha.hexdig n) ↔ m < n := by
  rw [ofNat_lt _ _ (hexdig_lt m hm) (hexdig_lt n hn), hexdig_mono m n hm hn]
theorem hexu_inj (m n : Nat) (hm : m < 16) (hn : n < 16) : UInt8.ofNat (Sha.hexdig m) = UInt8.ofNat (Sha.hexdig n) ↔ m = n := by
  rw [ofNat_inj _ _ (hexdig_lt m hm) (hexdig_lt n hn), hexdig_inj m n hm hn]
theorem less_hex : ∀ (a b : List Nat), (∀ x ∈ a, x < 256) → (∀ x ∈ b, x < 256) → a.length = b.length → Op.bytesLess ((Sha.hex a).map UInt8.ofNat) ((Sha.hex b).map UInt8.ofNat) = decide (cmpN a b < 0)
  | [], [], _, _, _ => rfl
  | [], _ :: _, _, _, h => by simp at h
  | _ :: _, [], _, _, h => by simp at h
  | x :: a, y :: b, ha, hb, hl => by
    have ih := less_hex a b (fun z hz => ha z (by simp [hz])) (fun z hz => hb z (by simp [hz])) (by simpa using hl)
    have hx := ha x (by simp)
    have hy := hb y (by simp)
    have e1 : Sha.hex (x :: a) = Sha.hexdig (x / 16) :: Sha.hexdig (x % 16) :: Sha.hex a := rfl
    have e2 : Sha.hex (y :: b) = Sha.hexdig (y / 16) :: Sha.hexdig (y % 16) :: Sha.hex b := rfl
    rw [e1, e2, Bool.eq_iff_iff, decide_eq_true_eq]
    simp only [List.map_cons, Op.bytesLess, ih, cmpN, Bool.or_eq_true, Bool.and_eq_true, decide_eq_true_eq, beq_iff_eq, hexu_lt _ _ (show x / 16 < 16 by omega) (show y / 16 < 16 by omega), hexu_lt _ _ (show x % 16 < 16 by omega) (show y % 16 < 16 by omega), hexu_inj _ _ (show x / 16 < 16 by omega) (show y / 16 < 16 by omega), hexu_inj _ _ (show x % 16 < 16 by omega) (show y % 16 < 16 by omega)]
    by_cases h1 : x < y
    · rw [if_pos h1]; constructor
      · intro _; omega
      · intro _
        by_cases h : x / 16 < y / 16
        · exact Or.inl h
        · exact Or.inr ⟨by omega, Or.inl (by omega)⟩
    · by_cases h2 : y < x
      · rw [if_neg h1, if_pos h2]; constructor
        · rintro (h | ⟨h, h' | ⟨h', _⟩⟩) <;> omega
        · intro h; omega
      · rw [if_neg h1, if_neg h2]
        have : x = y := by omega
        subst this
        simp
theorem hex_inj : ∀ (a b : List Nat), (∀ x ∈ a, x < 256) → (∀ x ∈ b, x < 256) → (Sha.hex a).map UInt8.ofNat = (Sha.hex b).map UInt8.ofNat → a = b
  | [], [], _, _, _ => rfl
  | [], _ :: _, _, _, h => by simp [Sha.hex, Sha.hx] at h
  | _ :: _, [], _, _, h => by simp [Sha.hex, Sha.hx] at h
  | x :: a, y :: b, ha, hb, h => by
    have hx := ha x (by simp)
    have hy := hb y (by simp)
    have e1 : Sha.hex (x :: a) = Sha.hexdig (x / 16) :: Sha.hexdig (x % 16) :: Sha.hex a := rfl
    have e2 : Sha.hex (y :: b) = Sha.hexdig (y / 16) :: Sha.hexdig (y % 16) :: Sha.hex b := rfl
    rw [e1, e2] at h
    simp only [List.map_cons, List.cons.injEq, hexu_inj _ _ (show x / 16 < 16 by omega) (show y / 16 < 16 by omega), hexu_inj _ _ (show x % 16 < 16 by omega) (show y % 16 < 16 by omega)] at h
    rw [hex_inj a b (fun z hz => ha z (by simp [hz])) (fun z hz => hb z (by simp [hz])) h.2.2, show x = y by omega]
theorem str_toList (l : List Nat) : (str l).toList = l.map UInt8.ofNat := by rw [Lib.toList_data]; simp [str]
theorem less_str (a b : List Nat) (ha : ∀ x ∈ a, x < 256) (hb : ∀ x ∈ b, x < 256) (hl : a.length = b.length) : Op.bytesLess (str (Sha.hex a)).toList (str (Sha.hex b)).toList = decide (cmpN a b < 0) := by
  rw [str_toList, str_toList]; exact less_hex a b ha hb hl
theorem eq_str (a b : List Nat) (ha : ∀ x ∈ a, x < 256) (hb : ∀ x ∈ b, x < 256) : ((str (Sha.hex a)).toList == (str (Sha.hex b)).toList) = decide (cmpN a b = 0) := by
  rw [str_toList, str_toList, Bool.eq_iff_iff]
  simp only [beq_iff_eq, decide_eq_true_eq, cmp_zero]
  exact ⟨hex_inj a b ha hb, fun h => by rw [h]⟩

theorem below_new {w w' : World} {o : Obj} (h : (w.alloc o).grownBy w' (some w.heap.size)) : Below w.heap.size w w' :=
  below_of_grown ((Below.refl _ _).alloc (Nat.le_refl _) _) h (by simp) (Nat.le_refl _)

set_option maxHeartbeats 400000 in
set_option maxRecDepth 100000 in
theorem order_any (xs ys : List Nat) (p q : Option Addr) (ca cb b1 o1 b2 o2 : Nat) (w : World) (htab : Tab w) (h1 : Sl w p xs ca b1 o1) (h2 : Sl w q ys cb b2 o2) :
    Calls Tryd.prog 7 #[.slice p xs.length ca, .slice q ys.length cb] w fun e w' => e = .returned (.bool true) ∧ Below w.heap.size w w' := by
  have hpos := htab.pos
  go_enter Tryd.func7, Tryd.ntmps7
  go_wp2_with fail
  refine (awake_any w htab).mono ?_
  rintro e w1 ⟨rfl, hb1⟩
  have h1' := h1.below hb1
  have h2' := h2.below hb1
  go_wp2_with fail
  refine (fold_any xs p b1 o1 ca w1 (by have := h1.cap1; have := h1.cap2; omega) h1'.at_ h1'.src).mono ?_
  rintro e w2 ⟨rfl, hb2⟩
  have hbw2 : Below w.heap.size w w2 := hb1.trans (hb2.mono hb1.size)
  have h2'' := h2'.below hb2
  have hxl := fold_length xs
  have hxb := fold_lt xs h1.lt
  generalize fold xs = X at hxl hxb ⊢
  clear h1 h1' h2 h2' hb1 hb2
  go_wp2_with (first | (refine wpList_store_Row rfl 25 _ _ rfl w2.heap.size 0 (X.map u8v) rfl rfl 25 ((List.replicate 32 0).map u8v) (Row.newAt w2 _ _ 25 rfl) 32 info25 (by simpa using hxl) (by simp) (one_u8 X) ?_; intro w3 hrx hg3 hs3))
  rw [splice_all _ _ (by simpa using hxl)] at hrx
  have hb3 := below_new hg3
  have h2 := h2''.below hb3
  have hbw3 : Below w.heap.size w w3 := hbw2.trans (hb3.mono hbw2.size)
  obtain ⟨gx, hgx⟩ : ∃ gx, gx = w2.heap.size := ⟨_, rfl⟩
  rw [← hgx] at hrx ⊢
  clear h2'' hg3 hs3 hb3 hbw2 hgx
  refine (fold_any ys q b2 o2 cb w3 (by have := h2.cap1; have := h2.cap2; omega) h2.at_ h2.src).mono ?_
  rintro e w4 ⟨rfl, hb4⟩
  have hbw4 : Below w.heap.size w w4 := hbw3.trans (hb4.mono hbw3.size)
  have hrx4 := hrx.below hb4 hrx.lt
  have hyl := fold_length ys
  have hyb := fold_lt ys h2.lt
  generalize fold ys = Y at hyl hyb ⊢
  clear h2 hbw3 hb4 hrx
  go_wp2_with (first | (refine wpList_store_Row rfl 25 _ _ rfl w4.heap.size 0 (Y.map u8v) rfl rfl 25 ((List.replicate 32 0).map u8v) (Row.newAt w4 _ _ 25 rfl) 32 info25 (by simpa using hyl) (by simp) (one_u8 Y) ?_; intro w5 hry hg5 hs5; rw [splice_all _ _ (by simpa using hyl)] at hry; have hb5 := below_new hg5; have hrx5 := hrx4.below hb5 hrx4.lt; clear hg5 hs5) | (refine wpList_load_Row rfl 25 _ rfl gx rfl 25 _ hrx5 _ Tryd.underlying25 rfl 32 info25 (by simpa using hxl) ?_) | (refine wpList_load_Row rfl 25 _ rfl w4.heap.size rfl 25 _ hry _ Tryd.underlying25 rfl 32 info25 (by simpa using hyl) ?_))
  have hbw5 : Below w.heap.size w w5 := hbw4.trans (hb5.mono hbw4.size)
  obtain ⟨gy, hgy⟩ : ∃ gy, gy = w4.heap.size := ⟨_, rfl⟩
  rw [← hgy] at hry ⊢
  clear hrx4 hbw4 hgy
  obtain ⟨n, HN, hn1, hn2⟩ : ∃ n, Hid (n = cmpN X Y) ∧ -1 ≤ n ∧ n ≤ 1 := ⟨_, rfl, (cmp_range X Y).1, (cmp_range X Y).2⟩
  refine (compare_any X Y hxb hyb hxl hyl w5).mono ?_
  rintro e w6 ⟨rfl, hb6⟩
  rw [← HN.out]
  have hrx6 := hrx5.below hb6 hrx5.lt
  have hry6 := hry.below hb6 hry.lt
  have hbw6 : Below w.heap.size w w6 := hbw5.trans (hb6.mono hbw5.size)
  clear hrx5 hry hb6 hb5 hbw5
  go_wp2_with (first | (refine wpList_load_Row rfl 25 _ rfl gx rfl 25 _ hrx6 _ Tryd.underlying25 rfl 32 info25 (by simpa using hxl) ?_))
  refine (hex_any X hxl hxb w6).mono ?_
  rintro e w7 ⟨rfl, hb7⟩
  have hrx7 := hrx6.below hb7 hrx6.lt
  have hry7 := hry6.below hb7 hry6.lt
  have hbw7 : Below w.heap.size w w7 := hbw6.trans (hb7.mono hbw6.size)
  clear hrx6 hry6 hb7 hbw6
  obtain ⟨s, HS⟩ : ∃ s, Hid (s = str (Sha.hex X)) := ⟨_, rfl⟩
  rw [← HS.out]
  go_wp2_with (first | (refine wpList_load_Row rfl 25 _ rfl gy rfl 25 _ hry7 _ Tryd.underlying25 rfl 32 info25 (by simpa using hyl) ?_))
  refine (hex_any Y hyl hyb w7).mono ?_
  rintro e w8 ⟨rfl, hb8⟩
  have hrx8 := hrx7.below hb8 hrx7.lt
  have hry8 := hry7.below hb8 hry7.lt
  have hbw8 : Below w.heap.size w w8 := hbw7.trans (hb8.mono hbw7.size)
  clear hrx7 hry7 hb8 hbw7
  obtain ⟨t, HT⟩ : ∃ t, Hid (t = str (Sha.hex Y)) := ⟨_, rfl⟩
  rw [← HT.out]
  have hless : Op.bytesLess s.toList t.toList = decide (n < 0) := by rw [HS.out, HT.out, HN.out]; exact less_str X Y hxb hyb (by omega)
  have heq : (s.toList == t.toList) = decide (n = 0) := by rw [HS.out, HT.out, HN.out]; exact eq_str X Y hxb hyb
  go_wp2_with (first | (refine wpList_load_Row rfl 25 _ rfl gx rfl 25 _ hrx8 _ Tryd.underlying25 rfl 32 info25 (by simpa using hxl) ?_) | (refine wpList_load_Row rfl 25 _ rfl gy rfl 25 _ hry8 _ Tryd.underlying25 rfl 32 info25 (by simpa using hyl) ?_))
  refine (rcompare_any X Y hxl hyl w8).mono ?_
  rintro e w9 ⟨rfl, hb9⟩
  rw [← HN.out]
  have hrx9 := hrx8.below hb9 hrx8.lt
  have hry9 := hry8.below hb9 hry8.lt
  have hbw9 : Below w.heap.size w w9 := hbw8.trans (hb9.mono hbw8.size)
  clear hrx8 hry8 hb9 hbw8
  go_wp2_with (first | (refine wpList_load_RowG rfl 25 _ rfl gx rfl 25 _ hrx9 _ Tryd.underlying25 rfl 32 info25 (by simpa using hxl) ?_) | (refine wpList_load_RowG rfl 25 _ rfl gy rfl 25 _ hry9 _ Tryd.underlying25 rfl 32 info25 (by simpa using hyl) ?_))
  refine (compare_any Y X hyb hxb hyl hxl w9).mono ?_
  rintro e w10 ⟨rfl, hb10⟩
  have hbw10 : Below w.heap.size w w10 := hbw9.trans (hb10.mono hbw9.size)
  rw [cmp_swap X Y, ← HN.out]
  clear HN HS HT hrx9 hry9 hb10 hbw9 hxb hyb hxl hyl
  have hcase : n = -1 ∨ n = 0 ∨ n = 1 := by omega
  rcases hcase with rfl | rfl | rfl
  · have k1 : Op.bytesLess s.toList t.toList = true := hless.trans rfl
    have k2 : (s.toList == t.toList) = false := heq.trans rfl
    clear hless heq
    go_wp2
    go_ret
    exact ⟨rfl, hbw10⟩
  · have k1 : Op.bytesLess s.toList t.toList = false := hless.trans rfl
    have k2 : (s.toList == t.toList) = true := heq.trans rfl
    clear hless heq
    go_wp2
    go_ret
    exact ⟨rfl, hbw10⟩
  · have k1 : Op.bytesLess s.toList t.toList = false := hless.trans rfl
    have k2 : (s.toList == t.toList) = false := heq.trans rfl
    clear hless heq
    go_wp2
    go_ret
    exact ⟨rfl, hbw10⟩
end Go.Proofs.YtmjccokocklgiaaDoor
