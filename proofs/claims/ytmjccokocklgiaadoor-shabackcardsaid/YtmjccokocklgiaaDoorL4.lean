/-
  The walk of the statement ShaBack.
-/
import Derived.Test.YtmjccokocklgiaaDoorW14
import Derived.Test.YtmjccokocklgiaaDoorEq25
import Derived.Test.YtmjccokocklgiaaDoorSlc
import Derived.Test.YtmjccokocklgiaaDoorL5
namespace Go.Proofs.YtmjccokocklgiaaDoor
open Go.RowKit

theorem bytesS_str (l : List Nat) (h : ∀ x ∈ l, x < 256) : bytesS (str l) = l := by
  unfold bytesS str
  simp only [List.map_map]
  refine (List.map_congr_left fun x hx => ?_).trans (List.map_id l)
  simp only [Function.comp, id]
  have := h x hx
  simp [UInt8.toNat_ofNat']
  omega
theorem uval_hexdig (n : Nat) (h : n < 16) : Sha.uval (Sha.hexdig n) = some n := by
  unfold Sha.uval Sha.hexdig
  by_cases h1 : n < 10
  · rw [if_pos h1, if_pos (by omega)]; simp
  · rw [if_neg h1, if_neg (by omega), if_pos (by omega)]; simp
theorem hexdig_uval (c n : Nat) (h : Sha.uval c = some n) : c = Sha.hexdig n := by
  unfold Sha.uval at h
  unfold Sha.hexdig
  split at h
  · cases h; rw [if_pos (by omega)]; omega
  · split at h
    · cases h; rw [if_neg (by omega)]; omega
    · cases h
theorem hex_at : ∀ (X : List Nat) (i : Nat), i < X.length → (Sha.hex X).getD (2 * i) 0 = Sha.hexdig (X.getD i 0 / 16) ∧ (Sha.hex X).getD (2 * i + 1) 0 = Sha.hexdig (X.getD i 0 % 16)
  | [], i, h => by simp at h
  | x :: X, 0, _ => ⟨rfl, rfl⟩
  | x :: X, i + 1, h => by
    have ih := hex_at X i (by simpa using h)
    have e : Sha.hex (x :: X) = Sha.hexdig (x / 16) :: Sha.hexdig (x % 16) :: Sha.hex X := rfl
    rw [e, show 2 * (i + 1) = 2 * i + 1 + 1 by omega]
    simpa using ih
theorem udig_hex (X : List Nat) (hX : ∀ x ∈ X, x < 256) : ∀ i, i ≤ X.length → Sha.udig (Sha.hex X) i = some (X.take i)
  | 0, _ => rfl
  | i + 1, h => by
    have hx : X.getD i 0 < 256 := getD_lt hX i
    have hp : Sha.pv (Sha.hex X) i = some (X.getD i 0) := by
      unfold Sha.pv
      rw [(hex_at X i (by omega)).1, (hex_at X i (by omega)).2, uval_hexdig _ (by omega), uval_hexdig _ (by omega)]
      simp only
      congr 1
      omega
    simp only [Sha.udig, udig_hex X hX i (by omega), hp]
    rw [List.take_succ_eq_append_getElem (by omega)]
    simp [show i < X.length by omega]
theorem unhex_hex (X : List Nat) (hX : ∀ x ∈ X, x < 256) (hl : X.length = 32) : Sha.unhex (Sha.hex X) = (X, 0) := by
  unfold Sha.unhex
  rw [if_pos (by rw [hex_length]; omega), udig_hex X hX 32 (by omega), List.take_of_length_le (by omega)]
theorem hex_udig (l : List Nat) : ∀ i d, 2 * i ≤ l.length → Sha.udig l i = some d → Sha.hex d = l.take (2 * i)
  | 0, d, _, h => by cases h; rfl
  | i + 1, d, hl, h => by
    simp only [Sha.udig] at h
    split at h
    · rename_i d' v h1 h2
      cases h
      have ih := hex_udig l i d' (by omega) h1
      unfold Sha.pv at h2
      split at h2
      · rename_i x y hx hy
        cases h2
        have l1 := uval_lt _ _ hx
        have l2 := uval_lt _ _ hy
        have e1 := hexdig_uval _ _ hx
        have e2 := hexdig_uval _ _ hy
        rw [hex_append, ih, show 2 * (i + 1) = 2 * i + 1 + 1 by omega, List.take_succ_eq_append_getElem (by omega), List.take_succ_eq_append_getElem (by omega)]
        have g1 : l[2 * i] = l.getD (2 * i) 0 := by simp [show 2 * i < l.length by omega]
        have g2 : l[2 * i + 1] = l.getD (2 * i + 1) 0 := by simp [show 2 * i + 1 < l.length by omega]
        rw [g1, g2, e1, e2]
        simp only [Sha.hex, Sha.hx, List.flatMap_cons, List.flatMap_nil, List.append_nil, List.append_assoc, List.cons_append, List.nil_append]
        rw [show (x * 16 + y) / 16 = x by omega, show (x * 16 + y) % 16 = y by omega]
      · cases h2
    · cases h
theorem unhex_cases (l : List Nat) (hl : l.length = 64) : (∃ d, Sha.unhex l = (d, 0) ∧ d.length = 32 ∧ Sha.hex d = l) ∨ Sha.unhex l = (Sha.zeros32, 21) := by
  unfold Sha.unhex
  rw [if_pos hl]
  cases h : Sha.udig l 32 with
  | none => exact Or.inr rfl
  | some d => exact Or.inl ⟨d, rfl, udig_length l 32 d h, by rw [hex_udig l 32 d (by omega) h, List.take_of_length_le (by omega)]⟩

theorem bytesS_append (a b : ByteArray) : bytesS (a ++ b) = bytesS a ++ bytesS b := by
  unfold bytesS; simp
theorem bytesS_extract (a : ByteArray) (i j : Nat) : bytesS (a.extract i j) = ((bytesS a).drop i).take (j - i) := by
  unfold bytesS
  rw [Lib.extract_data, List.map_take, List.map_drop]
theorem bytesS_inj (a b : ByteArray) (h : bytesS a = bytesS b) : a = b := by
  obtain ⟨⟨x⟩⟩ := a
  obtain ⟨⟨y⟩⟩ := b
  unfold bytesS at h
  have : x = y := (List.map_inj_right (fun a b h => UInt8.toNat_inj.1 h)).1 h
  rw [this]
theorem changed_bytes (s C1 : ByteArray) (X : List Nat) (k c : Nat) (hc : c < 256) (hs : bytesS s = Sha.hex X) (hsz : s.size = 64) (hC : C1 = str [c]) : bytesS (s.extract 0 k ++ C1 ++ s.extract (k + 1) 64) = (Sha.hex X).take k ++ c :: (Sha.hex X).drop (k + 1) := by
  have hl : (Sha.hex X).length = 64 := by rw [← hs, bytesS_length, hsz]
  rw [bytesS_append, bytesS_append, bytesS_extract, bytesS_extract, hs, hC, bytesS_str _ (by simpa using hc), List.take_of_length_le (i := 64 - (k + 1)) (by rw [List.length_drop]; omega)]
  simp
theorem toList_inj {a b : ByteArray} (h : a.toList = b.toList) : a = b := by
  rw [Lib.toList_data, Lib.toList_data] at h
  exact bytesS_inj a b (by unfold bytesS; rw [h])

set_option maxHeartbeats 400000 in
set_option maxRecDepth 100000 in
theorem back_any (xs : List Nat) (p : Option Addr) (ca b1 o1 : Nat) (at_ : Int) (c : Nat) (hc : c < 256) (w : World) (htab : Tab w) (h1 : Sl w p xs ca b1 o1) :
    Calls Tryd.prog 6 #[.slice p xs.length ca, .int .i64 at_, .int .u8 (c : Int)] w fun e w' => e = .returned (.bool true) ∧ Below w.heap.size w w' := by
  obtain ⟨k, hk, hk64⟩ : ∃ k : Nat, (IntKind.u64.wrap at_).tmod 64 = (k : Int) ∧ k < 64 := by
    have h0 : 0 ≤ IntKind.u64.wrap at_ := wrap_u64_nonneg at_
    refine ⟨((IntKind.u64.wrap at_).tmod 64).toNat, ?_, ?_⟩
    · rw [Int.tmod_eq_emod_of_nonneg h0]; omega
    · rw [Int.tmod_eq_emod_of_nonneg h0]; omega
  go_enter Tryd.func6, Tryd.ntmps6
  go_wp2_with fail
  refine (awake_any w htab).mono ?_
  rintro e w1 ⟨rfl, hb1⟩
  have h1' := h1.below hb1
  go_wp2_with fail
  refine (fold_any xs p b1 o1 ca w1 (by have := h1.cap1; have := h1.cap2; omega) h1'.at_ h1'.src).mono ?_
  rintro e w2 ⟨rfl, hb2⟩
  have hbw2 : Below w.heap.size w w2 := hb1.trans (hb2.mono hb1.size)
  have hxl := fold_length xs
  have hxb := fold_lt xs h1.lt
  generalize fold xs = X at hxl hxb ⊢
  clear h1 h1' hb1 hb2
  go_wp2_with (first | (refine wpList_store_Row rfl 25 _ _ rfl w2.heap.size 0 (X.map u8v) rfl rfl 25 ((List.replicate 32 0).map u8v) (Row.newAt w2 _ _ 25 rfl) 32 info25 (by simpa using hxl) (by simp) (one_u8 X) ?_; intro w3 hrx hg3 hs3; rw [splice_all _ _ (by simpa using hxl)] at hrx; have hb3 := below_new hg3; clear hg3 hs3) | (refine wpList_load_Row rfl 25 _ rfl w2.heap.size rfl 25 _ hrx _ Tryd.underlying25 rfl 32 info25 (by simpa using hxl) ?_))
  have hbw3 : Below w.heap.size w w3 := hbw2.trans (hb3.mono hbw2.size)
  obtain ⟨gx, hgx⟩ : ∃ gx, gx = w2.heap.size := ⟨_, rfl⟩
  rw [← hgx] at hrx ⊢
  clear hb3 hbw2 hgx
  refine (hex_any X hxl hxb w3).mono ?_
  rintro e w4 ⟨rfl, hb4⟩
  have hbw4 : Below w.heap.size w w4 := hbw3.trans (hb4.mono hbw3.size)
  have hrx4 := hrx.below hb4 hrx.lt
  obtain ⟨s, HS⟩ : ∃ s, Hid (s = str (Sha.hex X)) := ⟨_, rfl⟩
  rw [← HS.out]
  have hhl : (Sha.hex X).length = 64 := by rw [hex_length]; omega
  have hhb := hex_lt X hxb
  have HBS : Hid (bytesS s = Sha.hex X) := by show _ = _; rw [HS.out, bytesS_str _ hhb]
  have HSZ : Hid (s.size = 64) := by show _ = _; rw [HS.out, str_size, hhl]
  have hu := unhex_any s (by have := HSZ.out; omega) w4
  rw [HBS.out, unhex_hex X hxb hxl] at hu
  have HU := hu
  clear hbw3 hb4 hrx hhl
  go_wp2_with fail
  refine hu.mono ?_
  clear hu HU
  rintro e w5 ⟨rfl, hb5⟩
  have hbw5 : Below w.heap.size w w5 := hbw4.trans (hb5.mono hbw4.size)
  have hrx5 := hrx4.below hb5 hrx4.lt
  clear hrx4 hb5 hbw4
  have hsz : s.size = 64 := HSZ.out
  have heq := eq25 X X hxl hxl
  rw [decide_eq_true rfl] at heq
  go_wp2_with (first | (refine wpList_store_Row rfl 25 _ _ rfl w5.heap.size 0 (X.map u8v) rfl rfl 25 ((List.replicate 32 0).map u8v) (Row.newAt w5 _ _ 25 rfl) 32 info25 (by simpa using hxl) (by simp) (one_u8 X) ?_; intro w6 hry hg6 hs6; rw [splice_all _ _ (by simpa using hxl)] at hry; have hb6 := below_new hg6; have hrx6 := hrx5.below hb6 hrx5.lt; clear hg6 hs6) | (refine wpList_load_RowG rfl 25 _ rfl w5.heap.size rfl 25 _ hry _ Tryd.underlying25 rfl 32 info25 (by simpa using hxl) ?_) | (refine wpList_load_RowG rfl 25 _ rfl gx rfl 25 _ hrx6 _ Tryd.underlying25 rfl 32 info25 (by simpa using hxl) ?_))
  have hbw6 : Below w.heap.size w w6 := hbw5.trans (hb6.mono hbw5.size)
  have hcv := conv_str ((w6.alloc (.cells #[.int .u8 (c : Int)] 5)).drew) w6.heap.size 0 [c] 1 1 rfl (fun j hj => by
    have : j = 0 := by simpa using hj
    subst this
    rw [World.cell?_drew]
    exact (cell_of_row _ _ _ _ _ _ (heap_alloc_new w6 _)))
  obtain ⟨C1, HC1, hsc⟩ : ∃ C1, Hid (C1 = str [c]) ∧ C1.size = 1 := ⟨_, rfl, str_size _⟩
  rw [← HC1.out] at hcv
  have hmn : min k 64 = k := by omega
  have k2 : (k : Int) ≤ 64 := by omega
  have k3 : (k : Int) + 1 ≤ 64 := by omega
  clear heq hry hb6 hrx5 hbw5
  go_region
  have hbw7 : Below w.heap.size w (w6.alloc (.cells #[.int .u8 (c : Int)] 5)).drew := (hbw6.alloc hbw6.size _).drew
  have hrx7 : Row (w6.alloc (.cells #[.int .u8 (c : Int)] 5)).drew gx (X.map u8v) 25 := (hrx6.alloc _).drew
  have htb := changed_bytes s C1 X k c hc HBS.out hsz HC1.out
  have hhl : (Sha.hex X).length = 64 := by rw [hex_length]; omega
  generalize (w6.alloc (.cells #[.int .u8 (c : Int)] 5)).drew = w7 at hbw7 hrx7 hcv ⊢
  generalize s.extract 0 k ++ C1 ++ s.extract (k + 1) 64 = t at htb ⊢
  have htl : (bytesS t).length = 64 := by rw [htb]; simp; omega
  have hts : t.size = 64 := by rw [← bytesS_length]; exact htl
  have hu := unhex_any t (by omega) w7
  have HTS : Hid (t.size = 64) := hts
  have HTB : Hid (bytesS t = (Sha.hex X).take k ++ c :: (Sha.hex X).drop (k + 1)) := htb
  clear hcv hts htb hmn k2 k3 hk hrx6 hbw6
  go_wp2_with fail
  refine hu.mono ?_
  clear hu
  rintro e w8 ⟨rfl, hb8⟩
  have hbw8 : Below w.heap.size w w8 := hbw7.trans (hb8.mono hbw7.size)
  have hrx8 := hrx7.below hb8 hrx7.lt
  clear hrx7 hb8 hbw7
  have hzl : Sha.zeros32.length = 32 := rfl
  by_cases hsame : t = s
  · subst hsame
    have hz : Sha.unhex (bytesS t) = (X, 0) := by rw [HBS.out, unhex_hex X hxb hxl]
    rw [hz]
    have heq := eq25 X X hxl hxl
    rw [decide_eq_true rfl] at heq
    have hss : (t.toList == t.toList) = true := by simp
    clear hz htl hhl
    go_wp2_with (first | (refine wpList_store_Row rfl 25 _ _ rfl w8.heap.size 0 (X.map u8v) rfl rfl 25 ((List.replicate 32 0).map u8v) (Row.newAt w8 _ _ 25 rfl) 32 info25 (by simpa using hxl) (by simp) (one_u8 X) ?_; intro w9 hry9 hg9 hs9; rw [splice_all _ _ (by simpa using hxl)] at hry9; have hb9 := below_new hg9; have hrx9 := hrx8.below hb9 hrx8.lt; clear hg9 hs9) | (refine wpList_load_RowG rfl 25 _ rfl w8.heap.size rfl 25 _ hry9 _ Tryd.underlying25 rfl 32 info25 (by simpa using hxl) ?_) | (refine wpList_load_RowG rfl 25 _ rfl gx rfl 25 _ hrx9 _ Tryd.underlying25 rfl 32 info25 (by simpa using hxl) ?_))
    go_ret
    exact ⟨rfl, hbw8.trans (hb9.mono hbw8.size)⟩
  · have hss : (t.toList == s.toList) = false := by
      rw [beq_eq_false_iff_ne]; intro h; exact hsame (toList_inj h)
    rcases unhex_cases (bytesS t) htl with ⟨d, hz, hdl, hdh⟩ | hz
    · rw [hz]
      have hne : d ≠ X := by
        intro h
        subst h
        exact hsame (bytesS_inj t s (by rw [← hdh, HBS.out]))
      have heq := eq25 d X hdl hxl
      rw [decide_eq_false hne] at heq
      clear hz htl hhl hdh hne hsame
      go_wp2_with (first | (refine wpList_store_Row rfl 25 _ _ rfl w8.heap.size 0 (d.map u8v) rfl rfl 25 ((List.replicate 32 0).map u8v) (Row.newAt w8 _ _ 25 rfl) 32 info25 (by simpa using hdl) (by simp) (one_u8 d) ?_; intro w9 hry9 hg9 hs9; rw [splice_all _ _ (by simpa using hdl)] at hry9; have hb9 := below_new hg9; have hrx9 := hrx8.below hb9 hrx8.lt; clear hg9 hs9) | (refine wpList_load_RowG rfl 25 _ rfl w8.heap.size rfl 25 _ hry9 _ Tryd.underlying25 rfl 32 info25 (by simpa using hdl) ?_) | (refine wpList_load_RowG rfl 25 _ rfl gx rfl 25 _ hrx9 _ Tryd.underlying25 rfl 32 info25 (by simpa using hxl) ?_))
      go_ret
      exact ⟨rfl, hbw8.trans (hb9.mono hbw8.size)⟩
    · rw [hz]
      have heq0 := eq25 Sha.zeros32 Sha.zeros32 rfl rfl
      rw [decide_eq_true rfl] at heq0
      have heq : ∀ w, (Op.equalIn 10000 25 (.agg (Sha.zeros32.map u8v).toArray) (.agg #[.int .u8 0, .int .u8 0, .int .u8 0, .int .u8 0, .int .u8 0, .int .u8 0, .int .u8 0, .int .u8 0, .int .u8 0, .int .u8 0, .int .u8 0, .int .u8 0, .int .u8 0, .int .u8 0, .int .u8 0, .int .u8 0, .int .u8 0, .int .u8 0, .int .u8 0, .int .u8 0, .int .u8 0, .int .u8 0, .int .u8 0, .int .u8 0, .int .u8 0, .int .u8 0, .int .u8 0, .int .u8 0, .int .u8 0, .int .u8 0, .int .u8 0, .int .u8 0])).run Tryd.prog w = .ok true w := heq0
      clear heq0
      obtain ⟨Z, HZ, hZl⟩ : ∃ Z, Hid (Z = Sha.zeros32) ∧ Z.length = 32 := ⟨_, rfl, rfl⟩
      rw [← HZ.out] at heq ⊢
      clear hz htl hhl hsame hzl
      go_wp2_with (first | (refine wpList_store_Row rfl 25 _ _ rfl w8.heap.size 0 (Z.map u8v) rfl rfl 25 ((List.replicate 32 0).map u8v) (Row.newAt w8 _ _ 25 rfl) 32 info25 (by simpa using hZl) (by simp) (one_u8 Z) ?_; intro w9 hry9 hg9 hs9; rw [splice_all _ _ (by simpa using hZl)] at hry9; have hb9 := below_new hg9; clear hg9 hs9) | (refine wpList_load_RowG rfl 25 _ rfl w8.heap.size rfl 25 _ hry9 _ Tryd.underlying25 rfl 32 info25 (by simpa using hZl) ?_))
      go_ret
      exact ⟨rfl, hbw8.trans (hb9.mono hbw8.size)⟩
end Go.Proofs.YtmjccokocklgiaaDoor
