/-
  The walk of SessionBytes.
-/
import Derived.Deep.CutRange
import Derived.OwnWalk
import Derived.Laws.CopyOwn
import Derived.Deep.RegionLaw
import Derived.Deep.DrawnRows
import Derived.Laws.Tables
import Derived.Test.YtiijlnlkhpneaaaF00
import Derived.Test.YtiijlnlkhpneaaaF01
import Derived.Test.YtiijlnlkhpneaaaF02
import Derived.Test.YtiijlnlkhpneaaaF03
import Derived.Test.YtiijlnlkhpneaaaF04
import Derived.Test.YtiijlnlkhpneaaaF05
import Derived.Test.YtiijlnlkhpneaaaF06
import Derived.Test.YtiijlnlkhpneaaaF07
import Derived.Test.YtiijlnlkhpneaaaF08
import Derived.Test.YtiijlnlkhpneaaaF09
import Derived.Test.YtiijlnlkhpneaaaF10
import Derived.Test.YtiijlnlkhpneaaaF11
import Derived.Test.YtiijlnlkhpneaaaF12
import Derived.Test.YtiijlnlkhpneaaaF13
import Derived.Test.YtiijlnlkhpneaaaF14
import Derived.Test.YtiijlnlkhpneaaaF15
import Derived.Test.YtiijlnlkhpneaaaF16
import Derived.Test.YtiijlnlkhpneaaaF17
import Derived.Test.YtiijlnlkhpneaaaF18
import Derived.Test.YtiijlnlkhpneaaaF19
import Derived.Test.YtiijlnlkhpneaaaF20
import Derived.Test.YtiijlnlkhpneaaaF21
import Derived.Test.YtiijlnlkhpneaaaF22
import Derived.Test.YtiijlnlkhpneaaaF23
import Derived.Test.YtiijlnlkhpneaaaF24
import Derived.Test.YtiijlnlkhpneaaaF25
import Derived.Test.YtiijlnlkhpneaaaF26
import Derived.Test.YtiijlnlkhpneaaaF27
import Derived.Test.YtiijlnlkhpneaaaF28
import Derived.Test.YtiijlnlkhpneaaaF29
namespace Go.Proofs.Ytiijlnlkhpneaaa.Se
open Go.RowKit
open Nd (take_put Row wp_world post_Row grownBy_setCell below_of_grown grownBy_trans grown_of_below grownBy_refl i64r Sl str)
theorem ps_new3 {a w3 w4 : World} {g : Nat} {room : Int} (hb : Below a.heap.size a w3) (ht : Tab w3 g room noTab) (hw : w3.alloc (.cells #[.int .i64 room, .slice none 0 0] 32) = w4) : PS w4.drew a w3.heap.size g w3.heap.size room noTab noTab w4.drew := by
  have hr : Row w4.drew w3.heap.size [.int .i64 room, .slice none 0 0] 32 := by
    rw [← hw]
    exact (Row.new w3 [.int .i64 room, .slice none 0 0] 32).below (Below.refl _ _).drew (Row.new w3 [.int .i64 room, .slice none 0 0] 32).lt
  have hb4 : Below w3.heap.size w3 w4.drew := by
    rw [← hw]
    exact ((Below.refl _ _).alloc (Nat.le_refl _) _).drew
  exact ⟨ht.below hb4 ht.lt, ⟨⟨_, hr, SO.nil _ _⟩, Nat.le_refl _⟩, hb.trans (hb4.mono hb.size), Oth2.refl _ _ _, Nat.le_refl _⟩
/-- the reference's Encode's answer as bytes that are read -/
theorem renc_sl {w : World} {B r rm : Nat} {T : List Seat} (h : RT w B r (rm : Int) (T.filter seated)) (hk : Ok (rm : Int) T) (h9 : rm ≤ 8192) :
    Calls Try.prog 19 #[.pointer (some ⟨r, 0, none⟩)] w fun e w' => ∃ p cap b, e = .returned (.slice p (encT (rm : Int) (T.filter seated)).length cap) ∧ Sl w' p (encT (rm : Int) (T.filter seated)) cap b 0 ∧ Below w.heap.size w w' := by
  refine (rencode_any h (enc1_of hk.right hk.at_) (filter_le8 hk.right) h9).mono ?_
  rintro e w' ⟨v, rfl, ho, hb⟩
  obtain ⟨p, cap, b, rfl, hs, hno⟩ := Nd.own_sl (encT_lt h9 (filter_le8 hk.right) (enc1_of hk.right hk.at_)) ho
  exact ⟨p, cap, b, rfl, hs, hb⟩
/-- bytes that mean no table -/
theorem dec_no {w : World} {p : Option Addr} {bs : List Nat} {cap b off : Nat} (hs : Sl w p bs cap b off) (hno : p = none → bs.length = 0 ∧ cap = 0) (hl : bs.length ≤ 140737488355328) (hn : rdT (bs, 0) = none) :
    Calls Try.prog 20 #[.slice p bs.length cap] w fun e w' => e = .returned (.tuple #[.pointer none, .int .i64 21]) ∧ Below w.heap.size w w' := by
  refine (decode_any hs hno hl).mono ?_
  rintro e w' ⟨⟨rfl, _⟩ | ⟨rm, T, u, rfl, h1, h2, _, _⟩, hb⟩
  · exact ⟨rfl, hb⟩
  · obtain ⟨h9, hk⟩ := readT_ok h1
    have h3 := rdT_enc h9 hk
    rw [h2, hn] at h3
    cases h3
theorem rdec_no {w : World} {p : Option Addr} {bs : List Nat} {cap b off : Nat} (hs : Sl w p bs cap b off) (hn : rdT (bs, 0) = none) :
    Calls Try.prog 21 #[.slice p bs.length cap] w fun e w' => e = .returned (.tuple #[.pointer none, .bool false]) ∧ Below w.heap.size w w' := by
  refine (rdecode_any hs).mono ?_
  rintro e w' ⟨⟨_, rfl⟩ | ⟨rm, X, B', r, h1, _⟩, hb⟩
  · exact ⟨rfl, hb⟩
  · rw [hn] at h1
    cases h1
theorem rdec_yes {w : World} {p : Option Addr} {bs : List Nat} {cap b off : Nat} {rm : Nat} {X : List Seat} (hs : Sl w p bs cap b off) (hn : rdT (bs, 0) = some (rm, X)) :
    Calls Try.prog 21 #[.slice p bs.length cap] w fun e w' => ∃ B' r, e = .returned (.tuple #[.pointer (some ⟨r, 0, none⟩), .bool true]) ∧ RT w' B' r (rm : Int) X ∧ Below w.heap.size w w' := by
  refine (rdecode_any hs).mono ?_
  rintro e w' ⟨⟨h1, _⟩ | ⟨rm', X', B', r, h1, rfl, h2⟩, hb⟩
  · rw [hn] at h1
    cases h1
  · rw [hn] at h1
    have h3 := Option.some.inj h1
    obtain rfl := (Prod.mk.inj h3).1
    obtain rfl := (Prod.mk.inj h3).2
    exact ⟨B', r, rfl, h2, hb⟩
/-- both that were read -/
def BR (a w9 : World) (u rm2 : Nat) (T2 : List Seat) (W : World) : Prop := Tab W u (rm2 : Int) T2 ∧ Below a.heap.size a W ∧ Below w9.heap.size w9 W
theorem BR.below {a w9 : World} {u rm2 : Nat} {T2 : List Seat} {W W' : World} (h : BR a w9 u rm2 T2 W) (hb : Below W.heap.size W W') : BR a w9 u rm2 T2 W' := ⟨h.1.below hb h.1.lt, h.2.1.trans (hb.mono h.2.1.size), h.2.2.trans (hb.mono h.2.2.size)⟩
set_option maxHeartbeats 16000000 in
set_option maxRecDepth 100000 in
theorem bytes_any (room : Int) (a : World) (v : Value) (ss : List Act1) (p2 : Option Addr) (bs : List Nat) (cap2 b2 off2 : Nat) (h : Acts a v ss) (hs : ∀ x ∈ ss, i64r x.at_) (hy : Sl a p2 bs cap2 b2 off2) (hno : p2 = none → bs.length = 0 ∧ cap2 = 0) :
    Calls Try.prog 6 #[.int .i64 room, v, .slice p2 bs.length cap2] a fun e w' => e = .returned (.bool true) ∧ Below a.heap.size a w' := by
  have HAW := hid_in (awake_any a)
  have HFI := hid_in (fun W (x : Below a.heap.size a W) => fits_any W v ss (h.below x))
  by_cases hro : roomOk room
  · obtain ⟨rm, rfl⟩ := Int.eq_ofNat_of_zero_le hro.1
    have r1 : ¬ (rm : Int) < 0 := by have := hro.1; omega
    have r2 : ¬ 8192 < (rm : Int) := by have := hro.2; omega
    by_cases hbl : bs.length ≤ 60000
    · have r3 : ¬ 60000 < (bs.length : Int) := by omega
      have HMK := hid_in (fun W => make_ok rm W hro)
      have H0 := hid_in hro.1
      have H9 : Hid (rm ≤ 8192) := hid_in (by have := hro.2; omega)
      have HK1 := hid_in (Ok.play H0.out (ss.take 200) (ok_no H0.out) (fun x hx => hs x (List.mem_of_mem_take hx)))
      have HPP := hid_in (fun (w3 w4 : World) (g : Nat) (hb : Below a.heap.size a w3) (ht : Tab w3 g rm noTab) (hg : a.heap.size ≤ g) (hw : w3.alloc (.cells #[.int .i64 rm, .slice none 0 0] 32) = w4) => play_any (ps_new3 hb ht hw) right_no H0.out hg ht.lt ss v h)
      obtain ⟨T1, HT1⟩ : ∃ T1, Hid (playT rm noTab (ss.take 200) = T1) := ⟨_, hid_in rfl⟩
      rw [HT1.out] at HK1 HPP
      obtain ⟨p1, c1, rfl, hl1, -⟩ := h.at_
      generalize ss.length = M at *
      obtain ⟨Z1, HZ1⟩ : ∃ Z, Hid (encT (rm : Int) (T1.filter seated) = Z) := ⟨_, hid_in rfl⟩
      have HEN := hid_in (fun W g (k : Tab W g (rm : Int) T1) => enc_sl k HK1.out H9.out)
      have HRE := hid_in (fun W B r (k : RT W B r (rm : Int) (T1.filter seated)) => renc_sl k HK1.out H9.out)
      rw [HZ1.out] at HEN HRE
      have HCV := hid_in (fun (W : World) (p : Option Addr) (cap b : Nat) (k : Sl W p Z1 cap b 0) => Nd.conv_sl k)
      obtain ⟨SZ, HSZ⟩ : ∃ S, Hid (str Z1 = S) := ⟨_, hid_in rfl⟩
      rw [HSZ.out] at HCV
      obtain ⟨z1, HZL1⟩ : ∃ z, Hid (Z1.length = z) := ⟨_, hid_in rfl⟩
      rw [HZL1.out] at HEN HRE HCV
      -- the bytes that came in
      have HY := hid_in hy
      have HDN := hid_in (fun W (k : Below a.heap.size a W) (hn : rdT (bs, 0) = none) => dec_no (hy.below k) hno (by omega) hn)
      have HRN := hid_in (fun W (k : Below a.heap.size a W) (hn : rdT (bs, 0) = none) => rdec_no (hy.below k) hn)
      have HRY := hid_in (fun W (k : Below a.heap.size a W) rm2 X2 (hn : rdT (bs, 0) = some (rm2, X2)) => rdec_yes (hy.below k) hn)
      have HDY := hid_in (fun W (k : Below a.heap.size a W) (rm2 : Nat) (T2 : List Seat) (hk : Ok (rm2 : Int) T2) (h9 : rm2 ≤ 8192) (e : bs = encT (rm2 : Int) (T2.filter seated)) => (by
        have h1 := hy.below k
        have h2 := hno
        subst e
        exact dec_enc hk h9 h1 h2 : Calls Try.prog 20 #[.slice p2 bs.length cap2] W fun e w' => ∃ u, e = .returned (.tuple #[.pointer (some ⟨u, 0, none⟩), .int .i64 0]) ∧ Tab w' u (rm2 : Int) T2 ∧ W.heap.size ≤ u ∧ Below W.heap.size W w'))
      have HCB := hid_in (fun W (k : Below a.heap.size a W) => Nd.conv_sl (hy.below k))
      have HLT := hid_in hy.lt
      obtain ⟨SB, HSB⟩ : ∃ S, Hid (str bs = S) := ⟨_, hid_in rfl⟩
      rw [HSB.out] at HCB
      clear h hs hro hy hno hbl
      generalize bs.length = bl at *
      go_enter Try.func6, Try.ntmps6
      go_upto_region 3 with (first | (go_at_call 8; refine HAW.out.mono ?_; rintro e w1 ⟨rfl, hb1⟩; have HB1 := hid_in hb1; clear hb1))
      go_upto_region 5 with (first | (go_at_call 9; refine (HFI.out _ HB1.out).mono ?_; rintro e w2 ⟨⟨ft, rfl⟩, rfl⟩; clear HFI; rcases ft with _ | _))
      · go_wp2_with fail
        go_ret
        exact ⟨rfl, HB1.out⟩
      · clear HAW
        go_upto_region 7 with (first | (go_at_call 10; refine (HMK.out _).mono ?_; rintro e w3 ⟨g, rfl, ht3, hb3, hg3⟩; have HT3 := hid_in ht3; have HB3 := hid_in (HB1.out.trans (hb3.mono HB1.out.size)); have HG3 := hid_in (Nat.le_trans HB1.out.size hg3); clear ht3 hb3 hg3))
        obtain ⟨w4, HW4⟩ : ∃ w4, Hid (w3.alloc (.cells #[.int .i64 rm, .slice none 0 0] 32) = w4) := ⟨_, hid_in rfl⟩
        have HPL0 := hid_in (HPP.out w3 w4 g HB3.out HT3.out HG3.out HW4.out)
        refine wp_world HW4.out ?_
        generalize w3.heap.size = r at *
        obtain ⟨B1, HBB⟩ : ∃ B, Hid (r = B) := ⟨_, hid_in rfl⟩
        have HPL : Hid (Calls Try.prog 11 #[.pointer (some ⟨g, 0, none⟩), .pointer (some ⟨r, 0, none⟩), .slice p1 M c1] w4.drew fun e w' => e = .returned (.bool true) ∧ PS w4.drew a B1 g r rm T1 T1 w') := hid_in (by rw [← HBB.out]; exact HPL0.out)
        clear HPL0 HW4 HPP HMK HB3 HT3 HB1 HBB HG3
        go_cut [57] from 40 to 57 (fun vx W => vx = .bool false ∧ Hid (Below a.heap.size a W))
        case first =>
          refine wp_region_held_drew (S := fun _ => True) (by kernel_rfl) trivial (fun hHeld => ?_)
          refine take_put (i := 0) (d := 40) (v := ?_) rfl rfl (by kernel_rfl) (by kernel_rfl) (by kernel_rfl) (fun _ _ _ h => h) (Or.inl ⟨by kernel_rfl, ?_⟩) hHeld ?_
          rotate_left
          · (intro w hSw; (try dsimp only at hSw); go_simp; (try with_reducible rfl))
          simp only [Act.put, List.setIfInBounds_toArray, List.set_cons_zero, List.set_cons_succ]
          refine take_put (i := 1) (d := 41) (v := .bool false) rfl rfl (by kernel_rfl) (by kernel_rfl) (by kernel_rfl) (fun _ _ _ h => h) (Or.inl ⟨by kernel_rfl, fun w hSw => ?_⟩) hHeld ?_
          · (go_simp)
          simp only [Act.put, List.setIfInBounds_toArray, List.set_cons_zero, List.set_cons_succ]
          refine take_put (i := 2) (d := 42) (v := ?_) rfl rfl (by kernel_rfl) (by kernel_rfl) (by kernel_rfl) (fun _ _ _ h => h) (Or.inl ⟨by kernel_rfl, ?_⟩) hHeld ?_
          rotate_left
          · (intro w hSw; (try dsimp only at hSw); go_simp; (try with_reducible rfl))
          simp only [Act.put, List.setIfInBounds_toArray, List.set_cons_zero, List.set_cons_succ]
          refine take_put (i := 3) (d := 43) (v := ?_) rfl rfl (by kernel_rfl) (by kernel_rfl) (by kernel_rfl) (fun _ _ _ h => h) (Or.inl ⟨by kernel_rfl, ?_⟩) hHeld ?_
          rotate_left
          · (intro w hSw; (try dsimp only at hSw); go_simp; (try with_reducible rfl))
          simp only [Act.put, List.setIfInBounds_toArray, List.set_cons_zero, List.set_cons_succ]
          refine take_put (i := 4) (d := 44) (v := ?_) rfl rfl (by kernel_rfl) (by kernel_rfl) (by kernel_rfl) (fun _ _ _ h => h) (Or.inl ⟨by kernel_rfl, ?_⟩) hHeld ?_
          rotate_left
          · (intro w hSw; (try dsimp only at hSw); go_simp; (try with_reducible rfl))
          simp only [Act.put, List.setIfInBounds_toArray, List.set_cons_zero, List.set_cons_succ]
          refine take_put (i := 5) (d := 45) (v := ?_) rfl rfl (by kernel_rfl) (by kernel_rfl) (by kernel_rfl) (fun _ _ _ h => h) (Or.inl ⟨by kernel_rfl, ?_⟩) hHeld ?_
          rotate_left
          · (intro w hSw; (try dsimp only at hSw); go_simp; (try with_reducible rfl))
          simp only [Act.put, List.setIfInBounds_toArray, List.set_cons_zero, List.set_cons_succ]
          refine wpAnyH_ready (rs := [6]) (by kernel_rfl) (by simp) ?_
          refine AllReadyH.cons rfl (fun K hK => ?_) AllReadyH.nil
          rw [if_pos (by rfl)]
          go_simp
          refine (HPL.out).mono ?_
          rintro e w5 ⟨rfl, hp5⟩
          have HT5 := hid_in hp5.tab
          have HR5 := hid_in hp5.rt
          have HB5 := hid_in hp5.bel
          clear hp5
          go_simp
          refine hK.out _ _ trivial (fun hHeld => ?_)
          clear hK K
          refine take_put (i := 7) (d := 47) (v := .bool false) rfl rfl (by kernel_rfl) (by kernel_rfl) (by kernel_rfl) (fun _ _ _ h => h) (Or.inl ⟨by kernel_rfl, fun w hSw => ?_⟩) hHeld ?_
          · (go_simp)
          simp only [Act.put, List.setIfInBounds_toArray, List.set_cons_zero, List.set_cons_succ]
          refine take_put (i := 8) (d := 48) (v := .bool false) rfl rfl (by kernel_rfl) (by kernel_rfl) (by kernel_rfl) (fun _ _ _ h => h) (Or.inl ⟨by kernel_rfl, fun w hSw => ?_⟩) hHeld ?_
          · (go_simp)
          simp only [Act.put, List.setIfInBounds_toArray, List.set_cons_zero, List.set_cons_succ]
          refine take_put (i := 9) (d := 49) (v := ?_) rfl rfl (by kernel_rfl) (by kernel_rfl) (by kernel_rfl) (fun _ _ _ h => h) (Or.inl ⟨by kernel_rfl, ?_⟩) hHeld ?_
          rotate_left
          · (intro w hSw; (try dsimp only at hSw); go_simp; (try with_reducible rfl))
          simp only [Act.put, List.setIfInBounds_toArray, List.set_cons_zero, List.set_cons_succ]
          refine take_put (i := 10) (d := 50) (v := ?_) rfl rfl (by kernel_rfl) (by kernel_rfl) (by kernel_rfl) (fun _ _ _ h => h) (Or.inl ⟨by kernel_rfl, ?_⟩) hHeld ?_
          rotate_left
          · (intro w hSw; (try dsimp only at hSw); go_simp; (try with_reducible rfl))
          simp only [Act.put, List.setIfInBounds_toArray, List.set_cons_zero, List.set_cons_succ]
          refine take_put (i := 13) (d := 53) (v := ?_) rfl rfl (by kernel_rfl) (by kernel_rfl) (by kernel_rfl) (fun _ _ _ h => h) (Or.inl ⟨by kernel_rfl, ?_⟩) hHeld ?_
          rotate_left
          · (intro w hSw; (try dsimp only at hSw); go_simp; (try with_reducible rfl))
          simp only [Act.put, List.setIfInBounds_toArray, List.set_cons_zero, List.set_cons_succ]
          refine wpAnyH_ready (rs := [11]) (by kernel_rfl) (by simp) ?_
          refine AllReadyH.cons rfl (fun K hK => ?_) AllReadyH.nil
          rw [if_pos (by rfl)]
          go_simp
          refine (HEN.out _ _ HT5.out).mono ?_
          rintro e w6 ⟨p6, c6, b6, rfl, hs6, -, hb6⟩
          have HR6 := hid_in (HR5.out.below hb6)
          have HB6 := hid_in (HB5.out.trans (hb6.mono HB5.out.size))
          have HS6 := hid_in hs6
          have cv6 := HCV.out _ _ _ _ hs6
          clear hs6 hb6
          go_simp
          refine hK.out _ _ trivial (fun hHeld => ?_)
          clear hK K
          refine wpAnyH_ready (rs := [12, 14]) (by kernel_rfl) (by simp) ?_
          refine AllReadyH.cons rfl (fun K hK => ?_) (AllReadyH.cons rfl (fun K hK => ?_) AllReadyH.nil)
          · rw [if_pos (by rfl)]
            go_simp
            refine hK.out _ _ trivial (fun hHeld => ?_)
            clear hK K
            refine wpAnyH_ready (rs := [14]) (by kernel_rfl) (by simp) ?_
            refine AllReadyH.cons rfl (fun K hK => ?_) AllReadyH.nil
            rw [if_pos (by rfl)]
            go_simp
            refine (HRE.out _ _ _ HR6.out).mono ?_
            rintro e w7 ⟨p7, c7, b7, rfl, hs7, hb7⟩
            have HB7 := hid_in (HB6.out.trans (hb7.mono HB6.out.size))
            have cv7 := HCV.out _ _ _ _ hs7
            have cv8 := HCV.out _ _ _ _ (HS6.out.below hb7)
            clear hs7 hb7
            go_simp
            refine hK.out _ _ trivial (fun hHeld => ?_)
            clear hK K
            refine wpAnyH_ready (rs := [15]) (by kernel_rfl) (by simp) ?_
            refine AllReadyH.cons rfl (fun K hK => ?_) AllReadyH.nil
            rw [if_pos (by rfl)]
            go_simp
            refine hK.out _ _ trivial (fun hHeld => ?_)
            clear hK K
            refine take_put (i := 16) (d := 56) (v := .bool false) rfl rfl (by kernel_rfl) (by kernel_rfl) (by kernel_rfl) (fun _ _ _ h => h) (Or.inl ⟨by kernel_rfl, fun w hSw => ?_⟩) hHeld ?_
            · (go_simp)
            simp only [Act.put, List.setIfInBounds_toArray, List.set_cons_zero, List.set_cons_succ]
            refine take_put (i := 17) (d := 57) (v := .bool false) rfl rfl (by kernel_rfl) (by kernel_rfl) (by kernel_rfl) (fun _ _ _ h => h) (Or.inl ⟨by kernel_rfl, fun w hSw => ?_⟩) hHeld ?_
            · (go_simp)
            simp only [Act.put, List.setIfInBounds_toArray, List.set_cons_zero, List.set_cons_succ]
            refine wpAnyH_done (by kernel_rfl) ?_ _
            go_wp2_with fail
            go_meet
            exact ⟨rfl, HB7.out⟩
          · rw [if_pos (by rfl)]
            go_simp
            refine (HRE.out _ _ _ HR6.out).mono ?_
            rintro e w7 ⟨p7, c7, b7, rfl, hs7, hb7⟩
            have HB7 := hid_in (HB6.out.trans (hb7.mono HB6.out.size))
            have cv7 := HCV.out _ _ _ _ hs7
            have cv8 := HCV.out _ _ _ _ (HS6.out.below hb7)
            clear hs7 hb7
            go_simp
            refine hK.out _ _ trivial (fun hHeld => ?_)
            clear hK K
            refine wpAnyH_ready (rs := [12, 15]) (by kernel_rfl) (by simp) ?_
            refine AllReadyH.cons rfl (fun K hK => ?_) (AllReadyH.cons rfl (fun K hK => ?_) AllReadyH.nil)
            · rw [if_pos (by rfl)]
              go_simp
              refine hK.out _ _ trivial (fun hHeld => ?_)
              clear hK K
              refine wpAnyH_ready (rs := [15]) (by kernel_rfl) (by simp) ?_
              refine AllReadyH.cons rfl (fun K hK => ?_) AllReadyH.nil
              rw [if_pos (by rfl)]
              go_simp
              refine hK.out _ _ trivial (fun hHeld => ?_)
              clear hK K
              refine take_put (i := 16) (d := 56) (v := .bool false) rfl rfl (by kernel_rfl) (by kernel_rfl) (by kernel_rfl) (fun _ _ _ h => h) (Or.inl ⟨by kernel_rfl, fun w hSw => ?_⟩) hHeld ?_
              · (go_simp)
              simp only [Act.put, List.setIfInBounds_toArray, List.set_cons_zero, List.set_cons_succ]
              refine take_put (i := 17) (d := 57) (v := .bool false) rfl rfl (by kernel_rfl) (by kernel_rfl) (by kernel_rfl) (fun _ _ _ h => h) (Or.inl ⟨by kernel_rfl, fun w hSw => ?_⟩) hHeld ?_
              · (go_simp)
              simp only [Act.put, List.setIfInBounds_toArray, List.set_cons_zero, List.set_cons_succ]
              refine wpAnyH_done (by kernel_rfl) ?_ _
              go_wp2_with fail
              go_meet
              exact ⟨rfl, HB7.out⟩
            · rw [if_pos (by rfl)]
              go_simp
              refine hK.out _ _ trivial (fun hHeld => ?_)
              clear hK K
              refine wpAnyH_ready (rs := [12]) (by kernel_rfl) (by simp) ?_
              refine AllReadyH.cons rfl (fun K hK => ?_) AllReadyH.nil
              rw [if_pos (by rfl)]
              go_simp
              refine hK.out _ _ trivial (fun hHeld => ?_)
              clear hK K
              refine take_put (i := 16) (d := 56) (v := .bool false) rfl rfl (by kernel_rfl) (by kernel_rfl) (by kernel_rfl) (fun _ _ _ h => h) (Or.inl ⟨by kernel_rfl, fun w hSw => ?_⟩) hHeld ?_
              · (go_simp)
              simp only [Act.put, List.setIfInBounds_toArray, List.set_cons_zero, List.set_cons_succ]
              refine take_put (i := 17) (d := 57) (v := .bool false) rfl rfl (by kernel_rfl) (by kernel_rfl) (by kernel_rfl) (fun _ _ _ h => h) (Or.inl ⟨by kernel_rfl, fun w hSw => ?_⟩) hHeld ?_
              · (go_simp)
              simp only [Act.put, List.setIfInBounds_toArray, List.set_cons_zero, List.set_cons_succ]
              refine wpAnyH_done (by kernel_rfl) ?_ _
              go_wp2_with fail
              go_meet
              exact ⟨rfl, HB7.out⟩
        case rest =>
          obtain ⟨rfl, HB8⟩ := hcut
          clear HPL HEN HRE HCV
          cases hrd : rdT (bs, 0) with
          | none =>
            have HN := hid_in hrd
            clear hrd
            go_upto_region 13 with (first | (go_at_call 20; refine (HDN.out _ HB8.out HN.out).mono ?_; rintro e w9 ⟨rfl, hb9⟩; have HB9 := hid_in (HB8.out.trans (hb9.mono HB8.out.size)); clear hb9) | (go_at_call 21; refine (HRN.out _ HB9.out HN.out).mono ?_; rintro e w10 ⟨rfl, hb10⟩; have HB10 := hid_in (HB9.out.trans (hb10.mono HB9.out.size)); clear hb10))
            go_quiet (fail)
            go_wp2_with fail
            go_ret
            exact ⟨rfl, Nd.below_drewN HB10.out _⟩
          | some q =>
            obtain ⟨rm2, X2⟩ := q
            obtain ⟨T2, hk2, hf2, h92, he2⟩ := rdT_inv HLT.out hrd
            have HN := hid_in hrd
            have HK2 := hid_in hk2
            have H92 := hid_in h92
            have HE2 : Hid (bs = encT (rm2 : Int) (T2.filter seated)) := hid_in (by rw [hf2]; exact he2)
            have HRY2 := hid_in (fun W k => HRY.out W k rm2 X2 HN.out)
            rw [← hf2] at HRY2
            have HDY2 := hid_in (fun W k => HDY.out W k rm2 T2 HK2.out H92.out HE2.out)
            have HEN2 := hid_in (fun W g (k : Tab W g (rm2 : Int) T2) => enc_sl k HK2.out H92.out)
            have HCV2 := hid_in (fun (W : World) (p : Option Addr) (cap b : Nat) (k : Sl W p (encT (rm2 : Int) (T2.filter seated)) cap b 0) => Nd.conv_sl k)
            rw [← HE2.out] at HEN2 HCV2
            rw [HSB.out] at HCV2
            generalize bs.length = bl2 at *
            clear hrd hk2 hf2 h92 he2 HRY HDY HDN HRN
            go_upto_region 13 with (first | (go_at_call 20; refine (HDY2.out _ HB8.out).mono ?_; rintro e w8 ⟨u, rfl, ht8, hu8, hb8⟩; have HT8 := hid_in ht8; have HB8b := hid_in (HB8.out.trans (hb8.mono HB8.out.size)); clear ht8 hu8 hb8) | (go_at_call 21; refine (HRY2.out _ HB8b.out).mono ?_; rintro e w9 ⟨B2, r2, rfl, hr9, hb9⟩; have HT9 := hid_in (HT8.out.below hb9 HT8.out.lt); have HR9 := hid_in hr9; have HB9 := hid_in (HB8b.out.trans (hb9.mono HB8b.out.size)); clear hr9 hb9))
            obtain ⟨vp, hvp1, hvp2⟩ := HR9.out.ex
            obtain ⟨pp, cp, rfl, -⟩ := hvp2.own
            have HSP := hid_in (hvp2.below (Below.refl _ _).drew)
            obtain ⟨lp, HLP⟩ : ∃ lp, Hid ((T2.filter seated).length = lp) := ⟨_, hid_in rfl⟩
            rw [HLP.out] at hvp1 HSP
            have HN9 : Hid (BR a w9 u rm2 T2 w9.drew) := hid_in ⟨HT9.out.below (Below.refl _ _).drew HT9.out.lt, HB9.out.drew, (Below.refl _ _).drew⟩
            have HCP : Hid (∀ W, BR a w9 u rm2 T2 W → W.cell? ⟨r2, 1, none⟩ = some (.slice pp lp cp) ∧ (convert 50 9 (.slice p2 bl cap2)).run Try.prog W = .ok (.string SB) W) := hid_in (fun W k => ⟨(hvp1.below k.2.2 hvp1.lt).cell 1, HCB.out W k.2.1⟩)
            clear hvp1 hvp2 HT8 HB8 HB8b HR9 HT9 HDY2 HRY2
            refine wp_region_held_drew (S := fun W => W.cell? ⟨r2, 1, none⟩ = some (.slice pp lp cp) ∧ (convert 50 9 (.slice p2 bl cap2)).run Try.prog W = .ok (.string SB) W) (by kernel_rfl) (HCP.out _ HN9.out) (fun hHeld => ?_)
            refine take_put (i := 0) (d := 86) (v := ?_) rfl rfl (by kernel_rfl) (by kernel_rfl) (by kernel_rfl) (fun _ _ _ h => h) (Or.inl ⟨by kernel_rfl, ?_⟩) hHeld ?_
            rotate_left
            · (intro w hSw; (try dsimp only at hSw); go_simp; (try with_reducible rfl))
            simp only [Act.put, List.setIfInBounds_toArray, List.set_cons_zero, List.set_cons_succ]
            refine take_put (i := 1) (d := 87) (v := .bool false) rfl rfl (by kernel_rfl) (by kernel_rfl) (by kernel_rfl) (fun _ _ _ h => h) (Or.inl ⟨by kernel_rfl, fun w hSw => ?_⟩) hHeld ?_
            · (go_simp)
            simp only [Act.put, List.setIfInBounds_toArray, List.set_cons_zero, List.set_cons_succ]
            refine take_put (i := 2) (d := 88) (v := ?_) rfl rfl (by kernel_rfl) (by kernel_rfl) (by kernel_rfl) (fun _ _ _ h => h) (Or.inl ⟨by kernel_rfl, ?_⟩) hHeld ?_
            rotate_left
            · (intro w hSw; (try dsimp only at hSw); go_simp; (try with_reducible rfl))
            simp only [Act.put, List.setIfInBounds_toArray, List.set_cons_zero, List.set_cons_succ]
            refine take_put (i := 3) (d := 89) (v := ?_) rfl rfl (by kernel_rfl) (by kernel_rfl) (by kernel_rfl) (fun _ _ _ h => h) (Or.inl ⟨by kernel_rfl, ?_⟩) hHeld ?_
            rotate_left
            · (intro w hSw; (try dsimp only at hSw); go_simp; (try with_reducible rfl))
            simp only [Act.put, List.setIfInBounds_toArray, List.set_cons_zero, List.set_cons_succ]
            refine take_put (i := 5) (d := 91) (v := ?_) rfl rfl (by kernel_rfl) (by kernel_rfl) (by kernel_rfl) (fun _ _ _ h => h) (Or.inl ⟨by kernel_rfl, ?_⟩) hHeld ?_
            rotate_left
            · (intro w hSw; (try dsimp only at hSw); go_simp; (try with_reducible rfl))
            simp only [Act.put, List.setIfInBounds_toArray, List.set_cons_zero, List.set_cons_succ]
            refine take_put (i := 6) (d := 92) (v := ?_) rfl rfl (by kernel_rfl) (by kernel_rfl) (by kernel_rfl) (fun _ _ _ h => h) (Or.inl ⟨by kernel_rfl, ?_⟩) hHeld ?_
            rotate_left
            · (intro w hSw; (try dsimp only at hSw); go_simp; (try with_reducible rfl))
            simp only [Act.put, List.setIfInBounds_toArray, List.set_cons_zero, List.set_cons_succ]
            refine take_put (i := 7) (d := 93) (v := ?_) rfl rfl (by kernel_rfl) (by kernel_rfl) (by kernel_rfl) (fun _ _ _ h => h) (Or.inl ⟨by kernel_rfl, ?_⟩) hHeld ?_
            rotate_left
            · (intro w hSw; (try dsimp only at hSw); go_simp; (try with_reducible rfl))
            simp only [Act.put, List.setIfInBounds_toArray, List.set_cons_zero, List.set_cons_succ]
            refine take_put (i := 8) (d := 94) (v := ?_) rfl rfl (by kernel_rfl) (by kernel_rfl) (by kernel_rfl) (fun _ _ _ h => h) (Or.inl ⟨by kernel_rfl, ?_⟩) hHeld ?_
            rotate_left
            · (intro w hSw; (try dsimp only at hSw); go_simp; (try with_reducible rfl))
            simp only [Act.put, List.setIfInBounds_toArray, List.set_cons_zero, List.set_cons_succ]
            refine wpAnyH_ready (rs := [4]) (by kernel_rfl) (by simp) ?_
            refine AllReadyH.cons rfl (fun K hK => ?_) AllReadyH.nil
            rw [if_pos (by rfl)]
            go_simp
            refine (list_any HN9.out.1).mono ?_
            rintro e w10 ⟨v10, rfl, hso10, hb10⟩
            have HN10 := hid_in (HN9.out.below hb10)
            have HS10 := hid_in hso10
            have HVP := hid_in (HSP.out.below hb10)
            clear hso10 hb10
            go_simp
            refine hK.out _ _ (HCP.out _ HN10.out) (fun hHeld => ?_)
            clear hK K
            refine wpAnyH_ready (rs := [9]) (by kernel_rfl) (by simp) ?_
            refine AllReadyH.cons rfl (fun K hK => ?_) AllReadyH.nil
            rw [if_pos (by rfl)]
            go_simp
            refine (seats_yes HS10.out.sls HVP.out.sls).mono ?_
            rintro e w11 ⟨rfl, hb11⟩
            have HN11 := hid_in (HN10.out.below hb11)
            clear hb11
            go_simp
            refine hK.out _ _ (HCP.out _ HN11.out) (fun hHeld => ?_)
            clear hK K
            refine take_put (i := 10) (d := 96) (v := ?_) rfl rfl (by kernel_rfl) (by kernel_rfl) (by kernel_rfl) (fun _ _ _ h => h) (Or.inl ⟨by kernel_rfl, ?_⟩) hHeld ?_
            rotate_left
            · (intro w hSw; (try dsimp only at hSw); go_simp; (try with_reducible rfl))
            simp only [Act.put, List.setIfInBounds_toArray, List.set_cons_zero, List.set_cons_succ]
            refine take_put (i := 11) (d := 97) (v := ?_) rfl rfl (by kernel_rfl) (by kernel_rfl) (by kernel_rfl) (fun _ _ _ h => h) (Or.inl ⟨by kernel_rfl, ?_⟩) hHeld ?_
            rotate_left
            · (intro w hSw; (try dsimp only at hSw); go_simp; (try with_reducible rfl))
            simp only [Act.put, List.setIfInBounds_toArray, List.set_cons_zero, List.set_cons_succ]
            refine take_put (i := 14) (d := 100) (v := ?_) rfl rfl (by kernel_rfl) (by kernel_rfl) (by kernel_rfl) (fun _ _ _ h => h) (Or.inl ⟨by kernel_rfl, ?_⟩) hHeld ?_
            rotate_left
            · (intro w hSw; (try dsimp only at hSw); go_simp; (try with_reducible rfl))
            simp only [Act.put, List.setIfInBounds_toArray, List.set_cons_zero, List.set_cons_succ]
            refine take_put (i := 15) (d := 101) (v := .string SB) rfl rfl (by kernel_rfl) (by kernel_rfl) (by kernel_rfl) (fun _ _ _ h => h) (Or.inl ⟨by kernel_rfl, fun w hSw => ?_⟩) hHeld ?_
            · (go_simp)
            simp only [Act.put, List.setIfInBounds_toArray, List.set_cons_zero, List.set_cons_succ]
            refine wpAnyH_ready (rs := [12]) (by kernel_rfl) (by simp) ?_
            refine AllReadyH.cons rfl (fun K hK => ?_) AllReadyH.nil
            rw [if_pos (by rfl)]
            go_simp
            refine (HEN2.out _ _ HN11.out.1).mono ?_
            rintro e w12 ⟨p12, c12, b12, rfl, hs12, -, hb12⟩
            have HN12 := hid_in (HN11.out.below hb12)
            have cv12 := HCV2.out _ _ _ _ hs12
            clear hs12 hb12
            go_simp
            refine hK.out _ _ (HCP.out _ HN12.out) (fun hHeld => ?_)
            clear hK K
            refine wpAnyH_ready (rs := [13]) (by kernel_rfl) (by simp) ?_
            refine AllReadyH.cons rfl (fun K hK => ?_) AllReadyH.nil
            rw [if_pos (by rfl)]
            go_simp
            refine hK.out _ _ (HCP.out _ HN12.out) (fun hHeld => ?_)
            clear hK K
            refine take_put (i := 16) (d := 102) (v := .bool true) rfl rfl (by kernel_rfl) (by kernel_rfl) (by kernel_rfl) (fun _ _ _ h => h) (Or.inl ⟨by kernel_rfl, fun w hSw => ?_⟩) hHeld ?_
            · (go_simp)
            simp only [Act.put, List.setIfInBounds_toArray, List.set_cons_zero, List.set_cons_succ]
            refine take_put (i := 17) (d := 103) (v := .bool true) rfl rfl (by kernel_rfl) (by kernel_rfl) (by kernel_rfl) (fun _ _ _ h => h) (Or.inl ⟨by kernel_rfl, fun w hSw => ?_⟩) hHeld ?_
            · (go_simp)
            simp only [Act.put, List.setIfInBounds_toArray, List.set_cons_zero, List.set_cons_succ]
            refine take_put (i := 18) (d := 104) (v := .bool true) rfl rfl (by kernel_rfl) (by kernel_rfl) (by kernel_rfl) (fun _ _ _ h => h) (Or.inl ⟨by kernel_rfl, fun w hSw => ?_⟩) hHeld ?_
            · (go_simp)
            simp only [Act.put, List.setIfInBounds_toArray, List.set_cons_zero, List.set_cons_succ]
            refine take_put (i := 19) (d := 6) (v := ?_) rfl rfl (by kernel_rfl) (by kernel_rfl) (by kernel_rfl) (fun _ _ _ h => h) (Or.inl ⟨by kernel_rfl, ?_⟩) hHeld ?_
            rotate_left
            · (intro w hSw; (try dsimp only at hSw); go_simp; (try with_reducible rfl))
            simp only [Act.put, List.setIfInBounds_toArray, List.set_cons_zero, List.set_cons_succ]
            refine wpAnyH_done (by kernel_rfl) ?_ _
            go_wp2_with fail
            go_ret
            exact ⟨rfl, HN12.out.2.1⟩
    · have r3 : 60000 < (bs.length : Int) := by omega
      clear h hs hro hy hno hbl
      generalize bs.length = bl at *
      go_enter Try.func6, Try.ntmps6
      go_upto_region 3 with (first | (go_at_call 8; refine HAW.out.mono ?_; rintro e w1 ⟨rfl, hb1⟩; have HB1 := hid_in hb1; clear hb1))
      go_wp2_with (first | (go_at_call 9; refine (HFI.out _ HB1.out).mono ?_; rintro e w2 ⟨⟨ft, rfl⟩, rfl⟩; clear HFI; rcases ft with _ | _))
      all_goals (go_ret; exact ⟨rfl, HB1.out⟩)
  · unfold roomOk at hro
    clear h hs hy hno
    generalize bs.length = bl at *
    by_cases r1 : room < 0
    · clear hro
      go_enter Try.func6, Try.ntmps6
      go_upto_region 3 with (first | (go_at_call 8; refine HAW.out.mono ?_; rintro e w1 ⟨rfl, hb1⟩; have HB1 := hid_in hb1; clear hb1))
      go_wp2_with (first | (go_at_call 9; refine (HFI.out _ HB1.out).mono ?_; rintro e w2 ⟨⟨ft, rfl⟩, rfl⟩; clear HFI; rcases ft with _ | _))
      all_goals (go_ret; exact ⟨rfl, HB1.out⟩)
    · have r2 : 8192 < room := by omega
      clear hro
      go_enter Try.func6, Try.ntmps6
      go_upto_region 3 with (first | (go_at_call 8; refine HAW.out.mono ?_; rintro e w1 ⟨rfl, hb1⟩; have HB1 := hid_in hb1; clear hb1))
      go_wp2_with (first | (go_at_call 9; refine (HFI.out _ HB1.out).mono ?_; rintro e w2 ⟨⟨ft, rfl⟩, rfl⟩; clear HFI; rcases ft with _ | _))
      all_goals (go_ret; exact ⟨rfl, HB1.out⟩)
end Go.Proofs.Ytiijlnlkhpneaaa.Se
