/-
  The walk of the reference's Next.
-/
import Derived.Test.YtjaplfdcdokhfaaF2
import Derived.Test.YtjaplfdcdokhfaaS6
import Derived.Deep.QuietTactic
namespace Go.Proofs.Ytjaplfdcdokhfaa
open Go.RowKit

/-- the number of the last d of four bytes -/
def vfd (bs : List Nat) : Nat → Nat
  | 0 => 0
  | d + 1 => vfd bs d * 256 + bs.getD (3 - d) 0
theorem vfd_all (bs : List Nat) : vfd bs 4 = Wire.val bs := by
  simp only [vfd, Wire.val, Nat.reduceSub, Nat.sub_zero]
  omega
theorem vfd_lt {bs : List Nat} (h : ∀ x ∈ bs, x < 256) (d : Nat) (hd : d ≤ 4) : vfd bs d < 4294967296 := by
  have h0 := getD_lt h 0
  have h1 := getD_lt h 1
  have h2 := getD_lt h 2
  have h3 := getD_lt h 3
  obtain rfl | rfl | rfl | rfl | rfl : d = 0 ∨ d = 1 ∨ d = 2 ∨ d = 3 ∨ d = 4 := by omega
  all_goals (simp only [vfd, Nat.reduceSub, Nat.sub_zero]; omega)
theorem four_at (c : Nat) (d : List Nat) (hd : ∀ x ∈ d, x < 256) (hc : c < 4294967296) : (c = Wire.val d) ↔ ∀ k, k < 4 → (Wire.four c).getD k 0 = d.getD k 0 := by
  have h0 := getD_lt hd 0
  have h1 := getD_lt hd 1
  have h2 := getD_lt hd 2
  have h3 := getD_lt hd 3
  constructor
  · rintro rfl k hk
    unfold Wire.four Wire.val
    obtain rfl | rfl | rfl | rfl : k = 0 ∨ k = 1 ∨ k = 2 ∨ k = 3 := by omega
    all_goals (simp only [List.getD_cons_zero, List.getD_cons_succ]; omega)
  · intro h
    have g0 := h 0 (by omega)
    have g1 := h 1 (by omega)
    have g2 := h 2 (by omega)
    have g3 := h 3 (by omega)
    unfold Wire.four at g0 g1 g2 g3
    simp only [List.getD_cons_zero, List.getD_cons_succ] at g0 g1 g2 g3
    unfold Wire.val
    omega

set_option maxHeartbeats 1000000 in
set_option maxRecDepth 100000 in
theorem rnext_any (bs : List Nat) (p : Option Addr) (cap b off : Nat) (w : World) (hsl : Sl w p bs cap b off) :
    Calls Try.prog 29 #[.slice p bs.length cap] w fun e w' => ∃ v, e = .returned (.tuple #[v, .int .i64 ((Wire.next bs).2.1 : Int), .int .i64 ((Wire.next bs).2.2 : Int)]) ∧ w'.ownsRow w.heap.size 5 1 v (Wire.next bs).1.length ((Wire.next bs).1.map u8v) ∧ Below w.heap.size w w' := by
  obtain ⟨i5i, HI5, HE1, HE2, HE3⟩ := i5h
  have k0 : (bs.length : Int) ≤ 9223372036854775807 := by have := hsl.cap1; have := hsl.cap2; omega
  by_cases h4 : bs.length < 4
  · have k1 : (bs.length : Int) < 4 := by omega
    have HN : Hid (Wire.next bs = ([], 0, 20)) := by show _ = _; unfold Wire.next; rw [if_pos h4]
    clear hsl
    go_enter Try.func29, Try.ntmps29
    go_wp2
    go_ret3
    rw [HN.out]
    exact ⟨_, rfl, World.ownsRow_nil _ _ _ _, Below.refl _ _⟩
  have k1 : (4 : Int) ≤ (bs.length : Int) := by omega
  have HSL := hid_in hsl
  have hcap := hsl.cap1
  have hcap2 := hsl.cap2
  obtain rfl := hsl.at_ (by omega)
  clear hsl
  go_enter Try.func29, Try.ntmps29
  go_wp2
  go_loopw [5, 6] (fun v5 v6 w' => ∃ j : Nat, j ≤ 4 ∧ v6 = .int .i64 ((j : Int) - 1) ∧ v5 = .int .i64 ((vfd bs (4 - j) : Nat) : Int) ∧ w' = w) (fun _ v6 _ => (intOf v6 + 1).toNat)
  case atStart => exact ⟨4, by omega, rfl, rfl, rfl⟩
  case round =>
    obtain ⟨j, hj, rfl, rfl, hw⟩ := hrel
    have hw' := hw.symm
    subst hw'
    have hvl := vfd_lt HSL.out.lt (4 - j) (by omega)
    by_cases hj0 : 0 < j
    · have c1 : w.cell? ⟨b, off + (j - 1), none⟩ = some (.int .u8 ((bs.getD (j - 1) 0 : Nat) : Int)) := HSL.out.src (j - 1) (by omega)
      have hy : bs.getD (j - 1) 0 < 256 := getD_lt HSL.out.lt _
      have HV : Hid (vfd bs (4 - (j - 1)) = vfd bs (4 - j) * 256 + bs.getD (j - 1) 0) := by
        show _ = _
        rw [show 4 - (j - 1) = (4 - j) + 1 by omega]
        simp only [vfd]
        rw [show 3 - (4 - j) = j - 1 by omega]
      generalize vfd bs (4 - j) = V at hvl HV
      generalize bs.getD (j - 1) 0 = y at c1 hy HV
      have k2 : (0 : Int) < (j : Int) := by omega
      have k3 : (j : Int) ≤ 4 := by omega
      have k4 : (j : Int) ≤ (bs.length : Int) := by omega
      go_wp2
      go_roundw
      case rel =>
        go_light
        refine ⟨j - 1, by omega, by go_num, ?_, by trivial⟩
        rw [HV.out]
        go_num
      case measure => simp [intOf]; omega
    · obtain rfl : j = 0 := by omega
      have HVA : Hid (vfd bs (4 - 0) = Wire.val bs) := vfd_all bs
      rw [HVA.out]
      have hvl2 : Wire.val bs < 4294967296 := Wire.val_lt HSL.out.lt
      obtain ⟨n, HV⟩ : ∃ n, Hid (n = Wire.val bs) := ⟨_, rfl⟩
      rw [← HV.out] at hvl2 ⊢
      clear hvl hj hj0 HVA hw
      by_cases hbig : 262144 < n
      · have k2 : (262144 : Int) < (n : Int) := by omega
        have HN : Hid (Wire.next bs = ([], 0, 2)) := by show _ = _; unfold Wire.next; rw [if_neg h4, ← HV.out, if_pos hbig]
        go_wp2
        go_ret3
        rw [HN.out]
        exact ⟨_, rfl, World.ownsRow_nil _ _ _ _, Below.refl _ _⟩
      have k2 : (n : Int) ≤ 262144 := by omega
      by_cases hsh : bs.length < n + 8
      · have k3 : (bs.length : Int) < (n : Int) + 8 := by omega
        have HN : Hid (Wire.next bs = ([], 0, 20)) := by show _ = _; unfold Wire.next; rw [if_neg h4, ← HV.out, if_neg hbig, if_pos hsh]
        go_wp2
        go_ret3
        rw [HN.out]
        exact ⟨_, rfl, World.ownsRow_nil _ _ _ _, Below.refl _ _⟩
      have k3 : (n : Int) + 8 ≤ (bs.length : Int) := by omega
      have hS1 := slice_hi b off bs.length cap (n + 4) (by omega) ((n : Int) + 4) (by omega)
      have hp1 := HSL.out.part 0 (n + 4) cap (by omega) (by omega) hcap2
      rw [Nat.add_zero, List.drop_zero] at hp1
      have et : (bs.take (n + 4)).length = n + 4 := by simp; omega
      have hck := rcheck_any _ _ _ _ _ _ hp1
      rw [et] at hck
      obtain ⟨c, HC⟩ : ∃ c, Hid (c = Wire.check (bs.take (n + 4))) := ⟨_, rfl⟩
      rw [← HC.out] at hck
      have hcl : c < 4294967296 := by rw [HC.out]; exact Wire.check_lt (fun y hy => HSL.out.lt y (List.mem_of_mem_take hy))
      have hdl : ∀ y ∈ bs.drop (n + 4), y < 256 := fun y hy => HSL.out.lt y (List.mem_of_mem_drop hy)
      have HFA := hid_in (four_at c (bs.drop (n + 4)) hdl hcl)
      have HD : Hid (∀ k, k < 4 → (bs.drop (n + 4)).getD k 0 = bs.getD (n + 4 + k) 0) := fun k hk => by simp
      clear hp1 et hdl
      go_wp2_with fail
      refine hck.mono ?_
      rintro e w2 ⟨rfl, hw2⟩
      have hw2' := hw2.symm
      subst hw2'
      clear hck hw2 hS1
      go_wp2_with fail
      refine (four_any c hcl w).mono ?_
      rintro e w3 ⟨rfl, hw3⟩
      have hb3 : Below w.heap.size w w3 := by rw [hw3]; exact (Below.refl _ _).alloc (Nat.le_refl _) _
      have hr3 : Row w3 w.heap.size ((Wire.four c).map u8v) 5 := by rw [hw3]; exact Row.newAt w _ _ 5 rfl
      obtain ⟨G, hG⟩ : ∃ G, G = w.heap.size := ⟨_, rfl⟩
      rw [← hG] at hr3 ⊢
      have HR3 := hid_in hr3
      clear hw3 hG hr3
      go_wp2
      go_loopw [8] (fun v8 w' => ∃ k : Nat, k ≤ 4 ∧ v8 = .int .i64 (k : Int) ∧ (∀ i, i < k → (Wire.four c).getD i 0 = (bs.drop (n + 4)).getD i 0) ∧ Below w3.heap.size w3 w') (fun v8 _ => 4 - (intOf v8).toNat)
      case atStart => exact ⟨0, by omega, rfl, fun i h => by omega, Below.refl _ _⟩
      case round =>
        obtain ⟨k, hk, rfl, heq, hbel⟩ := hrel
        have HEQ := hid_in heq
        have hbw : Below w.heap.size w wr := hb3.trans (hbel.mono hb3.size)
        clear heq
        by_cases hk4 : k < 4
        · have cf : wr.cell? ⟨G, k, none⟩ = some (.int .u8 (((Wire.four c).getD k 0 : Nat) : Int)) := (HR3.out.below hbel HR3.out.lt).cellMap k hk4
          have cb : wr.cell? ⟨b, off + (n + 4 + k), none⟩ = some (.int .u8 ((bs.getD (n + 4 + k) 0 : Nat) : Int)) := (HSL.out.below hbw).src (n + 4 + k) (by omega)
          have kk : (k : Int) < 4 := by omega
          have hex : ((Wire.four c).getD k 0 = (bs.drop (n + 4)).getD k 0) ↔ ((Wire.four c).getD k 0 = bs.getD (n + 4 + k) 0) := by rw [HD.out k hk4]
          have HEX := hid_in hex
          obtain ⟨x, HX⟩ : ∃ x, Hid ((Wire.four c).getD k 0 = x) := ⟨_, rfl⟩
          obtain ⟨y, HY⟩ : ∃ y, Hid (bs.getD (n + 4 + k) 0 = y) := ⟨_, rfl⟩
          rw [HX.out] at cf
          rw [HY.out] at cb
          clear hex
          by_cases hxy : x = y
          · subst hxy
            go_wp2
            go_quiet (fail)
            go_wp2
            go_roundw
            case rel =>
              go_light
              refine ⟨k + 1, by omega, by go_num, fun i hi => ?_, below_drewN hbel _⟩
              by_cases hik : i < k
              · exact HEQ.out i hik
              · obtain rfl : i = k := by omega
                exact HEX.out.2 (HX.out.trans HY.out.symm)
            case measure => simp [intOf]; omega
          · have kx : ¬ ((x : Int) = (y : Int)) := by omega
            have HN : Hid (Wire.next bs = ([], 0, 22)) := by
              show _ = _
              unfold Wire.next
              rw [if_neg h4, ← HV.out, if_neg hbig, if_neg hsh, ← HC.out, if_pos ?_]
              intro e
              have h1 := HFA.out.1 e k hk4
              have h2 := HEX.out.1 h1
              rw [HX.out, HY.out] at h2
              exact hxy h2
            go_wp2
            go_quiet (fail)
            go_wp2
            go_ret3
            rw [HN.out]
            exact ⟨_, rfl, World.ownsRow_nil _ _ _ _, below_drewN hbw _⟩
        · obtain rfl : k = 4 := by omega
          have HN : Hid (Wire.next bs = ((bs.drop 4).take n, n + 8, 0)) := by
            show _ = _
            unfold Wire.next
            rw [if_neg h4, ← HV.out, if_neg hbig, if_neg hsh, ← HC.out, ← HFA.out.2 HEQ.out, if_neg (by simp)]
          have hS3 := slice_lohi b off bs.length cap 4 (n + 4) (by omega) (by omega) (by omega) 4 ((n : Int) + 4) rfl (by omega)
          rw [show n + 4 - 4 = n by omega] at hS3
          have hbA : Below wr.heap.size wr (wr.alloc (.cells #[] 5)) := (Below.refl _ _).alloc (Nat.le_refl _) _
          have hp := ((HSL.out.below hbw).below hbA).part 4 n (cap - 4) (by omega) (by omega) (by omega)
          have hpl : ((bs.drop 4).take n).length = n := by simp; omega
          have hnews := hp.news
          have hlm : (((bs.drop 4).take n).map u8v).length = n := by rw [List.length_map, hpl]
          have hown0 := own_empty wr
          have hf0 : 0 + n ≤ 140737488355328 := by omega
          have hBs : wr.heap.size ≤ (wr.alloc (.cells #[] 5)).heap.size := by simp
          have hone := one_u8 ((bs.drop 4).take n)
          have HPL := hid_in hpl
          have HSW := hid_in hbw.size
          obtain ⟨Z, HZ⟩ : ∃ Z, Hid (Z = ((bs.drop 4).take n).map u8v) := ⟨_, rfl⟩
          rw [← HZ.out] at hnews hlm hone
          clear hp hpl
          go_wp2_with (at_builtin; refine wpList_append_any rfl _ _ 25 rfl wr.heap.size 5 i5i (.int .u8 0) Try.underlying25 HI5.out HE3.out HE1.out HE2.out rfl _ 0 [] rfl hown0 (some ⟨b, off + 4, none⟩) n (cap - 4) Z rfl hlm (fun h => by cases h) hnews hone hf0 hBs ?_; intro v9 w9 hown9 hg9; have HG9 := hid_in hg9; clear hg9)
          go_ret3
          rw [HN.out]
          rw [Nat.zero_add, List.nil_append, HZ.out] at hown9
          have hb9 : Below wr.heap.size wr w9 := own_step hbA HG9.out hBs rfl hown0
          refine ⟨_, by rw [show ((n + 8 : Nat) : Int) = (n : Int) + 8 by omega]; rfl, ?_, hbw.trans (hb9.mono HSW.out)⟩
          simp only
          rw [HPL.out]
          exact own_mono hown9 HSW.out
end Go.Proofs.Ytjaplfdcdokhfaa
