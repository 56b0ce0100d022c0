/-
  The walk of the reference's Make.
-/
import Derived.Test.YtaaojfgakgjlkaaDoorF2
import Derived.Deep.RegionHeld3
import Derived.Deep.DeepCutAuto
namespace Go.Proofs.YtaaojfgakgjlkaaDoor
open Go.RowKit

set_option maxHeartbeats 4000000 in
set_option maxRecDepth 100000 in
theorem make_any (p : Option Addr) (cap b o : Nat) (ss : List St) (w : World) (hp : ss ≠ [] → p = some ⟨b, o, none⟩ ∧ b < w.heap.size) (hs : Steps w b o ss) (_hcap : ss.length ≤ cap) (_hbig : cap ≤ 9223372036854775807) :
    Calls Tryd.prog 8 #[.slice p ss.length cap] w fun e w' => ∃ v, e = .returned v ∧ PileR w' w.heap.size v (pile ss) ∧ Below w.heap.size w w' := by
  obtain ⟨i33, hi33, hz0, hz1, hz2⟩ := info_parts info33
  have HP := hid_in (fun h => (hp h).1)
  have HPB := hid_in (fun h => (hp h).2)
  have HS := hid_in hs
  generalize hn : ss.length = n at *
  have Hn := hid_in hn
  clear hn hp hs
  go_enter Tryd.func8, Tryd.ntmps8
  go_wp2_with fail
  go_loopw [3, 4] (fun v3 vi W => ∃ i : Nat, i ≤ n ∧ i ≤ 40 ∧ vi = .int .i64 (i : Int) ∧ Hid (Below w.heap.size w W) ∧ Hid (PileR W w.heap.size v3 (upto ss i))) (fun _ vi _ => n - (intOf vi).toNat)
  case atStart => exact ⟨0, by omega, by omega, rfl, Below.refl _ _, PileR.nil _ _⟩
  case round =>
    obtain ⟨i, hi, hi40, rfl, hbw, hpl⟩ := hrel
    by_cases hlt : i < n ∧ i < 40
    · obtain ⟨hin, hi4⟩ := hlt
      obtain ⟨s, hsi⟩ : ∃ s, ss[i]? = some s := ⟨_, List.getElem?_eq_getElem (by rw [Hn.out]; exact hin)⟩
      have hne : ss ≠ [] := by rintro rfl; simp at hsi
      obtain rfl := HP.out hne
      have hbl := HPB.out hne
      obtain ⟨s0, s1, s2, s3, s4⟩ := HS.out i s hsi
      have c0 : wr.cell? ⟨b, o + i * 5, none⟩ = some (.int .i64 s.K) := (hbw.out.cell (p := ⟨b, o + i * 5, none⟩) hbl).trans s0
      have c1 : wr.cell? ⟨b, o + i * 5 + 1, none⟩ = some (.string (B s.op)) := (hbw.out.cell (p := ⟨b, o + i * 5 + 1, none⟩) hbl).trans s1
      have c2 : wr.cell? ⟨b, o + i * 5 + 2, none⟩ = some (.string (B s.path)) := (hbw.out.cell (p := ⟨b, o + i * 5 + 2, none⟩) hbl).trans s2
      have c3 : wr.cell? ⟨b, o + i * 5 + 3, none⟩ = some (.int .i64 s.code) := (hbw.out.cell (p := ⟨b, o + i * 5 + 3, none⟩) hbl).trans s3
      have c4 : wr.cell? ⟨b, o + i * 5 + 4, none⟩ = some (.int .i64 s.N) := (hbw.out.cell (p := ⟨b, o + i * 5 + 4, none⟩) hbl).trans s4
      have HU := hid_in (upto_succ hsi)
      have hpl2 := hpl.out
      have hul := upto_le ss i
      generalize upto ss i = os at HU hpl2 hul
      obtain ⟨uss, hown, hlen, hare⟩ := hpl2
      obtain ⟨c, hc5, hcu, hct⟩ := tmod5 s.K
      have HSU : Hid (stepP os s = stepC c os s) := by show _ = _; unfold stepP; rw [hcu]
      have hws := hbw.out.size
      have HOWN := hid_in hown
      have HLEN := hid_in hlen
      have HARE := hid_in hare
      clear hne s0 s1 s2 s3 s4 hsi hcu hpl hown hlen hare
      obtain ⟨k, hk⟩ : ∃ k, Hid (uss.length = k) := ⟨_, rfl⟩
      have hk40 : k < 40 := by rw [← hk.out, HLEN.out]; omega
      have hmx : k + 1 ≤ maxLen := by unfold maxLen; omega
      rw [hk.out] at HOWN
      rcases (show c = 0 ∨ c = 1 ∨ c = 2 ∨ c = 3 ∨ c = 4 by omega) with rfl | rfl | rfl | rfl | rfl
      · clear hc5
        obtain ⟨m, hm⟩ : ∃ m, Hid (eno s.code = m) := ⟨_, rfl⟩
        have HSC : Hid (stepC 0 os s = os ++ [if m = 0 then none else some (.flt s.op s.path (.num m))]) := by show _ = _; rw [← hm.out]; rfl
        rw [HSC.out] at HSU
        have hm300 : m ≤ 300 := by rw [← hm.out]; exact eno_le _
        rcases Nat.eq_zero_or_pos m with h0 | h0
        · subst h0
          go_wp2_with (first
            | (go_at_call 22; refine (errno_any _ _).mono ?_; rintro e w' ⟨rfl, hw⟩; subst hw; rw [hm.out])
            | (at_builtin; refine wpList_append_lies _ rfl _ _ 27 rfl w.heap.size 33 i33 _ 5 72 Tryd.underlying27 hi33 hz0 hz1 hz2 rfl (by decide) u3 k uss.flatten rfl (((HOWN.out.alloc _).alloc _).alloc _) ⟨wr.heap.size + 1 + 1, 0, none⟩ 1 1 noneR rfl rfl (cells_new _ _ _ _ rfl _ (by simp)) none_one (by decide) hmx (by omega) (by simp; omega) (wr.heap.size + 1 + 1 + 1) (by simp) ?_; intro g cap' w1 hown' hgrow hgg hgl; have HO := hid_in hown'; have HG := hid_in hgrow; have HGG := hid_in hgg; clear hown' hgrow hgg hgl))
          have HB1 : Hid (Below w.heap.size w w1) := (((hbw.out.alloc hws _).alloc (by simp; omega) _).alloc (by simp; omega) _).grown HG.out (by simp; omega) (fun k e => own_ge HOWN.out k e)
          refine ⟨⟨i + 1, by omega, by omega, by go_num, HB1, ?_⟩, by simp [intOf]; omega⟩
          rw [HU.out, HSU.out]
          exact PileR.snoc HLEN.out HARE.out ((((Below.refl _ _).alloc (Nat.le_refl _) _).alloc (by simp) _).alloc (by simp; omega) _) hk.out HO.out HG.out (by simpa using HGG.out) rfl
        · have hq0 : ((m : Int) == 0) = false := by rw [beq_eq_false_iff_ne]; omega
          go_wp2_with (first
            | (go_at_call 22; refine (errno_any _ _).mono ?_; rintro e w' ⟨rfl, hw⟩; subst hw; rw [hm.out])
            | (at_builtin; refine wpList_append_lies _ rfl _ _ 27 rfl w.heap.size 33 i33 _ 5 72 Tryd.underlying27 hi33 hz0 hz1 hz2 rfl (by decide) u3 k uss.flatten rfl ((((HOWN.out.alloc _).alloc _).alloc _).alloc _) ⟨wr.heap.size + 1 + 1 + 1, 0, none⟩ 1 1 [iv 2, iv 0, .string (B s.op), .string (B s.path), .slice (some ⟨wr.heap.size + 1 + 1, 0, none⟩) 1 1] rfl rfl (cells_new _ _ _ _ rfl _ (by simp)) (by simp [Value.oneCell', iv]) (by decide) hmx (by omega) (by simp; omega) (wr.heap.size + 1 + 1 + 1 + 1) (by simp) ?_; intro g cap' w1 hown' hgrow hgg hgl; have HO := hid_in hown'; have HG := hid_in hgrow; have HGG := hid_in hgg; clear hown' hgrow hgg hgl))
          have HB1 : Hid (Below w.heap.size w w1) := ((((hbw.out.alloc hws _).alloc (by simp; omega) _).alloc (by simp; omega) _).alloc (by simp; omega) _).grown HG.out (by simp; omega) (fun k e => own_ge HOWN.out k e)
          refine ⟨⟨i + 1, by omega, by omega, by go_num, HB1, ?_⟩, by simp [intOf]; omega⟩
          rw [HU.out, HSU.out, if_neg (by omega)]
          refine PileR.snoc HLEN.out HARE.out (((((Below.refl _ _).alloc (Nat.le_refl _) _).alloc (by simp) _).alloc (by simp; omega) _).alloc (by simp; omega) _) hk.out HO.out HG.out (by simpa using HGG.out) ?_
          exact isRA_flt5 (us := [iv 1, iv m, e0, e0, .slice none 0 0]) (heap_mid _ _ _ _ (by simp)) rfl ⟨by omega, by simp, own_new HOWN.out _ (by omega)⟩ (Nat.le_refl _) (by decide) ⟨rfl, h0, hm300⟩
      · clear hc5
        rcases Nat.eq_zero_or_pos k with h0 | h0
        · subst h0
          obtain ⟨pp, cc, rfl⟩ : ∃ pp cc, u3 = .slice pp 0 cc := by
            rcases HOWN.out.2 with ⟨rfl, _⟩ | ⟨g, c, cur, rfl, _⟩
            · exact ⟨_, _, rfl⟩
            · exact ⟨_, _, rfl⟩
          have hos : os = [] := by
            have h1 := HLEN.out
            rw [hk.out] at h1
            exact List.eq_nil_of_length_eq_zero h1.symm
          have HOS := hid_in hos
          clear hos
          go_wp2_with (first
            | (go_at_call 22; refine (errno_any _ _).mono ?_; rintro e w' ⟨rfl, hw⟩; subst hw)
            | (at_builtin; refine wpList_append_lies _ rfl _ _ 27 rfl w.heap.size 33 i33 _ 5 72 Tryd.underlying27 hi33 hz0 hz1 hz2 rfl (by decide) (.slice pp 0 cc) 0 uss.flatten rfl (((HOWN.out.alloc _).alloc _).alloc _) ⟨wr.heap.size + 1 + 1, 0, none⟩ 1 1 noneR rfl rfl (cells_new _ _ _ _ rfl _ (by simp)) none_one (by decide) hmx (by omega) (by simp; omega) (wr.heap.size + 1 + 1 + 1) (by simp) ?_; intro g cap' w1 hown' hgrow hgg hgl; have HO := hid_in hown'; have HG := hid_in hgrow; have HGG := hid_in hgg; clear hown' hgrow hgg hgl))
          have HB1 : Hid (Below w.heap.size w w1) := (((hbw.out.alloc hws _).alloc (by simp; omega) _).alloc (by simp; omega) _).grown HG.out (by simp; omega) (fun k e => own_ge HOWN.out k e)
          refine ⟨⟨i + 1, by omega, by omega, by go_num, HB1, ?_⟩, by simp [intOf]; omega⟩
          rw [HU.out, HSU.out]
          have h := PileR.snoc (o := none) HLEN.out HARE.out ((((Below.refl _ _).alloc (Nat.le_refl _) _).alloc (by simp) _).alloc (by simp; omega) _) hk.out HO.out HG.out (by simpa using HGG.out) rfl
          rw [HOS.out] at h ⊢
          exact h
        · rcases HOWN.out.2 with ⟨_, hx0⟩ | ⟨g, c, cur, rfl, hgb, hgr, hgc, hgm, hgs, hgt⟩
          · omega
          have Hgr := hid_in hgr
          have Hgs := hid_in hgs
          have Hgt := hid_in hgt
          have Hgc := hid_in hgc
          clear hgr hgs hgt hgc
          obtain ⟨j, rfl⟩ : ∃ j, k = j + 1 := ⟨k - 1, by omega⟩
          obtain ⟨uj, huj⟩ : ∃ uj, uss[j]? = some uj := ⟨_, List.getElem?_eq_getElem (by rw [hk.out]; omega)⟩
          obtain ⟨oj, hoj⟩ : ∃ oj, os[j]? = some oj := ⟨_, List.getElem?_eq_getElem (by rw [← HLEN.out, hk.out]; omega)⟩
          have hE := HARE.out j oj uj hoj huj
          obtain ⟨kd, cd, op, path, q, qn, qc, rfl, hkd, hkd3⟩ := isROA_cells hE
          have cu : ∀ (y : Nat) u, [iv kd, iv cd, .string op, .string path, .slice q qn qc][y]? = some u → wr.cell? ⟨g, j * 5 + y, none⟩ = some u := fun y u hy => row_five Hgr.out Hgt.out (five_all HLEN.out HARE.out) hk.out huj hy
          have c5 : wr.cell? ⟨g, j * 5, none⟩ = some (.int .i64 (kd : Int)) := cu 0 _ rfl
          have c6 : wr.cell? ⟨g, j * 5 + 1, none⟩ = some (.int .i64 (cd : Int)) := cu 1 _ rfl
          have c7 : wr.cell? ⟨g, j * 5 + 2, none⟩ = some (.string op) := cu 2 _ rfl
          have c8 : wr.cell? ⟨g, j * 5 + 3, none⟩ = some (.string path) := cu 3 _ rfl
          have c9 : wr.cell? ⟨g, j * 5 + 4, none⟩ = some (.slice q qn qc) := cu 4 _ rfl
          have hgl : g < wr.heap.size := (Array.getElem?_eq_some_iff.1 Hgr.out).1
          have ff : ∀ y, wr.frozen? ⟨g, y, none⟩ = false := fun y => by simp [World.frozen?, Hgr.out]
          have f5 := ff (j * 5)
          have f6 := ff (j * 5 + 1)
          have f7 := ff (j * 5 + 2)
          have f8 := ff (j * 5 + 3)
          have f9 := ff (j * 5 + 4)
          have hj0 : ¬ ((j : Int) + 1 - 1 < 0) := by omega
          have HUJ := hid_in huj
          have HOJ := hid_in hoj
          clear cu ff huj hoj
          cases oj with
          | none =>
            obtain rfl : kd = 0 := hkd.2 rfl
            clear hE hkd hkd3
            go_wp2_with fail
            refine ⟨⟨i + 1, by omega, by omega, by go_num, hbw.out.alloc hws _, ?_⟩, by simp [intOf]; omega⟩
            rw [HU.out, HSU.out, step1_last s (by rw [← HLEN.out, hk.out]) HOJ.out]
            have hdr : os.dropLast ++ [none] = os := drop_last (by rw [← HLEN.out, hk.out]) HOJ.out
            show PileR _ _ _ (os.dropLast ++ [none])
            rw [hdr]
            have hP : PileR wr w.heap.size (.slice (some ⟨g, 0, none⟩) (j + 1) c) os := ⟨uss, by rw [hk.out]; exact HOWN.out, HLEN.out, HARE.out⟩
            exact hP.below ((Below.refl _ _).alloc (Nat.le_refl _) _)
          | some T =>
            have hE' : IsRA _ wr T _ := hE
            have HE := hid_in hE'
            have hk0 : 0 < kd := by
              rcases Nat.eq_zero_or_pos kd with h | h
              · cases hkd.1 h
              · exact h
            have hq0 : ((kd : Int) == 0) = false := by rw [beq_eq_false_iff_ne]; omega
            clear hE hE' hkd
            go_wp2_with fail
            go_region
            all_goals
              go_wp2_with fail
              refine ⟨⟨i + 1, by omega, by omega, by go_num, (((below5n hbw.out hgb (j * 5) _ _ _ _ _).alloc (by rw [size5n]; omega) _).alloc (by simp [size5n]; omega) _).drew, ?_⟩, by simp [intOf]; omega⟩
              rw [HU.out, HSU.out, step1_last s (by rw [← HLEN.out, hk.out]) HOJ.out]
              exact put_wrapR HLEN.out hk.out HARE.out hgb Hgc.out hgm Hgs.out Hgt.out Hgr.out HE.out rfl hws _ rfl _ rfl
      · clear hc5
        have hq := u64_nonneg s.N
        obtain ⟨q0, hq⟩ : ∃ q : Nat, IntKind.u64.wrap s.N = (q : Int) := ⟨_, (Int.toNat_of_nonneg hq).symm⟩
        obtain ⟨r, hr⟩ : ∃ r : Nat, Hid (r = q0 % (k + 1)) := ⟨_, rfl⟩
        have hrk : r ≤ k := by rw [hr.out]; have := Nat.mod_lt q0 (show 0 < k + 1 by omega); omega
        have hqr : (q0 : Int) % ((k : Int) + 1) = (r : Int) := by rw [hr.out]; rfl
        have hcut : cut2 s.N k = k - r := by unfold cut2 uint; rw [hq, hr.out]; rfl
        have HSC : Hid (stepC 2 os s = os.take (k - r) ++ [allO (os.drop (k - r))]) := by
          show _ = _
          unfold stepC
          simp only [← HLEN.out, hk.out, hcut]
        clear hcut hr
        have H5 := hid_in (five_all HLEN.out HARE.out)
        rcases HOWN.out.2 with ⟨rfl, hx0⟩ | ⟨g, c, cur, rfl, hgb, hgr, hgc, hgm, hgs, hgt⟩
        · subst hx0
          obtain rfl : r = 0 := by omega
          simp at hqr
          have hos : os = [] := List.eq_nil_of_length_eq_zero (HLEN.out.symm.trans hk.out)
          have hus : uss = [] := List.eq_nil_of_length_eq_zero hk.out
          subst hos hus
          have RE0 := hid_in (fun st => (row_emptyR (wr.alloc st) w.heap.size (by simp; omega) : ((wr.alloc st).alloc (.cells #[] 33)).ownsRow w.heap.size 33 5 (.slice (some ⟨(wr.alloc st).heap.size, 0, none⟩) 0 0) 0 []))
          simp only [World.size_alloc] at RE0
          go_wp2_with (first
            | (go_at_call 22; refine (errno_any _ _).mono ?_; rintro e w' ⟨rfl, hw⟩; subst hw)
            | (at_builtin; refine wpList_append_own_none rfl _ _ 27 rfl w.heap.size 33 i33 5 Tryd.underlying27 hi33 (.slice (some ⟨wr.heap.size + 1, 0, none⟩) 0 0) 0 [] rfl (RE0.out _) rfl ?_; have hmark : Hid (wr = wr) := rfl)
            | (go_at_call 24; refine (rall_nil (Ap w.heap.size wr (.slice none 0 0)) _ _ (fun b hb => Nat.lt_of_lt_of_le hb.2.1 (by simp; omega))).mono ?_; rintro e w3 ⟨rr, rfl, hi3, hb3⟩; obtain ⟨kd, cd, op, path, q, qn, qc, rfl, _, _⟩ := isROA_cells hi3; have HI3 := hid_in hi3; have HB3 := hid_in hb3; clear hi3 hb3; simp only [iv]))
          obtain ⟨W9, HW9⟩ : ∃ W9, Hid (w3.alloc (.cells #[.int .i64 (kd : Int), .int .i64 (cd : Int), .string op, .string path, .slice q qn qc] 33) = W9) := ⟨_, rfl⟩
          refine wp_world HW9.out ?_
          have HB39 : Hid (Below w3.heap.size w3 W9) := by show Below _ _ _; rw [← HW9.out]; exact (Below.refl _ _).alloc (Nat.le_refl _) _
          have HB2 : Hid (Below wr.heap.size wr ((wr.alloc (.cells #[.int .i64 s.K, .string (B s.op), .string (B s.path), .int .i64 s.code, .int .i64 s.N] 54)).alloc (.cells #[] 33))) := ((Below.refl _ _).alloc (Nat.le_refl _) _).alloc (by simp) _
          have hs2 := HB2.out.size
          have hs3 := HB3.out.size
          simp only [World.size_alloc] at hs2 hs3
          have hs9 : W9.heap.size = w3.heap.size + 1 := by rw [← HW9.out]; simp
          have hs39 : w3.heap.size < W9.heap.size := by omega
          have HCELL : Hid (∀ w', Below W9.heap.size W9 w' → w'.cell? ⟨w3.heap.size, 0, none⟩ = some (.int .i64 (kd : Int)) ∧ w'.cell? ⟨w3.heap.size, 1, none⟩ = some (.int .i64 (cd : Int)) ∧ w'.cell? ⟨w3.heap.size, 2, none⟩ = some (.string op) ∧ w'.cell? ⟨w3.heap.size, 3, none⟩ = some (.string path) ∧ w'.cell? ⟨w3.heap.size, 4, none⟩ = some (.slice q qn qc)) := fun w' hb => by
            have hh : w'.heap[w3.heap.size]? = some (.cells #[.int .i64 (kd : Int), .int .i64 (cd : Int), .string op, .string path, .slice q qn qc] 33 (0, 0)) := (hb.block _ (by omega)).trans (by rw [← HW9.out]; exact World.alloc_heap_new _ _)
            refine ⟨?_, ?_, ?_, ?_, ?_⟩ <;> (rw [cell_of_row _ _ _ _ _ (0, 0) hh]; rfl)
          have BA : Hid (∀ o, Below W9.heap.size W9 (W9.alloc o)) := fun o => (Below.refl _ _).alloc (Nat.le_refl _) _
          have BA2 : Hid (∀ o o', Below W9.heap.size W9 ((W9.alloc o).alloc o')) := fun o o' => (BA.out o).alloc (by simp) _
          clear hs9
          go_region_held3 (fun w' => w'.cell? ⟨w3.heap.size, 0, none⟩ = some (.int .i64 (kd : Int)) ∧ w'.cell? ⟨w3.heap.size, 1, none⟩ = some (.int .i64 (cd : Int)) ∧ w'.cell? ⟨w3.heap.size, 2, none⟩ = some (.string op) ∧ w'.cell? ⟨w3.heap.size, 3, none⟩ = some (.string path) ∧ w'.cell? ⟨w3.heap.size, 4, none⟩ = some (.slice q qn qc)) (first | (exact HCELL.out _ HB5.out) | (exact HCELL.out _ (BA.out _)) | (exact HCELL.out _ (BA.out _).drew) | (exact HCELL.out _ (BA2.out _ _)) | (exact HCELL.out _ (BA2.out _ _).drew) | (exact HCELL.out _ (Below.refl _ _)) | (exact HCELL.out _ (Below.refl _ _).drew)) (first
            | (refine step_none rfl (.tmp 78) (.tmp 81) rfl W9.heap.size i33 hi33 (.slice (some ⟨W9.heap.size, 0, none⟩) 0 0) 0 [] rfl (drewR (row_emptyR W9 _ (Nat.le_refl _))) rfl ?_; have hmark : Hid (W9 = W9) := rfl)
            | (refine step_none rfl (.tmp 78) (.tmp 81) rfl W9.heap.size i33 hi33 (.slice (some ⟨W9.heap.size, 0, none⟩) 0 0) 0 [] rfl (drewR ((row_emptyR W9 _ (Nat.le_refl _)).alloc _)) rfl ?_; have hmark : Hid (W9 = W9) := rfl)
            | (refine step_none rfl (.tmp 78) (.tmp 81) rfl W9.heap.size i33 hi33 (.slice (some ⟨W9.heap.size + 1, 0, none⟩) 0 0) 0 [] rfl (drewR (row_emptyR1 W9 _)) rfl ?_; have hmark : Hid (W9 = W9) := rfl)
            | (refine step_app rfl (.tmp 82) (.tmp 84) rfl W9.heap.size i33 _ hi33 hz0 hz1 hz2 rfl (.slice (some ⟨W9.heap.size, 0, none⟩) 0 0) 0 [] rfl (drewR ((row_emptyR W9 _ (Nat.le_refl _)).alloc _)) ⟨W9.heap.size + 1, 0, none⟩ 1 1 [.int .i64 (kd : Int), .int .i64 (cd : Int), .string op, .string path, .slice q qn qc] rfl rfl (cells_newd _ _ _ _ rfl _ (by simp)) (by simp [Value.oneCell']) (by omega) (by simp; omega) ?_; intro v5 w5 hown5 hgrow5; have HB5 := hid_in ((BA2.out _ _).drew.grown hgrow5 (by simp; omega) (fun k e => by simp [Value.ownBlock] at e; omega)); have HO5 := hid_in hown5; clear hown5 hgrow5)
            | (refine step_app rfl (.tmp 82) (.tmp 84) rfl W9.heap.size i33 _ hi33 hz0 hz1 hz2 rfl (.slice (some ⟨W9.heap.size + 1, 0, none⟩) 0 0) 0 [] rfl (drewR (row_emptyR1 W9 _)) ⟨W9.heap.size, 0, none⟩ 1 1 [.int .i64 (kd : Int), .int .i64 (cd : Int), .string op, .string path, .slice q qn qc] rfl rfl (cells_mid _ _ _ _ _ rfl) (by simp [Value.oneCell']) (by omega) (by simp; omega) ?_; intro v5 w5 hown5 hgrow5; have HB5 := hid_in ((BA2.out _ _).drew.grown hgrow5 (by simp; omega) (fun k e => by simp [Value.ownBlock] at e; omega)); have HO5 := hid_in hown5; clear hown5 hgrow5))
          all_goals
            go_wp2_with fail
            have HBF : Hid (Below w.heap.size w w5) := (((hbw.out.trans (HB2.out.mono hws)).trans (HB3.out.mono (by simp; omega))).trans (HB39.out.mono (by omega))).trans (HB5.out.mono (by omega))
            refine ⟨⟨i + 1, by omega, by omega, by go_num, HBF, ?_⟩, by simp [intOf]; omega⟩
            rw [HU.out, HSU.out, HSC.out]
            exact pile_cutR (m := 0) (uss := []) HLEN.out (by simp) HARE.out hws HB2.out HB3.out HI3.out HB39.out HB5.out HO5.out
        · have Hgr := hid_in hgr
          have Hgs := hid_in hgs
          have Hgt := hid_in hgt
          have hgl : g < wr.heap.size := (Array.getElem?_eq_some_iff.1 Hgr.out).1
          clear hgr hgs hgt
          have hc9 : c ≤ 9223372036854775807 := by unfold maxLen at hgm; omega
          by_cases hz : r = 0 ∧ c = k
          · obtain ⟨rfl, rfl⟩ := hz
            rw [Nat.sub_zero] at HSC
            simp at hqr
            have hk' : Hid (uss.length = c + 0) := hk.out
            have HLR := hid_in (show (uss.drop c).length = 0 by rw [List.length_drop, hk.out]; omega)
            have HNIL := hid_in (show uss.drop c = [] from List.eq_nil_of_length_eq_zero HLR.out)
            have HLD := hid_in (show (uss.drop c).flatten.length = 0 * 5 by rw [HNIL.out]; rfl)
            have HONE := hid_in (fun u hu => by rw [HNIL.out] at hu; simp at hu : ∀ u ∈ (uss.drop c).flatten, u.oneCell' = true)
            have HCC : Hid (∀ (W : World) (j : Nat) u, (uss.drop c).flatten[j]? = some u → W.cell? ((⟨g, 0, none⟩ : Addr).add j) = some u) := fun W j u hu => by rw [HNIL.out] at hu; simp at hu
            have RE0 := hid_in (fun st => (row_emptyR (wr.alloc st) w.heap.size (by simp; omega) : ((wr.alloc st).alloc (.cells #[] 33)).ownsRow w.heap.size 33 5 (.slice (some ⟨(wr.alloc st).heap.size, 0, none⟩) 0 0) 0 []))
            simp only [World.size_alloc] at RE0
            go_wp2_with (first
              | (go_at_call 22; refine (errno_any _ _).mono ?_; rintro e w' ⟨rfl, hw⟩; subst hw)
              | (at_builtin; refine wpList_append_own_at _ rfl _ _ 27 rfl w.heap.size 33 i33 _ 5 72 Tryd.underlying27 hi33 hz0 hz1 hz2 rfl (by decide) (.slice (some ⟨wr.heap.size + 1, 0, none⟩) 0 0) 0 [] rfl (RE0.out _) ⟨g, 0, none⟩ 0 0 (uss.drop c).flatten rfl HLD.out (HCC.out _) HONE.out (by unfold maxLen; omega) (by omega) (by simp; omega) ?_; intro v2 w2 hown2 hgrow2 _ _; have hb2 : Below wr.heap.size wr w2 := (((Below.refl _ _).alloc (Nat.le_refl _) _).alloc (by simp) _).grown hgrow2 (by simp; omega) (fun k e => by simp [Value.ownBlock] at e; omega); rw [Nat.zero_add, List.nil_append] at hown2; obtain ⟨p2, c2, rfl, hre2⟩ := copy_rerrs HLEN.out hk'.out HARE.out hown2 hb2; have HRE2 := hid_in hre2; have HB2 := hid_in hb2; clear hown2 hgrow2 hre2 hb2)
              | (go_at_call 24; refine (rall_r HRE2.out (fun b hb => Nat.lt_of_lt_of_le hb.2.1 HB2.out.size) HLR.out (by omega)).mono ?_; rintro e w3 ⟨rr, rfl, hi3, hb3⟩; obtain ⟨kd, cd, op, path, q, qn, qc, rfl, _, _⟩ := isROA_cells hi3; have HI3 := hid_in hi3; have HB3 := hid_in hb3; clear hi3 hb3; simp only [iv]))
            have km0 : (0 : Int) ≤ (c : Int) := by omega
            obtain ⟨W9, HW9⟩ : ∃ W9, Hid (w3.alloc (.cells #[.int .i64 (kd : Int), .int .i64 (cd : Int), .string op, .string path, .slice q qn qc] 33) = W9) := ⟨_, rfl⟩
            refine wp_world HW9.out ?_
            have HB39 : Hid (Below w3.heap.size w3 W9) := by show Below _ _ _; rw [← HW9.out]; exact (Below.refl _ _).alloc (Nat.le_refl _) _
            have hs2 := HB2.out.size
            have hs3 := HB3.out.size
            have hs9 : W9.heap.size = w3.heap.size + 1 := by rw [← HW9.out]; simp
            have hs39 : w3.heap.size < W9.heap.size := by omega
            have HCELL : Hid (∀ w', Below W9.heap.size W9 w' → w'.cell? ⟨w3.heap.size, 0, none⟩ = some (.int .i64 (kd : Int)) ∧ w'.cell? ⟨w3.heap.size, 1, none⟩ = some (.int .i64 (cd : Int)) ∧ w'.cell? ⟨w3.heap.size, 2, none⟩ = some (.string op) ∧ w'.cell? ⟨w3.heap.size, 3, none⟩ = some (.string path) ∧ w'.cell? ⟨w3.heap.size, 4, none⟩ = some (.slice q qn qc)) := fun w' hb => by
              have hh : w'.heap[w3.heap.size]? = some (.cells #[.int .i64 (kd : Int), .int .i64 (cd : Int), .string op, .string path, .slice q qn qc] 33 (0, 0)) := (hb.block _ (by omega)).trans (by rw [← HW9.out]; exact World.alloc_heap_new _ _)
              refine ⟨?_, ?_, ?_, ?_, ?_⟩ <;> (rw [cell_of_row _ _ _ _ _ (0, 0) hh]; rfl)
            have HSRC : Hid (∀ w', Below W9.heap.size W9 w' → ∀ (j : Nat) u, (uss.take c).flatten[j]? = some u → w'.cell? ((⟨g, 0, none⟩ : Addr).add j) = some u) := fun w' hb => row_to Hgr.out Hgt.out (((HB2.out.trans (HB3.out.mono hs2)).trans (HB39.out.mono (by omega))).trans (hb.mono (by omega))) c H5.out
            have HLT := hid_in (show (uss.take c).flatten.length = c * 5 by rw [flat_len (five_take H5.out c), List.length_take, hk.out]; congr 1; omega)
            have HONT := hid_in (fun u hu => one_all HLEN.out HARE.out u (by rw [flat_take H5.out] at hu; exact List.mem_of_mem_take hu) : ∀ u ∈ (uss.take c).flatten, u.oneCell' = true)
            have BA : Hid (∀ o, Below W9.heap.size W9 (W9.alloc o)) := fun o => (Below.refl _ _).alloc (Nat.le_refl _) _
            have BA2 : Hid (∀ o o', Below W9.heap.size W9 ((W9.alloc o).alloc o')) := fun o o' => (BA.out o).alloc (by simp) _
            clear hs9
            go_region_held3 (fun w' => w'.cell? ⟨w3.heap.size, 0, none⟩ = some (.int .i64 (kd : Int)) ∧ w'.cell? ⟨w3.heap.size, 1, none⟩ = some (.int .i64 (cd : Int)) ∧ w'.cell? ⟨w3.heap.size, 2, none⟩ = some (.string op) ∧ w'.cell? ⟨w3.heap.size, 3, none⟩ = some (.string path) ∧ w'.cell? ⟨w3.heap.size, 4, none⟩ = some (.slice q qn qc)) (first | (exact HCELL.out _ HB5.out) | (exact HCELL.out _ HB4.out) | (exact HCELL.out _ (HB4.out.alloc hs4 _)) | (exact HCELL.out _ (BA.out _)) | (exact HCELL.out _ (BA.out _).drew) | (exact HCELL.out _ (BA2.out _ _)) | (exact HCELL.out _ (BA2.out _ _).drew) | (exact HCELL.out _ (Below.refl _ _)) | (exact HCELL.out _ (Below.refl _ _).drew)) (first
              | (refine step_app rfl (.tmp 78) (.tmp 81) rfl W9.heap.size i33 _ hi33 hz0 hz1 hz2 rfl (.slice (some ⟨W9.heap.size, 0, none⟩) 0 0) 0 [] rfl (drewR (row_emptyR W9 _ (Nat.le_refl _))) ⟨g, 0, none⟩ c c (uss.take c).flatten rfl HLT.out (HSRC.out _ (BA.out _).drew) HONT.out (by omega) (by simp) ?_; intro v4 w4 hown4 hgrow4; rw [Nat.zero_add, List.nil_append] at hown4; have hb4 := ((BA.out _).drew).grown hgrow4 (by simp) (fun k e => by simp [Value.ownBlock] at e; omega); have HO4 := hid_in hown4; have HB4 := hid_in hb4; have hs4 := hb4.size; clear hown4 hgrow4 hb4)
              | (refine step_app rfl (.tmp 78) (.tmp 81) rfl W9.heap.size i33 _ hi33 hz0 hz1 hz2 rfl (.slice (some ⟨W9.heap.size, 0, none⟩) 0 0) 0 [] rfl (drewR ((row_emptyR W9 _ (Nat.le_refl _)).alloc _)) ⟨g, 0, none⟩ c c (uss.take c).flatten rfl HLT.out (HSRC.out _ (BA2.out _ _).drew) HONT.out (by omega) (by simp; omega) ?_; intro v4 w4 hown4 hgrow4; rw [Nat.zero_add, List.nil_append] at hown4; have hb4 := ((BA2.out _ _).drew).grown hgrow4 (by simp; omega) (fun k e => by simp [Value.ownBlock] at e; omega); have HK4 := hid_in (kid_two hgrow4); have HO4 := hid_in hown4; have HB4 := hid_in hb4; have hs4 := hb4.size; clear hown4 hgrow4 hb4)
              | (refine step_app rfl (.tmp 78) (.tmp 81) rfl W9.heap.size i33 _ hi33 hz0 hz1 hz2 rfl (.slice (some ⟨W9.heap.size + 1, 0, none⟩) 0 0) 0 [] rfl (drewR (row_emptyR1 W9 _)) ⟨g, 0, none⟩ c c (uss.take c).flatten rfl HLT.out (HSRC.out _ (BA2.out _ _).drew) HONT.out (by omega) (by simp; omega) ?_; intro v4 w4 hown4 hgrow4; rw [Nat.zero_add, List.nil_append] at hown4; have hb4 := ((BA2.out _ _).drew).grown hgrow4 (by simp; omega) (fun k e => by simp [Value.ownBlock] at e; omega); have HK4 := hid_in (kid_one hgrow4); have HO4 := hid_in hown4; have HB4 := hid_in hb4; have hs4 := hb4.size; clear hown4 hgrow4 hb4)
              | (refine step_app rfl (.tmp 82) (.tmp 84) rfl W9.heap.size i33 _ hi33 hz0 hz1 hz2 rfl v4 c _ rfl (HO4.out.alloc _) ⟨w4.heap.size, 0, none⟩ 1 1 [.int .i64 (kd : Int), .int .i64 (cd : Int), .string op, .string path, .slice q qn qc] rfl rfl (cells_new _ _ _ _ rfl _ rfl) (by simp [Value.oneCell']) (by omega) (by simp; omega) ?_; intro v5 w5 hown5 hgrow5; have HB5 := hid_in ((HB4.out.alloc hs4 _).grown hgrow5 (by simp; omega) (fun k e => own_ge HO4.out k e)); have HO5 := hid_in hown5; clear hown5 hgrow5)
              | (refine step_app rfl (.tmp 82) (.tmp 84) rfl W9.heap.size i33 _ hi33 hz0 hz1 hz2 rfl v4 c _ rfl HO4.out ⟨W9.heap.size + 1, 0, none⟩ 1 1 [.int .i64 (kd : Int), .int .i64 (cd : Int), .string op, .string path, .slice q qn qc] rfl rfl (World.news_of_block HK4.out) (by simp [Value.oneCell']) (by omega) (by omega) ?_; intro v5 w5 hown5 hgrow5; have HB5 := hid_in (HB4.out.grown hgrow5 (by omega) (fun k e => own_ge HO4.out k e)); have HO5 := hid_in hown5; clear hown5 hgrow5)
              | (refine step_app rfl (.tmp 82) (.tmp 84) rfl W9.heap.size i33 _ hi33 hz0 hz1 hz2 rfl v4 c _ rfl HO4.out ⟨W9.heap.size, 0, none⟩ 1 1 [.int .i64 (kd : Int), .int .i64 (cd : Int), .string op, .string path, .slice q qn qc] rfl rfl (World.news_of_block HK4.out) (by simp [Value.oneCell']) (by omega) (by omega) ?_; intro v5 w5 hown5 hgrow5; have HB5 := hid_in (HB4.out.grown hgrow5 (by omega) (fun k e => own_ge HO4.out k e)); have HO5 := hid_in hown5; clear hown5 hgrow5))
            all_goals
              go_wp2_with fail
              have HBF : Hid (Below w.heap.size w w5) := (((hbw.out.trans (HB2.out.mono hws)).trans (HB3.out.mono (by omega))).trans (HB39.out.mono (by omega))).trans (HB5.out.mono (by omega))
              refine ⟨⟨i + 1, by omega, by omega, by go_num, HBF, ?_⟩, by simp [intOf]; omega⟩
              rw [HU.out, HSU.out, HSC.out]
              exact pile_cutR HLEN.out (by rw [hk.out]; omega) HARE.out hws HB2.out HB3.out HI3.out HB39.out HB5.out HO5.out
          · obtain ⟨m, rfl⟩ : ∃ m, k = m + r := ⟨k - r, by omega⟩
            rw [Nat.add_sub_cancel] at HSC
            push_cast at hqr
            have hmc : m < c := by omega
            have HLR := hid_in (show (uss.drop m).length = r by rw [List.length_drop, hk.out]; omega)
            have HLD := hid_in (show (uss.drop m).flatten.length = r * 5 by rw [flat_len (five_drop H5.out m), HLR.out])
            have HONE := hid_in (fun u hu => one_all HLEN.out HARE.out u (by rw [flat_drop H5.out] at hu; exact List.mem_of_mem_drop hu) : ∀ u ∈ (uss.drop m).flatten, u.oneCell' = true)
            have RE0 := hid_in (fun st => (row_emptyR (wr.alloc st) w.heap.size (by simp; omega) : ((wr.alloc st).alloc (.cells #[] 33)).ownsRow w.heap.size 33 5 (.slice (some ⟨(wr.alloc st).heap.size, 0, none⟩) 0 0) 0 []))
            simp only [World.size_alloc] at RE0
            clear hz
            go_wp2_with (first
              | (go_at_call 22; refine (errno_any _ _).mono ?_; rintro e w' ⟨rfl, hw⟩; subst hw)
              | (at_builtin; refine wpList_append_own_at _ rfl _ _ 27 rfl w.heap.size 33 i33 _ 5 72 Tryd.underlying27 hi33 hz0 hz1 hz2 rfl (by decide) (.slice (some ⟨wr.heap.size + 1, 0, none⟩) 0 0) 0 [] rfl (RE0.out _) ⟨g, m * 5, none⟩ r (c - m) (uss.drop m).flatten rfl HLD.out (row_from Hgr.out Hgt.out (((Below.refl _ _).alloc (Nat.le_refl _) _).alloc (by simp) _) _ m rfl H5.out) HONE.out (by unfold maxLen; omega) (by omega) (by simp; omega) ?_; intro v2 w2 hown2 hgrow2 _ _; have hb2 : Below wr.heap.size wr w2 := (((Below.refl _ _).alloc (Nat.le_refl _) _).alloc (by simp) _).grown hgrow2 (by simp; omega) (fun k e => by simp [Value.ownBlock] at e; omega); rw [Nat.zero_add, List.nil_append] at hown2; obtain ⟨p2, c2, rfl, hre2⟩ := copy_rerrs HLEN.out hk.out HARE.out hown2 hb2; have HRE2 := hid_in hre2; have HB2 := hid_in hb2; clear hown2 hgrow2 hre2 hb2)
              | (go_at_call 24; refine (rall_r HRE2.out (fun b hb => Nat.lt_of_lt_of_le hb.2.1 HB2.out.size) HLR.out (by omega)).mono ?_; rintro e w3 ⟨rr, rfl, hi3, hb3⟩; obtain ⟨kd, cd, op, path, q, qn, qc, rfl, _, _⟩ := isROA_cells hi3; have HI3 := hid_in hi3; have HB3 := hid_in hb3; clear hi3 hb3; simp only [iv]))
            have km0 : (0 : Int) ≤ (m : Int) := by omega
            have kmc : (m : Int) ≤ (c : Int) := by omega
            obtain ⟨W9, HW9⟩ : ∃ W9, Hid (w3.alloc (.cells #[.int .i64 (kd : Int), .int .i64 (cd : Int), .string op, .string path, .slice q qn qc] 33) = W9) := ⟨_, rfl⟩
            refine wp_world HW9.out ?_
            have HB39 : Hid (Below w3.heap.size w3 W9) := by show Below _ _ _; rw [← HW9.out]; exact (Below.refl _ _).alloc (Nat.le_refl _) _
            have hs2 := HB2.out.size
            have hs3 := HB3.out.size
            have hs9 : W9.heap.size = w3.heap.size + 1 := by rw [← HW9.out]; simp
            have hs39 : w3.heap.size < W9.heap.size := by omega
            have HCELL : Hid (∀ w', Below W9.heap.size W9 w' → w'.cell? ⟨w3.heap.size, 0, none⟩ = some (.int .i64 (kd : Int)) ∧ w'.cell? ⟨w3.heap.size, 1, none⟩ = some (.int .i64 (cd : Int)) ∧ w'.cell? ⟨w3.heap.size, 2, none⟩ = some (.string op) ∧ w'.cell? ⟨w3.heap.size, 3, none⟩ = some (.string path) ∧ w'.cell? ⟨w3.heap.size, 4, none⟩ = some (.slice q qn qc)) := fun w' hb => by
              have hh : w'.heap[w3.heap.size]? = some (.cells #[.int .i64 (kd : Int), .int .i64 (cd : Int), .string op, .string path, .slice q qn qc] 33 (0, 0)) := (hb.block _ (by omega)).trans (by rw [← HW9.out]; exact World.alloc_heap_new _ _)
              refine ⟨?_, ?_, ?_, ?_, ?_⟩ <;> (rw [cell_of_row _ _ _ _ _ (0, 0) hh]; rfl)
            have HSRC : Hid (∀ w', Below W9.heap.size W9 w' → ∀ (j : Nat) u, (uss.take m).flatten[j]? = some u → w'.cell? ((⟨g, 0, none⟩ : Addr).add j) = some u) := fun w' hb => row_to Hgr.out Hgt.out (((HB2.out.trans (HB3.out.mono hs2)).trans (HB39.out.mono (by omega))).trans (hb.mono (by omega))) m H5.out
            have HLT := hid_in (show (uss.take m).flatten.length = m * 5 by rw [flat_len (five_take H5.out m), List.length_take, hk.out]; congr 1; omega)
            have HONT := hid_in (fun u hu => one_all HLEN.out HARE.out u (by rw [flat_take H5.out] at hu; exact List.mem_of_mem_take hu) : ∀ u ∈ (uss.take m).flatten, u.oneCell' = true)
            have BA : Hid (∀ o, Below W9.heap.size W9 (W9.alloc o)) := fun o => (Below.refl _ _).alloc (Nat.le_refl _) _
            have BA2 : Hid (∀ o o', Below W9.heap.size W9 ((W9.alloc o).alloc o')) := fun o o' => (BA.out o).alloc (by simp) _
            clear hs9
            go_region_held3 (fun w' => w'.cell? ⟨w3.heap.size, 0, none⟩ = some (.int .i64 (kd : Int)) ∧ w'.cell? ⟨w3.heap.size, 1, none⟩ = some (.int .i64 (cd : Int)) ∧ w'.cell? ⟨w3.heap.size, 2, none⟩ = some (.string op) ∧ w'.cell? ⟨w3.heap.size, 3, none⟩ = some (.string path) ∧ w'.cell? ⟨w3.heap.size, 4, none⟩ = some (.slice q qn qc)) (first | (exact HCELL.out _ HB5.out) | (exact HCELL.out _ HB4.out) | (exact HCELL.out _ (HB4.out.alloc hs4 _)) | (exact HCELL.out _ (BA.out _)) | (exact HCELL.out _ (BA.out _).drew) | (exact HCELL.out _ (BA2.out _ _)) | (exact HCELL.out _ (BA2.out _ _).drew) | (exact HCELL.out _ (Below.refl _ _)) | (exact HCELL.out _ (Below.refl _ _).drew)) (first
              | (refine step_app rfl (.tmp 78) (.tmp 81) rfl W9.heap.size i33 _ hi33 hz0 hz1 hz2 rfl (.slice (some ⟨W9.heap.size, 0, none⟩) 0 0) 0 [] rfl (drewR (row_emptyR W9 _ (Nat.le_refl _))) ⟨g, 0, none⟩ m c (uss.take m).flatten rfl HLT.out (HSRC.out _ (BA.out _).drew) HONT.out (by omega) (by simp) ?_; intro v4 w4 hown4 hgrow4; rw [Nat.zero_add, List.nil_append] at hown4; have hb4 := ((BA.out _).drew).grown hgrow4 (by simp) (fun k e => by simp [Value.ownBlock] at e; omega); have HO4 := hid_in hown4; have HB4 := hid_in hb4; have hs4 := hb4.size; clear hown4 hgrow4 hb4)
              | (refine step_app rfl (.tmp 78) (.tmp 81) rfl W9.heap.size i33 _ hi33 hz0 hz1 hz2 rfl (.slice (some ⟨W9.heap.size, 0, none⟩) 0 0) 0 [] rfl (drewR ((row_emptyR W9 _ (Nat.le_refl _)).alloc _)) ⟨g, 0, none⟩ m c (uss.take m).flatten rfl HLT.out (HSRC.out _ (BA2.out _ _).drew) HONT.out (by omega) (by simp; omega) ?_; intro v4 w4 hown4 hgrow4; rw [Nat.zero_add, List.nil_append] at hown4; have hb4 := ((BA2.out _ _).drew).grown hgrow4 (by simp; omega) (fun k e => by simp [Value.ownBlock] at e; omega); have HK4 := hid_in (kid_two hgrow4); have HO4 := hid_in hown4; have HB4 := hid_in hb4; have hs4 := hb4.size; clear hown4 hgrow4 hb4)
              | (refine step_app rfl (.tmp 78) (.tmp 81) rfl W9.heap.size i33 _ hi33 hz0 hz1 hz2 rfl (.slice (some ⟨W9.heap.size + 1, 0, none⟩) 0 0) 0 [] rfl (drewR (row_emptyR1 W9 _)) ⟨g, 0, none⟩ m c (uss.take m).flatten rfl HLT.out (HSRC.out _ (BA2.out _ _).drew) HONT.out (by omega) (by simp; omega) ?_; intro v4 w4 hown4 hgrow4; rw [Nat.zero_add, List.nil_append] at hown4; have hb4 := ((BA2.out _ _).drew).grown hgrow4 (by simp; omega) (fun k e => by simp [Value.ownBlock] at e; omega); have HK4 := hid_in (kid_one hgrow4); have HO4 := hid_in hown4; have HB4 := hid_in hb4; have hs4 := hb4.size; clear hown4 hgrow4 hb4)
              | (refine step_app rfl (.tmp 82) (.tmp 84) rfl W9.heap.size i33 _ hi33 hz0 hz1 hz2 rfl v4 m _ rfl (HO4.out.alloc _) ⟨w4.heap.size, 0, none⟩ 1 1 [.int .i64 (kd : Int), .int .i64 (cd : Int), .string op, .string path, .slice q qn qc] rfl rfl (cells_new _ _ _ _ rfl _ rfl) (by simp [Value.oneCell']) (by omega) (by simp; omega) ?_; intro v5 w5 hown5 hgrow5; have HB5 := hid_in ((HB4.out.alloc hs4 _).grown hgrow5 (by simp; omega) (fun k e => own_ge HO4.out k e)); have HO5 := hid_in hown5; clear hown5 hgrow5)
              | (refine step_app rfl (.tmp 82) (.tmp 84) rfl W9.heap.size i33 _ hi33 hz0 hz1 hz2 rfl v4 m _ rfl HO4.out ⟨W9.heap.size + 1, 0, none⟩ 1 1 [.int .i64 (kd : Int), .int .i64 (cd : Int), .string op, .string path, .slice q qn qc] rfl rfl (World.news_of_block HK4.out) (by simp [Value.oneCell']) (by omega) (by omega) ?_; intro v5 w5 hown5 hgrow5; have HB5 := hid_in (HB4.out.grown hgrow5 (by omega) (fun k e => own_ge HO4.out k e)); have HO5 := hid_in hown5; clear hown5 hgrow5)
              | (refine step_app rfl (.tmp 82) (.tmp 84) rfl W9.heap.size i33 _ hi33 hz0 hz1 hz2 rfl v4 m _ rfl HO4.out ⟨W9.heap.size, 0, none⟩ 1 1 [.int .i64 (kd : Int), .int .i64 (cd : Int), .string op, .string path, .slice q qn qc] rfl rfl (World.news_of_block HK4.out) (by simp [Value.oneCell']) (by omega) (by omega) ?_; intro v5 w5 hown5 hgrow5; have HB5 := hid_in (HB4.out.grown hgrow5 (by omega) (fun k e => own_ge HO4.out k e)); have HO5 := hid_in hown5; clear hown5 hgrow5))
            all_goals
              go_wp2_with fail
              have HBF : Hid (Below w.heap.size w w5) := (((hbw.out.trans (HB2.out.mono hws)).trans (HB3.out.mono (by omega))).trans (HB39.out.mono (by omega))).trans (HB5.out.mono (by omega))
              refine ⟨⟨i + 1, by omega, by omega, by go_num, HBF, ?_⟩, by simp [intOf]; omega⟩
              rw [HU.out, HSU.out, HSC.out]
              exact pile_cutR HLEN.out (by rw [hk.out]; omega) HARE.out hws HB2.out HB3.out HI3.out HB39.out HB5.out HO5.out
      · clear hc5
        obtain ⟨m, hm⟩ : ∃ m, Hid (eno s.code = m) := ⟨_, rfl⟩
        have HSC : Hid (stepC 3 os s = os ++ [numO m]) := by show _ = _; rw [← hm.out]; rfl
        rw [HSC.out] at HSU
        have hm300 : m ≤ 300 := by rw [← hm.out]; exact eno_le _
        rcases Nat.eq_zero_or_pos m with h0 | h0
        · subst h0
          go_wp2_with (first
            | (go_at_call 22; refine (errno_any _ _).mono ?_; rintro e w' ⟨rfl, hw⟩; subst hw; rw [hm.out])
            | (at_builtin; refine wpList_append_lies _ rfl _ _ 27 rfl w.heap.size 33 i33 _ 5 72 Tryd.underlying27 hi33 hz0 hz1 hz2 rfl (by decide) u3 k uss.flatten rfl (((HOWN.out.alloc _).alloc _).alloc _) ⟨wr.heap.size + 1 + 1, 0, none⟩ 1 1 noneR rfl rfl (cells_new _ _ _ _ rfl _ (by simp)) none_one (by decide) hmx (by omega) (by simp; omega) (wr.heap.size + 1 + 1 + 1) (by simp) ?_; intro g cap' w1 hown' hgrow hgg hgl; have HO := hid_in hown'; have HG := hid_in hgrow; have HGG := hid_in hgg; clear hown' hgrow hgg hgl))
          have HB1 : Hid (Below w.heap.size w w1) := (((hbw.out.alloc hws _).alloc (by simp; omega) _).alloc (by simp; omega) _).grown HG.out (by simp; omega) (fun k e => own_ge HOWN.out k e)
          refine ⟨⟨i + 1, by omega, by omega, by go_num, HB1, ?_⟩, by simp [intOf]; omega⟩
          rw [HU.out, HSU.out]
          exact PileR.snoc HLEN.out HARE.out ((((Below.refl _ _).alloc (Nat.le_refl _) _).alloc (by simp) _).alloc (by simp; omega) _) hk.out HO.out HG.out (by simpa using HGG.out) rfl
        · have hq0 : ((m : Int) == 0) = false := by rw [beq_eq_false_iff_ne]; omega
          go_wp2_with (first
            | (go_at_call 22; refine (errno_any _ _).mono ?_; rintro e w' ⟨rfl, hw⟩; subst hw; rw [hm.out])
            | (at_builtin; refine wpList_append_lies _ rfl _ _ 27 rfl w.heap.size 33 i33 _ 5 72 Tryd.underlying27 hi33 hz0 hz1 hz2 rfl (by decide) u3 k uss.flatten rfl (((HOWN.out.alloc _).alloc _).alloc _) ⟨wr.heap.size + 1 + 1, 0, none⟩ 1 1 [iv 1, iv m, e0, e0, .slice none 0 0] rfl rfl (cells_new _ _ _ _ rfl _ (by simp)) (by simp [Value.oneCell', iv, e0]) (by decide) hmx (by omega) (by simp; omega) (wr.heap.size + 1 + 1 + 1) (by simp) ?_; intro g cap' w1 hown' hgrow hgg hgl; have HO := hid_in hown'; have HG := hid_in hgrow; have HGG := hid_in hgg; clear hown' hgrow hgg hgl))
          have HB1 : Hid (Below w.heap.size w w1) := (((hbw.out.alloc hws _).alloc (by simp; omega) _).alloc (by simp; omega) _).grown HG.out (by simp; omega) (fun k e => own_ge HOWN.out k e)
          refine ⟨⟨i + 1, by omega, by omega, by go_num, HB1, ?_⟩, by simp [intOf]; omega⟩
          rw [HU.out, HSU.out]
          exact PileR.snoc HLEN.out HARE.out ((((Below.refl _ _).alloc (Nat.le_refl _) _).alloc (by simp) _).alloc (by simp; omega) _) hk.out HO.out HG.out (by simpa using HGG.out) (by unfold numO; rw [if_neg (by omega)]; exact ⟨rfl, h0, hm300⟩)
      · clear hc5
        go_wp2_with (first
          | (go_at_call 22; refine (errno_any _ _).mono ?_; rintro e w' ⟨rfl, hw⟩; subst hw)
          | (at_builtin; refine wpList_append_lies _ rfl _ _ 27 rfl w.heap.size 33 i33 _ 5 72 Tryd.underlying27 hi33 hz0 hz1 hz2 rfl (by decide) u3 k uss.flatten rfl (((HOWN.out.alloc _).alloc _).alloc _) ⟨wr.heap.size + 1 + 1, 0, none⟩ 1 1 noneR rfl rfl (cells_new _ _ _ _ rfl _ (by simp)) none_one (by decide) hmx (by omega) (by simp; omega) (wr.heap.size + 1 + 1 + 1) (by simp) ?_; intro g cap' w1 hown' hgrow hgg hgl; have HO := hid_in hown'; have HG := hid_in hgrow; have HGG := hid_in hgg; clear hown' hgrow hgg hgl))
        have HB1 : Hid (Below w.heap.size w w1) := (((hbw.out.alloc hws _).alloc (by simp; omega) _).alloc (by simp; omega) _).grown HG.out (by simp; omega) (fun k e => own_ge HOWN.out k e)
        refine ⟨⟨i + 1, by omega, by omega, by go_num, HB1, ?_⟩, by simp [intOf]; omega⟩
        rw [HU.out, HSU.out]
        exact PileR.snoc HLEN.out HARE.out ((((Below.refl _ _).alloc (Nat.le_refl _) _).alloc (by simp) _).alloc (by simp; omega) _) hk.out HO.out HG.out (by simpa using HGG.out) rfl
    · have hui : upto ss i = pile ss := by
        unfold upto pile
        by_cases h : i < n
        · rw [show i = 40 by omega]
        · rw [List.take_of_length_le (by rw [Hn.out]; omega), List.take_of_length_le (by rw [Hn.out]; omega)]
      have HUI := hid_in hui
      have hc : ¬ i < n ∨ (i < n ∧ ¬ i < 40) := by omega
      clear hui
      rcases hc with hc | ⟨hc, hc4⟩
      · go_wp2_with fail
        go_ret
        exact ⟨_, rfl, by rw [← HUI.out]; exact hpl.out, hbw.out⟩
      · go_wp2_with fail
        go_ret
        exact ⟨_, rfl, by rw [← HUI.out]; exact hpl.out, hbw.out⟩
end Go.Proofs.YtaaojfgakgjlkaaDoor
