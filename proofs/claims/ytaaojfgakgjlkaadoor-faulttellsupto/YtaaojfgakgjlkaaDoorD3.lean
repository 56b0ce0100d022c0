/-
  The pile of errors that the statement makes by the program: the walk.
-/
import Derived.Test.YtaaojfgakgjlkaaDoorD2
namespace Go.Proofs.YtaaojfgakgjlkaaDoor
open Go.RowKit

set_option maxHeartbeats 4000000 in
set_option maxRecDepth 100000 in
theorem made_any (p : Option Addr) (cap b o : Nat) (ss : List St) (w : World) (hp : ss ≠ [] → p = some ⟨b, o, none⟩ ∧ b < w.heap.size) (hs : Steps w b o ss) (_hcap : ss.length ≤ cap) (_hbig : cap ≤ 9223372036854775807) :
    Calls Tryd.prog 7 #[.slice p ss.length cap] w fun e w' => ∃ v, e = .returned v ∧ PileP w' w.heap.size v (pile ss) ∧ Below w.heap.size w w' := by
  obtain ⟨i30, hi30, hz0, hz1, hz2⟩ := info_parts info30
  have HP := hid_in (fun h => (hp h).1)
  have HPB := hid_in (fun h => (hp h).2)
  have HS := hid_in hs
  generalize hn : ss.length = n at *
  have Hn := hid_in hn
  clear hn hp hs
  go_enter Tryd.func7, Tryd.ntmps7
  go_wp2_with fail
  go_loopw [3, 4] (fun v3 vi W => ∃ i : Nat, i ≤ n ∧ i ≤ 40 ∧ vi = .int .i64 (i : Int) ∧ Hid (Below w.heap.size w W) ∧ Hid (PileP W w.heap.size v3 (upto ss i))) (fun _ vi _ => n - (intOf vi).toNat)
  case atStart => exact ⟨0, by omega, by omega, rfl, Below.refl _ _, PileP.nil _ _⟩
  case round =>
    obtain ⟨i, hi, hi40, rfl, hbw, hpl⟩ := hrel
    by_cases hlt : i < n ∧ i < 40
    · obtain ⟨hin, hi4⟩ := hlt
      obtain ⟨s, hsi⟩ : ∃ s, ss[i]? = some s := ⟨_, List.getElem?_eq_getElem (by rw [Hn.out]; exact hin)⟩
      have hne : ss ≠ [] := by rintro rfl; simp at hsi
      obtain rfl := HP.out hne
      have hbl := HPB.out hne
      obtain ⟨s0, s1, s2, s3, s4⟩ := HS.out i s hsi
      have c0 : wr.cell? ⟨b, o + i * 5, none⟩ = some (.int .i64 s.K) := (hbw.out.cell (p := ⟨b, o + i * 5, none⟩) hbl).trans s0
      have c1 : wr.cell? ⟨b, o + i * 5 + 1, none⟩ = some (.string (B s.op)) := (hbw.out.cell (p := ⟨b, o + i * 5 + 1, none⟩) hbl).trans s1
      have c2 : wr.cell? ⟨b, o + i * 5 + 2, none⟩ = some (.string (B s.path)) := (hbw.out.cell (p := ⟨b, o + i * 5 + 2, none⟩) hbl).trans s2
      have c3 : wr.cell? ⟨b, o + i * 5 + 3, none⟩ = some (.int .i64 s.code) := (hbw.out.cell (p := ⟨b, o + i * 5 + 3, none⟩) hbl).trans s3
      have c4 : wr.cell? ⟨b, o + i * 5 + 4, none⟩ = some (.int .i64 s.N) := (hbw.out.cell (p := ⟨b, o + i * 5 + 4, none⟩) hbl).trans s4
      have HU := hid_in (upto_succ hsi)
      have hpl2 := hpl.out
      have hul := upto_le ss i
      generalize upto ss i = os at HU hpl2 hul
      obtain ⟨us, hown, hlen, hare⟩ := hpl2
      obtain ⟨c, hc5, hcu, hct⟩ := tmod5 s.K
      have HSU : Hid (stepP os s = stepC c os s) := by show _ = _; unfold stepP; rw [hcu]
      have hws := hbw.out.size
      have HOWN := hid_in hown
      have HLEN := hid_in hlen
      have HARE := hid_in hare
      clear hne s0 s1 s2 s3 s4 hsi hcu hpl hown hlen hare
      obtain ⟨k, hk⟩ : ∃ k, Hid (us.length = k) := ⟨_, rfl⟩
      have hk40 : k < 40 := by rw [← hk.out, HLEN.out]; omega
      have hmx : k + 1 ≤ maxLen := by unfold maxLen; omega
      rw [hk.out] at HOWN
      rcases (show c = 0 ∨ c = 1 ∨ c = 2 ∨ c = 3 ∨ c = 4 by omega) with rfl | rfl | rfl | rfl | rfl
      · clear hc5
        obtain ⟨m, hm⟩ : ∃ m, Hid (eno s.code = m) := ⟨_, rfl⟩
        have HSC : Hid (stepC 0 os s = os ++ [if m = 0 then none else some (.flt s.op s.path (.num m))]) := by show _ = _; rw [← hm.out]; rfl
        rw [HSC.out] at HSU
        have hm300 : m ≤ 300 := by rw [← hm.out]; exact eno_le _
        rcases Nat.eq_zero_or_pos m with h0 | h0
        · subst h0
          go_wp2_with (first
            | (go_at_call 22; refine (errno_any _ _).mono ?_; rintro e w' ⟨rfl, hw⟩; subst hw; rw [hm.out])
            | (go_at_call 21; refine (new_ok _ _ _).mono ?_; rintro e w' ⟨rfl, hw⟩; subst hw)
            | (at_builtin; refine wpList_append_lies _ rfl _ _ 25 rfl w.heap.size 30 i30 .nilIface 1 16 Tryd.underlying25 hi30 hz0 hz1 hz2 rfl (by decide) u3 k us rfl ((HOWN.out.alloc _).alloc _) ⟨wr.heap.size + 1, 0, none⟩ 1 1 [.nilIface] rfl rfl (cell_new' _ _ _ _ (by simp)) (by simp [Value.oneCell']) (by decide) hmx (by omega) (by simp; omega) (wr.heap.size + 1 + 1) (by simp) ?_; intro g cap' w1 hown' hgrow hgg hgl; have HO := hid_in hown'; have HG := hid_in hgrow; have HGG := hid_in hgg; clear hown' hgrow hgg hgl))
          have HB1 : Hid (Below w.heap.size w w1) := ((hbw.out.alloc hws _).alloc (by simp; omega) _).grown HG.out (by simp; omega) (fun k e => own_ge HOWN.out k e)
          refine ⟨⟨i + 1, by omega, by omega, by go_num, HB1, ?_⟩, by simp [intOf]; omega⟩
          rw [HU.out, HSU.out]
          have hO := HOWN.out
          rw [← hk.out] at hO
          exact PileP.snoc hO HLEN.out HARE.out (((Below.refl _ _).alloc (Nat.le_refl _) _).alloc (by simp) _) hk.out HO.out HG.out (by simpa using HGG.out) rfl
        · have hq0 : ((m : Int) == 0) = false := by rw [beq_eq_false_iff_ne]; omega
          go_wp2_with (first
            | (go_at_call 22; refine (errno_any _ _).mono ?_; rintro e w' ⟨rfl, hw⟩; subst hw; rw [hm.out])
            | (go_at_call 21; refine (new_err _ _ m h0 _).mono ?_; rintro e w' ⟨rfl, hw⟩; subst hw)
            | (at_builtin; refine wpList_append_lies _ rfl _ _ 25 rfl w.heap.size 30 i30 .nilIface 1 16 Tryd.underlying25 hi30 hz0 hz1 hz2 rfl (by decide) u3 k us rfl (((HOWN.out.alloc _).alloc _).alloc _) ⟨wr.heap.size + 1 + 1, 0, none⟩ 1 1 [.iface 42 (.pointer (some ⟨wr.heap.size + 1, 0, none⟩))] rfl rfl (cell_new' _ _ _ _ (by simp)) (by simp [Value.oneCell']) (by decide) hmx (by omega) (by simp; omega) (wr.heap.size + 1 + 1 + 1) (by simp) ?_; intro g cap' w1 hown' hgrow hgg hgl; have HO := hid_in hown'; have HG := hid_in hgrow; have HGG := hid_in hgg; clear hown' hgrow hgg hgl))
          have HB1 : Hid (Below w.heap.size w w1) := (((hbw.out.alloc hws _).alloc (by simp; omega) _).alloc (by simp; omega) _).grown HG.out (by simp; omega) (fun k e => own_ge HOWN.out k e)
          refine ⟨⟨i + 1, by omega, by omega, by go_num, HB1, ?_⟩, by simp [intOf]; omega⟩
          rw [HU.out, HSU.out]
          have hO := HOWN.out
          rw [← hk.out] at hO
          exact PileP.snoc hO HLEN.out HARE.out ((((Below.refl _ _).alloc (Nat.le_refl _) _).alloc (by simp) _).alloc (by simp; omega) _) hk.out HO.out HG.out (by simpa using HGG.out) (by
              rw [if_neg (by omega)]
              exact isA_flt (heap_mid _ _ _ _ (by simp)) ⟨by omega, by simp, own_new hO _ (by omega)⟩ ⟨rfl, h0, hm300⟩)
      · clear hc5
        rcases Nat.eq_zero_or_pos k with h0 | h0
        · subst h0
          obtain ⟨pp, cc, rfl⟩ : ∃ pp cc, u3 = .slice pp 0 cc := by
            rcases HOWN.out.2 with ⟨rfl, _⟩ | ⟨g, c, cur, rfl, _⟩
            · exact ⟨_, _, rfl⟩
            · exact ⟨_, _, rfl⟩
          have hos : os = [] := by
            have h1 := HLEN.out
            rw [hk.out] at h1
            exact List.eq_nil_of_length_eq_zero h1.symm
          have HOS := hid_in hos
          clear hos
          go_wp2_with (first
            | (go_at_call 22; refine (errno_any _ _).mono ?_; rintro e w' ⟨rfl, hw⟩; subst hw)
            | (go_at_call 20; refine (wrap_none _ _).mono ?_; rintro e w' ⟨rfl, hw⟩; subst hw)
            | (at_builtin; refine wpList_append_lies _ rfl _ _ 25 rfl w.heap.size 30 i30 .nilIface 1 16 Tryd.underlying25 hi30 hz0 hz1 hz2 rfl (by decide) (.slice pp 0 cc) 0 us rfl ((HOWN.out.alloc _).alloc _) ⟨wr.heap.size + 1, 0, none⟩ 1 1 [.nilIface] rfl rfl (cell_new' _ _ _ _ (by simp)) (by simp [Value.oneCell']) (by decide) hmx (by omega) (by simp; omega) (wr.heap.size + 1 + 1) (by simp) ?_; intro g cap' w1 hown' hgrow hgg hgl; have HO := hid_in hown'; have HG := hid_in hgrow; have HGG := hid_in hgg; clear hown' hgrow hgg hgl))
          have HB1 : Hid (Below w.heap.size w w1) := ((hbw.out.alloc hws _).alloc (by simp; omega) _).grown HG.out (by simp; omega) (fun k e => own_ge HOWN.out k e)
          refine ⟨⟨i + 1, by omega, by omega, by go_num, HB1, ?_⟩, by simp [intOf]; omega⟩
          rw [HU.out, HSU.out]
          have hO : wr.ownsRow w.heap.size 30 1 (.slice pp 0 cc) us.length us := by rw [hk.out]; exact HOWN.out
          have h := PileP.snoc (o := none) hO HLEN.out HARE.out (((Below.refl _ _).alloc (Nat.le_refl _) _).alloc (by simp) _) hk.out HO.out HG.out (by simpa using HGG.out) rfl
          rw [HOS.out] at h ⊢
          exact h
        · rcases HOWN.out.2 with ⟨_, hx0⟩ | ⟨g, c, cur, rfl, hgb, hgr, hgc, hgm, hgs, hgt⟩
          · omega
          have Hgr := hid_in hgr
          have Hgs := hid_in hgs
          have Hgt := hid_in hgt
          have Hgc := hid_in hgc
          clear hgr hgs hgt hgc
          obtain ⟨j, rfl⟩ : ∃ j, k = j + 1 := ⟨k - 1, by omega⟩
          obtain ⟨uj, huj⟩ : ∃ uj, us[j]? = some uj := ⟨_, List.getElem?_eq_getElem (by rw [hk.out]; omega)⟩
          obtain ⟨oj, hoj⟩ : ∃ oj, os[j]? = some oj := ⟨_, List.getElem?_eq_getElem (by rw [← HLEN.out, hk.out]; omega)⟩
          have cj : wr.cell? ⟨g, j, none⟩ = some uj := by
            rw [cell_of_row wr g j _ _ (0, 0) Hgr.out]
            have h1 : (cur.toList.take ((j + 1) * 1))[j]? = us[j]? := by rw [Hgt.out]
            rw [Nat.mul_one, List.getElem?_take, if_pos (by omega), Array.getElem?_toList] at h1
            rw [h1, huj]
          have hgl : g < wr.heap.size := (Array.getElem?_eq_some_iff.1 Hgr.out).1
          have fj : wr.frozen? ⟨g, j, none⟩ = false := by simp [World.frozen?, Hgr.out]
          have HUJ := hid_in huj
          have HOJ := hid_in hoj
          have hE := HARE.out j oj uj hoj huj
          clear huj hoj
          cases oj with
          | none =>
            obtain rfl : uj = .nilIface := hE
            go_wp2_with (first
              | (go_at_call 22; refine (errno_any _ _).mono ?_; rintro e w' ⟨rfl, hw⟩; subst hw))
            go_region_with (first
              | (go_at_call 20; refine (wrap_none _ _).mono ?_; rintro e w' ⟨rfl, hw⟩; subst hw))
            all_goals
              go_wp2_with fail
              refine ⟨⟨i + 1, by omega, by omega, by go_num, ((hbw.out.setCell (p := ⟨g, j, none⟩) hgb _).alloc (by simp; omega) _).drew, ?_⟩, by simp [intOf]; omega⟩
              rw [HU.out, HSU.out, step1_last s (by rw [← HLEN.out, hk.out]) HOJ.out]
              exact PileP.put HLEN.out hk.out HARE.out hgb Hgc.out hgm Hgs.out Hgt.out ((Below.heap_alloc _ _ _ (by simp; omega)).trans (row_put Hgr.out j _)) (by simp) (fun b h1 h2 => (Below.heap_alloc _ _ _ (by simp; omega)).trans (Below.heap_setCell _ _ _ _ h2)) rfl
          | some T =>
            have hE' : IsA _ wr T uj := hE
            obtain ⟨tt, xx, rfl⟩ := isA_iface hE'
            have HE := hid_in hE'
            clear hE hE'
            go_wp2_with (first
              | (go_at_call 22; refine (errno_any _ _).mono ?_; rintro e w' ⟨rfl, hw⟩; subst hw))
            go_region_with (first
              | (go_at_call 20; refine (wrap_some _ _ _ _).mono ?_; rintro e w' ⟨rfl, hw⟩; subst hw))
            all_goals
              go_wp2_with fail
              refine ⟨⟨i + 1, by omega, by omega, by go_num, (((hbw.out.setCell (p := ⟨g, j, none⟩) hgb _).alloc (by simp; omega) _).alloc (by simp; omega) _).drew, ?_⟩, by simp [intOf]; omega⟩
              rw [HU.out, HSU.out, step1_last s (by rw [← HLEN.out, hk.out]) HOJ.out]
              exact put_wrap HLEN.out hk.out HARE.out hgb Hgc.out hgm Hgs.out Hgt.out Hgr.out HE.out hws _ rfl
      · clear hc5
        have hq := u64_nonneg s.N
        obtain ⟨q, hq⟩ : ∃ q : Nat, IntKind.u64.wrap s.N = (q : Int) := ⟨_, (Int.toNat_of_nonneg hq).symm⟩
        obtain ⟨r, hr⟩ : ∃ r : Nat, Hid (r = q % (k + 1)) := ⟨_, rfl⟩
        have hrk : r ≤ k := by rw [hr.out]; have := Nat.mod_lt q (show 0 < k + 1 by omega); omega
        have hqr : (q : Int) % ((k : Int) + 1) = (r : Int) := by rw [hr.out]; rfl
        have hcut : cut2 s.N k = k - r := by unfold cut2 uint; rw [hq, hr.out]; rfl
        have HSC : Hid (stepC 2 os s = os.take (k - r) ++ [allO (os.drop (k - r))]) := by
          show _ = _
          unfold stepC
          simp only [← HLEN.out, hk.out, hcut]
        clear hcut hr
        rcases HOWN.out.2 with ⟨rfl, hx0⟩ | ⟨g, c, cur, rfl, hgb, hgr, hgc, hgm, hgs, hgt⟩
        · subst hx0
          obtain rfl : r = 0 := by omega
          simp at hqr
          have hos : os = [] := List.eq_nil_of_length_eq_zero (HLEN.out.symm.trans hk.out)
          have hus : us = [] := List.eq_nil_of_length_eq_zero hk.out
          subst hos hus
          go_wp2_with (first
            | (go_at_call 22; refine (errno_any _ _).mono ?_; rintro e w' ⟨rfl, hw⟩; subst hw)
            | (go_at_call 23; refine (all_nil w.heap.size wr _ (.slice none 0 0)).mono ?_; rintro e w2 ⟨va, rfl, hva, hb2, hs2⟩; have ho1 := hid_in (isOA_one hva); have hsh := hid_in (isOA_shape hva); have HVA := hid_in hva; have HB2 := hid_in hb2; clear hva hb2)
            | (at_builtin; refine wpList_append_own_none rfl _ _ 25 rfl w.heap.size 30 i30 1 Tryd.underlying25 hi30 (.slice (some ⟨w2.heap.size, 0, none⟩) 0 0) 0 [] rfl (row_empty _ _ (by omega)) rfl ?_; have hmark : Hid (w2 = w2) := rfl)
            | (at_builtin; refine wpList_append_lies _ rfl _ _ 25 rfl w.heap.size 30 i30 .nilIface 1 16 Tryd.underlying25 hi30 hz0 hz1 hz2 rfl (by decide) (.slice (some ⟨w2.heap.size, 0, none⟩) 0 0) 0 [] rfl ((row_empty w2 _ (by omega)).alloc _) ⟨w2.heap.size + 1, 0, none⟩ 1 1 [va] rfl rfl (cell_arr' _ _ _ _ _ (by simp) (by rcases hsh.out with h | ⟨t, x, h⟩ <;> rw [h] <;> rfl)) (by intro u hu; simp at hu; subst hu; exact ho1.out) (by decide) (by unfold maxLen; omega) (by omega) (by simp; omega) (w2.heap.size + 1 + 1) (by simp) ?_; intro g4 cap4 w4 hown' hgrow hgg hgl; have HO := hid_in hown'; have HG := hid_in hgrow; have HGG := hid_in hgg; clear hown' hgrow hgg hgl))
          case inl => exfalso; rcases hsh.out with e | ⟨t, x, e⟩ <;> subst e <;> simp at h
          case roundEnd =>
            have HB1 : Hid (Below w.heap.size w w4) := ((((hbw.out.trans (HB2.out.mono hws)).alloc (by omega) _).alloc (by simp; omega) _).grown HG.out (by simp; omega) (fun k e => own_ge (row_empty w2 w.heap.size (by omega)) k e))
            refine ⟨⟨i + 1, by omega, by omega, by go_num, HB1, ?_⟩, by simp [intOf]; omega⟩
            rw [HU.out, HSU.out, HSC.out]
            exact pile_cut (m := 0) (us := []) HLEN.out (Nat.le_refl _) HARE.out hws HB2.out HVA.out ((Below.refl _ _).alloc (Nat.le_refl _) _) (row_empty w2 _ (by omega)) (fun k e => by cases e; exact Nat.le_refl _) HO.out HG.out (by simpa using HGG.out)
        · have Hgr := hid_in hgr
          have Hgs := hid_in hgs
          have Hgt := hid_in hgt
          have hgl : g < wr.heap.size := (Array.getElem?_eq_some_iff.1 Hgr.out).1
          clear hgr hgs hgt
          have hc9 : c ≤ 9223372036854775807 := by unfold maxLen at hgm; omega
          by_cases hz : r = 0 ∧ c = k
          · obtain ⟨rfl, rfl⟩ := hz
            rw [Nat.sub_zero] at HSC
            simp at hqr
            go_wp2_with (first
              | (go_at_call 22; refine (errno_any _ _).mono ?_; rintro e w' ⟨rfl, hw⟩; subst hw)
              | (go_at_call 23; refine (all_cut w.heap.size g 0 0 c 0 os us wr _ cur _ HLEN.out hk.out HARE.out Hgr.out Hgt.out (fun h => absurd h (by omega)) (by omega) (by omega) hk40).mono ?_; rintro e w2 ⟨va, rfl, hva, hb2, hs2⟩; have ho1 := hid_in (isOA_one hva); have hsh := hid_in (isOA_shape hva); have HVA := hid_in hva; have HB2 := hid_in hb2; clear hva hb2)
              | (at_builtin; refine wpList_append_own_at _ rfl _ _ 25 rfl w.heap.size 30 i30 .nilIface 1 16 Tryd.underlying25 hi30 hz0 hz1 hz2 rfl (by decide) (.slice (some ⟨w2.heap.size, 0, none⟩) 0 0) 0 [] rfl (row_empty _ _ (by omega)) ⟨g, 0, none⟩ c c (us.take c) rfl (by rw [List.length_take, hk.out]; omega) (fun j u hu => row_cells (r := 0) Hgr.out Hgt.out HB2.out j u hu) (take_one HARE.out HLEN.out c) (by unfold maxLen; omega) (by omega) (by simp; omega) ?_; intro v3 w3 hown3 hgrow3 _ hgg3; have HB3 : Hid (Below w2.heap.size w2 w3) := ((Below.refl _ _).alloc (Nat.le_refl _) _).grown hgrow3 (by simp) (fun k e => by cases e; exact Nat.le_refl _); have HO3 : Hid (w3.ownsRow w.heap.size 30 1 v3 c (us.take c)) := by { have h := hown3; rw [Nat.zero_add, List.nil_append] at h; exact h }; have HV3 : Hid (∀ k, v3.ownBlock = some k → w2.heap.size ≤ k) := cut_own hgg3; have hs3 := HB3.out.size; clear hown3 hgrow3 hgg3)
              | (at_builtin; refine wpList_append_lies _ rfl _ _ 25 rfl w.heap.size 30 i30 .nilIface 1 16 Tryd.underlying25 hi30 hz0 hz1 hz2 rfl (by decide) v3 c (us.take c) rfl (HO3.out.alloc _) ⟨w3.heap.size, 0, none⟩ 1 1 [va] rfl rfl (cell_arr _ _ _ _ (by rcases hsh.out with h | ⟨t, x, h⟩ <;> rw [h] <;> rfl)) (by intro u hu; simp at hu; subst hu; exact ho1.out) (by decide) (by unfold maxLen; omega) (by omega) (by simp; omega) (w3.heap.size + 1) (by simp) ?_; intro g4 cap4 w4 hown' hgrow hgg hgl; have HO := hid_in hown'; have HG := hid_in hgrow; have HGG := hid_in hgg; clear hown' hgrow hgg hgl))
            case inl => exfalso; rcases hsh.out with e | ⟨t, x, e⟩ <;> subst e <;> simp at h
            case roundEnd =>
              have HB1 : Hid (Below w.heap.size w w4) := ((((hbw.out.trans (HB2.out.mono hws)).trans (HB3.out.mono (by omega))).alloc (by omega) _).grown HG.out (by simp; omega) (fun k e => own_ge HO3.out k e))
              refine ⟨⟨i + 1, by omega, by omega, by go_num, HB1, ?_⟩, by simp [intOf]; omega⟩
              rw [HU.out, HSU.out, HSC.out]
              exact pile_cut HLEN.out (by rw [hk.out]; omega) HARE.out hws HB2.out HVA.out HB3.out HO3.out HV3.out HO.out HG.out (by simpa using HGG.out)
          · obtain ⟨m, rfl⟩ : ∃ m, k = m + r := ⟨k - r, by omega⟩
            rw [Nat.add_sub_cancel] at HSC
            push_cast at hqr
            have hmc : m < c := by omega
            clear hz
            go_wp2_with (first
              | (go_at_call 22; refine (errno_any _ _).mono ?_; rintro e w' ⟨rfl, hw⟩; subst hw)
              | (go_at_call 23; refine (all_cut w.heap.size g m r m (c - m) os us wr _ cur _ HLEN.out hk.out HARE.out Hgr.out Hgt.out (fun _ => rfl) (by omega) (by omega) hk40).mono ?_; rintro e w2 ⟨va, rfl, hva, hb2, hs2⟩; have ho1 := hid_in (isOA_one hva); have hsh := hid_in (isOA_shape hva); have HVA := hid_in hva; have HB2 := hid_in hb2; clear hva hb2)
              | (at_builtin; refine wpList_append_own_at _ rfl _ _ 25 rfl w.heap.size 30 i30 .nilIface 1 16 Tryd.underlying25 hi30 hz0 hz1 hz2 rfl (by decide) (.slice (some ⟨w2.heap.size, 0, none⟩) 0 0) 0 [] rfl (row_empty _ _ (by omega)) ⟨g, 0, none⟩ m c (us.take m) rfl (by rw [List.length_take, hk.out]; omega) (fun j u hu => row_cells (r := r) Hgr.out Hgt.out HB2.out j u hu) (take_one HARE.out HLEN.out m) (by unfold maxLen; omega) (by omega) (by simp; omega) ?_; intro v3 w3 hown3 hgrow3 _ hgg3; have HB3 : Hid (Below w2.heap.size w2 w3) := ((Below.refl _ _).alloc (Nat.le_refl _) _).grown hgrow3 (by simp) (fun k e => by cases e; exact Nat.le_refl _); have HO3 : Hid (w3.ownsRow w.heap.size 30 1 v3 m (us.take m)) := by { have h := hown3; rw [Nat.zero_add, List.nil_append] at h; exact h }; have HV3 : Hid (∀ k, v3.ownBlock = some k → w2.heap.size ≤ k) := cut_own hgg3; have hs3 := HB3.out.size; clear hown3 hgrow3 hgg3)
              | (at_builtin; refine wpList_append_lies _ rfl _ _ 25 rfl w.heap.size 30 i30 .nilIface 1 16 Tryd.underlying25 hi30 hz0 hz1 hz2 rfl (by decide) v3 m (us.take m) rfl (HO3.out.alloc _) ⟨w3.heap.size, 0, none⟩ 1 1 [va] rfl rfl (cell_arr _ _ _ _ (by rcases hsh.out with h | ⟨t, x, h⟩ <;> rw [h] <;> rfl)) (by intro u hu; simp at hu; subst hu; exact ho1.out) (by decide) (by unfold maxLen; omega) (by omega) (by simp; omega) (w3.heap.size + 1) (by simp) ?_; intro g4 cap4 w4 hown' hgrow hgg hgl; have HO := hid_in hown'; have HG := hid_in hgrow; have HGG := hid_in hgg; clear hown' hgrow hgg hgl))
            case inl => exfalso; rcases hsh.out with e | ⟨t, x, e⟩ <;> subst e <;> simp at h
            case roundEnd =>
              have HB1 : Hid (Below w.heap.size w w4) := ((((hbw.out.trans (HB2.out.mono hws)).trans (HB3.out.mono (by omega))).alloc (by omega) _).grown HG.out (by simp; omega) (fun k e => own_ge HO3.out k e))
              refine ⟨⟨i + 1, by omega, by omega, by go_num, HB1, ?_⟩, by simp [intOf]; omega⟩
              rw [HU.out, HSU.out, HSC.out]
              exact pile_cut HLEN.out (by rw [hk.out]; omega) HARE.out hws HB2.out HVA.out HB3.out HO3.out HV3.out HO.out HG.out (by simpa using HGG.out)
      · clear hc5
        obtain ⟨m, hm⟩ : ∃ m, Hid (eno s.code = m) := ⟨_, rfl⟩
        have HSC : Hid (stepC 3 os s = os ++ [numO m]) := by show _ = _; rw [← hm.out]; rfl
        rw [HSC.out] at HSU
        have hm300 : m ≤ 300 := by rw [← hm.out]; exact eno_le _
        rcases Nat.eq_zero_or_pos m with h0 | h0
        · subst h0
          go_wp2_with (first
            | (go_at_call 22; refine (errno_any _ _).mono ?_; rintro e w' ⟨rfl, hw⟩; subst hw; rw [hm.out])
            | (at_builtin; refine wpList_append_lies _ rfl _ _ 25 rfl w.heap.size 30 i30 .nilIface 1 16 Tryd.underlying25 hi30 hz0 hz1 hz2 rfl (by decide) u3 k us rfl ((HOWN.out.alloc _).alloc _) ⟨wr.heap.size + 1, 0, none⟩ 1 1 [.nilIface] rfl rfl (cell_new' _ _ _ _ (by simp)) (by simp [Value.oneCell']) (by decide) hmx (by omega) (by simp; omega) (wr.heap.size + 1 + 1) (by simp) ?_; intro g cap' w1 hown' hgrow hgg hgl; have HO := hid_in hown'; have HG := hid_in hgrow; have HGG := hid_in hgg; clear hown' hgrow hgg hgl))
          have HB1 : Hid (Below w.heap.size w w1) := ((hbw.out.alloc hws _).alloc (by simp; omega) _).grown HG.out (by simp; omega) (fun k e => own_ge HOWN.out k e)
          refine ⟨⟨i + 1, by omega, by omega, by go_num, HB1, ?_⟩, by simp [intOf]; omega⟩
          rw [HU.out, HSU.out]
          have hO := HOWN.out
          rw [← hk.out] at hO
          exact PileP.snoc hO HLEN.out HARE.out (((Below.refl _ _).alloc (Nat.le_refl _) _).alloc (by simp) _) hk.out HO.out HG.out (by simpa using HGG.out) rfl
        · have hq0 : ((m : Int) == 0) = false := by rw [beq_eq_false_iff_ne]; omega
          go_wp2_with (first
            | (go_at_call 22; refine (errno_any _ _).mono ?_; rintro e w' ⟨rfl, hw⟩; subst hw; rw [hm.out])
            | (at_builtin; refine wpList_append_lies _ rfl _ _ 25 rfl w.heap.size 30 i30 .nilIface 1 16 Tryd.underlying25 hi30 hz0 hz1 hz2 rfl (by decide) u3 k us rfl ((HOWN.out.alloc _).alloc _) ⟨wr.heap.size + 1, 0, none⟩ 1 1 [.iface 31 (.int .i64 (m : Int))] rfl rfl (cell_new' _ _ _ _ (by simp)) (by simp [Value.oneCell']) (by decide) hmx (by omega) (by simp; omega) (wr.heap.size + 1 + 1) (by simp) ?_; intro g cap' w1 hown' hgrow hgg hgl; have HO := hid_in hown'; have HG := hid_in hgrow; have HGG := hid_in hgg; clear hown' hgrow hgg hgl))
          have HB1 : Hid (Below w.heap.size w w1) := ((hbw.out.alloc hws _).alloc (by simp; omega) _).grown HG.out (by simp; omega) (fun k e => own_ge HOWN.out k e)
          refine ⟨⟨i + 1, by omega, by omega, by go_num, HB1, ?_⟩, by simp [intOf]; omega⟩
          rw [HU.out, HSU.out]
          have hO := HOWN.out
          rw [← hk.out] at hO
          exact PileP.snoc hO HLEN.out HARE.out (((Below.refl _ _).alloc (Nat.le_refl _) _).alloc (by simp) _) hk.out HO.out HG.out (by simpa using HGG.out) (by unfold numO; rw [if_neg (by omega)]; exact ⟨rfl, h0, hm300⟩)
      · clear hc5
        go_wp2_with (first
          | (go_at_call 22; refine (errno_any _ _).mono ?_; rintro e w' ⟨rfl, hw⟩; subst hw)
          | (at_builtin; refine wpList_append_lies _ rfl _ _ 25 rfl w.heap.size 30 i30 .nilIface 1 16 Tryd.underlying25 hi30 hz0 hz1 hz2 rfl (by decide) u3 k us rfl ((HOWN.out.alloc _).alloc _) ⟨wr.heap.size + 1, 0, none⟩ 1 1 [.nilIface] rfl rfl (cell_new' _ _ _ _ (by simp)) (by simp [Value.oneCell']) (by decide) hmx (by omega) (by simp; omega) (wr.heap.size + 1 + 1) (by simp) ?_; intro g cap' w1 hown' hgrow hgg hgl; have HO := hid_in hown'; have HG := hid_in hgrow; have HGG := hid_in hgg; clear hown' hgrow hgg hgl))
        have HB1 : Hid (Below w.heap.size w w1) := ((hbw.out.alloc hws _).alloc (by simp; omega) _).grown HG.out (by simp; omega) (fun k e => own_ge HOWN.out k e)
        refine ⟨⟨i + 1, by omega, by omega, by go_num, HB1, ?_⟩, by simp [intOf]; omega⟩
        rw [HU.out, HSU.out]
        have hO := HOWN.out
        rw [← hk.out] at hO
        exact PileP.snoc hO HLEN.out HARE.out (((Below.refl _ _).alloc (Nat.le_refl _) _).alloc (by simp) _) hk.out HO.out HG.out (by simpa using HGG.out) rfl
    · have hui : upto ss i = pile ss := by
        unfold upto pile
        by_cases h : i < n
        · rw [show i = 40 by omega]
        · rw [List.take_of_length_le (by rw [Hn.out]; omega), List.take_of_length_le (by rw [Hn.out]; omega)]
      have HUI := hid_in hui
      have hc : ¬ i < n ∨ (i < n ∧ ¬ i < 40) := by omega
      clear hui
      rcases hc with hc | ⟨hc, hc4⟩
      · go_wp2_with fail
        go_ret
        exact ⟨_, rfl, by rw [← HUI.out]; exact hpl.out, hbw.out⟩
      · go_wp2_with fail
        go_ret
        exact ⟨_, rfl, by rw [← HUI.out]; exact hpl.out, hbw.out⟩
end Go.Proofs.YtaaojfgakgjlkaaDoor
