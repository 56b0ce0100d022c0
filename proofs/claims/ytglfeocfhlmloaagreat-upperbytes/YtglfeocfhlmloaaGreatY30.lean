/-
  checkDir, checkPlace. checkPlace.
-/
import Derived.Laws.CopyOwn
import Derived.Deep.RegionLaw
import Derived.Deep.DrawnRows
import Derived.Laws.Tables
import Derived.Test.YtglfeocfhlmloaaGreatY00
import Derived.Test.YtglfeocfhlmloaaGreatY01
import Derived.Test.YtglfeocfhlmloaaGreatY02
import Derived.Test.YtglfeocfhlmloaaGreatY03
import Derived.Test.YtglfeocfhlmloaaGreatY04
import Derived.Test.YtglfeocfhlmloaaGreatY05
import Derived.Test.YtglfeocfhlmloaaGreatY06
import Derived.Test.YtglfeocfhlmloaaGreatY07
import Derived.Test.YtglfeocfhlmloaaGreatY08
import Derived.Test.YtglfeocfhlmloaaGreatY09
import Derived.Test.YtglfeocfhlmloaaGreatY11
import Derived.Test.YtglfeocfhlmloaaGreatY12
import Derived.Test.YtglfeocfhlmloaaGreatY13
import Derived.Test.YtglfeocfhlmloaaGreatY14
import Derived.Test.YtglfeocfhlmloaaGreatY15
import Derived.Test.YtglfeocfhlmloaaGreatY16
import Derived.Test.YtglfeocfhlmloaaGreatY17
import Derived.Test.YtglfeocfhlmloaaGreatY18
import Derived.Test.YtglfeocfhlmloaaGreatY19
import Derived.Test.YtglfeocfhlmloaaGreatY20
import Derived.Test.YtglfeocfhlmloaaGreatY21
import Derived.Test.YtglfeocfhlmloaaGreatY22
import Derived.Test.YtglfeocfhlmloaaGreatY23
import Derived.Test.YtglfeocfhlmloaaGreatY24
import Derived.Test.YtglfeocfhlmloaaGreatY25
import Derived.Test.YtglfeocfhlmloaaGreatY26
import Derived.Test.YtglfeocfhlmloaaGreatY27
import Derived.Test.YtglfeocfhlmloaaGreatY28
import Derived.Test.YtglfeocfhlmloaaGreatY29
namespace Go.Proofs.YtglfeocfhlmloaaGreat.Up
open Go.RowKit
open Vp (Str B bl Val cmpL parseS showS withinS IsPath checkS)
open Nd (Row wp_world post_Row post_Row2 grownBy_setCell below_of_grown)
theorem spotG_gp {L : List Spot} {xs : List Str} (h : Gp xs) : spotG L xs = spotAt L xs := if_pos ((check_gp xs).2 h)
theorem store36 (p : ByteArray) (k : Int) (q : Bool) (d : ByteArray) : Hid (∀ v ∈ [Value.string p, .int .i64 k, .bool q, .string d], v.oneCell' = true) := by
  intro v hv
  simp only [List.mem_cons, List.not_mem_nil, or_false] at hv
  rcases hv with rfl | rfl | rfl | rfl <;> rfl
/-- what is wrong with a directory -/
def dirE (L : List Spot) (xs : List Str) : Int := if xs = [] then 0 else match spotAt L xs with | none => 4 | some s => if s.kind = 2 then 0 else 70
/-- Get of a path -/
theorem get_gp {w : World} {g m : Nat} {N Z : Int} {L : List Spot} (h : Fs w g m N Z L) {nv : Value} {xs : List Str} (hv : Val w nv xs) (hx : Gp xs) :
    Calls Tryz.prog 64 #[.pointer (some ⟨g, 0, none⟩), nv] w fun e w' => ∃ p k q d, e = .returned (.tuple #[.agg #[.string p, .int .i64 k, .bool q, .string d], .bool (spotAt L xs).isSome]) ∧ (∀ s, spotAt L xs = some s → p = s.path ∧ k = s.kind ∧ q = s.opq ∧ d = s.data) ∧ Below w.heap.size w w' := by
  refine (get_any h hv (by have := hx.lens; omega)).mono ?_
  rintro e w' ⟨rfl, hb⟩
  rw [spotG_gp hx]
  refine ⟨_, _, _, _, rfl, fun s hs => ?_, hb⟩
  rw [hs]
  exact ⟨rfl, rfl, rfl, rfl⟩
set_option maxHeartbeats 2000000 in
set_option maxRecDepth 100000 in
theorem checkDir_any {w : World} {g m : Nat} {N Z : Int} {L : List Spot} (h : Fs w g m N Z L) {nv : Value} {xs : List Str} (hv : Val w nv xs) (hx : Gp xs) :
    Calls Tryz.prog 63 #[.pointer (some ⟨g, 0, none⟩), nv] w fun e w' => e = .returned (.int .i64 (dirE L xs)) ∧ Below w.heap.size w w' := by
  obtain ⟨np, nc, rfl⟩ : ∃ p c, nv = .slice p xs.length c := by obtain ⟨p, c, e, _⟩ := hv; exact ⟨p, c, e⟩
  have HG := hid_in (get_gp h hv hx)
  by_cases h0 : xs = []
  · have e0 : dirE L xs = 0 := if_pos h0
    have el : xs.length = 0 := by rw [h0]; rfl
    rw [e0, el]
    clear HG h hv hx h0 el e0
    go_enter Tryz.func63, Tryz.ntmps63
    go_wp2
    go_ret
    exact ⟨rfl, Below.refl _ _⟩
  · have el : ((xs.length : Int) == 0) = false := by
      rw [beq_eq_false_iff_ne]
      have := List.length_pos_iff.2 h0
      omega
    cases hs : spotAt L xs with
    | none =>
      have e0 : dirE L xs = 4 := by unfold dirE; rw [if_neg h0, hs]
      rw [e0]
      rw [hs] at HG
      simp only [Option.isSome_none] at HG
      generalize xs.length = nl at *
      clear h hv hx h0 hs e0
      go_enter Tryz.func63, Tryz.ntmps63
      go_wp2_with (first | (go_at_call 64; refine HG.out.mono ?_; rintro e w2 ⟨p, k, q, d, rfl, -, hb2⟩; have HB2 := hid_in hb2; clear hb2) | (refine Nd.wpList_store_new rfl rfl 42 4 _ _ rfl _ [Value.string p, .int .i64 k, .bool q, .string d] info36 rfl (hid_in rfl) (store36 _ _ _ _) rfl rfl ?_; intro w3 hr3 hb3 hs3; have HB3 := hid_in (HB2.out.trans (hb3.mono HB2.out.size)); clear hr3 hb3 hs3))
      go_ret
      exact ⟨rfl, HB3.out⟩
    | some s =>
      rw [hs] at HG
      simp only [Option.isSome_some] at HG
      by_cases hk : s.kind = 2
      · have e0 : dirE L xs = 0 := by unfold dirE; rw [if_neg h0, hs]; simp only; rw [if_pos hk]
        rw [e0]
        have HK := hid_in hk
        generalize xs.length = nl at *
        clear h hv hx h0 hs e0 hk
        go_enter Tryz.func63, Tryz.ntmps63
        go_wp2_with (first | (go_at_call 64; refine HG.out.mono ?_; rintro e w2 ⟨p, k, q, d, rfl, hk2, hb2⟩; have hkk : k = 2 := (hk2 s rfl).2.1.trans HK.out; subst hkk; have HB2 := hid_in hb2; clear hb2 hk2) | (refine Nd.wpList_store_new rfl rfl 42 4 _ _ rfl _ [Value.string p, .int .i64 2, .bool q, .string d] info36 rfl (hid_in rfl) (store36 _ _ _ _) rfl rfl ?_; intro w3 hr3 hb3 hs3; have c1 := hr3.cell 1; have HB3 := hid_in (HB2.out.trans (hb3.mono HB2.out.size)); clear hr3 hb3 hs3))
        go_ret
        exact ⟨rfl, HB3.out⟩
      · have e0 : dirE L xs = 70 := by unfold dirE; rw [if_neg h0, hs]; simp only; rw [if_neg hk]
        rw [e0]
        have HK : Hid ((s.kind == 2) = false) := hid_in (by simpa using hk)
        generalize xs.length = nl at *
        clear h hv hx h0 hs e0 hk
        go_enter Tryz.func63, Tryz.ntmps63
        go_wp2_with (first | (go_at_call 64; refine HG.out.mono ?_; rintro e w2 ⟨p, k, q, d, rfl, hk2, hb2⟩; have hkk : (k == 2) = false := (congrArg (fun z : Int => z == 2) (hk2 s rfl).2.1).trans HK.out; have HB2 := hid_in hb2; clear hb2 hk2) | (refine Nd.wpList_store_new rfl rfl 42 4 _ _ rfl _ [Value.string p, .int .i64 k, .bool q, .string d] info36 rfl (hid_in rfl) (store36 _ _ _ _) rfl rfl ?_; intro w3 hr3 hb3 hs3; have c1 := hr3.cell 1; have HB3 := hid_in (HB2.out.trans (hb3.mono HB2.out.size)); clear hr3 hb3 hs3))
        go_ret
        exact ⟨rfl, HB3.out⟩
end Go.Proofs.YtglfeocfhlmloaaGreat.Up
namespace Go.Proofs.YtglfeocfhlmloaaGreat.Up
open Go.RowKit
open Vp (Str B bl Val cmpL parseS showS withinS IsPath checkS)
open Nd (Row wp_world post_Row post_Row2 grownBy_setCell below_of_grown)
theorem slice23_to (p : Option Addr) (L C n : Nat) (h1 : n ≤ C) (w : World) : (Instr.slice 44 (.slice p L C) none (some (.int .i64 (n : Int))) none).run Tryz.prog w = .ok (.slice p n C) w := by
  have ht : Tryz.prog.underlying 44 = some (.slice (Tryz.prog.elem 44)) := by kernel_rfl
  have hs : ∀ w : World, (sizeOf (Tryz.prog.elem 44)).run Tryz.prog w = .ok 1 w := fun w => by kernel_rfl
  rw [run_slice_h w 44 p L C ht .i64 (n : Int) (by omega) (by omega), hs]
  rcases p with _ | ⟨b, o, s⟩ <;> simp [sliced, Addr.add]
theorem val_take {w : World} {p : Option Addr} {xs : List Str} {c : Nat} (h : Val w (.slice p xs.length c) xs) (i : Nat) (hi : i ≤ xs.length) : Val w (.slice p i c) (xs.take i) := by
  obtain ⟨p', c', e, hr⟩ := h
  simp only [Value.slice.injEq] at e
  obtain ⟨rfl, _, rfl⟩ := e
  exact ⟨p, c, by rw [List.length_take, Nat.min_eq_left hi], hr.take i hi⟩
/-- whether something lies below -/
def hasB (L : List Spot) (xs : List Str) : Bool := decide (0 < (L.filter (belowB xs)).length)
/-- what is wrong with a place -/
def placeE (L : List Spot) (xs : List Str) (k : Int) : Int := if dirE L xs.dropLast ≠ 0 then dirE L xs.dropLast else if (spotAt L xs).isSome = true then (if k = 2 then 0 else if hasB L xs then 130 else 0) else if 1024 ≤ L.length then 8 else 0
set_option maxHeartbeats 4000000 in
set_option maxRecDepth 100000 in
theorem checkPlace_any {w : World} {g m : Nat} {N Z : Int} {L : List Spot} (h : Fs w g m N Z L) (hn : L.length ≤ 100000) {nv : Value} {xs : List Str} (hv : Val w nv xs) (hx : Gp xs) (hne : xs ≠ []) (kd : Int) :
    Calls Tryz.prog 41 #[.pointer (some ⟨g, 0, none⟩), nv, .int .i64 kd] w fun e w' => e = .returned (.int .i64 (placeE L xs kd)) ∧ Below w.heap.size w w' := by
  obtain ⟨np, nc, rfl⟩ : ∃ p c, nv = .slice p xs.length c := by obtain ⟨p, c, e, _⟩ := hv; exact ⟨p, c, e⟩
  obtain ⟨k, hk⟩ : ∃ k, xs.length = k + 1 := ⟨xs.length - 1, by have := List.length_pos_iff.2 hne; omega⟩
  have hcap : k + 1 ≤ nc := by
    obtain ⟨p', c', e1, h1⟩ := hv
    simp only [Value.slice.injEq] at e1
    have := h1.le
    omega
  have hvd : Val w (.slice np k nc) xs.dropLast := by
    have h1 := val_take hv k (by omega)
    rw [List.dropLast_eq_take, hk]
    exact h1
  have HD := hid_in (checkDir_any h hvd hx.dropLast)
  have HG := hid_in (fun W (q : Below w.heap.size w W) => get_gp (h.below q) (hv.below q) hx)
  have HBL := hid_in (fun W (q : Below w.heap.size w W) => below_any (h.below q) (hv.below q) hn)
  have HC := hid_in (fun W (q : Below w.heap.size w W) => And.intro (h.below q).cell.2.2 (fun ty => (h.below q).map.len ty))
  have hsl := slice23_to np (k + 1) nc k (by omega)
  rw [hk] at HG HBL ⊢
  have hk8 : (k : Int) + 1 ≤ 8 := by have := hx.2; omega
  have HN := hid_in hn
  clear hv hvd hx hne hcap hk h hn
  by_cases hd : dirE L xs.dropLast = 0
  · rw [hd] at HD
    cases hs : spotAt L xs with
    | none =>
      have e0 : placeE L xs kd = if 1024 ≤ L.length then 8 else 0 := by unfold placeE; rw [if_neg (by simp [hd]), hs]; simp
      rw [e0]
      rw [hs] at HG
      simp only [Option.isSome_none] at HG
      generalize L.length = n at *
      clear hs e0 hd
      by_cases hl : 1024 ≤ n
      · rw [if_pos hl]
        have hl2 : (1024 : Int) ≤ (n : Int) := by omega
        clear hl
        go_enter Tryz.func41, Tryz.ntmps41
        go_wp2_with (first | (go_at_call 63; refine HD.out.mono ?_; rintro e w1 ⟨rfl, hb1⟩; have HB1 := hid_in hb1; clear hb1) | (go_at_call 64; refine (HG.out _ HB1.out).mono ?_; rintro e w2 ⟨p, k2, q, d, rfl, -, hb2⟩; have HB2 := hid_in (HB1.out.trans (hb2.mono HB1.out.size)); clear hb2) | (refine Nd.wpList_store_new rfl rfl 42 4 _ _ rfl _ [Value.string p, .int .i64 k2, .bool q, .string d] info36 rfl (hid_in rfl) (store36 _ _ _ _) rfl rfl ?_; intro w3 hr3 hb3 hs3; have HB3 := hid_in (HB2.out.trans (hb3.mono HB2.out.size)); obtain ⟨cm, hml⟩ := HC.out _ HB3.out; clear hr3 hb3 hs3))
        go_ret
        exact ⟨rfl, HB3.out⟩
      · rw [if_neg hl]
        have hl2 : ¬ (1024 : Int) ≤ (n : Int) := by omega
        clear hl
        go_enter Tryz.func41, Tryz.ntmps41
        go_wp2_with (first | (go_at_call 63; refine HD.out.mono ?_; rintro e w1 ⟨rfl, hb1⟩; have HB1 := hid_in hb1; clear hb1) | (go_at_call 64; refine (HG.out _ HB1.out).mono ?_; rintro e w2 ⟨p, k2, q, d, rfl, -, hb2⟩; have HB2 := hid_in (HB1.out.trans (hb2.mono HB1.out.size)); clear hb2) | (refine Nd.wpList_store_new rfl rfl 42 4 _ _ rfl _ [Value.string p, .int .i64 k2, .bool q, .string d] info36 rfl (hid_in rfl) (store36 _ _ _ _) rfl rfl ?_; intro w3 hr3 hb3 hs3; have HB3 := hid_in (HB2.out.trans (hb3.mono HB2.out.size)); obtain ⟨cm, hml⟩ := HC.out _ HB3.out; clear hr3 hb3 hs3))
        go_ret
        exact ⟨rfl, HB3.out⟩
    | some s =>
      rw [hs] at HG
      simp only [Option.isSome_some] at HG
      by_cases hk2 : kd = 2
      · subst hk2
        have e0 : placeE L xs 2 = 0 := by unfold placeE; rw [if_neg (by simp [hd]), hs]; simp
        rw [e0]
        clear hs e0 hd
        go_enter Tryz.func41, Tryz.ntmps41
        go_wp2_with (first | (go_at_call 63; refine HD.out.mono ?_; rintro e w1 ⟨rfl, hb1⟩; have HB1 := hid_in hb1; clear hb1) | (go_at_call 64; refine (HG.out _ HB1.out).mono ?_; rintro e w2 ⟨p, k2, q, d, rfl, -, hb2⟩; have HB2 := hid_in (HB1.out.trans (hb2.mono HB1.out.size)); clear hb2) | (refine Nd.wpList_store_new rfl rfl 42 4 _ _ rfl _ [Value.string p, .int .i64 k2, .bool q, .string d] info36 rfl (hid_in rfl) (store36 _ _ _ _) rfl rfl ?_; intro w3 hr3 hb3 hs3; have HB3 := hid_in (HB2.out.trans (hb3.mono HB2.out.size)); clear hr3 hb3 hs3))
        go_ret
        exact ⟨rfl, HB3.out⟩
      · have e0 : placeE L xs kd = if hasB L xs then 130 else 0 := by unfold placeE; rw [if_neg (by simp [hd]), hs]; simp [hk2]
        rw [e0]
        have hkk : (kd == 2) = false := by simpa using hk2
        have hkk2 : (kd != 2) = true := by simpa using hk2
        cases hB : hasB L xs with
        | false =>
          have HLB : Hid (∀ sp : List Spot, sp.Perm (L.filter (belowB xs)) → sp.length = 0) := hid_in (fun sp hp => by unfold hasB at hB; have := of_decide_eq_false hB; rw [hp.length_eq]; omega)
          clear hs e0 hd hB
          go_enter Tryz.func41, Tryz.ntmps41
          go_wp2_with (first | (go_at_call 63; refine HD.out.mono ?_; rintro e w1 ⟨rfl, hb1⟩; have HB1 := hid_in hb1; clear hb1) | (go_at_call 64; refine (HG.out _ HB1.out).mono ?_; rintro e w2 ⟨p, k2, q, d, rfl, -, hb2⟩; have HB2 := hid_in (HB1.out.trans (hb2.mono HB1.out.size)); clear hb2) | (refine Nd.wpList_store_new rfl rfl 42 4 _ _ rfl _ [Value.string p, .int .i64 k2, .bool q, .string d] info36 rfl (hid_in rfl) (store36 _ _ _ _) rfl rfl ?_; intro w3 hr3 hb3 hs3; have HB3 := hid_in (HB2.out.trans (hb3.mono HB2.out.size)); clear hr3 hb3 hs3) | (go_at_call 52; refine (HBL.out _ HB3.out).mono ?_; rintro e w4 ⟨v4, sp, rfl, hs4, hp4, hb4⟩; have hz := HLB.out sp hp4; have HB4 := hid_in (HB3.out.trans (hb4.mono HB3.out.size)); obtain ⟨p4, c4, rfl⟩ := hs4.form; clear hs4 hp4 hb4; rw [hz]; clear hz))
          go_ret
          exact ⟨rfl, HB4.out⟩
        | true =>
          have HLB : Hid (∀ sp : List Spot, sp.Perm (L.filter (belowB xs)) → (0 : Int) < (sp.length : Int)) := hid_in (fun sp hp => by unfold hasB at hB; have := of_decide_eq_true hB; rw [hp.length_eq]; omega)
          clear hs e0 hd hB
          go_enter Tryz.func41, Tryz.ntmps41
          go_wp2_with (first | (go_at_call 63; refine HD.out.mono ?_; rintro e w1 ⟨rfl, hb1⟩; have HB1 := hid_in hb1; clear hb1) | (go_at_call 64; refine (HG.out _ HB1.out).mono ?_; rintro e w2 ⟨p, k2, q, d, rfl, -, hb2⟩; have HB2 := hid_in (HB1.out.trans (hb2.mono HB1.out.size)); clear hb2) | (refine Nd.wpList_store_new rfl rfl 42 4 _ _ rfl _ [Value.string p, .int .i64 k2, .bool q, .string d] info36 rfl (hid_in rfl) (store36 _ _ _ _) rfl rfl ?_; intro w3 hr3 hb3 hs3; have HB3 := hid_in (HB2.out.trans (hb3.mono HB2.out.size)); clear hr3 hb3 hs3) | (go_at_call 52; refine (HBL.out _ HB3.out).mono ?_; rintro e w4 ⟨v4, sp, rfl, hs4, hp4, hb4⟩; have hz := HLB.out sp hp4; have HB4 := hid_in (HB3.out.trans (hb4.mono HB3.out.size)); obtain ⟨p4, c4, rfl⟩ := hs4.form; clear hs4 hp4 hb4; generalize sp.length = n4 at *))
          go_ret
          exact ⟨rfl, HB4.out⟩
  · have e0 : placeE L xs kd = dirE L xs.dropLast := by unfold placeE; rw [if_pos hd]
    rw [e0]
    generalize dirE L xs.dropLast = E at *
    clear HG HBL e0
    go_enter Tryz.func41, Tryz.ntmps41
    go_wp2_with (first | (go_at_call 63; refine HD.out.mono ?_; rintro e w1 ⟨rfl, hb1⟩; have HB1 := hid_in hb1; clear hb1))
    go_ret
    exact ⟨rfl, HB1.out⟩
end Go.Proofs.YtglfeocfhlmloaaGreat.Up
