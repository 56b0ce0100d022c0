/-
  The walks of find, findFile, findDir.
-/
import Derived.Deep.RegionLaw
import Derived.Deep.DrawnRows
import Derived.Lib.SlBytesConst
import Derived.Laws.CopyOwn
import Derived.Lib.AppendZeros
import Derived.Laws.Tables
import Derived.Test.YtngehkmdanhgpaaGreatR00
import Derived.Test.YtngehkmdanhgpaaGreatR01
import Derived.Test.YtngehkmdanhgpaaGreatR02
import Derived.Test.YtngehkmdanhgpaaGreatR03
import Derived.Test.YtngehkmdanhgpaaGreatR04
import Derived.Test.YtngehkmdanhgpaaGreatR05
import Derived.Test.YtngehkmdanhgpaaGreatR06
import Derived.Test.YtngehkmdanhgpaaGreatR07
import Derived.Test.YtngehkmdanhgpaaGreatR08
import Derived.Test.YtngehkmdanhgpaaGreatR09
import Derived.Test.YtngehkmdanhgpaaGreatR10
import Derived.Test.YtngehkmdanhgpaaGreatR11
import Derived.Test.YtngehkmdanhgpaaGreatR12
import Derived.Test.YtngehkmdanhgpaaGreatR13
namespace Go.Proofs.YtngehkmdanhgpaaGreat.Pl
open Go.RowKit
open Vp (Str B bl Val cmpL parseS showS splitS withinS IsPath)
open Nd (Row wp_world post_Row post_Row2)
/-- from the root on, name by name -/
def goF (L : List Spot) : Spot → List (List Str) → Spot × Int
  | s, [] => (s, 0)
  | s, p :: ps => if s.dir = false then (Spot.zero, 70) else match spotAt L p with
    | none => (Spot.zero, 4)
    | some t => goF L t ps
def inits (xs : List Str) : List (List Str) := (List.range (xs.length + 1)).map (xs.take ·)
def Spot.top : Spot := ⟨.slice none 0 0, [], ⟨#[]⟩, true, ⟨#[]⟩⟩
def findP (L : List Spot) (xs : List Str) : Spot × Int := goF L Spot.top (inits xs)
theorem inits_drop {xs : List Str} {i : Nat} (h : i ≤ xs.length) : (inits xs).drop i = xs.take i :: (inits xs).drop (i + 1) := by
  have hl : i < (inits xs).length := by simp [inits]; omega
  rw [List.drop_eq_getElem_cons hl]
  simp [inits]
theorem inits_end (xs : List Str) : (inits xs).drop (xs.length + 1) = [] := by simp [inits]
theorem goF_last (L : List Spot) : ∀ (ps : List (List Str)) (s t : Spot) (x : List Str), goF L s (ps ++ [x]) = (t, 0) → spotAt L x = some t
  | [], s, t, x, h => by
    simp only [List.nil_append, goF] at h
    split at h
    · cases h
    · split at h
      · cases h
      · rename_i hq
        cases h
        exact hq
  | p :: ps, s, t, x, h => by
    simp only [List.cons_append, goF] at h
    split at h
    · cases h
    · split at h
      · cases h
      · exact goF_last L ps _ t x h
theorem findP_at {L : List Spot} {xs : List Str} {t : Spot} (h : findP L xs = (t, 0)) : spotAt L xs = some t := by
  unfold findP inits at h
  rw [List.range_succ, List.map_append, List.map_cons, List.map_nil, List.take_length] at h
  exact goF_last L _ _ t xs h
theorem goF_form (L : List Spot) : ∀ (ps : List (List Str)) (s : Spot), (goF L s ps).2 = 0 ∨ goF L s ps = (Spot.zero, 70) ∨ goF L s ps = (Spot.zero, 4)
  | [], s => .inl rfl
  | p :: ps, s => by
    simp only [goF]
    split
    · exact .inr (.inl rfl)
    · split
      · exact .inr (.inr rfl)
      · exact goF_form L ps _
theorem slice35_to (p : Option Addr) (L C n : Nat) (h1 : n ≤ C) (w : World) : (Instr.slice 35 (.slice p L C) none (some (.int .i64 (n : Int))) none).run Tryz.prog w = .ok (.slice p n C) w := by
  have ht : Tryz.prog.underlying 35 = some (.slice (Tryz.prog.elem 35)) := by kernel_rfl
  have hs : ∀ w : World, (sizeOf (Tryz.prog.elem 35)).run Tryz.prog w = .ok 1 w := fun w => by kernel_rfl
  rw [run_slice_h w 35 p L C ht .i64 (n : Int) (by omega) (by omega), hs]
  rcases p with _ | ⟨b, o, s⟩ <;> simp [sliced, Addr.add]
theorem val_take {w : World} {p : Option Addr} {xs : List Str} {c : Nat} (h : Val w (.slice p xs.length c) xs) (i : Nat) (hi : i ≤ xs.length) : Val w (.slice p i c) (xs.take i) := by
  obtain ⟨p', c', e, hr⟩ := h
  simp only [Value.slice.injEq] at e
  obtain ⟨rfl, _, rfl⟩ := e
  exact ⟨p, c, by rw [List.length_take, Nat.min_eq_left hi], hr.take i hi⟩
/-- a spot in a block of its own: its names are a slice -/
def Sf (s : Spot) : Prop := ∃ p n c, s.v = .slice p n c
theorem MapP.sf {w : World} {m : Nat} {L : List Spot} (h : MapP w m L) {xs : List Str} {s : Spot} (hs : spotAt L xs = some s) : Sf s := by
  obtain ⟨p, c, hv⟩ := (h.nms s (List.mem_of_find?_eq_some hs)).form
  exact ⟨p, s.names.length, c, hv⟩
set_option maxHeartbeats 2000000 in
set_option maxRecDepth 100000 in
theorem find_any {w : World} {g m : Nat} {L : List Spot} (h : Fs w g m L) {nv : Value} {xs : List Str} (hv : Val w nv xs) (hx : Gp xs) :
    Calls Tryz.prog 102 #[.pointer (some ⟨g, 0, none⟩), nv] w fun e w' => e = .returned (.tuple #[(findP L xs).1.val, .int .i64 (findP L xs).2]) ∧ Below w.heap.size w w' := by
  have HV := hid_in hv
  obtain ⟨np, nc, rfl⟩ : ∃ p c, nv = .slice p xs.length c := by obtain ⟨p, c, e, _⟩ := hv; exact ⟨p, c, e⟩
  have hcap : xs.length ≤ nc := by obtain ⟨p, c, e, hr⟩ := hv; simp only [Value.slice.injEq] at e; obtain ⟨_, _, rfl⟩ := e; exact hr.le
  have H := hid_in h
  have HX := hid_in hx
  have HN := hid_in hx.2
  have HCAP := hid_in hcap
  clear h hv hx hcap
  obtain ⟨nl, HNL⟩ : ∃ nl, Hid (xs.length = nl) := ⟨_, hid_in rfl⟩
  rw [HNL.out] at HV HN HCAP ⊢
  have hn8 := HN.out
  go_enter Tryz.func102, Tryz.ntmps102
  go_wp2_with fail
  go_loopw [13] (fun vi W => ∃ i : Nat, i ≤ nl + 1 ∧ vi = .int .i64 (i : Int) ∧ Hid (∃ s : Spot, Sf s ∧ findP L xs = goF L s ((inits xs).drop i) ∧ Row W w.heap.size [.slice none 0 0, .string ⟨#[]⟩, .bool false, .string ⟨#[]⟩] 63 ∧ Row W (w.heap.size + 1) s.cells 63 ∧ Below w.heap.size w W)) (fun vi _ => nl + 1 - (intOf vi).toNat)
  case atStart =>
    refine ⟨0, by omega, rfl, Spot.top, ⟨_, _, _, rfl⟩, rfl, ?_, ?_, ?_⟩
    · exact (Row.new w [.slice none 0 0, .string ⟨#[]⟩, .bool false, .string ⟨#[]⟩] 63).alloc _
    · exact Row.newAt (w.alloc _) (w.heap.size + 1) [.slice none 0 0, .string ⟨#[]⟩, .bool true, .string ⟨#[]⟩] 63 (by simp)
    · exact ((Below.refl _ _).alloc (Nat.le_refl _) _).alloc (by simp) _
  case round =>
    obtain ⟨i, hi, rfl, hR⟩ := hrel
    obtain ⟨⟨sv, sn, sp, sd, sx⟩, ⟨qp, qn, qc, hsv⟩, hF, hr0, hr1, hB⟩ := hR.out
    simp only [Spot.cells] at hr1
    simp only at hsv
    subst hsv
    have HF := hid_in hF
    have HR0 := hid_in hr0
    have HR1 := hid_in hr1
    have HB := hid_in hB
    obtain ⟨⟨a0, a1, a2, a3⟩, b0, b1, b2, b3⟩ := spot_cells hr0 (Below.refl _ wr)
    obtain ⟨⟨c0, c1, c2, c3⟩, f0, f1, f2, f3⟩ := spot_cells hr1 (Below.refl _ wr)
    clear hF hr0 hr1 hB hR
    by_cases hlt : i ≤ nl
    · have hid := inits_drop (xs := xs) (i := i) (by rw [HNL.out]; exact hlt)
      have HID := hid_in hid
      have k1 : (i : Int) < (nl : Int) + 1 := by omega
      clear hid
      cases sd with
      | false =>
        have hres : findP L xs = (Spot.zero, 70) := by rw [HF.out, HID.out]; simp [goF]
        have HRES := hid_in hres
        clear hres
        go_wp2
        exact post_Row2 4 5 63 rfl w.heap.size rfl 63 [.slice none 0 0, .string ⟨#[]⟩, .bool false, .string ⟨#[]⟩] ((((HR0.out.set_same 0 _).set_same 1 _).set_same 2 _).set_same 3 _) _ Tryz.underlying63 rfl 4 info63 rfl rfl ⟨by rw [HRES.out]; rfl, set4_below HB.out (Nat.le_refl _) HB.out.size _ _ _ _⟩
      | true =>
        have HVT := hid_in (fun W (k : Below w.heap.size w W) => val_take (xs := xs) (by rw [HNL.out]; exact HV.out.below k) i (by rw [HNL.out]; exact hlt))
        have HGT := hid_in (HX.out.take i)
        have hsl := slice35_to np nl nc i (by have := HCAP.out; omega)
        have HHAS := hid_in (has_any (H.out.below HB.out) (HVT.out _ HB.out) HGT.out)
        cases hsp : spotAt L (xs.take i) with
        | none =>
          have hres : findP L xs = (Spot.zero, 4) := by rw [HF.out, HID.out]; simp [goF, hsp]
          have HRES := hid_in hres
          rw [hsp] at HHAS
          clear hres hsp
          go_wp2_with (first | (go_at_call 26; refine HHAS.out.mono ?_; rintro e w2 ⟨rfl, hb2⟩; obtain ⟨⟨g0, g1, g2, g3⟩, k0, k1, k2, k3⟩ := spot_cells HR0.out hb2; have HR2 := hid_in (HR0.out.below hb2 HR0.out.lt); have HB2 := hid_in (HB.out.trans (hb2.mono HB.out.size)); clear hb2))
          exact post_Row2 4 5 63 rfl w.heap.size rfl 63 [.slice none 0 0, .string ⟨#[]⟩, .bool false, .string ⟨#[]⟩] ((((HR2.out.set_same 0 _).set_same 1 _).set_same 2 _).set_same 3 _) _ Tryz.underlying63 rfl 4 info63 rfl rfl ⟨by rw [HRES.out]; rfl, set4_below HB2.out (Nat.le_refl _) HB2.out.size _ _ _ _⟩
        | some t =>
          have hres : findP L xs = goF L t ((inits xs).drop (i + 1)) := by rw [HF.out, HID.out]; simp [goF, hsp]
          rw [hsp] at HHAS
          have HGET := hid_in (fun W (k : Below w.heap.size w W) => get_any (H.out.below k) (HVT.out _ k) HGT.out)
          rw [hsp] at HGET
          obtain ⟨tp, tn, tc, htv⟩ := H.out.map.sf hsp
          obtain ⟨tv, tnm, tpa, td, tx⟩ := t
          simp only at htv
          subst htv
          simp only [Option.getD_some, Spot.val] at HGET
          have HRES := hid_in hres
          clear hres hsp
          go_wp2_with (first | (go_at_call 26; refine HHAS.out.mono ?_; rintro e w2 ⟨rfl, hb2⟩; have HR20 := hid_in (HR0.out.below hb2 HR0.out.lt); have HR21 := hid_in (HR1.out.below hb2 HR1.out.lt); have HB2 := hid_in (HB.out.trans (hb2.mono HB.out.size)); clear hb2) | (go_at_call 56; refine (HGET.out _ HB2.out).mono ?_; rintro e w3 ⟨rfl, hb3⟩; obtain ⟨⟨g0, g1, g2, g3⟩, m0, m1, m2, m3⟩ := spot_cells HR21.out hb3; have HR30 := hid_in (HR20.out.below hb3 HR20.out.lt); have HR31 := hid_in (HR21.out.below hb3 HR21.out.lt); have HB3 := hid_in (HB2.out.trans (hb3.mono HB2.out.size)); clear hb3))
          refine ⟨⟨i + 1, by omega, by go_num, ⟨.slice tp tn tc, tnm, tpa, td, tx⟩, ⟨_, _, _, rfl⟩, HRES.out, ?_, ?_, ?_⟩, by simp [intOf]; omega⟩
          · exact (((HR30.out.set_other _ _ (by simp)).set_other _ _ (by simp)).set_other _ _ (by simp)).set_other _ _ (by simp)
          · exact (((HR31.out.set_same 0 _).set_same 1 _).set_same 2 _).set_same 3 _
          · exact set4_below HB3.out (Nat.le_succ _) HB3.out.size _ _ _ _
    · obtain rfl : i = nl + 1 := by omega
      have hres : findP L xs = (⟨.slice qp qn qc, sn, sp, sd, sx⟩, 0) := by
        rw [HF.out, ← HNL.out, inits_end]; rfl
      have HRES := hid_in hres
      clear hres
      have k1 : ¬ (((nl + 1 : Nat) : Int) < (nl : Int) + 1) := by omega
      go_wp2
      exact post_Row2 4 5 63 rfl w.heap.size rfl 63 [.slice qp qn qc, .string sp, .bool sd, .string sx] ((((HR0.out.set_same 0 _).set_same 1 _).set_same 2 _).set_same 3 _) _ Tryz.underlying63 rfl 4 info63 rfl rfl ⟨by rw [HRES.out]; rfl, set4_below HB.out (Nat.le_refl _) HB.out.size _ _ _ _⟩
end Go.Proofs.YtngehkmdanhgpaaGreat.Pl
