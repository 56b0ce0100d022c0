/-
  The walks of checkEnds, checkCover, checkMove.
-/
import Derived.Deep.RegionLaw
import Derived.Deep.DrawnRows
import Derived.Laws.Tables
import Derived.Laws.CopyOwn
import Derived.Lib.SlBytesConst
import Derived.Lib.AppendZeros
import Derived.Test.YtngehkmdanhgpaaGreatR00
import Derived.Test.YtngehkmdanhgpaaGreatR01
import Derived.Test.YtngehkmdanhgpaaGreatR02
import Derived.Test.YtngehkmdanhgpaaGreatR03
import Derived.Test.YtngehkmdanhgpaaGreatR04
import Derived.Test.YtngehkmdanhgpaaGreatR05
import Derived.Test.YtngehkmdanhgpaaGreatR06
import Derived.Test.YtngehkmdanhgpaaGreatR07
import Derived.Test.YtngehkmdanhgpaaGreatR08
import Derived.Test.YtngehkmdanhgpaaGreatR09
import Derived.Test.YtngehkmdanhgpaaGreatR10
import Derived.Test.YtngehkmdanhgpaaGreatR11
import Derived.Test.YtngehkmdanhgpaaGreatR12
import Derived.Test.YtngehkmdanhgpaaGreatR13
import Derived.Test.YtngehkmdanhgpaaGreatR14
import Derived.Test.YtngehkmdanhgpaaGreatR15
import Derived.Test.YtngehkmdanhgpaaGreatR16
import Derived.Test.YtngehkmdanhgpaaGreatR17
import Derived.Test.YtngehkmdanhgpaaGreatR18
import Derived.Test.YtngehkmdanhgpaaGreatR19
import Derived.Test.YtngehkmdanhgpaaGreatR20
import Derived.Test.YtngehkmdanhgpaaGreatR21
import Derived.Test.YtngehkmdanhgpaaGreatR22
import Derived.Test.YtngehkmdanhgpaaGreatR23
import Derived.Test.YtngehkmdanhgpaaGreatR24
import Derived.Test.YtngehkmdanhgpaaGreatR25
import Derived.Test.YtngehkmdanhgpaaGreatR26
import Derived.Test.YtngehkmdanhgpaaGreatR27
namespace Go.Proofs.YtngehkmdanhgpaaGreat.Pl
open Go.RowKit
open Vp (Str B bl Val cmpL parseS showS splitS withinS IsPath)
open Nd (Row wp_world post_Row post_Row2 grownBy_setCell below_of_grown)
theorem spot_one (p : Option Addr) (n c : Nat) (t x : ByteArray) (d : Bool) : Hid (∀ v ∈ [Value.slice p n c, .string t, .bool d, .string x], v.oneCell' = true) := by
  intro v hv
  simp only [List.mem_cons, List.not_mem_nil, or_false] at hv
  rcases hv with rfl | rfl | rfl | rfl <;> rfl
def endsE (A : List Ent) (p q : List Str) : Int := if p = [] ∨ q = [] then 132 else if (findA A p).2 ≠ 0 then (findA A p).2 else (findDA A q.dropLast).2
set_option maxHeartbeats 4000000 in
set_option maxRecDepth 100000 in
theorem checkEnds_any {w : World} {g m : Nat} {L : List Spot} (h : Fs w g m L) {pv qv : Value} {p q : List Str} (hp : Val w pv p) (hq : Val w qv q) (gp : Gp p) (gq : Gp q) :
    Calls Tryz.prog 97 #[.pointer (some ⟨g, 0, none⟩), pv, qv] w fun e w' => e = .returned (.int .i64 (endsE (L.map Spot.ent) p q)) ∧ Below w.heap.size w w' := by
  have HP := hid_in hp
  have HQ := hid_in hq
  obtain ⟨pp, pc, rfl⟩ : ∃ a c, pv = .slice a p.length c := by obtain ⟨a, c, e, _⟩ := hp; exact ⟨a, c, e⟩
  obtain ⟨qp, qc, rfl⟩ : ∃ a c, qv = .slice a q.length c := by obtain ⟨a, c, e, _⟩ := hq; exact ⟨a, c, e⟩
  have H := hid_in h
  have HFI := hid_in (find_any h hp gp)
  have HDO := hid_in (fun W (k : Below w.heap.size w W) => dirOf_any (hq.below k) gq)
  have HFD := hid_in (fun W (k : Below w.heap.size w W) v (kv : Val W v q.dropLast) => findDir_any (h.below k) kv gq.dropLast)
  have HE : Hid (endsE (L.map Spot.ent) p q = if p.length = 0 ∨ q.length = 0 then 132 else if (findP L p).2 ≠ 0 then (findP L p).2 else (findD L q.dropLast).2) := by
    show _ = _
    unfold endsE
    rw [← (findP_ent L p).1, ← (findD_ent L q.dropLast).1]
    simp only [List.length_eq_zero_iff]
  obtain ⟨fp, fn, fc, hfv⟩ := findP_sf h.map p
  obtain ⟨dp, dn, dc, hdv⟩ := findD_sf h.map q.dropLast
  generalize endsE (L.map Spot.ent) p q = E at *
  generalize findP L p = r at *
  obtain ⟨⟨fv, fnm, ft, fd, fx⟩, e1⟩ := r
  generalize findD L q.dropLast = r at *
  obtain ⟨⟨dv, dnm, dt, dd, dx⟩, e2⟩ := r
  simp only at hfv hdv HE
  subst hfv hdv
  simp only [Spot.val] at HFI HFD
  generalize p.length = pl at *
  generalize q.length = ql at *
  clear h hp hq
  by_cases k1 : pl = 0
  · subst k1
    have HEK : Hid (E = 132) := by show _ = _; rw [HE.out, if_pos (.inl rfl)]
    go_enter Tryz.func97, Tryz.ntmps97
    go_wp2
    go_ret
    exact ⟨by rw [HEK.out]; rfl, Below.refl _ _⟩
  have k1' : ((pl : Int) == 0) = false := beq_eq_false_iff_ne.2 (by omega)
  by_cases k2 : ql = 0
  · subst k2
    have HEK : Hid (E = 132) := by show _ = _; rw [HE.out, if_pos (.inr rfl)]
    go_enter Tryz.func97, Tryz.ntmps97
    go_wp2
    go_ret
    exact ⟨by rw [HEK.out]; rfl, Below.refl _ _⟩
  have k2' : ((ql : Int) == 0) = false := beq_eq_false_iff_ne.2 (by omega)
  have HE2 : Hid (E = if e1 ≠ 0 then e1 else e2) := by show _ = _; rw [HE.out, if_neg (by omega)]
  clear HE k1 k2
  go_enter Tryz.func97, Tryz.ntmps97
  go_upto_region 4 with (first | (go_at_call 102; refine HFI.out.mono ?_; rintro e w1 ⟨rfl, hb1⟩; have HB1 := hid_in hb1; clear hb1) | (refine Nd.wpList_store_new rfl rfl 63 4 _ _ rfl _ [Value.slice fp fn fc, .string ft, .bool fd, .string fx] info63 rfl (hid_in rfl) (spot_one _ _ _ _ _ _) rfl rfl ?_; intro w2 hr2 hb2 hs2; have HB2 := hid_in (HB1.out.trans (hb2.mono HB1.out.size)); clear hr2 hb2 hs2))
  by_cases k3 : e1 = 0
  · subst k3
    have HEK : Hid (E = e2) := by show _ = _; rw [HE2.out, if_neg (by simp)]
    go_wp2_with (first | (go_at_call 54; refine (HDO.out _ HB2.out).mono ?_; rintro e w3 ⟨v3, rfl, hv3, hb3⟩; have HV3 := hid_in hv3; have HB3 := hid_in (HB2.out.trans (hb3.mono HB2.out.size)); clear hv3 hb3) | (go_at_call 96; refine (HFD.out _ HB3.out _ HV3.out).mono ?_; rintro e w4 ⟨rfl, hb4⟩; have HB4 := hid_in (HB3.out.trans (hb4.mono HB3.out.size)); clear hb4) | (refine Nd.wpList_store_new rfl rfl 63 4 _ _ rfl _ [Value.slice dp dn dc, .string dt, .bool dd, .string dx] info63 rfl (hid_in rfl) (spot_one _ _ _ _ _ _) rfl rfl ?_; intro w5 hr5 hb5 hs5; have HB5 := hid_in (HB4.out.trans (hb5.mono HB4.out.size)); clear hr5 hb5 hs5))
    go_ret
    exact ⟨by rw [HEK.out]; rfl, HB5.out⟩
  · have k3' : (e1 != 0) = true := by simpa using k3
    have HEK : Hid (E = e1) := by show _ = _; rw [HE2.out, if_pos k3]
    clear k3
    go_wp2
    go_ret
    exact ⟨by rw [HEK.out]; rfl, HB2.out⟩
/-- whether one may come in the place of another -/
def covE (A : List Ent) (fd od : Bool) (q : List Str) : Int := if fd = false ∧ od = true then 71 else if fd = true ∧ od = false then 70 else if 0 < (A.filter (belowE q)).length then 130 else 0
set_option maxHeartbeats 4000000 in
set_option maxRecDepth 100000 in
theorem checkCover_any {w : World} {g m : Nat} {L : List Spot} (h : Fs w g m L) (hn : L.length ≤ 100000) (f o : Spot) (hf : Sf f) (ho : Val w o.v o.names) :
    Calls Tryz.prog 126 #[.pointer (some ⟨g, 0, none⟩), f.val, o.val] w fun e w' => e = .returned (.int .i64 (covE (L.map Spot.ent) f.dir o.dir o.names)) ∧ Below w.heap.size w w' := by
  obtain ⟨fv, fnm, ft, fd, fx⟩ := f
  obtain ⟨fp, fn, fc, hfv⟩ := hf
  simp only at hfv
  subst hfv
  obtain ⟨ov, onm, ot, od, ox⟩ := o
  simp only at ho
  obtain ⟨op, oc, rfl⟩ : ∃ a c, ov = .slice a onm.length c := by obtain ⟨a, c, e, _⟩ := ho; exact ⟨a, c, e⟩
  simp only [Spot.val]
  obtain ⟨WA, HWA⟩ : ∃ WA, Hid ((w.alloc (.cells #[.slice fp fn fc, .string ft, .bool fd, .string fx] 63)).alloc (.cells #[.slice op onm.length oc, .string ot, .bool od, .string ox] 63) = WA) := ⟨_, hid_in rfl⟩
  have HBA : Hid (Below w.heap.size w WA) := by rw [← HWA.out]; exact ((Below.refl _ _).alloc (Nat.le_refl _) _).alloc (by simp) _
  have hr1 : Row WA w.heap.size [.slice fp fn fc, .string ft, .bool fd, .string fx] 63 := by rw [← HWA.out]; exact (Row.new w [.slice fp fn fc, .string ft, .bool fd, .string fx] 63).alloc _
  have hr2 : Row WA (w.heap.size + 1) [.slice op onm.length oc, .string ot, .bool od, .string ox] 63 := by rw [← HWA.out]; exact Row.newAt (w.alloc _) (w.heap.size + 1) [.slice op onm.length oc, .string ot, .bool od, .string ox] 63 (by simp)
  obtain ⟨⟨a0, a1, a2, a3⟩, -⟩ := spot_cells hr1 (Below.refl _ WA)
  obtain ⟨⟨b0, b1, b2, b3⟩, -⟩ := spot_cells hr2 (Below.refl _ WA)
  have HBL := hid_in (below_any (h.below HBA.out) (ho.below HBA.out) hn)
  have HE : Hid (covE (L.map Spot.ent) fd od onm = if fd = false ∧ od = true then 71 else if fd = true ∧ od = false then 70 else if 0 < (L.filter (belowB onm)).length then 130 else 0) := by
    show _ = _
    unfold covE
    rw [← belowB_ent, List.length_map]
  generalize covE (L.map Spot.ent) fd od onm = E at *
  generalize onm.length = nl at *
  generalize L.filter (belowB onm) = F at *
  clear h ho hr1 hr2
  cases fd <;> cases od
  case false.true =>
    go_enter Tryz.func126, Tryz.ntmps126
    go_upto_region 1 with fail
    refine wp_world HWA.out ?_
    go_wp2
    go_ret
    exact ⟨by rw [HE.out]; rfl, HBA.out⟩
  case true.false =>
    go_enter Tryz.func126, Tryz.ntmps126
    go_upto_region 1 with fail
    refine wp_world HWA.out ?_
    go_wp2
    go_ret
    exact ⟨by rw [HE.out]; rfl, HBA.out⟩
  all_goals
    go_enter Tryz.func126, Tryz.ntmps126
    go_upto_region 1 with fail
    refine wp_world HWA.out ?_
    by_cases hpos : 0 < F.length
    · have HEK : Hid (E = 130) := by show _ = _; rw [HE.out, if_neg (by simp), if_neg (by simp), if_pos hpos]
      have HPOS := hid_in hpos
      clear hpos
      go_wp2_with (first | (go_at_call 42; refine HBL.out.mono ?_; rintro e w4 ⟨v4, ps, rfl, hs4, hp4, hb4⟩; obtain ⟨p4, c4, rfl⟩ := hs4.form; have HB4 := hid_in (HBA.out.trans (hb4.mono HBA.out.size)); have jp : (0 : Int) < (ps.length : Int) := (by rw [hp4.length_eq]; have := HPOS.out; omega); clear hs4 hp4 hb4))
      go_ret
      exact ⟨by rw [HEK.out]; rfl, HB4.out⟩
    · have HEK : Hid (E = 0) := by show _ = _; rw [HE.out, if_neg (by simp), if_neg (by simp), if_neg hpos]
      have HPOS := hid_in hpos
      clear hpos
      go_wp2_with (first | (go_at_call 42; refine HBL.out.mono ?_; rintro e w4 ⟨v4, ps, rfl, hs4, hp4, hb4⟩; obtain ⟨p4, c4, rfl⟩ := hs4.form; have HB4 := hid_in (HBA.out.trans (hb4.mono HBA.out.size)); have jp : ¬ ((0 : Int) < (ps.length : Int)) := (by rw [hp4.length_eq]; have := HPOS.out; omega); clear hs4 hp4 hb4))
      go_ret
      exact ⟨by rw [HEK.out]; rfl, HB4.out⟩
end Go.Proofs.YtngehkmdanhgpaaGreat.Pl
