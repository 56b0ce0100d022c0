/-
  The walks of checkData and checkDirs.
-/
import Derived.Deep.RegionLaw
import Derived.Deep.DrawnRows
import Derived.Laws.Tables
import Derived.Lib.SlBytesConst
import Derived.Laws.CopyOwn
import Derived.Lib.AppendZeros
import Derived.Test.YtngehkmdanhgpaaGreatR00
import Derived.Test.YtngehkmdanhgpaaGreatR01
import Derived.Test.YtngehkmdanhgpaaGreatR02
import Derived.Test.YtngehkmdanhgpaaGreatR03
import Derived.Test.YtngehkmdanhgpaaGreatR04
import Derived.Test.YtngehkmdanhgpaaGreatR05
import Derived.Test.YtngehkmdanhgpaaGreatR06
import Derived.Test.YtngehkmdanhgpaaGreatR07
import Derived.Test.YtngehkmdanhgpaaGreatR08
import Derived.Test.YtngehkmdanhgpaaGreatR09
import Derived.Test.YtngehkmdanhgpaaGreatR10
import Derived.Test.YtngehkmdanhgpaaGreatR11
import Derived.Test.YtngehkmdanhgpaaGreatR12
import Derived.Test.YtngehkmdanhgpaaGreatR13
import Derived.Test.YtngehkmdanhgpaaGreatR14
import Derived.Test.YtngehkmdanhgpaaGreatR15
import Derived.Test.YtngehkmdanhgpaaGreatR16
import Derived.Test.YtngehkmdanhgpaaGreatR17
import Derived.Test.YtngehkmdanhgpaaGreatR18
import Derived.Test.YtngehkmdanhgpaaGreatR20
namespace Go.Proofs.YtngehkmdanhgpaaGreat.Pl
open Go.RowKit
open Vp (Str B bl Val cmpL parseS showS splitS withinS IsPath)
open Nd (Row wp_world post_Row post_Row2 grownBy_setCell below_of_grown)
open Rf (Fil Fls fcells)
theorem lit_ne (x : ByteArray) : x.toList = [] ↔ x.size = 0 := by
  obtain ⟨d⟩ := x
  simp [ByteArray.toList_eq, ByteArray.size]
theorem sf_getD {w : World} {m : Nat} {L : List Spot} (h : MapP w m L) (xs : List Str) : Sf ((spotAt L xs).getD Spot.zero) := by
  cases hs : spotAt L xs with
  | none => exact ⟨_, _, _, rfl⟩
  | some s => exact h.sf hs
theorem field63 (p : Option Addr) (n c : Nat) (t x : ByteArray) (d : Bool) (w : World) : (Instr.field 63 (.agg #[.slice p n c, .string t, .bool d, .string x]) 1).run Tryz.prog w = .ok (.agg #[.string t, .bool d, .string x]) w := by kernel_rfl
theorem field48 (t x : ByteArray) (d : Bool) (w : World) : (Instr.field 48 (.agg #[.string t, .bool d, .string x]) 1).run Tryz.prog w = .ok (.bool d) w := by kernel_rfl
def argP (f : Fil) : Bool := f.dir && !decide (f.data.size = 0)
def bigP (f : Fil) : Bool := decide (1024 < f.data.size)
set_option maxHeartbeats 1000000 in
theorem data1_any (f : Fil) (w : World) : Calls Tryz.prog 49 #[f.val] w fun e w' => e = .returned (.bool (argP f)) ∧ Below w.heap.size w w' := by
  obtain ⟨p, d, x⟩ := f
  simp only [Fil.val, argP]
  cases hd : decide (x.size = 0) <;> cases d
  all_goals
    go_enter Tryz.func49, Tryz.ntmps49
    go_wp2
    go_ret
    refine ⟨?_, (Below.refl _ _).alloc (Nat.le_refl _) _⟩
    simp [lit_ne] at hd ⊢
    try exact hd
set_option maxHeartbeats 1000000 in
theorem data2_any (f : Fil) (w : World) : Calls Tryz.prog 50 #[f.val] w fun e w' => e = .returned (.bool (bigP f)) ∧ Below w.heap.size w w' := by
  obtain ⟨p, d, x⟩ := f
  simp only [Fil.val, bigP]
  go_enter Tryz.func50, Tryz.ntmps50
  go_wp2
  go_ret
  refine ⟨?_, (Below.refl _ _).alloc (Nat.le_refl _) _⟩
  simp; omega
def dataE (fs : List Fil) : Int := if fs.any argP then 1 else if fs.any bigP then 134 else 0
set_option maxHeartbeats 1000000 in
set_option maxRecDepth 100000 in
theorem checkData_any (fs : List Fil) (v : Value) (w : World) (h : Fls w v fs) (hn : fs.length ≤ 1000000) : Calls Tryz.prog 24 #[v] w fun e w' => e = .returned (.int .i64 (dataE fs)) ∧ Below w.heap.size w w' := by
  have H1 := hid_in (contains_49 fs v w h hn argP (fun x _ W _ => data1_any x W))
  have H2 := hid_in (fun W (k : Below w.heap.size w W) => contains_50 fs v W (h.below k) hn bigP (fun x _ W _ => data2_any x W))
  have HE : Hid (dataE fs = if fs.any argP then 1 else if fs.any bigP then 134 else 0) := rfl
  obtain ⟨p, cap, rfl⟩ := h.form
  generalize dataE fs = R at *
  generalize fs.any argP = A at *
  generalize fs.any bigP = G at *
  generalize fs.length = nl at *
  clear h
  cases A <;> cases G
  all_goals
    go_enter Tryz.func24, Tryz.ntmps24
    go_wp2_with (first | (go_at_call 48; refine H1.out.mono ?_; rintro e w1 ⟨rfl, hb1⟩; have HB1 := hid_in hb1; clear hb1) | (go_at_call 48; refine (H2.out _ HB1.out).mono ?_; rintro e w2 ⟨rfl, hb2⟩; have HB2 := hid_in (HB1.out.trans (hb2.mono HB1.out.size)); clear hb2))
    go_ret
    first | exact ⟨by rw [HE.out]; rfl, HB2.out⟩ | exact ⟨by rw [HE.out]; rfl, HB1.out⟩
def noneP (L : List Spot) (s : Spot) : Bool := !(spotAt L s.names.dropLast).isSome
def fileP (L : List Spot) (s : Spot) : Bool := !((spotAt L s.names.dropLast).getD Spot.zero).dir
set_option maxHeartbeats 1000000 in
set_option maxRecDepth 100000 in
theorem dirs1_any {w : World} {g m : Nat} {L : List Spot} (h : Fs w g m L) (s : Spot) (hv : Val w s.v s.names) (hx : Gp s.names) (cb : Nat) (hb : w.cell? ⟨cb, 0, none⟩ = some (.pointer (some ⟨g, 0, none⟩))) :
    Calls Tryz.prog 53 #[s.val, .pointer (some ⟨cb, 0, none⟩)] w fun e w' => e = .returned (.bool (noneP L s)) ∧ Below w.heap.size w w' := by
  obtain ⟨sv, sn, sp, sd, sx⟩ := s
  simp only at hv hx
  obtain ⟨np, nc, rfl⟩ : ∃ p c, sv = .slice p sn.length c := by obtain ⟨p, c, e, _⟩ := hv; exact ⟨p, c, e⟩
  simp only [Spot.val, noneP]
  have hcb := World.block_lt_of_cell? w _ hb
  obtain ⟨WA, HWA⟩ : ∃ WA, Hid (w.alloc (.cells #[.slice np sn.length nc, .string sp, .bool sd, .string sx] 63) = WA) := ⟨_, hid_in rfl⟩
  have HBA : Hid (Below w.heap.size w WA) := by rw [← HWA.out]; exact (Below.refl _ _).alloc (Nat.le_refl _) _
  have HRA : Hid (Row WA w.heap.size [.slice np sn.length nc, .string sp, .bool sd, .string sx] 63) := by rw [← HWA.out]; exact Row.new w [.slice np sn.length nc, .string sp, .bool sd, .string sx] 63
  have HD := hid_in (fun W (k : Below w.heap.size w W) => dirOf_any (hv.below k) hx)
  have HH := hid_in (fun W (k : Below w.heap.size w W) v (kv : Val W v sn.dropLast) => has_any (h.below k) kv hx.dropLast)
  have HK := hid_in (fun W (k : Below WA.heap.size WA W) => And.intro (show W.cell? ⟨cb, 0, none⟩ = some (.pointer (some ⟨g, 0, none⟩)) by rw [k.cell (p := ⟨cb, 0, none⟩) (Nat.lt_of_lt_of_le hcb HBA.out.size), HBA.out.cell (p := ⟨cb, 0, none⟩) hcb, hb]) ((HRA.out.below k HRA.out.lt).cell 0))
  obtain ⟨SB, HSB⟩ : ∃ SB, Hid ((spotAt L sn.dropLast).isSome = SB) := ⟨_, hid_in rfl⟩
  rw [HSB.out] at HH ⊢
  generalize sn.length = nl at *
  generalize sn.dropLast = dn at *
  clear h hv hx hb hcb
  go_enter Tryz.func53, Tryz.ntmps53
  go_upto_region 1 with fail
  refine wp_world HWA.out ?_
  have HKA : Hid (WA.cell? ⟨cb, 0, none⟩ = some (.pointer (some ⟨g, 0, none⟩)) ∧ WA.cell? ⟨w.heap.size, 0, none⟩ = some (.slice np nl nc)) := HK.out WA (Below.refl _ _)
  go_region_held3 (fun W => W.cell? ⟨cb, 0, none⟩ = some (.pointer (some ⟨g, 0, none⟩)) ∧ W.cell? ⟨w.heap.size, 0, none⟩ = some (.slice np nl nc)) (first | (exact HK.out _ HB3.out) | (exact HK.out _ HB2.out) | (exact HK.out _ (Below.refl _ _)) | (exact HK.out _ (below_drew WA))) (first | (go_at_call 54; refine (HD.out _ (below_drewN HBA.out 1)).mono ?_; rintro e w2 ⟨v2, rfl, hv2, hb2⟩; have HV2 := hid_in hv2; have HB2 := hid_in ((below_drew WA).trans (hb2.mono (below_drew WA).size)); clear hv2 hb2) | (go_at_call 26; refine (HH.out _ (HBA.out.trans (HB2.out.mono HBA.out.size)) _ HV2.out).mono ?_; rintro e w3 ⟨rfl, hb3⟩; have HB3 := hid_in (HB2.out.trans (hb3.mono HB2.out.size)); clear hb3))
  all_goals
    go_wp2
    go_ret
    exact ⟨rfl, HBA.out.trans (HB3.out.mono HBA.out.size)⟩
set_option maxHeartbeats 1000000 in
set_option maxRecDepth 100000 in
theorem dirs2_any {w : World} {g m : Nat} {L : List Spot} (h : Fs w g m L) (s : Spot) (hv : Val w s.v s.names) (hx : Gp s.names) (cb : Nat) (hb : w.cell? ⟨cb, 0, none⟩ = some (.pointer (some ⟨g, 0, none⟩))) :
    Calls Tryz.prog 55 #[s.val, .pointer (some ⟨cb, 0, none⟩)] w fun e w' => e = .returned (.bool (fileP L s)) ∧ Below w.heap.size w w' := by
  obtain ⟨sv, sn, sp, sd, sx⟩ := s
  simp only at hv hx
  obtain ⟨np, nc, rfl⟩ : ∃ p c, sv = .slice p sn.length c := by obtain ⟨p, c, e, _⟩ := hv; exact ⟨p, c, e⟩
  simp only [Spot.val, fileP]
  have hcb := World.block_lt_of_cell? w _ hb
  obtain ⟨WA, HWA⟩ : ∃ WA, Hid (w.alloc (.cells #[.slice np sn.length nc, .string sp, .bool sd, .string sx] 63) = WA) := ⟨_, hid_in rfl⟩
  have HBA : Hid (Below w.heap.size w WA) := by rw [← HWA.out]; exact (Below.refl _ _).alloc (Nat.le_refl _) _
  have HRA : Hid (Row WA w.heap.size [.slice np sn.length nc, .string sp, .bool sd, .string sx] 63) := by rw [← HWA.out]; exact Row.new w [.slice np sn.length nc, .string sp, .bool sd, .string sx] 63
  have HD := hid_in (fun W (k : Below w.heap.size w W) => dirOf_any (hv.below k) hx)
  have HH := hid_in (fun W (k : Below w.heap.size w W) v (kv : Val W v sn.dropLast) => get_any (h.below k) kv hx.dropLast)
  have HK := hid_in (fun W (k : Below WA.heap.size WA W) => And.intro (show W.cell? ⟨cb, 0, none⟩ = some (.pointer (some ⟨g, 0, none⟩)) by rw [k.cell (p := ⟨cb, 0, none⟩) (Nat.lt_of_lt_of_le hcb HBA.out.size), HBA.out.cell (p := ⟨cb, 0, none⟩) hcb, hb]) ((HRA.out.below k HRA.out.lt).cell 0))
  obtain ⟨zq, zl, zc, hzv⟩ : Sf ((spotAt L sn.dropLast).getD Spot.zero) := sf_getD h.map _
  generalize (spotAt L sn.dropLast).getD Spot.zero = z at *
  obtain ⟨zv, zn, zp, zd, zx⟩ := z
  simp only at hzv
  subst hzv
  simp only [Spot.val] at HH ⊢
  generalize sn.length = nl at *
  generalize sn.dropLast = dn at *
  clear h hv hx hb hcb
  have hf1 := field63 zq zl zc zp zx zd
  have hf2 := field48 zp zx zd
  go_enter Tryz.func55, Tryz.ntmps55
  go_upto_region 1 with fail
  refine wp_world HWA.out ?_
  have HKA : Hid (WA.cell? ⟨cb, 0, none⟩ = some (.pointer (some ⟨g, 0, none⟩)) ∧ WA.cell? ⟨w.heap.size, 0, none⟩ = some (.slice np nl nc)) := HK.out WA (Below.refl _ _)
  go_region_held3 (fun W => W.cell? ⟨cb, 0, none⟩ = some (.pointer (some ⟨g, 0, none⟩)) ∧ W.cell? ⟨w.heap.size, 0, none⟩ = some (.slice np nl nc)) (first | (exact HK.out _ HB3.out) | (exact HK.out _ HB2.out) | (exact HK.out _ (Below.refl _ _)) | (exact HK.out _ (below_drew WA))) (first | (go_at_call 54; refine (HD.out _ (below_drewN HBA.out 1)).mono ?_; rintro e w2 ⟨v2, rfl, hv2, hb2⟩; have HV2 := hid_in hv2; have HB2 := hid_in ((below_drew WA).trans (hb2.mono (below_drew WA).size)); clear hv2 hb2) | (go_at_call 56; refine (HH.out _ (HBA.out.trans (HB2.out.mono HBA.out.size)) _ HV2.out).mono ?_; rintro e w3 ⟨rfl, hb3⟩; have HB3 := hid_in (HB2.out.trans (hb3.mono HB2.out.size)); clear hb3))
  all_goals
    go_wp2
    go_ret
    exact ⟨rfl, HBA.out.trans (HB3.out.mono HBA.out.size)⟩
def dirsE (L sp : List Spot) : Int := if sp.any (noneP L) then 4 else if sp.any (fileP L) then 70 else 0
set_option maxHeartbeats 1000000 in
set_option maxRecDepth 100000 in
theorem checkDirs_any {w : World} {g m : Nat} {L : List Spot} (h : Fs w g m L) (sp : List Spot) (v : Value) (hs : Sps w v sp) (hn : sp.length ≤ 1000000) (hv : ∀ s ∈ sp, Val w s.v s.names) (hx : ∀ s ∈ sp, Gp s.names) :
    Calls Tryz.prog 27 #[.pointer (some ⟨g, 0, none⟩), v] w fun e w' => e = .returned (.int .i64 (dirsE L sp)) ∧ Below w.heap.size w w' := by
  have hsf : ∀ s ∈ sp, Sf s := fun s hs => by obtain ⟨p, c, e, _⟩ := hv s hs; exact ⟨p, _, c, e⟩
  obtain ⟨WA, HWA⟩ : ∃ WA, Hid (w.alloc (.cells #[.pointer (some ⟨g, 0, none⟩)] 26) = WA) := ⟨_, hid_in rfl⟩
  have HBA : Hid (Below w.heap.size w WA) := by rw [← HWA.out]; exact (Below.refl _ _).alloc (Nat.le_refl _) _
  have HRA : Hid (Row WA w.heap.size [.pointer (some ⟨g, 0, none⟩)] 26) := by rw [← HWA.out]; exact Row.new w [.pointer (some ⟨g, 0, none⟩)] 26
  have HCB := hid_in (fun W (k : Below WA.heap.size WA W) => show W.cell? ⟨w.heap.size, 0, none⟩ = some (.pointer (some ⟨g, 0, none⟩)) from (HRA.out.below k HRA.out.lt).cell 0)
  have H1 := hid_in (contains_53 w.heap.size sp v WA (hs.below HBA.out) hn hsf (noneP L) (fun s hs W k => dirs1_any ((h.below HBA.out).below k) s (((hv s hs).below HBA.out).below k) (hx s hs) _ (HCB.out W k)))
  have H2 := hid_in (fun W1 (k1 : Below WA.heap.size WA W1) => contains_55 w.heap.size sp v W1 ((hs.below HBA.out).below k1) hn hsf (fileP L) (fun s hs W k => dirs2_any (((h.below HBA.out).below k1).below k) s ((((hv s hs).below HBA.out).below k1).below k) (hx s hs) _ (HCB.out W (k1.trans (k.mono k1.size)))))
  have HE : Hid (dirsE L sp = if sp.any (noneP L) then 4 else if sp.any (fileP L) then 70 else 0) := rfl
  obtain ⟨p, cap, rfl⟩ : ∃ p cap, v = .slice p sp.length cap := by obtain ⟨p, cap, _, _, e, _⟩ := hs; exact ⟨p, cap, e⟩
  generalize dirsE L sp = R at *
  generalize sp.any (noneP L) = A at *
  generalize sp.any (fileP L) = G at *
  generalize sp.length = nl at *
  clear h hs hv hx hsf
  cases A <;> cases G
  all_goals
    go_enter Tryz.func27, Tryz.ntmps27
    go_upto_region 1 with fail
    refine wp_world HWA.out ?_
    go_wp2_with (first | (go_at_call 52; refine H1.out.mono ?_; rintro e w1 ⟨rfl, hb1⟩; have HB1 := hid_in hb1; clear hb1) | (go_at_call 52; refine (H2.out _ HB1.out).mono ?_; rintro e w2 ⟨rfl, hb2⟩; have HB2 := hid_in (HB1.out.trans (hb2.mono HB1.out.size)); clear hb2))
    go_ret
    first | exact ⟨by rw [HE.out]; rfl, HBA.out.trans (HB2.out.mono HBA.out.size)⟩ | exact ⟨by rw [HE.out]; rfl, HBA.out.trans (HB1.out.mono HBA.out.size)⟩
end Go.Proofs.YtngehkmdanhgpaaGreat.Pl
