/-
  The small calls of a file system: has, get. The small calls of a file system: get, put, drop, dirOf, namesOf, refuse. The walks of find, findFile, findDir.
-/
import Derived.Deep.RegionHeld3
import Derived.Lib.SlBytesConst
import Derived.Laws.CopyOwn
import Derived.Deep.RegionLaw
import Derived.Deep.DrawnRows
import Derived.Lib.AppendZeros
import Derived.Laws.Tables
import Derived.Test.YtngehkmdanhgpaaGreatQ00
import Derived.Test.YtngehkmdanhgpaaGreatQ01
import Derived.Test.YtngehkmdanhgpaaGreatQ02
import Derived.Test.YtngehkmdanhgpaaGreatQ03
import Derived.Test.YtngehkmdanhgpaaGreatQ04
import Derived.Test.YtngehkmdanhgpaaGreatQ05
import Derived.Test.YtngehkmdanhgpaaGreatQ06
import Derived.Test.YtngehkmdanhgpaaGreatQ07
import Derived.Test.YtngehkmdanhgpaaGreatQ08
import Derived.Test.YtngehkmdanhgpaaGreatQ09
import Derived.Test.YtngehkmdanhgpaaGreatQ10
import Derived.Test.YtngehkmdanhgpaaGreatQ11
namespace Go.Proofs.YtngehkmdanhgpaaGreat.Pl
open Go.RowKit
open Vp (Str B bl Val cmpL parseS showS splitS withinS IsPath)
open Nd (Row wp_world)
theorem below_drew (W : World) : Below W.heap.size W W.drew := below_drewN (Below.refl _ _) 1
theorem info63 : (Tryz.prog.info? 63).map (·.size) = some 4 := by kernel_rfl
/-- the value at a path -/
theorem spot_form {w : World} {m : Nat} {L : List Spot} (h : MapP w m L) (xs : List Str) : ∃ p n c t d x, ((spotAt L xs).getD Spot.zero).val = .agg #[.slice p n c, .string t, .bool d, .string x] := by
  cases hs : spotAt L xs with
  | none => exact ⟨none, 0, 0, ⟨#[]⟩, false, ⟨#[]⟩, rfl⟩
  | some s =>
    obtain ⟨p, c, hv⟩ := (h.nms s (List.mem_of_find?_eq_some hs)).form
    exact ⟨p, s.names.length, c, s.path, s.dir, s.data, by simp [Spot.val, hv]⟩
theorem Fs.cell {w : World} {g m : Nat} {L : List Spot} (h : Fs w g m L) : w.cell? ⟨g, 0, none⟩ = some (.map (some m)) := h.row.cell 0
theorem set_below {B b j : Nat} {w W : World} (h : Below B w W) (hb : B ≤ b) (hs : B ≤ W.heap.size) (v : Value) : Below B w (W.setCell ⟨b, j, none⟩ v) ∧ B ≤ (W.setCell ⟨b, j, none⟩ v).heap.size := by
  have hg := Nd.grownBy_setCell W ⟨b, j, none⟩ v
  exact ⟨h.grown hg hs (fun k e => by obtain rfl := Option.some.inj e; exact hb), Nat.le_trans hs hg.size⟩
theorem set4_below {B b : Nat} {w W : World} (h : Below B w W) (hb : B ≤ b) (hs : B ≤ W.heap.size) (v0 v1 v2 v3 : Value) : Below B w ((((W.setCell ⟨b, 0, none⟩ v0).setCell ⟨b, 1, none⟩ v1).setCell ⟨b, 2, none⟩ v2).setCell ⟨b, 3, none⟩ v3) := by
  obtain ⟨h0, s0⟩ := set_below (j := 0) h hb hs v0
  obtain ⟨h1, s1⟩ := set_below (j := 1) h0 hb s0 v1
  obtain ⟨h2, s2⟩ := set_below (j := 2) h1 hb s1 v2
  exact (set_below (j := 3) h2 hb s2 v3).1
/-- the path's text, asked in a later world -/
theorem show_at {w : World} {nv : Value} {xs : List Str} (hv : Val w nv xs) (hx : Gp xs) (W : World) (k : Below w.heap.size w W) : Calls Tryz.prog 51 #[nv] W fun e w' => e = .returned (.string (B (showS xs))) ∧ Below w.heap.size w w' ∧ Below W.heap.size W w' :=
  (Vp.show_v (hv.below k) (by have := hx.lens; omega)).mono fun e w' h => ⟨h.1, k.trans (h.2.mono k.size), h.2⟩
theorem spot_cells {W w2 : World} {b : Nat} {p : Option Addr} {n c : Nat} {t x : ByteArray} {d : Bool} (hr : Row W b [.slice p n c, .string t, .bool d, .string x] 63) (k : Below W.heap.size W w2) : (w2.cell? ⟨b, 0, none⟩ = some (.slice p n c) ∧ w2.cell? ⟨b, 1, none⟩ = some (.string t) ∧ w2.cell? ⟨b, 2, none⟩ = some (.bool d) ∧ w2.cell? ⟨b, 3, none⟩ = some (.string x)) ∧ w2.frozen? ⟨b, 0, none⟩ = false ∧ w2.frozen? ⟨b, 1, none⟩ = false ∧ w2.frozen? ⟨b, 2, none⟩ = false ∧ w2.frozen? ⟨b, 3, none⟩ = false := by
  have h := hr.below k hr.lt
  exact ⟨⟨h.cell 0, h.cell 1, h.cell 2, h.cell 3⟩, h.frozen 0, h.frozen 1, h.frozen 2, h.frozen 3⟩
set_option maxHeartbeats 1000000 in
set_option maxRecDepth 100000 in
theorem has_any {w : World} {g m : Nat} {L : List Spot} (h : Fs w g m L) {nv : Value} {xs : List Str} (hv : Val w nv xs) (hx : Gp xs) :
    Calls Tryz.prog 26 #[.pointer (some ⟨g, 0, none⟩), nv] w fun e w' => e = .returned (.bool (spotAt L xs).isSome) ∧ Below w.heap.size w w' := by
  obtain ⟨np, nc, rfl⟩ : ∃ p c, nv = .slice p xs.length c := by obtain ⟨p, c, e, _⟩ := hv; exact ⟨p, c, e⟩
  have hc := h.cell
  have H := hid_in h
  obtain ⟨WA, HWA⟩ : ∃ WA, Hid (w.alloc (.cells #[.slice none 0 0, .string ⟨#[]⟩, .bool false, .string ⟨#[]⟩] 63) = WA) := ⟨_, hid_in rfl⟩
  have HBA : Hid (Below w.heap.size w WA) := by rw [← HWA.out]; exact (Below.refl _ _).alloc (Nat.le_refl _) _
  have HRA : Hid (Row WA w.heap.size [.slice none 0 0, .string ⟨#[]⟩, .bool false, .string ⟨#[]⟩] 63) := by rw [← HWA.out]; exact Row.new w [.slice none 0 0, .string ⟨#[]⟩, .bool false, .string ⟨#[]⟩] 63
  have HS1 := hid_in (show_at hv hx w.drew (below_drew w))
  have HS2 := hid_in (show_at hv hx WA.drew (below_drewN HBA.out 1))
  rw [← HWA.out] at HS2
  obtain ⟨zp, zn, zc, zt, zd, zx, HZ⟩ := spot_form h.map xs
  have HZ := hid_in HZ
  obtain ⟨SB, HSB⟩ : ∃ SB, Hid ((spotAt L xs).isSome = SB) := ⟨_, hid_in rfl⟩
  rw [HSB.out]
  have HL := hid_in (fun W (k : Below w.heap.size w W) => Fs.look2 (h.below k).map xs hx)
  rw [HZ.out, HSB.out] at HL
  have HK := hid_in (fun W (k : Below w.heap.size w W) => And.intro (H.out.below k).cell (HL.out W k))
  generalize B (showS xs) = T at *
  generalize xs.length = nl at *
  clear h hv hx
  go_enter Tryz.func26, Tryz.ntmps26
  go_upto_region 1 with fail
  go_region_held3 (fun W => W.cell? ⟨g, 0, none⟩ = some (.map (some m)) ∧ (Instr.lookup 58 (.map (some m)) (.string T) true).run Tryz.prog W = .ok (.tuple #[.agg #[.slice zp zn zc, .string zt, .bool zd, .string zx], .bool SB]) W) (first | (exact HK.out _ HB2.out) | (exact HK.out _ (HB2.out.alloc HB2.out.size _)) | (exact HK.out _ (Below.refl _ _)) | (exact HK.out _ (below_drew w)) | (exact HK.out _ ((below_drew w).alloc (Nat.le_refl _) _)) | (exact HK.out _ (set4_below HB2.out (Nat.le_refl _) HB2.out.size _ _ _ _)) | (exact HK.out _ (set4_below (HB2.out.alloc HB2.out.size _) (by simpa using HB2.out.size) (by simpa using Nat.le_succ_of_le HB2.out.size) _ _ _ _))) (first | (go_at_call 51; refine HS1.out.mono ?_; rintro e w2 ⟨rfl, hb12, -⟩; have HB2 := hid_in hb12; clear hb12) | (go_at_call 51; refine HS2.out.mono ?_; rintro e w2 ⟨rfl, hb12, hb3⟩; rw [HWA.out] at hb3; obtain ⟨⟨d0, d1, d2, d3⟩, f0, f1, f2, f3⟩ := spot_cells HRA.out ((below_drew WA).trans (hb3.mono (below_drew WA).size)); have HB2 := hid_in hb12; clear hb12 hb3))
  all_goals
    go_wp2
    go_ret
    refine ⟨rfl, ?_⟩
    first | (exact set4_below HB2.out (Nat.le_refl _) HB2.out.size _ _ _ _) | (exact HB2.out.alloc HB2.out.size _) | (exact set4_below (HB2.out.alloc HB2.out.size _) (by simpa using HB2.out.size) (by simpa using Nat.le_succ_of_le HB2.out.size) _ _ _ _)
end Go.Proofs.YtngehkmdanhgpaaGreat.Pl
namespace Go.Proofs.YtngehkmdanhgpaaGreat.Pl
open Go.RowKit
open Vp (Str B bl Val cmpL parseS showS splitS withinS IsPath)
open Nd (Row wp_world post_Row)
set_option maxHeartbeats 1000000 in
set_option maxRecDepth 100000 in
theorem get_any {w : World} {g m : Nat} {L : List Spot} (h : Fs w g m L) {nv : Value} {xs : List Str} (hv : Val w nv xs) (hx : Gp xs) :
    Calls Tryz.prog 56 #[.pointer (some ⟨g, 0, none⟩), nv] w fun e w' => e = .returned ((spotAt L xs).getD Spot.zero).val ∧ Below w.heap.size w w' := by
  obtain ⟨np, nc, rfl⟩ : ∃ p c, nv = .slice p xs.length c := by obtain ⟨p, c, e, _⟩ := hv; exact ⟨p, c, e⟩
  have H := hid_in h
  obtain ⟨WA, HWA⟩ : ∃ WA, Hid (w.alloc (.cells #[.slice none 0 0, .string ⟨#[]⟩, .bool false, .string ⟨#[]⟩] 63) = WA) := ⟨_, hid_in rfl⟩
  have HBA : Hid (Below w.heap.size w WA) := by rw [← HWA.out]; exact (Below.refl _ _).alloc (Nat.le_refl _) _
  have HRA : Hid (Row WA w.heap.size [.slice none 0 0, .string ⟨#[]⟩, .bool false, .string ⟨#[]⟩] 63) := by rw [← HWA.out]; exact Row.new w [.slice none 0 0, .string ⟨#[]⟩, .bool false, .string ⟨#[]⟩] 63
  have HS2 := hid_in (show_at hv hx WA.drew (below_drewN HBA.out 1))
  obtain ⟨zp, zn, zc, zt, zd, zx, HZ⟩ := spot_form h.map xs
  have HZ := hid_in HZ
  rw [HZ.out]
  have HL := hid_in (fun W (k : Below w.heap.size w W) => Fs.look1 (h.below k).map xs hx)
  rw [HZ.out] at HL
  have HK := hid_in (fun W (k : Below w.heap.size w W) => And.intro (H.out.below k).cell (HL.out W k))
  generalize B (showS xs) = T at *
  generalize xs.length = nl at *
  clear h hv hx
  go_enter Tryz.func56, Tryz.ntmps56
  go_upto_region 1 with fail
  refine wp_world HWA.out ?_
  go_region_held3 (fun W => W.cell? ⟨g, 0, none⟩ = some (.map (some m)) ∧ (Instr.lookup 58 (.map (some m)) (.string T) false).run Tryz.prog W = .ok (.agg #[.slice zp zn zc, .string zt, .bool zd, .string zx]) W) (first | (exact HK.out _ HB2.out) | (exact HK.out _ HBA.out) | (exact HK.out _ (below_drewN HBA.out 1)) | (exact HK.out _ (set4_below HB2.out (Nat.le_refl _) HB2.out.size _ _ _ _))) (first | (go_at_call 51; refine HS2.out.mono ?_; rintro e w2 ⟨rfl, hb12, hb3⟩; have hr2 := HRA.out.below ((below_drew WA).trans (hb3.mono (below_drew WA).size)) HRA.out.lt; obtain ⟨⟨d0, d1, d2, d3⟩, f0, f1, f2, f3⟩ := spot_cells hr2 (Below.refl _ w2); have HR2 := hid_in hr2; have HB2 := hid_in hb12; clear hb12 hb3 hr2))
  all_goals
    go_wp2
    exact post_Row 4 63 rfl w.heap.size rfl 63 [.slice zp zn zc, .string zt, .bool zd, .string zx] ((((HR2.out.set_same 0 _).set_same 1 _).set_same 2 _).set_same 3 _) _ Tryz.underlying63 rfl 4 info63 rfl rfl ⟨rfl, set4_below HB2.out (Nat.le_refl _) HB2.out.size _ _ _ _⟩
theorem grown_plus {a b c : World} {m : Nat} (h : Below a.heap.size a b) (k : b.grownBy c (some m)) : a.grownBy c (some m) :=
  World.grownBy.andThen ((grown_of_below h).but _) k (fun _ e => .inr e)
theorem grown_below {a b c : World} {row : Option Nat} (h : a.grownBy b row) (k : Below b.heap.size b c) : a.grownBy c row :=
  World.grownBy.andThen h (grown_of_below k) (fun _ e => by cases e)
theorem grown_two {a b c : World} {m : Nat} (h : a.grownBy b (some m)) (k : b.grownBy c (some m)) : a.grownBy c (some m) :=
  World.grownBy.andThen h k (fun _ e => .inr e)
set_option maxHeartbeats 1000000 in
set_option maxRecDepth 100000 in
theorem put_any {w : World} {g m : Nat} {L : List Spot} (h : Fs w g m L) {nv : Value} {xs : List Str} (hv : Rf.Nm w nv xs) (hx : Gp xs) (d : Bool) (x : ByteArray) :
    Calls Tryz.prog 25 #[.pointer (some ⟨g, 0, none⟩), nv, .bool d, .string x] w fun e w' => e = .returned (.tuple #[]) ∧ Fs w' g m (putP L ⟨nv, xs, B (showS xs), d, x⟩) ∧ w.grownBy w' (some m) := by
  have HV := hid_in hv
  obtain ⟨np, nc, rfl⟩ : ∃ p c, nv = .slice p xs.length c := by exact hv.form
  have H := hid_in h
  have HX := hid_in hx
  have HS := hid_in (show_at hv.val hx w (Below.refl _ _))
  have HP := hid_in (fun W (k : Below w.heap.size w W) => (h.below k).map.put ⟨.slice np xs.length nc, xs, B (showS xs), d, x⟩ rfl hx (hv.below k))
  simp only [Spot.val] at HP
  generalize B (showS xs) = T at *
  generalize hnl : xs.length = nl at *
  have HNL := hid_in hnl
  clear h hv hx hnl
  go_enter Tryz.func25, Tryz.ntmps25
  go_wp2_with (first | (go_at_call 51; refine HS.out.mono ?_; rintro e w2 ⟨rfl, hb12, -⟩; have HF2 := hid_in (H.out.below hb12); have c2 := HF2.out.cell; obtain ⟨w3, hp3, hm3, hg3, hs3⟩ := HP.out w2 hb12; have HM3 := hid_in hm3; have HG3 := hid_in hg3; have HB2 := hid_in hb12; clear hb12 hm3 hg3 hs3))
  refine bodyPost_end (results_none rfl _ _ _) rfl ?_
  refine ⟨rfl, ⟨HF2.out.row.grown HG3.out (fun e => HF2.out.ne (Option.some.inj e)), HM3.out⟩, grown_plus HB2.out HG3.out⟩
set_option maxHeartbeats 1000000 in
set_option maxRecDepth 100000 in
theorem dirOf_any {w : World} {nv : Value} {xs : List Str} (hv : Val w nv xs) (hx : Gp xs) :
    Calls Tryz.prog 54 #[nv] w fun e w' => ∃ v, e = .returned v ∧ Val w' v xs.dropLast ∧ Below w.heap.size w w' := by
  obtain ⟨np, nc, rfl⟩ : ∃ p c, nv = .slice p xs.length c := by obtain ⟨p, c, e, _⟩ := hv; exact ⟨p, c, e⟩
  have HS := hid_in (Vp.split_v hv (by have := hx.lens; omega) (by have := hx.2; omega))
  have HD : Hid ((splitS xs).1 = xs.dropLast) := by
    show _ = _
    unfold splitS
    have h0 : Vp.checkS xs = 0 := by
      unfold Vp.checkS
      have h1 : xs.all Vp.isNameS = true := List.all_eq_true.2 hx.1
      have h2 := hx.2
      rw [if_neg (by simp [h1]), if_neg (by omega)]
    rw [if_neg (by simp [h0])]
    split
    · rename_i h1; simp [h1]
    · rfl
  rw [HD.out] at HS
  generalize (splitS xs).2.1 = r1 at *
  generalize (splitS xs).2.2 = r2 at *
  generalize xs.length = nl at *
  generalize xs.dropLast = ds at *
  clear hv hx HD
  go_enter Tryz.func54, Tryz.ntmps54
  go_wp2_with (first | (go_at_call 90; refine HS.out.mono ?_; rintro e w2 ⟨v2, rfl, hn2, hb2⟩; have HN2 := hid_in (Vp.Nms.val hn2); have HB2 := hid_in hb2; clear hn2 hb2))
  go_ret
  exact ⟨_, rfl, HN2.out, HB2.out⟩
def nmsOf (s : ByteArray) : List Str := (parseS (bl s)).1
theorem gp_nms (s : ByteArray) : Gp (nmsOf s) := gp_parse _
set_option maxHeartbeats 1000000 in
set_option maxRecDepth 100000 in
theorem namesOf_any (s : ByteArray) (hs : s.size ≤ 9223372036854775807) (w : World) :
    Calls Tryz.prog 92 #[.string s] w fun e w' => ∃ v, e = .returned v ∧ Rf.Nm w' v (nmsOf s) ∧ Below w.heap.size w w' := by
  have HP := hid_in (Vp.parse_any (bl s) (by rw [Vp.bl_length]; exact hs) w)
  rw [Vp.B_bl] at HP
  have HN : Hid (nmsOf s = (parseS (bl s)).1) := rfl
  generalize nmsOf s = ns at *
  generalize (parseS (bl s)).2 = k at *
  generalize (parseS (bl s)).1 = ms at *
  go_enter Tryz.func92, Tryz.ntmps92
  go_wp2_with (first | (go_at_call 47; refine HP.out.mono ?_; rintro e w2 ⟨v2, rfl, hn2, hb2⟩; have HN2 := hid_in (Rf.Nm.of hn2); have HB2 := hid_in hb2; clear hn2 hb2))
  go_ret
  exact ⟨_, rfl, by rw [HN.out]; exact HN2.out, HB2.out⟩
/-- a result -/
structure Res where
  code : Int
  dir : Bool
  size : Int
  data : ByteArray
  names : Value
def Res.val (r : Res) : Value := .agg #[.int .i64 r.code, .bool r.dir, .int .i64 r.size, .string r.data, r.names]
def Res.err (k : Int) : Res := ⟨k, false, 0, ⟨#[]⟩, .slice none 0 0⟩
theorem info37 : (Tryz.prog.info? 37).map (·.size) = some 5 := by kernel_rfl
set_option maxHeartbeats 1000000 in
set_option maxRecDepth 100000 in
theorem refuse_any (k : Int) (w : World) : Calls Tryz.prog 30 #[.int .i64 k] w fun e w' => e = .returned (Res.err k).val ∧ Below w.heap.size w w' := by
  go_enter Tryz.func30, Tryz.ntmps30
  go_wp2
  exact post_Row 2 37 rfl w.heap.size rfl 37 [.int .i64 k, .bool false, .int .i64 0, .string ⟨#[]⟩, .slice none 0 0] (Row.new w [.int .i64 k, .bool false, .int .i64 0, .string ⟨#[]⟩, .slice none 0 0] 37) _ Tryz.underlying37 rfl 5 info37 rfl rfl ⟨rfl, (Below.refl _ _).alloc (Nat.le_refl _) _⟩
set_option maxHeartbeats 1000000 in
set_option maxRecDepth 100000 in
theorem drop_any {w : World} {g m : Nat} {L : List Spot} (h : Fs w g m L) {nv : Value} {xs : List Str} (hv : Val w nv xs) (hx : Gp xs) :
    Calls Tryz.prog 95 #[.pointer (some ⟨g, 0, none⟩), nv] w fun e w' => e = .returned (.tuple #[]) ∧ Fs w' g m (cutP L xs) ∧ w.grownBy w' (some m) := by
  have HV := hid_in hv
  obtain ⟨np, nc, rfl⟩ : ∃ p c, nv = .slice p xs.length c := by obtain ⟨p, c, e, _⟩ := hv; exact ⟨p, c, e⟩
  have H := hid_in h
  have hc := h.cell
  have HK := hid_in (fun W (k : Below w.heap.size w W) => (h.below k).cell)
  have HS := hid_in (show_at hv hx w.drew (below_drew w))
  have HP := hid_in (fun W (k : Below w.heap.size w W) => (h.below k).map.cut xs hx 0)
  generalize B (showS xs) = T at *
  generalize xs.length = nl at *
  clear h hv hx
  go_enter Tryz.func95, Tryz.ntmps95
  go_region_held3 (fun W => W.cell? ⟨g, 0, none⟩ = some (.map (some m))) (first | (exact HK.out _ HB2.out) | (exact HK.out _ (Below.refl _ _)) | (exact HK.out _ (below_drew w)) | (exact HC3.out)) (first | (go_at_call 51; refine HS.out.mono ?_; rintro e w2 ⟨rfl, hb12, -⟩; have HF2 := hid_in (H.out.below hb12); obtain ⟨w3, hp3, hm3, hg3, hs3⟩ := HP.out w2 hb12; have HM3 := hid_in hm3; have HG3 := hid_in hg3; have HB2 := hid_in hb12; have HC3 : Hid (w3.cell? ⟨g, 0, none⟩ = some (.map (some m))) := ((HF2.out.row.grown hg3 (fun e => HF2.out.ne (Option.some.inj e))).cell 0); clear hb12 hm3 hg3 hs3))
  all_goals
    go_wp2
    refine bodyPost_end (results_none rfl _ _ _) rfl ?_
    refine ⟨rfl, ⟨HF2.out.row.grown HG3.out (fun e => HF2.out.ne (Option.some.inj e)), HM3.out⟩, grown_plus HB2.out HG3.out⟩
end Go.Proofs.YtngehkmdanhgpaaGreat.Pl
namespace Go.Proofs.YtngehkmdanhgpaaGreat.Pl
open Go.RowKit
open Vp (Str B bl Val cmpL parseS showS splitS withinS IsPath)
open Nd (Row wp_world post_Row post_Row2)
/-- from the root on, name by name -/
def goF (L : List Spot) : Spot → List (List Str) → Spot × Int
  | s, [] => (s, 0)
  | s, p :: ps => if s.dir = false then (Spot.zero, 70) else match spotAt L p with
    | none => (Spot.zero, 4)
    | some t => goF L t ps
def inits (xs : List Str) : List (List Str) := (List.range (xs.length + 1)).map (xs.take ·)
def Spot.top : Spot := ⟨.slice none 0 0, [], ⟨#[]⟩, true, ⟨#[]⟩⟩
def findP (L : List Spot) (xs : List Str) : Spot × Int := goF L Spot.top (inits xs)
theorem inits_drop {xs : List Str} {i : Nat} (h : i ≤ xs.length) : (inits xs).drop i = xs.take i :: (inits xs).drop (i + 1) := by
  have hl : i < (inits xs).length := by simp [inits]; omega
  rw [List.drop_eq_getElem_cons hl]
  simp [inits]
theorem inits_end (xs : List Str) : (inits xs).drop (xs.length + 1) = [] := by simp [inits]
theorem goF_last (L : List Spot) : ∀ (ps : List (List Str)) (s t : Spot) (x : List Str), goF L s (ps ++ [x]) = (t, 0) → spotAt L x = some t
  | [], s, t, x, h => by
    simp only [List.nil_append, goF] at h
    split at h
    · cases h
    · split at h
      · cases h
      · rename_i hq
        cases h
        exact hq
  | p :: ps, s, t, x, h => by
    simp only [List.cons_append, goF] at h
    split at h
    · cases h
    · split at h
      · cases h
      · exact goF_last L ps _ t x h
theorem findP_at {L : List Spot} {xs : List Str} {t : Spot} (h : findP L xs = (t, 0)) : spotAt L xs = some t := by
  unfold findP inits at h
  rw [List.range_succ, List.map_append, List.map_cons, List.map_nil, List.take_length] at h
  exact goF_last L _ _ t xs h
theorem goF_form (L : List Spot) : ∀ (ps : List (List Str)) (s : Spot), (goF L s ps).2 = 0 ∨ goF L s ps = (Spot.zero, 70) ∨ goF L s ps = (Spot.zero, 4)
  | [], s => .inl rfl
  | p :: ps, s => by
    simp only [goF]
    split
    · exact .inr (.inl rfl)
    · split
      · exact .inr (.inr rfl)
      · exact goF_form L ps _
theorem slice35_to (p : Option Addr) (L C n : Nat) (h1 : n ≤ C) (w : World) : (Instr.slice 35 (.slice p L C) none (some (.int .i64 (n : Int))) none).run Tryz.prog w = .ok (.slice p n C) w := by
  have ht : Tryz.prog.underlying 35 = some (.slice (Tryz.prog.elem 35)) := by kernel_rfl
  have hs : ∀ w : World, (sizeOf (Tryz.prog.elem 35)).run Tryz.prog w = .ok 1 w := fun w => by kernel_rfl
  rw [run_slice_h w 35 p L C ht .i64 (n : Int) (by omega) (by omega), hs]
  rcases p with _ | ⟨b, o, s⟩ <;> simp [sliced, Addr.add]
theorem val_take {w : World} {p : Option Addr} {xs : List Str} {c : Nat} (h : Val w (.slice p xs.length c) xs) (i : Nat) (hi : i ≤ xs.length) : Val w (.slice p i c) (xs.take i) := by
  obtain ⟨p', c', e, hr⟩ := h
  simp only [Value.slice.injEq] at e
  obtain ⟨rfl, _, rfl⟩ := e
  exact ⟨p, c, by rw [List.length_take, Nat.min_eq_left hi], hr.take i hi⟩
/-- a spot in a block of its own: its names are a slice -/
def Sf (s : Spot) : Prop := ∃ p n c, s.v = .slice p n c
theorem MapP.sf {w : World} {m : Nat} {L : List Spot} (h : MapP w m L) {xs : List Str} {s : Spot} (hs : spotAt L xs = some s) : Sf s := by
  obtain ⟨p, c, hv⟩ := (h.nms s (List.mem_of_find?_eq_some hs)).form
  exact ⟨p, s.names.length, c, hv⟩
set_option maxHeartbeats 2000000 in
set_option maxRecDepth 100000 in
theorem find_any {w : World} {g m : Nat} {L : List Spot} (h : Fs w g m L) {nv : Value} {xs : List Str} (hv : Val w nv xs) (hx : Gp xs) :
    Calls Tryz.prog 102 #[.pointer (some ⟨g, 0, none⟩), nv] w fun e w' => e = .returned (.tuple #[(findP L xs).1.val, .int .i64 (findP L xs).2]) ∧ Below w.heap.size w w' := by
  have HV := hid_in hv
  obtain ⟨np, nc, rfl⟩ : ∃ p c, nv = .slice p xs.length c := by obtain ⟨p, c, e, _⟩ := hv; exact ⟨p, c, e⟩
  have hcap : xs.length ≤ nc := by obtain ⟨p, c, e, hr⟩ := hv; simp only [Value.slice.injEq] at e; obtain ⟨_, _, rfl⟩ := e; exact hr.le
  have H := hid_in h
  have HX := hid_in hx
  have HN := hid_in hx.2
  have HCAP := hid_in hcap
  clear h hv hx hcap
  obtain ⟨nl, HNL⟩ : ∃ nl, Hid (xs.length = nl) := ⟨_, hid_in rfl⟩
  rw [HNL.out] at HV HN HCAP ⊢
  have hn8 := HN.out
  go_enter Tryz.func102, Tryz.ntmps102
  go_wp2_with fail
  go_loopw [13] (fun vi W => ∃ i : Nat, i ≤ nl + 1 ∧ vi = .int .i64 (i : Int) ∧ Hid (∃ s : Spot, Sf s ∧ findP L xs = goF L s ((inits xs).drop i) ∧ Row W w.heap.size [.slice none 0 0, .string ⟨#[]⟩, .bool false, .string ⟨#[]⟩] 63 ∧ Row W (w.heap.size + 1) s.cells 63 ∧ Below w.heap.size w W)) (fun vi _ => nl + 1 - (intOf vi).toNat)
  case atStart =>
    refine ⟨0, by omega, rfl, Spot.top, ⟨_, _, _, rfl⟩, rfl, ?_, ?_, ?_⟩
    · exact (Row.new w [.slice none 0 0, .string ⟨#[]⟩, .bool false, .string ⟨#[]⟩] 63).alloc _
    · exact Row.newAt (w.alloc _) (w.heap.size + 1) [.slice none 0 0, .string ⟨#[]⟩, .bool true, .string ⟨#[]⟩] 63 (by simp)
    · exact ((Below.refl _ _).alloc (Nat.le_refl _) _).alloc (by simp) _
  case round =>
    obtain ⟨i, hi, rfl, hR⟩ := hrel
    obtain ⟨⟨sv, sn, sp, sd, sx⟩, ⟨qp, qn, qc, hsv⟩, hF, hr0, hr1, hB⟩ := hR.out
    simp only [Spot.cells] at hr1
    simp only at hsv
    subst hsv
    have HF := hid_in hF
    have HR0 := hid_in hr0
    have HR1 := hid_in hr1
    have HB := hid_in hB
    obtain ⟨⟨a0, a1, a2, a3⟩, b0, b1, b2, b3⟩ := spot_cells hr0 (Below.refl _ wr)
    obtain ⟨⟨c0, c1, c2, c3⟩, f0, f1, f2, f3⟩ := spot_cells hr1 (Below.refl _ wr)
    clear hF hr0 hr1 hB hR
    by_cases hlt : i ≤ nl
    · have hid := inits_drop (xs := xs) (i := i) (by rw [HNL.out]; exact hlt)
      have HID := hid_in hid
      have k1 : (i : Int) < (nl : Int) + 1 := by omega
      clear hid
      cases sd with
      | false =>
        have hres : findP L xs = (Spot.zero, 70) := by rw [HF.out, HID.out]; simp [goF]
        have HRES := hid_in hres
        clear hres
        go_wp2
        exact post_Row2 4 5 63 rfl w.heap.size rfl 63 [.slice none 0 0, .string ⟨#[]⟩, .bool false, .string ⟨#[]⟩] ((((HR0.out.set_same 0 _).set_same 1 _).set_same 2 _).set_same 3 _) _ Tryz.underlying63 rfl 4 info63 rfl rfl ⟨by rw [HRES.out]; rfl, set4_below HB.out (Nat.le_refl _) HB.out.size _ _ _ _⟩
      | true =>
        have HVT := hid_in (fun W (k : Below w.heap.size w W) => val_take (xs := xs) (by rw [HNL.out]; exact HV.out.below k) i (by rw [HNL.out]; exact hlt))
        have HGT := hid_in (HX.out.take i)
        have hsl := slice35_to np nl nc i (by have := HCAP.out; omega)
        have HHAS := hid_in (has_any (H.out.below HB.out) (HVT.out _ HB.out) HGT.out)
        cases hsp : spotAt L (xs.take i) with
        | none =>
          have hres : findP L xs = (Spot.zero, 4) := by rw [HF.out, HID.out]; simp [goF, hsp]
          have HRES := hid_in hres
          rw [hsp] at HHAS
          clear hres hsp
          go_wp2_with (first | (go_at_call 26; refine HHAS.out.mono ?_; rintro e w2 ⟨rfl, hb2⟩; obtain ⟨⟨g0, g1, g2, g3⟩, k0, k1, k2, k3⟩ := spot_cells HR0.out hb2; have HR2 := hid_in (HR0.out.below hb2 HR0.out.lt); have HB2 := hid_in (HB.out.trans (hb2.mono HB.out.size)); clear hb2))
          exact post_Row2 4 5 63 rfl w.heap.size rfl 63 [.slice none 0 0, .string ⟨#[]⟩, .bool false, .string ⟨#[]⟩] ((((HR2.out.set_same 0 _).set_same 1 _).set_same 2 _).set_same 3 _) _ Tryz.underlying63 rfl 4 info63 rfl rfl ⟨by rw [HRES.out]; rfl, set4_below HB2.out (Nat.le_refl _) HB2.out.size _ _ _ _⟩
        | some t =>
          have hres : findP L xs = goF L t ((inits xs).drop (i + 1)) := by rw [HF.out, HID.out]; simp [goF, hsp]
          rw [hsp] at HHAS
          have HGET := hid_in (fun W (k : Below w.heap.size w W) => get_any (H.out.below k) (HVT.out _ k) HGT.out)
          rw [hsp] at HGET
          obtain ⟨tp, tn, tc, htv⟩ := H.out.map.sf hsp
          obtain ⟨tv, tnm, tpa, td, tx⟩ := t
          simp only at htv
          subst htv
          simp only [Option.getD_some, Spot.val] at HGET
          have HRES := hid_in hres
          clear hres hsp
          go_wp2_with (first | (go_at_call 26; refine HHAS.out.mono ?_; rintro e w2 ⟨rfl, hb2⟩; have HR20 := hid_in (HR0.out.below hb2 HR0.out.lt); have HR21 := hid_in (HR1.out.below hb2 HR1.out.lt); have HB2 := hid_in (HB.out.trans (hb2.mono HB.out.size)); clear hb2) | (go_at_call 56; refine (HGET.out _ HB2.out).mono ?_; rintro e w3 ⟨rfl, hb3⟩; obtain ⟨⟨g0, g1, g2, g3⟩, m0, m1, m2, m3⟩ := spot_cells HR21.out hb3; have HR30 := hid_in (HR20.out.below hb3 HR20.out.lt); have HR31 := hid_in (HR21.out.below hb3 HR21.out.lt); have HB3 := hid_in (HB2.out.trans (hb3.mono HB2.out.size)); clear hb3))
          refine ⟨⟨i + 1, by omega, by go_num, ⟨.slice tp tn tc, tnm, tpa, td, tx⟩, ⟨_, _, _, rfl⟩, HRES.out, ?_, ?_, ?_⟩, by simp [intOf]; omega⟩
          · exact (((HR30.out.set_other _ _ (by simp)).set_other _ _ (by simp)).set_other _ _ (by simp)).set_other _ _ (by simp)
          · exact (((HR31.out.set_same 0 _).set_same 1 _).set_same 2 _).set_same 3 _
          · exact set4_below HB3.out (Nat.le_succ _) HB3.out.size _ _ _ _
    · obtain rfl : i = nl + 1 := by omega
      have hres : findP L xs = (⟨.slice qp qn qc, sn, sp, sd, sx⟩, 0) := by
        rw [HF.out, ← HNL.out, inits_end]; rfl
      have HRES := hid_in hres
      clear hres
      have k1 : ¬ (((nl + 1 : Nat) : Int) < (nl : Int) + 1) := by omega
      go_wp2
      exact post_Row2 4 5 63 rfl w.heap.size rfl 63 [.slice qp qn qc, .string sp, .bool sd, .string sx] ((((HR0.out.set_same 0 _).set_same 1 _).set_same 2 _).set_same 3 _) _ Tryz.underlying63 rfl 4 info63 rfl rfl ⟨by rw [HRES.out]; rfl, set4_below HB.out (Nat.le_refl _) HB.out.size _ _ _ _⟩
end Go.Proofs.YtngehkmdanhgpaaGreat.Pl
