/-
  The small calls of a file system: get, put, drop, dirOf, namesOf, refuse.
-/
import Derived.Deep.RegionLaw
import Derived.Deep.DrawnRows
import Derived.Laws.Tables
import Derived.Lib.SlBytesConst
import Derived.Laws.CopyOwn
import Derived.Lib.AppendZeros
import Derived.Test.YtngehkmdanhgpaaGreatR00
import Derived.Test.YtngehkmdanhgpaaGreatR01
import Derived.Test.YtngehkmdanhgpaaGreatR02
import Derived.Test.YtngehkmdanhgpaaGreatR03
import Derived.Test.YtngehkmdanhgpaaGreatR04
import Derived.Test.YtngehkmdanhgpaaGreatR05
import Derived.Test.YtngehkmdanhgpaaGreatR06
import Derived.Test.YtngehkmdanhgpaaGreatR07
import Derived.Test.YtngehkmdanhgpaaGreatR08
import Derived.Test.YtngehkmdanhgpaaGreatR09
import Derived.Test.YtngehkmdanhgpaaGreatR10
import Derived.Test.YtngehkmdanhgpaaGreatR11
import Derived.Test.YtngehkmdanhgpaaGreatR12
namespace Go.Proofs.YtngehkmdanhgpaaGreat.Pl
open Go.RowKit
open Vp (Str B bl Val cmpL parseS showS splitS withinS IsPath)
open Nd (Row wp_world post_Row)
set_option maxHeartbeats 1000000 in
set_option maxRecDepth 100000 in
theorem get_any {w : World} {g m : Nat} {L : List Spot} (h : Fs w g m L) {nv : Value} {xs : List Str} (hv : Val w nv xs) (hx : Gp xs) :
    Calls Tryz.prog 56 #[.pointer (some ⟨g, 0, none⟩), nv] w fun e w' => e = .returned ((spotAt L xs).getD Spot.zero).val ∧ Below w.heap.size w w' := by
  obtain ⟨np, nc, rfl⟩ : ∃ p c, nv = .slice p xs.length c := by obtain ⟨p, c, e, _⟩ := hv; exact ⟨p, c, e⟩
  have H := hid_in h
  obtain ⟨WA, HWA⟩ : ∃ WA, Hid (w.alloc (.cells #[.slice none 0 0, .string ⟨#[]⟩, .bool false, .string ⟨#[]⟩] 63) = WA) := ⟨_, hid_in rfl⟩
  have HBA : Hid (Below w.heap.size w WA) := by rw [← HWA.out]; exact (Below.refl _ _).alloc (Nat.le_refl _) _
  have HRA : Hid (Row WA w.heap.size [.slice none 0 0, .string ⟨#[]⟩, .bool false, .string ⟨#[]⟩] 63) := by rw [← HWA.out]; exact Row.new w [.slice none 0 0, .string ⟨#[]⟩, .bool false, .string ⟨#[]⟩] 63
  have HS2 := hid_in (show_at hv hx WA.drew (below_drewN HBA.out 1))
  obtain ⟨zp, zn, zc, zt, zd, zx, HZ⟩ := spot_form h.map xs
  have HZ := hid_in HZ
  rw [HZ.out]
  have HL := hid_in (fun W (k : Below w.heap.size w W) => Fs.look1 (h.below k).map xs hx)
  rw [HZ.out] at HL
  have HK := hid_in (fun W (k : Below w.heap.size w W) => And.intro (H.out.below k).cell (HL.out W k))
  generalize B (showS xs) = T at *
  generalize xs.length = nl at *
  clear h hv hx
  go_enter Tryz.func56, Tryz.ntmps56
  go_upto_region 1 with fail
  refine wp_world HWA.out ?_
  go_region_held3 (fun W => W.cell? ⟨g, 0, none⟩ = some (.map (some m)) ∧ (Instr.lookup 58 (.map (some m)) (.string T) false).run Tryz.prog W = .ok (.agg #[.slice zp zn zc, .string zt, .bool zd, .string zx]) W) (first | (exact HK.out _ HB2.out) | (exact HK.out _ HBA.out) | (exact HK.out _ (below_drewN HBA.out 1)) | (exact HK.out _ (set4_below HB2.out (Nat.le_refl _) HB2.out.size _ _ _ _))) (first | (go_at_call 51; refine HS2.out.mono ?_; rintro e w2 ⟨rfl, hb12, hb3⟩; have hr2 := HRA.out.below ((below_drew WA).trans (hb3.mono (below_drew WA).size)) HRA.out.lt; obtain ⟨⟨d0, d1, d2, d3⟩, f0, f1, f2, f3⟩ := spot_cells hr2 (Below.refl _ w2); have HR2 := hid_in hr2; have HB2 := hid_in hb12; clear hb12 hb3 hr2))
  all_goals
    go_wp2
    exact post_Row 4 63 rfl w.heap.size rfl 63 [.slice zp zn zc, .string zt, .bool zd, .string zx] ((((HR2.out.set_same 0 _).set_same 1 _).set_same 2 _).set_same 3 _) _ Tryz.underlying63 rfl 4 info63 rfl rfl ⟨rfl, set4_below HB2.out (Nat.le_refl _) HB2.out.size _ _ _ _⟩
theorem grown_plus {a b c : World} {m : Nat} (h : Below a.heap.size a b) (k : b.grownBy c (some m)) : a.grownBy c (some m) :=
  World.grownBy.andThen ((grown_of_below h).but _) k (fun _ e => .inr e)
theorem grown_below {a b c : World} {row : Option Nat} (h : a.grownBy b row) (k : Below b.heap.size b c) : a.grownBy c row :=
  World.grownBy.andThen h (grown_of_below k) (fun _ e => by cases e)
theorem grown_two {a b c : World} {m : Nat} (h : a.grownBy b (some m)) (k : b.grownBy c (some m)) : a.grownBy c (some m) :=
  World.grownBy.andThen h k (fun _ e => .inr e)
set_option maxHeartbeats 1000000 in
set_option maxRecDepth 100000 in
theorem put_any {w : World} {g m : Nat} {L : List Spot} (h : Fs w g m L) {nv : Value} {xs : List Str} (hv : Rf.Nm w nv xs) (hx : Gp xs) (d : Bool) (x : ByteArray) :
    Calls Tryz.prog 25 #[.pointer (some ⟨g, 0, none⟩), nv, .bool d, .string x] w fun e w' => e = .returned (.tuple #[]) ∧ Fs w' g m (putP L ⟨nv, xs, B (showS xs), d, x⟩) ∧ w.grownBy w' (some m) := by
  have HV := hid_in hv
  obtain ⟨np, nc, rfl⟩ : ∃ p c, nv = .slice p xs.length c := by exact hv.form
  have H := hid_in h
  have HX := hid_in hx
  have HS := hid_in (show_at hv.val hx w (Below.refl _ _))
  have HP := hid_in (fun W (k : Below w.heap.size w W) => (h.below k).map.put ⟨.slice np xs.length nc, xs, B (showS xs), d, x⟩ rfl hx (hv.below k))
  simp only [Spot.val] at HP
  generalize B (showS xs) = T at *
  generalize hnl : xs.length = nl at *
  have HNL := hid_in hnl
  clear h hv hx hnl
  go_enter Tryz.func25, Tryz.ntmps25
  go_wp2_with (first | (go_at_call 51; refine HS.out.mono ?_; rintro e w2 ⟨rfl, hb12, -⟩; have HF2 := hid_in (H.out.below hb12); have c2 := HF2.out.cell; obtain ⟨w3, hp3, hm3, hg3, hs3⟩ := HP.out w2 hb12; have HM3 := hid_in hm3; have HG3 := hid_in hg3; have HB2 := hid_in hb12; clear hb12 hm3 hg3 hs3))
  refine bodyPost_end (results_none rfl _ _ _) rfl ?_
  refine ⟨rfl, ⟨HF2.out.row.grown HG3.out (fun e => HF2.out.ne (Option.some.inj e)), HM3.out⟩, grown_plus HB2.out HG3.out⟩
set_option maxHeartbeats 1000000 in
set_option maxRecDepth 100000 in
theorem dirOf_any {w : World} {nv : Value} {xs : List Str} (hv : Val w nv xs) (hx : Gp xs) :
    Calls Tryz.prog 54 #[nv] w fun e w' => ∃ v, e = .returned v ∧ Val w' v xs.dropLast ∧ Below w.heap.size w w' := by
  obtain ⟨np, nc, rfl⟩ : ∃ p c, nv = .slice p xs.length c := by obtain ⟨p, c, e, _⟩ := hv; exact ⟨p, c, e⟩
  have HS := hid_in (Vp.split_v hv (by have := hx.lens; omega) (by have := hx.2; omega))
  have HD : Hid ((splitS xs).1 = xs.dropLast) := by
    show _ = _
    unfold splitS
    have h0 : Vp.checkS xs = 0 := by
      unfold Vp.checkS
      have h1 : xs.all Vp.isNameS = true := List.all_eq_true.2 hx.1
      have h2 := hx.2
      rw [if_neg (by simp [h1]), if_neg (by omega)]
    rw [if_neg (by simp [h0])]
    split
    · rename_i h1; simp [h1]
    · rfl
  rw [HD.out] at HS
  generalize (splitS xs).2.1 = r1 at *
  generalize (splitS xs).2.2 = r2 at *
  generalize xs.length = nl at *
  generalize xs.dropLast = ds at *
  clear hv hx HD
  go_enter Tryz.func54, Tryz.ntmps54
  go_wp2_with (first | (go_at_call 90; refine HS.out.mono ?_; rintro e w2 ⟨v2, rfl, hn2, hb2⟩; have HN2 := hid_in (Vp.Nms.val hn2); have HB2 := hid_in hb2; clear hn2 hb2))
  go_ret
  exact ⟨_, rfl, HN2.out, HB2.out⟩
def nmsOf (s : ByteArray) : List Str := (parseS (bl s)).1
theorem gp_nms (s : ByteArray) : Gp (nmsOf s) := gp_parse _
set_option maxHeartbeats 1000000 in
set_option maxRecDepth 100000 in
theorem namesOf_any (s : ByteArray) (hs : s.size ≤ 9223372036854775807) (w : World) :
    Calls Tryz.prog 92 #[.string s] w fun e w' => ∃ v, e = .returned v ∧ Rf.Nm w' v (nmsOf s) ∧ Below w.heap.size w w' := by
  have HP := hid_in (Vp.parse_any (bl s) (by rw [Vp.bl_length]; exact hs) w)
  rw [Vp.B_bl] at HP
  have HN : Hid (nmsOf s = (parseS (bl s)).1) := rfl
  generalize nmsOf s = ns at *
  generalize (parseS (bl s)).2 = k at *
  generalize (parseS (bl s)).1 = ms at *
  go_enter Tryz.func92, Tryz.ntmps92
  go_wp2_with (first | (go_at_call 47; refine HP.out.mono ?_; rintro e w2 ⟨v2, rfl, hn2, hb2⟩; have HN2 := hid_in (Rf.Nm.of hn2); have HB2 := hid_in hb2; clear hn2 hb2))
  go_ret
  exact ⟨_, rfl, by rw [HN.out]; exact HN2.out, HB2.out⟩
/-- a result -/
structure Res where
  code : Int
  dir : Bool
  size : Int
  data : ByteArray
  names : Value
def Res.val (r : Res) : Value := .agg #[.int .i64 r.code, .bool r.dir, .int .i64 r.size, .string r.data, r.names]
def Res.err (k : Int) : Res := ⟨k, false, 0, ⟨#[]⟩, .slice none 0 0⟩
theorem info37 : (Tryz.prog.info? 37).map (·.size) = some 5 := by kernel_rfl
set_option maxHeartbeats 1000000 in
set_option maxRecDepth 100000 in
theorem refuse_any (k : Int) (w : World) : Calls Tryz.prog 30 #[.int .i64 k] w fun e w' => e = .returned (Res.err k).val ∧ Below w.heap.size w w' := by
  go_enter Tryz.func30, Tryz.ntmps30
  go_wp2
  exact post_Row 2 37 rfl w.heap.size rfl 37 [.int .i64 k, .bool false, .int .i64 0, .string ⟨#[]⟩, .slice none 0 0] (Row.new w [.int .i64 k, .bool false, .int .i64 0, .string ⟨#[]⟩, .slice none 0 0] 37) _ Tryz.underlying37 rfl 5 info37 rfl rfl ⟨rfl, (Below.refl _ _).alloc (Nat.le_refl _) _⟩
set_option maxHeartbeats 1000000 in
set_option maxRecDepth 100000 in
theorem drop_any {w : World} {g m : Nat} {L : List Spot} (h : Fs w g m L) {nv : Value} {xs : List Str} (hv : Val w nv xs) (hx : Gp xs) :
    Calls Tryz.prog 95 #[.pointer (some ⟨g, 0, none⟩), nv] w fun e w' => e = .returned (.tuple #[]) ∧ Fs w' g m (cutP L xs) ∧ w.grownBy w' (some m) := by
  have HV := hid_in hv
  obtain ⟨np, nc, rfl⟩ : ∃ p c, nv = .slice p xs.length c := by obtain ⟨p, c, e, _⟩ := hv; exact ⟨p, c, e⟩
  have H := hid_in h
  have hc := h.cell
  have HK := hid_in (fun W (k : Below w.heap.size w W) => (h.below k).cell)
  have HS := hid_in (show_at hv hx w.drew (below_drew w))
  have HP := hid_in (fun W (k : Below w.heap.size w W) => (h.below k).map.cut xs hx 0)
  generalize B (showS xs) = T at *
  generalize xs.length = nl at *
  clear h hv hx
  go_enter Tryz.func95, Tryz.ntmps95
  go_region_held3 (fun W => W.cell? ⟨g, 0, none⟩ = some (.map (some m))) (first | (exact HK.out _ HB2.out) | (exact HK.out _ (Below.refl _ _)) | (exact HK.out _ (below_drew w)) | (exact HC3.out)) (first | (go_at_call 51; refine HS.out.mono ?_; rintro e w2 ⟨rfl, hb12, -⟩; have HF2 := hid_in (H.out.below hb12); obtain ⟨w3, hp3, hm3, hg3, hs3⟩ := HP.out w2 hb12; have HM3 := hid_in hm3; have HG3 := hid_in hg3; have HB2 := hid_in hb12; have HC3 : Hid (w3.cell? ⟨g, 0, none⟩ = some (.map (some m))) := ((HF2.out.row.grown hg3 (fun e => HF2.out.ne (Option.some.inj e))).cell 0); clear hb12 hm3 hg3 hs3))
  all_goals
    go_wp2
    refine bodyPost_end (results_none rfl _ _ _) rfl ?_
    refine ⟨rfl, ⟨HF2.out.row.grown HG3.out (fun e => HF2.out.ne (Option.some.inj e)), HM3.out⟩, grown_plus HB2.out HG3.out⟩
end Go.Proofs.YtngehkmdanhgpaaGreat.Pl
