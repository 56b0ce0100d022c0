/-
  Plain facts on a right node's bytes, and what comes in with a Raw in later worlds. The walk of the reference's Encode. Int and Flag that are written and read, by states. The walks of areFields and of Encode, the program's. Results; the walk of op.Pack. The walk of the reference's Same, of results that are the same. Clone; the calls of none; names as texts. Few, fits.
-/
import Derived.Laws.BitsAllLaws
import Derived.Deep.RegionLaw
import Derived.Deep.DrawnRows
import Derived.Laws.Tables
import Derived.Deep.CutRange
import Derived.Lib.SlBytesConst
import Derived.Laws.CopyOwn
import Derived.Lib.AppendZeros
import Derived.Shelf.SlMaps.Clone
import Derived.Test.YtngehkmdanhgpaaGreatR00
import Derived.Test.YtngehkmdanhgpaaGreatR01
import Derived.Test.YtngehkmdanhgpaaGreatR02
import Derived.Test.YtngehkmdanhgpaaGreatR03
import Derived.Test.YtngehkmdanhgpaaGreatR04
import Derived.Test.YtngehkmdanhgpaaGreatR05
import Derived.Test.YtngehkmdanhgpaaGreatR06
import Derived.Test.YtngehkmdanhgpaaGreatR07
import Derived.Test.YtngehkmdanhgpaaGreatR08
import Derived.Test.YtngehkmdanhgpaaGreatR09
import Derived.Test.YtngehkmdanhgpaaGreatR10
import Derived.Test.YtngehkmdanhgpaaGreatR11
import Derived.Test.YtngehkmdanhgpaaGreatR12
import Derived.Test.YtngehkmdanhgpaaGreatR13
import Derived.Test.YtngehkmdanhgpaaGreatR14
import Derived.Test.YtngehkmdanhgpaaGreatR15
import Derived.Test.YtngehkmdanhgpaaGreatR16
import Derived.Test.YtngehkmdanhgpaaGreatR17
import Derived.Test.YtngehkmdanhgpaaGreatR18
import Derived.Test.YtngehkmdanhgpaaGreatR19
import Derived.Test.YtngehkmdanhgpaaGreatR20
import Derived.Test.YtngehkmdanhgpaaGreatR21
import Derived.Test.YtngehkmdanhgpaaGreatR22
import Derived.Test.YtngehkmdanhgpaaGreatR23
import Derived.Test.YtngehkmdanhgpaaGreatR24
import Derived.Test.YtngehkmdanhgpaaGreatR25
import Derived.Test.YtngehkmdanhgpaaGreatR26
import Derived.Test.YtngehkmdanhgpaaGreatR27
import Derived.Test.YtngehkmdanhgpaaGreatR28
import Derived.Test.YtngehkmdanhgpaaGreatR29
import Derived.Test.YtngehkmdanhgpaaGreatR30
import Derived.Test.YtngehkmdanhgpaaGreatR31
import Derived.Test.YtngehkmdanhgpaaGreatR32
import Derived.Test.YtngehkmdanhgpaaGreatR33
import Derived.Test.YtngehkmdanhgpaaGreatR34
import Derived.Test.YtngehkmdanhgpaaGreatR35
import Derived.Test.YtngehkmdanhgpaaGreatR36
import Derived.Test.YtngehkmdanhgpaaGreatR37
import Derived.Test.YtngehkmdanhgpaaGreatR38
import Derived.Test.YtngehkmdanhgpaaGreatR39
import Derived.Test.YtngehkmdanhgpaaGreatR41
import Derived.Test.YtngehkmdanhgpaaGreatR42
import Derived.Test.YtngehkmdanhgpaaGreatR43
import Derived.Test.YtngehkmdanhgpaaGreatR44
namespace Go.Proofs.YtngehkmdanhgpaaGreat.Nd
open Go.RowKit
theorem Bss.below {w w' : World} {v : Value} {ps : List (List Nat)} (h : Bss w v ps) (hb : Below w.heap.size w w') : Bss w' v ps := by
  obtain ⟨p, cap, b, o, rfl, h1, h2, h3, hat⟩ := h
  refine ⟨p, cap, b, o, rfl, h1, h2, fun hne => ⟨(h3 hne).1, Nat.lt_of_lt_of_le (h3 hne).2 hb.size⟩, fun i bs hi => ?_⟩
  obtain ⟨q, c, b', o', hc, hs⟩ := hat i bs hi
  exact ⟨q, c, b', o', (hb.cell (p := ⟨b, o + i, none⟩) (World.block_lt_of_cell? w _ hc)).trans hc, hs.below hb⟩
theorem Strs.below {w w' : World} {v : Value} {ns : List ByteArray} (h : Strs w v ns) (hb : Below w.heap.size w w') : Strs w' v ns := by
  obtain ⟨p, cap, b, o, rfl, h1, h2, h3, hat⟩ := h
  exact ⟨p, cap, b, o, rfl, h1, h2, fun hne => ⟨(h3 hne).1, Nat.lt_of_lt_of_le (h3 hne).2 hb.size⟩, fun i s hi => (hb.cell (p := ⟨b, o + i, none⟩) (World.block_lt_of_cell? w _ (hat i s hi))).trans (hat i s hi)⟩
theorem Ints.below {w w' : World} {v : Value} {ks : List Int} (h : Ints w v ks) (hb : Below w.heap.size w w') : Ints w' v ks := by
  obtain ⟨p, cap, b, o, rfl, h1, h2, h3, hat⟩ := h
  exact ⟨p, cap, b, o, rfl, h1, h2, fun hne => ⟨(h3 hne).1, Nat.lt_of_lt_of_le (h3 hne).2 hb.size⟩, fun i s hi => (hb.cell (p := ⟨b, o + i, none⟩) (World.block_lt_of_cell? w _ (hat i s hi))).trans (hat i s hi)⟩
end Go.Proofs.YtngehkmdanhgpaaGreat.Nd
namespace Go.Proofs.YtngehkmdanhgpaaGreat.Nd
open Go.RowKit
/-- bytes that the call itself gathers -/
structure RE (W0 W : World) (v : Value) (xs : List Nat) : Prop where
  own : W.ownsRow W0.heap.size 5 1 v xs.length (xs.map u8v)
  bel : Below W0.heap.size W0 W
theorem RE.below {W0 W W' : World} {v : Value} {xs : List Nat} (h : RE W0 W v xs) (hb : Below W.heap.size W W') : RE W0 W' v xs := ⟨own_belowK h.own hb, h.bel.trans (hb.mono h.bel.size)⟩
theorem RE.more {W0 W W' : World} {v v' : Value} {xs ys : List Nat} (h : RE W0 W v xs) (ho : W'.ownsRow W0.heap.size 5 1 v' (xs ++ ys).length ((xs ++ ys).map u8v)) (hg : W.grownBy W' v.ownBlock) : RE W0 W' v' (xs ++ ys) := ⟨ho, own_step h.bel hg h.bel.size rfl h.own⟩
theorem RE.row {W0 W : World} {v : Value} {xs : List Nat} (h : RE W0 W v xs) {g : Nat} {vs : List Value} {t : TypeId} (hr : Row W0 g vs t) : Row W g vs t := hr.below h.bel hr.lt
end Go.Proofs.YtngehkmdanhgpaaGreat.Nd
namespace Go.Proofs.YtngehkmdanhgpaaGreat.Nd
open Go.RowKit
def i64r (n : Int) : Prop := -9223372036854775808 ≤ n ∧ n ≤ 9223372036854775807
end Go.Proofs.YtngehkmdanhgpaaGreat.Nd
namespace Go.Proofs.YtngehkmdanhgpaaGreat.Nd
open Go.RowKit
structure Opn.ok (o : Opn) : Prop where
  kind : i64r o.kind
  at_ : i64r o.at_
  size : i64r o.size
  path : o.path.size ≤ 9223372036854775807
  dest : o.dest.size ≤ 9223372036854775807
  data : o.data.size ≤ 9223372036854775807
end Go.Proofs.YtngehkmdanhgpaaGreat.Nd
namespace Go.Proofs.YtngehkmdanhgpaaGreat.Nd
open Go.RowKit
/-- a result -/
structure Res where
  code : Int
  dir : Bool
  size : Int
  data : ByteArray
  names : List ByteArray
def Res.cells (r : Res) (vn : Value) : List Value := [.int .i64 r.code, .bool r.dir, .int .i64 r.size, .string r.data, vn]
def Res.val (r : Res) (vn : Value) : Value := .agg #[.int .i64 r.code, .bool r.dir, .int .i64 r.size, .string r.data, vn]
structure Res.ok (r : Res) : Prop where
  code : i64r r.code
  size : i64r r.size
  data : r.data.size ≤ 9223372036854775807
  names : ∀ s ∈ r.names, s.size ≤ 9223372036854775807
theorem res_row (w : World) (k z : Int) (f : Bool) (d : ByteArray) (vn : Value) : ∃ w2, Hid (w.alloc (.cells #[.int .i64 k, .bool f, .int .i64 z, .string d, vn] 37) = w2) ∧ Hid (Row w2 w.heap.size [.int .i64 k, .bool f, .int .i64 z, .string d, vn] 37) ∧ Hid (Below w.heap.size w w2) ∧ Hid (w2.heap.size = w.heap.size + 1) :=
  ⟨_, rfl, Row.new w [.int .i64 k, .bool f, .int .i64 z, .string d, vn] 37, (Below.refl _ _).alloc (Nat.le_refl _) _, by show _ = _; simp⟩
end Go.Proofs.YtngehkmdanhgpaaGreat.Nd
namespace Go.Proofs.YtngehkmdanhgpaaGreat.Nd
open Go.RowKit
set_option maxHeartbeats 4000000 in
set_option maxRecDepth 100000 in
theorem same_yesR (r : Res) (va vb : Value) (w : World) (ha : Strs w va r.names) (hb : Strs w vb r.names) : Calls Tryz.prog 13 #[r.val va, r.val vb] w fun e w' => e = .returned (.bool true) ∧ Below w.heap.size w w' := by
  obtain ⟨k, f, z, d, ns⟩ := r
  simp only [Res.val] at *
  obtain ⟨W0, H0, HR0, HB0, HZ0⟩ := res_row w k z f d va
  obtain ⟨W1, H1, HR1, HB1, HZ1⟩ := res_row W0 k z f d vb
  have HB1' := hid_in (HB0.out.trans (HB1.out.mono HB0.out.size))
  have HRA := hid_in (HR0.out.below HB1.out HR0.out.lt)
  have HSA := hid_in (ha.below HB1'.out)
  have HSB := hid_in (hb.below HB1'.out)
  obtain ⟨g1, Hg1⟩ : ∃ g, W0.heap.size = g := ⟨_, rfl⟩
  rw [Hg1] at HR1
  have HG1 := hid_in Hg1
  clear Hg1 ha hb
  obtain ⟨pa, ca, ba, oa, rfl, ha1, ha2, ha3, ha4⟩ := HSA.out
  obtain ⟨pb, cb, bb, ob, rfl, hb1, hb2, hb3, hb4⟩ := HSB.out
  have HA3 := hid_in ha3
  have HA4 := hid_in ha4
  have HB3 := hid_in hb3
  have HB4 := hid_in hb4
  have a0 : W1.cell? ⟨w.heap.size, 0, none⟩ = some (.int .i64 k) := HRA.out.cell 0
  have a1 : W1.cell? ⟨w.heap.size, 1, none⟩ = some (.bool f) := HRA.out.cell 1
  have a2 : W1.cell? ⟨w.heap.size, 2, none⟩ = some (.int .i64 z) := HRA.out.cell 2
  have a3 : W1.cell? ⟨w.heap.size, 3, none⟩ = some (.string d) := HRA.out.cell 3
  have a4 : W1.cell? ⟨w.heap.size, 4, none⟩ = some (.slice pa ns.length ca) := HRA.out.cell 4
  have b0 : W1.cell? ⟨g1, 0, none⟩ = some (.int .i64 k) := HR1.out.cell 0
  have b1 : W1.cell? ⟨g1, 1, none⟩ = some (.bool f) := HR1.out.cell 1
  have b2 : W1.cell? ⟨g1, 2, none⟩ = some (.int .i64 z) := HR1.out.cell 2
  have b3 : W1.cell? ⟨g1, 3, none⟩ = some (.string d) := HR1.out.cell 3
  have b4 : W1.cell? ⟨g1, 4, none⟩ = some (.slice pb ns.length cb) := HR1.out.cell 4
  clear ha3 ha4 hb3 hb4 HSA HSB
  go_enter Tryz.func13, Tryz.ntmps13
  go_upto_region 1 with fail
  rw [show ((w.alloc (.cells #[.int .i64 k, .bool f, .int .i64 z, .string d, .slice pa ns.length ca] 37)).alloc (.cells #[.int .i64 k, .bool f, .int .i64 z, .string d, .slice pb ns.length cb] 37)) = W1 by rw [H0.out, H1.out]]
  rw [show w.heap.size + 1 = g1 by have := HZ0.out; have := HG1.out; omega]
  clear H0 H1 HZ0 HZ1 HG1 HR0 HB0 HB1
  go_upto_region 4 with fail
  clear a0 a1 a2 a3 b0 b1 b2 b3
  go_loopw [5] (fun vk W => ∃ j : Nat, vk = .int .i64 (j : Int) ∧ j ≤ ns.length ∧ ∃ m, W = W1.drewN m) (fun vk _ => ns.length - (intOf vk).toNat)
  case atStart => exact ⟨0, rfl, by omega, 0, rfl⟩
  case round =>
    obtain ⟨j, rfl, hj, m, hWW⟩ := hrel
    have HM : Hid (∃ m, wr = W1.drewN m) := ⟨m, hWW⟩
    have a4' : wr.cell? ⟨w.heap.size, 4, none⟩ = some (.slice pa ns.length ca) := by rw [hWW]; simpa [World.cell?] using a4
    have b4' : wr.cell? ⟨g1, 4, none⟩ = some (.slice pb ns.length cb) := by rw [hWW]; simpa [World.cell?] using b4
    have HBW : Hid (Below w.heap.size w wr) := by show Below _ _ _; rw [hWW]; exact below_drewN HB1'.out m
    by_cases hl : j < ns.length
    · have k2 : (j : Int) < (ns.length : Int) := by omega
      obtain ⟨s, hs⟩ : ∃ s, ns[j]? = some s := ⟨_, List.getElem?_eq_getElem hl⟩
      have hne : ns ≠ [] := by rintro rfl; simp at hl
      obtain ⟨rfl, _⟩ := HA3.out hne
      obtain ⟨rfl, _⟩ := HB3.out hne
      have x1 : wr.cell? ⟨ba, oa + j, none⟩ = some (.string s) := by rw [hWW]; simpa [World.cell?] using HA4.out j s hs
      have x2 : wr.cell? ⟨bb, ob + j, none⟩ = some (.string s) := by rw [hWW]; simpa [World.cell?] using HB4.out j s hs
      clear hs hne hWW a4 b4
      go_upto_region 6 with fail
      go_region
      go_wp2_with fail
      refine ⟨⟨j + 1, by go_num, by omega, ?_⟩, by simp [intOf]; omega⟩
      obtain ⟨m', hm'⟩ := HM.out
      exact ⟨m' + 1, by rw [hm']; rfl⟩
    · have k2 : ¬ ((j : Int) < (ns.length : Int)) := by omega
      clear hWW a4 b4
      go_wp2
      go_ret
      exact ⟨rfl, HBW.out⟩
end Go.Proofs.YtngehkmdanhgpaaGreat.Nd
namespace Go.Proofs.YtngehkmdanhgpaaGreat.Pl
open Go.RowKit
open Vp (Str B bl Val cmpL parseS showS splitS withinS IsPath)
open Nd (take_put Row wp_world post_Row post_Row2 grownBy_setCell below_of_grown Strs)
theorem MapP.copy {w : World} {m : Nat} {L : List Spot} (h : MapP w m L) {es : Array MapEntry} {clock : Nat} (hb : w.heap[m]? = some (.map es clock)) : MapP (w.alloc (.map es clock)) w.heap.size L := by
  obtain ⟨es', clock', hb', h1⟩ := h.ex
  rw [hb] at hb'
  cases hb'
  have hB : Below w.heap.size w (w.alloc (.map es clock)) := (Below.refl _ w).alloc (Nat.le_refl _) _
  exact ⟨⟨es, clock, (MapKept.heap_alloc w _).1, h1⟩, h.good, fun s hs => (h.nms s hs).below hB, h.one⟩
set_option maxHeartbeats 2000000 in
set_option maxRecDepth 100000 in
theorem mclone_any {w : World} {m : Nat} {L : List Spot} (h : MapP w m L) :
    Calls Tryz.prog 45 #[.map (some m)] w fun e w' => e = .returned (.map (some w.heap.size)) ∧ MapP w' w.heap.size L ∧ Below w.heap.size w w' := by
  obtain ⟨es, clock, hb, _⟩ := h.ex
  have HC := hid_in (h.copy hb)
  have HB : Hid (Below w.heap.size w (w.alloc (.map es clock))) := hid_in ((Below.refl _ w).alloc (Nat.le_refl _) _)
  have hq := fun w => run_eql_map_nil_sl (P := Tryz.prog) w 58 _ _ (some m) Tryz.underlying58
  clear h
  go_enter Tryz.func45, Tryz.ntmps45
  go_wp2
  rw [run_callFunc_extern Tryz.func82 (by kernel_rfl) (by kernel_rfl) (by kernel_rfl) (e := Extern.MapsClone.clone) (by kernel_rfl), run_maps_clone_sl w 58 hb]
  simp only [Result.andThen]
  rw [Oper.upon_value]
  go_wp2
  rw [run_typeAssert_map_sl _ 58 20 _ _ _ Tryz.underlying58]
  simp only [Result.andThen]
  rw [Oper.upon_value]
  go_wp2
  go_ret
  exact ⟨rfl, HC.out, HB.out⟩
set_option maxHeartbeats 2000000 in
set_option maxRecDepth 100000 in
theorem clone_any {w : World} {g m : Nat} {A : List Ent} (h : FsA w g m A) :
    Calls Tryz.prog 17 #[.pointer (some ⟨g, 0, none⟩)] w fun e w' => ∃ g2 m2, e = .returned (.pointer (some ⟨g2, 0, none⟩)) ∧ FsA w' g2 m2 A ∧ Below w.heap.size w w' ∧ w.heap.size ≤ m2 ∧ w.heap.size ≤ g2 := by
  obtain ⟨L, h1, rfl⟩ := h
  have HCL := hid_in (mclone_any h1.map)
  have c0 : w.cell? ⟨g, 0, none⟩ = some (.map (some m)) := h1.row.cell 0
  clear h1
  go_enter Tryz.func17, Tryz.ntmps17
  go_wp2_with (go_at_call 45; refine HCL.out.mono ?_; rintro e w2 ⟨rfl, hm2, hb2⟩; have HM2 := hid_in hm2; have HB2 := hid_in hb2; clear hm2 hb2)
  go_ret
  have hB : Below w2.heap.size w2 (w2.alloc (.cells #[.map (some w.heap.size)] 60)) := (Below.refl _ _).alloc (Nat.le_refl _) _
  exact ⟨w2.heap.size, w.heap.size, rfl, ⟨L, ⟨Row.new w2 [.map (some w.heap.size)] 60, HM2.out.grown (grown_of_below hB) (fun k e => by cases e)⟩, rfl⟩, HB2.out.trans (hB.mono HB2.out.size), Nat.le_refl _, HB2.out.size⟩
theorem clone_nil (w : World) : Calls Tryz.prog 17 #[.pointer none] w fun e w' => e = .returned (.pointer none) ∧ w' = w := by
  go_enter Tryz.func17, Tryz.ntmps17
  go_wp2
  go_ret
  exact ⟨rfl, rfl⟩
theorem list_nil (w : World) : Calls Tryz.prog 16 #[.pointer none] w fun e w' => e = .returned (.slice none 0 0) ∧ w' = w := by
  go_enter Tryz.func16, Tryz.ntmps16
  go_wp2
  go_ret
  exact ⟨rfl, rfl⟩
theorem nm_strs {w : World} {v : Value} {xs : List Str} (h : Rf.Nm w v xs) : Strs w v (xs.map B) := by
  obtain ⟨_, ⟨rfl, h0⟩ | ⟨g, cap, cur, rfl, hB, hh, hn, hm, hs, ht⟩⟩ := h
  · obtain rfl := List.length_eq_zero_iff.1 h0
    exact ⟨none, 0, 0, 0, rfl, by simp, by omega, fun h => absurd rfl h, fun i s hi => by simp at hi⟩
  · refine ⟨_, cap, g, 0, by rw [List.length_map], by rw [List.length_map]; exact hn, by unfold maxLen at hm; omega, fun _ => ⟨rfl, (Array.getElem?_eq_some_iff.1 hh).1⟩, fun i s hi => ?_⟩
    have hil : i < xs.length := by simpa using (List.getElem?_eq_some_iff.1 hi).1
    have h2 : (cur.toList.take (xs.length * 1))[i]? = (xs.map Vp.sv)[i]? := by rw [ht]
    rw [List.getElem?_take, if_pos (by omega), Array.getElem?_toList] at h2
    rw [Nat.zero_add, cell_of_row w g i _ _ (0, 0) hh, h2, List.getElem?_map]
    rw [List.getElem?_map] at hi
    cases hx : xs[i]? with
    | none => rw [hx] at hi; cases hi
    | some x =>
      rw [hx] at hi
      simp only [Option.map_some, Option.some.injEq] at hi ⊢
      rw [← hi]
      rfl
/-- results that are the same, told so -/
theorem same_rc (rc rs : Int) (rd : Bool) (rx : ByteArray) (rn : List Str) (va vb : Value) (w : World) (ha : Rf.Nm w va rn) (hb : Rf.Nm w vb rn) : Calls Tryz.prog 13 #[.agg #[.int .i64 rc, .bool rd, .int .i64 rs, .string rx, va], .agg #[.int .i64 rc, .bool rd, .int .i64 rs, .string rx, vb]] w fun e w' => e = .returned (.bool true) ∧ Below w.heap.size w w' :=
  Nd.same_yesR ⟨rc, rd, rs, rx, rn.map B⟩ va vb w (nm_strs ha) (nm_strs hb)
theorem s5_below {w W : World} {b : Nat} (h : Below w.heap.size w W) (hb : w.heap.size ≤ b) (v0 v1 v2 v3 v4 : Value) : Below w.heap.size w (((((W.setCell ⟨b, 0, none⟩ v0).setCell ⟨b, 1, none⟩ v1).setCell ⟨b, 2, none⟩ v2).setCell ⟨b, 3, none⟩ v3).setCell ⟨b, 4, none⟩ v4) := by
  have s := fun (X : World) (hX : Below w.heap.size w X) (j : Nat) (v : Value) => below_of_grown hX (grownBy_setCell X ⟨b, j, none⟩ v) hX.size hb
  exact s _ (s _ (s _ (s _ (s _ h 0 v0) 1 v1) 2 v2) 3 v3) 4 v4
set_option maxHeartbeats 2000000 in
set_option maxRecDepth 100000 in
theorem do_nil (k a z : Int) (p t d : ByteArray) (w : World) : Calls Tryz.prog 14 #[.pointer none, .agg #[.int .i64 k, .string p, .string t, .string d, .int .i64 a, .int .i64 z]] w fun e w' => e = .returned (.agg #[.int .i64 7, .bool false, .int .i64 0, .string ⟨#[]⟩, .slice none 0 0]) ∧ Below w.heap.size w w' := by
  obtain ⟨WA, HWA, HRO, HRA, HBA⟩ := op_box w k a z p t d
  have HREF := hid_in (fun k W => refuse_any k W)
  simp only [Res.err, Res.val] at HREF
  go_enter Tryz.func14, Tryz.ntmps14
  go_upto_region 1 with fail
  refine wp_world HWA.out ?_
  go_wp2_with (go_at_call 30; refine (HREF.out _ _).mono ?_; rintro e w5 ⟨rfl, hb5⟩; obtain ⟨⟨g0, g1, g2, g3, g4⟩, q0, q1, q2, q3, q4⟩ := res_cells HRA.out hb5; have HR5 := hid_in (HRA.out.below hb5 HRA.out.lt); have HB5 := hid_in (HBA.out.trans (hb5.mono HBA.out.size)); clear hb5)
  exact post_Row 4 37 rfl (w.heap.size + 1) rfl 37 [.int .i64 7, .bool false, .int .i64 0, .string ⟨#[]⟩, .slice none 0 0] (((((HR5.out.set_same 0 _).set_same 1 _).set_same 2 _).set_same 3 _).set_same 4 _) _ Tryz.underlying37 rfl 5 info37 rfl rfl ⟨rfl, s5_below HB5.out (by omega) _ _ _ _ _⟩
end Go.Proofs.YtngehkmdanhgpaaGreat.Pl
namespace Go.Proofs.YtngehkmdanhgpaaGreat.Pl
open Go.RowKit
open Vp (Str B bl Val cmpL parseS showS splitS withinS IsPath)
open Nd (Row wp_world post_Row post_Row2 grownBy_setCell below_of_grown Opn checkS numsOk namedS pathsS)
open Rf (Fil Fls)
set_option maxHeartbeats 2000000 in
set_option maxRecDepth 100000 in
theorem few_any (w : World) (v : Value) (fs : List Fil) (h : Fls w v fs) (lb : Nat) (hc : w.cell? ⟨lb, 0, none⟩ = some v) :
    Calls Tryz.prog 22 #[.slice (some ⟨lb, 0, none⟩) 1 1] w fun e w' => (∃ t, e = .returned (.bool t)) ∧ w' = w := by
  obtain ⟨p, cap, b, o, rfl, h1, h2, h3, h4', _⟩ := h
  have h4 := Rf.Fls.range h4'
  have HC : Hid (∀ (j : Nat), j < fs.length → ∃ s : ByteArray, p = some ⟨b, o, none⟩ ∧ w.cell? ⟨b, o + j * 3 + 2, none⟩ = some (.string s)) := hid_in (fun j hj => by
    refine ⟨fs[j].data, (h3 (by intro e; rw [e] at hj; simp at hj)).1, ?_⟩
    exact h4 j fs[j] (List.getElem?_eq_getElem hj) 2 _ rfl)
  have HN : Hid (fs.length ≤ 9223372036854775807) := hid_in (by omega)
  generalize fs.length = N at *
  clear h1 h2 h3 h4
  go_enter Tryz.func22, Tryz.ntmps22
  go_wp2_with fail
  refine wp_loop_rounds 2 ?_
  rw [rounds_succ]
  go_upto_region 6 with fail
  go_loopw [5, 3] (fun vj vs W => W = w ∧ ∃ (j : Nat) (s : Int), j ≤ N ∧ vj = .int .i64 (j : Int) ∧ vs = .int .i64 s) (fun vj _ _ => N - (intOf vj).toNat)
  case atStart => exact ⟨rfl, 0, 0, by omega, rfl, rfl⟩
  case round =>
    obtain ⟨rfl, j, s, hj, rfl, rfl⟩ := hrel
    by_cases hlt : j < N
    · obtain ⟨str, rfl, hcell⟩ := HC.out j hlt
      have hN : (N : Int) ≤ 9223372036854775807 := by have := HN.out; omega
      have HJ := hid_in hj
      have HL := hid_in hlt
      have hlt2 : (j : Int) < (N : Int) := by omega
      clear hj hlt
      go_wp2
      go_roundw
      case rel =>
        exact ⟨trivial, j + 1, _, by have := HL.out; omega, by go_num, rfl⟩
      case measure => have := HL.out; simp [intOf]; omega
    · obtain rfl : j = N := by omega
      clear hj hlt
      go_wp2_with fail
      rw [rounds_succ]
      go_wp2
      go_ret
      exact ⟨⟨_, rfl⟩, rfl⟩
end Go.Proofs.YtngehkmdanhgpaaGreat.Pl
