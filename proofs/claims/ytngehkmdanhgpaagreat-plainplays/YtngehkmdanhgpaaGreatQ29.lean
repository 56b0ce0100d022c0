/-
  A list that is sorted is one list; the operations of PlainBack, by what is there. The walk of Node: the node that plain data mean. Plain facts on a right node's bytes, and what comes in with a Raw in later worlds. The walk of the reference's Encode. Int and Flag that are written and read, by states. The walks of areFields and of Encode, the program's. Results; the walk of op.Pack. The walk of the reference's Same, of results that are the same. Clone; the calls of none; names as texts. Every kind keeps the tree. The walk of shown.
-/
import Derived.Laws.CopyOwn
import Derived.Deep.RegionLaw
import Derived.Deep.DrawnRows
import Derived.Lib.SlBytesConst
import Derived.Lib.AppendZeros
import Derived.Laws.Tables
import Derived.Laws.BitsAllLaws
import Derived.Deep.CutRange
import Derived.Shelf.SlMaps.Clone
import Derived.Test.YtngehkmdanhgpaaGreatQ00
import Derived.Test.YtngehkmdanhgpaaGreatQ01
import Derived.Test.YtngehkmdanhgpaaGreatQ02
import Derived.Test.YtngehkmdanhgpaaGreatQ03
import Derived.Test.YtngehkmdanhgpaaGreatQ04
import Derived.Test.YtngehkmdanhgpaaGreatQ05
import Derived.Test.YtngehkmdanhgpaaGreatQ06
import Derived.Test.YtngehkmdanhgpaaGreatQ07
import Derived.Test.YtngehkmdanhgpaaGreatQ08
import Derived.Test.YtngehkmdanhgpaaGreatQ09
import Derived.Test.YtngehkmdanhgpaaGreatQ10
import Derived.Test.YtngehkmdanhgpaaGreatQ11
import Derived.Test.YtngehkmdanhgpaaGreatQ12
import Derived.Test.YtngehkmdanhgpaaGreatQ13
import Derived.Test.YtngehkmdanhgpaaGreatQ14
import Derived.Test.YtngehkmdanhgpaaGreatQ15
import Derived.Test.YtngehkmdanhgpaaGreatQ16
import Derived.Test.YtngehkmdanhgpaaGreatQ17
import Derived.Test.YtngehkmdanhgpaaGreatQ18
import Derived.Test.YtngehkmdanhgpaaGreatQ19
import Derived.Test.YtngehkmdanhgpaaGreatQ20
import Derived.Test.YtngehkmdanhgpaaGreatQ21
import Derived.Test.YtngehkmdanhgpaaGreatQ22
import Derived.Test.YtngehkmdanhgpaaGreatQ23
import Derived.Test.YtngehkmdanhgpaaGreatQ24
import Derived.Test.YtngehkmdanhgpaaGreatQ25
import Derived.Test.YtngehkmdanhgpaaGreatQ26
import Derived.Test.YtngehkmdanhgpaaGreatQ27
import Derived.Test.YtngehkmdanhgpaaGreatQ28
namespace Go.Proofs.YtngehkmdanhgpaaGreat.Pl
open Go.RowKit
open Vp (Str B bl Val cmpL parseS showS splitS withinS IsPath)
open Nd (Row wp_world post_Row post_Row2 grownBy_setCell below_of_grown Opn checkS numsOk namedS pathsS perr)
open Rf (Fil Fls)
/-- the files are what is there but the root, sorted -/
def Lists (A : List Ent) (fs : List Fil) : Prop := ∃ es : List Ent, fs = es.map (fun e => ⟨B (showS e.names), e.dir, e.data⟩) ∧ es.Perm (A.filter (belowE [])) ∧ es.Pairwise (fun s t => ¬ cmpL t.names s.names < 0)
theorem Lists.len {A : List Ent} {fs : List Fil} (h : Lists A fs) : fs.length = (A.filter (belowE [])).length := by
  obtain ⟨es, rfl, h1, _⟩ := h
  rw [List.length_map, h1.length_eq]
theorem Lists.one {A C : List Ent} {fs gs : List Fil} (hA : (A.map (·.names)).Nodup) (h : Lists A fs) (k : Lists C gs) (hp : C.Perm A) : gs = fs := by
  obtain ⟨es, rfl, h1, h2⟩ := h
  obtain ⟨cs, rfl, k1, k2⟩ := k
  have hpp : cs.Perm es := k1.trans ((hp.filter _).trans h1.symm)
  have hmem : ∀ e ∈ es, e ∈ A := fun e he => (List.mem_filter.1 (h1.mem_iff.1 he)).1
  have : cs = es := List.Perm.eq_of_pairwise (le := fun s t => ¬ cmpL t.names s.names < 0) (fun a b ha hb h1 h2 => by
    have hn : a.names = b.names := by
      have t1 := Vp.cmpL_is.turn a.names b.names
      have t2 := Vp.cmpL_is.three a.names b.names
      exact (Vp.cmpL_is.zero _ _).1 (by omega)
    have q1 := at_mem hA (hmem a (hpp.mem_iff.1 ha))
    have q2 := at_mem hA (hmem b hb)
    rw [hn] at q1
    exact Option.some.inj (q1.symm.trans q2)) k2 h2 hpp
  rw [this]
theorem FsA.one {w : World} {g m : Nat} {A : List Ent} (h : FsA w g m A) : (A.map (·.names)).Nodup ∧ ∀ e ∈ A, e.names.length ≤ 8 := by
  obtain ⟨L, h1, rfl⟩ := h
  refine ⟨?_, fun e he => ?_⟩
  · rw [List.map_map]
    exact h1.map.one
  · obtain ⟨s, hs, rfl⟩ := List.mem_map.1 he
    exact (h1.map.good s hs).2.2
theorem w_list {W : World} {g m : Nat} {A : List Ent} (h : FsA W g m A) (hn : A.length ≤ 100000) :
    Calls Tryz.prog 16 #[.pointer (some ⟨g, 0, none⟩)] W fun e W' => ∃ p c fs, e = .returned (.slice p fs.length c) ∧ Fls W' (.slice p fs.length c) fs ∧ Lists A fs ∧ FsA W' g m A ∧ Below W.heap.size W W' := by
  obtain ⟨L, h1, rfl⟩ := h
  refine (list_any h1 (by simpa using hn)).mono ?_
  rintro e W' ⟨v, sp, rfl, hf, hp, hs, hF, hb⟩
  obtain ⟨p, c, rfl⟩ := hf.form
  refine ⟨p, c, sp.map Spot.fil, rfl, hf, ⟨sp.map Spot.ent, ?_, ?_, ?_⟩, ⟨L, hF, rfl⟩, hb⟩
  · rw [List.map_map]
    refine List.map_congr_left fun s hs => ?_
    have hg := (h1.map.good s (List.mem_filter.1 (hp.mem_iff.1 hs)).1).1
    simp only [Function.comp, Spot.fil, Spot.ent]
    rw [hg]
  · rw [← belowB_ent]
    exact hp.map _
  · rw [List.pairwise_map]
    exact hs
end Go.Proofs.YtngehkmdanhgpaaGreat.Pl
namespace Go.Proofs.YtngehkmdanhgpaaGreat.Nd
open Go.RowKit
/-- a slice of slices of bytes -/
def Bss (w : World) (v : Value) (ps : List (List Nat)) : Prop := ∃ p cap b o, v = .slice p ps.length cap ∧ ps.length ≤ cap ∧ cap ≤ 9223372036854775807 ∧ (ps ≠ [] → p = some ⟨b, o, none⟩ ∧ b < w.heap.size) ∧ ∀ (i : Nat) bs, ps[i]? = some bs → ∃ q c b' o', w.cell? ⟨b, o + i, none⟩ = some (.slice q bs.length c) ∧ Sl w q bs c b' o'
/-- a slice of texts -/
def Strs (w : World) (v : Value) (ns : List ByteArray) : Prop := ∃ p cap b o, v = .slice p ns.length cap ∧ ns.length ≤ cap ∧ cap ≤ 9223372036854775807 ∧ (ns ≠ [] → p = some ⟨b, o, none⟩ ∧ b < w.heap.size) ∧ ∀ (i : Nat) s, ns[i]? = some s → w.cell? ⟨b, o + i, none⟩ = some (.string s)
/-- a slice of numbers -/
def Ints (w : World) (v : Value) (ks : List Int) : Prop := ∃ p cap b o, v = .slice p ks.length cap ∧ ks.length ≤ cap ∧ cap ≤ 9223372036854775807 ∧ (ks ≠ [] → p = some ⟨b, o, none⟩ ∧ b < w.heap.size) ∧ ∀ (i : Nat) k, ks[i]? = some k → w.cell? ⟨b, o + i, none⟩ = some (.int .i64 k)
theorem Bss.lt {w : World} {v : Value} {ps : List (List Nat)} (h : Bss w v ps) : ∀ bs ∈ ps, ∀ x ∈ bs, x < 256 := by
  obtain ⟨p, cap, b, o, _, _, _, _, hat⟩ := h
  intro bs hbs
  obtain ⟨i, hi, rfl⟩ := List.getElem_of_mem hbs
  obtain ⟨q, c, b', o', _, hs⟩ := hat i _ (List.getElem?_eq_getElem hi)
  exact hs.lt
end Go.Proofs.YtngehkmdanhgpaaGreat.Nd
namespace Go.Proofs.YtngehkmdanhgpaaGreat.Nd
open Go.RowKit
theorem flat_len {α : Type} (f : α → List Nat) (c : Nat) : ∀ (l : List α), (∀ x ∈ l, (f x).length ≤ c) → (l.flatMap f).length ≤ l.length * c
  | [], _ => by simp
  | x :: r, h => by
    have h1 := flat_len f c r (fun y hy => h y (by simp [hy]))
    have h2 := h x (by simp)
    simp only [List.flatMap_cons, List.length_append, List.length_cons, Nat.add_mul, Nat.one_mul]
    omega
theorem Bss.below {w w' : World} {v : Value} {ps : List (List Nat)} (h : Bss w v ps) (hb : Below w.heap.size w w') : Bss w' v ps := by
  obtain ⟨p, cap, b, o, rfl, h1, h2, h3, hat⟩ := h
  refine ⟨p, cap, b, o, rfl, h1, h2, fun hne => ⟨(h3 hne).1, Nat.lt_of_lt_of_le (h3 hne).2 hb.size⟩, fun i bs hi => ?_⟩
  obtain ⟨q, c, b', o', hc, hs⟩ := hat i bs hi
  exact ⟨q, c, b', o', (hb.cell (p := ⟨b, o + i, none⟩) (World.block_lt_of_cell? w _ hc)).trans hc, hs.below hb⟩
theorem Strs.below {w w' : World} {v : Value} {ns : List ByteArray} (h : Strs w v ns) (hb : Below w.heap.size w w') : Strs w' v ns := by
  obtain ⟨p, cap, b, o, rfl, h1, h2, h3, hat⟩ := h
  exact ⟨p, cap, b, o, rfl, h1, h2, fun hne => ⟨(h3 hne).1, Nat.lt_of_lt_of_le (h3 hne).2 hb.size⟩, fun i s hi => (hb.cell (p := ⟨b, o + i, none⟩) (World.block_lt_of_cell? w _ (hat i s hi))).trans (hat i s hi)⟩
theorem Ints.below {w w' : World} {v : Value} {ks : List Int} (h : Ints w v ks) (hb : Below w.heap.size w w') : Ints w' v ks := by
  obtain ⟨p, cap, b, o, rfl, h1, h2, h3, hat⟩ := h
  exact ⟨p, cap, b, o, rfl, h1, h2, fun hne => ⟨(h3 hne).1, Nat.lt_of_lt_of_le (h3 hne).2 hb.size⟩, fun i s hi => (hb.cell (p := ⟨b, o + i, none⟩) (World.block_lt_of_cell? w _ (hat i s hi))).trans (hat i s hi)⟩
end Go.Proofs.YtngehkmdanhgpaaGreat.Nd
namespace Go.Proofs.YtngehkmdanhgpaaGreat.Nd
open Go.RowKit
/-- bytes that the call itself gathers -/
structure RE (W0 W : World) (v : Value) (xs : List Nat) : Prop where
  own : W.ownsRow W0.heap.size 5 1 v xs.length (xs.map u8v)
  bel : Below W0.heap.size W0 W
theorem RE.below {W0 W W' : World} {v : Value} {xs : List Nat} (h : RE W0 W v xs) (hb : Below W.heap.size W W') : RE W0 W' v xs := ⟨own_belowK h.own hb, h.bel.trans (hb.mono h.bel.size)⟩
theorem RE.more {W0 W W' : World} {v v' : Value} {xs ys : List Nat} (h : RE W0 W v xs) (ho : W'.ownsRow W0.heap.size 5 1 v' (xs ++ ys).length ((xs ++ ys).map u8v)) (hg : W.grownBy W' v.ownBlock) : RE W0 W' v' (xs ++ ys) := ⟨ho, own_step h.bel hg h.bel.size rfl h.own⟩
theorem RE.row {W0 W : World} {v : Value} {xs : List Nat} (h : RE W0 W v xs) {g : Nat} {vs : List Value} {t : TypeId} (hr : Row W0 g vs t) : Row W g vs t := hr.below h.bel hr.lt
end Go.Proofs.YtngehkmdanhgpaaGreat.Nd
namespace Go.Proofs.YtngehkmdanhgpaaGreat.Nd
open Go.RowKit
def i64r (n : Int) : Prop := -9223372036854775808 ≤ n ∧ n ≤ 9223372036854775807
end Go.Proofs.YtngehkmdanhgpaaGreat.Nd
namespace Go.Proofs.YtngehkmdanhgpaaGreat.Nd
open Go.RowKit
structure Opn.ok (o : Opn) : Prop where
  kind : i64r o.kind
  at_ : i64r o.at_
  size : i64r o.size
  path : o.path.size ≤ 9223372036854775807
  dest : o.dest.size ≤ 9223372036854775807
  data : o.data.size ≤ 9223372036854775807
end Go.Proofs.YtngehkmdanhgpaaGreat.Nd
namespace Go.Proofs.YtngehkmdanhgpaaGreat.Nd
open Go.RowKit
/-- a result -/
structure Res where
  code : Int
  dir : Bool
  size : Int
  data : ByteArray
  names : List ByteArray
def Res.cells (r : Res) (vn : Value) : List Value := [.int .i64 r.code, .bool r.dir, .int .i64 r.size, .string r.data, vn]
def Res.val (r : Res) (vn : Value) : Value := .agg #[.int .i64 r.code, .bool r.dir, .int .i64 r.size, .string r.data, vn]
structure Res.ok (r : Res) : Prop where
  code : i64r r.code
  size : i64r r.size
  data : r.data.size ≤ 9223372036854775807
  names : ∀ s ∈ r.names, s.size ≤ 9223372036854775807
theorem res_row (w : World) (k z : Int) (f : Bool) (d : ByteArray) (vn : Value) : ∃ w2, Hid (w.alloc (.cells #[.int .i64 k, .bool f, .int .i64 z, .string d, vn] 37) = w2) ∧ Hid (Row w2 w.heap.size [.int .i64 k, .bool f, .int .i64 z, .string d, vn] 37) ∧ Hid (Below w.heap.size w w2) ∧ Hid (w2.heap.size = w.heap.size + 1) :=
  ⟨_, rfl, Row.new w [.int .i64 k, .bool f, .int .i64 z, .string d, vn] 37, (Below.refl _ _).alloc (Nat.le_refl _) _, by show _ = _; simp⟩
end Go.Proofs.YtngehkmdanhgpaaGreat.Nd
namespace Go.Proofs.YtngehkmdanhgpaaGreat.Nd
open Go.RowKit
set_option maxHeartbeats 4000000 in
set_option maxRecDepth 100000 in
theorem same_yesR (r : Res) (va vb : Value) (w : World) (ha : Strs w va r.names) (hb : Strs w vb r.names) : Calls Tryz.prog 13 #[r.val va, r.val vb] w fun e w' => e = .returned (.bool true) ∧ Below w.heap.size w w' := by
  obtain ⟨k, f, z, d, ns⟩ := r
  simp only [Res.val] at *
  obtain ⟨W0, H0, HR0, HB0, HZ0⟩ := res_row w k z f d va
  obtain ⟨W1, H1, HR1, HB1, HZ1⟩ := res_row W0 k z f d vb
  have HB1' := hid_in (HB0.out.trans (HB1.out.mono HB0.out.size))
  have HRA := hid_in (HR0.out.below HB1.out HR0.out.lt)
  have HSA := hid_in (ha.below HB1'.out)
  have HSB := hid_in (hb.below HB1'.out)
  obtain ⟨g1, Hg1⟩ : ∃ g, W0.heap.size = g := ⟨_, rfl⟩
  rw [Hg1] at HR1
  have HG1 := hid_in Hg1
  clear Hg1 ha hb
  obtain ⟨pa, ca, ba, oa, rfl, ha1, ha2, ha3, ha4⟩ := HSA.out
  obtain ⟨pb, cb, bb, ob, rfl, hb1, hb2, hb3, hb4⟩ := HSB.out
  have HA3 := hid_in ha3
  have HA4 := hid_in ha4
  have HB3 := hid_in hb3
  have HB4 := hid_in hb4
  have a0 : W1.cell? ⟨w.heap.size, 0, none⟩ = some (.int .i64 k) := HRA.out.cell 0
  have a1 : W1.cell? ⟨w.heap.size, 1, none⟩ = some (.bool f) := HRA.out.cell 1
  have a2 : W1.cell? ⟨w.heap.size, 2, none⟩ = some (.int .i64 z) := HRA.out.cell 2
  have a3 : W1.cell? ⟨w.heap.size, 3, none⟩ = some (.string d) := HRA.out.cell 3
  have a4 : W1.cell? ⟨w.heap.size, 4, none⟩ = some (.slice pa ns.length ca) := HRA.out.cell 4
  have b0 : W1.cell? ⟨g1, 0, none⟩ = some (.int .i64 k) := HR1.out.cell 0
  have b1 : W1.cell? ⟨g1, 1, none⟩ = some (.bool f) := HR1.out.cell 1
  have b2 : W1.cell? ⟨g1, 2, none⟩ = some (.int .i64 z) := HR1.out.cell 2
  have b3 : W1.cell? ⟨g1, 3, none⟩ = some (.string d) := HR1.out.cell 3
  have b4 : W1.cell? ⟨g1, 4, none⟩ = some (.slice pb ns.length cb) := HR1.out.cell 4
  clear ha3 ha4 hb3 hb4 HSA HSB
  go_enter Tryz.func13, Tryz.ntmps13
  go_upto_region 1 with fail
  rw [show ((w.alloc (.cells #[.int .i64 k, .bool f, .int .i64 z, .string d, .slice pa ns.length ca] 37)).alloc (.cells #[.int .i64 k, .bool f, .int .i64 z, .string d, .slice pb ns.length cb] 37)) = W1 by rw [H0.out, H1.out]]
  rw [show w.heap.size + 1 = g1 by have := HZ0.out; have := HG1.out; omega]
  clear H0 H1 HZ0 HZ1 HG1 HR0 HB0 HB1
  go_upto_region 4 with fail
  clear a0 a1 a2 a3 b0 b1 b2 b3
  go_loopw [5] (fun vk W => ∃ j : Nat, vk = .int .i64 (j : Int) ∧ j ≤ ns.length ∧ ∃ m, W = W1.drewN m) (fun vk _ => ns.length - (intOf vk).toNat)
  case atStart => exact ⟨0, rfl, by omega, 0, rfl⟩
  case round =>
    obtain ⟨j, rfl, hj, m, hWW⟩ := hrel
    have HM : Hid (∃ m, wr = W1.drewN m) := ⟨m, hWW⟩
    have a4' : wr.cell? ⟨w.heap.size, 4, none⟩ = some (.slice pa ns.length ca) := by rw [hWW]; simpa [World.cell?] using a4
    have b4' : wr.cell? ⟨g1, 4, none⟩ = some (.slice pb ns.length cb) := by rw [hWW]; simpa [World.cell?] using b4
    have HBW : Hid (Below w.heap.size w wr) := by show Below _ _ _; rw [hWW]; exact below_drewN HB1'.out m
    by_cases hl : j < ns.length
    · have k2 : (j : Int) < (ns.length : Int) := by omega
      obtain ⟨s, hs⟩ : ∃ s, ns[j]? = some s := ⟨_, List.getElem?_eq_getElem hl⟩
      have hne : ns ≠ [] := by rintro rfl; simp at hl
      obtain ⟨rfl, _⟩ := HA3.out hne
      obtain ⟨rfl, _⟩ := HB3.out hne
      have x1 : wr.cell? ⟨ba, oa + j, none⟩ = some (.string s) := by rw [hWW]; simpa [World.cell?] using HA4.out j s hs
      have x2 : wr.cell? ⟨bb, ob + j, none⟩ = some (.string s) := by rw [hWW]; simpa [World.cell?] using HB4.out j s hs
      clear hs hne hWW a4 b4
      go_upto_region 6 with fail
      go_region
      go_wp2_with fail
      refine ⟨⟨j + 1, by go_num, by omega, ?_⟩, by simp [intOf]; omega⟩
      obtain ⟨m', hm'⟩ := HM.out
      exact ⟨m' + 1, by rw [hm']; rfl⟩
    · have k2 : ¬ ((j : Int) < (ns.length : Int)) := by omega
      clear hWW a4 b4
      go_wp2
      go_ret
      exact ⟨rfl, HBW.out⟩
end Go.Proofs.YtngehkmdanhgpaaGreat.Nd
namespace Go.Proofs.YtngehkmdanhgpaaGreat.Pl
open Go.RowKit
open Vp (Str B bl Val cmpL parseS showS splitS withinS IsPath)
open Nd (take_put Row wp_world post_Row post_Row2 grownBy_setCell below_of_grown Strs)
theorem nm_strs {w : World} {v : Value} {xs : List Str} (h : Rf.Nm w v xs) : Strs w v (xs.map B) := by
  obtain ⟨_, ⟨rfl, h0⟩ | ⟨g, cap, cur, rfl, hB, hh, hn, hm, hs, ht⟩⟩ := h
  · obtain rfl := List.length_eq_zero_iff.1 h0
    exact ⟨none, 0, 0, 0, rfl, by simp, by omega, fun h => absurd rfl h, fun i s hi => by simp at hi⟩
  · refine ⟨_, cap, g, 0, by rw [List.length_map], by rw [List.length_map]; exact hn, by unfold maxLen at hm; omega, fun _ => ⟨rfl, (Array.getElem?_eq_some_iff.1 hh).1⟩, fun i s hi => ?_⟩
    have hil : i < xs.length := by simpa using (List.getElem?_eq_some_iff.1 hi).1
    have h2 : (cur.toList.take (xs.length * 1))[i]? = (xs.map Vp.sv)[i]? := by rw [ht]
    rw [List.getElem?_take, if_pos (by omega), Array.getElem?_toList] at h2
    rw [Nat.zero_add, cell_of_row w g i _ _ (0, 0) hh, h2, List.getElem?_map]
    rw [List.getElem?_map] at hi
    cases hx : xs[i]? with
    | none => rw [hx] at hi; cases hi
    | some x =>
      rw [hx] at hi
      simp only [Option.map_some, Option.some.injEq] at hi ⊢
      rw [← hi]
      rfl
/-- results that are the same, told so -/
theorem same_rc (rc rs : Int) (rd : Bool) (rx : ByteArray) (rn : List Str) (va vb : Value) (w : World) (ha : Rf.Nm w va rn) (hb : Rf.Nm w vb rn) : Calls Tryz.prog 13 #[.agg #[.int .i64 rc, .bool rd, .int .i64 rs, .string rx, va], .agg #[.int .i64 rc, .bool rd, .int .i64 rs, .string rx, vb]] w fun e w' => e = .returned (.bool true) ∧ Below w.heap.size w w' :=
  Nd.same_yesR ⟨rc, rd, rs, rx, rn.map B⟩ va vb w (nm_strs ha) (nm_strs hb)
theorem s5_below {w W : World} {b : Nat} (h : Below w.heap.size w W) (hb : w.heap.size ≤ b) (v0 v1 v2 v3 v4 : Value) : Below w.heap.size w (((((W.setCell ⟨b, 0, none⟩ v0).setCell ⟨b, 1, none⟩ v1).setCell ⟨b, 2, none⟩ v2).setCell ⟨b, 3, none⟩ v3).setCell ⟨b, 4, none⟩ v4) := by
  have s := fun (X : World) (hX : Below w.heap.size w X) (j : Nat) (v : Value) => below_of_grown hX (grownBy_setCell X ⟨b, j, none⟩ v) hX.size hb
  exact s _ (s _ (s _ (s _ (s _ h 0 v0) 1 v1) 2 v2) 3 v3) 4 v4
end Go.Proofs.YtngehkmdanhgpaaGreat.Pl
namespace Go.Proofs.YtngehkmdanhgpaaGreat.Pl
open Vp (Str B bl Val cmpL parseS showS splitS withinS IsPath)
theorem dropLast_ne {n : List Str} (h : n ≠ []) : n.dropLast ≠ n := fun e => by
  have := congrArg List.length e
  have h0 := List.length_pos_iff.2 h
  rw [List.length_dropLast] at this
  omega
theorem tree_put {A : List Ent} {e : Ent} (hT : Tree A) (hn : e.names ≠ []) (hd : ∃ d, entAt A e.names.dropLast = some d ∧ d.dir = true) (hk : ∀ x, entAt A e.names = some x → x.dir = true → e.dir = true) : Tree (putA A e) := by
  refine ⟨?_, fun n x hx h0 => ?_⟩
  · rw [at_put, if_neg fun h => hn h.symm]
    exact hT.root
  · rw [at_put] at hx ⊢
    by_cases h1 : n = e.names
    · rw [h1, if_neg (dropLast_ne hn)]
      exact hd
    · rw [if_neg h1] at hx
      obtain ⟨d, d1, d2⟩ := hT.up n x hx h0
      by_cases h2 : n.dropLast = e.names
      · rw [if_pos h2]
        exact ⟨e, rfl, hk d (h2 ▸ d1) d2⟩
      · rw [if_neg h2]
        exact ⟨d, d1, d2⟩
theorem tree_cut {A : List Ent} {xs : List Str} (hT : Tree A) (hx : xs ≠ []) (hk : ∀ n x, entAt A n = some x → n ≠ [] → n.dropLast ≠ xs) : Tree (cutA A xs) := by
  refine ⟨?_, fun n x h h0 => ?_⟩
  · rw [at_cut, if_neg fun h => hx h.symm]
    exact hT.root
  · rw [at_cut] at h ⊢
    by_cases h1 : n = xs
    · rw [if_pos h1] at h
      cases h
    · rw [if_neg h1] at h
      rw [if_neg (hk n x h h0)]
      exact hT.up n x h h0
theorem findFA_at {A : List Ent} {xs : List Str} (h : (findFA A xs).2 = 0) : ∃ f, entAt A xs = some f ∧ f.dir = false := by
  unfold findFA at h
  split at h
  · cases h
  · rename_i hn
    refine ⟨_, findA_at h, ?_⟩
    cases hd : (findA A xs).1.dir with
    | false => rfl
    | true => exact absurd ⟨h, hd⟩ hn
/-- nothing lies below a file -/
theorem Tree.file {A : List Ent} (hT : Tree A) {xs : List Str} {f : Ent} (h : entAt A xs = some f) (hd : f.dir = false) : ∀ n x, entAt A n = some x → n ≠ [] → n.dropLast ≠ xs := fun n x hx h0 e => by
  obtain ⟨d, d1, d2⟩ := hT.up n x hx h0
  rw [e, h] at d1
  cases d1
  rw [hd] at d2
  cases d2
theorem Tree.file_ne {A : List Ent} (hT : Tree A) {xs : List Str} {f : Ent} (h : entAt A xs = some f) (hd : f.dir = false) : xs ≠ [] := fun e => by
  obtain ⟨r, r1, r2⟩ := hT.root
  rw [e, r1] at h
  cases h
  rw [hd] at r2
  cases r2
theorem tree_add {A : List Ent} (hT : Tree A) (xs : List Str) (d : Bool) : Tree (addA A xs d) := by
  unfold addA
  split
  · rename_i h
    unfold addE at h
    split at h
    · cases h
    rename_i h0
    split at h
    · rename_i h1
      exact absurd h h1
    rename_i h1
    split at h
    · cases h
    rename_i h2
    refine tree_put hT h0 (findDA_at (Classical.byContradiction h1)) fun x hx _ => ?_
    exact absurd (by rw [hx]; rfl) h2
  · exact hT
theorem tree_over {A : List Ent} (hT : Tree A) {xs : List Str} (h : (findFA A xs).2 = 0) (y : ByteArray) : Tree (putA A ⟨xs, false, y⟩) := by
  obtain ⟨f, h1, h2⟩ := findFA_at h
  have hn := hT.file_ne h1 h2
  refine tree_put hT hn (hT.up xs f h1 hn) fun x hx hd => ?_
  have hx' : entAt A xs = some x := hx
  rw [h1] at hx'
  cases hx'
  rw [h2] at hd
  cases hd
theorem tree_wr {A : List Ent} (hT : Tree A) (xs : List Str) (a : Nat) (d : ByteArray) : Tree (wrA A xs a d) := by
  unfold wrA
  split
  · rename_i h
    unfold wrE at h
    split at h
    · rename_i h1
      exact absurd h h1
    · rename_i h1
      exact tree_over hT (Classical.byContradiction h1) _
  · exact hT
theorem tree_tr {A : List Ent} (hT : Tree A) (xs : List Str) (z : Nat) : Tree (trA A xs z) := by
  unfold trA
  split
  · rename_i h
    exact tree_over hT h _
  · exact hT
theorem tree_ul {A : List Ent} (hT : Tree A) (xs : List Str) : Tree (ulA A xs) := by
  unfold ulA
  split
  · rename_i h
    obtain ⟨f, h1, h2⟩ := findFA_at h
    exact tree_cut hT (hT.file_ne h1 h2) (hT.file h1 h2)
  · exact hT
theorem none_below {A : List Ent} {xs : List Str} (h : ¬ 0 < (A.filter (belowE xs)).length) : ∀ s, s ≠ [] → entAt A (xs ++ s) = none := fun s hs => by
  cases hc : entAt A (xs ++ s) with
  | none => rfl
  | some e =>
    obtain ⟨hn, hm⟩ := at_names hc
    exact absurd (List.length_pos_of_mem (List.mem_filter.2 ⟨hm, below_iff.2 ⟨s, hs, hn⟩⟩)) h
theorem tree_rm {A : List Ent} (hT : Tree A) (xs : List Str) : Tree (rmA A xs) := by
  unfold rmA
  split
  · rename_i h
    unfold rmE at h
    split at h
    · cases h
    rename_i h0
    split at h
    · rename_i h1
      exact absurd h h1
    split at h
    · cases h
    rename_i h2
    refine tree_cut hT h0 fun n x hx hn e => ?_
    have := none_below h2 [n.getLast hn] (by simp)
    rw [← e, List.dropLast_concat_getLast, hx] at this
    cases this
  · exact hT
/-- what is where behind a rename onto what may be there -/
theorem at_moved2 {A es : List Ent} {p q : List Str} {x : Ent} (hA : (A.map (·.names)).Nodup) (hx : entAt A p = some x) (hp : es.Perm (A.filter (belowE p))) (hpq : Apart p q) (hq : ∀ s, s ≠ [] → entAt A (q ++ s) = none) :
    (∀ s, entAt (movesA p q (es ++ [x]) A) (q ++ s) = (entAt A (p ++ s)).map (renE (q ++ s))) ∧ (∀ s, entAt (movesA p q (es ++ [x]) A) (p ++ s) = none) ∧
      ∀ n, withinS n p = false → withinS n q = false → entAt (movesA p q (es ++ [x]) A) n = entAt A n := by
  obtain ⟨h1, h2, h3⟩ := moved_names hA hx hp
  have H := at_moves p q hpq (es ++ [x]) A (fun e he => (h1 e he).2) h2
  revert H h1 h2 h3
  generalize es ++ [x] = fs
  intro h1 h2 h3 H
  refine ⟨fun s => ?_, fun s => ?_, fun n hn1 hn2 => ?_⟩
  · rw [H]
    have hf : (fs.find? (fun e => decide (q ++ s = q ++ e.names.drop p.length))) = entAt A (p ++ s) := by
      cases hf : fs.find? (fun e => decide (q ++ s = q ++ e.names.drop p.length)) with
      | some e =>
        have he := List.mem_of_find?_eq_some hf
        have hs0 := List.find?_some hf
        have hs := List.append_cancel_left (of_decide_eq_true hs0)
        obtain ⟨u, hu⟩ := within_iff.1 (h1 e he).2
        rw [hu, List.drop_left] at hs
        rw [hs, ← hu]
        exact (at_mem hA (h1 e he).1).symm
      | none =>
        cases hc : entAt A (p ++ s) with
        | none => rfl
        | some e =>
          obtain ⟨hn, hm⟩ := at_names hc
          have he := h3 e hm (within_iff.2 ⟨s, hn⟩)
          have := List.find?_eq_none.1 hf e he
          rw [hn, List.drop_left] at this
          simp at this
    rw [hf]
    cases hc : entAt A (p ++ s) with
    | some e => rfl
    | none =>
      simp only [Option.map_none]
      split
      · rfl
      · exact hq s fun h0 => by
          rw [h0, List.append_nil, hx] at hc
          cases hc
  · rw [H]
    have hf : (fs.find? (fun e => decide (p ++ s = q ++ e.names.drop p.length))) = none := by
      rw [List.find?_eq_none]
      intro e _ he
      exact not_both hpq (within_iff.2 ⟨s, rfl⟩) (within_iff.2 ⟨_, of_decide_eq_true he⟩)
    rw [hf]
    simp only
    split
    · rfl
    · rename_i hn
      cases hc : entAt A (p ++ s) with
      | none => rfl
      | some e =>
        obtain ⟨hn2, hm⟩ := at_names hc
        exact absurd (List.mem_map.2 ⟨e, h3 e hm (within_iff.2 ⟨s, hn2⟩), hn2⟩) hn
  · rw [H]
    have hf : (fs.find? (fun e => decide (n = q ++ e.names.drop p.length))) = none := by
      rw [List.find?_eq_none]
      intro e _ he
      rw [within_iff.2 ⟨_, of_decide_eq_true he⟩] at hn2
      cases hn2
    rw [hf]
    simp only
    rw [if_neg]
    intro hm
    obtain ⟨e, he, rfl⟩ := List.mem_map.1 hm
    rw [(h1 e he).2] at hn1
    cases hn1
theorem tree_rn {A A' : List Ent} {p q : List Str} (hT : Tree A) (hA : (A.map (·.names)).Nodup) (h : Moved A p q A') : Tree A' := by
  by_cases hc : rnE A p q = 0 ∧ p ≠ q
  · obtain ⟨x, es, hx, hp, e⟩ := h.2 hc
    obtain ⟨hp0, hq0, _, hd, hw⟩ := rn_ok hc.1
    have hw := hw hc.2
    have hqs : ∀ s, s ≠ [] → entAt A (q ++ s) = none := by
      cases hq : entAt A q with
      | none => exact fun s _ => hT.none hq _ s rfl
      | some o =>
        have hcv : cvE A p q = 0 := by
          have h1 := hc.1
          unfold rnE at h1
          split at h1
          · rename_i h2
            exact absurd h1 h2
          rw [if_neg hc.2] at h1
          unfold mvE at h1
          split at h1
          · cases h1
          split at h1
          · rename_i h2
            exact absurd h1 h2
          · rename_i h2
            exact Classical.byContradiction h2
        unfold cvE at hcv
        rw [hq] at hcv
        simp only at hcv
        unfold covE at hcv
        split at hcv
        · cases hcv
        split at hcv
        · cases hcv
        split at hcv
        · cases hcv
        rename_i h3
        exact none_below h3
    have hwp : withinS p q = false := by
      cases hcc : withinS p q with
      | false => rfl
      | true =>
        obtain ⟨s, hs⟩ := within_iff.1 hcc
        by_cases h0 : s = []
        · rw [h0, List.append_nil] at hs
          exact absurd hs hc.2
        · rw [hs, hqs s h0] at hx
          cases hx
    obtain ⟨h1, h2, h3⟩ := at_moved2 hA hx hp ⟨hwp, hw⟩ hqs
    rw [← e] at h1 h2 h3
    exact tree_moved hT ⟨hwp, hw⟩ hp0 hq0 hd h1 h2 h3
  · rw [h.1 (by
      by_cases h0 : rnE A p q = 0
      · exact .inr (Classical.byContradiction fun hh => hc ⟨h0, hh⟩)
      · exact .inl h0)]
    exact hT
end Go.Proofs.YtngehkmdanhgpaaGreat.Pl
namespace Go.Proofs.YtngehkmdanhgpaaGreat.Pl
open Go.RowKit
open Vp (Str B bl Val cmpL parseS showS splitS withinS IsPath)
open Nd (Row wp_world post_Row post_Row2 grownBy_setCell below_of_grown)
/-- the last name, of a directory with a stroke behind -/
def shownS (e : Ent) : Str := (e.names.getLast?.getD []) ++ (if e.dir then [47] else [])
theorem B_app (x y : Str) : B (x ++ y) = B x ++ B y := by
  apply ByteArray.ext
  simp [B, ByteArray.data_append]
set_option maxHeartbeats 2000000 in
set_option maxRecDepth 100000 in
theorem shown_any (v : Value) (xs : List Str) (t x : ByteArray) (d : Bool) (w : World) (hv : Val w v xs) (hg : Gp xs) (h0 : xs ≠ []) :
    Calls Tryz.prog 101 #[.agg #[v, .string t, .bool d, .string x]] w fun e w' => e = .returned (.string (B (shownS ⟨xs, d, x⟩))) ∧ Below w.heap.size w w' := by
  obtain ⟨p, cap, rfl, hr⟩ := hv
  have hb : Below w.heap.size w (w.alloc (.cells #[.slice p xs.length cap, .string t, .bool d, .string x] 63)) := (Below.refl _ _).alloc (Nat.le_refl _) _
  obtain ⟨b, o, hp, hc⟩ := (hr.below hb).at_
  obtain rfl := hp h0
  have hl := List.length_pos_iff.2 h0
  have hlen := hg.2
  obtain ⟨y, hy⟩ : ∃ y, xs[xs.length - 1]? = some y := ⟨_, List.getElem?_eq_getElem (by omega)⟩
  have hcell := hc (xs.length - 1) y 0 hy
  have hys : (B y).size ≤ 1000 := by
    have := (Vp.name_facts (hg.1 y (List.mem_of_getElem? hy))).2.2.2.1
    have e : (B y).size = y.length := by simp [B, ByteArray.size]
    omega
  have HB := hid_in hb
  have hrow : Row (w.alloc (.cells #[.slice (some ⟨b, o, none⟩) xs.length cap, .string t, .bool d, .string x] 63)) w.heap.size [.slice (some ⟨b, o, none⟩) xs.length cap, .string t, .bool d, .string x] 63 := Row.new w _ 63
  obtain ⟨W, HW⟩ : ∃ W, Hid (w.alloc (.cells #[.slice (some ⟨b, o, none⟩) xs.length cap, .string t, .bool d, .string x] 63) = W) := ⟨_, hid_in rfl⟩
  rw [HW.out] at hrow hcell HB
  obtain ⟨⟨c0, c1, c2, c3⟩, -⟩ := spot_cells hrow (Below.refl _ W)
  have HS : Hid (shownS ⟨xs, d, x⟩ = y ++ if d then [47] else []) := hid_in (by
    unfold shownS
    rw [List.getLast?_eq_getElem?, hy]
    rfl)
  have hlt : (xs.length : Int) - 1 < (xs.length : Int) := by omega
  have hge : ¬ (xs.length : Int) - 1 < 0 := by omega
  have hge2 : 0 ≤ (xs.length : Int) - 1 := by omega
  have hwr : IntKind.i64.wrap ((xs.length : Int) - 1) = (xs.length : Int) - 1 := by rw [IntKind.wrap_i64]; omega
  have hwr2 : wrap64 ((xs.length : Int) - 1) = (xs.length : Int) - 1 := by unfold wrap64; omega
  have hcell2 : W.cell? ⟨b, o + ((xs.length : Int) - 1).toNat, none⟩ = some (.string (B y)) := by
    have e : ((xs.length : Int) - 1).toNat = xs.length - 1 := by omega
    rw [e]
    exact hcell
  have hsum : ¬ (9223372036854775807 < ((B y).size : Int) + 1) := by omega
  have HG := hid_in hg
  clear hy hcell hc hr hp hb hg hlen hl h0
  generalize xs.length = N at *
  obtain ⟨M, HM⟩ : ∃ M, Hid ((N : Int) - 1 = M) := ⟨_, hid_in rfl⟩
  rw [HM.out] at hlt hge hge2 hwr hwr2 hcell2
  have hsub := HM.out
  go_enter Tryz.func101, Tryz.ntmps101
  go_upto_region 1 with fail
  refine wp_world HW.out ?_
  go_upto_region 2 with fail
  cases d with
  | true =>
    go_wp2
    go_ret
    exact ⟨by rw [HS.out, B_app]; rfl, HB.out⟩
  | false =>
    go_wp2
    go_ret
    exact ⟨by rw [HS.out, if_neg (by simp), List.append_nil]; rfl, HB.out⟩
end Go.Proofs.YtngehkmdanhgpaaGreat.Pl
