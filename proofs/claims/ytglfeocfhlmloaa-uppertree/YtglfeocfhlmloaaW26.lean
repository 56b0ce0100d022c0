/-
  An upper branch by what is there: Put, Drop, Count, Size, Over; awake. The reference's In, by states. The walk of Node: the node that plain data mean. Plain facts on a right node's bytes, and what comes in with a Raw in later worlds. The walk of the reference's Encode. Fields are written: what is no row of bytes stays. The walk of Encode.
-/
import Derived.Lib.AppendZeros
import Derived.Deep.DrawnRows
import Derived.Laws.CopyOwn
import Derived.Deep.RegionLaw
import Derived.Laws.Tables
import Derived.Laws.BitsAllLaws
import Derived.Deep.CutRange
import Derived.Test.YtglfeocfhlmloaaW00
import Derived.Test.YtglfeocfhlmloaaW01
import Derived.Test.YtglfeocfhlmloaaW02
import Derived.Test.YtglfeocfhlmloaaW03
import Derived.Test.YtglfeocfhlmloaaW04
import Derived.Test.YtglfeocfhlmloaaW05
import Derived.Test.YtglfeocfhlmloaaW06
import Derived.Test.YtglfeocfhlmloaaW07
import Derived.Test.YtglfeocfhlmloaaW08
import Derived.Test.YtglfeocfhlmloaaW09
import Derived.Test.YtglfeocfhlmloaaW10
import Derived.Test.YtglfeocfhlmloaaW11
import Derived.Test.YtglfeocfhlmloaaW12
import Derived.Test.YtglfeocfhlmloaaW13
import Derived.Test.YtglfeocfhlmloaaW14
import Derived.Test.YtglfeocfhlmloaaW15
import Derived.Test.YtglfeocfhlmloaaW16
import Derived.Test.YtglfeocfhlmloaaW17
import Derived.Test.YtglfeocfhlmloaaW18
import Derived.Test.YtglfeocfhlmloaaW19
import Derived.Test.YtglfeocfhlmloaaW20
import Derived.Test.YtglfeocfhlmloaaW21
import Derived.Test.YtglfeocfhlmloaaW22
import Derived.Test.YtglfeocfhlmloaaW23
import Derived.Test.YtglfeocfhlmloaaW24
import Derived.Test.YtglfeocfhlmloaaW25
namespace Go.Proofs.Ytglfeocfhlmloaa.Up
open Go.RowKit
open Vp (Str B bl Val cmpL parseS showS withinS IsPath checkS)
open Nd (Row wp_world post_Row2 grownBy_setCell below_of_grown)
def belowE (xs : List Str) (e : Ent) : Bool := decide (xs.length < e.names.length) && withinS e.names xs
theorem belowB_ent (xs : List Str) (L : List Spot) : (L.filter (belowB xs)).map Spot.ent = (L.map Spot.ent).filter (belowE xs) := by
  rw [List.filter_map]
  rfl
def outE (xs : List Str) (e : Ent) : Bool := !withinS e.names xs
theorem out_ent (xs : List Str) (L : List Spot) : (L.filter (outX xs)).map Spot.ent = (L.map Spot.ent).filter (outE xs) := by
  rw [List.filter_map]
  rfl
def dirA (A : List Ent) (xs : List Str) : Int := if xs = [] then 0 else match entAt A xs with | none => 4 | some s => if s.kind = 2 then 0 else 70
def hasA (A : List Ent) (xs : List Str) : Bool := decide (0 < (A.filter (belowE xs)).length)
def placeA (A : List Ent) (xs : List Str) (k : Int) : Int := if dirA A xs.dropLast ≠ 0 then dirA A xs.dropLast else if (entAt A xs).isSome = true then (if k = 2 then 0 else if hasA A xs then 130 else 0) else if 1024 ≤ A.length then 8 else 0
def putEA (A : List Ent) (p : ByteArray) (k : Int) (q : Bool) (d : ByteArray) : Int := if errOf p ≠ 0 then errOf p else if nmsOf p = [] then 132 else if formE k q d ≠ 0 then formE k q d else placeA A (nmsOf p) k
theorem dir_ent (L : List Spot) (xs : List Str) : dirE L xs = dirA (L.map Spot.ent) xs := by
  unfold dirE dirA
  rw [← spotAt_ent]
  cases spotAt L xs <;> rfl
theorem has_ent (L : List Spot) (xs : List Str) : hasB L xs = hasA (L.map Spot.ent) xs := by
  unfold hasB hasA
  rw [← belowB_ent, List.length_map]
theorem place_ent (L : List Spot) (xs : List Str) (k : Int) : placeE L xs k = placeA (L.map Spot.ent) xs k := by
  unfold placeE placeA
  rw [dir_ent, has_ent, ← spotAt_ent, List.length_map]
  cases spotAt L xs <;> rfl
theorem putE_ent (L : List Spot) (p : ByteArray) (k : Int) (q : Bool) (d : ByteArray) : putE L p k q d = putEA (L.map Spot.ent) p k q d := by
  unfold putE putEA
  rw [place_ent]
/-- an upper branch, by what is there -/
def FsA (w : World) (g m : Nat) (N Z : Int) (A : List Ent) : Prop := ∃ L, Fs w g m N Z L ∧ L.map Spot.ent = A
theorem FsA.below {w w' : World} {g m : Nat} {N Z : Int} {A : List Ent} (h : FsA w g m N Z A) (k : Below w.heap.size w w') : FsA w' g m N Z A := by
  obtain ⟨L, h1, h2⟩ := h
  exact ⟨L, h1.below k, h2⟩
def putU (A : List Ent) (p : ByteArray) (k : Int) (q : Bool) (d : ByteArray) : List Ent := if putEA A p k q d = 0 then putA A ⟨nmsOf p, k, q, d⟩ else A
theorem w_put {w : World} {g m : Nat} {N Z : Int} {A : List Ent} (h : FsA w g m N Z A) (hn : A.length ≤ 100000) (p : ByteArray) (k : Int) (q : Bool) (d : ByteArray) (hs : p.size ≤ 9223372036854775807) :
    Calls Try.prog 21 #[.pointer (some ⟨g, 0, none⟩), .agg #[.string p, .int .i64 k, .bool q, .string d]] w fun e w' => e = .returned (.int .i64 (putEA A p k q d)) ∧ FsA w' g m N Z (putU A p k q d) ∧ w.grownBy w' (some m) := by
  obtain ⟨L, h1, rfl⟩ := h
  refine (put_any h1 (by simpa using hn) p k q d hs).mono ?_
  rintro e w' ⟨rfl, hp, hg⟩
  rw [putE_ent] at *
  refine ⟨rfl, ?_, hg⟩
  unfold putU
  rcases hp with ⟨hne, hF⟩ | ⟨he, v, hF⟩
  · rw [putE_ent] at hne
    rw [if_neg hne]
    exact ⟨L, hF, rfl⟩
  · rw [putE_ent] at he
    rw [if_pos he]
    exact ⟨_, hF, putP_ent _ _⟩
theorem w_drop {w : World} {g m : Nat} {N Z : Int} {A : List Ent} (h : FsA w g m N Z A) (hn : A.length ≤ 100000) {nv : Value} {xs : List Str} (hv : Val w nv xs) :
    Calls Try.prog 20 #[.pointer (some ⟨g, 0, none⟩), nv] w fun e w' => e = .returned (.int .i64 ((A.length : Int) - ((A.filter (outE xs)).length : Int))) ∧ FsA w' g m N Z (A.filter (outE xs)) ∧ w.grownBy w' (some m) := by
  obtain ⟨L, h1, rfl⟩ := h
  refine (drop_any h1 hv (by simpa using hn)).mono ?_
  rintro e w' ⟨rfl, hF, hg⟩
  rw [← out_ent, List.length_map, List.length_map]
  exact ⟨rfl, ⟨_, hF, rfl⟩, hg⟩
theorem w_count {w : World} {g m : Nat} {N Z : Int} {A : List Ent} (h : FsA w g m N Z A) : Calls Try.prog 22 #[.pointer (some ⟨g, 0, none⟩)] w fun e w' => e = .returned (.int .i64 (A.length : Int)) ∧ w' = w := by
  obtain ⟨L, h1, rfl⟩ := h
  rw [List.length_map]
  exact count_any h1
def sumA (A : List Ent) : Nat := (A.map (fun e => e.data.size)).sum
theorem sum_ent (L : List Spot) : sumD L = sumA (L.map Spot.ent) := by
  unfold sumD sumA
  rw [List.map_map]
  rfl
def Small (A : List Ent) : Prop := ∀ e ∈ A, e.data.size ≤ 1024
theorem small_ent {L : List Spot} (h : Small (L.map Spot.ent)) : ∀ s ∈ L, s.data.size ≤ 1024 := fun s hs => h s.ent (List.mem_map.2 ⟨s, hs, rfl⟩)
theorem w_size {w : World} {g m : Nat} {N Z : Int} {A : List Ent} (h : FsA w g m N Z A) (hn : A.length ≤ 100000) (hS : Small A) : Calls Try.prog 23 #[.pointer (some ⟨g, 0, none⟩)] w fun e w' => e = .returned (.int .i64 (sumA A : Int)) ∧ Below w.heap.size w w' := by
  obtain ⟨L, h1, rfl⟩ := h
  rw [← sum_ent]
  exact size_any h1 (by simpa using hn) (small_ent hS)
def overA (N Z : Int) (A : List Ent) : Bool := decide (N < (A.length : Int) ∨ Z < (sumA A : Int))
theorem w_over {w : World} {g m : Nat} {N Z : Int} {A : List Ent} (h : FsA w g m N Z A) (hn : A.length ≤ 100000) (hS : Small A) : Calls Try.prog 24 #[.pointer (some ⟨g, 0, none⟩)] w fun e w' => e = .returned (.bool (overA N Z A)) ∧ Below w.heap.size w w' := by
  obtain ⟨L, h1, rfl⟩ := h
  unfold overA
  rw [← sum_ent, List.length_map]
  exact over_any h1 (by simpa using hn) (small_ent hS)
theorem form_small {k : Int} {q : Bool} {d : ByteArray} (h : formE k q d = 0) : d.size ≤ 1024 := by
  unfold formE at h
  split at h
  · rename_i h1; exact absurd h h1
  · split at h
    · cases h
    · omega
def pA : ByteArray := ⟨#[47, 97]⟩
def pAF : ByteArray := ⟨#[47, 97, 47, 102]⟩
def aw1 : List Ent := [⟨[[97]], 2, false, ⟨#[]⟩⟩]
def aw2 : List Ent := [⟨[[97]], 2, false, ⟨#[]⟩⟩, ⟨[[97], [102]], 1, false, ⟨#[104, 105]⟩⟩]
theorem aw_1 : putEA [] pA 2 false ⟨#[]⟩ = 0 ∧ putU [] pA 2 false ⟨#[]⟩ = aw1 := by decide +kernel
theorem aw_2 : putEA aw1 pAF 1 false ⟨#[104, 105]⟩ = 0 ∧ putU aw1 pAF 1 false ⟨#[104, 105]⟩ = aw2 := by decide +kernel
theorem aw_3 : putEA aw2 pA 3 false ⟨#[]⟩ = 130 ∧ putU aw2 pA 3 false ⟨#[]⟩ = aw2 := by decide +kernel
theorem aw_4 : aw2.length = 2 ∧ sumA aw2 = 2 ∧ overA 1 9 aw2 = true ∧ (∀ e ∈ aw2, e.data.size ≤ 1024) := by decide +kernel
set_option maxHeartbeats 2000000 in
set_option maxRecDepth 100000 in
theorem awake_any (w : World) : Calls Try.prog 7 #[] w fun e w' => e = .returned (.bool true) ∧ Below w.heap.size w w' := by
  have HNW := hid_in (new_ok 1 9 w (by unfold quotaOk; omega))
  have H1 := hid_in (fun W g m (k : FsA W g m 1 9 []) => w_put k (by simp) pA 2 false ⟨#[]⟩ (by decide))
  have H2 := hid_in (fun W g m (k : FsA W g m 1 9 aw1) => w_put k (by decide) pAF 1 false ⟨#[104, 105]⟩ (by decide))
  have H3 := hid_in (fun W g m (k : FsA W g m 1 9 aw2) => w_put k (by decide) pA 3 false ⟨#[]⟩ (by decide))
  have H4 := hid_in (fun W g m (k : FsA W g m 1 9 aw2) => w_count k)
  have H5 := hid_in (fun W g m (k : FsA W g m 1 9 aw2) => w_size k (by decide) aw_4.2.2.2)
  have H6 := hid_in (fun W g m (k : FsA W g m 1 9 aw2) => w_over k (by decide) aw_4.2.2.2)
  rw [aw_1.1, aw_1.2] at H1
  rw [aw_2.1, aw_2.2] at H2
  rw [aw_3.1, aw_3.2] at H3
  rw [aw_4.1] at H4
  rw [aw_4.2.1] at H5
  rw [aw_4.2.2.1] at H6
  simp only [pA, pAF] at H1 H2 H3
  generalize aw2 = A2 at *
  generalize aw1 = A1 at *
  go_enter Try.func7, Try.ntmps7
  go_upto_region 5 with (first | (go_at_call 9; refine HNW.out.mono ?_; rintro e w1 ⟨g, m, rfl, hf1, hb1, hm1⟩; have HF1 : Hid (FsA w1 g m 1 9 []) := hid_in ⟨[], hf1, rfl⟩; have HB1 := hid_in hb1; have HM := hid_in hm1; clear hf1 hb1 hm1) | (go_at_call 21; refine (H1.out _ _ _ HF1.out).mono ?_; rintro e w2 ⟨rfl, hf2, hg2⟩; have HF2 := hid_in hf2; have HB2 := hid_in (HB1.out.grown hg2 HB1.out.size (fun k e => by obtain rfl := Option.some.inj e; exact HM.out)); clear hf2 hg2))
  go_upto_region 6 with (go_at_call 21; refine (H2.out _ _ _ HF2.out).mono ?_; rintro e w3 ⟨rfl, hf3, hg3⟩; have HF3 := hid_in hf3; have HB3 := hid_in (HB2.out.grown hg3 HB2.out.size (fun k e => by obtain rfl := Option.some.inj e; exact HM.out)); clear hf3 hg3)
  go_upto_region 7 with (go_at_call 21; refine (H3.out _ _ _ HF3.out).mono ?_; rintro e w4 ⟨rfl, hf4, hg4⟩; have HF4 := hid_in hf4; have HB4 := hid_in (HB3.out.grown hg4 HB3.out.size (fun k e => by obtain rfl := Option.some.inj e; exact HM.out)); clear hf4 hg4)
  go_wp2_with (first | (go_at_call 22; refine (H4.out _ _ _ HF4.out).mono ?_; rintro e w5 ⟨rfl, hw5⟩; replace hw5 := hw5.symm; subst hw5) | (go_at_call 23; refine (H5.out _ _ _ HF4.out).mono ?_; rintro e w6 ⟨rfl, hb6⟩; have HF6 := hid_in (HF4.out.below hb6); have HB6 := hid_in (HB4.out.trans (hb6.mono HB4.out.size)); clear hb6) | (go_at_call 24; refine (H6.out _ _ _ HF6.out).mono ?_; rintro e w7 ⟨rfl, hb7⟩; have HB7 := hid_in (HB6.out.trans (hb7.mono HB6.out.size)); clear hb7))
  go_ret
  exact ⟨rfl, HB7.out⟩
end Go.Proofs.Ytglfeocfhlmloaa.Up
namespace Go.Proofs.Ytglfeocfhlmloaa.Nd
open Go.RowKit
def zs : List Value := [.int .i64 0, .string ⟨#[]⟩, .int .i64 0, .slice none 0 0, .slice none 0 0]
end Go.Proofs.Ytglfeocfhlmloaa.Nd
namespace Go.Proofs.Ytglfeocfhlmloaa.Nd
open Go.RowKit
/-- a slice of slices of bytes -/
def Bss (w : World) (v : Value) (ps : List (List Nat)) : Prop := ∃ p cap b o, v = .slice p ps.length cap ∧ ps.length ≤ cap ∧ cap ≤ 9223372036854775807 ∧ (ps ≠ [] → p = some ⟨b, o, none⟩ ∧ b < w.heap.size) ∧ ∀ (i : Nat) bs, ps[i]? = some bs → ∃ q c b' o', w.cell? ⟨b, o + i, none⟩ = some (.slice q bs.length c) ∧ Sl w q bs c b' o'
/-- a slice of texts -/
def Strs (w : World) (v : Value) (ns : List ByteArray) : Prop := ∃ p cap b o, v = .slice p ns.length cap ∧ ns.length ≤ cap ∧ cap ≤ 9223372036854775807 ∧ (ns ≠ [] → p = some ⟨b, o, none⟩ ∧ b < w.heap.size) ∧ ∀ (i : Nat) s, ns[i]? = some s → w.cell? ⟨b, o + i, none⟩ = some (.string s)
/-- a slice of numbers -/
def Ints (w : World) (v : Value) (ks : List Int) : Prop := ∃ p cap b o, v = .slice p ks.length cap ∧ ks.length ≤ cap ∧ cap ≤ 9223372036854775807 ∧ (ks ≠ [] → p = some ⟨b, o, none⟩ ∧ b < w.heap.size) ∧ ∀ (i : Nat) k, ks[i]? = some k → w.cell? ⟨b, o + i, none⟩ = some (.int .i64 k)
theorem Bss.lt {w : World} {v : Value} {ps : List (List Nat)} (h : Bss w v ps) : ∀ bs ∈ ps, ∀ x ∈ bs, x < 256 := by
  obtain ⟨p, cap, b, o, _, _, _, _, hat⟩ := h
  intro bs hbs
  obtain ⟨i, hi, rfl⟩ := List.getElem_of_mem hbs
  obtain ⟨q, c, b', o', _, hs⟩ := hat i _ (List.getElem?_eq_getElem hi)
  exact hs.lt
end Go.Proofs.Ytglfeocfhlmloaa.Nd
namespace Go.Proofs.Ytglfeocfhlmloaa.Nd
open Go.RowKit
theorem flat_len {α : Type} (f : α → List Nat) (c : Nat) : ∀ (l : List α), (∀ x ∈ l, (f x).length ≤ c) → (l.flatMap f).length ≤ l.length * c
  | [], _ => by simp
  | x :: r, h => by
    have h1 := flat_len f c r (fun y hy => h y (by simp [hy]))
    have h2 := h x (by simp)
    simp only [List.flatMap_cons, List.length_append, List.length_cons, Nat.add_mul, Nat.one_mul]
    omega
theorem Bss.below {w w' : World} {v : Value} {ps : List (List Nat)} (h : Bss w v ps) (hb : Below w.heap.size w w') : Bss w' v ps := by
  obtain ⟨p, cap, b, o, rfl, h1, h2, h3, hat⟩ := h
  refine ⟨p, cap, b, o, rfl, h1, h2, fun hne => ⟨(h3 hne).1, Nat.lt_of_lt_of_le (h3 hne).2 hb.size⟩, fun i bs hi => ?_⟩
  obtain ⟨q, c, b', o', hc, hs⟩ := hat i bs hi
  exact ⟨q, c, b', o', (hb.cell (p := ⟨b, o + i, none⟩) (World.block_lt_of_cell? w _ hc)).trans hc, hs.below hb⟩
theorem Strs.below {w w' : World} {v : Value} {ns : List ByteArray} (h : Strs w v ns) (hb : Below w.heap.size w w') : Strs w' v ns := by
  obtain ⟨p, cap, b, o, rfl, h1, h2, h3, hat⟩ := h
  exact ⟨p, cap, b, o, rfl, h1, h2, fun hne => ⟨(h3 hne).1, Nat.lt_of_lt_of_le (h3 hne).2 hb.size⟩, fun i s hi => (hb.cell (p := ⟨b, o + i, none⟩) (World.block_lt_of_cell? w _ (hat i s hi))).trans (hat i s hi)⟩
theorem Ints.below {w w' : World} {v : Value} {ks : List Int} (h : Ints w v ks) (hb : Below w.heap.size w w') : Ints w' v ks := by
  obtain ⟨p, cap, b, o, rfl, h1, h2, h3, hat⟩ := h
  exact ⟨p, cap, b, o, rfl, h1, h2, fun hne => ⟨(h3 hne).1, Nat.lt_of_lt_of_le (h3 hne).2 hb.size⟩, fun i s hi => (hb.cell (p := ⟨b, o + i, none⟩) (World.block_lt_of_cell? w _ (hat i s hi))).trans (hat i s hi)⟩
end Go.Proofs.Ytglfeocfhlmloaa.Nd
namespace Go.Proofs.Ytglfeocfhlmloaa.Nd
open Go.RowKit
/-- bytes that the call itself gathers -/
structure RE (W0 W : World) (v : Value) (xs : List Nat) : Prop where
  own : W.ownsRow W0.heap.size 5 1 v xs.length (xs.map u8v)
  bel : Below W0.heap.size W0 W
theorem RE.below {W0 W W' : World} {v : Value} {xs : List Nat} (h : RE W0 W v xs) (hb : Below W.heap.size W W') : RE W0 W' v xs := ⟨own_belowK h.own hb, h.bel.trans (hb.mono h.bel.size)⟩
theorem RE.more {W0 W W' : World} {v v' : Value} {xs ys : List Nat} (h : RE W0 W v xs) (ho : W'.ownsRow W0.heap.size 5 1 v' (xs ++ ys).length ((xs ++ ys).map u8v)) (hg : W.grownBy W' v.ownBlock) : RE W0 W' v' (xs ++ ys) := ⟨ho, own_step h.bel hg h.bel.size rfl h.own⟩
theorem RE.row {W0 W : World} {v : Value} {xs : List Nat} (h : RE W0 W v xs) {g : Nat} {vs : List Value} {t : TypeId} (hr : Row W0 g vs t) : Row W g vs t := hr.below h.bel hr.lt
end Go.Proofs.Ytglfeocfhlmloaa.Nd
namespace Go.Proofs.Ytglfeocfhlmloaa.Up
open Go.RowKit
open Vp (Str B bl Val cmpL parseS showS withinS IsPath checkS)
open Nd (Row wp_world post_Row2 grownBy_setCell below_of_grown OutIs OutB Grew bytesS)
/-- rows that are neither bytes nor an Out stay -/
def Keeps (w w' : World) : Prop := ∀ (b : Nat) (cs : Array Value) (t : TypeId) (fr : Nat × Nat), w.heap[b]? = some (.cells cs t fr) → t ≠ 5 → t ≠ 72 → w'.heap[b]? = some (.cells cs t fr)
theorem Keeps.trans {a b c : World} (h : Keeps a b) (k : Keeps b c) : Keeps a c := fun x cs t fr e h5 h72 => k x cs t fr (h x cs t fr e h5 h72) h5 h72
theorem Keeps.row {w w' : World} (h : Keeps w w') {b : Nat} {vs : List Value} {t : TypeId} (hr : Row w b vs t) (h5 : t ≠ 5) (h72 : t ≠ 72) : Row w' b vs t := by
  unfold Row at *
  exact h b _ t _ hr h5 h72
end Go.Proofs.Ytglfeocfhlmloaa.Up
namespace Go.Proofs.Ytglfeocfhlmloaa.Up
open Go.RowKit
open Vp (Str B bl Val cmpL parseS showS withinS IsPath checkS)
open Nd (Row wp_world post_Row2 grownBy_setCell below_of_grown OutIs OutB Grew bytesS u8v)
/-- the inodes in their order -/
def Ordered (L sp : List Spot) : Prop := sp.Perm (L.filter (belowB [])) ∧ sp.Pairwise (fun s t => ¬ cmpL t.names s.names < 0)
theorem list_o {w : World} {g m : Nat} {N Z : Int} {L : List Spot} (h : Fs w g m N Z L) (hn : L.length ≤ 100000) :
    Calls Try.prog 16 #[.pointer (some ⟨g, 0, none⟩), .slice none 0 0] w fun e w' => ∃ sp lb vs, e = .returned (.slice (some ⟨lb, 0, none⟩) sp.length sp.length) ∧ Hid (Fls w' (.slice (some ⟨lb, 0, none⟩) sp.length sp.length) (sp.map Spot.fil)) ∧ Ordered L sp ∧ Row w' lb vs 36 ∧ Below w.heap.size w w' := by
  refine (list_any h (Vp.Val.none w) hn).mono ?_
  rintro e w' ⟨v, sp, rfl, hf, hp, ho, _, hb, lb, rfl, vs, hr⟩
  exact ⟨sp, lb, vs, rfl, hf, ⟨hp, ho⟩, hr, hb⟩
end Go.Proofs.Ytglfeocfhlmloaa.Up
