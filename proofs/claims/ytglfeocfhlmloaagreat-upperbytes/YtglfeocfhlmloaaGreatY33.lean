/-
  An upper branch by what is there: Put, Drop, Count, Size, Over; awake. Fields are written: what is no row of bytes stays.
-/
import Derived.Laws.CopyOwn
import Derived.Deep.RegionLaw
import Derived.Deep.DrawnRows
import Derived.Laws.Tables
import Derived.Deep.CutRange
import Derived.Test.YtglfeocfhlmloaaGreatY00
import Derived.Test.YtglfeocfhlmloaaGreatY01
import Derived.Test.YtglfeocfhlmloaaGreatY02
import Derived.Test.YtglfeocfhlmloaaGreatY03
import Derived.Test.YtglfeocfhlmloaaGreatY04
import Derived.Test.YtglfeocfhlmloaaGreatY05
import Derived.Test.YtglfeocfhlmloaaGreatY06
import Derived.Test.YtglfeocfhlmloaaGreatY07
import Derived.Test.YtglfeocfhlmloaaGreatY08
import Derived.Test.YtglfeocfhlmloaaGreatY09
import Derived.Test.YtglfeocfhlmloaaGreatY10
import Derived.Test.YtglfeocfhlmloaaGreatY11
import Derived.Test.YtglfeocfhlmloaaGreatY12
import Derived.Test.YtglfeocfhlmloaaGreatY13
import Derived.Test.YtglfeocfhlmloaaGreatY14
import Derived.Test.YtglfeocfhlmloaaGreatY15
import Derived.Test.YtglfeocfhlmloaaGreatY16
import Derived.Test.YtglfeocfhlmloaaGreatY17
import Derived.Test.YtglfeocfhlmloaaGreatY18
import Derived.Test.YtglfeocfhlmloaaGreatY19
import Derived.Test.YtglfeocfhlmloaaGreatY20
import Derived.Test.YtglfeocfhlmloaaGreatY21
import Derived.Test.YtglfeocfhlmloaaGreatY22
import Derived.Test.YtglfeocfhlmloaaGreatY23
import Derived.Test.YtglfeocfhlmloaaGreatY24
import Derived.Test.YtglfeocfhlmloaaGreatY25
import Derived.Test.YtglfeocfhlmloaaGreatY26
import Derived.Test.YtglfeocfhlmloaaGreatY27
import Derived.Test.YtglfeocfhlmloaaGreatY28
import Derived.Test.YtglfeocfhlmloaaGreatY29
import Derived.Test.YtglfeocfhlmloaaGreatY30
import Derived.Test.YtglfeocfhlmloaaGreatY31
import Derived.Test.YtglfeocfhlmloaaGreatY32
namespace Go.Proofs.YtglfeocfhlmloaaGreat.Up
open Go.RowKit
open Vp (Str B bl Val cmpL parseS showS withinS IsPath checkS)
open Nd (Row wp_world post_Row post_Row2 grownBy_setCell below_of_grown)
def belowE (xs : List Str) (e : Ent) : Bool := decide (xs.length < e.names.length) && withinS e.names xs
theorem belowB_ent (xs : List Str) (L : List Spot) : (L.filter (belowB xs)).map Spot.ent = (L.map Spot.ent).filter (belowE xs) := by
  rw [List.filter_map]
  rfl
def outE (xs : List Str) (e : Ent) : Bool := !withinS e.names xs
theorem out_ent (xs : List Str) (L : List Spot) : (L.filter (outX xs)).map Spot.ent = (L.map Spot.ent).filter (outE xs) := by
  rw [List.filter_map]
  rfl
def dirA (A : List Ent) (xs : List Str) : Int := if xs = [] then 0 else match entAt A xs with | none => 4 | some s => if s.kind = 2 then 0 else 70
def hasA (A : List Ent) (xs : List Str) : Bool := decide (0 < (A.filter (belowE xs)).length)
def placeA (A : List Ent) (xs : List Str) (k : Int) : Int := if dirA A xs.dropLast ≠ 0 then dirA A xs.dropLast else if (entAt A xs).isSome = true then (if k = 2 then 0 else if hasA A xs then 130 else 0) else if 1024 ≤ A.length then 8 else 0
def putEA (A : List Ent) (p : ByteArray) (k : Int) (q : Bool) (d : ByteArray) : Int := if errOf p ≠ 0 then errOf p else if nmsOf p = [] then 132 else if formE k q d ≠ 0 then formE k q d else placeA A (nmsOf p) k
theorem dir_ent (L : List Spot) (xs : List Str) : dirE L xs = dirA (L.map Spot.ent) xs := by
  unfold dirE dirA
  rw [← spotAt_ent]
  cases spotAt L xs <;> rfl
theorem has_ent (L : List Spot) (xs : List Str) : hasB L xs = hasA (L.map Spot.ent) xs := by
  unfold hasB hasA
  rw [← belowB_ent, List.length_map]
theorem place_ent (L : List Spot) (xs : List Str) (k : Int) : placeE L xs k = placeA (L.map Spot.ent) xs k := by
  unfold placeE placeA
  rw [dir_ent, has_ent, ← spotAt_ent, List.length_map]
  cases spotAt L xs <;> rfl
theorem putE_ent (L : List Spot) (p : ByteArray) (k : Int) (q : Bool) (d : ByteArray) : putE L p k q d = putEA (L.map Spot.ent) p k q d := by
  unfold putE putEA
  rw [place_ent]
/-- an upper branch, by what is there -/
def FsA (w : World) (g m : Nat) (N Z : Int) (A : List Ent) : Prop := ∃ L, Fs w g m N Z L ∧ L.map Spot.ent = A
theorem FsA.below {w w' : World} {g m : Nat} {N Z : Int} {A : List Ent} (h : FsA w g m N Z A) (k : Below w.heap.size w w') : FsA w' g m N Z A := by
  obtain ⟨L, h1, h2⟩ := h
  exact ⟨L, h1.below k, h2⟩
def putU (A : List Ent) (p : ByteArray) (k : Int) (q : Bool) (d : ByteArray) : List Ent := if putEA A p k q d = 0 then putA A ⟨nmsOf p, k, q, d⟩ else A
theorem w_put {w : World} {g m : Nat} {N Z : Int} {A : List Ent} (h : FsA w g m N Z A) (hn : A.length ≤ 100000) (p : ByteArray) (k : Int) (q : Bool) (d : ByteArray) (hs : p.size ≤ 9223372036854775807) :
    Calls Tryz.prog 14 #[.pointer (some ⟨g, 0, none⟩), .agg #[.string p, .int .i64 k, .bool q, .string d]] w fun e w' => e = .returned (.int .i64 (putEA A p k q d)) ∧ FsA w' g m N Z (putU A p k q d) ∧ w.grownBy w' (some m) := by
  obtain ⟨L, h1, rfl⟩ := h
  refine (put_any h1 (by simpa using hn) p k q d hs).mono ?_
  rintro e w' ⟨rfl, hp, hg⟩
  rw [putE_ent] at *
  refine ⟨rfl, ?_, hg⟩
  unfold putU
  rcases hp with ⟨hne, hF⟩ | ⟨he, v, hF⟩
  · rw [putE_ent] at hne
    rw [if_neg hne]
    exact ⟨L, hF, rfl⟩
  · rw [putE_ent] at he
    rw [if_pos he]
    exact ⟨_, hF, putP_ent _ _⟩
theorem w_drop {w : World} {g m : Nat} {N Z : Int} {A : List Ent} (h : FsA w g m N Z A) (hn : A.length ≤ 100000) {nv : Value} {xs : List Str} (hv : Val w nv xs) :
    Calls Tryz.prog 18 #[.pointer (some ⟨g, 0, none⟩), nv] w fun e w' => e = .returned (.int .i64 ((A.length : Int) - ((A.filter (outE xs)).length : Int))) ∧ FsA w' g m N Z (A.filter (outE xs)) ∧ w.grownBy w' (some m) := by
  obtain ⟨L, h1, rfl⟩ := h
  refine (drop_any h1 hv (by simpa using hn)).mono ?_
  rintro e w' ⟨rfl, hF, hg⟩
  rw [← out_ent, List.length_map, List.length_map]
  exact ⟨rfl, ⟨_, hF, rfl⟩, hg⟩
theorem w_count {w : World} {g m : Nat} {N Z : Int} {A : List Ent} (h : FsA w g m N Z A) : Calls Tryz.prog 15 #[.pointer (some ⟨g, 0, none⟩)] w fun e w' => e = .returned (.int .i64 (A.length : Int)) ∧ w' = w := by
  obtain ⟨L, h1, rfl⟩ := h
  rw [List.length_map]
  exact count_any h1
def sumA (A : List Ent) : Nat := (A.map (fun e => e.data.size)).sum
theorem sum_ent (L : List Spot) : sumD L = sumA (L.map Spot.ent) := by
  unfold sumD sumA
  rw [List.map_map]
  rfl
def Small (A : List Ent) : Prop := ∀ e ∈ A, e.data.size ≤ 1024
theorem small_ent {L : List Spot} (h : Small (L.map Spot.ent)) : ∀ s ∈ L, s.data.size ≤ 1024 := fun s hs => h s.ent (List.mem_map.2 ⟨s, hs, rfl⟩)
theorem w_size {w : World} {g m : Nat} {N Z : Int} {A : List Ent} (h : FsA w g m N Z A) (hn : A.length ≤ 100000) (hS : Small A) : Calls Tryz.prog 16 #[.pointer (some ⟨g, 0, none⟩)] w fun e w' => e = .returned (.int .i64 (sumA A : Int)) ∧ Below w.heap.size w w' := by
  obtain ⟨L, h1, rfl⟩ := h
  rw [← sum_ent]
  exact size_any h1 (by simpa using hn) (small_ent hS)
def overA (N Z : Int) (A : List Ent) : Bool := decide (N < (A.length : Int) ∨ Z < (sumA A : Int))
theorem w_over {w : World} {g m : Nat} {N Z : Int} {A : List Ent} (h : FsA w g m N Z A) (hn : A.length ≤ 100000) (hS : Small A) : Calls Tryz.prog 17 #[.pointer (some ⟨g, 0, none⟩)] w fun e w' => e = .returned (.bool (overA N Z A)) ∧ Below w.heap.size w w' := by
  obtain ⟨L, h1, rfl⟩ := h
  unfold overA
  rw [← sum_ent, List.length_map]
  exact over_any h1 (by simpa using hn) (small_ent hS)
theorem form_small {k : Int} {q : Bool} {d : ByteArray} (h : formE k q d = 0) : d.size ≤ 1024 := by
  unfold formE at h
  split at h
  · rename_i h1; exact absurd h h1
  · split at h
    · cases h
    · omega
theorem putA_len : ∀ (A : List Ent) (e : Ent), (putA A e).length ≤ A.length + 1
  | [], e => by simp [putA]
  | a :: r, e => by
    simp only [putA]
    split
    · simp
    · have := putA_len r e
      simp only [List.length_cons]
      omega
theorem putU_len (A : List Ent) (p : ByteArray) (k : Int) (q : Bool) (d : ByteArray) : (putU A p k q d).length ≤ A.length + 1 := by
  unfold putU
  split
  · exact putA_len _ _
  · omega
def pA : ByteArray := ⟨#[47, 97]⟩
def pAF : ByteArray := ⟨#[47, 97, 47, 102]⟩
def aw1 : List Ent := [⟨[[97]], 2, false, ⟨#[]⟩⟩]
def aw2 : List Ent := [⟨[[97]], 2, false, ⟨#[]⟩⟩, ⟨[[97], [102]], 1, false, ⟨#[104, 105]⟩⟩]
theorem aw_1 : putEA [] pA 2 false ⟨#[]⟩ = 0 ∧ putU [] pA 2 false ⟨#[]⟩ = aw1 := by decide +kernel
theorem aw_2 : putEA aw1 pAF 1 false ⟨#[104, 105]⟩ = 0 ∧ putU aw1 pAF 1 false ⟨#[104, 105]⟩ = aw2 := by decide +kernel
theorem aw_3 : putEA aw2 pA 3 false ⟨#[]⟩ = 130 ∧ putU aw2 pA 3 false ⟨#[]⟩ = aw2 := by decide +kernel
theorem aw_4 : aw2.length = 2 ∧ sumA aw2 = 2 ∧ overA 1 9 aw2 = true ∧ (∀ e ∈ aw2, e.data.size ≤ 1024) := by decide +kernel
set_option maxHeartbeats 2000000 in
set_option maxRecDepth 100000 in
theorem awake_any (w : World) : Calls Tryz.prog 4 #[] w fun e w' => e = .returned (.bool true) ∧ Below w.heap.size w w' := by
  have HNW := hid_in (new_ok 1 9 w (by unfold quotaOk; omega))
  have H1 := hid_in (fun W g m (k : FsA W g m 1 9 []) => w_put k (by simp) pA 2 false ⟨#[]⟩ (by decide))
  have H2 := hid_in (fun W g m (k : FsA W g m 1 9 aw1) => w_put k (by decide) pAF 1 false ⟨#[104, 105]⟩ (by decide))
  have H3 := hid_in (fun W g m (k : FsA W g m 1 9 aw2) => w_put k (by decide) pA 3 false ⟨#[]⟩ (by decide))
  have H4 := hid_in (fun W g m (k : FsA W g m 1 9 aw2) => w_count k)
  have H5 := hid_in (fun W g m (k : FsA W g m 1 9 aw2) => w_size k (by decide) aw_4.2.2.2)
  have H6 := hid_in (fun W g m (k : FsA W g m 1 9 aw2) => w_over k (by decide) aw_4.2.2.2)
  rw [aw_1.1, aw_1.2] at H1
  rw [aw_2.1, aw_2.2] at H2
  rw [aw_3.1, aw_3.2] at H3
  rw [aw_4.1] at H4
  rw [aw_4.2.1] at H5
  rw [aw_4.2.2.1] at H6
  simp only [pA, pAF] at H1 H2 H3
  generalize aw2 = A2 at *
  generalize aw1 = A1 at *
  go_enter Tryz.func4, Tryz.ntmps4
  go_upto_region 5 with (first | (go_at_call 6; refine HNW.out.mono ?_; rintro e w1 ⟨g, m, rfl, hf1, hb1, hm1⟩; have HF1 : Hid (FsA w1 g m 1 9 []) := hid_in ⟨[], hf1, rfl⟩; have HB1 := hid_in hb1; have HM := hid_in hm1; clear hf1 hb1 hm1) | (go_at_call 14; refine (H1.out _ _ _ HF1.out).mono ?_; rintro e w2 ⟨rfl, hf2, hg2⟩; have HF2 := hid_in hf2; have HB2 := hid_in (HB1.out.grown hg2 HB1.out.size (fun k e => by obtain rfl := Option.some.inj e; exact HM.out)); clear hf2 hg2))
  go_upto_region 6 with (go_at_call 14; refine (H2.out _ _ _ HF2.out).mono ?_; rintro e w3 ⟨rfl, hf3, hg3⟩; have HF3 := hid_in hf3; have HB3 := hid_in (HB2.out.grown hg3 HB2.out.size (fun k e => by obtain rfl := Option.some.inj e; exact HM.out)); clear hf3 hg3)
  go_upto_region 7 with (go_at_call 14; refine (H3.out _ _ _ HF3.out).mono ?_; rintro e w4 ⟨rfl, hf4, hg4⟩; have HF4 := hid_in hf4; have HB4 := hid_in (HB3.out.grown hg4 HB3.out.size (fun k e => by obtain rfl := Option.some.inj e; exact HM.out)); clear hf4 hg4)
  go_wp2_with (first | (go_at_call 15; refine (H4.out _ _ _ HF4.out).mono ?_; rintro e w5 ⟨rfl, hw5⟩; replace hw5 := hw5.symm; subst hw5) | (go_at_call 16; refine (H5.out _ _ _ HF4.out).mono ?_; rintro e w6 ⟨rfl, hb6⟩; have HF6 := hid_in (HF4.out.below hb6); have HB6 := hid_in (HB4.out.trans (hb6.mono HB4.out.size)); clear hb6) | (go_at_call 17; refine (H6.out _ _ _ HF6.out).mono ?_; rintro e w7 ⟨rfl, hb7⟩; have HB7 := hid_in (HB6.out.trans (hb7.mono HB6.out.size)); clear hb7))
  go_ret
  exact ⟨rfl, HB7.out⟩
end Go.Proofs.YtglfeocfhlmloaaGreat.Up
namespace Go.Proofs.YtglfeocfhlmloaaGreat.Up
open Go.RowKit
open Vp (Str B bl Val cmpL parseS showS withinS IsPath checkS)
open Nd (Row wp_world post_Row post_Row2 grownBy_setCell below_of_grown OutIs OutB OutS Grew bytesS)
/-- rows that are neither bytes nor an Out stay -/
def Keeps (w w' : World) : Prop := ∀ (b : Nat) (cs : Array Value) (t : TypeId) (fr : Nat × Nat), w.heap[b]? = some (.cells cs t fr) → t ≠ 5 → t ≠ 56 → w'.heap[b]? = some (.cells cs t fr)
theorem Keeps.trans {a b c : World} (h : Keeps a b) (k : Keeps b c) : Keeps a c := fun x cs t fr e h5 h72 => k x cs t fr (h x cs t fr e h5 h72) h5 h72
theorem Keeps.row {w w' : World} (h : Keeps w w') {b : Nat} {vs : List Value} {t : TypeId} (hr : Row w b vs t) (h5 : t ≠ 5) (h72 : t ≠ 56) : Row w' b vs t := by
  unfold Row at *
  exact h b _ t _ hr h5 h72
theorem out_keeps {w w' : World} {B g : Nat} {v : Value} {xs : List Nat} (hv : OutIs w B g v xs) (h : Grew w w' (OutS g v)) : Keeps w w' := fun b cs t fr e h5 h72 => by
  rw [h.block b (Array.getElem?_eq_some_iff.1 e).1 (fun hS => ?_), e]
  rcases hS with rfl | hS
  · have hr := hv.row
    unfold Row at hr
    rw [hr] at e
    cases e
    exact h72 rfl
  · obtain ⟨_, ⟨rfl, _⟩ | ⟨g', cap, cur, rfl, _, hh, _⟩⟩ := hv.own
    · cases hS
    · have e2 : b = g' := by simpa [Value.ownBlock] using hS
      subst e2
      rw [hh] at e
      cases e
      exact h5 rfl
theorem num_k (w : World) (B g : Nat) (xs : List Nat) (n : Nat) (hn : n < 18446744073709551616) (hg : B ≤ g) (ho : OutB w B g xs) (hl : xs.length + 10 ≤ 140737488355328) :
    Calls Tryz.prog 21 #[.pointer (some ⟨g, 0, none⟩), .int .u64 (n : Int)] w fun e w' => e = .returned (.tuple #[]) ∧ OutB w' B g (xs ++ Nd.Wire.num n) ∧ Below B w w' ∧ Keeps w w' := by
  obtain ⟨v, hv⟩ := ho
  refine (Nd.onum_any w B g v xs n hn hv hl).mono ?_
  rintro e w' ⟨rfl, v', h1, h2, _⟩
  exact ⟨rfl, ⟨v', h1⟩, Nd.out_below hg hv h2, out_keeps hv h2⟩
theorem text_k (w : World) (B g : Nat) (xs : List Nat) (s : ByteArray) (hg : B ≤ g) (ho : OutB w B g xs) (hl : xs.length + 10 + s.size ≤ 140737488355328) :
    Calls Tryz.prog 23 #[.pointer (some ⟨g, 0, none⟩), .string s] w fun e w' => e = .returned (.tuple #[]) ∧ OutB w' B g (xs ++ (Nd.Wire.num s.size ++ bytesS s)) ∧ Below B w w' ∧ Keeps w w' := by
  obtain ⟨v, hv⟩ := ho
  refine (Nd.otext_any w B g v xs s hv hl).mono ?_
  rintro e w' ⟨rfl, v', h1, h2, _⟩
  exact ⟨rfl, ⟨v', h1⟩, Nd.out_below hg hv h2, out_keeps hv h2⟩
theorem flag_k (w : World) (B g : Nat) (xs : List Nat) (f : Bool) (hg : B ≤ g) (ho : OutB w B g xs) (hl : xs.length + 1 ≤ 140737488355328) :
    Calls Tryz.prog 24 #[.pointer (some ⟨g, 0, none⟩), .bool f] w fun e w' => e = .returned (.tuple #[]) ∧ OutB w' B g (xs ++ [if f then 1 else 0]) ∧ Below B w w' ∧ Keeps w w' := by
  obtain ⟨v, hv⟩ := ho
  refine (Nd.oflag_any w B g v xs f hv hl).mono ?_
  rintro e w' ⟨rfl, v', h1, h2, _⟩
  exact ⟨rfl, ⟨v', h1⟩, Nd.out_below hg hv h2, out_keeps hv h2⟩
/-- an inode's bytes -/
def encI (f : Fil) : List Nat := (((Nd.Wire.num f.path.size ++ bytesS f.path) ++ Nd.Wire.num f.kind.toNat) ++ [if f.opq then 1 else 0]) ++ (Nd.Wire.num f.data.size ++ bytesS f.data)
/-- the bytes of an upper branch -/
def encU (N Z k : Nat) (fs : List Fil) : List Nat := ((Nd.Wire.num N ++ Nd.Wire.num Z) ++ Nd.Wire.num k) ++ fs.flatMap encI
theorem encI_len (f : Fil) (hp : f.path.size ≤ 200) (hd : f.data.size ≤ 1024) : (encI f).length ≤ 1300 := by
  have h1 := Nd.num_length f.path.size
  have h2 := Nd.num_length f.kind.toNat
  have h3 := Nd.num_length f.data.size
  have h4 : ∀ s : ByteArray, (bytesS s).length = s.size := fun s => Nd.bytesS_length s
  unfold encI
  simp only [List.length_append, h4, List.length_cons, List.length_nil]
  omega
theorem encs_len (fs : List Fil) (hp : ∀ f ∈ fs, f.path.size ≤ 200) (hd : ∀ f ∈ fs, f.data.size ≤ 1024) : (fs.flatMap encI).length ≤ 1300 * fs.length := by
  induction fs with
  | nil => simp
  | cons a r ih =>
    have h1 := ih (fun f hf => hp f (by simp [hf])) (fun f hf => hd f (by simp [hf]))
    have h2 := encI_len a (hp a (by simp)) (hd a (by simp))
    rw [List.flatMap_cons, List.length_append, List.length_cons]
    omega
end Go.Proofs.YtglfeocfhlmloaaGreat.Up
