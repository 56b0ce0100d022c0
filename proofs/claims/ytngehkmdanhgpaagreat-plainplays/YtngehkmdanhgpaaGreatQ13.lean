/-
  The walks of findFile and findDir. Rows of paths: of the call's own, and what is put behind them; what lies below a path: the entries of the map in whatever order. What lies below a path: the map's entries, in whatever order they come.
-/
import Derived.Lib.SlBytesConst
import Derived.Laws.CopyOwn
import Derived.Deep.RegionLaw
import Derived.Deep.DrawnRows
import Derived.Lib.AppendZeros
import Derived.Laws.Tables
import Derived.Maps.Range
import Derived.Test.YtngehkmdanhgpaaGreatQ00
import Derived.Test.YtngehkmdanhgpaaGreatQ01
import Derived.Test.YtngehkmdanhgpaaGreatQ02
import Derived.Test.YtngehkmdanhgpaaGreatQ03
import Derived.Test.YtngehkmdanhgpaaGreatQ04
import Derived.Test.YtngehkmdanhgpaaGreatQ05
import Derived.Test.YtngehkmdanhgpaaGreatQ06
import Derived.Test.YtngehkmdanhgpaaGreatQ07
import Derived.Test.YtngehkmdanhgpaaGreatQ08
import Derived.Test.YtngehkmdanhgpaaGreatQ09
import Derived.Test.YtngehkmdanhgpaaGreatQ10
import Derived.Test.YtngehkmdanhgpaaGreatQ11
import Derived.Test.YtngehkmdanhgpaaGreatQ12
namespace Go.Proofs.YtngehkmdanhgpaaGreat.Pl
open Go.RowKit
open Vp (Str B bl Val cmpL parseS showS splitS withinS IsPath)
open Nd (Row wp_world post_Row post_Row2)
def findD (L : List Spot) (xs : List Str) : Spot × Int := if (findP L xs).2 = 0 ∧ (findP L xs).1.dir = false then (Spot.zero, 70) else findP L xs
def findF (L : List Spot) (xs : List Str) : Spot × Int := if (findP L xs).2 = 0 ∧ (findP L xs).1.dir = true then (Spot.zero, 71) else findP L xs
theorem findP_form (L : List Spot) (xs : List Str) : (findP L xs).2 = 0 ∨ findP L xs = (Spot.zero, 70) ∨ findP L xs = (Spot.zero, 4) := goF_form L _ _
theorem findP_sf {w : World} {m : Nat} {L : List Spot} (h : MapP w m L) (xs : List Str) : Sf (findP L xs).1 := by
  rcases findP_form L xs with h1 | h1 | h1
  · exact h.sf (findP_at (t := (findP L xs).1) (by rw [← h1]))
  · rw [h1]; exact ⟨_, _, _, rfl⟩
  · rw [h1]; exact ⟨_, _, _, rfl⟩
set_option maxHeartbeats 2000000 in
set_option maxRecDepth 100000 in
theorem findDir_any {w : World} {g m : Nat} {L : List Spot} (h : Fs w g m L) {nv : Value} {xs : List Str} (hv : Val w nv xs) (hx : Gp xs) :
    Calls Tryz.prog 96 #[.pointer (some ⟨g, 0, none⟩), nv] w fun e w' => e = .returned (.tuple #[(findD L xs).1.val, .int .i64 (findD L xs).2]) ∧ Below w.heap.size w w' := by
  obtain ⟨np, nc, rfl⟩ : ∃ p c, nv = .slice p xs.length c := by obtain ⟨p, c, e, _⟩ := hv; exact ⟨p, c, e⟩
  have HF := hid_in (fun W (k : Below w.heap.size w W) => find_any (h.below k) (hv.below k) hx)
  obtain ⟨qp, qn, qc, hsv⟩ := findP_sf h.map xs
  have HD : Hid (findD L xs = if (findP L xs).2 = 0 ∧ (findP L xs).1.dir = false then (Spot.zero, 70) else findP L xs) := rfl
  generalize findD L xs = R at *
  generalize findP L xs = r at *
  obtain ⟨⟨sv, sn, sp, sd, sx⟩, k⟩ := r
  simp only at hsv HD
  subst hsv
  simp only [Spot.val] at HF
  generalize xs.length = nl at *
  obtain ⟨WA, HWA⟩ : ∃ WA, Hid (w.alloc (.cells #[.slice none 0 0, .string ⟨#[]⟩, .bool false, .string ⟨#[]⟩] 63) = WA) := ⟨_, hid_in rfl⟩
  have HBA : Hid (Below w.heap.size w WA) := by rw [← HWA.out]; exact (Below.refl _ _).alloc (Nat.le_refl _) _
  have HRA : Hid (Row WA w.heap.size [.slice none 0 0, .string ⟨#[]⟩, .bool false, .string ⟨#[]⟩] 63) := by rw [← HWA.out]; exact Row.new w [.slice none 0 0, .string ⟨#[]⟩, .bool false, .string ⟨#[]⟩] 63
  clear h hv hx
  have HC4 : Hid ([Value.slice qp qn qc, .string sp, .bool sd, .string sx].length = 4) := rfl
  have HO4 : Hid (∀ v ∈ [Value.slice qp qn qc, .string sp, .bool sd, .string sx], v.oneCell' = true) := by
    intro v hv
    simp only [List.mem_cons, List.not_mem_nil, or_false] at hv
    rcases hv with rfl | rfl | rfl | rfl <;> rfl
  go_enter Tryz.func96, Tryz.ntmps96
  go_upto_region 1 with fail
  refine wp_world HWA.out ?_
  go_upto_region 2 with (first | (go_at_call 102; refine (HF.out _ HBA.out).mono ?_; rintro e w2 ⟨rfl, hb2⟩; have HB2 := hid_in hb2; clear hb2) | (refine Nd.wpList_store_new rfl rfl 63 4 _ _ rfl _ [Value.slice qp qn qc, .string sp, .bool sd, .string sx] info63 rfl HC4 HO4 rfl rfl ?_; intro w3 hr3 hb3 hs3; have HR3 := hid_in hr3; have HB3 := hid_in hb3; have HS3 := hid_in hs3; clear hr3 hb3 hs3))
  have HB13 := hid_in (HB2.out.trans (HB3.out.mono HB2.out.size))
  have HB03 := hid_in (HBA.out.trans (HB13.out.mono HBA.out.size))
  have HR4 := hid_in (HRA.out.below HB13.out HRA.out.lt)
  obtain ⟨⟨c0, c1, c2, c3⟩, f0, f1, f2, f3⟩ := spot_cells HR3.out (Below.refl _ w3)
  obtain ⟨⟨a0, a1, a2, a3⟩, b0, b1, b2, b3⟩ := spot_cells HR4.out (Below.refl _ w3)
  by_cases hk : k = 0
  · subst hk
    cases sd with
    | false =>
      go_wp2
      exact post_Row2 4 5 63 rfl w.heap.size rfl 63 [.slice none 0 0, .string ⟨#[]⟩, .bool false, .string ⟨#[]⟩] ((((HR4.out.set_same 0 _).set_same 1 _).set_same 2 _).set_same 3 _) _ Tryz.underlying63 rfl 4 info63 rfl rfl ⟨by rw [HD.out]; rfl, set4_below HB03.out (Nat.le_refl _) HB03.out.size _ _ _ _⟩
    | true =>
      go_wp2
      exact post_Row2 4 5 63 rfl w.heap.size rfl 63 [.slice qp qn qc, .string sp, .bool true, .string sx] ((((HR4.out.set_same 0 _).set_same 1 _).set_same 2 _).set_same 3 _) _ Tryz.underlying63 rfl 4 info63 rfl rfl ⟨by rw [HD.out]; rfl, set4_below HB03.out (Nat.le_refl _) HB03.out.size _ _ _ _⟩
  · have hk2 : (k == 0) = false := beq_eq_false_iff_ne.2 hk
    have HD2 : Hid (R = (⟨.slice qp qn qc, sn, sp, sd, sx⟩, k)) := by rw [HD.out, if_neg (fun e => hk e.1)]; exact rfl
    clear HD hk
    go_wp2
    exact post_Row2 4 5 63 rfl w.heap.size rfl 63 [.slice qp qn qc, .string sp, .bool sd, .string sx] ((((HR4.out.set_same 0 _).set_same 1 _).set_same 2 _).set_same 3 _) _ Tryz.underlying63 rfl 4 info63 rfl rfl ⟨by rw [HD2.out]; rfl, set4_below HB03.out (Nat.le_refl _) HB03.out.size _ _ _ _⟩
set_option maxHeartbeats 2000000 in
set_option maxRecDepth 100000 in
theorem findFile_any {w : World} {g m : Nat} {L : List Spot} (h : Fs w g m L) (tx : ByteArray) (htx : tx.size ≤ 9223372036854775807) :
    Calls Tryz.prog 93 #[.pointer (some ⟨g, 0, none⟩), .string tx] w fun e w' => e = .returned (.tuple #[(findF L (nmsOf tx)).1.val, .int .i64 (findF L (nmsOf tx)).2]) ∧ Below w.heap.size w w' := by
  have HF := hid_in (fun W (k : Below w.heap.size w W) v (hv : Val W v (nmsOf tx)) => find_any (h.below k) hv (gp_nms tx))
  have HNO := hid_in (fun W => namesOf_any tx htx W)
  obtain ⟨qp, qn, qc, hsv⟩ := findP_sf h.map (nmsOf tx)
  have HD : Hid (findF L (nmsOf tx) = if (findP L (nmsOf tx)).2 = 0 ∧ (findP L (nmsOf tx)).1.dir = true then (Spot.zero, 71) else findP L (nmsOf tx)) := rfl
  generalize findF L (nmsOf tx) = R at *
  generalize findP L (nmsOf tx) = r at *
  obtain ⟨⟨sv, sn, sp, sd, sx⟩, k⟩ := r
  simp only at hsv HD
  subst hsv
  simp only [Spot.val] at HF
  generalize nmsOf tx = xs at *
  obtain ⟨WA, HWA⟩ : ∃ WA, Hid (w.alloc (.cells #[.slice none 0 0, .string ⟨#[]⟩, .bool false, .string ⟨#[]⟩] 63) = WA) := ⟨_, hid_in rfl⟩
  have HBA : Hid (Below w.heap.size w WA) := by rw [← HWA.out]; exact (Below.refl _ _).alloc (Nat.le_refl _) _
  have HRA : Hid (Row WA w.heap.size [.slice none 0 0, .string ⟨#[]⟩, .bool false, .string ⟨#[]⟩] 63) := by rw [← HWA.out]; exact Row.new w [.slice none 0 0, .string ⟨#[]⟩, .bool false, .string ⟨#[]⟩] 63
  clear h htx
  have HC4 : Hid ([Value.slice qp qn qc, .string sp, .bool sd, .string sx].length = 4) := rfl
  have HO4 : Hid (∀ v ∈ [Value.slice qp qn qc, .string sp, .bool sd, .string sx], v.oneCell' = true) := by
    intro v hv
    simp only [List.mem_cons, List.not_mem_nil, or_false] at hv
    rcases hv with rfl | rfl | rfl | rfl <;> rfl
  go_enter Tryz.func93, Tryz.ntmps93
  go_upto_region 1 with fail
  refine wp_world HWA.out ?_
  go_upto_region 2 with (first | (go_at_call 92; refine (HNO.out _).mono ?_; rintro e w1 ⟨v1, rfl, hv1, hb1⟩; have HV1 := hid_in hv1; have HB1 := hid_in hb1; have HBA1 := hid_in (HBA.out.trans (hb1.mono HBA.out.size)); clear hv1 hb1) | (go_at_call 102; refine (HF.out _ HBA1.out _ HV1.out.val).mono ?_; rintro e w2 ⟨rfl, hb2⟩; have HB2 := hid_in (HB1.out.trans (hb2.mono HB1.out.size)); clear hb2) | (refine Nd.wpList_store_new rfl rfl 63 4 _ _ rfl _ [Value.slice qp qn qc, .string sp, .bool sd, .string sx] info63 rfl HC4 HO4 rfl rfl ?_; intro w3 hr3 hb3 hs3; have HR3 := hid_in hr3; have HB3 := hid_in hb3; have HS3 := hid_in hs3; clear hr3 hb3 hs3))
  have HB13 := hid_in (HB2.out.trans (HB3.out.mono HB2.out.size))
  have HB03 := hid_in (HBA.out.trans (HB13.out.mono HBA.out.size))
  have HR4 := hid_in (HRA.out.below HB13.out HRA.out.lt)
  obtain ⟨⟨c0, c1, c2, c3⟩, f0, f1, f2, f3⟩ := spot_cells HR3.out (Below.refl _ w3)
  obtain ⟨⟨a0, a1, a2, a3⟩, b0, b1, b2, b3⟩ := spot_cells HR4.out (Below.refl _ w3)
  by_cases hk : k = 0
  · subst hk
    cases sd with
    | false =>
      go_wp2
      exact post_Row2 4 5 63 rfl w.heap.size rfl 63 [.slice qp qn qc, .string sp, .bool false, .string sx] ((((HR4.out.set_same 0 _).set_same 1 _).set_same 2 _).set_same 3 _) _ Tryz.underlying63 rfl 4 info63 rfl rfl ⟨by rw [HD.out]; rfl, set4_below HB03.out (Nat.le_refl _) HB03.out.size _ _ _ _⟩
    | true =>
      go_wp2
      exact post_Row2 4 5 63 rfl w.heap.size rfl 63 [.slice none 0 0, .string ⟨#[]⟩, .bool false, .string ⟨#[]⟩] ((((HR4.out.set_same 0 _).set_same 1 _).set_same 2 _).set_same 3 _) _ Tryz.underlying63 rfl 4 info63 rfl rfl ⟨by rw [HD.out]; rfl, set4_below HB03.out (Nat.le_refl _) HB03.out.size _ _ _ _⟩
  · have hk2 : (k == 0) = false := beq_eq_false_iff_ne.2 hk
    have HD2 : Hid (R = (⟨.slice qp qn qc, sn, sp, sd, sx⟩, k)) := by rw [HD.out, if_neg (fun e => hk e.1)]; exact rfl
    clear HD hk
    go_wp2
    exact post_Row2 4 5 63 rfl w.heap.size rfl 63 [.slice qp qn qc, .string sp, .bool sd, .string sx] ((((HR4.out.set_same 0 _).set_same 1 _).set_same 2 _).set_same 3 _) _ Tryz.underlying63 rfl 4 info63 rfl rfl ⟨by rw [HD2.out]; rfl, set4_below HB03.out (Nat.le_refl _) HB03.out.size _ _ _ _⟩
end Go.Proofs.YtngehkmdanhgpaaGreat.Pl
namespace Go.Proofs.YtngehkmdanhgpaaGreat.Pl
open Go.RowKit
open Vp (Str B bl Val cmpL parseS showS splitS withinS IsPath)
open Nd (Row wp_world post_Row post_Row2)
def scells (fs : List Spot) : List Value := fs.flatMap Spot.cells
theorem scells_len (fs : List Spot) : (scells fs).length = fs.length * 4 := by
  induction fs with
  | nil => rfl
  | cons f r ih =>
    unfold scells at ih ⊢
    rw [List.flatMap_cons, List.length_append, ih, List.length_cons]
    simp [Spot.cells]
    omega
theorem scells_one (fs : List Spot) (hs : ∀ s ∈ fs, Sf s) : ∀ u ∈ scells fs, u.oneCell' = true := by
  intro u hu
  obtain ⟨f, hf, h⟩ := List.mem_flatMap.1 hu
  obtain ⟨p, n, c, e⟩ := hs f hf
  simp [Spot.cells, e] at h
  rcases h with rfl | rfl | rfl | rfl <;> rfl
theorem scells_at {fs : List Spot} {i : Nat} {f : Spot} (h : fs[i]? = some f) (y : Nat) (u : Value) (hy : f.cells[y]? = some u) : (scells fs)[i * 4 + y]? = some u := by
  have h1 := Nd.flatten_get (k := 4) (xs := fs.map Spot.cells) (fun us hus => by obtain ⟨g, _, rfl⟩ := List.mem_map.1 hus; rfl) i f.cells (by rw [List.getElem?_map, h]; rfl) y u hy
  rw [List.flatMap_def.symm] at h1
  exact h1
/-- a value that reads as files -/
def Sps (w : World) (v : Value) (fs : List Spot) : Prop := ∃ p cap b o, v = .slice p fs.length cap ∧ fs.length ≤ cap ∧ cap ≤ 9223372036854775807 ∧ (fs ≠ [] → p = some ⟨b, o, none⟩ ∧ b < w.heap.size) ∧ (∀ j u, (scells fs)[j]? = some u → w.cell? ⟨b, o + j, none⟩ = some u) ∧ (p = none → fs = [] ∧ cap = 0)
theorem Sps.below {w w' : World} {v : Value} {fs : List Spot} (h : Sps w v fs) (hb : Below w.heap.size w w') : Sps w' v fs := by
  obtain ⟨p, cap, b, o, h1, h2, h3, h4, h5, h6⟩ := h
  refine ⟨p, cap, b, o, h1, h2, h3, fun hn => ⟨(h4 hn).1, Nat.lt_of_lt_of_le (h4 hn).2 hb.size⟩, fun j u hj => ?_, h6⟩
  have hne : fs ≠ [] := by rintro rfl; simp [scells] at hj
  rw [hb.cell (p := ⟨b, o + j, none⟩) (h4 hne).2]
  exact h5 j u hj
theorem Sps.form {w : World} {v : Value} {fs : List Spot} (h : Sps w v fs) : ∃ p cap, v = .slice p fs.length cap := by
  obtain ⟨p, cap, _, _, h1, _⟩ := h
  exact ⟨p, cap, h1⟩
/-- a row of files of the call's own -/
def SO (w : World) (B : Nat) (v : Value) (fs : List Spot) : Prop := w.ownsRow B 63 4 v fs.length (scells fs)
theorem SO.below {w w' : World} {B : Nat} {v : Value} {fs : List Spot} (h : SO w B v fs) (hb : Below w.heap.size w w') : SO w' B v fs := Nd.own_belowK h hb
theorem SO.sps {w : World} {B : Nat} {v : Value} {fs : List Spot} (h : SO w B v fs) : Sps w v fs := by
  obtain ⟨_, ⟨rfl, h0⟩ | ⟨g, cap, cur, rfl, hB, hh, hn, hm, hs, ht⟩⟩ := h
  · obtain rfl := List.length_eq_zero_iff.1 h0
    exact ⟨none, 0, 0, 0, rfl, by simp, by omega, fun h => absurd rfl h, fun j u h => by simp [scells] at h, fun _ => ⟨rfl, rfl⟩⟩
  · have hlt : g < w.heap.size := (Array.getElem?_eq_some_iff.1 hh).1
    refine ⟨_, cap, g, 0, rfl, hn, by unfold maxLen at hm; omega, fun _ => ⟨rfl, hlt⟩, fun j u hj => ?_, fun e => by cases e⟩
    have hjl : j < fs.length * 4 := by rw [← scells_len]; exact (List.getElem?_eq_some_iff.1 hj).1
    have ht2 : (cur.toList.take (fs.length * 4))[j]? = (scells fs)[j]? := by rw [ht]
    rw [List.getElem?_take, if_pos hjl, hj, Array.getElem?_toList] at ht2
    rw [Nat.zero_add, cell_of_row w g j _ _ (0, 0) hh, ht2]
theorem info63h : ∃ i z, Hid (Tryz.prog.info? 63 = some i) ∧ Hid (i.size = 4) ∧ Hid (i.bytes = 64) ∧ Hid (i.zero = some z) ∧ Hid (z.cells.size = 4) := by
  have h : (Tryz.prog.info? 63).map (fun i => (i.size, i.bytes, i.zero.map (·.cells.size))) = some (4, 64, some 4) := by kernel_rfl
  cases hi : Tryz.prog.info? 63 with
  | none => rw [hi] at h; cases h
  | some i =>
    rw [hi] at h
    simp only [Option.map_some, Option.some.injEq, Prod.mk.injEq] at h
    obtain ⟨h1, h2, h3⟩ := h
    cases hz : i.zero with
    | none => rw [hz] at h3; cases h3
    | some z => rw [hz] at h3; exact ⟨i, z, rfl, h1, h2, hz, Option.some.inj h3⟩
/-- files put behind a row of the call's own -/
theorem wpList_app63 {ops : Array Oper} {rest : List Oper} {o : Oper} {a : Act} {w : World} {Q : Exit → Act → World → Prop} (B : Nat) (hgd : o.guard = none) (s x : Operand) (ho : o.op = .call { callee := .builtin .append, args := #[s, x], argTypes := #[54, 54] })
    (v : Value) (xs ys : List Spot) (hs : a.eval s = v) (hown : SO w B v xs) (sv : Value) (hx : a.eval x = sv) (hsv : Sps w sv ys) (hsf : ∀ s ∈ ys, Sf s) (hlen : xs.length + ys.length ≤ 1000000) (hB : B ≤ w.heap.size)
    (h : ∀ v' w', SO w' B v' (xs ++ ys) → w.grownBy w' v.ownBlock → wpList Tryz.prog ops Q rest (a.put o.dst v') w') : wpList Tryz.prog ops Q (o :: rest) a w := by
  obtain ⟨p, cap, b, of, rfl, h1, h2, h3, h4, h5⟩ := hsv
  obtain ⟨i, z, hi, hz1, hz2, hz3, hz4⟩ := info63h
  rcases p with _ | ad
  · obtain ⟨rfl, rfl⟩ := h5 rfl
    refine wpList_append_own_none hgd s x 54 ho B 63 i 4 Tryz.underlying54 hi.out v xs.length (scells xs) hs hown hx ?_
    exact h v w (by simpa using hown) ⟨rfl, rfl, rfl, Nat.le_refl _, fun _ _ _ => rfl⟩
  · refine wpList_append_own w hgd s x 54 ho B 63 i z 4 64 Tryz.underlying54 hi.out hz3.out hz1.out hz2.out hz4.out (by decide) v xs.length (scells xs) hs hown ad ys.length cap (scells ys) hx (scells_len ys) (fun j u hj => ?_) (scells_one ys hsf) (by unfold maxLen; omega) (by omega) hB ?_
    · have hne : ys ≠ [] := by rintro rfl; simp [scells] at hj
      obtain rfl := Option.some.inj (h3 hne).1
      rw [Addr.add_mid]
      exact h4 j u hj
    · intro v' w' h6 h7 _
      refine h v' w' ?_ h7
      unfold SO
      rw [List.length_append, show scells (xs ++ ys) = scells xs ++ scells ys by simp [scells]]
      exact h6
theorem SO.nil (w : World) (B : Nat) : SO w B (.slice none 0 0) [] := World.ownsRow_nil _ _ _ _
theorem SO.mono {w : World} {B B' : Nat} {v : Value} {fs : List Spot} (h : SO w B v fs) (hb : B' ≤ B) : SO w B' v fs := by
  obtain ⟨h1, h2 | ⟨g, cap, cur, hv, hB, r⟩⟩ := h
  · exact ⟨h1, .inl h2⟩
  · exact ⟨h1, .inr ⟨g, cap, cur, hv, Nat.le_trans hb hB, r⟩⟩
theorem SO.step {w w' a : World} {B : Nat} {v : Value} {fs : List Spot} (h : SO w B v fs) (hb : Below B a w) (hB : B ≤ w.heap.size) (hg : w.grownBy w' v.ownBlock) : Below B a w' :=
  hb.grown hg hB (fun k e => (Nd.own_geK h k e).1)
theorem SO.form {w : World} {B : Nat} {v : Value} {fs : List Spot} (h : SO w B v fs) : ∃ p cap, v = .slice p fs.length cap := by
  obtain ⟨p, cap, _, _, h1, _⟩ := h.sps
  exact ⟨p, cap, h1⟩
theorem sps_one (w : World) (f : Spot) : Sps (w.alloc (.cells #[f.v, .string f.path, .bool f.dir, .string f.data] 63)) (.slice (some ⟨w.heap.size, 0, none⟩) 1 1) [f] := by
  have hr := Nd.Row.new w [f.v, .string f.path, .bool f.dir, .string f.data] 63
  refine ⟨_, 1, w.heap.size, 0, rfl, by simp, by omega, fun _ => ⟨rfl, by simp⟩, fun j u hj => ?_, fun e => by cases e⟩
  rw [Nat.zero_add, hr.cell]
  simpa [scells, Spot.cells] using hj
end Go.Proofs.YtngehkmdanhgpaaGreat.Pl
namespace Go.Proofs.YtngehkmdanhgpaaGreat.Pl
open Go.RowKit
open Go.ChangeMaps (setBlock heap_setBlock_same heap_setBlock_other)
open Vp (Str B bl Val cmpL parseS showS splitS withinS IsPath)
open Nd (Row wp_world post_Row post_Row2)
def belowB (xs : List Str) (s : Spot) : Bool := decide (xs.length < s.names.length) && withinS s.names xs
theorem zip_fst {es : List MapEntry} {L : List Spot} (h : es.length = L.length) : (es.zip L).map (·.1) = es := by
  rw [List.map_fst_zip (by omega)]
theorem zip_snd {es : List MapEntry} {L : List Spot} (h : es.length = L.length) : (es.zip L).map (·.2) = L := by
  rw [List.map_snd_zip (by omega)]
/-- all entries have come: in whatever order, they are all -/
theorem done_perm {es : Array MapEntry} {L : List Spot} {done : List (MapEntry × Spot)} (hl : es.toList.length = L.length) (hb : (es.toList.map (·.born)).Nodup) (h1 : (done.map (·.1.born)).Nodup) (h2 : ∀ d ∈ done, d ∈ es.toList.zip L) (h3 : ∀ e ∈ es.toList, e.born ∈ done.map (·.1.born)) : (done.map (·.2)).Perm L := by
  have hz : ((es.toList.zip L).map (·.1.born)).Nodup := by
    have : (es.toList.zip L).map (·.1.born) = ((es.toList.zip L).map (·.1)).map (·.born) := by rw [List.map_map]; rfl
    rw [this, zip_fst hl]; exact hb
  have key : ∀ (l : List (MapEntry × Spot)), (l.map (·.1.born)).Nodup → ∀ a ∈ l, ∀ b ∈ l, a.1.born = b.1.born → a = b := by
    intro l hn a ha b hb2 he
    obtain ⟨i, hi⟩ := List.getElem?_of_mem ha
    obtain ⟨j, hj⟩ := List.getElem?_of_mem hb2
    have h1 := List.pairwise_iff_getElem.1 hn
    obtain ⟨hil, rfl⟩ := List.getElem?_eq_some_iff.1 hi
    obtain ⟨hjl, rfl⟩ := List.getElem?_eq_some_iff.1 hj
    rcases Nat.lt_trichotomy i j with h7 | h7 | h7
    · exact absurd (by rw [List.getElem_map, List.getElem_map]; exact he) (h1 i j (by simpa using hil) (by simpa using hjl) h7)
    · subst h7; rfl
    · exact absurd (by rw [List.getElem_map, List.getElem_map]; exact he.symm) (h1 j i (by simpa using hjl) (by simpa using hil) h7)
  have nd : ∀ (l : List (MapEntry × Spot)), (l.map (·.1.born)).Nodup → l.Nodup := by
    intro l
    induction l with
    | nil => simp
    | cons a r ih =>
      intro h
      simp only [List.map_cons, List.nodup_cons] at h ⊢
      exact ⟨fun hm => h.1 (List.mem_map.2 ⟨a, hm, rfl⟩), ih h.2⟩
  have hp : done.Perm (es.toList.zip L) := by
    rw [List.perm_ext_iff_of_nodup (nd _ h1) (nd _ hz)]
    refine fun a => ⟨h2 a, fun ha => ?_⟩
    have he : a.1 ∈ es.toList := by rw [← zip_fst hl]; exact List.mem_map.2 ⟨a, ha, rfl⟩
    obtain ⟨d, hd, hdb⟩ := List.mem_map.1 (h3 a.1 he)
    rw [← key _ hz d (h2 d hd) a ha hdb]
    exact hd
  have := hp.map (·.2)
  rwa [zip_snd hl] at this
/-- between two rounds -/
structure BL (w : World) (m : Nat) (L : List Spot) (xs : List Str) (es : Array MapEntry) (clock : Nat) (v : Value) (W : World) (done : List (MapEntry × Spot)) : Prop where
  it : ∃ c0, W.heap[w.heap.size]? = some (.mapIter (some m) clock (done.map (·.1.born)).toArray c0) ∧ clock ≤ c0
  nd : (done.map (·.1.born)).Nodup
  sub : ∀ d ∈ done, d ∈ es.toList.zip L
  row : SO W (w.heap.size + 1) v ((done.map (·.2)).filter (belowB xs))
  bel : Below w.heap.size w W
  sz : w.heap.size + 1 ≤ W.heap.size
theorem BL.len {w : World} {m : Nat} {L : List Spot} {xs : List Str} {es : Array MapEntry} {clock : Nat} {v : Value} {W : World} {done : List (MapEntry × Spot)} (h : BL w m L xs es clock v W done) : done.length ≤ L.length := by
  have hs : done.length ≤ (es.toList.zip L).length := by
    have hn : done.Nodup := by
      have := h.nd
      clear h
      induction done with
      | nil => simp
      | cons a r ih =>
        simp only [List.map_cons, List.nodup_cons] at this ⊢
        exact ⟨fun hm => this.1 (List.mem_map.2 ⟨a, hm, rfl⟩), ih this.2⟩
    exact List.Nodup.length_le_of_subset hn h.sub
  have : (es.toList.zip L).length ≤ L.length := by simp; omega
  omega
end Go.Proofs.YtngehkmdanhgpaaGreat.Pl
