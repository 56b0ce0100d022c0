/-
  parse: the paths of a list.
-/
import Derived.Deep.RegionLaw
import Derived.Deep.DrawnRows
import Derived.Laws.Tables
import Derived.Lib.SlBytesConst
import Derived.Laws.CopyOwn
import Derived.Lib.AppendZeros
import Derived.Test.YtngehkmdanhgpaaGreatR00
import Derived.Test.YtngehkmdanhgpaaGreatR01
import Derived.Test.YtngehkmdanhgpaaGreatR02
import Derived.Test.YtngehkmdanhgpaaGreatR03
import Derived.Test.YtngehkmdanhgpaaGreatR04
import Derived.Test.YtngehkmdanhgpaaGreatR05
import Derived.Test.YtngehkmdanhgpaaGreatR06
import Derived.Test.YtngehkmdanhgpaaGreatR07
import Derived.Test.YtngehkmdanhgpaaGreatR08
import Derived.Test.YtngehkmdanhgpaaGreatR09
import Derived.Test.YtngehkmdanhgpaaGreatR10
import Derived.Test.YtngehkmdanhgpaaGreatR11
import Derived.Test.YtngehkmdanhgpaaGreatR12
import Derived.Test.YtngehkmdanhgpaaGreatR13
import Derived.Test.YtngehkmdanhgpaaGreatR14
import Derived.Test.YtngehkmdanhgpaaGreatR15
import Derived.Test.YtngehkmdanhgpaaGreatR16
import Derived.Test.YtngehkmdanhgpaaGreatR17
namespace Go.Proofs.YtngehkmdanhgpaaGreat.Pl
open Go.RowKit
open Vp (Str B bl Val cmpL parseS showS splitS withinS IsPath)
open Nd (Row wp_world post_Row post_Row2 grownBy_setCell below_of_grown)
open Rf (Fil Fls fcells)
theorem typed_ne {w : World} {a b : Nat} {ca cb : Array Value} {ta tb : TypeId} {fa fb : Nat × Nat} (ha : w.heap[a]? = some (.cells ca ta fa)) (hb : w.heap[b]? = some (.cells cb tb fb)) (h : ta ≠ tb) : a ≠ b := by
  rintro rfl
  rw [ha] at hb
  cases hb
  exact h rfl
theorem kept_typed {w w' : World} {b : Nat} {cs : Array Value} {t : TypeId} {fr : Nat × Nat} {row : Option Nat} (hb : w.heap[b]? = some (.cells cs t fr)) (hg : w.grownBy w' row) (hr : ∀ k, row = some k → b ≠ k) : w'.heap[b]? = some (.cells cs t fr) := by
  rw [hg.block b (Array.getElem?_eq_some_iff.1 hb).1 (fun e => hr b e.symm rfl)]; exact hb
def errOf (s : ByteArray) : Int := (parseS (bl s)).2
/-- the path in memory is that of the file -/
def Mat (s : Spot) (f : Fil) : Prop := s.names = nmsOf f.path ∧ s.path = f.path ∧ s.dir = f.dir ∧ s.data = f.data
def Mats (sp : List Spot) (fs : List Fil) : Prop := sp.length = fs.length ∧ ∀ (i : Nat) s f, sp[i]? = some s → fs[i]? = some f → Mat s f
theorem Mats.snoc {sp : List Spot} {fs : List Fil} {i : Nat} {s : Spot} {f : Fil} (h : Mats sp (fs.take i)) (hf : fs[i]? = some f) (hm : Mat s f) : Mats (sp ++ [s]) (fs.take (i + 1)) := by
  have hi : i < fs.length := (List.getElem?_eq_some_iff.1 hf).1
  have hl := h.1
  simp only [List.length_take] at hl
  refine ⟨by simp; omega, fun j t g h1 h2 => ?_⟩
  rcases Nat.lt_or_ge j sp.length with hj | hj
  · rw [List.getElem?_append_left hj] at h1
    refine h.2 j t g h1 ?_
    rw [List.getElem?_take] at h2 ⊢
    rw [if_pos (by omega)] at h2 ⊢
    exact h2
  · rw [List.getElem?_append_right hj] at h1
    have h0 : j - sp.length = 0 := by
      have := (List.getElem?_eq_some_iff.1 h1).1
      simp at this; omega
    rw [h0] at h1
    simp only [List.getElem?_cons_zero, Option.some.injEq] at h1
    obtain rfl : j = i := by omega
    rw [List.getElem?_take, if_pos (by omega), hf] at h2
    obtain rfl := Option.some.inj h2
    subst h1
    exact hm
theorem info48 : (Tryz.prog.info? 48).map (·.size) = some 3 := by kernel_rfl
/-- between two rounds of parse -/
structure PR (w : World) (n : Nat) (fs : List Fil) (i : Nat) (W : World) : Prop where
  ex : ∃ sp vs, Mats sp (fs.take i) ∧ Row W w.heap.size vs 63 ∧ vs.length = n * 4 ∧ Nd.Fills vs 4 (sp.map Spot.cells) ∧ ∀ s ∈ sp, Rf.Nm W s.v s.names
  noerr : ∀ (j : Nat) f, j < i → fs[j]? = some f → errOf f.path = 0
  bel : Below w.heap.size w W
theorem fills_sps {W : World} {b : Nat} {vs : List Value} {sp : List Spot} (hr : Row W b vs 63) (hf : Nd.Fills vs 4 (sp.map Spot.cells)) (hn : sp.length ≤ 9223372036854775807) : Sps W (.slice (some ⟨b, 0, none⟩) sp.length sp.length) sp := by
  refine ⟨_, sp.length, b, 0, rfl, Nat.le_refl _, hn, fun _ => ⟨rfl, hr.lt⟩, fun j u hj => ?_, fun e => by cases e⟩
  have hjl : j < sp.length * 4 := by rw [← scells_len]; exact (List.getElem?_eq_some_iff.1 hj).1
  have hi : j / 4 < sp.length := by omega
  obtain ⟨s, hs⟩ : ∃ s, sp[j / 4]? = some s := ⟨_, List.getElem?_eq_getElem hi⟩
  have hy : j % 4 < s.cells.length := by simp [Spot.cells]; omega
  have h1 := scells_at hs (j % 4) _ (List.getElem?_eq_getElem hy)
  have hjj : j / 4 * 4 + j % 4 = j := by omega
  rw [hjj, hj] at h1
  have h2 := hf (j / 4) s.cells (by rw [List.getElem?_map, hs]; rfl) (j % 4) _ (List.getElem?_eq_getElem hy)
  rw [hjj] at h2
  rw [Nat.zero_add, hr.cell, h2, h1]
set_option maxHeartbeats 2000000 in
set_option maxRecDepth 100000 in
theorem parse_any (fs : List Fil) (v : Value) (w : World) (h : Fls w v fs) (hn : fs.length ≤ 1000000) (hp : ∀ f ∈ fs, f.path.size ≤ 9223372036854775807) :
    Calls Tryz.prog 23 #[v] w fun e w' => ∃ sv k, e = .returned (.tuple #[sv, .int .i64 k]) ∧ Below w.heap.size w w' ∧ ((k ≠ 0 ∧ sv = .slice none 0 0 ∧ ∃ (j : Nat) (f : Fil), fs[j]? = some f ∧ errOf f.path = k ∧ ∀ (i : Nat) f', i < j → fs[i]? = some f' → errOf f'.path = 0) ∨ (k = 0 ∧ (∀ f ∈ fs, errOf f.path = 0) ∧ ∃ sp, Sps w' sv sp ∧ Mats sp fs ∧ sv = .slice (some ⟨w.heap.size, 0, none⟩) sp.length sp.length ∧ ∀ s ∈ sp, Rf.Nm w' s.v s.names)) := by
  obtain ⟨p, cap, b, o, rfl, h1, h2, h3, h4, h5⟩ := h
  obtain ⟨i93, z93, hi93, hs93, hb93, hz93, hzc93⟩ := info63h
  have H3 := hid_in h3
  have H4 := hid_in h4
  have HP := hid_in hp
  clear h3 h4 h5 hp
  go_enter Tryz.func23, Tryz.ntmps23
  go_wp2_with (first | (refine wpList_make_full _ rfl _ _ 54 rfl _ 63 i93 z93 4 Tryz.underlying54 hi93.out hz93.out hs93.out .i64 .i64 _ _ fs.length rfl rfl rfl rfl (by rw [hb93.out]; omega) (by simp [maxLen]; omega) (Nat.le_refl _) ?_; intro w2 hown hg2; obtain ⟨vs0, hr0, hl0⟩ := Nd.made_row hown; have HR0 := hid_in hr0; have HL0 := hid_in hl0; have HG2 := hid_in hg2; clear hown hr0 hl0 hg2))
  go_loopw [14] (fun vi W => ∃ i : Nat, i ≤ fs.length ∧ vi = .int .i64 (i : Int) ∧ Hid (PR w fs.length fs i W)) (fun vi _ => fs.length - (intOf vi).toNat)
  case atStart => exact ⟨0, by omega, rfl, ⟨⟨[], vs0, ⟨rfl, fun i s f h => by simp at h⟩, HR0.out, HL0.out, fun i us h => by simp at h, fun s hs => by cases hs⟩, fun j f hj => by omega, (Below.refl _ _).grown HG2.out (Nat.le_refl _) (fun k e => by cases e)⟩⟩
  case round =>
    obtain ⟨i, hi, rfl, hpr⟩ := hrel
    by_cases hlt : i < fs.length
    · have hg : fs[i]? = some fs[i] := List.getElem?_eq_getElem hlt
      obtain ⟨hp, hb⟩ := H3.out (by intro h; simp [h] at hlt)
      have hrg : ∀ (y : Nat) u, (fs[i]).cells[y]? = some u → wr.cell? ⟨b, o + i * 3 + y, none⟩ = some u := fun y u hy => by
        rw [hpr.out.bel.cell (p := ⟨b, o + i * 3 + y, none⟩) hb, Nat.add_assoc]
        exact H4.out _ _ (Rf.fcells_at hg y u hy)
      have hps := HP.out _ (List.getElem_mem hlt)
      generalize fs[i] = f at *
      subst hp
      have m0 : wr.cell? ⟨b, o + i * 3, none⟩ = some (.string f.path) := by simpa using hrg 0 _ rfl
      have m1 : wr.cell? ⟨b, o + i * 3 + 1, none⟩ = some (.bool f.dir) := hrg 1 _ rfl
      have m2 : wr.cell? ⟨b, o + i * 3 + 2, none⟩ = some (.string f.data) := hrg 2 _ rfl
      have HC3 : Hid ([Value.string f.path, .bool f.dir, .string f.data].length = 3) := rfl
      have HO3 : Hid (∀ v ∈ [Value.string f.path, .bool f.dir, .string f.data], v.oneCell' = true) := by
        intro v hv
        simp only [List.mem_cons, List.not_mem_nil, or_false] at hv
        rcases hv with rfl | rfl | rfl <;> rfl
      have HPA := hid_in (fun W => Vp.parse_any (Vp.bl f.path) (by rw [Vp.bl_length]; exact hps) W)
      rw [Vp.B_bl] at HPA
      have HG := hid_in hg
      clear hg hrg hps
      go_upto_region 5 with (first | (refine Nd.wpList_store_new rfl rfl 48 3 _ _ rfl _ [Value.string f.path, .bool f.dir, .string f.data] info48 rfl HC3 HO3 rfl rfl ?_; intro w5 hr5 hb5 hs5))
      have c0 : w5.cell? ⟨wr.heap.size, 0, none⟩ = some (.string f.path) := hr5.cell 0
      have HR5 := hid_in hr5
      have HB5 := hid_in hb5
      have HS5 := hid_in hs5
      clear hr5 hb5 hs5 m0 m1 m2
      have HERR : Hid (errOf f.path = (Vp.parseS (Vp.bl f.path)).2) := rfl
      have HNMS : Hid (nmsOf f.path = (Vp.parseS (Vp.bl f.path)).1) := rfl
      generalize (Vp.parseS (Vp.bl f.path)).2 = ke at *
      generalize (Vp.parseS (Vp.bl f.path)).1 = ns at *
      by_cases hke : ke = 0
      · subst hke
        go_upto_region 8 with (first | (go_at_call 47; refine (HPA.out _).mono ?_; rintro e w6 ⟨nv, rfl, hnm, hb6⟩; have HNM6 := hid_in (Rf.Nm.of hnm); have HB6 := hid_in hb6; obtain ⟨nq, nc, rfl⟩ := (Rf.Nm.of hnm).form; clear hnm hb6))
        have HR6 := hid_in (HR5.out.below HB6.out HR5.out.lt)
        have d0 : w6.cell? ⟨wr.heap.size, 0, none⟩ = some (.string f.path) := HR6.out.cell 0
        have d1 : w6.cell? ⟨wr.heap.size, 1, none⟩ = some (.bool f.dir) := HR6.out.cell 1
        have d2 : w6.cell? ⟨wr.heap.size, 2, none⟩ = some (.string f.data) := HR6.out.cell 2
        have HB8 := hid_in (show Below wr.heap.size wr w6 from HB5.out.trans (HB6.out.mono HB5.out.size))
        obtain ⟨nl, HNL⟩ : ∃ nl, Hid (ns.length = nl) := ⟨_, hid_in rfl⟩
        rw [HNL.out] at HNM6 ⊢
        obtain ⟨sp, vs, hm, hrw, hvl, hf, hnm⟩ := hpr.out.ex
        have hrw8 := hrw.below HB8.out hrw.lt
        have HNM8 := hid_in (fun s hs => (hnm s hs).below HB8.out)
        have HM := hid_in hm
        have HVL := hid_in hvl
        have HF := hid_in hf
        have HRW := hid_in hrw8
        have HSL : Hid (sp.length = i) := hid_in (by have := hm.1; simp only [List.length_take] at this; omega)
        have HO4 : Hid (∀ v ∈ [Value.slice nq nl nc, .string f.path, .bool f.dir, .string f.data], v.oneCell' = true) := by
          intro v hv
          simp only [List.mem_cons, List.not_mem_nil, or_false] at hv
          rcases hv with rfl | rfl | rfl | rfl <;> rfl
        have hwl := hrw8.lt
        clear hm hrw hvl hf hnm HPA
        go_wp2_with (first | (refine Nd.wpList_store_Row rfl 63 _ _ rfl w.heap.size _ [Value.slice nq nl nc, .string f.path, .bool f.dir, .string f.data] rfl rfl 63 vs hrw8 4 info63 rfl (by rw [HVL.out]; omega) HO4.out ?_; intro w9 hr9 hg9 hs9))
        have HR9 := hid_in hr9
        have HG9 := hid_in hg9
        clear hr9 hg9 hs9 hrw8
        go_roundw
        case rel =>
          go_light
          refine ⟨i + 1, by omega, by go_num, ?_⟩
          refine ⟨⟨sp ++ [⟨.slice nq nl nc, ns, f.path, f.dir, f.data⟩], _, HM.out.snoc HG.out ⟨HNMS.out.symm, rfl, rfl, rfl⟩, HR9.out, ?_, ?_, ?_⟩, ?_, ?_⟩
          · rw [Nd.splice_length _ _ _ (by rw [HVL.out]; simp; omega)]; exact HVL.out
          · have h3 := HF.out.snoc (fun us hus => by obtain ⟨s, _, rfl⟩ := List.mem_map.1 hus; rfl) [Value.slice nq nl nc, .string f.path, .bool f.dir, .string f.data] rfl (by rw [List.length_map, HSL.out, HVL.out]; omega)
            rw [List.length_map, HSL.out] at h3
            rw [List.map_append]
            exact h3
          · intro s hs
            refine nm_kept (w := w6) ?_ (fun b cs fr e => kept_typed e HG9.out (fun k e2 => by
              obtain rfl := Option.some.inj e2
              exact typed_ne e HRW.out (by decide)))
            rcases List.mem_append.1 hs with hs | hs
            · exact HNM8.out s hs
            · simp at hs
              subst hs
              exact HNM6.out
          · intro j f' hj hf'
            rcases Nat.lt_or_ge j i with h | h
            · exact hpr.out.noerr j f' h hf'
            · obtain rfl : j = i := by omega
              rw [HG.out] at hf'
              obtain rfl := Option.some.inj hf'
              exact HERR.out
          · exact below_of_grown (hpr.out.bel.trans (HB8.out.mono hpr.out.bel.size)) HG9.out (Nat.le_trans hpr.out.bel.size HB8.out.size) (Nat.le_refl _)
        case measure => simp [intOf]; omega
      · have hke2 : (ke != 0) = true := by simpa using hke
        have HKE := hid_in hke
        clear hke
        go_wp2_with (first | (go_at_call 47; refine (HPA.out _).mono ?_; rintro e w6 ⟨nv, rfl, hnm, hb6⟩; have HB6 := hid_in hb6; clear hnm hb6))
        go_ret2
        refine ⟨_, _, rfl, (hpr.out.bel.trans (HB5.out.mono hpr.out.bel.size)).trans (HB6.out.mono (Nat.le_trans hpr.out.bel.size HB5.out.size)), .inl ⟨HKE.out, rfl, i, f, HG.out, HERR.out, hpr.out.noerr⟩⟩
    · obtain rfl : i = fs.length := by omega
      go_wp2_with fail
      go_ret2
      obtain ⟨sp, vs, hm, hr, hl, hf, hnm⟩ := hpr.out.ex
      rw [List.take_length] at hm
      refine ⟨_, _, rfl, hpr.out.bel, .inr ⟨rfl, fun f hf => ?_, sp, ?_, hm, by rw [hm.1]; rfl, hnm⟩⟩
      · obtain ⟨j, hj⟩ := List.getElem?_of_mem hf
        exact hpr.out.noerr j f (List.getElem?_eq_some_iff.1 hj).1 hj
      · have h7 := fills_sps hr hf (by rw [hm.1]; omega)
        rw [hm.1] at h7
        exact h7
end Go.Proofs.YtngehkmdanhgpaaGreat.Pl
