/-
  The walks of Find's closure, of slices.IndexFunc over it, and of Find.
-/
import Derived.Test.YtbccjomnfclkdaaM0
namespace Go.Proofs.Ytbccjomnfclkdaa
open Go.RowKit
theorem toList_eq_iff {a b : ByteArray} : (a.toList == b.toList) = decide (a = b) := by
  by_cases h : a = b
  · subst h; simp
  · rw [decide_eq_false h, beq_eq_false_iff_ne]
    intro e
    apply h
    rw [Lib.toList_data, Lib.toList_data] at e
    cases a
    cases b
    simp only [ByteArray.mk.injEq]
    exact Array.toList_inj.1 e
set_option maxHeartbeats 1000000 in
theorem find1_any (x : It) (nm : ByteArray) (w : World) (g : Nat) (hg : w.cell? ⟨g, 0, none⟩ = some (.string nm)) :
    Calls Try.prog 40 #[.agg x.cells.toArray, .pointer (some ⟨g, 0, none⟩)] w fun e w' => e = .returned (.bool (decide (x.name = nm))) ∧ Below w.heap.size w w' := by
  have HB : Hid (Below w.heap.size w (w.alloc (.cells x.cells.toArray 51))) := (Below.refl _ _).alloc (Nat.le_refl _) _
  have c0 : (w.alloc (.cells x.cells.toArray 51)).cell? ⟨w.heap.size, 0, none⟩ = some (.string x.name) := (Row.new w x.cells 51).cell 0
  have c1 : (w.alloc (.cells x.cells.toArray 51)).cell? ⟨g, 0, none⟩ = some (.string nm) := (HB.out.cell (p := ⟨g, 0, none⟩) (World.block_lt_of_cell? w _ hg)).trans hg
  have hq := @toList_eq_iff x.name nm
  generalize x.cells = E at *
  generalize x.name = m at *
  clear hg
  go_enter Try.func40, Try.ntmps40
  go_wp2_with fail
  go_ret
  exact ⟨rfl, HB.out⟩
/-- the first item of that name -/
def At (l : List It) (nm : ByteArray) (r : Int) : Prop := (∃ (i : Nat) (x : It), r = (i : Int) ∧ l[i]? = some x ∧ x.name = nm ∧ ∀ (k : Nat), k < i → ∀ (y : It), l[k]? = some y → y.name ≠ nm) ∨ (r = -1 ∧ ∀ (k : Nat) (y : It), l[k]? = some y → y.name ≠ nm)
set_option maxHeartbeats 2000000 in
set_option maxRecDepth 100000 in
theorem index_any (l : List It) (nm : ByteArray) (p : Option Addr) (cap : Nat) (w : World) (g : Nat) (hg : w.cell? ⟨g, 0, none⟩ = some (.string nm)) (hl : Els w (.slice p l.length cap) 34 (l.map It.cells)) (hn : l.length ≤ 1048576) :
    Calls Try.prog 39 #[.slice p l.length cap, .func (.func 40) #[] #[.pointer (some ⟨g, 0, none⟩)]] w fun e w' => (∃ r : Int, e = .returned (.int .i64 r) ∧ At l nm r) ∧ Below w.heap.size w w' := by
  have HEA := hid_in hl.each
  obtain ⟨p', cap', b, o, hv, hc1, hc2, hpp, hat⟩ := hl.ex
  rw [List.length_map] at hv hc1
  simp only [Value.slice.injEq, true_and] at hv
  obtain ⟨rfl, rfl⟩ := hv
  have HPP := hid_in hpp
  have HAT := hid_in hat
  have HG := hid_in hg
  clear hl hpp hat hg
  go_enter Try.func39, Try.ntmps39
  go_wp2_with fail
  go_loopw [8] (fun vi W => ∃ i : Nat, vi = .int .i64 (i : Int) ∧ i ≤ l.length ∧ Hid (∀ (k : Nat), k < i → ∀ (y : It), l[k]? = some y → y.name ≠ nm) ∧ Hid (Below w.heap.size w W)) (fun vi _ => l.length - (intOf vi).toNat)
  case atStart => exact ⟨0, rfl, by omega, fun k hk => by omega, Below.refl _ _⟩
  case round =>
    obtain ⟨i, rfl, hi, HF, HB⟩ := hrel
    by_cases hlt : i < l.length
    · obtain ⟨x, hdd⟩ : ∃ x, l[i]? = some x := ⟨_, List.getElem?_eq_getElem hlt⟩
      have hne : l.map It.cells ≠ [] := by intro h; simp at h; rw [h] at hdd; simp at hdd
      obtain ⟨hq1, hq2⟩ := HPP.out hne
      subst hq1
      have HR : Hid (wr.rangeAt b (o + i * 34) x.cells) := rangeAt_below (HAT.out i x.cells (by simp [hdd])) HB.out hq2
      have HEL : Hid (x.cells.length = 34) := HEA.out _ (List.mem_map.2 ⟨x, List.mem_of_getElem? hdd, rfl⟩)
      have hgr : wr.cell? ⟨g, 0, none⟩ = some (.string nm) := (HB.out.cell (p := ⟨g, 0, none⟩) (World.block_lt_of_cell? w _ HG.out)).trans HG.out
      have HC := hid_in (find1_any x nm wr g hgr)
      have HDD := hid_in hdd
      obtain ⟨E, HE⟩ : ∃ E, Hid (x.cells = E) := ⟨_, rfl⟩
      rw [HE.out] at HEL HR HC
      clear hdd hne hq2 hgr
      by_cases hnm : x.name = nm
      · rw [decide_eq_true hnm] at HC
        have HAT2 : Hid (At l nm (i : Int)) := Or.inl ⟨i, x, rfl, HDD.out, hnm, HF.out⟩
        clear hnm HF HDD
        go_wp2_with (first | (refine wpList_load_mid rfl 51 _ rfl b _ rfl E _ HR.out Try.underlying51 rfl (by rw [info51, HEL.out]) ?_; simp only [Act.put, List.setIfInBounds_toArray, List.set_cons_zero, List.set_cons_succ]) | (go_at_call 40; refine HC.out.mono ?_; rintro e w2 ⟨rfl, hb2⟩; have HB2 := hid_in (HB.out.trans (hb2.mono HB.out.size)); clear hb2))
        go_ret
        exact ⟨⟨_, rfl, HAT2.out⟩, HB2.out⟩
      · rw [decide_eq_false hnm] at HC
        have HF2 : Hid (∀ (k : Nat), k < i + 1 → ∀ (y : It), l[k]? = some y → y.name ≠ nm) := fun k hk y hy => by
          by_cases hki : k < i
          · exact HF.out k hki y hy
          · obtain rfl : k = i := by omega
            rw [HDD.out] at hy
            cases hy
            exact hnm
        clear hnm HF HDD
        go_wp2_with (first | (refine wpList_load_mid rfl 51 _ rfl b _ rfl E _ HR.out Try.underlying51 rfl (by rw [info51, HEL.out]) ?_; simp only [Act.put, List.setIfInBounds_toArray, List.set_cons_zero, List.set_cons_succ]) | (go_at_call 40; refine HC.out.mono ?_; rintro e w2 ⟨rfl, hb2⟩; have HB2 := hid_in (HB.out.trans (hb2.mono HB.out.size)); clear hb2))
        go_roundw
        case measure => simp [intOf]; omega
        case rel =>
          go_light
          exact ⟨i + 1, by go_num, by omega, HF2, HB2⟩
    · obtain rfl : i = l.length := by omega
      have HAT2 : Hid (At l nm (-1)) := Or.inr ⟨rfl, fun k y hy => HF.out k (List.getElem?_eq_some_iff.1 hy).1 y hy⟩
      clear HF
      go_wp2_with fail
      go_ret
      exact ⟨⟨_, rfl, HAT2.out⟩, HB.out⟩
def z34 : List Value := It.cells zeroI
theorem find_rows (w : World) (nd : List Value) (nm : ByteArray) : ∃ W, Hid (((w.alloc (.cells nd.toArray 31)).alloc (.cells #[.string nm] 9)).alloc (.cells #[.string ⟨#[]⟩, .int .i64 0, .int .u8 0, .int .u8 0, .int .u8 0, .int .u8 0, .int .u8 0, .int .u8 0, .int .u8 0, .int .u8 0, .int .u8 0, .int .u8 0, .int .u8 0, .int .u8 0, .int .u8 0, .int .u8 0, .int .u8 0, .int .u8 0, .int .u8 0, .int .u8 0, .int .u8 0, .int .u8 0, .int .u8 0, .int .u8 0, .int .u8 0, .int .u8 0, .int .u8 0, .int .u8 0, .int .u8 0, .int .u8 0, .int .u8 0, .int .u8 0, .int .u8 0, .int .u8 0] 51) = W) ∧ Hid (Row W w.heap.size nd 31) ∧ Hid (Row W (w.heap.size + 1) [.string nm] 9) ∧ Hid (Row W (w.heap.size + 1 + 1) z34 51) ∧ Hid (Below w.heap.size w W) ∧ Hid (W.heap.size = w.heap.size + 3) := by
  refine ⟨_, rfl, ?_, ?_, ?_, ?_, by show _ = _; simp⟩
  · exact ((Row.new w nd 31).alloc _).alloc _
  · exact (Row.newAt _ _ [.string nm] 9 (by simp)).alloc _
  · exact Row.newAt _ _ z34 51 (by simp)
  · exact (((Below.refl _ _).alloc (Nat.le_refl _) _).alloc (by simp) _).alloc (by simp; omega) _
theorem build_z (w : World) : (Instr.build 51 #[]).run Try.prog w = .ok (.agg z34.toArray) w := run_build w 51 _ _ (by kernel_rfl)
/-- what Find answers -/
def Found (l : List It) (nm : ByteArray) (x : It) (ok : Bool) : Prop := (ok = true ∧ ∃ i : Nat, l[i]? = some x ∧ x.name = nm ∧ ∀ (k : Nat), k < i → ∀ (y : It), l[k]? = some y → y.name ≠ nm) ∨ (ok = false ∧ x = zeroI ∧ ∀ (k : Nat) (y : It), l[k]? = some y → y.name ≠ nm)
set_option maxHeartbeats 2000000 in
set_option maxRecDepth 100000 in
theorem find_w (w : World) (nk : Int) (nd : ByteArray) (ns : Int) (pp : Option Addr) (lp cp : Nat) (pi : Option Addr) (ci : Nat) (ni : List It) (nm : ByteArray) (hi : Els w (.slice pi ni.length ci) 34 (ni.map It.cells)) (hok : ∀ x ∈ ni, x.ok) (li : ni.length ≤ 1048576) :
    Calls Try.prog 18 #[.agg #[.int .i64 nk, .string nd, .int .i64 ns, .slice pp lp cp, .slice pi ni.length ci], .string nm] w fun e w' => (∃ x ok, e = .returned (.tuple #[.agg x.cells.toArray, .bool ok]) ∧ x.sum.length = 32 ∧ Found ni nm x ok) ∧ Below w.heap.size w w' := by
  obtain ⟨W0, HW0, HR0, HR1, HR2, HB0, HS0⟩ := find_rows w [.int .i64 nk, .string nd, .int .i64 ns, .slice pp lp cp, .slice pi ni.length ci] nm
  have HIX := hid_in (index_any ni nm pi ci W0 (w.heap.size + 1) (HR1.out.cell 0) (hi.below HB0.out) li)
  have c4 : W0.cell? ⟨w.heap.size, 4, none⟩ = some (.slice pi ni.length ci) := HR0.out.cell 4
  have HOK := hid_in hok
  have HI := hid_in hi
  clear hok hi
  go_enter Try.func18, Try.ntmps18
  go_upto_region 1 with fail
  refine wp_world HW0.out ?_
  clear HW0
  go_upto_region 2 with (first | (go_at_call 39; refine HIX.out.mono ?_; rintro e w1 ⟨⟨r, rfl, hat⟩, hb1⟩; have HAT := hid_in hat; have HB1 := hid_in hb1; clear hat hb1))
  have HB2 : Hid (Below w.heap.size w w1) := HB0.out.trans (HB1.out.mono HB0.out.size)
  have hr1 := HR0.out.below HB1.out HR0.out.lt
  have d4 : w1.cell? ⟨w.heap.size, 4, none⟩ = some (.slice pi ni.length ci) := hr1.cell 4
  have hrz := HR2.out.below HB1.out HR2.out.lt
  have HZL : Hid (z34.length = 34) := rfl
  have HZ1 : Hid (∀ v ∈ z34, v.oneCell' = true) := It.one _
  clear hr1 c4 HIX
  rcases HAT.out with ⟨i, x, rfl, hix, hnm, hfi⟩ | ⟨rfl, hno⟩
  · have hlt : i < ni.length := (List.getElem?_eq_some_iff.1 hix).1
    obtain ⟨p', cap', b, o, hv, hc1, hc2, hpp, hat⟩ := HI.out.ex
    rw [List.length_map] at hv hc1
    simp only [Value.slice.injEq, true_and] at hv
    obtain ⟨rfl, rfl⟩ := hv
    have hne : ni.map It.cells ≠ [] := by intro h; simp at h; rw [h] at hix; simp at hix
    obtain ⟨hq1, hq2⟩ := hpp hne
    subst hq1
    have HR : Hid (w1.rangeAt b (o + i * 34) x.cells) := rangeAt_below (hat i x.cells (by simp [hix])) HB2.out hq2
    have hxo := HOK.out x (List.mem_of_getElem? hix)
    have HEL : Hid (x.cells.length = 34) := It.cells_length _ hxo.sum.1
    have HE1 : Hid (∀ v ∈ x.cells, v.oneCell' = true) := It.one _
    have HFD : Hid (Found ni nm x true) := Or.inl ⟨rfl, i, hix, hnm, hfi⟩
    have HSL := hid_in hxo.sum.1
    have HSP : Hid (splice z34 0 x.cells = x.cells) := splice_all _ _ (by rw [HEL.out, HZL.out])
    obtain ⟨E, HE⟩ : ∃ E, Hid (x.cells = E) := ⟨_, rfl⟩
    rw [HE.out] at HR HEL HE1 HSP
    clear hpp hat hne hq2 hxo hix hnm hfi HAT
    go_wp2_with (first | (refine wpList_load_mid rfl 51 _ rfl b _ rfl E _ HR.out Try.underlying51 rfl (by rw [info51, HEL.out]) ?_; simp only [Act.put, List.setIfInBounds_toArray, List.set_cons_zero, List.set_cons_succ]) | (refine wpList_store_Row rfl 51 _ _ rfl (w.heap.size + 1 + 1) 0 E rfl rfl 51 z34 hrz 34 info51 HEL.out (by rw [HZL.out]; decide) HE1.out ?_; intro w3 hr3 hg3 hs3; have HR3 := hid_in hr3; have HG3 := hid_in hg3; clear hr3 hg3 hs3))
    have hr4 := HR3.out
    rw [HSP.out] at hr4
    refine post_Row2 4 5 51 Try.results18 (w.heap.size + 1 + 1) rfl 51 _ hr4 _ Try.underlying51 rfl 34 info51 HEL.out rfl ?_
    refine ⟨⟨x, true, ?_, HSL.out, HFD.out⟩, HB2.out.grown HG3.out HB2.out.size (fun q hq => by cases hq; omega)⟩
    rw [HE.out]
    rfl
  · have HFD : Hid (Found ni nm zeroI false) := Or.inr ⟨rfl, rfl, hno⟩
    have HSP : Hid (splice z34 0 z34 = z34) := splice_all _ _ rfl
    have HBZ := hid_in build_z
    clear hno HAT
    generalize hZ : z34 = Z at *
    go_wp2_with (first | (refine wpList_build rfl 51 _ rfl #[] (by simp only [List.map_toArray, List.map_nil]) _ (HBZ.out _) ?_; simp only [Act.put, List.setIfInBounds_toArray, List.set_cons_zero, List.set_cons_succ]) | (refine wpList_store_Row rfl 51 _ _ rfl (w.heap.size + 1 + 1) 0 Z rfl rfl 51 Z hrz 34 info51 HZL.out (by rw [HZL.out]; decide) HZ1.out ?_; intro w3 hr3 hg3 hs3; have HR3 := hid_in hr3; have HG3 := hid_in hg3; clear hr3 hg3 hs3))
    have hr4 := HR3.out
    rw [HSP.out] at hr4
    refine post_Row2 4 5 51 Try.results18 (w.heap.size + 1 + 1) rfl 51 _ hr4 _ Try.underlying51 rfl 34 info51 HZL.out rfl ?_
    refine ⟨⟨zeroI, false, ?_, rfl, HFD.out⟩, HB2.out.grown HG3.out HB2.out.size (fun q hq => by cases hq; omega)⟩
    rw [← hZ]
    rfl
theorem find_any (w : World) (v : Value) (n : Nd) (nm : ByteArray) (h : IsN w v n) (li : n.items.length ≤ 1048576) : Calls Try.prog 18 #[v, .string nm] w fun e w' => (∃ x ok, e = .returned (.tuple #[.agg x.cells.toArray, .bool ok]) ∧ x.sum.length = 32 ∧ Found n.items nm x ok) ∧ Below w.heap.size w w' := by
  have hok := h.ok
  obtain ⟨pp, cp, pi, ci, rfl⟩ := h.form
  obtain ⟨vp, vi, hv, hp, hi⟩ := h.ex
  simp only [Value.agg.injEq, Array.mk.injEq, List.cons.injEq, and_true, true_and] at hv
  obtain ⟨rfl, rfl⟩ := hv
  exact find_w w n.kind n.data n.size pp _ cp pi ci n.items nm hi hok.items li
end Go.Proofs.Ytbccjomnfclkdaa
