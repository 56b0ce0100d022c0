/-
  errors.As at every error: the walk of as.
-/
import Derived.Test.YtaaojfgakgjlkaaDoorT3
namespace Go.Proofs.YtaaojfgakgjlkaaDoor
open Go.RowKit Go.Extern.Stop Go.Stop Go.Extern

def valR (ab : Nat) : Value := .agg #[.pointer (some ⟨4, 60, none⟩), .pointer (some ⟨ab, 0, none⟩), .int .u64 150]
def boxR (ab : Nat) : Obj := .cells #[.pointer (some ⟨4, 60, none⟩), .pointer (some ⟨ab, 0, none⟩), .int .u64 150] 69
theorem set_cell {w : World} {tb : Nat} {X Y : Obj} {k : Int} {old : Value} (hl : tb < w.heap.size) (h : w.cell? ⟨tb, 0, none⟩ = some old) : (((w.setCell ⟨tb, 0, none⟩ (.int .i64 k)).alloc X).alloc Y).cell? ⟨tb, 0, none⟩ = some (.int .i64 k) := by
  rw [World.cell?_alloc_lt _ _ ⟨tb, 0, none⟩ (by simp; omega), World.cell?_alloc_lt _ _ ⟨tb, 0, none⟩ (by simpa using hl), World.cell?_setCell_same _ _ _ h]
theorem set_below {w : World} {tb : Nat} {X Y : Obj} {v : Value} (hl : tb < w.heap.size) : Below tb w (((w.setCell ⟨tb, 0, none⟩ v).alloc X).alloc Y) :=
  (((Below.refl tb w).setCell (p := ⟨tb, 0, none⟩) (Nat.le_refl _) v).alloc (by simp; omega) _).alloc (by simp; omega) _
theorem first_of {cur : Array Value} {v : Value} {r : List Value} {k : Nat} (h : cur.toList.take k = v :: r) (hk : 2 ≤ k) : cur[0]? = some v := by
  have h1 : (cur.toList.take k)[0]? = some v := by rw [h]; rfl
  rw [List.getElem?_take, if_pos (by omega), Array.getElem?_toList] at h1
  exact h1
theorem frozen_block {W W' : World} {b : Nat} (h : W'.heap[b]? = W.heap[b]?) : W'.frozen? ⟨b, 0, none⟩ = W.frozen? ⟨b, 0, none⟩ := by simp [World.frozen?, h]
/-- what errors.as does at an error -/
def Finds (T : Tr) : Prop := ∀ (n : Nat) (w : World) (v : Value) (tb ab : Nat) (old : Value), IsE n w T v → n ≤ tb → tb < w.heap.size → ab < w.heap.size → w.cell? ⟨ab, 0, none⟩ = some (.pointer (some ⟨tb, 0, none⟩)) → w.cell? ⟨tb, 0, none⟩ = some old → w.frozen? ⟨tb, 0, none⟩ = false → mass T ≤ 10000000 →
  Calls Tryd.prog 33 #[v, .iface 60 (.pointer (some ⟨tb, 0, none⟩)), .agg #[.pointer (some ⟨4, 60, none⟩), .pointer (some ⟨ab, 0, none⟩), .int .u64 150], .iface 87 (.agg #[.pointer (some ⟨4, 31, none⟩)])] w fun e w' => e = .returned (.bool true) ∧ w'.cell? ⟨tb, 0, none⟩ = some (.int .i64 (codeT T : Int)) ∧ Below tb w w'
set_option maxHeartbeats 8000000 in
set_option maxRecDepth 100000 in
theorem finds_step (T : Tr) (ih : ∀ t, deepT t < deepT T → Finds t) : Finds T := by
  intro n w v tb ab old hv hn htl hal ha ht0 hf0 hms
  have h30 := @run_callFunc_extern Tryd.prog 30 _ (fun args => ReflectliteValue.unpack (args.getD 0 (.tuple #[]))) Tryd.func30 (by kernel_rfl) (by kernel_rfl) (by kernel_rfl) (by kernel_rfl)
  have h39 := @run_callFunc_extern Tryd.prog 39 _ ReflectliteType.typeOf Tryd.func39 (by kernel_rfl) (by kernel_rfl) (by kernel_rfl) (by kernel_rfl)
  have h82 := @run_callFunc_extern Tryd.prog 82 _ (ReflectliteType.relation "AssignableTo" ReflectliteType.assignableTo) Tryd.func82 (by kernel_rfl) (by kernel_rfl) (by kernel_rfl) (by kernel_rfl)
  have h40 := @run_callFunc_extern Tryd.prog 40 _ (ReflectliteValue.method (ReflectliteValue.valueError "reflectlite.Value.Elem" 0) ReflectliteValue.elem) Tryd.func40 (by kernel_rfl) (by kernel_rfl) (by kernel_rfl) (by kernel_rfl)
  have h41 := @run_callFunc_extern Tryd.prog 41 _ ReflectliteValue.set Tryd.func41 (by kernel_rfl) (by kernel_rfl) (by kernel_rfl) (by kernel_rfl)
  have f8 := mAss
  have f11 := tO42
  have f12 := tO31
  have f12b := tO44
  have f13 := as42
  have f14 := as31
  have f14b := as44
  have f15 := vOf31
  have f16 := u42_92
  have f17 := u42_95
  have f18 := mU42
  have f19 := u44_92
  have f20 := u44_95
  have f21 := u44_96
  have f22 := mU44
  have HBX : Hid (Below w.heap.size w (w.alloc (boxR ab))) := (Below.refl _ _).alloc (Nat.le_refl _) _
  have el := elV60 ⟨ab, 0, none⟩ ⟨tb, 0, none⟩ (w.alloc (boxR ab)) ((HBX.out.cell (p := ⟨ab, 0, none⟩) hal).trans ha)
  have HST : Hid (∀ k, (ReflectliteValue.set #[.agg #[.pointer (some ⟨4, 31, none⟩), .pointer (some ⟨tb, 0, none⟩), .int .u64 386], .agg #[.pointer (some ⟨4, 31, none⟩), .pointer (some ⟨w.heap.size + 1, 0, none⟩), .int .u64 130]]).run Tryd.prog ((w.alloc (boxR ab)).alloc (.cells #[.int .i64 k] 31)) = .ok (.tuple #[]) (((w.alloc (boxR ab)).alloc (.cells #[.int .i64 k] 31)).setCell ⟨tb, 0, none⟩ (.int .i64 k))) := fun k =>
    set31 ⟨tb, 0, none⟩ ⟨w.heap.size + 1, 0, none⟩ k old _ (by rw [World.cell?_alloc_at _ _ _ _ (by simp)]; rfl) (by rw [World.cell?_alloc_lt _ _ ⟨tb, 0, none⟩ (by simp; omega), World.cell?_alloc_lt _ _ ⟨tb, 0, none⟩ htl]; exact ht0) (by rw [World.frozen?_alloc_old _ _ ⟨tb, 0, none⟩ (by simp; omega), World.frozen?_alloc_old _ _ ⟨tb, 0, none⟩ (Nat.ne_of_lt htl)]; exact hf0)
  have HV := hid_in hv
  have HN := hid_in hn
  have HIH := hid_in ih
  have HMS := hid_in hms
  have HA := hid_in ha
  have HT0 := hid_in ht0
  have HF0 := hid_in hf0
  have HHT := hid_in (show w.heap[tb]? ≠ none by
    intro e
    have := Array.getElem?_eq_none_iff.1 e
    omega)
  unfold boxR at el HST
  clear hv hn ih hms ha ht0 hf0
  go_enter Tryd.func33, Tryd.ntmps33
  go_wp2_with fail
  have HB1 : Hid (Below w.heap.size w (w.alloc (.cells #[.pointer (some ⟨4, 60, none⟩), .pointer (some ⟨ab, 0, none⟩), .int .u64 150] 69))) := HBX.out
  go_loopg [0] (deepT T) (fun g v0 W => ∃ T', g = deepT T' ∧ Hid (IsE n w T' v0) ∧ Hid (codeT T' = codeT T) ∧ Hid (mass T' ≤ 10000000) ∧ Hid (deepT T' ≤ deepT T) ∧ W = w.alloc (.cells #[.pointer (some ⟨4, 60, none⟩), .pointer (some ⟨ab, 0, none⟩), .int .u64 150] 69))
  case atStart => exact ⟨T, rfl, HV, rfl, HMS, Nat.le_refl _, rfl⟩
  case round =>
    obtain ⟨T', rfl, HI, HC, HM, HD, rfl⟩ := hrel
    cases T' with
    | num k =>
      have hv' : IsE n w (.num k) u0 := HI.out
      unfold IsE at hv'
      obtain ⟨rfl, _, _⟩ := hv'
      have st := HST.out (k : Int)
      clear HST HIH HV
      go_wp2_with fail
      go_ret
      refine ⟨rfl, ?_, ?_⟩
      · rw [← HC.out]
        exact set_cell htl HT0.out
      · exact set_below htl
    | flt op path t =>
      have hv' : IsE n w (.flt op path t) u0 := HI.out
      unfold IsE at hv'
      obtain ⟨fb, ev, rfl, hfb, hrow, hEk⟩ := hv'
      obtain ⟨et, ex, rfl⟩ := isE_shape hEk
      have HROW := hid_in hrow
      have HEK := hid_in hEk
      clear hrow hEk HST HIH el
      go_wp2_with (first | (go_at_call 17; refine (funwrap_any fb _ _ (.iface et ex) _ ((HB1.out.block fb (by have := HN.out; omega)).trans HROW.out)).mono ?_; rintro e w' ⟨rfl, hw⟩; subst hw))
      go_roundg (deepT t)
      case measure => simp [deepT]
      case rel => exact ⟨t, rfl, HEK, HC.out, Nat.le_trans (by show mass t ≤ op.length + path.length + 1 + mass t; omega) HM.out, Nat.le_trans (by show deepT t ≤ deepT t + 1; omega) HD.out, rfl⟩
    | lst ts =>
      have hv' : IsE n w (.lst ts) u0 := HI.out
      unfold IsE at hv'
      obtain ⟨fb, fg, fc, vs, rfl, hfb, hrow, hfg, hf2, hfl, hf9, hfcl, hEk⟩ := hv'
      have hml : (ts.list.map mass).sum ≤ 10000000 := by
        have h := HM.out
        unfold mass at h
        rw [massL_list] at h
        omega
      have hvl := (isEs_list hEk).1
      have hv9 : vs.length ≤ 100000000 := by have := len_massL ts.list; omega
      have HU := hid_in (lunwrap_any fb fg fc vs (w.alloc (.cells #[.pointer (some ⟨4, 60, none⟩), .pointer (some ⟨ab, 0, none⟩), .int .u64 150] 69)) ((HB1.out.block fb (by have := HN.out; omega)).trans hrow) (fun j z hz => (HB1.out.cell (p := ⟨fg, j, none⟩) (by show fg < _; have := HN.out; omega)).trans (hfcl j z hz)) (fun z hz => by
        obtain ⟨y, hy⟩ := List.mem_iff_getElem?.1 hz
        obtain ⟨t, _, ht⟩ := (isEs_list hEk).2 y z hy
        exact isE_one ht) hv9 (by omega))
      cases ts with
      | nil =>
        cases vs with
        | nil => simp at hf2
        | cons a r => unfold IsEs at hEk; exact hEk.elim
      | cons t ts =>
        cases vs with
        | nil => simp at hf2
        | cons a r =>
          unfold IsEs at hEk
          obtain ⟨et, ex, rfl⟩ := isE_shape hEk.1
          have HEK := hid_in hEk.1
          have HFT := hid_in (HIH.out t (by have h1 := HD.out; have e : deepT (.lst (.cons t ts)) = deepT t + 1 := rfl; omega))
          have HMT : Hid (mass t ≤ 10000000) := by
            show mass t ≤ 10000000
            have := mass_mem (l := (TrL.cons t ts).list) (t := t) (by simp [TrL.list])
            omega
          obtain ⟨kn, hkn⟩ : ∃ kn, ((Value.iface et ex) :: r).length = kn := ⟨_, rfl⟩
          rw [hkn] at HU hf2 hfl
          clear hrow hEk hfcl hml hvl hv9 HST HIH el hkn
          have kk : (0 : Int) < (kn : Int) := by omega
          go_wp2_with (first
            | (go_at_call 29; refine HU.out.mono ?_; rintro e w2 ⟨g3, cap3, cur, rfl, hc3, hc4, hg3, hgr, htk, hb2⟩; have c3 : w2.cell? ⟨g3, 0, none⟩ = some (.iface et ex) := (by rw [cell_of_row w2 g3 0 _ _ (0, 0) hgr]; exact first_of htk hf2); have HB2 := hid_in hb2; clear hgr htk hb2 HU))
          have HBW2 : Hid (Below w.heap.size w w2) := HB1.out.trans (HB2.out.mono HB1.out.size)
          obtain ⟨b0, b1, b2⟩ : w2.cell? ⟨w.heap.size, 0, none⟩ = some (.pointer (some ⟨4, 60, none⟩)) ∧ w2.cell? ⟨w.heap.size, 1, none⟩ = some (.pointer (some ⟨ab, 0, none⟩)) ∧ w2.cell? ⟨w.heap.size, 2, none⟩ = some (.int .u64 150) := by
            have hh := (HB2.out.block w.heap.size (by simp)).trans (World.alloc_heap_new w (.cells #[.pointer (some ⟨4, 60, none⟩), .pointer (some ⟨ab, 0, none⟩), .int .u64 150] 69))
            exact cell_row3 hh
          have HFF : Hid (w2.frozen? ⟨tb, 0, none⟩ = false) := by
            show w2.frozen? _ = false
            rw [frozen_block (HBW2.out.block tb htl)]; exact HF0.out
          have HCALL := hid_in (HFT.out n w2 (.iface et ex) tb ab old (isE_below (HBW2.out.mono (by have := HN.out; omega)) _ _ HEK.out) HN.out (Nat.lt_of_lt_of_le htl HBW2.out.size) (Nat.lt_of_lt_of_le hal HBW2.out.size) ((HBW2.out.cell (p := ⟨ab, 0, none⟩) hal).trans HA.out) ((HBW2.out.cell (p := ⟨tb, 0, none⟩) htl).trans HT0.out) HFF.out HMT.out)
          refine wp_loop_rounds 1 ?_
          rw [rounds_succ]
          go_wp2_with (first
            | (go_at_call 33; refine HCALL.out.mono ?_; rintro e w3 ⟨rfl, hc3, hb3⟩; have HC3 := hid_in hc3; have HB3 := hid_in hb3; clear hc3 hb3))
          go_ret
          refine ⟨rfl, ?_, (HBW2.out.mono (Nat.le_of_lt htl)).trans HB3.out⟩
          rw [← HC.out]
          exact HC3.out
theorem finds_all (T : Tr) : Finds T := by
  have h : ∀ D T, deepT T ≤ D → Finds T := by
    intro D
    induction D with
    | zero => intro T hT; have := deep_pos T; omega
    | succ D ih => intro T hT; exact finds_step T (fun t ht => ih t (by omega))
  exact h _ T (Nat.le_refl _)
end Go.Proofs.YtaaojfgakgjlkaaDoor
