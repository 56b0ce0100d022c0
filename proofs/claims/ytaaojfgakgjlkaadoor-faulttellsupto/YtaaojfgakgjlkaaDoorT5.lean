/-
  Code at every error.
-/
import Derived.Test.YtaaojfgakgjlkaaDoorT4
namespace Go.Proofs.YtaaojfgakgjlkaaDoor
open Go.RowKit Go.Extern.Stop Go.Stop Go.Extern

set_option maxHeartbeats 400000 in
theorem as_nil (t : Value) (w : World) : Calls Tryd.prog 25 #[.nilIface, t] w fun e w' => e = .returned (.bool false) ∧ w' = w := by
  go_enter Tryd.func25, Tryd.ntmps25
  go_wp2
  go_ret
  exact ⟨rfl, rfl⟩
set_option maxHeartbeats 8000000 in
set_option maxRecDepth 100000 in
theorem as_any (T : Tr) (n tb : Nat) (et : TypeId) (ex old : Value) (w : World) (hv : IsE n w T (.iface et ex)) (hn : n ≤ tb) (htl : tb < w.heap.size) (hg : w.cell? ⟨0, 0, none⟩ = some (.iface 87 (.agg #[.pointer (some ⟨4, 30, none⟩)]))) (ht0 : w.cell? ⟨tb, 0, none⟩ = some old) (hf0 : w.frozen? ⟨tb, 0, none⟩ = false) (hms : mass T ≤ 10000000) :
    Calls Tryd.prog 25 #[.iface et ex, .iface 60 (.pointer (some ⟨tb, 0, none⟩))] w fun e w' => e = .returned (.bool true) ∧ w'.cell? ⟨tb, 0, none⟩ = some (.int .i64 (codeT T : Int)) ∧ Below tb w w' := by
  have h30 := @run_callFunc_extern Tryd.prog 30 _ (fun args => ReflectliteValue.unpack (args.getD 0 (.tuple #[]))) Tryd.func30 (by kernel_rfl) (by kernel_rfl) (by kernel_rfl) (by kernel_rfl)
  have h31 := @run_callFunc_extern Tryd.prog 31 _ (ReflectliteValue.methodAny (ReflectliteValue.valueError "reflectlite.Value.Type" 0) (fun t _ _ _ => ReflectliteType.toType t)) Tryd.func31 (by kernel_rfl) (by kernel_rfl) (by kernel_rfl) (by kernel_rfl)
  have h32 := @run_callFunc_extern Tryd.prog 32 _ (ReflectliteValue.method (ReflectliteValue.valueError "reflectlite.Value.IsNil" 0) ReflectliteValue.isNil) Tryd.func32 (by kernel_rfl) (by kernel_rfl) (by kernel_rfl) (by kernel_rfl)
  have h74 := @run_callFunc_extern Tryd.prog 74 _ (ReflectliteType.abiMethod fun t => do pure (.int .u8 (← Rtype.kind t))) Tryd.func74 (by kernel_rfl) (by kernel_rfl) (by kernel_rfl) (by kernel_rfl)
  have h84 := @run_callFunc_extern Tryd.prog 84 _ (ReflectliteType.method ReflectliteType.elem) Tryd.func84 (by kernel_rfl) (by kernel_rfl) (by kernel_rfl) (by kernel_rfl)
  have h85 := @run_callFunc_extern Tryd.prog 85 _ (ReflectliteType.relation "Implements" ReflectliteType.implements_) Tryd.func85 (by kernel_rfl) (by kernel_rfl) (by kernel_rfl) (by kernel_rfl)
  have f1 := vOf60
  have f2 := ty60
  have f3 := mKind
  have f4 := kd60
  have f5 := kd31
  have f6 := mElem
  have f7 := mImpl
  have f9 := el60
  have f10 := im31
  have hlt : 0 < w.heap.size := by
    rcases Nat.eq_zero_or_pos w.heap.size with h0 | h
    · simp [World.cell?, h0] at hg
    · exact h
  have n8 := isNil60 ⟨w.heap.size, 0, none⟩ ⟨tb, 0, none⟩ ((w.alloc (.cells #[.pointer (some ⟨tb, 0, none⟩)] 60)).alloc (.cells #[.pointer (some ⟨4, 60, none⟩), .pointer (some ⟨w.heap.size, 0, none⟩), .int .u64 150] 69)) (by simp)
  have hb2 : Below w.heap.size w ((w.alloc (.cells #[.pointer (some ⟨tb, 0, none⟩)] 60)).alloc (.cells #[.pointer (some ⟨4, 60, none⟩), .pointer (some ⟨w.heap.size, 0, none⟩), .int .u64 150] 69)) := ((Below.refl _ _).alloc (Nat.le_refl _) _).alloc (by simp) _
  have HB2 := hid_in hb2
  have hg2 := (hb2.cell (p := ⟨0, 0, none⟩) hlt).trans hg
  have HCALL := hid_in (finds_all T n _ (.iface et ex) tb w.heap.size old (isE_below (hb2.mono (Nat.le_trans hn (Nat.le_of_lt htl))) _ _ hv) hn (by simp; omega) (by simp; omega) (by rw [World.cell?_alloc_lt _ _ ⟨w.heap.size, 0, none⟩ (by simp)]; simp) ((hb2.cell (p := ⟨tb, 0, none⟩) htl).trans ht0) (by rw [frozen_block (hb2.block tb htl)]; exact hf0) hms)
  clear hv hn hg ht0 hf0 hms hb2
  go_enter Tryd.func25, Tryd.ntmps25
  go_wp2_with (first
    | (go_at_call 33; refine HCALL.out.mono ?_; rintro e w3 ⟨rfl, hc3, hb3⟩; have HC3 := hid_in hc3; have HB3 := hid_in hb3; clear hc3 hb3))
  go_ret
  exact ⟨rfl, HC3.out, (HB2.out.mono (Nat.le_of_lt htl)).trans HB3.out⟩
set_option maxHeartbeats 2000000 in
set_option maxRecDepth 100000 in
theorem code_any (o : Option Tr) (n : Nat) (v : Value) (w : World) (hv : IsO n w o v) (hn : n ≤ w.heap.size) (hg : w.cell? ⟨0, 0, none⟩ = some (.iface 87 (.agg #[.pointer (some ⟨4, 30, none⟩)]))) (hms : massO o ≤ 10000000) :
    Calls Tryd.prog 10 #[v] w fun e w' => e = .returned (.int .i64 (codeO o : Int)) ∧ Below w.heap.size w w' := by
  have hba : Below w.heap.size w (w.alloc (.cells #[.int .i64 0] 31)) := (Below.refl _ _).alloc (Nat.le_refl _) _
  cases o with
  | none =>
    obtain rfl : v = .nilIface := hv
    have HBA := hid_in hba
    clear hn hg hms hba
    go_enter Tryd.func10, Tryd.ntmps10
    go_wp2_with (first | (go_at_call 25; refine (as_nil _ _).mono ?_; rintro e w' ⟨rfl, hw⟩; subst hw))
    go_ret
    exact ⟨rfl, HBA.out⟩
  | some T =>
    have hv' : IsE n w T v := hv
    obtain ⟨et, ex, rfl⟩ := isE_shape hv'
    have hlt : 0 < w.heap.size := by
      rcases Nat.eq_zero_or_pos w.heap.size with h0 | h
      · simp [World.cell?, h0] at hg
      · exact h
    have HA := hid_in (as_any T n w.heap.size et ex (.int .i64 0) (w.alloc (.cells #[.int .i64 0] 31)) (isE_below (hba.mono hn) _ _ hv') hn (by simp) ((hba.cell (p := ⟨0, 0, none⟩) hlt).trans hg) (by rw [World.cell?_alloc_at _ _ _ _ rfl]; rfl) (by simp) hms)
    have HBA := hid_in hba
    clear hv hv' hn hg hms hba
    go_enter Tryd.func10, Tryd.ntmps10
    go_wp2_with (first
      | (go_at_call 25; refine HA.out.mono ?_; rintro e w1 ⟨rfl, c1, hb1⟩; have HB1 := hid_in (HBA.out.trans hb1); clear hb1))
    go_ret
    exact ⟨rfl, HB1.out⟩
end Go.Proofs.YtaaojfgakgjlkaaDoor
