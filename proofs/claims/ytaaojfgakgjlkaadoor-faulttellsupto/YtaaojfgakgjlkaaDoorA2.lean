/-
  The walks of whole, of the errors' own texts, of Text.
-/
import Derived.Test.YtaaojfgakgjlkaaDoorA1
import Derived.RangeFuncRecord
namespace Go.Proofs.YtaaojfgakgjlkaaDoor
open Go.RowKit

set_option maxHeartbeats 400000 in
set_option maxRecDepth 100000 in
theorem tell_lst (ts : TrL) (ih : ∀ t ∈ ts.list, Tells t) : Tells (.lst ts) := by
  intro n Bb b l w v hv hn ht hb hB hl
  unfold IsE at hv
  obtain ⟨g, h, cap, vs, rfl, hg, hrow, hh, _, hcap, hbig, hcell, hkids⟩ := hv
  rw [text_lst] at hl ⊢
  have HF := hid_in (tellList_any ts ih n Bb b g h cap vs l w hg hh hrow hcap hbig hcell hkids hn ht hb hB hl)
  have t1 := ta44_42
  have t2 := ta44_44
  clear hrow hkids ht hb hl hcell
  go_enter Tryd.func36, Tryd.ntmps36
  go_wp2_with (first
    | (go_at_call 44; refine HF.out.mono ?_; rintro e w1 ⟨rfl, hb1, hbel⟩; have HB1 := hid_in hb1; have HBW := hid_in hbel; clear hb1 hbel))
  go_end0
  exact ⟨rfl, HB1.out, HBW.out⟩
theorem tell_all (T : Tr) : Tells T :=
  Tr.rec (motive_1 := Tells) (motive_2 := fun ts => ∀ t ∈ ts.list, Tells t) tell_num (fun op path t ih => tell_flt op path t ih) (fun ts ih => tell_lst ts ih)
    (fun t ht => by cases ht) (fun t ts h1 h2 u hu => by
      simp only [TrL.list, List.mem_cons] at hu
      rcases hu with rfl | hu
      · exact h1
      · exact h2 u hu) T

set_option maxHeartbeats 400000 in
set_option maxRecDepth 100000 in
theorem whole_any (T : Tr) (n : Nat) (v : Value) (w : World) (hv : IsE n w T v) (hn : n ≤ w.heap.size) (ht : Tab n w) (hl : (textS T).length ≤ 140737488355328) :
    Calls Tryd.prog 28 #[v] w fun e w' => e = .returned (.string (B (textS T))) ∧ Below w.heap.size w w' := by
  have hb0 : Lib.IsBuilder 83 5 w.heap.size w.heap.size (Lib.byteCells []) (w.alloc (.cells #[.pointer none, .slice none 0 0] 83)) :=
    .inl ⟨Nat.le_refl _, .slice none 0 0, World.alloc_heap_new w _, World.ownsRow_nil _ _ _ _, by simp [Value.ownBlock]⟩
  have hbel : Below w.heap.size w (w.alloc (.cells #[.pointer none, .slice none 0 0] 83)) := (Below.refl _ _).alloc (Nat.le_refl _) _
  have HT := hid_in (tell_all T n w.heap.size w.heap.size [] _ v (isE_below (hbel.mono hn) _ _ hv) hn (ht.below (hbel.mono hn)) hb0 (by simp) (by simpa using hl))
  rw [List.nil_append] at HT
  have HBE := hid_in hbel
  have HS := hid_in (fun (W : World) (hb : Lib.IsBuilder 83 5 w.heap.size w.heap.size (Lib.byteCells (textS T)) W) (hB : w.heap.size ≤ W.heap.size) => Tryd.Builder_String_any w.heap.size w.heap.size (textS T) W hb hB)
  have HS2 : Hid (∀ (W : World) (hb : Lib.IsBuilder 83 5 w.heap.size w.heap.size (Lib.byteCells (textS T)) W) (hB : w.heap.size ≤ W.heap.size), Calls Tryd.prog 37 #[.pointer (some ⟨w.heap.size, 0, none⟩)] W fun e w' => e = .returned (.string (B (textS T))) ∧ Below w.heap.size W w') := HS
  clear hb0 hbel hv ht hl HS
  go_enter Tryd.func28, Tryd.ntmps28
  go_wp2_with (first
    | (go_at_call 36; refine HT.out.mono ?_; rintro e w1 ⟨rfl, hb1, hbel⟩; have HB1 := hid_in hb1; have HBW := hid_in (HBE.out.trans hbel); clear hb1 hbel)
    | (go_at_call 37; refine (HS2.out _ HB1.out HBW.out.size).mono ?_; rintro e w2 ⟨rfl, hbel⟩; have HBW2 := hid_in (HBW.out.trans hbel); clear hbel))
  go_ret
  exact ⟨rfl, HBW2.out⟩

set_option maxHeartbeats 400000 in
set_option maxRecDepth 100000 in
theorem ferr_any (T : Tr) (n : Nat) (p : Value) (w : World) (hv : IsE n w T (.iface 42 p)) (hn : n ≤ w.heap.size) (ht : Tab n w) (hl : (textS T).length ≤ 140737488355328) :
    Calls Tryd.prog 16 #[p] w fun e w' => e = .returned (.string (B (textS T))) ∧ Below w.heap.size w w' := by
  have HW := hid_in (whole_any T n _ w hv hn ht hl)
  clear hv ht hl
  go_enter Tryd.func16, Tryd.ntmps16
  go_wp2_with (first
    | (go_at_call 28; refine HW.out.mono ?_; rintro e w1 ⟨rfl, hbel⟩; have HBW := hid_in hbel; clear hbel))
  go_ret
  exact ⟨rfl, HBW.out⟩
set_option maxHeartbeats 400000 in
set_option maxRecDepth 100000 in
theorem lerr_any (T : Tr) (n : Nat) (p : Value) (w : World) (hv : IsE n w T (.iface 44 p)) (hn : n ≤ w.heap.size) (ht : Tab n w) (hl : (textS T).length ≤ 140737488355328) :
    Calls Tryd.prog 18 #[p] w fun e w' => e = .returned (.string (B (textS T))) ∧ Below w.heap.size w w' := by
  have HW := hid_in (whole_any T n _ w hv hn ht hl)
  clear hv ht hl
  go_enter Tryd.func18, Tryd.ntmps18
  go_wp2_with (first
    | (go_at_call 28; refine HW.out.mono ?_; rintro e w1 ⟨rfl, hbel⟩; have HBW := hid_in hbel; clear hbel))
  go_ret
  exact ⟨rfl, HBW.out⟩

/-- an error, or none -/
def IsO (n : Nat) (W : World) : Option Tr → Value → Prop
  | none, v => v = .nilIface
  | some T, v => IsE n W T v
def textO : Option Tr → Str
  | none => []
  | some T => textS T
theorem isO_below {n : Nat} {W W' : World} (h : Below n W W') {o : Option Tr} {v : Value} (hv : IsO n W o v) : IsO n W' o v := by
  cases o with
  | none => exact hv
  | some T => exact isE_below h T v hv
theorem isO_mono {n m : Nat} (h : n ≤ m) {W : World} {o : Option Tr} {v : Value} (hv : IsO n W o v) : IsO m W o v := by
  cases o with
  | none => exact hv
  | some T => exact isE_mono h T v hv

set_option maxHeartbeats 400000 in
set_option maxRecDepth 100000 in
theorem text_any (o : Option Tr) (n : Nat) (v : Value) (w : World) (hv : IsO n w o v) (hn : n ≤ w.heap.size) (ht : Tab n w) (hl : (textO o).length ≤ 140737488355328) :
    Calls Tryd.prog 14 #[v] w fun e w' => e = .returned (.string (B (textO o))) ∧ Below w.heap.size w w' := by
  cases o with
  | none =>
    obtain rfl : v = .nilIface := hv
    go_enter Tryd.func14, Tryd.ntmps14
    go_wp2_with fail
    go_ret
    exact ⟨rfl, Below.refl _ _⟩
  | some T =>
    have hv' : IsE n w T v := hv
    show Calls Tryd.prog 14 #[v] w fun e w' => e = .returned (.string (B (textS T))) ∧ Below w.heap.size w w'
    have hl' : (textS T).length ≤ 140737488355328 := hl
    cases T with
    | num k =>
      unfold IsE at hv'
      obtain ⟨rfl, _, hk⟩ := hv'
      have HE := hid_in (err_any k hk n w ht)
      have m1 := mE31
      clear hl hl' hv ht
      go_enter Tryd.func14, Tryd.ntmps14
      go_wp2_with (first
        | (go_at_call 27; refine HE.out.mono ?_; rintro e w1 ⟨rfl, hbel⟩; have HBW := hid_in hbel; clear hbel))
      go_ret
      exact ⟨rfl, HBW.out⟩
    | flt op path t =>
      have hv2 := hv'
      unfold IsE at hv2
      obtain ⟨b, ev, rfl, _⟩ := hv2
      have HE := hid_in (ferr_any _ n _ w hv' hn ht hl')
      have m1 := mE42
      clear hl hl' hv hv' ht
      go_enter Tryd.func14, Tryd.ntmps14
      go_wp2_with (first
        | (go_at_call 16; refine HE.out.mono ?_; rintro e w1 ⟨rfl, hbel⟩; have HBW := hid_in hbel; clear hbel))
      go_ret
      exact ⟨rfl, HBW.out⟩
    | lst ts =>
      have hv2 := hv'
      unfold IsE at hv2
      obtain ⟨b, g, cap, vs, rfl, _⟩ := hv2
      have HE := hid_in (lerr_any _ n _ w hv' hn ht hl')
      have m1 := mE44
      clear hl hl' hv hv' ht
      go_enter Tryd.func14, Tryd.ntmps14
      go_wp2_with (first
        | (go_at_call 18; refine HE.out.mono ?_; rintro e w1 ⟨rfl, hbel⟩; have HBW := hid_in hbel; clear hbel))
      go_ret
      exact ⟨rfl, HBW.out⟩
end Go.Proofs.YtaaojfgakgjlkaaDoor
