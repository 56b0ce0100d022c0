/-
  The fields of a record, kind by kind.
-/
import Derived.Laws.Tables
import Derived.OwnWalk
import Derived.Lib.SlBytesConst
import Derived.Deep.RegionLaw
import Derived.Deep.CutRange
import Derived.Laws.CopyOwn
import Derived.Deep.DrawnRows
import Derived.Laws.StructEq
import Derived.Test.YtjjofjnhhajjjaaC00
import Derived.Test.YtjjofjnhhajjjaaC01
import Derived.Test.YtjjofjnhhajjjaaC02
import Derived.Test.YtjjofjnhhajjjaaC03
import Derived.Test.YtjjofjnhhajjjaaC04
import Derived.Test.YtjjofjnhhajjjaaC05
import Derived.Test.YtjjofjnhhajjjaaC06
import Derived.Test.YtjjofjnhhajjjaaC07
import Derived.Test.YtjjofjnhhajjjaaC08
import Derived.Test.YtjjofjnhhajjjaaC09
import Derived.Test.YtjjofjnhhajjjaaC10
import Derived.Test.YtjjofjnhhajjjaaC11
import Derived.Test.YtjjofjnhhajjjaaC17
import Derived.Test.YtjjofjnhhajjjaaC18
import Derived.Test.YtjjofjnhhajjjaaC19
import Derived.Test.YtjjofjnhhajjjaaC20
namespace Go.Proofs.Ytjjofjnhhajjjaa.Jr
open Go.RowKit
open Nd (Row wp_world post_Row grownBy_setCell grownBy_trans below_of_grown u8v Grew Sl hid_in i64r bytesS str encO OutB OutA)
/-- a record that has fields -/
structure PayOk (r : Rc) : Prop where
  kind : r.kind = 1 ∨ r.kind = 2 ∨ r.kind = 3 ∨ r.kind = 4
  frm : 0 ≤ r.frm ∧ r.frm ≤ 1099511627776
  view : 0 ≤ r.told.view ∧ r.told.view ≤ 1099511627776
  normal : 0 ≤ r.told.normal ∧ r.told.normal ≤ 1099511627776
  base : 0 ≤ r.told.base ∧ r.told.base ≤ 1099511627776
  state : r.told.state.size ≤ 65536
  few : r.told.ents.length ≤ 32
  one : r.kind = 2 → r.told.ents.length = 1
  ok : ∀ e ∈ r.told.ents, e.ok
  sh : ∀ e ∈ r.told.ents, e.op.short
theorem bytes_l (w : World) (B g : Nat) (xs : List Nat) (m : Nat) (ho : OutL w B g xs m) (hl : m ≤ 100000000000) :
    Calls Try.prog 77 #[.pointer (some ⟨g, 0, none⟩)] w fun e w' => ∃ v', e = .returned v' ∧ w'.ownsRow w.heap.size 5 1 v' xs.length (xs.map u8v) ∧ Below w.heap.size w w' ∧ (∀ x ∈ xs, x < 256) := by
  obtain ⟨⟨v, hv⟩, h2⟩ := ho
  refine (Nd.obytes_any w B g v xs hv (by omega)).mono ?_
  rintro e w' ⟨v', h3, h4, h5⟩
  exact ⟨v', h3, h4, h5, hv.lt⟩
/-- what a call answers that makes bytes -/
def Made (w : World) (xs : List Nat) (e : Ending) (w' : World) : Prop := ∃ v, e = .returned v ∧ w'.ownsRow w.heap.size 5 1 v xs.length (xs.map u8v) ∧ Below w.heap.size w w' ∧ (∀ x ∈ xs, x < 256)
/-- the record's row and an Out -/
theorem pay_start (w : World) (rc : List Value) : ∃ W1 W2, Hid (w.alloc (.cells rc.toArray 77) = W1) ∧ Hid (W1.alloc (.cells #[.slice none 0 0] 112) = W2) ∧ W1.heap.size = w.heap.size + 1 ∧ Hid (OutL W2 (w.heap.size + 1) (w.heap.size + 1) [] 0) ∧ Hid (Below (w.heap.size + 1) W1 W2) ∧ Hid (∀ W, Below (w.heap.size + 1) W1 W → Row W w.heap.size rc 77) ∧ Hid (∀ W, Below (w.heap.size + 1) W1 W → Below w.heap.size w W) := by
  have h1 : Row (w.alloc (.cells rc.toArray 77)) w.heap.size rc 77 := Row.new w rc 77
  have s1 : (w.alloc (.cells rc.toArray 77)).heap.size = w.heap.size + 1 := by simp
  have b1 : Below w.heap.size w (w.alloc (.cells rc.toArray 77)) := (Below.refl _ _).alloc (Nat.le_refl _) _
  generalize w.alloc (.cells rc.toArray 77) = W1 at *
  have ho : Nd.OutIs (W1.alloc (.cells #[.slice none 0 0] 112)) W1.heap.size W1.heap.size (.slice none 0 0) [] := Nd.out_new W1
  have hb : Below W1.heap.size W1 (W1.alloc (.cells #[.slice none 0 0] 112)) := (Below.refl _ _).alloc (Nat.le_refl _) _
  rw [s1] at ho hb
  exact ⟨W1, _, rfl, rfl, s1, ⟨⟨_, ho⟩, Nat.le_refl _⟩, hb, fun W hW => h1.below hW (by omega), fun W hW => b1.trans (hW.mono (by omega))⟩
set_option maxHeartbeats 8000000 in
set_option maxRecDepth 100000 in
theorem pay_1 (fr tv tn tb : Nat) (ts : ByteArray) (te : List Ent) (vr : Value) (w : World) (hr : Es w vr te) (h1 : fr ≤ 1099511627776) (h2 : tv ≤ 1099511627776) (h3 : tn ≤ 1099511627776) (h4 : tb ≤ 1099511627776) (h5 : ts.size ≤ 65536) (_h6 : te.length ≤ 32) (hok : ∀ e ∈ te, e.ok) (hsh : ∀ e ∈ te, e.op.short) :
    Calls Try.prog 73 #[.agg #[.int .i64 1, .int .i64 (fr : Int), .int .i64 (tv : Int), .int .i64 (tn : Int), .int .i64 (tb : Int), .string ts, vr]] w (Made w (Nd.Wire.num 1 ++ Nd.Wire.num tv)) := by
  obtain ⟨rp, rcap, rfl, _, _⟩ := hr.form
  obtain ⟨W1, W2, HW1, HW2, hs1, HO, HB, HRE, HBE⟩ := pay_start w [.int .i64 1, .int .i64 (fr : Int), .int .i64 (tv : Int), .int .i64 (tn : Int), .int .i64 (tb : Int), .string ts, .slice rp te.length rcap]
  have HES := hid_in hr
  have HOK := hid_in hok
  have HSH := hid_in hsh
  have h51 := h5
  have y1 : (0 : Int) ≤ (fr : Int) := by omega
  have y2 : (0 : Int) ≤ (tv : Int) := by omega
  have y3 : (0 : Int) ≤ (tn : Int) := by omega
  have y4 : (0 : Int) ≤ (tb : Int) := by omega
  have z1 : (fr : Int) ≤ 1099511627776 := by omega
  have z2 : (tv : Int) ≤ 1099511627776 := by omega
  have z3 : (tn : Int) ≤ 1099511627776 := by omega
  have z4 : (tb : Int) ≤ 1099511627776 := by omega
  clear hr hok hsh
  go_enter Try.func73, Try.ntmps73
  go_upto_region 1 with fail
  refine wp_world HW1.out ?_
  go_upto_region 2 with fail
  refine wp_world HW2.out ?_
  have hr := HRE.out W2 HB.out
  have c0 : W2.cell? ⟨w.heap.size, 0, none⟩ = some (.int .i64 1) := hr.cell 0; have c1 : W2.cell? ⟨w.heap.size, 1, none⟩ = some (.int .i64 (fr : Int)) := hr.cell 1; have c2 : W2.cell? ⟨w.heap.size, 2, none⟩ = some (.int .i64 (tv : Int)) := hr.cell 2; have c3 : W2.cell? ⟨w.heap.size, 3, none⟩ = some (.int .i64 (tn : Int)) := hr.cell 3; have c4 : W2.cell? ⟨w.heap.size, 4, none⟩ = some (.int .i64 (tb : Int)) := hr.cell 4; have c5 : W2.cell? ⟨w.heap.size, 5, none⟩ = some (.string ts) := hr.cell 5; have c6 : W2.cell? ⟨w.heap.size, 6, none⟩ = some (.slice rp te.length rcap) := hr.cell 6
  clear hr
  go_wp2_with (first | (go_at_call 88; refine (num_l W2 _ _ [] 0 1 (by decide) (Nat.le_refl _) HO.out (by decide)).mono ?_; rintro x v1 ⟨rfl, h1, h2⟩; have HO1 := hid_in h1; have HB1 := hid_in (HB.out.trans h2); clear h1 h2 c0 c1 c2 c3 c4 c5 c6 HO ; have hr := HRE.out v1 HB1.out; have c0 : v1.cell? ⟨w.heap.size, 0, none⟩ = some (.int .i64 1) := hr.cell 0; have c1 : v1.cell? ⟨w.heap.size, 1, none⟩ = some (.int .i64 (fr : Int)) := hr.cell 1; have c2 : v1.cell? ⟨w.heap.size, 2, none⟩ = some (.int .i64 (tv : Int)) := hr.cell 2; have c3 : v1.cell? ⟨w.heap.size, 3, none⟩ = some (.int .i64 (tn : Int)) := hr.cell 3; have c4 : v1.cell? ⟨w.heap.size, 4, none⟩ = some (.int .i64 (tb : Int)) := hr.cell 4; have c5 : v1.cell? ⟨w.heap.size, 5, none⟩ = some (.string ts) := hr.cell 5; have c6 : v1.cell? ⟨w.heap.size, 6, none⟩ = some (.slice rp te.length rcap) := hr.cell 6; clear hr) | (go_at_call 88; refine (num_l v1 _ _ ([] ++ Nd.Wire.num 1) 10 tv (by omega) (Nat.le_refl _) HO1.out (by decide)).mono ?_; rintro x v2 ⟨rfl, h1, h2⟩; have HO2 := hid_in h1; have HB2 := hid_in (HB1.out.trans h2); clear h1 h2 c0 c1 c2 c3 c4 c5 c6 HO1 ; have hr := HRE.out v2 HB2.out; have c0 : v2.cell? ⟨w.heap.size, 0, none⟩ = some (.int .i64 1) := hr.cell 0; have c1 : v2.cell? ⟨w.heap.size, 1, none⟩ = some (.int .i64 (fr : Int)) := hr.cell 1; have c2 : v2.cell? ⟨w.heap.size, 2, none⟩ = some (.int .i64 (tv : Int)) := hr.cell 2; have c3 : v2.cell? ⟨w.heap.size, 3, none⟩ = some (.int .i64 (tn : Int)) := hr.cell 3; have c4 : v2.cell? ⟨w.heap.size, 4, none⟩ = some (.int .i64 (tb : Int)) := hr.cell 4; have c5 : v2.cell? ⟨w.heap.size, 5, none⟩ = some (.string ts) := hr.cell 5; have c6 : v2.cell? ⟨w.heap.size, 6, none⟩ = some (.slice rp te.length rcap) := hr.cell 6; clear hr) | (go_at_call 77; refine (bytes_l v2 _ _ (([] ++ Nd.Wire.num 1) ++ Nd.Wire.num tv) 20 HO2.out (by decide)).mono ?_; rintro x v3 ⟨v, rfl, h1, h2, h3⟩; have HO3 := hid_in h1; have HB3 := hid_in h2; have HL3 := hid_in h3; clear h1 h2 h3))
  go_ret
  have hx : Nd.Wire.num 1 ++ Nd.Wire.num tv = (([] ++ Nd.Wire.num 1) ++ Nd.Wire.num tv) := by simp
  have hb := HBE.out _ HB2.out
  refine ⟨v, rfl, ?_, hb.trans (HB3.out.mono hb.size), ?_⟩
  · rw [hx]
    exact Nd.own_mono HO3.out hb.size
  · rw [hx]
    exact HL3.out
set_option maxHeartbeats 8000000 in
set_option maxRecDepth 100000 in
theorem pay_3 (fr tv tn tb : Nat) (ts : ByteArray) (te : List Ent) (vr : Value) (w : World) (hr : Es w vr te) (h1 : fr ≤ 1099511627776) (h2 : tv ≤ 1099511627776) (h3 : tn ≤ 1099511627776) (h4 : tb ≤ 1099511627776) (h5 : ts.size ≤ 65536) (h6 : te.length ≤ 32) (hok : ∀ e ∈ te, e.ok) (hsh : ∀ e ∈ te, e.op.short) :
    Calls Try.prog 73 #[.agg #[.int .i64 3, .int .i64 (fr : Int), .int .i64 (tv : Int), .int .i64 (tn : Int), .int .i64 (tb : Int), .string ts, vr]] w (Made w (Nd.Wire.num 3 ++ (Nd.Wire.num tv ++ Nd.Wire.num fr ++ manyS te))) := by
  obtain ⟨rp, rcap, rfl, _, _⟩ := hr.form
  obtain ⟨W1, W2, HW1, HW2, hs1, HO, HB, HRE, HBE⟩ := pay_start w [.int .i64 3, .int .i64 (fr : Int), .int .i64 (tv : Int), .int .i64 (tn : Int), .int .i64 (tb : Int), .string ts, .slice rp te.length rcap]
  have HES := hid_in hr
  have HOK := hid_in hok
  have HSH := hid_in hsh
  have h51 := h5
  have y1 : (0 : Int) ≤ (fr : Int) := by omega
  have y2 : (0 : Int) ≤ (tv : Int) := by omega
  have y3 : (0 : Int) ≤ (tn : Int) := by omega
  have y4 : (0 : Int) ≤ (tb : Int) := by omega
  have z1 : (fr : Int) ≤ 1099511627776 := by omega
  have z2 : (tv : Int) ≤ 1099511627776 := by omega
  have z3 : (tn : Int) ≤ 1099511627776 := by omega
  have z4 : (tb : Int) ≤ 1099511627776 := by omega
  clear hr hok hsh
  go_enter Try.func73, Try.ntmps73
  go_upto_region 1 with fail
  refine wp_world HW1.out ?_
  go_upto_region 2 with fail
  refine wp_world HW2.out ?_
  have hr := HRE.out W2 HB.out
  have c0 : W2.cell? ⟨w.heap.size, 0, none⟩ = some (.int .i64 3) := hr.cell 0; have c1 : W2.cell? ⟨w.heap.size, 1, none⟩ = some (.int .i64 (fr : Int)) := hr.cell 1; have c2 : W2.cell? ⟨w.heap.size, 2, none⟩ = some (.int .i64 (tv : Int)) := hr.cell 2; have c3 : W2.cell? ⟨w.heap.size, 3, none⟩ = some (.int .i64 (tn : Int)) := hr.cell 3; have c4 : W2.cell? ⟨w.heap.size, 4, none⟩ = some (.int .i64 (tb : Int)) := hr.cell 4; have c5 : W2.cell? ⟨w.heap.size, 5, none⟩ = some (.string ts) := hr.cell 5; have c6 : W2.cell? ⟨w.heap.size, 6, none⟩ = some (.slice rp te.length rcap) := hr.cell 6
  clear hr
  go_wp2_with (first | (go_at_call 88; refine (num_l W2 _ _ [] 0 3 (by decide) (Nat.le_refl _) HO.out (by decide)).mono ?_; rintro x v1 ⟨rfl, h1, h2⟩; have HO1 := hid_in h1; have HB1 := hid_in (HB.out.trans h2); clear h1 h2 c0 c1 c2 c3 c4 c5 c6 HO ; have hr := HRE.out v1 HB1.out; have c0 : v1.cell? ⟨w.heap.size, 0, none⟩ = some (.int .i64 3) := hr.cell 0; have c1 : v1.cell? ⟨w.heap.size, 1, none⟩ = some (.int .i64 (fr : Int)) := hr.cell 1; have c2 : v1.cell? ⟨w.heap.size, 2, none⟩ = some (.int .i64 (tv : Int)) := hr.cell 2; have c3 : v1.cell? ⟨w.heap.size, 3, none⟩ = some (.int .i64 (tn : Int)) := hr.cell 3; have c4 : v1.cell? ⟨w.heap.size, 4, none⟩ = some (.int .i64 (tb : Int)) := hr.cell 4; have c5 : v1.cell? ⟨w.heap.size, 5, none⟩ = some (.string ts) := hr.cell 5; have c6 : v1.cell? ⟨w.heap.size, 6, none⟩ = some (.slice rp te.length rcap) := hr.cell 6; clear hr) | (go_at_call 88; refine (num_l v1 _ _ ([] ++ Nd.Wire.num 3) 10 tv (by omega) (Nat.le_refl _) HO1.out (by decide)).mono ?_; rintro x v2 ⟨rfl, h1, h2⟩; have HO2 := hid_in h1; have HB2 := hid_in (HB1.out.trans h2); clear h1 h2 c0 c1 c2 c3 c4 c5 c6 HO1 ; have hr := HRE.out v2 HB2.out; have c0 : v2.cell? ⟨w.heap.size, 0, none⟩ = some (.int .i64 3) := hr.cell 0; have c1 : v2.cell? ⟨w.heap.size, 1, none⟩ = some (.int .i64 (fr : Int)) := hr.cell 1; have c2 : v2.cell? ⟨w.heap.size, 2, none⟩ = some (.int .i64 (tv : Int)) := hr.cell 2; have c3 : v2.cell? ⟨w.heap.size, 3, none⟩ = some (.int .i64 (tn : Int)) := hr.cell 3; have c4 : v2.cell? ⟨w.heap.size, 4, none⟩ = some (.int .i64 (tb : Int)) := hr.cell 4; have c5 : v2.cell? ⟨w.heap.size, 5, none⟩ = some (.string ts) := hr.cell 5; have c6 : v2.cell? ⟨w.heap.size, 6, none⟩ = some (.slice rp te.length rcap) := hr.cell 6; clear hr) | (go_at_call 88; refine (num_l v2 _ _ (([] ++ Nd.Wire.num 3) ++ Nd.Wire.num tv) 20 fr (by omega) (Nat.le_refl _) HO2.out (by decide)).mono ?_; rintro x v3 ⟨rfl, h1, h2⟩; have HO3 := hid_in h1; have HB3 := hid_in (HB2.out.trans h2); clear h1 h2 c0 c1 c2 c3 c4 c5 c6 HO2 ; have hr := HRE.out v3 HB3.out; have c0 : v3.cell? ⟨w.heap.size, 0, none⟩ = some (.int .i64 3) := hr.cell 0; have c1 : v3.cell? ⟨w.heap.size, 1, none⟩ = some (.int .i64 (fr : Int)) := hr.cell 1; have c2 : v3.cell? ⟨w.heap.size, 2, none⟩ = some (.int .i64 (tv : Int)) := hr.cell 2; have c3 : v3.cell? ⟨w.heap.size, 3, none⟩ = some (.int .i64 (tn : Int)) := hr.cell 3; have c4 : v3.cell? ⟨w.heap.size, 4, none⟩ = some (.int .i64 (tb : Int)) := hr.cell 4; have c5 : v3.cell? ⟨w.heap.size, 5, none⟩ = some (.string ts) := hr.cell 5; have c6 : v3.cell? ⟨w.heap.size, 6, none⟩ = some (.slice rp te.length rcap) := hr.cell 6; clear hr) | (go_at_call 90; refine (putEntries_any w v3 _ _ ((([] ++ Nd.Wire.num 3) ++ Nd.Wire.num tv) ++ Nd.Wire.num fr) te _ (Nat.le_succ _) (HBE.out _ HB3.out) HES.out (Nat.le_refl _) ⟨HO3.out.1, Nat.le_trans HO3.out.2 (by decide)⟩ h6 HOK.out HSH.out).mono ?_; rintro x v4 ⟨rfl, h1, h2⟩; have HO4 := hid_in h1; have HB4 := hid_in (HB3.out.trans h2); clear h1 h2 c0 c1 c2 c3 c4 c5 c6 HO3 ; have hr := HRE.out v4 HB4.out; have c0 : v4.cell? ⟨w.heap.size, 0, none⟩ = some (.int .i64 3) := hr.cell 0; have c1 : v4.cell? ⟨w.heap.size, 1, none⟩ = some (.int .i64 (fr : Int)) := hr.cell 1; have c2 : v4.cell? ⟨w.heap.size, 2, none⟩ = some (.int .i64 (tv : Int)) := hr.cell 2; have c3 : v4.cell? ⟨w.heap.size, 3, none⟩ = some (.int .i64 (tn : Int)) := hr.cell 3; have c4 : v4.cell? ⟨w.heap.size, 4, none⟩ = some (.int .i64 (tb : Int)) := hr.cell 4; have c5 : v4.cell? ⟨w.heap.size, 5, none⟩ = some (.string ts) := hr.cell 5; have c6 : v4.cell? ⟨w.heap.size, 6, none⟩ = some (.slice rp te.length rcap) := hr.cell 6; clear hr) | (go_at_call 77; refine (bytes_l v4 _ _ (((([] ++ Nd.Wire.num 3) ++ Nd.Wire.num tv) ++ Nd.Wire.num fr) ++ manyS te) 1000000 HO4.out (by decide)).mono ?_; rintro x v5 ⟨v, rfl, h1, h2, h3⟩; have HO5 := hid_in h1; have HB5 := hid_in h2; have HL5 := hid_in h3; clear h1 h2 h3))
  go_ret
  have hx : Nd.Wire.num 3 ++ (Nd.Wire.num tv ++ Nd.Wire.num fr ++ manyS te) = (((([] ++ Nd.Wire.num 3) ++ Nd.Wire.num tv) ++ Nd.Wire.num fr) ++ manyS te) := by simp [List.append_assoc]
  have hb := HBE.out _ HB4.out
  refine ⟨v, rfl, ?_, hb.trans (HB5.out.mono hb.size), ?_⟩
  · rw [hx]
    exact Nd.own_mono HO5.out hb.size
  · rw [hx]
    exact HL5.out
set_option maxHeartbeats 8000000 in
set_option maxRecDepth 100000 in
theorem pay_4 (fr tv tn tb : Nat) (ts : ByteArray) (te : List Ent) (vr : Value) (w : World) (hr : Es w vr te) (h1 : fr ≤ 1099511627776) (h2 : tv ≤ 1099511627776) (h3 : tn ≤ 1099511627776) (h4 : tb ≤ 1099511627776) (h5 : ts.size ≤ 65536) (h6 : te.length ≤ 32) (hok : ∀ e ∈ te, e.ok) (hsh : ∀ e ∈ te, e.op.short) :
    Calls Try.prog 73 #[.agg #[.int .i64 4, .int .i64 (fr : Int), .int .i64 (tv : Int), .int .i64 (tn : Int), .int .i64 (tb : Int), .string ts, vr]] w (Made w (Nd.Wire.num 4 ++ (Nd.Wire.num tv ++ Nd.Wire.num tn ++ Nd.Wire.num tb ++ (Nd.Wire.num ts.size ++ bytesS ts) ++ manyS te))) := by
  obtain ⟨rp, rcap, rfl, _, _⟩ := hr.form
  obtain ⟨W1, W2, HW1, HW2, hs1, HO, HB, HRE, HBE⟩ := pay_start w [.int .i64 4, .int .i64 (fr : Int), .int .i64 (tv : Int), .int .i64 (tn : Int), .int .i64 (tb : Int), .string ts, .slice rp te.length rcap]
  have HES := hid_in hr
  have HOK := hid_in hok
  have HSH := hid_in hsh
  have h51 := h5
  have y1 : (0 : Int) ≤ (fr : Int) := by omega
  have y2 : (0 : Int) ≤ (tv : Int) := by omega
  have y3 : (0 : Int) ≤ (tn : Int) := by omega
  have y4 : (0 : Int) ≤ (tb : Int) := by omega
  have z1 : (fr : Int) ≤ 1099511627776 := by omega
  have z2 : (tv : Int) ≤ 1099511627776 := by omega
  have z3 : (tn : Int) ≤ 1099511627776 := by omega
  have z4 : (tb : Int) ≤ 1099511627776 := by omega
  clear hr hok hsh
  go_enter Try.func73, Try.ntmps73
  go_upto_region 1 with fail
  refine wp_world HW1.out ?_
  go_upto_region 2 with fail
  refine wp_world HW2.out ?_
  have hr := HRE.out W2 HB.out
  have c0 : W2.cell? ⟨w.heap.size, 0, none⟩ = some (.int .i64 4) := hr.cell 0; have c1 : W2.cell? ⟨w.heap.size, 1, none⟩ = some (.int .i64 (fr : Int)) := hr.cell 1; have c2 : W2.cell? ⟨w.heap.size, 2, none⟩ = some (.int .i64 (tv : Int)) := hr.cell 2; have c3 : W2.cell? ⟨w.heap.size, 3, none⟩ = some (.int .i64 (tn : Int)) := hr.cell 3; have c4 : W2.cell? ⟨w.heap.size, 4, none⟩ = some (.int .i64 (tb : Int)) := hr.cell 4; have c5 : W2.cell? ⟨w.heap.size, 5, none⟩ = some (.string ts) := hr.cell 5; have c6 : W2.cell? ⟨w.heap.size, 6, none⟩ = some (.slice rp te.length rcap) := hr.cell 6
  clear hr
  go_wp2_with (first | (go_at_call 88; refine (num_l W2 _ _ [] 0 4 (by decide) (Nat.le_refl _) HO.out (by decide)).mono ?_; rintro x v1 ⟨rfl, h1, h2⟩; have HO1 := hid_in h1; have HB1 := hid_in (HB.out.trans h2); clear h1 h2 c0 c1 c2 c3 c4 c5 c6 HO ; have hr := HRE.out v1 HB1.out; have c0 : v1.cell? ⟨w.heap.size, 0, none⟩ = some (.int .i64 4) := hr.cell 0; have c1 : v1.cell? ⟨w.heap.size, 1, none⟩ = some (.int .i64 (fr : Int)) := hr.cell 1; have c2 : v1.cell? ⟨w.heap.size, 2, none⟩ = some (.int .i64 (tv : Int)) := hr.cell 2; have c3 : v1.cell? ⟨w.heap.size, 3, none⟩ = some (.int .i64 (tn : Int)) := hr.cell 3; have c4 : v1.cell? ⟨w.heap.size, 4, none⟩ = some (.int .i64 (tb : Int)) := hr.cell 4; have c5 : v1.cell? ⟨w.heap.size, 5, none⟩ = some (.string ts) := hr.cell 5; have c6 : v1.cell? ⟨w.heap.size, 6, none⟩ = some (.slice rp te.length rcap) := hr.cell 6; clear hr) | (go_at_call 88; refine (num_l v1 _ _ ([] ++ Nd.Wire.num 4) 10 tv (by omega) (Nat.le_refl _) HO1.out (by decide)).mono ?_; rintro x v2 ⟨rfl, h1, h2⟩; have HO2 := hid_in h1; have HB2 := hid_in (HB1.out.trans h2); clear h1 h2 c0 c1 c2 c3 c4 c5 c6 HO1 ; have hr := HRE.out v2 HB2.out; have c0 : v2.cell? ⟨w.heap.size, 0, none⟩ = some (.int .i64 4) := hr.cell 0; have c1 : v2.cell? ⟨w.heap.size, 1, none⟩ = some (.int .i64 (fr : Int)) := hr.cell 1; have c2 : v2.cell? ⟨w.heap.size, 2, none⟩ = some (.int .i64 (tv : Int)) := hr.cell 2; have c3 : v2.cell? ⟨w.heap.size, 3, none⟩ = some (.int .i64 (tn : Int)) := hr.cell 3; have c4 : v2.cell? ⟨w.heap.size, 4, none⟩ = some (.int .i64 (tb : Int)) := hr.cell 4; have c5 : v2.cell? ⟨w.heap.size, 5, none⟩ = some (.string ts) := hr.cell 5; have c6 : v2.cell? ⟨w.heap.size, 6, none⟩ = some (.slice rp te.length rcap) := hr.cell 6; clear hr) | (go_at_call 88; refine (num_l v2 _ _ (([] ++ Nd.Wire.num 4) ++ Nd.Wire.num tv) 20 tn (by omega) (Nat.le_refl _) HO2.out (by decide)).mono ?_; rintro x v3 ⟨rfl, h1, h2⟩; have HO3 := hid_in h1; have HB3 := hid_in (HB2.out.trans h2); clear h1 h2 c0 c1 c2 c3 c4 c5 c6 HO2 ; have hr := HRE.out v3 HB3.out; have c0 : v3.cell? ⟨w.heap.size, 0, none⟩ = some (.int .i64 4) := hr.cell 0; have c1 : v3.cell? ⟨w.heap.size, 1, none⟩ = some (.int .i64 (fr : Int)) := hr.cell 1; have c2 : v3.cell? ⟨w.heap.size, 2, none⟩ = some (.int .i64 (tv : Int)) := hr.cell 2; have c3 : v3.cell? ⟨w.heap.size, 3, none⟩ = some (.int .i64 (tn : Int)) := hr.cell 3; have c4 : v3.cell? ⟨w.heap.size, 4, none⟩ = some (.int .i64 (tb : Int)) := hr.cell 4; have c5 : v3.cell? ⟨w.heap.size, 5, none⟩ = some (.string ts) := hr.cell 5; have c6 : v3.cell? ⟨w.heap.size, 6, none⟩ = some (.slice rp te.length rcap) := hr.cell 6; clear hr) | (go_at_call 88; refine (num_l v3 _ _ ((([] ++ Nd.Wire.num 4) ++ Nd.Wire.num tv) ++ Nd.Wire.num tn) 30 tb (by omega) (Nat.le_refl _) HO3.out (by decide)).mono ?_; rintro x v4 ⟨rfl, h1, h2⟩; have HO4 := hid_in h1; have HB4 := hid_in (HB3.out.trans h2); clear h1 h2 c0 c1 c2 c3 c4 c5 c6 HO3 ; have hr := HRE.out v4 HB4.out; have c0 : v4.cell? ⟨w.heap.size, 0, none⟩ = some (.int .i64 4) := hr.cell 0; have c1 : v4.cell? ⟨w.heap.size, 1, none⟩ = some (.int .i64 (fr : Int)) := hr.cell 1; have c2 : v4.cell? ⟨w.heap.size, 2, none⟩ = some (.int .i64 (tv : Int)) := hr.cell 2; have c3 : v4.cell? ⟨w.heap.size, 3, none⟩ = some (.int .i64 (tn : Int)) := hr.cell 3; have c4 : v4.cell? ⟨w.heap.size, 4, none⟩ = some (.int .i64 (tb : Int)) := hr.cell 4; have c5 : v4.cell? ⟨w.heap.size, 5, none⟩ = some (.string ts) := hr.cell 5; have c6 : v4.cell? ⟨w.heap.size, 6, none⟩ = some (.slice rp te.length rcap) := hr.cell 6; clear hr) | (go_at_call 76; refine (text_l v4 _ _ (((([] ++ Nd.Wire.num 4) ++ Nd.Wire.num tv) ++ Nd.Wire.num tn) ++ Nd.Wire.num tb) 40 ts (Nat.le_refl _) HO4.out (by decide) (by omega)).mono ?_; rintro x v5 ⟨rfl, h1, h2⟩; have HO5 := hid_in h1; have HB5 := hid_in (HB4.out.trans h2); clear h1 h2 c0 c1 c2 c3 c4 c5 c6 HO4 ; have hr := HRE.out v5 HB5.out; have c0 : v5.cell? ⟨w.heap.size, 0, none⟩ = some (.int .i64 4) := hr.cell 0; have c1 : v5.cell? ⟨w.heap.size, 1, none⟩ = some (.int .i64 (fr : Int)) := hr.cell 1; have c2 : v5.cell? ⟨w.heap.size, 2, none⟩ = some (.int .i64 (tv : Int)) := hr.cell 2; have c3 : v5.cell? ⟨w.heap.size, 3, none⟩ = some (.int .i64 (tn : Int)) := hr.cell 3; have c4 : v5.cell? ⟨w.heap.size, 4, none⟩ = some (.int .i64 (tb : Int)) := hr.cell 4; have c5 : v5.cell? ⟨w.heap.size, 5, none⟩ = some (.string ts) := hr.cell 5; have c6 : v5.cell? ⟨w.heap.size, 6, none⟩ = some (.slice rp te.length rcap) := hr.cell 6; clear hr) | (go_at_call 90; refine (putEntries_any w v5 _ _ ((((([] ++ Nd.Wire.num 4) ++ Nd.Wire.num tv) ++ Nd.Wire.num tn) ++ Nd.Wire.num tb) ++ (Nd.Wire.num ts.size ++ bytesS ts)) te _ (Nat.le_succ _) (HBE.out _ HB5.out) HES.out (Nat.le_refl _) ⟨HO5.out.1, Nat.le_trans HO5.out.2 (by decide)⟩ h6 HOK.out HSH.out).mono ?_; rintro x v6 ⟨rfl, h1, h2⟩; have HO6 := hid_in h1; have HB6 := hid_in (HB5.out.trans h2); clear h1 h2 c0 c1 c2 c3 c4 c5 c6 HO5 ; have hr := HRE.out v6 HB6.out; have c0 : v6.cell? ⟨w.heap.size, 0, none⟩ = some (.int .i64 4) := hr.cell 0; have c1 : v6.cell? ⟨w.heap.size, 1, none⟩ = some (.int .i64 (fr : Int)) := hr.cell 1; have c2 : v6.cell? ⟨w.heap.size, 2, none⟩ = some (.int .i64 (tv : Int)) := hr.cell 2; have c3 : v6.cell? ⟨w.heap.size, 3, none⟩ = some (.int .i64 (tn : Int)) := hr.cell 3; have c4 : v6.cell? ⟨w.heap.size, 4, none⟩ = some (.int .i64 (tb : Int)) := hr.cell 4; have c5 : v6.cell? ⟨w.heap.size, 5, none⟩ = some (.string ts) := hr.cell 5; have c6 : v6.cell? ⟨w.heap.size, 6, none⟩ = some (.slice rp te.length rcap) := hr.cell 6; clear hr) | (go_at_call 77; refine (bytes_l v6 _ _ (((((([] ++ Nd.Wire.num 4) ++ Nd.Wire.num tv) ++ Nd.Wire.num tn) ++ Nd.Wire.num tb) ++ (Nd.Wire.num ts.size ++ bytesS ts)) ++ manyS te) 1000000 HO6.out (by decide)).mono ?_; rintro x v7 ⟨v, rfl, h1, h2, h3⟩; have HO7 := hid_in h1; have HB7 := hid_in h2; have HL7 := hid_in h3; clear h1 h2 h3))
  go_ret
  have hx : Nd.Wire.num 4 ++ (Nd.Wire.num tv ++ Nd.Wire.num tn ++ Nd.Wire.num tb ++ (Nd.Wire.num ts.size ++ bytesS ts) ++ manyS te) = (((((([] ++ Nd.Wire.num 4) ++ Nd.Wire.num tv) ++ Nd.Wire.num tn) ++ Nd.Wire.num tb) ++ (Nd.Wire.num ts.size ++ bytesS ts)) ++ manyS te) := by simp [List.append_assoc]
  have hb := HBE.out _ HB6.out
  refine ⟨v, rfl, ?_, hb.trans (HB7.out.mono hb.size), ?_⟩
  · rw [hx]
    exact Nd.own_mono HO7.out hb.size
  · rw [hx]
    exact HL7.out
end Go.Proofs.Ytjjofjnhhajjjaa.Jr
