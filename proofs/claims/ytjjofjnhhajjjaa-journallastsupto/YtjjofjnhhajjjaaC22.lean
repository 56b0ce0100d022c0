/-
  The fields of a record, kind by kind. The fields and the frame of a record. behind: a frame comes behind those that are there. anew: the five changes, each by itself.
-/
import Derived.Laws.Tables
import Derived.OwnWalk
import Derived.Lib.SlBytesConst
import Derived.Deep.RegionLaw
import Derived.Deep.CutRange
import Derived.Laws.CopyOwn
import Derived.Deep.DrawnRows
import Derived.Laws.StructEq
import Derived.Test.YtjjofjnhhajjjaaC00
import Derived.Test.YtjjofjnhhajjjaaC01
import Derived.Test.YtjjofjnhhajjjaaC02
import Derived.Test.YtjjofjnhhajjjaaC03
import Derived.Test.YtjjofjnhhajjjaaC04
import Derived.Test.YtjjofjnhhajjjaaC05
import Derived.Test.YtjjofjnhhajjjaaC06
import Derived.Test.YtjjofjnhhajjjaaC07
import Derived.Test.YtjjofjnhhajjjaaC08
import Derived.Test.YtjjofjnhhajjjaaC09
import Derived.Test.YtjjofjnhhajjjaaC10
import Derived.Test.YtjjofjnhhajjjaaC11
import Derived.Test.YtjjofjnhhajjjaaC17
import Derived.Test.YtjjofjnhhajjjaaC18
import Derived.Test.YtjjofjnhhajjjaaC19
import Derived.Test.YtjjofjnhhajjjaaC20
import Derived.Test.YtjjofjnhhajjjaaC21
namespace Go.Proofs.Ytjjofjnhhajjjaa.Jr
open Go.RowKit
open Nd (Row wp_world post_Row grownBy_setCell grownBy_trans below_of_grown u8v Grew Sl hid_in i64r bytesS str encO OutB OutA)
set_option maxHeartbeats 8000000 in
set_option maxRecDepth 100000 in
theorem pay_2 (fr tv tn tb : Nat) (ts : ByteArray) (te : List Ent) (vr : Value) (w : World) (hr : Es w vr te) (h1 : fr ≤ 1099511627776) (h2 : tv ≤ 1099511627776) (h3 : tn ≤ 1099511627776) (h4 : tb ≤ 1099511627776) (h5 : ts.size ≤ 65536) (h6 : te.length ≤ 32) (hok : ∀ e ∈ te, e.ok) (hsh : ∀ e ∈ te, e.op.short) (hone : te.length = 1) :
    Calls Try.prog 73 #[.agg #[.int .i64 2, .int .i64 (fr : Int), .int .i64 (tv : Int), .int .i64 (tn : Int), .int .i64 (tb : Int), .string ts, vr]] w (Made w (Nd.Wire.num 2 ++ entsS te)) := by
  obtain ⟨rp, rcap, rfl, _, _⟩ := hr.form
  obtain ⟨W1, W2, HW1, HW2, hs1, HO, HB, HRE, HBE⟩ := pay_start w [.int .i64 2, .int .i64 (fr : Int), .int .i64 (tv : Int), .int .i64 (tn : Int), .int .i64 (tb : Int), .string ts, .slice rp te.length rcap]
  have HES := hid_in hr
  have HOK := hid_in hok
  have HSH := hid_in hsh
  have h51 := h5
  have y1 : (0 : Int) ≤ (fr : Int) := by omega
  have y2 : (0 : Int) ≤ (tv : Int) := by omega
  have y3 : (0 : Int) ≤ (tn : Int) := by omega
  have y4 : (0 : Int) ≤ (tb : Int) := by omega
  have z1 : (fr : Int) ≤ 1099511627776 := by omega
  have z2 : (tv : Int) ≤ 1099511627776 := by omega
  have z3 : (tn : Int) ≤ 1099511627776 := by omega
  have z4 : (tb : Int) ≤ 1099511627776 := by omega
  obtain ⟨e, rfl⟩ := List.length_eq_one_iff.1 hone
  have HEO := hid_in (hok e (by simp))
  have HEH := hid_in (hsh e (by simp))
  have HXX := hid_in (show entsS [e] = entS e by simp [entsS])
  rw [HXX.out]
  obtain ⟨b, o, rfl, hm⟩ := hr.at (i := 0) (e := e) rfl
  have HAT : Hid (∀ W, Below w.heap.size w W → ∀ (y : Nat) (u : Value), e.cells[y]? = some u → W.cell? ⟨b, o + y, none⟩ = some u) := fun W hb y u hy => by
    have h0 := hm y u hy
    simp only [Nat.zero_mul, Nat.add_zero] at h0
    rw [hb.cell (World.block_lt_of_cell? w _ h0)]
    exact h0
  obtain ⟨cl, nu, ⟨kd, pa, de, da, at_, sz⟩⟩ := e
  simp only [List.length_singleton] at HRE HW1 ⊢
  have HPE := hid_in (fun W xs m (ho : OutL W (w.heap.size + 1) (w.heap.size + 1) xs m) (hl : m ≤ 100000000000) => putEntry_any W _ _ xs m ⟨cl, nu, ⟨kd, pa, de, da, at_, sz⟩⟩ (Nat.le_refl _) ho hl HEO.out HEH.out)
  simp only [Ent.val] at HPE
  have hone' : [(⟨cl, nu, ⟨kd, pa, de, da, at_, sz⟩⟩ : Ent)].length = 1 := rfl
  clear hr hok hsh hm
  go_enter Try.func73, Try.ntmps73
  go_upto_region 1 with fail
  refine wp_world HW1.out ?_
  go_upto_region 2 with fail
  refine wp_world HW2.out ?_
  have hr := HRE.out W2 HB.out
  have c0 : W2.cell? ⟨w.heap.size, 0, none⟩ = some (.int .i64 2) := hr.cell 0; have c1 : W2.cell? ⟨w.heap.size, 1, none⟩ = some (.int .i64 (fr : Int)) := hr.cell 1; have c2 : W2.cell? ⟨w.heap.size, 2, none⟩ = some (.int .i64 (tv : Int)) := hr.cell 2; have c3 : W2.cell? ⟨w.heap.size, 3, none⟩ = some (.int .i64 (tn : Int)) := hr.cell 3; have c4 : W2.cell? ⟨w.heap.size, 4, none⟩ = some (.int .i64 (tb : Int)) := hr.cell 4; have c5 : W2.cell? ⟨w.heap.size, 5, none⟩ = some (.string ts) := hr.cell 5; have c6 : W2.cell? ⟨w.heap.size, 6, none⟩ = some (.slice (some ⟨b, o, none⟩) 1 rcap) := hr.cell 6
  clear hr
  go_wp2_with (first | (go_at_call 88; refine (num_l W2 _ _ [] 0 2 (by decide) (Nat.le_refl _) HO.out (by decide)).mono ?_; rintro x v1 ⟨rfl, h1, h2⟩; have HO1 := hid_in h1; have HB1 := hid_in (HB.out.trans h2); clear h1 h2 c0 c1 c2 c3 c4 c5 c6 HO ; have hr := HRE.out v1 HB1.out; have c0 : v1.cell? ⟨w.heap.size, 0, none⟩ = some (.int .i64 2) := hr.cell 0; have c1 : v1.cell? ⟨w.heap.size, 1, none⟩ = some (.int .i64 (fr : Int)) := hr.cell 1; have c2 : v1.cell? ⟨w.heap.size, 2, none⟩ = some (.int .i64 (tv : Int)) := hr.cell 2; have c3 : v1.cell? ⟨w.heap.size, 3, none⟩ = some (.int .i64 (tn : Int)) := hr.cell 3; have c4 : v1.cell? ⟨w.heap.size, 4, none⟩ = some (.int .i64 (tb : Int)) := hr.cell 4; have c5 : v1.cell? ⟨w.heap.size, 5, none⟩ = some (.string ts) := hr.cell 5; have c6 : v1.cell? ⟨w.heap.size, 6, none⟩ = some (.slice (some ⟨b, o, none⟩) 1 rcap) := hr.cell 6; clear hr; have hm := HAT.out v1 (HBE.out _ HB1.out); have m0 : v1.cell? ⟨b, o, none⟩ = some (Value.int .i64 cl) := hm 0 (Value.int .i64 cl) rfl; have m1 : v1.cell? ⟨b, o + 1, none⟩ = some (Value.int .i64 nu) := hm 1 (Value.int .i64 nu) rfl; have m2 : v1.cell? ⟨b, o + 2, none⟩ = some (Value.int .i64 kd) := hm 2 (Value.int .i64 kd) rfl; have m3 : v1.cell? ⟨b, o + 3, none⟩ = some (Value.string pa) := hm 3 (Value.string pa) rfl; have m4 : v1.cell? ⟨b, o + 4, none⟩ = some (Value.string de) := hm 4 (Value.string de) rfl; have m5 : v1.cell? ⟨b, o + 5, none⟩ = some (Value.string da) := hm 5 (Value.string da) rfl; have m6 : v1.cell? ⟨b, o + 6, none⟩ = some (Value.int .i64 at_) := hm 6 (Value.int .i64 at_) rfl; have m7 : v1.cell? ⟨b, o + 7, none⟩ = some (Value.int .i64 sz) := hm 7 (Value.int .i64 sz) rfl; clear hm) | (go_at_call 89; refine (HPE.out v1 ([] ++ Nd.Wire.num 2) 10 HO1.out (by decide)).mono ?_; rintro x v2 ⟨rfl, h1, h2⟩; have HO2 := hid_in h1; have HB2 := hid_in (HB1.out.trans h2); clear h1 h2 c0 c1 c2 c3 c4 c5 c6 HO1 m0 m1 m2 m3 m4 m5 m6 m7; have hr := HRE.out v2 HB2.out; have c0 : v2.cell? ⟨w.heap.size, 0, none⟩ = some (.int .i64 2) := hr.cell 0; have c1 : v2.cell? ⟨w.heap.size, 1, none⟩ = some (.int .i64 (fr : Int)) := hr.cell 1; have c2 : v2.cell? ⟨w.heap.size, 2, none⟩ = some (.int .i64 (tv : Int)) := hr.cell 2; have c3 : v2.cell? ⟨w.heap.size, 3, none⟩ = some (.int .i64 (tn : Int)) := hr.cell 3; have c4 : v2.cell? ⟨w.heap.size, 4, none⟩ = some (.int .i64 (tb : Int)) := hr.cell 4; have c5 : v2.cell? ⟨w.heap.size, 5, none⟩ = some (.string ts) := hr.cell 5; have c6 : v2.cell? ⟨w.heap.size, 6, none⟩ = some (.slice (some ⟨b, o, none⟩) 1 rcap) := hr.cell 6; clear hr) | (go_at_call 77; refine (bytes_l v2 _ _ (([] ++ Nd.Wire.num 2) ++ entS ⟨cl, nu, ⟨kd, pa, de, da, at_, sz⟩⟩) 4040 HO2.out (by decide)).mono ?_; rintro x v3 ⟨v, rfl, h1, h2, h3⟩; have HO3 := hid_in h1; have HB3 := hid_in h2; have HL3 := hid_in h3; clear h1 h2 h3))
  go_ret
  have hx : Nd.Wire.num 2 ++ entS ⟨cl, nu, ⟨kd, pa, de, da, at_, sz⟩⟩ = (([] ++ Nd.Wire.num 2) ++ entS ⟨cl, nu, ⟨kd, pa, de, da, at_, sz⟩⟩) := by simp
  have hb := HBE.out _ HB2.out
  refine ⟨v, rfl, ?_, hb.trans (HB3.out.mono hb.size), ?_⟩
  · rw [hx]
    exact Nd.own_mono HO3.out hb.size
  · rw [hx]
    exact HL3.out
end Go.Proofs.Ytjjofjnhhajjjaa.Jr
namespace Go.Proofs.Ytjjofjnhhajjjaa.Jr
open Go.RowKit
open Nd (Row wp_world post_Row grownBy_setCell grownBy_trans below_of_grown u8v Grew Sl hid_in i64r bytesS str encO OutB OutA)
theorem payS_1 (fr : Int) (tv : Nat) (tn tb : Int) (ts : ByteArray) (te : List Ent) : payS ⟨1, fr, ⟨(tv : Int), tn, tb, ts, te⟩⟩ = Nd.Wire.num 1 ++ Nd.Wire.num tv := by simp [payS]
theorem payS_2 (fr tv tn tb : Int) (ts : ByteArray) (te : List Ent) : payS ⟨2, fr, ⟨tv, tn, tb, ts, te⟩⟩ = Nd.Wire.num 2 ++ entsS te := by simp [payS]
theorem payS_3 (fr tv : Nat) (tn tb : Int) (ts : ByteArray) (te : List Ent) : payS ⟨3, (fr : Int), ⟨(tv : Int), tn, tb, ts, te⟩⟩ = Nd.Wire.num 3 ++ (Nd.Wire.num tv ++ Nd.Wire.num fr ++ manyS te) := by simp [payS]
theorem payS_4 (fr : Int) (tv tn tb : Nat) (ts : ByteArray) (te : List Ent) : payS ⟨4, fr, ⟨(tv : Int), (tn : Int), (tb : Int), ts, te⟩⟩ = Nd.Wire.num 4 ++ (Nd.Wire.num tv ++ Nd.Wire.num tn ++ Nd.Wire.num tb ++ (Nd.Wire.num ts.size ++ bytesS ts) ++ manyS te) := by simp [payS]
theorem payload_any (r : Rc) (vr : Value) (w : World) (h : PayOk r) (hr : Es w vr r.told.ents) : Calls Try.prog 73 #[r.val vr] w (Made w (payS r)) := by
  obtain ⟨⟨h1, h1'⟩, ⟨h2, h2'⟩, ⟨h3, h3'⟩, ⟨h4, h4'⟩, h5, h6, h7, h8, h9⟩ := (⟨h.frm, h.view, h.normal, h.base, h.state, h.few, h.one, h.ok, h.sh⟩ : _ ∧ _ ∧ _ ∧ _ ∧ _ ∧ _ ∧ _ ∧ _ ∧ _)
  have hk := h.kind
  obtain ⟨kd, fr, ⟨tv, tn, tb, ts, te⟩⟩ := r
  simp only at h1 h1' h2 h2' h3 h3' h4 h4' h5 h6 h7 h8 h9 hr hk
  obtain ⟨fr, rfl⟩ := Int.eq_ofNat_of_zero_le h1
  obtain ⟨tv, rfl⟩ := Int.eq_ofNat_of_zero_le h2
  obtain ⟨tn, rfl⟩ := Int.eq_ofNat_of_zero_le h3
  obtain ⟨tb, rfl⟩ := Int.eq_ofNat_of_zero_le h4
  rcases hk with rfl | rfl | rfl | rfl
  · rw [payS_1]
    exact pay_1 fr tv tn tb ts te vr w hr (by omega) (by omega) (by omega) (by omega) h5 h6 h8 h9
  · rw [payS_2]
    exact pay_2 fr tv tn tb ts te vr w hr (by omega) (by omega) (by omega) (by omega) h5 h6 h8 h9 (h7 rfl)
  · rw [payS_3]
    exact pay_3 fr tv tn tb ts te vr w hr (by omega) (by omega) (by omega) (by omega) h5 h6 h8 h9
  · rw [payS_4]
    exact pay_4 fr tv tn tb ts te vr w hr (by omega) (by omega) (by omega) (by omega) h5 h6 h8 h9
theorem manyS_len (es : List Ent) (h : ∀ e ∈ es, e.op.short) (hn : es.length ≤ 32) : (manyS es).length ≤ 128970 := by
  have h1 := entsS_len es h
  have h2 := Nd.num_length es.length
  unfold manyS
  rw [List.length_append]
  omega
theorem payS_len (r : Rc) (h : PayOk r) : (payS r).length ≤ 262144 := by
  have h0 := manyS_len _ h.sh h.few
  have h1 := entsS_len _ h.sh
  have h2 := h.few
  have h3 := h.state
  have k1 := Nd.num_length r.kind.toNat
  have k2 := Nd.num_length r.told.view.toNat
  have k3 := Nd.num_length r.told.normal.toNat
  have k4 := Nd.num_length r.told.base.toNat
  have k5 := Nd.num_length r.frm.toNat
  have k6 := Nd.num_length r.told.state.size
  unfold payS
  split
  · simp only [List.length_append]; omega
  · split
    · simp only [List.length_append]; omega
    · split
      · simp only [List.length_append]; omega
      · simp only [List.length_append, Nd.bytesS_length]; omega
set_option maxHeartbeats 2000000 in
set_option maxRecDepth 100000 in
theorem frame_any (r : Rc) (vr : Value) (w : World) (h : PayOk r) (hr : Es w vr r.told.ents) : Calls Try.prog 47 #[r.val vr] w (Made w (Nd.Wire.frame (payS r))) := by
  obtain ⟨W1, HW1, HR1, HB1, HS1⟩ := row_new w (r.cells vr) 77
  have HP := hid_in (payload_any r vr W1 h (hr.below HB1.out))
  have HL := hid_in (payS_len r h)
  clear h
  obtain ⟨kd, fr, ⟨tv, tn, tb, ts, te⟩⟩ := r
  obtain ⟨rp, rcap, rfl, _, _⟩ := hr.form
  simp only [Rc.val, Rc.cells] at HP HW1 HR1 ⊢
  clear hr
  generalize payS ⟨kd, fr, ⟨tv, tn, tb, ts, te⟩⟩ = xs at *
  have c0 : W1.cell? ⟨w.heap.size, 0, none⟩ = some (.int .i64 kd) := HR1.out.cell 0
  have c1 : W1.cell? ⟨w.heap.size, 1, none⟩ = some (.int .i64 fr) := HR1.out.cell 1
  have c2 : W1.cell? ⟨w.heap.size, 2, none⟩ = some (.int .i64 tv) := HR1.out.cell 2
  have c3 : W1.cell? ⟨w.heap.size, 3, none⟩ = some (.int .i64 tn) := HR1.out.cell 3
  have c4 : W1.cell? ⟨w.heap.size, 4, none⟩ = some (.int .i64 tb) := HR1.out.cell 4
  have c5 : W1.cell? ⟨w.heap.size, 5, none⟩ = some (.string ts) := HR1.out.cell 5
  have c6 : W1.cell? ⟨w.heap.size, 6, none⟩ = some (.slice rp te.length rcap) := HR1.out.cell 6
  go_enter Try.func47, Try.ntmps47
  go_upto_region 1 with fail
  refine wp_world HW1.out ?_
  go_wp2_with (first | (go_at_call 73; refine HP.out.mono ?_; rintro x w2 ⟨v, rfl, h1, h2, h3⟩; obtain ⟨p, c, b, rfl, hsl, hno⟩ := Nd.own_sl h3 h1; have HSL := hid_in hsl; have HNO := hid_in hno; have HB2 := hid_in h2; have HLT := hid_in h3; clear h1 h2 h3 hsl hno) | (go_at_call 72; refine (Nd.frame_any xs p c b 0 w2 HSL.out HNO.out).mono ?_; rintro x w3 ⟨hb, hcase⟩; obtain ⟨hl, v, rfl, ho⟩ := hcase.resolve_left (fun hx => Nat.lt_irrefl _ (Nat.lt_of_lt_of_le hx.1 HL.out)); have HB3 := hid_in hb; have HO3 := hid_in ho; clear hcase ho hb hl))
  go_ret
  have hs2 := Nat.le_trans HB1.out.size HB2.out.size
  exact ⟨v, rfl, Nd.own_mono HO3.out hs2, (HB1.out.trans (HB2.out.mono HB1.out.size)).trans (HB3.out.mono hs2), Nd.Wire.frame_lt HLT.out⟩
end Go.Proofs.Ytjjofjnhhajjjaa.Jr
namespace Go.Proofs.Ytjjofjnhhajjjaa.Jr
open Go.RowKit
open Nd (Row wp_world post_Row grownBy_setCell grownBy_trans below_of_grown u8v Grew Sl hid_in i64r bytesS str)
open Pt (Dk PtV FS Sub Stp liv arOf appE appD begE begD synD wipD fliD oth)
def behE (xs : List Nat) (d : Dk) : Int := if appE (liv d.live) d = 0 then begE 1 (liv d.live) (appD (liv d.live) xs d) else appE (liv d.live) d
def behD (xs : List Nat) (d : Dk) : Dk := if appE (liv d.live) d = 0 then synD (liv d.live) (appD (liv d.live) xs d) else appD (liv d.live) xs d
set_option maxHeartbeats 2000000 in
set_option maxRecDepth 100000 in
theorem behind_any {w : World} {B g j : Nat} {v0 v1 : Value} {d : Dk} {vs : List Value} (h : PtV w B g v0 v1 d) (hj : Row w j (.pointer (some ⟨g, 0, none⟩) :: vs) 68) (p : Option Addr) (xs : List Nat) (cap b off : Nat) (hsl : Sl w p xs cap b off) (hno : p = none → xs.length = 0 ∧ cap = 0) (hl : (arOf (liv d.live) d).bs.length + xs.length ≤ 140737488355328) :
    Calls Try.prog 40 #[.pointer (some ⟨j, 0, none⟩), .slice p xs.length cap] w fun e w' => e = .returned (.int .i64 (behE xs d)) ∧ Stp w w' B g v0 v1 (behD xs d) := by
  have HL := hid_in (Pt.live_any h)
  have HA := hid_in (Pt.append_any h (liv d.live) p xs cap b off hsl hno hl)
  have HJ := hid_in hj
  have HP := hid_in h
  have HS := hid_in (fun W u0 u1 (hp : PtV W B g u0 u1 (appD (liv d.live) xs d)) => Pt.sync_any hp (liv d.live))
  have j0 : w.cell? ⟨j, 0, none⟩ = some (.pointer (some ⟨g, 0, none⟩)) := hj.cell 0
  obtain ⟨E, HEE⟩ : ∃ E, Hid (behE xs d = E) := ⟨_, hid_in rfl⟩
  obtain ⟨D, HDD⟩ : ∃ D, Hid (behD xs d = D) := ⟨_, hid_in rfl⟩
  have hE := HEE.out
  have hD := HDD.out
  unfold behE at hE
  unfold behD at hD
  rw [HEE.out, HDD.out]
  clear HEE HDD
  generalize appE (liv d.live) d = e1 at *
  generalize appD (liv d.live) xs d = d1 at *
  generalize liv d.live = a at *
  clear hsl hno hl h hj
  by_cases h1 : e1 = 0
  · rw [if_pos h1] at hE hD
    subst hE hD h1
    go_enter Try.func40, Try.ntmps40
    go_wp2_with (first | (go_at_call 26; refine HL.out.mono ?_; rintro e w1 ⟨rfl, rfl⟩) | (go_at_call 51; refine HA.out.mono ?_; rintro e w2 ⟨rfl, hs⟩; have HS2 := hid_in hs; obtain ⟨u0, u1, hp2, hg2, hb2⟩ := hs; have HC := hid_in (HS.out w2 u0 u1 hp2); have hj2 := HS2.out.row HP.out HJ.out (by decide) (by decide); have j1 : w2.cell? ⟨j, 0, none⟩ = some (.pointer (some ⟨g, 0, none⟩)) := hj2.cell 0; have HG2 := hid_in hg2; have HB2 := hid_in hb2; have HP2 := hid_in hp2; clear hp2 hg2 hb2 hj2) | (go_at_call 20; refine HC.out.mono ?_; rintro e w3 ⟨rfl, hs⟩; have HS3 := hid_in hs; clear hs))
    go_ret
    exact ⟨rfl, Stp.trans HP2.out HG2.out HB2.out HS3.out⟩
  · rw [if_neg h1] at hE hD
    subst hE hD
    go_enter Try.func40, Try.ntmps40
    go_wp2_with (first | (go_at_call 26; refine HL.out.mono ?_; rintro e w1 ⟨rfl, rfl⟩) | (go_at_call 51; refine HA.out.mono ?_; rintro e w2 ⟨rfl, hs⟩; have HS2 := hid_in hs; clear hs))
    go_ret
    exact ⟨rfl, HS2.out⟩
end Go.Proofs.Ytjjofjnhhajjjaa.Jr
namespace Go.Proofs.Ytjjofjnhhajjjaa.Jr
open Go.RowKit
open Nd (Row wp_world post_Row grownBy_setCell grownBy_trans below_of_grown u8v Grew Sl hid_in i64r bytesS str)
open Pt (Dk PtV FS Sub Stp liv arOf appE appD begE begD synD wipD fliD oth)
set_option maxHeartbeats 2000000 in
set_option maxRecDepth 100000 in
theorem anew_48 {w : World} {B g j b2 b6 : Nat} {v0 v1 : Value} {d : Dk} {vs : List Value} {a : Int} (h : PtV w B g v0 v1 d) (hj : Row w j (.pointer (some ⟨g, 0, none⟩) :: vs) 68) (hc : w.cell? ⟨b2, 0, none⟩ = some (.pointer (some ⟨j, 0, none⟩))) (ho : w.cell? ⟨b6, 0, none⟩ = some (.int .i64 a)) :
    Calls Try.prog 48 #[.pointer (some ⟨b2, 0, none⟩), .pointer (some ⟨b6, 0, none⟩)] w fun e w' => e = .returned (.int .i64 (begE 2 a d)) ∧ Stp w w' B g v0 v1 (wipD a d) := by
  have hb : Below w.heap.size w w.drew := (Below.refl _ _).drew
  have HB := hid_in hb
  have HC := hid_in (Pt.wipe_any (h.below hb) a)
  have j0 : w.cell? ⟨j, 0, none⟩ = some (.pointer (some ⟨g, 0, none⟩)) := hj.cell 0
  generalize begE 2 a d = x1 at *
  generalize wipD a d = x2 at *
  clear h hj hb
  go_enter Try.func48, Try.ntmps48
  go_upto_region 1 with fail
  go_region_with (first | (go_at_call 49; refine HC.out.mono ?_; rintro e w1 ⟨rfl, hs⟩; have HS := hid_in hs; clear hs))
  all_goals go_wp2
  all_goals go_ret
  all_goals exact ⟨rfl, HS.out.ahead HB.out⟩
set_option maxHeartbeats 2000000 in
set_option maxRecDepth 100000 in
theorem anew_50 {w : World} {B g j b2 b6 : Nat} {v0 v1 : Value} {d : Dk} {vs : List Value} {a : Int} {b3 : Nat} (h : PtV w B g v0 v1 d) (hj : Row w j (.pointer (some ⟨g, 0, none⟩) :: vs) 68) (hc : w.cell? ⟨b2, 0, none⟩ = some (.pointer (some ⟨j, 0, none⟩))) (ho : w.cell? ⟨b6, 0, none⟩ = some (.int .i64 a)) (p : Option Addr) (xs : List Nat) (cap b off : Nat) (h3 : w.cell? ⟨b3, 0, none⟩ = some (.slice p xs.length cap)) (hsl : Sl w p xs cap b off) (hno : p = none → xs.length = 0 ∧ cap = 0) (hl : (arOf a d).bs.length + xs.length ≤ 140737488355328) :
    Calls Try.prog 50 #[.pointer (some ⟨b2, 0, none⟩), .pointer (some ⟨b6, 0, none⟩), .pointer (some ⟨b3, 0, none⟩)] w fun e w' => e = .returned (.int .i64 (appE a d)) ∧ Stp w w' B g v0 v1 (appD a xs d) := by
  have hb : Below w.heap.size w w.drew := (Below.refl _ _).drew
  have HB := hid_in hb
  have HC := hid_in (Pt.append_any (h.below hb) a p xs cap b off (hsl.below hb) hno hl)
  have j0 : w.cell? ⟨j, 0, none⟩ = some (.pointer (some ⟨g, 0, none⟩)) := hj.cell 0
  generalize appE a d = x1 at *
  generalize appD a xs d = x2 at *
  clear h hj hb hsl hno hl
  go_enter Try.func50, Try.ntmps50
  go_upto_region 1 with fail
  go_region_with (first | (go_at_call 51; refine HC.out.mono ?_; rintro e w1 ⟨rfl, hs⟩; have HS := hid_in hs; clear hs))
  all_goals go_wp2
  all_goals go_ret
  all_goals exact ⟨rfl, HS.out.ahead HB.out⟩
set_option maxHeartbeats 2000000 in
set_option maxRecDepth 100000 in
theorem anew_52 {w : World} {B g j b2 b6 : Nat} {v0 v1 : Value} {d : Dk} {vs : List Value} {a : Int} (h : PtV w B g v0 v1 d) (hj : Row w j (.pointer (some ⟨g, 0, none⟩) :: vs) 68) (hc : w.cell? ⟨b2, 0, none⟩ = some (.pointer (some ⟨j, 0, none⟩))) (ho : w.cell? ⟨b6, 0, none⟩ = some (.int .i64 a)) :
    Calls Try.prog 52 #[.pointer (some ⟨b2, 0, none⟩), .pointer (some ⟨b6, 0, none⟩)] w fun e w' => e = .returned (.int .i64 (begE 1 a d)) ∧ Stp w w' B g v0 v1 (synD a d) := by
  have hb : Below w.heap.size w w.drew := (Below.refl _ _).drew
  have HB := hid_in hb
  have HC := hid_in (Pt.sync_any (h.below hb) a)
  have j0 : w.cell? ⟨j, 0, none⟩ = some (.pointer (some ⟨g, 0, none⟩)) := hj.cell 0
  generalize begE 1 a d = x1 at *
  generalize synD a d = x2 at *
  clear h hj hb
  go_enter Try.func52, Try.ntmps52
  go_upto_region 1 with fail
  go_region_with (first | (go_at_call 20; refine HC.out.mono ?_; rintro e w1 ⟨rfl, hs⟩; have HS := hid_in hs; clear hs))
  all_goals go_wp2
  all_goals go_ret
  all_goals exact ⟨rfl, HS.out.ahead HB.out⟩
set_option maxHeartbeats 2000000 in
set_option maxRecDepth 100000 in
theorem anew_54 {w : World} {B g j b2 b6 : Nat} {v0 v1 : Value} {d : Dk} {vs : List Value} {a : Int} (h : PtV w B g v0 v1 d) (hj : Row w j (.pointer (some ⟨g, 0, none⟩) :: vs) 68) (hc : w.cell? ⟨b2, 0, none⟩ = some (.pointer (some ⟨j, 0, none⟩))) (ho : w.cell? ⟨b6, 0, none⟩ = some (.int .i64 a)) :
    Calls Try.prog 54 #[.pointer (some ⟨b2, 0, none⟩), .pointer (some ⟨b6, 0, none⟩)] w fun e w' => e = .returned (.int .i64 (begE 2 a d)) ∧ Stp w w' B g v0 v1 (wipD a d) := by
  have hb : Below w.heap.size w w.drew := (Below.refl _ _).drew
  have HB := hid_in hb
  have HC := hid_in (Pt.wipe_any (h.below hb) a)
  have j0 : w.cell? ⟨j, 0, none⟩ = some (.pointer (some ⟨g, 0, none⟩)) := hj.cell 0
  generalize begE 2 a d = x1 at *
  generalize wipD a d = x2 at *
  clear h hj hb
  go_enter Try.func54, Try.ntmps54
  go_upto_region 1 with fail
  go_region_with (first | (go_at_call 49; refine HC.out.mono ?_; rintro e w1 ⟨rfl, hs⟩; have HS := hid_in hs; clear hs))
  all_goals go_wp2
  all_goals go_ret
  all_goals exact ⟨rfl, HS.out.ahead HB.out⟩
end Go.Proofs.Ytjjofjnhhajjjaa.Jr
