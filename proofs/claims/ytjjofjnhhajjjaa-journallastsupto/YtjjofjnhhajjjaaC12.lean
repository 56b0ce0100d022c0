/-
  slices.Clone, slices.Grow of none, slices.Concat of two, of entries. What a record makes of what is kept, by its kind: rise, add, replace.
-/
import Derived.Laws.Tables
import Derived.OwnWalk
import Derived.Lib.SlBytesConst
import Derived.Deep.RegionLaw
import Derived.Deep.CutRange
import Derived.Laws.CopyOwn
import Derived.Deep.DrawnRows
import Derived.Laws.StructEq
import Derived.Test.YtjjofjnhhajjjaaC00
import Derived.Test.YtjjofjnhhajjjaaC01
import Derived.Test.YtjjofjnhhajjjaaC02
import Derived.Test.YtjjofjnhhajjjaaC03
import Derived.Test.YtjjofjnhhajjjaaC04
import Derived.Test.YtjjofjnhhajjjaaC05
import Derived.Test.YtjjofjnhhajjjaaC06
import Derived.Test.YtjjofjnhhajjjaaC07
import Derived.Test.YtjjofjnhhajjjaaC08
import Derived.Test.YtjjofjnhhajjjaaC09
import Derived.Test.YtjjofjnhhajjjaaC10
import Derived.Test.YtjjofjnhhajjjaaC11
namespace Go.Proofs.Ytjjofjnhhajjjaa.Jr
open Go.RowKit
open Nd (Row wp_world post_Row grownBy_setCell below_of_grown u8v Grew Sl hid_in i64r)
theorem eo_empty (w : World) : ∃ W, Hid (w.alloc (.cells #[] 51) = W) ∧ Hid (EO W w.heap.size (.slice (some ⟨w.heap.size, 0, none⟩) 0 0) []) ∧ Hid (Below w.heap.size w W) :=
  ⟨_, rfl, ⟨rfl, .inr ⟨w.heap.size, 0, _, rfl, Nat.le_refl _, (MapKept.heap_alloc w _).1, Nat.le_refl _, by unfold maxLen; omega, rfl, rfl⟩⟩, (Below.refl _ _).alloc (Nat.le_refl _) _⟩
theorem EO.mono {w : World} {B C : Nat} {v : Value} {es : List Ent} (h : EO w C v es) (hB : B ≤ C) : EO w B v es := by
  obtain ⟨h1, h2⟩ := h
  refine ⟨h1, ?_⟩
  rcases h2 with h2 | ⟨g, cap, cur, e, hC, r⟩
  · exact .inl h2
  · exact .inr ⟨g, cap, cur, e, Nat.le_trans hB hC, r⟩
theorem nil28_yes (w : World) : (binOp .eql 28 (.slice none 0 0) (.slice none 0 0)).run Try.prog w = .ok (.bool true) w := by kernel_rfl
theorem nil28_no (ad : Addr) (n c : Nat) (w : World) : (binOp .eql 28 (.slice (some ad) n c) (.slice none 0 0)).run Try.prog w = .ok (.bool false) w := by kernel_rfl
theorem EO.lt {w : World} {B : Nat} {v : Value} {es : List Ent} (h : EO w B v es) : ∀ k, v.ownBlock = some k → B ≤ k ∧ k < w.heap.size := World.ownsRow.lt h
set_option maxHeartbeats 1000000 in
set_option maxRecDepth 100000 in
theorem eclone_any (es : List Ent) (v : Value) (w : World) (hn : es.length ≤ 100000000000) (h : Es w v es) :
    Calls Try.prog 31 #[v] w fun e w' => ∃ v', e = .returned v' ∧ EO w' w.heap.size v' es ∧ Below w.heap.size w w' := by
  obtain ⟨p, cap, rfl, hc1, hc2⟩ := h.form
  rcases p with _ | ad
  · obtain ⟨_, _, _, _, h1, _, _, _, _, h6⟩ := h
    injection h1 with h1 h2 h3
    obtain ⟨rfl, h7⟩ := h6 h1.symm
    subst h3
    subst h7
    clear h1 h2 h6
    simp only [List.length_nil]
    have hn1 := nil28_yes w
    go_enter Try.func31, Try.ntmps31
    go_wp2
    go_ret
    exact ⟨_, rfl, EO.nil _ _, Below.refl _ _⟩
  · obtain ⟨W1, HW1, HN1, HB1⟩ := eo_empty w
    have HE := hid_in (h.below HB1.out)
    have hn1 := nil28_no ad es.length cap w
    have hw := HW1.out
    subst hw
    clear h HW1
    go_enter Try.func31, Try.ntmps31
    go_wp2_with (first | (at_builtin; refine wpList_appE w.heap.size rfl (.tmp 5) (.tmp 6) rfl (.slice (some ⟨w.heap.size, 0, none⟩) 0 0) [] es rfl HN1.out _ rfl HE.out (by simp; omega) HB1.out.size ?_; intro v2 w2 hn2 hg2; have HB2 := hid_in (HB1.out.grown hg2 HB1.out.size (fun k e => (HN1.out.lt k e).1)); have HN2 := hid_in hn2; clear hn2 hg2))
    go_ret
    exact ⟨_, rfl, HN2.out, HB2.out⟩
set_option maxHeartbeats 2000000 in
set_option maxRecDepth 100000 in
theorem egrow_any (n : Nat) (h0 : 0 < n) (hn : n ≤ 100000000000) (w : World) :
    Calls Try.prog 91 #[.slice none 0 0, .int .i64 (n : Int)] w fun e w' => ∃ v, e = .returned v ∧ EO w' w.heap.size v [] ∧ Below w.heap.size w w' := by
  obtain ⟨i, z, hi, hz1, hz2, hz3, hz4⟩ := info51h
  have hrun := Lib.run_append_nil_zeros (P := Try.prog) w 28 3 28 51 i z .i64 .i64 Try.underlying28 Try.underlying3 hi.out hz3.out n h0 (by rw [hz1.out]; decide) (by omega) (by rw [hz2.out]; omega)
  have k1 : ¬ (n : Int) < 0 := by omega
  have k2 : (0 : Int) < (n : Int) := by omega
  have hc1 := grownCap_ge w n 0 51
  have hc2 := grownCap_le_maxLen w n 0 51 (by unfold maxLen; omega)
  obtain ⟨C, HC⟩ : ∃ C, Hid (grownCap w n 0 51 = C) := ⟨_, hid_in rfl⟩
  rw [HC.out] at hrun hc1 hc2
  obtain ⟨W2, HW2⟩ : ∃ W2, Hid (w.drew.alloc (.cells (Builtin.zeroCells z.cells n ++ Builtin.zeroCells z.cells (C - n)) 51) = W2) := ⟨_, hid_in rfl⟩
  have HZS : Hid ((Builtin.zeroCells z.cells n ++ Builtin.zeroCells z.cells (C - n)).size = C * 8) := by
    show _ = _
    have hzc : ∀ k, (Builtin.zeroCells z.cells k).size = k * 8 := fun k => by rw [size_zeroCells, hz4.out]
    rw [Array.size_append, hzc, hzc]; omega
  have HH : Hid (W2.heap[w.heap.size]? = some (.cells (Builtin.zeroCells z.cells n ++ Builtin.zeroCells z.cells (C - n)) 51 (0, 0))) := by
    show _ = _
    rw [← HW2.out]
    exact (MapKept.heap_alloc w.drew _).1
  have HB2 : Hid (Below w.heap.size w W2) := by rw [← HW2.out]; exact ((Below.refl _ _).drew).alloc (Nat.le_refl _) _
  rw [HW2.out] at hrun
  have hsl := slice28_to (some ⟨w.heap.size, 0, none⟩) n C 0 (by omega)
  go_enter Try.func91, Try.ntmps91
  go_wp2_with (first | (at_builtin; refine Lib.wpList_append_run _ rfl _ _ 28 3 rfl _ _ rfl rfl _ _ hrun ?_))
  go_ret
  exact ⟨_, rfl, ⟨rfl, .inr ⟨w.heap.size, C, _, rfl, Nat.le_refl _, HH.out, Nat.zero_le _, hc2, by rw [HZS.out], by simp [ecells]⟩⟩, HB2.out⟩
set_option maxHeartbeats 1000000 in
theorem egrow_zero (w : World) :
    Calls Try.prog 91 #[.slice none 0 0, .int .i64 0] w fun e w' => ∃ v, e = .returned v ∧ EO w' w.heap.size v [] ∧ Below w.heap.size w w' := by
  go_enter Try.func91, Try.ntmps91
  go_wp2
  go_ret
  exact ⟨_, rfl, EO.nil _ _, Below.refl _ _⟩
set_option maxHeartbeats 4000000 in
set_option maxRecDepth 100000 in
theorem econcat_any {w : World} {cb : Nat} {av bv : Value} {xs ys : List Ent} (hr : Row w cb [av, bv] 28) (ha : Es w av xs) (hb : Es w bv ys) (hl : xs.length + ys.length ≤ 100000000000) :
    Calls Try.prog 85 #[.slice (some ⟨cb, 0, none⟩) 2 2] w fun e w' => ∃ v, e = .returned v ∧ EO w' w.heap.size v (xs ++ ys) ∧ Below w.heap.size w w' := by
  have HA := hid_in ha
  have HB := hid_in hb
  obtain ⟨ap, ac, rfl, _, _⟩ := ha.form
  obtain ⟨bp, bc, rfl, _, _⟩ := hb.form
  have c0 : w.cell? ⟨cb, 0, none⟩ = some (.slice ap xs.length ac) := hr.cell 0
  have c1 : w.cell? ⟨cb, 1, none⟩ = some (.slice bp ys.length bc) := hr.cell 1
  have HR := hid_in hr
  obtain ⟨xl, HXL⟩ : ∃ xl, Hid (xs.length = xl) := ⟨_, hid_in rfl⟩
  obtain ⟨yl, HYL⟩ : ∃ yl, Hid (ys.length = yl) := ⟨_, hid_in rfl⟩
  rw [HXL.out] at HA c0 hl HR
  rw [HYL.out] at HB c1 hl HR
  have HGR : Hid (Calls Try.prog 91 #[.slice none 0 0, .int .i64 ((xl + yl : Nat) : Int)] w fun e w' => ∃ v, e = .returned v ∧ EO w' w.heap.size v [] ∧ Below w.heap.size w w') := by
    by_cases h0 : 0 < xl + yl
    · exact egrow_any (xl + yl) h0 (by omega) w
    · obtain h00 : xl + yl = 0 := by omega
      rw [h00]
      exact egrow_zero w
  have hcast : ((xl + yl : Nat) : Int) = (xl : Int) + (yl : Int) := by omega
  rw [hcast] at HGR
  have y1 : (0 : Int) ≤ (xl : Int) := by omega
  have y2 : (0 : Int) ≤ (yl : Int) := by omega
  have y3 : (xl : Int) + (yl : Int) ≤ 100000000000 := by omega
  clear ha hb hr hcast
  go_enter Try.func85, Try.ntmps85
  go_wp2_with fail
  refine wp_loop_rounds 3 ?_
  rw [rounds_succ]
  go_wp2
  rw [rounds_succ]
  go_wp2
  rw [rounds_succ]
  go_wp2_with (first | (go_at_call 91; refine HGR.out.mono ?_; rintro e w1 ⟨v1, rfl, hn1, hb1⟩; have HN1 := hid_in hn1; have HB1 := hid_in hb1; have hr1 := HR.out.below hb1 HR.out.lt; have d0 : w1.cell? ⟨cb, 0, none⟩ = some (.slice ap xl ac) := hr1.cell 0; have d1 : w1.cell? ⟨cb, 1, none⟩ = some (.slice bp yl bc) := hr1.cell 1; have HR1 := hid_in hr1; have HA1 := hid_in (HA.out.below hb1); have HB1' := hid_in (HB.out.below hb1); clear hn1 hb1 hr1))
  refine wp_loop_rounds 3 ?_
  rw [rounds_succ]
  go_upto_region 13 with fail
  go_wp2_with (first | (at_builtin; refine wpList_appE w.heap.size rfl (.tmp 31) (.tmp 32) rfl v1 [] xs rfl HN1.out _ rfl HA1.out (by rw [HXL.out]; show 0 + xl ≤ _; omega) HB1.out.size ?_; intro v2 w2 hn2 hg2; have hb2 := HB1.out.grown hg2 HB1.out.size (fun k e => (HN1.out.lt k e).1); have hr2 := HR.out.below hb2 HR.out.lt; have e1 : w2.cell? ⟨cb, 1, none⟩ = some (.slice bp yl bc) := hr2.cell 1; have HN2 := hid_in hn2; have HB2 := hid_in hb2; have HV2 := hid_in (HB.out.below hb2); clear hn2 hg2 hb2 hr2))
  rw [rounds_succ]
  go_wp2_with (first | (at_builtin; refine wpList_appE w.heap.size rfl (.tmp 31) (.tmp 32) rfl v2 ([] ++ xs) ys rfl HN2.out _ rfl HV2.out (by rw [List.nil_append, HXL.out, HYL.out]; omega) HB2.out.size ?_; intro v3 w3 hn3 hg3; have hb3 := HB2.out.grown hg3 HB2.out.size (fun k e => (HN2.out.lt k e).1); have HN3 := hid_in hn3; have HB3 := hid_in hb3; clear hn3 hg3 hb3))
  rw [rounds_succ]
  go_wp2
  go_ret
  exact ⟨_, rfl, HN3.out, HB3.out⟩
end Go.Proofs.Ytjjofjnhhajjjaa.Jr
namespace Go.Proofs.Ytjjofjnhhajjjaa.Jr
open Go.RowKit
open Nd (Row wp_world post_Row post_Row2 grownBy_setCell grownBy_trans below_of_grown u8v Grew Sl hid_in i64r bytesS str encO)
def zcells : List Value := [.int .i64 0, .int .i64 0, .int .i64 0, .string ⟨#[]⟩, .slice none 0 0]
/-- the call's own rows: the record, what is kept, the answer's -/
theorem rows3 (w : World) (rc kc : List Value) : ∃ W3, Hid (((w.alloc (.cells rc.toArray 77)).alloc (.cells kc.toArray 30)).alloc (.cells zcells.toArray 30) = W3) ∧ Hid (W3.heap.size = w.heap.size + 3) ∧
    Hid (Row W3 w.heap.size rc 77) ∧ Hid (Row W3 (w.heap.size + 1) kc 30) ∧ Hid (Row W3 (w.heap.size + 1 + 1) zcells 30) ∧ Hid (Below w.heap.size w W3) := by
  have h1 : Row (w.alloc (.cells rc.toArray 77)) w.heap.size rc 77 := Row.new w rc 77
  have s1 : (w.alloc (.cells rc.toArray 77)).heap.size = w.heap.size + 1 := by simp
  have b1 : Below w.heap.size w (w.alloc (.cells rc.toArray 77)) := (Below.refl _ _).alloc (Nat.le_refl _) _
  generalize w.alloc (.cells rc.toArray 77) = W1 at *
  have h2 : Row (W1.alloc (.cells kc.toArray 30)) (w.heap.size + 1) kc 30 := Row.newAt W1 _ kc 30 s1
  have s2 : (W1.alloc (.cells kc.toArray 30)).heap.size = w.heap.size + 2 := by simp; omega
  have b2 : Below W1.heap.size W1 (W1.alloc (.cells kc.toArray 30)) := (Below.refl _ _).alloc (Nat.le_refl _) _
  generalize W1.alloc (.cells kc.toArray 30) = W2 at *
  have h3 : Row (W2.alloc (.cells zcells.toArray 30)) (w.heap.size + 1 + 1) zcells 30 := Row.newAt W2 _ zcells 30 s2
  have s3 : (W2.alloc (.cells zcells.toArray 30)).heap.size = w.heap.size + 3 := by simp; omega
  have b3 : Below W2.heap.size W2 (W2.alloc (.cells zcells.toArray 30)) := (Below.refl _ _).alloc (Nat.le_refl _) _
  exact ⟨_, rfl, s3, (h1.below b2 (by omega)).below b3 (by omega), h2.below b3 (by omega), h3, (b1.trans (b2.mono (by omega))).trans (b3.mono (by omega))⟩
theorem set5 {W : World} {Z : Nat} {t : TypeId} {a0 a1 a2 a3 a4 : Value} (h : Row W Z [a0, a1, a2, a3, a4] t) (b0 b1 b2 b3 b4 : Value) :
    Row (((((W.setCell ⟨Z, 0, none⟩ b0).setCell ⟨Z, 1, none⟩ b1).setCell ⟨Z, 2, none⟩ b2).setCell ⟨Z, 3, none⟩ b3).setCell ⟨Z, 4, none⟩ b4) Z [b0, b1, b2, b3, b4] t ∧ W.grownBy (((((W.setCell ⟨Z, 0, none⟩ b0).setCell ⟨Z, 1, none⟩ b1).setCell ⟨Z, 2, none⟩ b2).setCell ⟨Z, 3, none⟩ b3).setCell ⟨Z, 4, none⟩ b4) (some Z) :=
  ⟨((((h.set_same 0 b0).set_same 1 b1).set_same 2 b2).set_same 3 b3).set_same 4 b4,
    grownBy_trans (grownBy_trans (grownBy_trans (grownBy_trans (grownBy_setCell W ⟨Z, 0, none⟩ b0) (grownBy_setCell _ ⟨Z, 1, none⟩ b1)) (grownBy_setCell _ ⟨Z, 2, none⟩ b2)) (grownBy_setCell _ ⟨Z, 3, none⟩ b3)) (grownBy_setCell _ ⟨Z, 4, none⟩ b4)⟩
/-- what a maker answers -/
def Mk (w w' : World) (B : Nat) (vk : Value) (o : Option Kt) (e : Ending) : Prop :=
  Below B w w' ∧ ((o = none ∧ e = .returned (.tuple #[zeroK.val (.slice none 0 0), .bool false])) ∨ ∃ n v, o = some n ∧ e = .returned (.tuple #[n.val v, .bool true]) ∧ Es w' v n.ents ∧ (v = vk ∨ EO w' B v n.ents))
theorem info30 : (Try.prog.info? 30).map (·.size) = some 5 := by kernel_rfl
set_option maxHeartbeats 2000000 in
set_option maxRecDepth 100000 in
theorem rise_any (r : Rc) (k : Kt) (vr vk : Value) (w : World) (hk : Es w vk k.ents) : Calls Try.prog 67 #[r.val vr, k.val vk] w fun e w' => Mk w w' w.heap.size vk (riseS r k) e := by
  obtain ⟨kd, fr, ⟨tv, tn, tb, ts, te⟩⟩ := r
  obtain ⟨kv, kn, kb, ks, ke⟩ := k
  obtain ⟨kp, kc, rfl, _, _⟩ := hk.form
  simp only [Rc.val, Kt.val]
  obtain ⟨W3, H3, HZS, HR, HK, HZ, HB⟩ := rows3 w [.int .i64 kd, .int .i64 fr, .int .i64 tv, .int .i64 tn, .int .i64 tb, .string ts, vr] [.int .i64 kv, .int .i64 kn, .int .i64 kb, .string ks, .slice kp ke.length kc]
  have HE := hid_in hk
  clear hk
  have r2 := HR.out.cell 2
  have k0 := HK.out.cell 0
  have k1 := HK.out.cell 1
  have k2 := HK.out.cell 2
  have k3 := HK.out.cell 3
  have k4 := HK.out.cell 4
  have g0 := HZ.out.cell 0
  have f0 := HZ.out.frozen 0
  have g1 := HZ.out.cell 1
  have f1 := HZ.out.frozen 1
  have g2 := HZ.out.cell 2
  have f2 := HZ.out.frozen 2
  have g3 := HZ.out.cell 3
  have f3 := HZ.out.frozen 3
  have g4 := HZ.out.cell 4
  have f4 := HZ.out.frozen 4
  have fk0 := HK.out.frozen 0
  simp only [List.getElem?_cons_zero, List.getElem?_cons_succ, zcells] at r2 k0 k1 k2 k3 k4 g0 g1 g2 g3 g4
  by_cases hc : tv ≤ kv
  · have hs : Hid (riseS ⟨kd, fr, ⟨tv, tn, tb, ts, te⟩⟩ ⟨kv, kn, kb, ks, ke⟩ = none) := by show _ = _; unfold riseS; rw [if_pos hc]
    rw [hs.out]
    go_enter Try.func67, Try.ntmps67
    go_upto_region 1 with fail
    refine wp_world H3.out ?_
    go_wp2
    have HF := hid_in (set5 HZ.out (.int .i64 0) (.int .i64 0) (.int .i64 0) (.string ⟨#[]⟩) (.slice none 0 0))
    refine post_Row2 4 5 30 Try.results67 (w.heap.size + 1 + 1) rfl 30 _ HF.out.1 _ Try.underlying30 rfl 5 info30 rfl rfl ?_
    exact ⟨HB.out.grown HF.out.2 HB.out.size (fun k e => by cases e; omega), .inl ⟨rfl, rfl⟩⟩
  · have hs : Hid (riseS ⟨kd, fr, ⟨tv, tn, tb, ts, te⟩⟩ ⟨kv, kn, kb, ks, ke⟩ = some ⟨tv, kn, kb, ks, ke⟩) := by show _ = _; unfold riseS; rw [if_neg hc]
    rw [hs.out]
    go_enter Try.func67, Try.ntmps67
    go_upto_region 1 with fail
    refine wp_world H3.out ?_
    go_wp2
    have HG0 := grownBy_setCell W3 ⟨w.heap.size + 1, 0, none⟩ (.int .i64 tv)
    have HF := hid_in (set5 (HZ.out.grew (Grew.of_grown HG0) (fun e => by simp at e)) (.int .i64 tv) (.int .i64 kn) (.int .i64 kb) (.string ks) (.slice kp ke.length kc))
    refine post_Row2 4 5 30 Try.results67 (w.heap.size + 1 + 1) rfl 30 _ HF.out.1 _ Try.underlying30 rfl 5 info30 rfl rfl ?_
    have hb := (HB.out.grown HG0 HB.out.size (fun k e => by cases e; exact Nat.le_succ _)).grown HF.out.2 (Nat.le_trans HB.out.size HG0.size) (fun k e => by cases e; exact Nat.le_trans (Nat.le_succ _) (Nat.le_succ _))
    have he := HE.out.below hb
    exact ⟨hb, .inr ⟨_, _, rfl, rfl, he, .inl rfl⟩⟩
theorem EO.form {w : World} {B : Nat} {v : Value} {es : List Ent} (h : EO w B v es) : ∃ p cap, v = .slice p es.length cap := by
  obtain ⟨p, cap, h, _⟩ := h.es.form
  exact ⟨p, cap, h⟩
theorem EO.keepN {w w' : World} {B z : Nat} {v : Value} {es : List Ent} (h : EO w B v es) (hg : w.grownBy w' (some z)) (hz : z < B) : EO w' B v es := by
  refine World.ownsRow.kept h hg (.inr fun e => ?_)
  have := (h.lt z e).1
  omega
theorem bodyPost_world {P : Program} {fn : Func} {R : Ending → World → Prop} {ex : Exit} {a : Act} {W W' : World} (h : W = W') (k : bodyPost P fn R ex a W') : bodyPost P fn R ex a W := h ▸ k
/-- the tail of a maker: the entries are stored, what is kept is answered -/
theorem mk_tail {w w1 : World} {kv kn kb : Int} {ks : ByteArray} {v : Value} {es : List Ent} (hb : Below w.heap.size w w1) (_hs : w.heap.size + 3 ≤ w1.heap.size) (hz : Row w1 (w.heap.size + 1 + 1) zcells 30) (C : Nat) (hC : w.heap.size + 3 ≤ C) (he : EO w1 C v es) :
    ∃ W, Hid (((((((w1.setCell ⟨w.heap.size + 1, 4, none⟩ v).setCell ⟨w.heap.size + 1 + 1, 0, none⟩ (.int .i64 kv)).setCell ⟨w.heap.size + 1 + 1, 1, none⟩ (.int .i64 kn)).setCell ⟨w.heap.size + 1 + 1, 2, none⟩ (.int .i64 kb)).setCell ⟨w.heap.size + 1 + 1, 3, none⟩ (.string ks)).setCell ⟨w.heap.size + 1 + 1, 4, none⟩ v) = W) ∧
      Hid (Row W (w.heap.size + 1 + 1) [.int .i64 kv, .int .i64 kn, .int .i64 kb, .string ks, v] 30) ∧ Hid (Below w.heap.size w W) ∧ Hid (EO W w.heap.size v es) := by
  have HG0 := grownBy_setCell w1 ⟨w.heap.size + 1, 4, none⟩ v
  have HF := set5 (hz.grew (Grew.of_grown HG0) (fun e => by simp at e)) (.int .i64 kv) (.int .i64 kn) (.int .i64 kb) (.string ks) v
  refine ⟨_, rfl, HF.1, (hb.grown HG0 hb.size (fun k e => by cases e; exact Nat.le_succ _)).grown HF.2 (Nat.le_trans hb.size HG0.size) (fun k e => by cases e; exact Nat.le_trans (Nat.le_succ _) (Nat.le_succ _)), ?_⟩
  exact ((he.keepN HG0 (by simp only; omega)).keepN HF.2 (by omega)).mono (by omega)
set_option maxHeartbeats 2000000 in
set_option maxRecDepth 100000 in
theorem add_any (r : Rc) (k : Kt) (vr vk : Value) (w : World) (hk : Es w vk k.ents) (hr : Es w vr r.told.ents) (hl : k.ents.length + r.told.ents.length ≤ 100000000000) : Calls Try.prog 68 #[r.val vr, k.val vk] w fun e w' => Mk w w' w.heap.size vk (addS r k) e := by
  obtain ⟨kd, fr, ⟨tv, tn, tb, ts, te⟩⟩ := r
  obtain ⟨kv, kn, kb, ks, ke⟩ := k
  obtain ⟨kp, kc, rfl, _, _⟩ := hk.form
  obtain ⟨rp, rc, rfl, _, _⟩ := hr.form
  simp only [Rc.val, Kt.val]
  simp only at hl hk hr
  obtain ⟨W3, H3, HZS, HR, HK, HZ, HB⟩ := rows3 w [.int .i64 kd, .int .i64 fr, .int .i64 tv, .int .i64 tn, .int .i64 tb, .string ts, .slice rp te.length rc] [.int .i64 kv, .int .i64 kn, .int .i64 kb, .string ks, .slice kp ke.length kc]
  obtain ⟨W4, H4, HR4, HB4, HS4⟩ := row_new W3 [.slice kp ke.length kc, .slice rp te.length rc] 28
  have HC := hid_in (econcat_any HR4.out ((hk.below HB.out).below HB4.out) ((hr.below HB.out).below HB4.out) hl)
  obtain ⟨ae, HAE⟩ : ∃ ae, Hid (ke ++ te = ae) := ⟨_, hid_in rfl⟩
  rw [HAE.out] at HC
  clear hk hr
  have r6 : W3.cell? ⟨w.heap.size, 6, none⟩ = some (.slice rp te.length rc) := HR.out.cell 6
  have k4 : W3.cell? ⟨w.heap.size + 1, 4, none⟩ = some (.slice kp ke.length kc) := HK.out.cell 4
  have hw4 := H4.out
  subst hw4
  clear H4
  go_enter Try.func68, Try.ntmps68
  go_upto_region 1 with fail
  refine wp_world H3.out ?_
  go_wp2_with (first | (go_at_call 85; refine HC.out.mono ?_; rintro e w5 ⟨v, rfl, ho, hb⟩; obtain ⟨p, c, rfl⟩ := ho.form; have HO5 := hid_in ho; have HB5 := hid_in (HB4.out.trans (hb.mono HB4.out.size)); clear ho hb; have HK5 := hid_in (HK.out.below HB5.out HK.out.lt); have HZ5 := hid_in (HZ.out.below HB5.out HZ.out.lt); have k0 : w5.cell? ⟨w.heap.size + 1, 0, none⟩ = some (.int .i64 kv) := HK5.out.cell 0; have g0 : w5.cell? ⟨w.heap.size + 1 + 1, 0, none⟩ = some (.int .i64 0) := HZ5.out.cell 0; have f0 := HZ5.out.frozen 0; have k1 : w5.cell? ⟨w.heap.size + 1, 1, none⟩ = some (.int .i64 kn) := HK5.out.cell 1; have g1 : w5.cell? ⟨w.heap.size + 1 + 1, 1, none⟩ = some (.int .i64 0) := HZ5.out.cell 1; have f1 := HZ5.out.frozen 1; have k2 : w5.cell? ⟨w.heap.size + 1, 2, none⟩ = some (.int .i64 kb) := HK5.out.cell 2; have g2 : w5.cell? ⟨w.heap.size + 1 + 1, 2, none⟩ = some (.int .i64 0) := HZ5.out.cell 2; have f2 := HZ5.out.frozen 2; have k3 : w5.cell? ⟨w.heap.size + 1, 3, none⟩ = some (.string ks) := HK5.out.cell 3; have g3 : w5.cell? ⟨w.heap.size + 1 + 1, 3, none⟩ = some (.string ⟨#[]⟩) := HZ5.out.cell 3; have f3 := HZ5.out.frozen 3; have k4 : w5.cell? ⟨w.heap.size + 1, 4, none⟩ = some (.slice kp ke.length kc) := HK5.out.cell 4; have g4 : w5.cell? ⟨w.heap.size + 1 + 1, 4, none⟩ = some (.slice none 0 0) := HZ5.out.cell 4; have f4 := HZ5.out.frozen 4; have fk4 := HK5.out.frozen 4))
  have HS5 : Hid (w.heap.size + 3 ≤ w5.heap.size) := by have h1 := HZS.out; have h2 := HB5.out.size; show _ ≤ _; omega
  obtain ⟨W, HW, HRW, HBW, HOW⟩ := mk_tail (kv := kv) (kn := kn) (kb := kb) (ks := ks) (HB.out.trans (HB5.out.mono HB.out.size)) HS5.out HZ5.out _ (by have h1 := HZS.out; simp; omega) HO5.out
  refine bodyPost_world HW.out ?_
  refine post_Row2 4 5 30 Try.results68 (w.heap.size + 1 + 1) rfl 30 _ HRW.out _ Try.underlying30 rfl 5 info30 rfl rfl ?_
  refine ⟨HBW.out, .inr ⟨⟨kv, kn, kb, ks, ae⟩, _, ?_, rfl, HOW.out.es, .inr HOW.out⟩⟩
  rw [← HAE.out]
  rfl
theorem mk_tailB {w w1 : World} {kv kn kb : Int} {ks : ByteArray} {v : Value} {es : List Ent} (hb : Below w.heap.size w w1) (_hs : w.heap.size + 3 ≤ w1.heap.size) (hz : Row w1 (w.heap.size + 1 + 1) zcells 30) (T : Nat) (hT : w.heap.size + 3 ≤ T) (C : Nat) (hC : T + 1 ≤ C) (he : EO w1 C v es) :
    ∃ W, Hid (((((((w1.setCell ⟨T, 4, none⟩ v).setCell ⟨w.heap.size + 1 + 1, 0, none⟩ (.int .i64 kv)).setCell ⟨w.heap.size + 1 + 1, 1, none⟩ (.int .i64 kn)).setCell ⟨w.heap.size + 1 + 1, 2, none⟩ (.int .i64 kb)).setCell ⟨w.heap.size + 1 + 1, 3, none⟩ (.string ks)).setCell ⟨w.heap.size + 1 + 1, 4, none⟩ v) = W) ∧
      Hid (Row W (w.heap.size + 1 + 1) [.int .i64 kv, .int .i64 kn, .int .i64 kb, .string ks, v] 30) ∧ Hid (Below w.heap.size w W) ∧ Hid (EO W w.heap.size v es) := by
  have HG0 := grownBy_setCell w1 ⟨T, 4, none⟩ v
  have HF := set5 (hz.grew (Grew.of_grown HG0) (fun e => by simp at e; omega)) (.int .i64 kv) (.int .i64 kn) (.int .i64 kb) (.string ks) v
  refine ⟨_, rfl, HF.1, (hb.grown HG0 hb.size (fun k e => by cases e; show w.heap.size ≤ T; omega)).grown HF.2 (Nat.le_trans hb.size HG0.size) (fun k e => by cases e; exact Nat.le_trans (Nat.le_succ _) (Nat.le_succ _)), ?_⟩
  exact ((he.keepN HG0 (by show T < C; omega)).keepN HF.2 (by omega)).mono (by omega)
set_option maxHeartbeats 4000000 in
set_option maxRecDepth 100000 in
theorem replace_any (r : Rc) (k : Kt) (vr vk : Value) (w : World) (hr : Es w vr r.told.ents) (hl : r.told.ents.length ≤ 100000000000) : Calls Try.prog 70 #[r.val vr, k.val vk] w fun e w' => Mk w w' w.heap.size vk (some r.told) e := by
  obtain ⟨kd, fr, ⟨tv, tn, tb, ts, te⟩⟩ := r
  obtain ⟨kv, kn, kb, ks, ke⟩ := k
  obtain ⟨rp, rc, rfl, _, _⟩ := hr.form
  simp only [Rc.val, Kt.val]
  simp only at hl hr
  obtain ⟨W3, H3, HZS, HR, HK, HZ, HB⟩ := rows3 w [.int .i64 kd, .int .i64 fr, .int .i64 tv, .int .i64 tn, .int .i64 tb, .string ts, .slice rp te.length rc] [.int .i64 kv, .int .i64 kn, .int .i64 kb, .string ks, vk]
  obtain ⟨W5, H5, HR5, HB5, HS4⟩ := row_new W3 [.int .i64 tv, .int .i64 tn, .int .i64 tb, .string ts, .slice rp te.length rc] 30
  have HC := hid_in (eclone_any te _ W5 hl ((hr.below HB.out).below HB5.out))
  clear hr
  have r2 : W3.cell? ⟨w.heap.size, 2, none⟩ = some (.int .i64 tv) := HR.out.cell 2
  have r3 : W3.cell? ⟨w.heap.size, 3, none⟩ = some (.int .i64 tn) := HR.out.cell 3
  have r4 : W3.cell? ⟨w.heap.size, 4, none⟩ = some (.int .i64 tb) := HR.out.cell 4
  have r5 : W3.cell? ⟨w.heap.size, 5, none⟩ = some (.string ts) := HR.out.cell 5
  have r6 : W3.cell? ⟨w.heap.size, 6, none⟩ = some (.slice rp te.length rc) := HR.out.cell 6
  go_enter Try.func70, Try.ntmps70
  go_upto_region 1 with fail
  refine wp_world H3.out ?_
  go_upto_region 2 with fail
  refine wp_world H5.out ?_
  have q4 : W5.cell? ⟨W3.heap.size, 4, none⟩ = some (.slice rp te.length rc) := HR5.out.cell 4
  go_upto_region 3 with (first | (go_at_call 31; refine HC.out.mono ?_; rintro e w5 ⟨v, rfl, ho, hb⟩; obtain ⟨p, c, rfl⟩ := ho.form; have HO5 := hid_in ho; have HB6 := hid_in (HB5.out.trans (hb.mono HB5.out.size)); have HK5 := hid_in (HR5.out.below hb HR5.out.lt); have HZ5 := hid_in (HZ.out.below HB6.out HZ.out.lt); clear ho hb q4; have k0 : w5.cell? ⟨W3.heap.size, 0, none⟩ = some (.int .i64 tv) := HK5.out.cell 0; have g0 : w5.cell? ⟨w.heap.size + 1 + 1, 0, none⟩ = some (.int .i64 0) := HZ5.out.cell 0; have f0 := HZ5.out.frozen 0; have fk0 := HK5.out.frozen 0; have k1 : w5.cell? ⟨W3.heap.size, 1, none⟩ = some (.int .i64 tn) := HK5.out.cell 1; have g1 : w5.cell? ⟨w.heap.size + 1 + 1, 1, none⟩ = some (.int .i64 0) := HZ5.out.cell 1; have f1 := HZ5.out.frozen 1; have fk1 := HK5.out.frozen 1; have k2 : w5.cell? ⟨W3.heap.size, 2, none⟩ = some (.int .i64 tb) := HK5.out.cell 2; have g2 : w5.cell? ⟨w.heap.size + 1 + 1, 2, none⟩ = some (.int .i64 0) := HZ5.out.cell 2; have f2 := HZ5.out.frozen 2; have fk2 := HK5.out.frozen 2; have k3 : w5.cell? ⟨W3.heap.size, 3, none⟩ = some (.string ts) := HK5.out.cell 3; have g3 : w5.cell? ⟨w.heap.size + 1 + 1, 3, none⟩ = some (.string ⟨#[]⟩) := HZ5.out.cell 3; have f3 := HZ5.out.frozen 3; have fk3 := HK5.out.frozen 3; have k4 : w5.cell? ⟨W3.heap.size, 4, none⟩ = some (.slice rp te.length rc) := HK5.out.cell 4; have g4 : w5.cell? ⟨w.heap.size + 1 + 1, 4, none⟩ = some (.slice none 0 0) := HZ5.out.cell 4; have f4 := HZ5.out.frozen 4; have fk4 := HK5.out.frozen 4))
  have hne1 : ¬ W3.heap.size = w.heap.size + 1 + 1 := by have h1 := HZS.out; omega
  have hne2 : ¬ w.heap.size + 1 + 1 = W3.heap.size := by have h1 := HZS.out; omega
  go_wp2
  obtain ⟨W, HW, HRW, HBW, HOW⟩ := mk_tailB (kv := tv) (kn := tn) (kb := tb) (ks := ts) (HB.out.trans (HB6.out.mono HB.out.size)) (by have h1 := HZS.out; have h2 := HB6.out.size; omega) HZ5.out W3.heap.size (by have h1 := HZS.out; omega) _ (by rw [HS4.out]; exact Nat.le_refl _) HO5.out
  refine bodyPost_world HW.out ?_
  refine post_Row2 4 5 30 Try.results70 (w.heap.size + 1 + 1) rfl 30 _ HRW.out _ Try.underlying30 rfl 5 info30 rfl rfl ?_
  exact ⟨HBW.out, .inr ⟨_, _, rfl, rfl, HOW.out.es, .inr HOW.out⟩⟩
end Go.Proofs.Ytjjofjnhhajjjaa.Jr
