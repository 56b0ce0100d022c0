/-
  For the reference's rename: appends in regions that draw, stores into a row of files; what rename answers. The walk of the reference's Check, leaf by leaf.
-/
import Derived.Laws.CopyOwn
import Derived.Deep.RegionLaw
import Derived.Deep.DrawnRows
import Derived.Deep.CutRange
import Derived.Lib.SlBytesConst
import Derived.Lib.AppendZeros
import Derived.Laws.Tables
import Derived.Test.YtngehkmdanhgpaaGreatQ00
import Derived.Test.YtngehkmdanhgpaaGreatQ01
import Derived.Test.YtngehkmdanhgpaaGreatQ02
import Derived.Test.YtngehkmdanhgpaaGreatQ03
import Derived.Test.YtngehkmdanhgpaaGreatQ04
import Derived.Test.YtngehkmdanhgpaaGreatQ05
import Derived.Test.YtngehkmdanhgpaaGreatQ06
import Derived.Test.YtngehkmdanhgpaaGreatQ07
import Derived.Test.YtngehkmdanhgpaaGreatQ08
import Derived.Test.YtngehkmdanhgpaaGreatQ09
import Derived.Test.YtngehkmdanhgpaaGreatQ10
import Derived.Test.YtngehkmdanhgpaaGreatQ11
import Derived.Test.YtngehkmdanhgpaaGreatQ12
import Derived.Test.YtngehkmdanhgpaaGreatQ13
import Derived.Test.YtngehkmdanhgpaaGreatQ14
import Derived.Test.YtngehkmdanhgpaaGreatQ15
import Derived.Test.YtngehkmdanhgpaaGreatQ16
import Derived.Test.YtngehkmdanhgpaaGreatQ17
import Derived.Test.YtngehkmdanhgpaaGreatQ18
import Derived.Test.YtngehkmdanhgpaaGreatQ19
import Derived.Test.YtngehkmdanhgpaaGreatQ20
import Derived.Test.YtngehkmdanhgpaaGreatQ21
import Derived.Test.YtngehkmdanhgpaaGreatQ22
import Derived.Test.YtngehkmdanhgpaaGreatQ23
import Derived.Test.YtngehkmdanhgpaaGreatQ24
import Derived.Test.YtngehkmdanhgpaaGreatQ25
import Derived.Test.YtngehkmdanhgpaaGreatQ26
import Derived.Test.YtngehkmdanhgpaaGreatQ27
import Derived.Test.YtngehkmdanhgpaaGreatQ28
import Derived.Test.YtngehkmdanhgpaaGreatQ29
import Derived.Test.YtngehkmdanhgpaaGreatQ30
import Derived.Test.YtngehkmdanhgpaaGreatQ31
import Derived.Test.YtngehkmdanhgpaaGreatQ32
import Derived.Test.YtngehkmdanhgpaaGreatQ33
import Derived.Test.YtngehkmdanhgpaaGreatQ34
import Derived.Test.YtngehkmdanhgpaaGreatQ35
import Derived.Test.YtngehkmdanhgpaaGreatQ36
import Derived.Test.YtngehkmdanhgpaaGreatQ37
import Derived.Test.YtngehkmdanhgpaaGreatQ38
import Derived.Test.YtngehkmdanhgpaaGreatQ39
namespace Go.Proofs.YtngehkmdanhgpaaGreat.Pl
open Go.RowKit
open Vp (Str B bl Val cmpL parseS showS splitS withinS IsPath sv)
open Nd (Row wp_world post_Row post_Row2 grownBy_setCell below_of_grown)
open Rf (Fil Fls FO fcells fcells_len fcells_one fcells_at)
theorem wp_appN {o : Oper} {a : Act} {w : World} {K : Act → World → Prop} {Q : Exit → Act → World → Prop} (B : Nat) (s x : Operand) (ho : o.op = .call { callee := .builtin .append, args := #[s, x], argTypes := #[35, 35] })
    (v : Value) (xs ys : List Str) (hs : a.eval s = v) (hown : Vp.Nms w B v xs) (u : Value) (hx : a.eval x = u) (hu : Val w u ys) (hlen : xs.length + ys.length ≤ 1000000) (hB : B ≤ w.heap.size)
    (h : ∀ v' w', Vp.Nms w' B v' (xs ++ ys) → w.grownBy w' v.ownBlock → K (a.put o.dst v') w') : o.wp Tryz.prog a w K Q := by
  obtain ⟨p, cap, rfl, hr⟩ := hu
  obtain ⟨i, z, hi, hz1, hz2, hz3, hz4⟩ := info9h
  rcases p with _ | ad
  · obtain ⟨rfl, rfl⟩ := hr.nil rfl
    have hrun := run_append_owned_none (P := Tryz.prog) (w := w) B 35 o.type 9 i 1 Tryz.underlying35 hi.out v xs.length (xs.map sv) hown
    have hk := h v w (by simpa using hown) ⟨rfl, rfl, rfl, Nat.le_refl _, fun _ _ _ => rfl⟩
    unfold Oper.wp
    simp only [List.length_nil] at hx
    simp [execOp, ho, resolve, invoke, builtin, hs, hx, hrun, Result.andThen]
    exact hk
  · obtain ⟨b, off, h1, h2⟩ := hr.cells
    refine wp_append_own w s x 35 ho B 9 i z 1 16 Tryz.underlying35 hi.out hz3.out hz1.out hz2.out hz4.out (by decide) v xs.length (xs.map sv) hs hown ad ys.length cap (ys.map sv) hx (by simp) (fun j u hj => ?_) (fun u hu => by obtain ⟨y, _, rfl⟩ := List.mem_map.1 hu; rfl) (by unfold maxLen; omega) (by omega) hB ?_
    · have hne : ys ≠ [] := by rintro rfl; simp at hj
      obtain rfl := Option.some.inj (h1 hne).1
      rw [Addr.add_mid]
      rw [List.getElem?_map] at hj
      cases hy : ys[j]? with
      | none => rw [hy] at hj; cases hj
      | some y =>
        rw [hy] at hj
        obtain rfl := Option.some.inj hj
        exact h2 j y hy
    · intro v' w' h6 h7 _
      refine h v' w' ?_ h7
      unfold Vp.Nms
      rw [List.length_append, List.map_append]
      exact h6
theorem wp_app81 {o : Oper} {a : Act} {w : World} {K : Act → World → Prop} {Q : Exit → Act → World → Prop} (B : Nat) (s x : Operand) (ho : o.op = .call { callee := .builtin .append, args := #[s, x], argTypes := #[22, 22] })
    (v : Value) (xs ys : List Fil) (hs : a.eval s = v) (hown : FO w B v xs) (u : Value) (hx : a.eval x = u) (hu : Fls w u ys) (hlen : xs.length + ys.length ≤ 1000000) (hB : B ≤ w.heap.size)
    (h : ∀ v' w', FO w' B v' (xs ++ ys) → w.grownBy w' v.ownBlock → K (a.put o.dst v') w') : o.wp Tryz.prog a w K Q := by
  obtain ⟨p, cap, b, off, rfl, h1, h2, h3, h4, h5⟩ := hu
  obtain ⟨i, z, hi, hz1, hz2, hz3, hz4⟩ := Rf.info81h
  rcases p with _ | ad
  · obtain ⟨rfl, rfl⟩ := h5 rfl
    have hrun := run_append_owned_none (P := Tryz.prog) (w := w) B 22 o.type 48 i 3 Tryz.underlying22 hi.out v xs.length (fcells xs) hown
    have hk := h v w (by simpa using hown) ⟨rfl, rfl, rfl, Nat.le_refl _, fun _ _ _ => rfl⟩
    unfold Oper.wp
    simp only [List.length_nil] at hx
    simp [execOp, ho, resolve, invoke, builtin, hs, hx, hrun, Result.andThen]
    exact hk
  · refine wp_append_own w s x 22 ho B 48 i z 3 40 Tryz.underlying22 hi.out hz3.out hz1.out hz2.out hz4.out (by decide) v xs.length (fcells xs) hs hown ad ys.length cap (fcells ys) hx (fcells_len ys) (fun j u hj => ?_) (fcells_one ys) (by unfold maxLen; omega) (by omega) hB ?_
    · have hne : ys ≠ [] := by rintro rfl; simp [fcells] at hj
      obtain rfl := Option.some.inj (h3 hne).1
      rw [Addr.add_mid]
      exact h4 j u hj
    · intro v' w' h6 h7 _
      refine h v' w' ?_ h7
      unfold FO
      rw [List.length_append, show fcells (xs ++ ys) = fcells xs ++ fcells ys by simp [fcells]]
      exact h6
theorem fo_built (w : World) (f : Fil) : FO (w.alloc (.cells #[.string f.path, .bool f.dir, .string f.data] 48)) w.heap.size (.slice (some ⟨w.heap.size, 0, none⟩) 1 1) [f] :=
  ⟨rfl, .inr ⟨w.heap.size, 1, _, rfl, Nat.le_refl _, heap_alloc_new w _, Nat.le_refl _, by unfold maxLen; omega, rfl, rfl⟩⟩
theorem nms_made (w : World) : Vp.Nms (w.alloc (.cells #[] 9)) w.heap.size (.slice (some ⟨w.heap.size, 0, none⟩) 0 0) [] := World.ownsRow_made (base := w.heap.size) (e := 9) (size := 1) w #[] 0 (Nat.le_refl _) (by simp) rfl
theorem fo_some2 {w : World} {B : Nat} {v : Value} {fs : List Fil} (h : FO w B v fs) (hne : fs ≠ []) : ∃ g c, v = .slice (some ⟨g, 0, none⟩) fs.length c ∧ B ≤ g := by
  obtain ⟨_, ⟨_, h0⟩ | ⟨g, cap, cur, rfl, hB, _⟩⟩ := h
  · exact absurd (List.length_eq_zero_iff.1 h0) hne
  · exact ⟨g, cap, rfl, hB⟩
theorem fcells_setP : ∀ (fs : List Fil) (i : Nat) (f : Fil) (D : ByteArray), fs[i]? = some f → fcells (fs.set i ⟨D, f.dir, f.data⟩) = (fcells fs).set (i * 3) (.string D)
  | [], i, f, D, h => by simp at h
  | a :: r, 0, f, D, h => by
    simp at h
    subst h
    rfl
  | a :: r, i + 1, f, D, h => by
    have ih := fcells_setP r i f D (by simpa using h)
    have e1 : fcells ((a :: r).set (i + 1) ⟨D, f.dir, f.data⟩) = a.cells ++ fcells (r.set i ⟨D, f.dir, f.data⟩) := rfl
    have e2 : fcells (a :: r) = a.cells ++ fcells r := rfl
    rw [e1, e2, ih, show (i + 1) * 3 = a.cells.length + i * 3 by simp [Rf.Fil.cells]; omega, List.set_append_right _ _ (by omega)]
    congr 2
    omega
/-- a path of a row of the call's own is stored anew -/
theorem fo_storeP {W : World} {K g l c : Nat} {es : List Ent} {i : Nat} {x : Ent} (h : FO W K (.slice (some ⟨g, 0, none⟩) l c) (es.map Ent.fil)) (hi : es[i]? = some x) : ∃ vs, Row W g vs 48 ∧ vs[i * 3]? = some (.string (B (showS x.names))) ∧ i < l ∧ ∀ W' n, Row W' g (vs.set (i * 3) (.string (B (showS n)))) 48 → FO W' K (.slice (some ⟨g, 0, none⟩) l c) ((es.set i ⟨n, x.dir, x.data⟩).map Ent.fil) := by
  obtain ⟨h1, ⟨h2, _⟩ | ⟨g', cap', cur, hv, hB, hh, hn, hm, hs, ht⟩⟩ := h
  · cases h2
  · simp only [Value.slice.injEq, Option.some.injEq, Addr.mk.injEq] at hv
    obtain ⟨⟨rfl, -⟩, rfl, rfl⟩ := hv
    have hil : i < es.length := (List.getElem?_eq_some_iff.1 hi).1
    rw [List.length_map] at hn ht
    have hfi : (es.map Ent.fil)[i]? = some x.fil := by rw [List.getElem?_map, hi]; rfl
    have hc0 := fcells_at hfi 0 _ rfl
    rw [Nat.add_zero, ← ht, List.getElem?_take] at hc0
    split at hc0
    · refine ⟨cur.toList, hh, hc0, by rw [List.length_map]; exact hil, fun W' n hr => ?_⟩
      have e : (es.set i ⟨n, x.dir, x.data⟩).map Ent.fil = (es.map Ent.fil).set i ⟨B (showS n), x.fil.dir, x.fil.data⟩ := by rw [List.map_set]; rfl
      rw [e]
      unfold FO
      rw [List.length_set, List.length_map, fcells_setP _ i x.fil _ hfi]
      refine ⟨?_, .inr ⟨g, c, (cur.toList.set (i * 3) (.string (B (showS n)))).toArray, rfl, hB, hr, hn, hm, ?_, ?_⟩⟩
      · rw [List.length_set]; have := fcells_len (es.map Ent.fil); rw [List.length_map] at this; exact this
      · simp; exact hs
      · rw [← ht]
        exact (List.take_set ..)
    · cases hc0
theorem nodrew {b c : World} (h : Below b.drew.heap.size b.drew c) : Below b.heap.size b c := (Nd.below_drewN (Below.refl _ b) 1).trans h
theorem nodrewo {b c : World} {k : Option Nat} (h : b.drew.grownBy c k) : b.grownBy c k := World.grownBy.andThen ((grown_of_below (Nd.below_drewN (Below.refl _ b) 1)).but _) h (fun _ e => .inr e)
theorem nms_drew {w : World} {K : Nat} {v : Value} {xs : List Str} (h : Vp.Nms w K v xs) : Vp.Nms w.drew K v xs := h
/-- between two rounds of the loop that moves -/
def mids (p q : List Str) (ms : List Ent) (i : Nat) : List Ent := (ms.take i).map (mvR p q) ++ ms.drop i
theorem mids_at {p q : List Str} {ms : List Ent} {i : Nat} {e : Ent} (h : ms[i]? = some e) : (mids p q ms i)[i]? = some e := by
  have hl := (List.getElem?_eq_some_iff.1 h).1
  unfold mids
  rw [List.getElem?_append_right (by simp; omega), List.getElem?_drop]
  simp only [List.length_map, List.length_take]
  rw [Nat.min_eq_left (by omega), Nat.sub_self, Nat.add_zero, h]
theorem mids_set {p q : List Str} {ms : List Ent} {i : Nat} {e : Ent} (h : ms[i]? = some e) : (mids p q ms i).set i (mvR p q e) = mids p q ms (i + 1) := by
  have hl := (List.getElem?_eq_some_iff.1 h).1
  unfold mids
  rw [List.set_append_right _ _ (by simp; omega)]
  simp only [List.length_map, List.length_take]
  rw [Nat.min_eq_left (by omega), Nat.sub_self, List.take_add_one, h, List.map_append, List.append_assoc]
  congr 1
  rw [List.drop_eq_getElem_cons hl, List.set_cons_zero]
  rfl
theorem mids_zero (p q : List Str) (ms : List Ent) : mids p q ms 0 = ms := by simp [mids]
theorem mids_all (p q : List Str) (ms : List Ent) : mids p q ms ms.length = ms.map (mvR p q) := by simp [mids]
/-- what rename answers -/
def covR (es : List Ent) (xd : Bool) (q : List Str) : Int := match entAt es q with
  | none => 0
  | some o => if xd = false ∧ o.dir = true then 71 else if xd = true ∧ o.dir = false then 70 else if xd = true ∧ 0 < (es.filter (belowE q)).length then 130 else 0
def rnR (es : List Ent) (p q : List Str) : Int :=
  if p = [] ∨ q = [] then 132
  else if (lookR es p).2 ≠ 0 then (lookR es p).2
  else if dirR es q ≠ 0 then dirR es q
  else if p = q then 0
  else if withinS q p = true then 131
  else if covR es (lookR es p).1.dir q ≠ 0 then covR es (lookR es p).1.dir q
  else if ((lookR es p).1 :: es.filter (belowE p)).any (deepE p q) = true then 42 else 0
theorem bel2 {w WA W : World} (h1 : Below w.heap.size w WA) (h2 : Below WA.heap.size WA W) : Below w.heap.size w W := h1.trans (h2.mono h1.size)
theorem at_none9 {es : List Ent} {xs : List Str} {k : Int} (h : IsAt es xs k) (hn : entAt es xs = none) : k = -1 := by
  rcases h with ⟨h, _⟩ | ⟨i, x, _, h2, h3⟩
  · exact h
  · exact absurd (List.mem_map.2 ⟨x, List.mem_of_getElem? h2, h3⟩) (at_noneP.1 hn)
theorem at_one9 {es : List Ent} (hnd : (es.map (·.names)).Nodup) {xs : List Str} {k : Int} {o : Ent} (h : IsAt es xs k) (ho : entAt es xs = some o) : ∃ i : Nat, k = (i : Int) ∧ es[i]? = some o := by
  rcases h with ⟨_, h⟩ | ⟨i, x, h1, h2, h3⟩
  · rw [h] at ho; cases ho
  · have h4 := at_mem hnd (List.mem_of_getElem? h2)
    rw [h3, ho] at h4
    obtain rfl := Option.some.inj h4
    exact ⟨i, h1, h2⟩
theorem names_d {e : Ent} (h : Gp e.names) (n el : Nat) (hel : e.names.length = el) (hn : n ≤ el) (w : World) : Calls Tryz.prog 19 #[.string (B (showS e.names))] w fun x w' => ∃ p c r, x = .returned (.slice p el c) ∧ Val w' (.slice p el c) e.names ∧ (∀ W, (Instr.slice 35 (.slice p el c) (some (.int .i64 (n : Int))) none none).run Tryz.prog W = .ok (.slice r (el - n) (c - n)) W) ∧ (∀ W, Val W (.slice p el c) e.names → Val W (.slice r (el - n) (c - n)) (e.names.drop n)) ∧ Below w.heap.size w w' := by
  subst hel
  refine (names_e h w).mono ?_
  rintro x w' ⟨p, c, rfl, hv, hb⟩
  obtain ⟨r, h1, h2⟩ := val_drop hv n hn
  exact ⟨p, c, r, rfl, hv, h1, h2, hb⟩
theorem fo_somE {w : World} {K : Nat} {v : Value} {es : List Ent} (h : FO w K v (es.map Ent.fil)) (hne : es ≠ []) : ∃ g c, v = .slice (some ⟨g, 0, none⟩) es.length c ∧ K ≤ g := by
  obtain ⟨g, c, h1, h2⟩ := fo_some2 h (by simpa using hne)
  rw [List.length_map] at h1
  exact ⟨g, c, h1, h2⟩
theorem rg_bel {w W : World} {b o : Nat} {cs : List Value} (h : w.rangeAt b o cs) (hb : Below w.heap.size w W) : W.rangeAt b o cs := by
  intro j u hj
  have h1 := h j u hj
  have hlt := World.block_lt_of_cell? w _ h1
  rw [hb.cell hlt]
  exact h1
theorem row_rg {w : World} {b : Nat} {vs : List Value} {t : TypeId} (h : Row w b vs t) : w.rangeAt b 0 vs := by
  intro j u hj
  rw [Nat.zero_add, h.cell]
  exact hj
theorem insAll_take {bs ms : List Ent} {i : Nat} {e : Ent} (h : ms[i]? = some e) : insAll bs (ms.take (i + 1)) = insE (insAll bs (ms.take i)) e := by
  unfold insAll
  rw [List.take_add_one, h, List.foldl_append]
  rfl
theorem insAll_gp {bs ms : List Ent} (h1 : ∀ e ∈ bs, Gp e.names) (h2 : ∀ e ∈ ms, Gp e.names) : ∀ e ∈ insAll bs ms, Gp e.names := fun e he => by
  rcases List.mem_append.1 ((insAll_perm ms bs).mem_iff.1 he) with h | h
  · exact h2 e h
  · exact h1 e h
theorem mv_gp {p q : List Str} {e : Ent} (gq : Gp q) (he : Gp e.names) (hw : withinS e.names p = true) (hd : deepE p q e = false) : Gp (mvR p q e).names := by
  obtain ⟨s, hs⟩ := within_iff.1 hw
  unfold deepE at hd
  have h1 := of_decide_eq_false hd
  rw [hs, List.length_append] at h1
  show Gp (q ++ e.names.drop p.length)
  rw [hs, List.drop_left]
  exact Gp.app gq (fun x hx => he.1 x (by rw [hs]; exact List.mem_append_right _ hx)) (by omega)
end Go.Proofs.YtngehkmdanhgpaaGreat.Pl
namespace Go.Proofs.YtngehkmdanhgpaaGreat.Nd
open Go.RowKit
set_option maxHeartbeats 4000000 in
set_option maxRecDepth 100000 in
theorem rc_11a (p t d : ByteArray) (a z : Int) (h_p : p ≠ ⟨#[]⟩) (w : World) : Calls Tryz.prog 33 #[.agg #[.int .i64 11, .string p, .string t, .string d, .int .i64 a, .int .i64 z]] w fun e w' => e = .returned (.int .i64 (1)) ∧ Below w.heap.size w w' := by
  have n_p : p.toList.isEmpty = false := by
    rw [List.isEmpty_eq_false_iff]; exact fun e => h_p (toL_inj (b := ⟨#[]⟩) (e.trans (by rw [Lib.toList_data])))
  obtain ⟨W0, H0, HR0, HB0, HZ0⟩ := op_row w (11) (a) (z) p t d
  have c0 : W0.cell? ⟨w.heap.size, 0, none⟩ = some (.int .i64 (11)) := HR0.out.cell 0
  have c1 : W0.cell? ⟨w.heap.size, 1, none⟩ = some (.string p) := HR0.out.cell 1
  have c2 : W0.cell? ⟨w.heap.size, 2, none⟩ = some (.string t) := HR0.out.cell 2
  have c3 : W0.cell? ⟨w.heap.size, 3, none⟩ = some (.string d) := HR0.out.cell 3
  have c4 : W0.cell? ⟨w.heap.size, 4, none⟩ = some (.int .i64 (a)) := HR0.out.cell 4
  have c5 : W0.cell? ⟨w.heap.size, 5, none⟩ = some (.int .i64 (z)) := HR0.out.cell 5
  go_enter Tryz.func33, Tryz.ntmps33
  go_upto_region 1 with fail
  refine wp_world H0.out ?_
  clear H0
  go_wp2
  go_ret
  exact ⟨rfl, HB0.out⟩
set_option maxHeartbeats 4000000 in
set_option maxRecDepth 100000 in
theorem rc_11b (t d : ByteArray) (a z : Int) (h_t : t ≠ ⟨#[]⟩) (w : World) : Calls Tryz.prog 33 #[.agg #[.int .i64 11, .string ⟨#[]⟩, .string t, .string d, .int .i64 a, .int .i64 z]] w fun e w' => e = .returned (.int .i64 (1)) ∧ Below w.heap.size w w' := by
  have n_t : t.toList.isEmpty = false := by
    rw [List.isEmpty_eq_false_iff]; exact fun e => h_t (toL_inj (b := ⟨#[]⟩) (e.trans (by rw [Lib.toList_data])))
  obtain ⟨W0, H0, HR0, HB0, HZ0⟩ := op_row w (11) (a) (z) ⟨#[]⟩ t d
  have c0 : W0.cell? ⟨w.heap.size, 0, none⟩ = some (.int .i64 (11)) := HR0.out.cell 0
  have c1 : W0.cell? ⟨w.heap.size, 1, none⟩ = some (.string ⟨#[]⟩) := HR0.out.cell 1
  have c2 : W0.cell? ⟨w.heap.size, 2, none⟩ = some (.string t) := HR0.out.cell 2
  have c3 : W0.cell? ⟨w.heap.size, 3, none⟩ = some (.string d) := HR0.out.cell 3
  have c4 : W0.cell? ⟨w.heap.size, 4, none⟩ = some (.int .i64 (a)) := HR0.out.cell 4
  have c5 : W0.cell? ⟨w.heap.size, 5, none⟩ = some (.int .i64 (z)) := HR0.out.cell 5
  go_enter Tryz.func33, Tryz.ntmps33
  go_upto_region 1 with fail
  refine wp_world H0.out ?_
  clear H0
  go_wp2
  go_ret
  exact ⟨rfl, HB0.out⟩
set_option maxHeartbeats 4000000 in
set_option maxRecDepth 100000 in
theorem rc_11c (d : ByteArray) (a z : Int) (h_d : d ≠ ⟨#[]⟩) (w : World) : Calls Tryz.prog 33 #[.agg #[.int .i64 11, .string ⟨#[]⟩, .string ⟨#[]⟩, .string d, .int .i64 a, .int .i64 z]] w fun e w' => e = .returned (.int .i64 (1)) ∧ Below w.heap.size w w' := by
  have n_d : d.toList.isEmpty = false := by
    rw [List.isEmpty_eq_false_iff]; exact fun e => h_d (toL_inj (b := ⟨#[]⟩) (e.trans (by rw [Lib.toList_data])))
  obtain ⟨W0, H0, HR0, HB0, HZ0⟩ := op_row w (11) (a) (z) ⟨#[]⟩ ⟨#[]⟩ d
  have c0 : W0.cell? ⟨w.heap.size, 0, none⟩ = some (.int .i64 (11)) := HR0.out.cell 0
  have c1 : W0.cell? ⟨w.heap.size, 1, none⟩ = some (.string ⟨#[]⟩) := HR0.out.cell 1
  have c2 : W0.cell? ⟨w.heap.size, 2, none⟩ = some (.string ⟨#[]⟩) := HR0.out.cell 2
  have c3 : W0.cell? ⟨w.heap.size, 3, none⟩ = some (.string d) := HR0.out.cell 3
  have c4 : W0.cell? ⟨w.heap.size, 4, none⟩ = some (.int .i64 (a)) := HR0.out.cell 4
  have c5 : W0.cell? ⟨w.heap.size, 5, none⟩ = some (.int .i64 (z)) := HR0.out.cell 5
  go_enter Tryz.func33, Tryz.ntmps33
  go_upto_region 1 with fail
  refine wp_world H0.out ?_
  clear H0
  go_wp2
  go_ret
  exact ⟨rfl, HB0.out⟩
set_option maxHeartbeats 4000000 in
set_option maxRecDepth 100000 in
theorem rc_11d (a z : Int) (h_z : z ≠ 0) (w : World) : Calls Tryz.prog 33 #[.agg #[.int .i64 11, .string ⟨#[]⟩, .string ⟨#[]⟩, .string ⟨#[]⟩, .int .i64 a, .int .i64 z]] w fun e w' => e = .returned (.int .i64 (1)) ∧ Below w.heap.size w w' := by
  have q1_z : (z != 0) = true := bne_iff_ne.2 h_z
  have q2_z : (z == 0) = false := beq_eq_false_iff_ne.2 h_z
  obtain ⟨W0, H0, HR0, HB0, HZ0⟩ := op_row w (11) (a) (z) ⟨#[]⟩ ⟨#[]⟩ ⟨#[]⟩
  have c0 : W0.cell? ⟨w.heap.size, 0, none⟩ = some (.int .i64 (11)) := HR0.out.cell 0
  have c1 : W0.cell? ⟨w.heap.size, 1, none⟩ = some (.string ⟨#[]⟩) := HR0.out.cell 1
  have c2 : W0.cell? ⟨w.heap.size, 2, none⟩ = some (.string ⟨#[]⟩) := HR0.out.cell 2
  have c3 : W0.cell? ⟨w.heap.size, 3, none⟩ = some (.string ⟨#[]⟩) := HR0.out.cell 3
  have c4 : W0.cell? ⟨w.heap.size, 4, none⟩ = some (.int .i64 (a)) := HR0.out.cell 4
  have c5 : W0.cell? ⟨w.heap.size, 5, none⟩ = some (.int .i64 (z)) := HR0.out.cell 5
  go_enter Tryz.func33, Tryz.ntmps33
  go_upto_region 1 with fail
  refine wp_world H0.out ?_
  clear H0
  go_wp2
  go_ret
  exact ⟨rfl, HB0.out⟩
set_option maxHeartbeats 4000000 in
set_option maxRecDepth 100000 in
theorem rc_11e (a : Int) (ha : a < 0) (w : World) : Calls Tryz.prog 33 #[.agg #[.int .i64 11, .string ⟨#[]⟩, .string ⟨#[]⟩, .string ⟨#[]⟩, .int .i64 a, .int .i64 0]] w fun e w' => e = .returned (.int .i64 (1)) ∧ Below w.heap.size w w' := by
  obtain ⟨W0, H0, HR0, HB0, HZ0⟩ := op_row w (11) (a) (0) ⟨#[]⟩ ⟨#[]⟩ ⟨#[]⟩
  have c0 : W0.cell? ⟨w.heap.size, 0, none⟩ = some (.int .i64 (11)) := HR0.out.cell 0
  have c1 : W0.cell? ⟨w.heap.size, 1, none⟩ = some (.string ⟨#[]⟩) := HR0.out.cell 1
  have c2 : W0.cell? ⟨w.heap.size, 2, none⟩ = some (.string ⟨#[]⟩) := HR0.out.cell 2
  have c3 : W0.cell? ⟨w.heap.size, 3, none⟩ = some (.string ⟨#[]⟩) := HR0.out.cell 3
  have c4 : W0.cell? ⟨w.heap.size, 4, none⟩ = some (.int .i64 (a)) := HR0.out.cell 4
  have c5 : W0.cell? ⟨w.heap.size, 5, none⟩ = some (.int .i64 (0)) := HR0.out.cell 5
  go_enter Tryz.func33, Tryz.ntmps33
  go_upto_region 1 with fail
  refine wp_world H0.out ?_
  clear H0
  go_wp2
  go_ret
  exact ⟨rfl, HB0.out⟩
set_option maxHeartbeats 4000000 in
set_option maxRecDepth 100000 in
theorem rc_11f  (w : World) : Calls Tryz.prog 33 #[.agg #[.int .i64 11, .string ⟨#[]⟩, .string ⟨#[]⟩, .string ⟨#[]⟩, .int .i64 0, .int .i64 0]] w fun e w' => e = .returned (.int .i64 (1)) ∧ Below w.heap.size w w' := by
  obtain ⟨W0, H0, HR0, HB0, HZ0⟩ := op_row w (11) (0) (0) ⟨#[]⟩ ⟨#[]⟩ ⟨#[]⟩
  have c0 : W0.cell? ⟨w.heap.size, 0, none⟩ = some (.int .i64 (11)) := HR0.out.cell 0
  have c1 : W0.cell? ⟨w.heap.size, 1, none⟩ = some (.string ⟨#[]⟩) := HR0.out.cell 1
  have c2 : W0.cell? ⟨w.heap.size, 2, none⟩ = some (.string ⟨#[]⟩) := HR0.out.cell 2
  have c3 : W0.cell? ⟨w.heap.size, 3, none⟩ = some (.string ⟨#[]⟩) := HR0.out.cell 3
  have c4 : W0.cell? ⟨w.heap.size, 4, none⟩ = some (.int .i64 (0)) := HR0.out.cell 4
  have c5 : W0.cell? ⟨w.heap.size, 5, none⟩ = some (.int .i64 (0)) := HR0.out.cell 5
  go_enter Tryz.func33, Tryz.ntmps33
  go_upto_region 1 with fail
  refine wp_world H0.out ?_
  clear H0
  go_wp2
  go_ret
  exact ⟨rfl, HB0.out⟩
set_option maxHeartbeats 4000000 in
set_option maxRecDepth 100000 in
theorem rc_11g (a : Int) (ha : 8 < a) (w : World) : Calls Tryz.prog 33 #[.agg #[.int .i64 11, .string ⟨#[]⟩, .string ⟨#[]⟩, .string ⟨#[]⟩, .int .i64 a, .int .i64 0]] w fun e w' => e = .returned (.int .i64 (1)) ∧ Below w.heap.size w w' := by
  have u1 : ¬ (a < 0) := by omega
  have u2 : (a == 0) = false := beq_eq_false_iff_ne.2 (by omega)
  obtain ⟨W0, H0, HR0, HB0, HZ0⟩ := op_row w (11) (a) (0) ⟨#[]⟩ ⟨#[]⟩ ⟨#[]⟩
  have c0 : W0.cell? ⟨w.heap.size, 0, none⟩ = some (.int .i64 (11)) := HR0.out.cell 0
  have c1 : W0.cell? ⟨w.heap.size, 1, none⟩ = some (.string ⟨#[]⟩) := HR0.out.cell 1
  have c2 : W0.cell? ⟨w.heap.size, 2, none⟩ = some (.string ⟨#[]⟩) := HR0.out.cell 2
  have c3 : W0.cell? ⟨w.heap.size, 3, none⟩ = some (.string ⟨#[]⟩) := HR0.out.cell 3
  have c4 : W0.cell? ⟨w.heap.size, 4, none⟩ = some (.int .i64 (a)) := HR0.out.cell 4
  have c5 : W0.cell? ⟨w.heap.size, 5, none⟩ = some (.int .i64 (0)) := HR0.out.cell 5
  go_enter Tryz.func33, Tryz.ntmps33
  go_upto_region 1 with fail
  refine wp_world H0.out ?_
  clear H0
  go_wp2
  go_ret
  exact ⟨rfl, HB0.out⟩
set_option maxHeartbeats 4000000 in
set_option maxRecDepth 100000 in
theorem rc_11h (a : Int) (ha : 1 ≤ a) (ha2 : a ≤ 8) (w : World) : Calls Tryz.prog 33 #[.agg #[.int .i64 11, .string ⟨#[]⟩, .string ⟨#[]⟩, .string ⟨#[]⟩, .int .i64 a, .int .i64 0]] w fun e w' => e = .returned (.int .i64 (0)) ∧ Below w.heap.size w w' := by
  have u1 : ¬ (a < 0) := by omega
  have u2 : (a == 0) = false := beq_eq_false_iff_ne.2 (by omega)
  have u3 : ¬ (8 < a) := by omega
  have u4 : ¬ (1024 < a) := by omega
  obtain ⟨W0, H0, HR0, HB0, HZ0⟩ := op_row w (11) (a) (0) ⟨#[]⟩ ⟨#[]⟩ ⟨#[]⟩
  have c0 : W0.cell? ⟨w.heap.size, 0, none⟩ = some (.int .i64 (11)) := HR0.out.cell 0
  have c1 : W0.cell? ⟨w.heap.size, 1, none⟩ = some (.string ⟨#[]⟩) := HR0.out.cell 1
  have c2 : W0.cell? ⟨w.heap.size, 2, none⟩ = some (.string ⟨#[]⟩) := HR0.out.cell 2
  have c3 : W0.cell? ⟨w.heap.size, 3, none⟩ = some (.string ⟨#[]⟩) := HR0.out.cell 3
  have c4 : W0.cell? ⟨w.heap.size, 4, none⟩ = some (.int .i64 (a)) := HR0.out.cell 4
  have c5 : W0.cell? ⟨w.heap.size, 5, none⟩ = some (.int .i64 (0)) := HR0.out.cell 5
  go_enter Tryz.func33, Tryz.ntmps33
  go_upto_region 1 with fail
  refine wp_world H0.out ?_
  clear H0
  go_wp2
  go_ret
  exact ⟨rfl, HB0.out⟩
set_option maxHeartbeats 2000000 in
set_option maxRecDepth 100000 in
theorem rc_none (p t d : ByteArray) (k a z : Int) (hk : ¬ (1 ≤ k ∧ k ≤ 11)) (w : World) : Calls Tryz.prog 33 #[.agg #[.int .i64 k, .string p, .string t, .string d, .int .i64 a, .int .i64 z]] w fun e w' => e = .returned (.int .i64 100) ∧ Below w.heap.size w w' := by
  obtain ⟨W0, H0, HR0, HB0, HZ0⟩ := op_row w k a z p t d
  have c0 : W0.cell? ⟨w.heap.size, 0, none⟩ = some (.int .i64 k) := HR0.out.cell 0
  rcases (show k < 1 ∨ 11 < k by omega) with h | h
  · clear hk
    go_enter Tryz.func33, Tryz.ntmps33
    go_upto_region 1 with fail
    refine wp_world H0.out ?_
    clear H0
    go_wp2
    go_ret
    exact ⟨rfl, HB0.out⟩
  · have h1 : ¬ (k < 1) := by omega
    clear hk
    go_enter Tryz.func33, Tryz.ntmps33
    go_upto_region 1 with fail
    refine wp_world H0.out ?_
    clear H0
    go_wp2
    go_ret
    exact ⟨rfl, HB0.out⟩
end Go.Proofs.YtngehkmdanhgpaaGreat.Nd
