/-
  The walks of the reference's Kids and of the program's. Lists of pairs that a call gathers; the wanted pairs with a digest. . The order of what a carrier wants, of none or of one pair: one pair more, one pair less. The wanted pairs with a digest.
-/
import Derived.OwnWalk
import Derived.Deep.CutRange
import Derived.Test.YtamaejlbojbbeaaGreatDoorQ00
import Derived.Test.YtamaejlbojbbeaaGreatDoorQ01
import Derived.Test.YtamaejlbojbbeaaGreatDoorQ02
import Derived.Test.YtamaejlbojbbeaaGreatDoorQ03
import Derived.Test.YtamaejlbojbbeaaGreatDoorQ04
import Derived.Test.YtamaejlbojbbeaaGreatDoorQ05
import Derived.Test.YtamaejlbojbbeaaGreatDoorQ06
import Derived.Test.YtamaejlbojbbeaaGreatDoorQ07
import Derived.Test.YtamaejlbojbbeaaGreatDoorQ08
import Derived.Test.YtamaejlbojbbeaaGreatDoorQ09
import Derived.Test.YtamaejlbojbbeaaGreatDoorQ10
import Derived.Test.YtamaejlbojbbeaaGreatDoorQ11
import Derived.Test.YtamaejlbojbbeaaGreatDoorQ12
import Derived.Test.YtamaejlbojbbeaaGreatDoorQ13
import Derived.Test.YtamaejlbojbbeaaGreatDoorQ15
import Derived.Test.YtamaejlbojbbeaaGreatDoorQ24
namespace Go.Proofs.YtamaejlbojbbeaaGreatDoor.Nd
open Go.RowKit
def kid (d : List Nat) : It := ⟨⟨#[]⟩, 1, d⟩
def kidsOf (n : Nd) : List It := n.parts.map kid ++ n.items
theorem build_kid (d : List Nat) (hd : d.length = 32) (w : World) : (Instr.build 114 #[(1, .int .i64 1), (2, .agg (dcells d).toArray)]).run Tryz.prog w = .ok (.agg (It.cells (kid d)).toArray) w := by
  obtain ⟨d0, d1, d2, d3, d4, d5, d6, d7, d8, d9, d10, d11, d12, d13, d14, d15, d16, d17, d18, d19, d20, d21, d22, d23, d24, d25, d26, d27, d28, d29, d30, d31, rfl⟩ := list32 d hd
  exact run_build w 114 _ _ (by kernel_rfl)
theorem wpList_slice29 {ops : Array Oper} {rest : List Oper} {d : Option Tmp} {ty : TypeId} {ps : String} {af : Array Edge} {x : Operand} {a : Act} {w : World} {Q : Exit → Act → World → Prop} (E : List Value) (hE : Hid (E.length = 34)) (hx : a.eval x = .agg E.toArray)
    (h : wpList Tryz.prog ops Q rest (a.put d (.slice (some ⟨w.heap.size, 0, none⟩) 1 1)) (w.alloc (.cells E.toArray 114))) : wpList Tryz.prog ops Q ({ dst := d, op := .buildSlice 106 1 #[(0, x)], type := ty, pos := ps, after := af, guard := none } :: rest) a w :=
  wpList_slice1 rfl 106 x rfl _ _ _ hx (slice29 E hE.out w) h
theorem flat_each {k : Nat} : ∀ {xs : List (List Value)}, (∀ us ∈ xs, us.length = k) → xs.flatten.length = k * xs.length
  | [], _ => by simp
  | x :: r, h => by
    have h1 := flat_each (fun us hus => h us (by simp [hus]) : ∀ us ∈ r, us.length = k)
    have h2 := h x (by simp)
    rw [List.flatten_cons, List.length_append, List.length_cons, Nat.mul_add]
    omega
theorem range_flat {w : World} {b o k : Nat} : ∀ {xs : List (List Value)}, (∀ us ∈ xs, us.length = k) → (∀ (i : Nat) us, xs[i]? = some us → w.rangeAt b (o + i * k) us) → ∀ (j : Nat) q, xs.flatten[j]? = some q → w.cell? ⟨b, o + j, none⟩ = some q
  | [], _, _, j, q, h => by simp at h
  | x :: r, he, hr, j, q, h => by
    have hx := he x (by simp)
    rw [List.flatten_cons] at h
    by_cases hj : j < x.length
    · rw [List.getElem?_append_left hj] at h
      have := hr 0 x rfl j q h
      simpa using this
    · rw [List.getElem?_append_right (by omega)] at h
      have := range_flat (o := o + k) (fun us hus => he us (by simp [hus]) : ∀ us ∈ r, us.length = k) (fun i us hi => by
        have := hr (i + 1) us (by simpa using hi)
        rw [Nat.add_mul, Nat.one_mul] at this
        rw [show o + k + i * k = o + (i * k + k) by omega]
        exact this) (j - x.length) q h
      rw [show o + k + (j - x.length) = o + j by omega] at this
      exact this
/-- items that the call itself gathers -/
structure KI (W0 W : World) (v : Value) (xs : List It) : Prop where
  own : W.ownsRow W0.heap.size 114 34 v xs.length (xs.map It.cells).flatten
  bel : Below W0.heap.size W0 W
theorem KI.below {W0 W W' : World} {v : Value} {xs : List It} (h : KI W0 W v xs) (hb : Below W.heap.size W W') : KI W0 W' v xs := ⟨own_belowK h.own hb, h.bel.trans (hb.mono h.bel.size)⟩
theorem KI.row {W0 W : World} {v : Value} {xs : List It} (h : KI W0 W v xs) {g : Nat} {vs : List Value} {t : TypeId} (hr : Row W0 g vs t) : Row W g vs t := hr.below h.bel hr.lt
theorem own_stepK {w w' : World} {B : Nat} {v : Value} {row : Option Nat} {a : World} (hb : Below B a w) (hg : w.grownBy w' row) (hB : B ≤ w.heap.size) (hv : row = v.ownBlock) {e : TypeId} {size n : Nat} {xs : List Value} (ho : w.ownsRow B e size v n xs) : Below B a w' := own_step hb hg hB hv ho
theorem KI.more {W0 W W' : World} {v v' : Value} {xs ys : List It} (h : KI W0 W v xs) (ho : W'.ownsRow W0.heap.size 114 34 v' (xs ++ ys).length ((xs ++ ys).map It.cells).flatten) (hg : W.grownBy W' v.ownBlock) : KI W0 W' v' (xs ++ ys) := ⟨ho, own_stepK h.bel hg h.bel.size rfl h.own⟩
/-- one item more: the slice of it was just built -/
theorem wpList_appI {ops : Array Oper} {rest : List Oper} {o : Oper} {a : Act} {w : World} {Q : Exit → Act → World → Prop} (W0 : World) (hgd : o.guard = none) (s x : Operand) (ho : o.op = .call { callee := .builtin .append, args := #[s, x], argTypes := #[106, 106] })
    (v : Value) (xs : List It) (y : It) (E : List Value) (hE : y.cells = E) (hy : E.length = 34) (hs : a.eval s = v) (hri : KI W0 w v xs) (hx : a.eval x = .slice (some ⟨w.heap.size, 0, none⟩) 1 1) (hlen : xs.length ≤ 3000000)
    (h : ∀ v' w', KI W0 w' v' (xs ++ [y]) → wpList Tryz.prog ops Q rest (a.put o.dst v') w') : wpList Tryz.prog ops Q (o :: rest) a (w.alloc (.cells E.toArray 114)) := by
  subst hE
  obtain ⟨je, hje, hy1, hy2, hy3⟩ := info51h
  obtain ⟨ye, hy4, hy5⟩ := hy3.out
  have hri' := hri.below ((Below.refl _ _).alloc (Nat.le_refl _) (.cells y.cells.toArray 114))
  refine wpList_append_own (w.alloc (.cells y.cells.toArray 114)) hgd s x 106 ho W0.heap.size 114 je ye 34 56 Tryz.underlying106 hje.out hy4 hy1.out hy2.out hy5 (by decide) v xs.length (xs.map It.cells).flatten hs hri'.own ⟨w.heap.size, 0, none⟩ 1 1 y.cells hx (by rw [hy]) (World.news_of_block (heap_alloc_new w _)) (It.one _) (by simp [maxLen]; omega) (by omega) hri'.bel.size ?_
  intro v' w' h2 h3 _
  refine h v' w' (hri'.more ?_ h3)
  simpa using h2
theorem KI.fin {w W0 W : World} {v : Value} {xs : List It} (h : KI W0 W v xs) (hb : Below w.heap.size w W0) : W.ownsRow w.heap.size 114 34 v xs.length (xs.map It.cells).flatten ∧ Below w.heap.size w W := by
  refine ⟨?_, hb.trans (h.bel.mono hb.size)⟩
  obtain ⟨h1, h2 | ⟨g, cap, cur, rfl, hB, r⟩⟩ := h.own
  · exact ⟨h1, .inl h2⟩
  · exact ⟨h1, .inr ⟨g, cap, cur, rfl, Nat.le_trans hb.size hB, r⟩⟩
theorem take_succ_map {α β : Type} (f : α → β) {l : List α} {i : Nat} {x : α} (h : l[i]? = some x) : (l.take (i + 1)).map f = (l.take i).map f ++ [f x] := by
  rw [List.take_add_one, h]
  simp
theorem run_app_none (base : Nat) (t ty e : TypeId) (i : TypeInfo) (size c : Nat) (ht : Tryz.prog.underlying t = some (.slice e)) (hi : Tryz.prog.info? e = some i) (w : World) (v : Value) (n : Nat) (xs : List Value) (hown : w.ownsRow base e size v n xs) :
    (Builtin.append_ #[t, t] ty #[v, .slice none 0 c]).run Tryz.prog w = .ok v w := by
  rcases hown.2 with ⟨rfl, rfl⟩ | ⟨g, cap, cur, rfl, _, _, hnc, _⟩
  · simp [Builtin.append_, run_underlying ht, sizeOf, typeInfo, hi, Builtin.lenOf, Builtin.firstCells]
  · simp [Builtin.append_, run_underlying ht, sizeOf, typeInfo, hi, Builtin.lenOf, Builtin.firstCells, hnc, storeCells]
/-- all items of a slice more -/
theorem wpList_appAll {ops : Array Oper} {rest : List Oper} {o : Oper} {a : Act} {w : World} {Q : Exit → Act → World → Prop} (W0 : World) (hgd : o.guard = none) (s x : Operand) (ho : o.op = .call { callee := .builtin .append, args := #[s, x], argTypes := #[106, 106] })
    (v u : Value) (xs ys : List It) (hs : a.eval s = v) (hri : KI W0 w v xs) (hx : a.eval x = u) (hu : Els w u 34 (ys.map It.cells)) (hlen : xs.length + ys.length ≤ 3000000)
    (h : ∀ v' w', KI W0 w' v' (xs ++ ys) → wpList Tryz.prog ops Q rest (a.put o.dst v') w') : wpList Tryz.prog ops Q (o :: rest) a w := by
  obtain ⟨je, hje, hy1, hy2, hy3⟩ := info51h
  obtain ⟨ye, hy4, hy5⟩ := hy3.out
  obtain ⟨p, cap, b, off, rfl, h1, h2, h3, h4⟩ := hu.ex
  rw [List.length_map] at hx h1
  rcases p with _ | ad
  · have h0 : ys = [] := by
      by_cases hne : ys.map It.cells = []
      · simpa using hne
      · have := (h3 hne).1; cases this
    subst h0
    refine wpList_plain hgd fun K hK => ?_
    have hrun := run_app_none W0.heap.size 106 o.type 114 je 34 cap Tryz.underlying106 hje.out w v xs.length _ hri.own
    unfold Oper.wp
    simp [execOp, ho, resolve, invoke, builtin, hs, hx, hrun, Result.andThen]
    exact hK _ _ (h v w (by simpa using hri))
  · refine wpList_append_own w hgd s x 106 ho W0.heap.size 114 je ye 34 56 Tryz.underlying106 hje.out hy4 hy1.out hy2.out hy5 (by decide) v xs.length (xs.map It.cells).flatten hs hri.own ad ys.length cap (ys.map It.cells).flatten hx ?_ ?_ ?_ (by simp [maxLen]; omega) (by omega) hri.bel.size ?_
    · have := flat_each hu.each
      simpa [Nat.mul_comm] using this
    · intro j q hq
      by_cases hne : ys.map It.cells = []
      · rw [hne] at hq; simp at hq
      · obtain ⟨h5, _⟩ := h3 hne
        obtain rfl := Option.some.inj h5
        rw [Addr.add_mid]
        exact range_flat hu.each h4 j q hq
    · intro q hq
      obtain ⟨l, hl, hq⟩ := List.mem_flatten.1 hq
      obtain ⟨y, _, rfl⟩ := List.mem_map.1 hl
      exact It.one y q hq
    · intro v' w' h5 h6 _
      refine h v' w' (hri.more ?_ h6)
      simpa using h5
set_option maxHeartbeats 4000000 in
set_option maxRecDepth 100000 in
theorem kids_w (w : World) (nk : Int) (nd : ByteArray) (ns : Int) (np : List (List Nat)) (ni : List It) (pp pi : Option Addr) (cp ci : Nat) (hp : Els w (.slice pp np.length cp) 32 (np.map dcells)) (hi : Els w (.slice pi ni.length ci) 34 (ni.map It.cells)) (hok1 : ∀ d ∈ np, Dg d) (lp : np.length ≤ 1048576) (li : ni.length ≤ 1048576) :
    Calls Tryz.prog 70 #[.agg #[.int .i64 nk, .string nd, .int .i64 ns, .slice pp np.length cp, .slice pi ni.length ci]] w fun e w' => ∃ u, e = .returned u ∧ w'.ownsRow w.heap.size 114 34 u (np.map kid ++ ni).length ((np.map kid ++ ni).map It.cells).flatten ∧ Below w.heap.size w w' := by
  have HI := hid_in hi
  obtain ⟨p', cap', bp, op, hv, hc1, hc2, hpp, hat⟩ := hp.ex
  rw [List.length_map] at hv hc1
  simp only [Value.slice.injEq, true_and] at hv
  obtain ⟨rfl, rfl⟩ := hv
  have HPP := hid_in hpp
  have HAT := hid_in hat
  have HO1 := hid_in hok1
  obtain ⟨je, hje, hy1, hy2, hy3⟩ := info51h
  obtain ⟨ye, hy4, hy5⟩ := hy3.out
  have HY4 := hid_in hy4
  have hwl : IntKind.i64.wrap ((np.length : Int) + (ni.length : Int)) = ((np.length + ni.length : Nat) : Int) := by rw [IntKind.wrap_i64]; omega
  clear hp hpp hat hi hok1 hy4 hy5 hy3
  go_enter Tryz.func70, Tryz.ntmps70
  go_upto_region 1 with fail
  obtain ⟨W0, HW0, HR0, HB0, HS0⟩ := node_row w nk ns nd (.slice pp np.length cp) (.slice pi ni.length ci)
  refine wp_world HW0.out ?_
  clear HW0
  have c3 : W0.cell? ⟨w.heap.size, 3, none⟩ = some (.slice pp np.length cp) := HR0.out.cell 3
  have c4 : W0.cell? ⟨w.heap.size, 4, none⟩ = some (.slice pi ni.length ci) := HR0.out.cell 4
  go_upto_region 2 with (refine wpList_make_own _ rfl _ _ 106 rfl W0.heap.size 114 je ye 34 Tryz.underlying106 hje.out HY4.out hy1.out .i64 .i64 _ (np.length + ni.length) rfl rfl (by first | exact hwl | rfl | simp) (by rw [hy2.out]; omega) (by simp [maxLen]; omega) (Nat.le_refl _) ?_; intro w2 hown hg2; have HK0 : Hid (KI W0 w2 _ []) := ⟨hown, (Below.refl _ _).grown hg2 (Nat.le_refl _) (fun q hq => by cases hq)⟩; clear hown hg2)
  have hr2 := HK0.out.row HR0.out
  have d3 : w2.cell? ⟨w.heap.size, 3, none⟩ = some (.slice pp np.length cp) := hr2.cell 3
  clear c3 c4 hr2 hwl
  go_wp2_with fail
  go_loopw [3, 17] (fun v vi W => ∃ j : Nat, vi = .int .i64 (j : Int) ∧ j ≤ np.length ∧ Hid (KI W0 W v ((np.take j).map kid))) (fun _ vi _ => np.length - (intOf vi).toNat)
  case atStart => exact ⟨0, rfl, by omega, by simpa using HK0⟩
  case round =>
    obtain ⟨j, rfl, hj, hRE⟩ := hrel
    clear d3 HK0
    by_cases hlt : j < np.length
    · obtain ⟨d, hdd⟩ : ∃ d, np[j]? = some d := ⟨_, List.getElem?_eq_getElem hlt⟩
      have hne : np.map dcells ≠ [] := by intro h; simp at h; rw [h] at hdd; simp at hdd
      obtain ⟨hq1, hq2⟩ := HPP.out hne
      subst hq1
      have hDd := HO1.out d (List.mem_of_getElem? hdd)
      have hbw : Below w.heap.size w wr := HB0.out.trans (hRE.out.bel.mono HB0.out.size)
      have HR : Hid (wr.rangeAt bp (op + j * 32) (dcells d)) := rangeAt_below (HAT.out j (dcells d) (by simp [hdd])) hbw hq2
      have HDL : Hid ((dcells d).length = 32) := dcells_length hDd.1
      have HD1 : Hid (∀ v ∈ dcells d, v.oneCell' = true) := one_u8 _
      have HBK := hid_in (fun W => build_kid d hDd.1 W)
      have HEL : Hid ((It.cells (kid d)).length = 34) := It.cells_length _ hDd.1
      have HTK := hid_in (take_succ_map kid hdd)
      have HLN : Hid (((np.take j).map kid).length ≤ 3000000) := by show _ ≤ _; simp; omega
      obtain ⟨E, HE⟩ : ∃ E, Hid (It.cells (kid d) = E) := ⟨_, rfl⟩
      rw [HE.out] at HEL HBK
      generalize hV : dcells d = V at *
      clear hdd hne hDd hbw hq2 hV
      go_wp2_with (first | (refine wpList_load_mid rfl 30 _ rfl bp _ rfl V _ HR.out Tryz.underlying30 rfl (by rw [info49, HDL.out]) ?_; simp only [Act.put, List.setIfInBounds_toArray, List.set_cons_zero, List.set_cons_succ]) | (refine wpList_store_new rfl rfl 30 32 _ _ rfl _ V info49 rfl HDL HD1 rfl rfl ?_; intro w5 hr5 hb5 hs5; have HK5 := hid_in (hRE.out.below hb5); clear hb5 hs5) | (refine wpList_load_Row rfl 30 _ rfl wr.heap.size rfl 30 _ hr5 _ Tryz.underlying30 rfl 32 info49 HDL.out ?_; simp only [Act.put, List.setIfInBounds_toArray, List.set_cons_zero, List.set_cons_succ]) | (refine wpList_build rfl 114 _ rfl #[(1, .int .i64 1), (2, .agg V.toArray)] (by simp only [List.map_toArray, List.map_cons, List.map_nil]; rfl) _ (HBK.out _) ?_; simp only [Act.put, List.setIfInBounds_toArray, List.set_cons_zero, List.set_cons_succ]) | ((with_reducible refine wpList_slice29 E HEL ?hx ?_); (case hx => rfl); simp only [Act.put, List.setIfInBounds_toArray, List.set_cons_zero, List.set_cons_succ]) | (at_builtin; refine wpList_appI W0 rfl (.tmp 21) (.tmp 24) rfl _ ((np.take j).map kid) (kid d) E HE.out HEL.out rfl HK5.out rfl HLN.out ?_; intro v4 w4 h4; have HK4 := hid_in h4; clear h4))
      go_roundw
      case measure => simp [intOf]; omega
      case rel =>
        go_light
        refine ⟨j + 1, by go_num, by omega, ?_⟩
        show KI _ _ _ _
        rw [HTK.out]
        exact HK4.out
    · obtain rfl : j = np.length := by omega
      have hr1 := hRE.out.row HR0.out
      have e4 : wr.cell? ⟨w.heap.size, 4, none⟩ = some (.slice pi ni.length ci) := hr1.cell 4
      rw [List.take_length] at hRE
      have HEI := hid_in (HI.out.below (HB0.out.trans (hRE.out.bel.mono HB0.out.size)))
      have HLN : Hid ((np.map kid).length + ni.length ≤ 3000000) := by show _ ≤ _; simp; omega
      clear hr1
      go_wp2_with (first | (at_builtin; refine wpList_appAll W0 rfl (.tmp 27) (.tmp 29) rfl _ _ (np.map kid) ni rfl hRE.out rfl HEI.out HLN.out ?_; intro v4 w4 h4; have HK4 := hid_in h4; clear h4))
      go_ret
      have h := HK4.out.fin HB0.out
      exact ⟨_, rfl, h.1, h.2⟩
theorem kids_any (w : World) (v : Value) (n : Nd) (h : IsN w v n) (lp : n.parts.length ≤ 1048576) (li : n.items.length ≤ 1048576) : Calls Tryz.prog 70 #[v] w fun e w' => ∃ u, e = .returned u ∧ w'.ownsRow w.heap.size 114 34 u (kidsOf n).length ((kidsOf n).map It.cells).flatten ∧ Below w.heap.size w w' := by
  have hok := h.ok
  obtain ⟨pp, cp, pi, ci, rfl⟩ := h.form
  obtain ⟨vp, vi, hv, hp, hi⟩ := h.ex
  simp only [Value.agg.injEq, Array.mk.injEq, List.cons.injEq, and_true, true_and] at hv
  obtain ⟨rfl, rfl⟩ := hv
  exact kids_w w n.kind n.data n.size n.parts n.items pp pi cp ci hp hi hok.parts lp li
end Go.Proofs.YtamaejlbojbbeaaGreatDoor.Nd
namespace Go.Proofs.YtamaejlbojbbeaaGreatDoor.Tr
open Go.RowKit
open Sb (hid_in Row Sl T5 BL u8v Tab wp_world grownBy_setCell below_of_grown info39 one_u8 splice_all rowOf rowOf_row St)
theorem info140h : ∃ i z, Hid (Tryz.prog.info? 140 = some i) ∧ Hid (i.size = 33) ∧ Hid (i.bytes = 40) ∧ Hid (i.zero = some z) ∧ Hid (z.cells.size = 33) := by
  have h : (Tryz.prog.info? 140).map (fun i => (i.size, i.bytes, i.zero.map (·.cells.size))) = some (33, 40, some 33) := by kernel_rfl
  cases hi : Tryz.prog.info? 140 with
  | none => rw [hi] at h; cases h
  | some i =>
    rw [hi] at h
    simp only [Option.map_some, Option.some.injEq, Prod.mk.injEq] at h
    obtain ⟨h1, h2, h3⟩ := h
    cases hz : i.zero with
    | none => rw [hz] at h3; cases h3
    | some z =>
      rw [hz] at h3
      simp at h3
      exact ⟨i, z, rfl, h1, h2, hz, h3⟩
theorem list33 (D : List Value) (h : D.length = 33) : ∃ E x, D = E ++ [x] ∧ E.length = 32 := by
  rcases List.eq_nil_or_concat D with rfl | ⟨E, x, rfl⟩
  · simp at h
  · exact ⟨E, x, by simp, by simpa using h⟩
theorem slice122 (D : List Value) (hD : D.length = 33) (w : World) : (Instr.buildSlice 122 1 #[(0, .agg D.toArray)]).run Tryz.prog w = .ok (.slice (some ⟨w.heap.size, 0, none⟩) 1 1) (w.alloc (.cells D.toArray 140)) := by
  obtain ⟨E, x, rfl, hE⟩ := list33 D hD
  obtain ⟨d0, d1, d2, d3, d4, d5, d6, d7, d8, d9, d10, d11, d12, d13, d14, d15, d16, d17, d18, d19, d20, d21, d22, d23, d24, d25, d26, d27, d28, d29, d30, d31, rfl⟩ := Nd.list32 E hE
  kernel_rfl
theorem build_pair (D : List Value) (hD : D.length = 32) (k : Int) (w : World) : (Instr.build 140 #[(0, .agg D.toArray), (1, .int .i64 k)]).run Tryz.prog w = .ok (.agg (D ++ [Value.int .i64 k]).toArray) w := by
  obtain ⟨d0, d1, d2, d3, d4, d5, d6, d7, d8, d9, d10, d11, d12, d13, d14, d15, d16, d17, d18, d19, d20, d21, d22, d23, d24, d25, d26, d27, d28, d29, d30, d31, rfl⟩ := Nd.list32 D hD
  exact run_build w 140 _ _ (by kernel_rfl)
/-- pairs that the call itself gathers -/
structure KP (B : Nat) (W0 W : World) (v : Value) (xs : List (List Nat × Int)) : Prop where
  own : W.ownsRow B 140 33 v xs.length (xs.map pcells).flatten
  bel : Below B W0 W
  le : B ≤ W.heap.size
theorem KP.below {B : Nat} {W0 W W' : World} {v : Value} {xs : List (List Nat × Int)} (h : KP B W0 W v xs) (hb : Below W.heap.size W W') : KP B W0 W' v xs := ⟨Nd.own_belowK h.own hb, h.bel.trans (hb.mono h.le), Nat.le_trans h.le hb.size⟩
theorem KP.nil (W : World) : KP W.heap.size W W (.slice none 0 0) [] := ⟨World.ownsRow_nil _ _ _ _, Below.refl _ _, Nat.le_refl _⟩
theorem wpList_slice122 {ops : Array Oper} {rest : List Oper} {d : Option Tmp} {ty : TypeId} {ps : String} {af : Array Edge} {x : Operand} {a : Act} {w : World} {Q : Exit → Act → World → Prop} (E : List Value) (hE : Hid (E.length = 33)) (hx : a.eval x = .agg E.toArray)
    (h : wpList Tryz.prog ops Q rest (a.put d (.slice (some ⟨w.heap.size, 0, none⟩) 1 1)) (w.alloc (.cells E.toArray 140))) : wpList Tryz.prog ops Q ({ dst := d, op := .buildSlice 122 1 #[(0, x)], type := ty, pos := ps, after := af, guard := none } :: rest) a w :=
  Nd.wpList_slice1 rfl 122 x rfl _ _ _ hx (slice122 E hE.out w) h
/-- one pair more: the slice of it was just built -/
theorem wpList_appP {ops : Array Oper} {rest : List Oper} {o : Oper} {a : Act} {w : World} {Q : Exit → Act → World → Prop} (B : Nat) (W0 : World) (hgd : o.guard = none) (s x : Operand) (ho : o.op = .call { callee := .builtin .append, args := #[s, x], argTypes := #[122, 122] })
    (v : Value) (xs : List (List Nat × Int)) (y : List Nat × Int) (E : List Value) (hE : Hid (E = pcells y)) (hy : Hid (E.length = 33)) (hs : a.eval s = v) (hri : KP B W0 w v xs) (hx : a.eval x = .slice (some ⟨w.heap.size, 0, none⟩) 1 1) (hlen : xs.length ≤ 3000000)
    (h : ∀ v' w', KP B W0 w' v' (xs ++ [y]) → wpList Tryz.prog ops Q rest (a.put o.dst v') w') : wpList Tryz.prog ops Q (o :: rest) a (w.alloc (.cells E.toArray 140)) := by
  obtain ⟨je, ye, hje, hy1, hy2, hy4, hy5⟩ := info140h
  have hri' := hri.below ((Below.refl _ _).alloc (Nat.le_refl _) (.cells E.toArray 140))
  refine wpList_append_own (w.alloc (.cells E.toArray 140)) hgd s x 122 ho B 140 je ye 33 40 Tryz.underlying122 hje.out hy4.out hy1.out hy2.out hy5.out (by decide) v xs.length (xs.map pcells).flatten hs hri'.own ⟨w.heap.size, 0, none⟩ 1 1 E hx (by rw [hy.out]) (World.news_of_block (heap_alloc_new w _)) (by rw [hE.out]; exact pcells_one _) (by simp [maxLen]; omega) (by omega) hri'.le ?_
  intro v' w' h2 h3 _
  refine h v' w' ⟨?_, Nd.own_stepK hri'.bel h3 hri'.le rfl hri'.own, Nat.le_trans hri'.le h3.size⟩
  rw [hE.out] at h2
  simpa using h2
end Go.Proofs.YtamaejlbojbbeaaGreatDoor.Tr
namespace Go.Proofs.YtamaejlbojbbeaaGreatDoor.Tr
open Go.RowKit
open Sb (hid_in Row)
theorem wp_buildP {op : Oper} {a : Act} {w : World} {K : Act → World → Prop} {Q : Exit → Act → World → Prop} (x y : Operand) (ho : op.op = .build 140 #[(0, x), (1, y)]) (D : List Value) (hD : Hid (D.length = 32)) (k : Int) (X : List Value) (hX : Hid (X = D ++ [Value.int .i64 k])) (hx : a.eval x = .agg D.toArray) (hy : a.eval y = .int .i64 k) (h : K (a.put op.dst (.agg X.toArray)) w) : op.wp Tryz.prog a w K Q := by
  have hr := build_pair D hD.out k w
  rw [← hX.out] at hr
  unfold Oper.wp execOp
  simp only [ho, List.map_toArray, List.map_cons, List.map_nil, hx, hy, Sem.run_bind, hr, Result.andThen_ok]
  exact h
set_option maxRecDepth 100000 in
theorem wpList_buildP {ops : Array Oper} {rest : List Oper} {d : Option Tmp} {ty : TypeId} {ps : String} {af : Array Edge} {x y : Operand} {a : Act} {w : World} {Q : Exit → Act → World → Prop} (D : List Value) (hD : Hid (D.length = 32)) (k : Int) (X : List Value) (hX : Hid (X = D ++ [Value.int .i64 k])) (hx : a.eval x = .agg D.toArray) (hy : a.eval y = .int .i64 k) (h : wpList Tryz.prog ops Q rest (a.put d (.agg X.toArray)) w) : wpList Tryz.prog ops Q ({ dst := d, op := .build 140 #[(0, x), (1, y)], type := ty, pos := ps, after := af, guard := none } :: rest) a w :=
  wpList_plain rfl fun _ hK => wp_buildP x y rfl D hD k X hX hx hy (hK _ _ h)
end Go.Proofs.YtamaejlbojbbeaaGreatDoor.Tr
namespace Go.Proofs.YtamaejlbojbbeaaGreatDoor.Tr
open Go.RowKit
open Sb (hid_in Row Sl T5 BL u8v Tab wp_world grownBy_setCell below_of_grown info39 one_u8 splice_all rowOf rowOf_row St)
/-- what is wanted, in order: a slice at some place of a row of pairs -/
def Od (B : Nat) (W : World) (ov : Value) (T : List (List Nat × Int)) : Prop :=
  (ov = .slice none 0 0 ∧ T = []) ∨ ∃ b off cap cur, ov = .slice (some ⟨b, off, none⟩) T.length cap ∧ B ≤ b ∧ W.heap[b]? = some (.cells cur 140 (0, 0)) ∧ T.length ≤ cap ∧ off + cap * 33 ≤ cur.size ∧ ∀ (j : Nat) v, (T.map pcells).flatten[j]? = some v → cur[off + j]? = some v
theorem Od.nil (B : Nat) (W : World) : Od B W (.slice none 0 0) [] := .inl ⟨rfl, rfl⟩
theorem Od.of_heap {B : Nat} {W W' : World} {ov : Value} {T : List (List Nat × Int)} (h : Od B W ov T) (hk : ∀ b cs, ov.ownBlock = some b → W.heap[b]? = some (.cells cs 140 (0, 0)) → W'.heap[b]? = W.heap[b]?) : Od B W' ov T := by
  rcases h with h | ⟨b, off, cap, cur, rfl, h1, h2, h3⟩
  · exact .inl h
  · exact .inr ⟨b, off, cap, cur, rfl, h1, (hk b cur rfl h2).trans h2, h3⟩
theorem Od.below {B : Nat} {W W' : World} {ov : Value} {T : List (List Nat × Int)} (h : Od B W ov T) (hb : Below W.heap.size W W') : Od B W' ov T := h.of_heap fun b _ _ h2 => hb.block b (Array.getElem?_eq_some_iff.1 h2).1
theorem Od.grown {B k : Nat} {W W' : World} {ov : Value} {T : List (List Nat × Int)} (h : Od B W ov T) (hg : W.grownBy W' (some k)) (hk : ∀ cs fr, W.heap[k]? ≠ some (.cells cs 140 fr)) : Od B W' ov T := h.of_heap fun b cs _ h2 => hg.block b (Array.getElem?_eq_some_iff.1 h2).1 (fun e => hk cs _ ((Option.some.inj e) ▸ h2))
theorem Od.ge {B k : Nat} {W : World} {ov : Value} {T : List (List Nat × Int)} (h : Od B W ov T) (hk : ov.ownBlock = some k) : B ≤ k ∧ k < W.heap.size ∧ ∃ cs fr, W.heap[k]? = some (.cells cs 140 fr) := by
  rcases h with ⟨rfl, _⟩ | ⟨b, off, cap, cur, rfl, h1, h2, h3⟩
  · cases hk
  · obtain rfl : b = k := by simpa [Value.ownBlock] using hk
    exact ⟨h1, (Array.getElem?_eq_some_iff.1 h2).1, _, _, h2⟩
theorem Od.shape {B : Nat} {W : World} {ov : Value} {T : List (List Nat × Int)} (h : Od B W ov T) : ∃ p c, ov = .slice p T.length c := by
  rcases h with ⟨rfl, rfl⟩ | ⟨b, off, cap, cur, rfl, _⟩
  · exact ⟨none, 0, rfl⟩
  · exact ⟨_, _, rfl⟩
theorem grown_drew {w w' : World} {r : Option Nat} (h : w.drew.grownBy w' r) : w.grownBy w' r := ⟨h.os, h.tape, h.output, h.size, h.block⟩
/-- one pair, where none was -/
theorem od_app {B : Nat} {W : World} {ov : Value} (h : Od B W ov []) (hB : B ≤ W.heap.size) {x : List Nat × Int} (hx : PG x) {X : List Value} (hX : X = pcells x) {s : Nat} (hs : W.heap[s]? = some (.cells X.toArray 140 (0, 0))) (ty : TypeId) :
    ∃ p cap W', (Builtin.append_ #[122, 122] ty #[ov, .slice (some ⟨s, 0, none⟩) 1 1]).run Tryz.prog W = .ok (.slice p 1 cap) W' ∧ Od B W' (.slice p 1 cap) [x] ∧ W.grownBy W' ov.ownBlock := by
  have hl : X.length = 33 := by rw [hX]; exact pcells_len hx
  have h1 : ∀ v ∈ X, v.oneCell' = true := by rw [hX]; exact pcells_one x
  have hfl : ([x].map pcells).flatten = X := by rw [hX]; simp
  obtain ⟨i, z, hi, hsz, hby, hz, hzc⟩ := info140h
  rcases h with ⟨rfl, -⟩ | ⟨b, off, cap, cur, rfl, hb, hg, -, hc, -⟩
  · obtain ⟨g, cap, W', hr, hown, hg, _, _⟩ := run_append_lies (P := Tryz.prog) W 122 ty B 140 i z 33 40 Tryz.underlying122 hi.out hz.out hsz.out hby.out hzc.out (by decide) _ 0 [] (World.ownsRow_nil _ _ _ _) ⟨s, 0, none⟩ 1 1 X (by rw [hl]) (World.news_of_block hs) h1 (by decide) (by decide) (by decide) hB _ rfl
    refine ⟨some ⟨g, 0, none⟩, cap, W', hr, ?_, hg⟩
    rcases hown.2 with ⟨h, _⟩ | ⟨g', cap', cur, h, hb, hg', hn, hm, hs', ht⟩
    · cases h
    · cases h
      refine .inr ⟨g, 0, cap, cur, rfl, hb, hg', hn, by omega, fun j v hj => ?_⟩
      rw [hfl] at hj
      rw [List.nil_append] at ht
      rw [← ht, List.getElem?_take] at hj
      split at hj
      · rw [Nat.zero_add, ← Array.getElem?_toList]; exact hj
      · cases hj
  · rcases Nat.eq_zero_or_pos cap with rfl | hp
    · have hr := run_append_grow (P := Tryz.prog) W 122 ty 140 i z Tryz.underlying122 hi.out hz.out ⟨b, off, none⟩ 0 0 [] (by simp) (by simp) ⟨s, 0, none⟩ 1 1 X (by rw [hsz.out, hl]) (World.news_of_block hs) (by decide) (by decide) (by rw [hby.out]; decide)
      refine ⟨_, _, _, hr, .inr ⟨_, 0, _, _, rfl, hB, heap_alloc_new W.drew _, ?_, ?_, fun j v hj => ?_⟩, ?_⟩
      · exact grownCap_ge _ _ _ _
      · have := grownCap_ge W 1 0 140
        simp only [Nat.zero_add, Array.size_append, size_zeroCells, hzc.out, List.size_toArray, List.length_nil, hl]
        omega
      · rw [hfl] at hj
        have hjl : j < X.length := (List.getElem?_eq_some_iff.1 hj).1
        simp only [Nat.zero_add]
        rw [Array.getElem?_append_left (by simpa using hjl)]
        simpa using hj
      · exact grown_drew (World.grownBy_alloc W.drew _ _)
    · have hf := run_firstCells_some (P := Tryz.prog) W i.size 1 ⟨s, 0, none⟩ 1 1 X (by rw [hsz.out, hl]) (World.news_of_block hs)
      have hst := run_storeCells_at Tryz.prog b off 140 X 0 cur W hg (by rw [hl]; omega) h1
      refine ⟨some ⟨b, off, none⟩, cap, W.setRow b (cur.toList.take off ++ X ++ cur.toList.drop (off + X.length)).toArray, ?_, ?_, ?_⟩
      · have hroom : 0 + 1 ≤ cap := hp
        simp only [Nat.add_zero] at hst
        simp [Builtin.append_, run_underlying Tryz.underlying122, sizeOf, typeInfo, hi.out, Builtin.lenOf, hroom, hf, Addr.add_lit, hst]
      · have hsz2 : off ≤ cur.toList.length := by simp; omega
        refine .inr ⟨b, off, cap, _, rfl, hb, setRow_heap W b _ _ _ _ hg, hp, ?_, fun j v hj => ?_⟩
        · simp only [List.size_toArray, List.length_append, List.length_take, List.length_drop, hl, Array.length_toList]
          omega
        · rw [hfl] at hj
          have hjl : j < X.length := (List.getElem?_eq_some_iff.1 hj).1
          rw [List.getElem?_toArray, List.append_assoc, List.getElem?_append_right (by rw [List.length_take]; omega), List.length_take, Nat.min_eq_left hsz2, show off + j - off = j by omega, List.getElem?_append_left hjl]
          exact hj
      · exact ⟨rfl, rfl, rfl, by simp, fun k _ hk => setRow_other W b k _ (fun e => hk (by rw [e]; rfl))⟩
end Go.Proofs.YtamaejlbojbbeaaGreatDoor.Tr
namespace Go.Proofs.YtamaejlbojbbeaaGreatDoor.Tr
open Go.RowKit
open Sb (hid_in Row Sl T5 BL u8v Tab wp_world grownBy_setCell below_of_grown info39 one_u8 splice_all rowOf rowOf_row St)
/-- the wanted pairs with a digest, of the first kinds -/
def wantL (Wt : List (List Nat × Int)) (d : List Nat) (i : Nat) : List (List Nat × Int) := (([1, 2, 3].take i).map (fun k : Int => (d, k))).filter (fun x => decide (x ∈ Wt))
theorem wantL_step (Wt : List (List Nat × Int)) (d : List Nat) (i : Nat) (k : Int) (h : [(1 : Int), 2, 3][i]? = some k) : wantL Wt d (i + 1) = wantL Wt d i ++ if (d, k) ∈ Wt then [(d, k)] else [] := by
  unfold wantL
  rw [List.take_add_one, h]
  simp only [Option.toList_some, List.map_append, List.map_cons, List.map_nil, List.filter_append]
  congr 1
  by_cases hc : (d, k) ∈ Wt <;> simp [hc]
theorem wantL_len (Wt : List (List Nat × Int)) (d : List Nat) (i : Nat) : (wantL Wt d i).length ≤ 3 := by
  unfold wantL
  refine Nat.le_trans (List.length_filter_le _ _) ?_
  simp
  omega
set_option maxHeartbeats 2000000 in
set_option maxRecDepth 100000 in
theorem wantedBy_any {w : World} {c wm : Nat} {v0 v1 v3 v4 : Value} {Wt : List (List Nat × Int)} (h : Cw w c wm v0 v1 v3 v4 Wt) (d : List Nat) (hd : d.length = 32) (D : List Value) (HD : Hid (D = d.map u8v)) :
    Calls Tryz.prog 66 #[.pointer (some ⟨c, 0, none⟩), .agg D.toArray] w fun e w' => ∃ v, e = .returned v ∧ w'.ownsRow w.heap.size 140 33 v (wantL Wt d 3).length ((wantL Wt d 3).map pcells).flatten ∧ Below w.heap.size w w' := by
  have HDL : Hid (D.length = 32) := hid_in (by rw [HD.out, List.length_map]; exact hd)
  obtain ⟨w1, HW1⟩ : ∃ w1, Hid ((w.alloc (.cells D.toArray 30)).alloc (.cells #[.int .i64 1, .int .i64 2, .int .i64 3] 3) = w1) := ⟨_, hid_in rfl⟩
  have hb1 : Below w.heap.size w w1 := by rw [← HW1.out]; exact ((Below.refl _ _).alloc (Nat.le_refl _) _).alloc (by simp) _
  have hs1 : w1.heap.size = w.heap.size + 2 := by rw [← HW1.out]; simp
  have hrD : Row w1 w.heap.size D 30 := by rw [← HW1.out]; exact (Row.new w D 30).alloc _
  have hrK : Row w1 (w.heap.size + 1) [.int .i64 1, .int .i64 2, .int .i64 3] 3 := by rw [← HW1.out]; exact Row.newAt _ _ _ 3 (by simp)
  have HB1 := hid_in hb1
  have HS1 := hid_in hs1
  have HRD := hid_in hrD
  have HRK := hid_in hrK
  have HCR := hid_in (h.below hb1)
  have HPG := hid_in hd
  clear h hb1 hs1 hrD hrK hd
  go_enter Tryz.func66, Tryz.ntmps66
  go_upto_region 3 with fail
  refine wp_world HW1.out ?_
  go_loopw [11, 5] (fun vi vl W => ∃ i : Nat, i ≤ 3 ∧ vi = .int .i64 (i : Int) ∧ Hid (KP w1.heap.size w1 W vl (wantL Wt d i))) (fun vi _ _ => 3 - (intOf vi).toNat)
  case atStart => exact ⟨0, by omega, rfl, KP.nil w1⟩
  case round =>
    obtain ⟨i, hi, rfl, hkp⟩ := hrel
    by_cases hlt : i < 3
    · obtain ⟨k, hk⟩ : ∃ k, [(1 : Int), 2, 3][i]? = some k := ⟨_, List.getElem?_eq_getElem (by simpa using hlt)⟩
      have HLN := hid_in (wantL_len Wt d i)
      have HLN2 : Hid ((wantL Wt d i).length ≤ 3000000) := hid_in (by have := HLN.out; omega)
      have HIL := hid_in hlt
      have hck : wr.cell? ⟨w.heap.size + 1, i, none⟩ = some (.int .i64 k) := by
        rw [(HRK.out.below hkp.out.bel HRK.out.lt).cell i, show [Value.int .i64 1, .int .i64 2, .int .i64 3] = [(1 : Int), 2, 3].map (Value.int .i64) from rfl, List.getElem?_map, hk]
        rfl
      have hrD := HRD.out.below hkp.out.bel HRD.out.lt
      obtain ⟨X, HX⟩ : ∃ X, Hid (X = pcells (d, k)) := ⟨_, hid_in rfl⟩
      have HXL : Hid (X.length = 33) := hid_in (by rw [HX.out]; exact pcells_len HPG.out)
      have HX1 : Hid (∀ v ∈ X, v.oneCell' = true) := hid_in (by rw [HX.out]; exact pcells_one _)
      have HXD : Hid (X = D ++ [Value.int .i64 k]) := hid_in (by rw [HX.out, HD.out]; rfl)
      have HCRr := hid_in (HCR.out.below hkp.out.bel)
      have HWL := hid_in (wantL_step Wt d i k hk)
      clear hk
      by_cases hin : (d, k) ∈ Wt
      · rw [if_pos hin] at HWL
        have HWN := hid_in (fun W (hW : Below wr.heap.size wr W) => wants_any (HCRr.out.below hW) (d, k) HPG.out X HX true (by simp [hin]))
        clear hin
        go_wp2_with (first | (refine Sb.wpList_load_Row rfl 30 _ rfl w.heap.size rfl 30 _ hrD _ Tryz.underlying30 rfl 32 info39 HDL.out ?_) | (refine wpList_buildP D HDL k X HXD rfl rfl ?_) | (refine Nd.wpList_store_new rfl rfl 140 33 _ _ rfl _ X info140 rfl HXL HX1 rfl rfl ?_; intro w3 hr3 hb3 hs3; have HR3 := hid_in hr3; have HB3 := hid_in hb3; clear hs3 hb3) | (refine Sb.wpList_load_Row rfl 140 _ rfl wr.heap.size rfl 140 _ hr3 _ Tryz.underlying140 rfl 33 info140 HXL.out ?_; simp only [Act.put, List.setIfInBounds_toArray, List.set_cons_zero, List.set_cons_succ]) | (go_at_call 77; refine (HWN.out _ HB3.out).mono ?_; rintro e w4 ⟨rfl, hb4⟩; clear hr3; have hr3 := HR3.out.below hb4 HR3.out.lt; have HB4 := hid_in hb4; clear hb4; have hkp4 := hkp.out.below (HB3.out.trans (HB4.out.mono HB3.out.size)); have HKP4 := hid_in hkp4; clear hkp4) | ((with_reducible refine wpList_slice122 X HXL ?hx ?_); (case hx => rfl); simp only [Act.put, List.setIfInBounds_toArray, List.set_cons_zero, List.set_cons_succ]) | (at_builtin; refine wpList_appP w1.heap.size w1 rfl (.tmp 21) (.tmp 23) rfl _ (wantL Wt d i) (d, k) X HX HXL rfl HKP4.out rfl HLN2.out ?_; intro v5 w5 hkp5; have HKP5 := hid_in hkp5; clear hkp5))
        go_roundw
        case rel =>
          refine ⟨i + 1, by have := HIL.out; omega, by go_num, ?_⟩
          show KP _ _ _ _ _
          rw [HWL.out]
          exact HKP5.out
        case measure => have := HIL.out; simp [intOf]; omega
      · rw [if_neg hin, List.append_nil] at HWL
        have HWN := hid_in (fun W (hW : Below wr.heap.size wr W) => wants_any (HCRr.out.below hW) (d, k) HPG.out X HX false (by simp [hin]))
        clear hin
        go_wp2_with (first | (refine Sb.wpList_load_Row rfl 30 _ rfl w.heap.size rfl 30 _ hrD _ Tryz.underlying30 rfl 32 info39 HDL.out ?_) | (refine wpList_buildP D HDL k X HXD rfl rfl ?_) | (refine Nd.wpList_store_new rfl rfl 140 33 _ _ rfl _ X info140 rfl HXL HX1 rfl rfl ?_; intro w3 hr3 hb3 hs3; have HR3 := hid_in hr3; have HB3 := hid_in hb3; clear hs3 hb3) | (refine Sb.wpList_load_Row rfl 140 _ rfl wr.heap.size rfl 140 _ hr3 _ Tryz.underlying140 rfl 33 info140 HXL.out ?_; simp only [Act.put, List.setIfInBounds_toArray, List.set_cons_zero, List.set_cons_succ]) | (go_at_call 77; refine (HWN.out _ HB3.out).mono ?_; rintro e w4 ⟨rfl, hb4⟩; have HB4 := hid_in hb4; clear hb4))
        go_roundw
        case rel =>
          refine ⟨i + 1, by have := HIL.out; omega, by go_num, ?_⟩
          show KP _ _ _ _ _
          rw [HWL.out]
          exact hkp.out.below (HB3.out.trans (HB4.out.mono HB3.out.size))
        case measure => have := HIL.out; simp [intOf]; omega
    · obtain rfl : i = 3 := by omega
      clear hi hlt
      go_wp2
      go_ret
      refine ⟨_, rfl, ?_, HB1.out.trans (hkp.out.bel.mono HB1.out.size)⟩
      obtain ⟨h1, h2 | ⟨g, cap, cur, h3, h4, h5⟩⟩ := hkp.out.own
      · exact ⟨h1, .inl h2⟩
      · exact ⟨h1, .inr ⟨g, cap, cur, h3, Nat.le_trans HB1.out.size h4, h5⟩⟩
end Go.Proofs.YtamaejlbojbbeaaGreatDoor.Tr
