/-
  The walks of the reference's Kids and of the program's.
-/
import Derived.Test.YtbccjomnfclkdaaM0
import Derived.OwnWalk
namespace Go.Proofs.Ytbccjomnfclkdaa
open Go.RowKit
def kid (d : List Nat) : It := ⟨⟨#[]⟩, 1, d⟩
def kidsOf (n : Nd) : List It := n.parts.map kid ++ n.items
theorem build_kid (d : List Nat) (hd : d.length = 32) (w : World) : (Instr.build 51 #[(1, .int .i64 1), (2, .agg (dcells d).toArray)]).run Try.prog w = .ok (.agg (It.cells (kid d)).toArray) w := by
  obtain ⟨d0, d1, d2, d3, d4, d5, d6, d7, d8, d9, d10, d11, d12, d13, d14, d15, d16, d17, d18, d19, d20, d21, d22, d23, d24, d25, d26, d27, d28, d29, d30, d31, rfl⟩ := list32 d hd
  exact run_build w 51 _ _ (by kernel_rfl)
theorem wpList_slice29 {ops : Array Oper} {rest : List Oper} {d : Option Tmp} {ty : TypeId} {ps : String} {af : Array Edge} {x : Operand} {a : Act} {w : World} {Q : Exit → Act → World → Prop} (E : List Value) (hE : Hid (E.length = 34)) (hx : a.eval x = .agg E.toArray)
    (h : wpList Try.prog ops Q rest (a.put d (.slice (some ⟨w.heap.size, 0, none⟩) 1 1)) (w.alloc (.cells E.toArray 51))) : wpList Try.prog ops Q ({ dst := d, op := .buildSlice 29 1 #[(0, x)], type := ty, pos := ps, after := af, guard := none } :: rest) a w :=
  wpList_slice1 rfl 29 x rfl _ _ _ hx (slice29 E hE.out w) h
theorem flat_each {k : Nat} : ∀ {xs : List (List Value)}, (∀ us ∈ xs, us.length = k) → xs.flatten.length = k * xs.length
  | [], _ => by simp
  | x :: r, h => by
    have h1 := flat_each (fun us hus => h us (by simp [hus]) : ∀ us ∈ r, us.length = k)
    have h2 := h x (by simp)
    rw [List.flatten_cons, List.length_append, List.length_cons, Nat.mul_add]
    omega
theorem range_flat {w : World} {b o k : Nat} : ∀ {xs : List (List Value)}, (∀ us ∈ xs, us.length = k) → (∀ (i : Nat) us, xs[i]? = some us → w.rangeAt b (o + i * k) us) → ∀ (j : Nat) q, xs.flatten[j]? = some q → w.cell? ⟨b, o + j, none⟩ = some q
  | [], _, _, j, q, h => by simp at h
  | x :: r, he, hr, j, q, h => by
    have hx := he x (by simp)
    rw [List.flatten_cons] at h
    by_cases hj : j < x.length
    · rw [List.getElem?_append_left hj] at h
      have := hr 0 x rfl j q h
      simpa using this
    · rw [List.getElem?_append_right (by omega)] at h
      have := range_flat (o := o + k) (fun us hus => he us (by simp [hus]) : ∀ us ∈ r, us.length = k) (fun i us hi => by
        have := hr (i + 1) us (by simpa using hi)
        rw [Nat.add_mul, Nat.one_mul] at this
        rw [show o + k + i * k = o + (i * k + k) by omega]
        exact this) (j - x.length) q h
      rw [show o + k + (j - x.length) = o + j by omega] at this
      exact this
/-- items that the call itself gathers -/
structure KI (W0 W : World) (v : Value) (xs : List It) : Prop where
  own : W.ownsRow W0.heap.size 51 34 v xs.length (xs.map It.cells).flatten
  bel : Below W0.heap.size W0 W
theorem KI.below {W0 W W' : World} {v : Value} {xs : List It} (h : KI W0 W v xs) (hb : Below W.heap.size W W') : KI W0 W' v xs := ⟨own_belowK h.own hb, h.bel.trans (hb.mono h.bel.size)⟩
theorem KI.row {W0 W : World} {v : Value} {xs : List It} (h : KI W0 W v xs) {g : Nat} {vs : List Value} {t : TypeId} (hr : Row W0 g vs t) : Row W g vs t := hr.below h.bel hr.lt
theorem own_stepK {w w' : World} {B : Nat} {v : Value} {row : Option Nat} {a : World} (hb : Below B a w) (hg : w.grownBy w' row) (hB : B ≤ w.heap.size) (hv : row = v.ownBlock) {e : TypeId} {size n : Nat} {xs : List Value} (ho : w.ownsRow B e size v n xs) : Below B a w' := own_step hb hg hB hv ho
theorem KI.more {W0 W W' : World} {v v' : Value} {xs ys : List It} (h : KI W0 W v xs) (ho : W'.ownsRow W0.heap.size 51 34 v' (xs ++ ys).length ((xs ++ ys).map It.cells).flatten) (hg : W.grownBy W' v.ownBlock) : KI W0 W' v' (xs ++ ys) := ⟨ho, own_stepK h.bel hg h.bel.size rfl h.own⟩
/-- one item more: the slice of it was just built -/
theorem wpList_appI {ops : Array Oper} {rest : List Oper} {o : Oper} {a : Act} {w : World} {Q : Exit → Act → World → Prop} (W0 : World) (hgd : o.guard = none) (s x : Operand) (ho : o.op = .call { callee := .builtin .append, args := #[s, x], argTypes := #[29, 29] })
    (v : Value) (xs : List It) (y : It) (E : List Value) (hE : y.cells = E) (hy : E.length = 34) (hs : a.eval s = v) (hri : KI W0 w v xs) (hx : a.eval x = .slice (some ⟨w.heap.size, 0, none⟩) 1 1) (hlen : xs.length ≤ 3000000)
    (h : ∀ v' w', KI W0 w' v' (xs ++ [y]) → wpList Try.prog ops Q rest (a.put o.dst v') w') : wpList Try.prog ops Q (o :: rest) a (w.alloc (.cells E.toArray 51)) := by
  subst hE
  obtain ⟨je, hje, hy1, hy2, hy3⟩ := info51h
  obtain ⟨ye, hy4, hy5⟩ := hy3.out
  have hri' := hri.below ((Below.refl _ _).alloc (Nat.le_refl _) (.cells y.cells.toArray 51))
  refine wpList_append_own (w.alloc (.cells y.cells.toArray 51)) hgd s x 29 ho W0.heap.size 51 je ye 34 56 Try.underlying29 hje.out hy4 hy1.out hy2.out hy5 (by decide) v xs.length (xs.map It.cells).flatten hs hri'.own ⟨w.heap.size, 0, none⟩ 1 1 y.cells hx (by rw [hy]) (World.news_of_block (heap_alloc_new w _)) (It.one _) (by simp [maxLen]; omega) (by omega) hri'.bel.size ?_
  intro v' w' h2 h3 _
  refine h v' w' (hri'.more ?_ h3)
  simpa using h2
theorem KI.fin {w W0 W : World} {v : Value} {xs : List It} (h : KI W0 W v xs) (hb : Below w.heap.size w W0) : W.ownsRow w.heap.size 51 34 v xs.length (xs.map It.cells).flatten ∧ Below w.heap.size w W := by
  refine ⟨?_, hb.trans (h.bel.mono hb.size)⟩
  obtain ⟨h1, h2 | ⟨g, cap, cur, rfl, hB, r⟩⟩ := h.own
  · exact ⟨h1, .inl h2⟩
  · exact ⟨h1, .inr ⟨g, cap, cur, rfl, Nat.le_trans hb.size hB, r⟩⟩
theorem take_succ_map {α β : Type} (f : α → β) {l : List α} {i : Nat} {x : α} (h : l[i]? = some x) : (l.take (i + 1)).map f = (l.take i).map f ++ [f x] := by
  rw [List.take_add_one, h]
  simp
theorem take_succ_one {α : Type} {l : List α} {i : Nat} {x : α} (h : l[i]? = some x) : l.take (i + 1) = l.take i ++ [x] := by
  rw [List.take_add_one, h]
  simp
set_option maxHeartbeats 4000000 in
set_option maxRecDepth 100000 in
theorem rkids_w (w : World) (nk : Int) (nd : ByteArray) (ns : Int) (np : List (List Nat)) (ni : List It) (pp pi : Option Addr) (cp ci : Nat) (hp : Els w (.slice pp np.length cp) 32 (np.map dcells)) (hi : Els w (.slice pi ni.length ci) 34 (ni.map It.cells)) (hok1 : ∀ d ∈ np, Dg d) (hok2 : ∀ x ∈ ni, x.ok) (lp : np.length ≤ 1048576) (li : ni.length ≤ 1048576) :
    Calls Try.prog 21 #[.agg #[.int .i64 nk, .string nd, .int .i64 ns, .slice pp np.length cp, .slice pi ni.length ci]] w fun e w' => ∃ u, e = .returned u ∧ w'.ownsRow w.heap.size 51 34 u (np.map kid ++ ni).length ((np.map kid ++ ni).map It.cells).flatten ∧ Below w.heap.size w w' := by
  obtain ⟨p', cap', bp, op, hv, hc1, hc2, hpp, hat⟩ := hp.ex
  rw [List.length_map] at hv hc1
  simp only [Value.slice.injEq, true_and] at hv
  obtain ⟨rfl, rfl⟩ := hv
  obtain ⟨p', cap', bi, oi, hv, hd1, hd2, hpi, hati⟩ := hi.ex
  rw [List.length_map] at hv hd1
  simp only [Value.slice.injEq, true_and] at hv
  obtain ⟨rfl, rfl⟩ := hv
  have HPP := hid_in hpp
  have HAT := hid_in hat
  have HPI := hid_in hpi
  have HATI := hid_in hati
  have HO1 := hid_in hok1
  have HO2 := hid_in hok2
  clear hp hpp hat hi hpi hati hok1 hok2
  go_enter Try.func21, Try.ntmps21
  go_upto_region 1 with fail
  obtain ⟨W0, HW0, HR0, HB0, HS0⟩ := node_row w nk ns nd (.slice pp np.length cp) (.slice pi ni.length ci)
  refine wp_world HW0.out ?_
  clear HW0
  go_wp2_with fail
  go_loopw [3, 4] (fun v vi W => ∃ j : Nat, vi = .int .i64 (j : Int) ∧ j ≤ np.length ∧ Hid (KI W0 W v ((np.take j).map kid))) (fun _ vi _ => np.length - (intOf vi).toNat)
  case atStart => exact ⟨0, rfl, by omega, ⟨by simpa using World.ownsRow_nil W0 _ 51 34, Below.refl _ _⟩⟩
  case round =>
    obtain ⟨j, rfl, hj, hRE⟩ := hrel
    have hr1 := hRE.out.row HR0.out
    have c3 : wr.cell? ⟨w.heap.size, 3, none⟩ = some (.slice pp np.length cp) := hr1.cell 3
    clear hr1
    by_cases hlt : j < np.length
    · obtain ⟨d, hdd⟩ : ∃ d, np[j]? = some d := ⟨_, List.getElem?_eq_getElem hlt⟩
      have hne : np.map dcells ≠ [] := by intro h; simp at h; rw [h] at hdd; simp at hdd
      obtain ⟨hq1, hq2⟩ := HPP.out hne
      subst hq1
      have hDd := HO1.out d (List.mem_of_getElem? hdd)
      have hbw : Below w.heap.size w wr := HB0.out.trans (hRE.out.bel.mono HB0.out.size)
      have HR : Hid (wr.rangeAt bp (op + j * 32) (dcells d)) := rangeAt_below (HAT.out j (dcells d) (by simp [hdd])) hbw hq2
      have HDL : Hid ((dcells d).length = 32) := dcells_length hDd.1
      have HBK := hid_in (fun W => build_kid d hDd.1 W)
      have HEL : Hid ((It.cells (kid d)).length = 34) := It.cells_length _ hDd.1
      have HTK := hid_in (take_succ_map kid hdd)
      have HLN : Hid (((np.take j).map kid).length ≤ 3000000) := by show _ ≤ _; simp; omega
      obtain ⟨E, HE⟩ : ∃ E, Hid (It.cells (kid d) = E) := ⟨_, rfl⟩
      rw [HE.out] at HEL HBK
      generalize hV : dcells d = V at *
      clear hdd hne hDd hbw hq2 hV
      go_wp2_with (first | (refine wpList_load_mid rfl 49 _ rfl bp _ rfl V _ HR.out Try.underlying49 rfl (by rw [info49, HDL.out]) ?_; simp only [Act.put, List.setIfInBounds_toArray, List.set_cons_zero, List.set_cons_succ]) | (refine wpList_build rfl 51 _ rfl #[(1, .int .i64 1), (2, .agg V.toArray)] (by simp only [List.map_toArray, List.map_cons, List.map_nil]; rfl) _ (HBK.out _) ?_; simp only [Act.put, List.setIfInBounds_toArray, List.set_cons_zero, List.set_cons_succ]) | ((with_reducible refine wpList_slice29 E HEL ?hx ?_); (case hx => rfl); simp only [Act.put, List.setIfInBounds_toArray, List.set_cons_zero, List.set_cons_succ]) | (at_builtin; refine wpList_appI W0 rfl (.tmp 13) (.tmp 20) rfl _ ((np.take j).map kid) (kid d) E HE.out HEL.out rfl hRE.out rfl HLN.out ?_; intro v4 w4 h4; have HK4 := hid_in h4; clear h4))
      go_roundw
      case measure => simp [intOf]; omega
      case rel =>
        go_light
        refine ⟨j + 1, by go_num, by omega, ?_⟩
        show KI _ _ _ _
        rw [HTK.out]
        exact HK4.out
    · obtain rfl : j = np.length := by omega
      have HRE := hRE
      rw [List.take_length] at HRE
      clear hRE hlt hj
      generalize hKS : np.map kid = KS at *
      have HKL : Hid (KS.length ≤ 1048576) := by show _ ≤ _; rw [← hKS]; simpa using lp
      go_wp2_with fail
      go_loopw [3, 5] (fun v vi W => ∃ j : Nat, vi = .int .i64 (j : Int) ∧ j ≤ ni.length ∧ Hid (KI W0 W v (KS ++ ni.take j))) (fun _ vi _ => ni.length - (intOf vi).toNat)
      case atStart => exact ⟨0, rfl, by omega, by simpa using HRE⟩
      case round =>
        obtain ⟨j, rfl, hj, hRE⟩ := hrel
        have hr1 := hRE.out.row HR0.out
        have c4 : wr.cell? ⟨w.heap.size, 4, none⟩ = some (.slice pi ni.length ci) := hr1.cell 4
        clear hr1 HRE c3
        by_cases hlt : j < ni.length
        · obtain ⟨x, hdd⟩ : ∃ x, ni[j]? = some x := ⟨_, List.getElem?_eq_getElem hlt⟩
          have hne : ni.map It.cells ≠ [] := by intro h; simp at h; rw [h] at hdd; simp at hdd
          obtain ⟨hq1, hq2⟩ := HPI.out hne
          subst hq1
          have hDd := HO2.out x (List.mem_of_getElem? hdd)
          have hbw : Below w.heap.size w wr := HB0.out.trans (hRE.out.bel.mono HB0.out.size)
          have HR : Hid (wr.rangeAt bi (oi + j * 34) x.cells) := rangeAt_below (HATI.out j x.cells (by simp [hdd])) hbw hq2
          have HEL : Hid (x.cells.length = 34) := It.cells_length _ hDd.sum.1
          have HTK := hid_in (take_succ_one hdd)
          have HLN : Hid ((KS ++ ni.take j).length ≤ 3000000) := by show _ ≤ _; rw [List.length_append]; have := HKL.out; have : (ni.take j).length ≤ 1048576 := (by simp; omega); omega
          obtain ⟨E, HE⟩ : ∃ E, Hid (x.cells = E) := ⟨_, rfl⟩
          rw [HE.out] at HEL HR
          clear hdd hne hDd hbw hq2
          go_wp2_with (first | (refine wpList_load_mid rfl 51 _ rfl bi _ rfl E _ HR.out Try.underlying51 rfl (by rw [info51, HEL.out]) ?_; simp only [Act.put, List.setIfInBounds_toArray, List.set_cons_zero, List.set_cons_succ]) | ((with_reducible refine wpList_slice29 E HEL ?hx ?_); (case hx => rfl); simp only [Act.put, List.setIfInBounds_toArray, List.set_cons_zero, List.set_cons_succ]) | (at_builtin; refine wpList_appI W0 rfl (.tmp 29) (.tmp 35) rfl _ (KS ++ ni.take j) x E HE.out HEL.out rfl hRE.out rfl HLN.out ?_; intro v4 w4 h4; have HK4 := hid_in h4; clear h4))
          go_roundw
          case measure => simp [intOf]; omega
          case rel =>
            go_light
            refine ⟨j + 1, by go_num, by omega, ?_⟩
            show KI _ _ _ _
            rw [HTK.out, ← List.append_assoc]
            exact HK4.out
        · obtain rfl : j = ni.length := by omega
          go_wp2_with fail
          go_ret
          have h := hRE.out.fin HB0.out
          rw [List.take_length] at h
          rw [hKS]
          exact ⟨_, rfl, h.1, h.2⟩
theorem run_app_none (base : Nat) (t ty e : TypeId) (i : TypeInfo) (size c : Nat) (ht : Try.prog.underlying t = some (.slice e)) (hi : Try.prog.info? e = some i) (w : World) (v : Value) (n : Nat) (xs : List Value) (hown : w.ownsRow base e size v n xs) :
    (Builtin.append_ #[t, t] ty #[v, .slice none 0 c]).run Try.prog w = .ok v w := by
  rcases hown.2 with ⟨rfl, rfl⟩ | ⟨g, cap, cur, rfl, _, _, hnc, _⟩
  · simp [Builtin.append_, run_underlying ht, sizeOf, typeInfo, hi, Builtin.lenOf, Builtin.firstCells]
  · simp [Builtin.append_, run_underlying ht, sizeOf, typeInfo, hi, Builtin.lenOf, Builtin.firstCells, hnc, storeCells]
/-- all items of a slice more -/
theorem wpList_appAll {ops : Array Oper} {rest : List Oper} {o : Oper} {a : Act} {w : World} {Q : Exit → Act → World → Prop} (W0 : World) (hgd : o.guard = none) (s x : Operand) (ho : o.op = .call { callee := .builtin .append, args := #[s, x], argTypes := #[29, 29] })
    (v u : Value) (xs ys : List It) (hs : a.eval s = v) (hri : KI W0 w v xs) (hx : a.eval x = u) (hu : Els w u 34 (ys.map It.cells)) (hlen : xs.length + ys.length ≤ 3000000)
    (h : ∀ v' w', KI W0 w' v' (xs ++ ys) → wpList Try.prog ops Q rest (a.put o.dst v') w') : wpList Try.prog ops Q (o :: rest) a w := by
  obtain ⟨je, hje, hy1, hy2, hy3⟩ := info51h
  obtain ⟨ye, hy4, hy5⟩ := hy3.out
  obtain ⟨p, cap, b, off, rfl, h1, h2, h3, h4⟩ := hu.ex
  rw [List.length_map] at hx h1
  rcases p with _ | ad
  · have h0 : ys = [] := by
      by_cases hne : ys.map It.cells = []
      · simpa using hne
      · have := (h3 hne).1; cases this
    subst h0
    refine wpList_plain hgd fun K hK => ?_
    have hrun := run_app_none W0.heap.size 29 o.type 51 je 34 cap Try.underlying29 hje.out w v xs.length _ hri.own
    unfold Oper.wp
    simp [execOp, ho, resolve, invoke, builtin, hs, hx, hrun, Result.andThen]
    exact hK _ _ (h v w (by simpa using hri))
  · refine wpList_append_own w hgd s x 29 ho W0.heap.size 51 je ye 34 56 Try.underlying29 hje.out hy4 hy1.out hy2.out hy5 (by decide) v xs.length (xs.map It.cells).flatten hs hri.own ad ys.length cap (ys.map It.cells).flatten hx ?_ ?_ ?_ (by simp [maxLen]; omega) (by omega) hri.bel.size ?_
    · have := flat_each hu.each
      simpa [Nat.mul_comm] using this
    · intro j q hq
      by_cases hne : ys.map It.cells = []
      · rw [hne] at hq; simp at hq
      · obtain ⟨h5, _⟩ := h3 hne
        obtain rfl := Option.some.inj h5
        rw [Addr.add_mid]
        exact range_flat hu.each h4 j q hq
    · intro q hq
      obtain ⟨l, hl, hq⟩ := List.mem_flatten.1 hq
      obtain ⟨y, _, rfl⟩ := List.mem_map.1 hl
      exact It.one y q hq
    · intro v' w' h5 h6 _
      refine h v' w' (hri.more ?_ h6)
      simpa using h5
set_option maxHeartbeats 4000000 in
set_option maxRecDepth 100000 in
theorem kids_w (w : World) (nk : Int) (nd : ByteArray) (ns : Int) (np : List (List Nat)) (ni : List It) (pp pi : Option Addr) (cp ci : Nat) (hp : Els w (.slice pp np.length cp) 32 (np.map dcells)) (hi : Els w (.slice pi ni.length ci) 34 (ni.map It.cells)) (hok1 : ∀ d ∈ np, Dg d) (lp : np.length ≤ 1048576) (li : ni.length ≤ 1048576) :
    Calls Try.prog 20 #[.agg #[.int .i64 nk, .string nd, .int .i64 ns, .slice pp np.length cp, .slice pi ni.length ci]] w fun e w' => ∃ u, e = .returned u ∧ w'.ownsRow w.heap.size 51 34 u (np.map kid ++ ni).length ((np.map kid ++ ni).map It.cells).flatten ∧ Below w.heap.size w w' := by
  have HI := hid_in hi
  obtain ⟨p', cap', bp, op, hv, hc1, hc2, hpp, hat⟩ := hp.ex
  rw [List.length_map] at hv hc1
  simp only [Value.slice.injEq, true_and] at hv
  obtain ⟨rfl, rfl⟩ := hv
  have HPP := hid_in hpp
  have HAT := hid_in hat
  have HO1 := hid_in hok1
  obtain ⟨je, hje, hy1, hy2, hy3⟩ := info51h
  obtain ⟨ye, hy4, hy5⟩ := hy3.out
  have HY4 := hid_in hy4
  have hwl : IntKind.i64.wrap ((np.length : Int) + (ni.length : Int)) = ((np.length + ni.length : Nat) : Int) := by rw [IntKind.wrap_i64]; omega
  clear hp hpp hat hi hok1 hy4 hy5 hy3
  go_enter Try.func20, Try.ntmps20
  go_upto_region 1 with fail
  obtain ⟨W0, HW0, HR0, HB0, HS0⟩ := node_row w nk ns nd (.slice pp np.length cp) (.slice pi ni.length ci)
  refine wp_world HW0.out ?_
  clear HW0
  have c3 : W0.cell? ⟨w.heap.size, 3, none⟩ = some (.slice pp np.length cp) := HR0.out.cell 3
  have c4 : W0.cell? ⟨w.heap.size, 4, none⟩ = some (.slice pi ni.length ci) := HR0.out.cell 4
  go_upto_region 2 with (refine wpList_make_own _ rfl _ _ 29 rfl W0.heap.size 51 je ye 34 Try.underlying29 hje.out HY4.out hy1.out .i64 .i64 _ (np.length + ni.length) rfl rfl (by first | exact hwl | rfl | simp) (by rw [hy2.out]; omega) (by simp [maxLen]; omega) (Nat.le_refl _) ?_; intro w2 hown hg2; have HK0 : Hid (KI W0 w2 _ []) := ⟨hown, (Below.refl _ _).grown hg2 (Nat.le_refl _) (fun q hq => by cases hq)⟩; clear hown hg2)
  have hr2 := HK0.out.row HR0.out
  have d3 : w2.cell? ⟨w.heap.size, 3, none⟩ = some (.slice pp np.length cp) := hr2.cell 3
  clear c3 c4 hr2 hwl
  go_wp2_with fail
  go_loopw [3, 17] (fun v vi W => ∃ j : Nat, vi = .int .i64 (j : Int) ∧ j ≤ np.length ∧ Hid (KI W0 W v ((np.take j).map kid))) (fun _ vi _ => np.length - (intOf vi).toNat)
  case atStart => exact ⟨0, rfl, by omega, by simpa using HK0⟩
  case round =>
    obtain ⟨j, rfl, hj, hRE⟩ := hrel
    clear d3 HK0
    by_cases hlt : j < np.length
    · obtain ⟨d, hdd⟩ : ∃ d, np[j]? = some d := ⟨_, List.getElem?_eq_getElem hlt⟩
      have hne : np.map dcells ≠ [] := by intro h; simp at h; rw [h] at hdd; simp at hdd
      obtain ⟨hq1, hq2⟩ := HPP.out hne
      subst hq1
      have hDd := HO1.out d (List.mem_of_getElem? hdd)
      have hbw : Below w.heap.size w wr := HB0.out.trans (hRE.out.bel.mono HB0.out.size)
      have HR : Hid (wr.rangeAt bp (op + j * 32) (dcells d)) := rangeAt_below (HAT.out j (dcells d) (by simp [hdd])) hbw hq2
      have HDL : Hid ((dcells d).length = 32) := dcells_length hDd.1
      have HD1 : Hid (∀ v ∈ dcells d, v.oneCell' = true) := one_u8 _
      have HBK := hid_in (fun W => build_kid d hDd.1 W)
      have HEL : Hid ((It.cells (kid d)).length = 34) := It.cells_length _ hDd.1
      have HTK := hid_in (take_succ_map kid hdd)
      have HLN : Hid (((np.take j).map kid).length ≤ 3000000) := by show _ ≤ _; simp; omega
      obtain ⟨E, HE⟩ : ∃ E, Hid (It.cells (kid d) = E) := ⟨_, rfl⟩
      rw [HE.out] at HEL HBK
      generalize hV : dcells d = V at *
      clear hdd hne hDd hbw hq2 hV
      go_wp2_with (first | (refine wpList_load_mid rfl 49 _ rfl bp _ rfl V _ HR.out Try.underlying49 rfl (by rw [info49, HDL.out]) ?_; simp only [Act.put, List.setIfInBounds_toArray, List.set_cons_zero, List.set_cons_succ]) | (refine wpList_store_new rfl rfl 49 32 _ _ rfl _ V info49 rfl HDL HD1 rfl rfl ?_; intro w5 hr5 hb5 hs5; have HK5 := hid_in (hRE.out.below hb5); clear hb5 hs5) | (refine wpList_load_Row rfl 49 _ rfl wr.heap.size rfl 49 _ hr5 _ Try.underlying49 rfl 32 info49 HDL.out ?_; simp only [Act.put, List.setIfInBounds_toArray, List.set_cons_zero, List.set_cons_succ]) | (refine wpList_build rfl 51 _ rfl #[(1, .int .i64 1), (2, .agg V.toArray)] (by simp only [List.map_toArray, List.map_cons, List.map_nil]; rfl) _ (HBK.out _) ?_; simp only [Act.put, List.setIfInBounds_toArray, List.set_cons_zero, List.set_cons_succ]) | ((with_reducible refine wpList_slice29 E HEL ?hx ?_); (case hx => rfl); simp only [Act.put, List.setIfInBounds_toArray, List.set_cons_zero, List.set_cons_succ]) | (at_builtin; refine wpList_appI W0 rfl (.tmp 21) (.tmp 24) rfl _ ((np.take j).map kid) (kid d) E HE.out HEL.out rfl HK5.out rfl HLN.out ?_; intro v4 w4 h4; have HK4 := hid_in h4; clear h4))
      go_roundw
      case measure => simp [intOf]; omega
      case rel =>
        go_light
        refine ⟨j + 1, by go_num, by omega, ?_⟩
        show KI _ _ _ _
        rw [HTK.out]
        exact HK4.out
    · obtain rfl : j = np.length := by omega
      have hr1 := hRE.out.row HR0.out
      have e4 : wr.cell? ⟨w.heap.size, 4, none⟩ = some (.slice pi ni.length ci) := hr1.cell 4
      rw [List.take_length] at hRE
      have HEI := hid_in (HI.out.below (HB0.out.trans (hRE.out.bel.mono HB0.out.size)))
      have HLN : Hid ((np.map kid).length + ni.length ≤ 3000000) := by show _ ≤ _; simp; omega
      clear hr1
      go_wp2_with (first | (at_builtin; refine wpList_appAll W0 rfl (.tmp 27) (.tmp 29) rfl _ _ (np.map kid) ni rfl hRE.out rfl HEI.out HLN.out ?_; intro v4 w4 h4; have HK4 := hid_in h4; clear h4))
      go_ret
      have h := HK4.out.fin HB0.out
      exact ⟨_, rfl, h.1, h.2⟩
theorem kids_any (w : World) (v : Value) (n : Nd) (h : IsN w v n) (lp : n.parts.length ≤ 1048576) (li : n.items.length ≤ 1048576) : Calls Try.prog 20 #[v] w fun e w' => ∃ u, e = .returned u ∧ w'.ownsRow w.heap.size 51 34 u (kidsOf n).length ((kidsOf n).map It.cells).flatten ∧ Below w.heap.size w w' := by
  have hok := h.ok
  obtain ⟨pp, cp, pi, ci, rfl⟩ := h.form
  obtain ⟨vp, vi, hv, hp, hi⟩ := h.ex
  simp only [Value.agg.injEq, Array.mk.injEq, List.cons.injEq, and_true, true_and] at hv
  obtain ⟨rfl, rfl⟩ := hv
  exact kids_w w n.kind n.data n.size n.parts n.items pp pi cp ci hp hi hok.parts lp li
theorem rkids_any (w : World) (v : Value) (n : Nd) (h : IsN w v n) (lp : n.parts.length ≤ 1048576) (li : n.items.length ≤ 1048576) : Calls Try.prog 21 #[v] w fun e w' => ∃ u, e = .returned u ∧ w'.ownsRow w.heap.size 51 34 u (kidsOf n).length ((kidsOf n).map It.cells).flatten ∧ Below w.heap.size w w' := by
  have hok := h.ok
  obtain ⟨pp, cp, pi, ci, rfl⟩ := h.form
  obtain ⟨vp, vi, hv, hp, hi⟩ := h.ex
  simp only [Value.agg.injEq, Array.mk.injEq, List.cons.injEq, and_true, true_and] at hv
  obtain ⟨rfl, rfl⟩ := hv
  exact rkids_w w n.kind n.data n.size n.parts n.items pp pi cp ci hp hi hok.parts hok.items lp li
end Go.Proofs.Ytbccjomnfclkdaa
