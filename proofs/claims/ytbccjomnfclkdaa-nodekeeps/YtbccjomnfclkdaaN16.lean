/-
  The walks of the reference's Items and Same.
-/
import Derived.Test.YtbccjomnfclkdaaN15
namespace Go.Proofs.Ytbccjomnfclkdaa
open Go.RowKit
theorem run_load49 {v : Value} {w : World} (h1 : v = .pointer (some ⟨ptrB v, ptrO v, none⟩)) (h2 : has 32 w (ptrB v) (ptrO v)) : (Instr.loadAt 49 v).run Try.prog w = .ok (.agg (cellsAt 32 w (ptrB v) (ptrO v)).toArray) w := by
  have hr := range_of_has h2
  have hl := cellsAt_length 32 w (ptrB v) (ptrO v)
  generalize cellsAt 32 w (ptrB v) (ptrO v) = V at hr hl
  generalize ptrB v = b at h1 hr
  generalize ptrO v = o at h1 hr
  subst h1
  simp only [Instr.loadAt, Instr.sureAddr, Sem.run_bind, Sem.run_pure, Result.andThen_ok]
  exact run_loadVar_mid w b o 49 V _ hr Try.underlying49 rfl (by rw [info49, hl])
theorem quiet_load49 {W : World} {d : Option Tmp} {ty : TypeId} {ps : String} {af : Array Edge} {gd : Option (Nat × Bool)} {x : Operand} {a : Act} {K : Act → Prop} (h1 : a.eval x = .pointer (some ⟨ptrB (a.eval x), ptrO (a.eval x), none⟩)) (h2 : has 32 W (ptrB (a.eval x)) (ptrO (a.eval x))) :
    Oper.quiet Try.prog { dst := d, op := Op.load 49 x, type := ty, pos := ps, after := af, guard := gd } a (fun w' => ∃ n, w' = W.drewN n) K = K (a.put d (.agg (cellsAt 32 W (ptrB (a.eval x)) (ptrO (a.eval x))).toArray)) := by
  have hrun : ∀ n, (Instr.loadAt 49 (a.eval x)).run Try.prog (W.drewN n) = .ok (.agg (cellsAt 32 W (ptrB (a.eval x)) (ptrO (a.eval x))).toArray) (W.drewN n) := fun n => by
    rw [run_load49 h1 (by rw [has_drewN]; exact h2), cellsAt_drewN]
  generalize Value.agg (cellsAt 32 W (ptrB (a.eval x)) (ptrO (a.eval x))).toArray = v at hrun
  have hat : ∀ n u, Oper.quietAt Try.prog { dst := d, op := Op.load 49 x, type := ty, pos := ps, after := af, guard := gd } a (fun w' => ∃ n, w' = W.drewN n) (W.drewN n) u ↔ v = u := by
    intro n u
    unfold Oper.quietAt execOp
    simp only [Sem.run_bind, hrun, Result.andThen_ok, Sem.run_pure, Oper.quietUpon, true_and]
  apply propext
  constructor
  · rintro ⟨u, h, hk⟩
    have := (hat 0 u).1 (h _ ⟨0, rfl⟩)
    rw [this]
    exact hk
  · intro hk
    exact ⟨v, fun w hw => by obtain ⟨n, rfl⟩ := hw; exact (hat n v).2 rfl, hk⟩
theorem wp_load49 {d : Option Tmp} {ty : TypeId} {ps : String} {af : Array Edge} {gd : Option (Nat × Bool)} {x : Operand} {a : Act} {w : World} {K : Act → World → Prop} {Q : Exit → Act → World → Prop} (h1 : a.eval x = .pointer (some ⟨ptrB (a.eval x), ptrO (a.eval x), none⟩)) (h2 : has 32 w (ptrB (a.eval x)) (ptrO (a.eval x))) :
    Oper.wp Try.prog { dst := d, op := Op.load 49 x, type := ty, pos := ps, after := af, guard := gd } a w K Q = K (a.put d (.agg (cellsAt 32 w (ptrB (a.eval x)) (ptrO (a.eval x))).toArray)) w := by
  have hrun := run_load49 h1 h2
  generalize Value.agg (cellsAt 32 w (ptrB (a.eval x)) (ptrO (a.eval x))).toArray = v at hrun ⊢
  unfold Oper.wp execOp
  simp only [Sem.run_bind, hrun, Result.andThen_ok, Sem.run_pure]
  rfl
theorem exec_load49 {d : Option Tmp} {ty : TypeId} {ps : String} {af : Array Edge} {gd : Option (Nat × Bool)} {x : Operand} {ρ : Operand → Value} {w : World} (h1 : ρ x = .pointer (some ⟨ptrB (ρ x), ptrO (ρ x), none⟩)) (h2 : has 32 w (ptrB (ρ x)) (ptrO (ρ x))) :
    (execOp ρ { dst := d, op := Op.load 49 x, type := ty, pos := ps, after := af, guard := gd }).run Try.prog w = .ok (.value (.agg (cellsAt 32 w (ptrB (ρ x)) (ptrO (ρ x))).toArray)) w := by
  have hrun := run_load49 h1 h2
  unfold execOp
  simp only [Sem.run_bind, hrun, Result.andThen_ok, Sem.run_pure]
theorem is49 {w : World} {b o : Nat} {V : List Value} (hl : V.length = 32) (h : w.rangeAt b o V) : has 32 w b o ∧ cellsAt 32 w b o = V := ⟨has_of_range h hl, cellsAt_of_range h hl⟩
attribute [local go_sem ↓] run_load51 quiet_load51 wp_load51 exec_load51 run_load49 quiet_load49 wp_load49 exec_load49
attribute [local go_sem] has_drewN cellsAt_drewN has_drew cellsAt_drew ptrB_pointer ptrO_pointer
theorem drewN2 (w : World) (a b : Nat) : (w.drewN a).drewN b = w.drewN (a + b) := by simp [World.drewN, Nat.add_assoc]
theorem eq_of_all {α : Type} {a b : List α} (hl : a.length = b.length) (h : ∀ (i : Nat) x y, a[i]? = some x → b[i]? = some y → x = y) : a = b := by
  apply List.ext_getElem hl
  intro i h1 h2
  exact h i _ _ (List.getElem?_eq_getElem h1) (List.getElem?_eq_getElem h2)
set_option maxHeartbeats 2000000 in
set_option maxRecDepth 100000 in
theorem items_any (w : World) (va vb : Value) (a b : List It) (ha : Els w va 34 (a.map It.cells)) (hb : Els w vb 34 (b.map It.cells)) (oa : ∀ x ∈ a, x.ok) (ob : ∀ x ∈ b, x.ok) :
    Calls Try.prog 19 #[va, vb] w fun e w' => Says e (a = b) ∧ ∃ m, w' = w.drewN m := by
  obtain ⟨p1, cap1, b1, o1, rfl, hc1, hd1, hp1, hat1⟩ := ha.ex
  obtain ⟨p2, cap2, b2, o2, rfl, hc2, hd2, hp2, hat2⟩ := hb.ex
  rw [List.length_map] at *
  rw [List.length_map] at *
  clear ha hb
  by_cases hlen : a.length = b.length
  · rw [← hlen]
    rw [← hlen] at hc2
    have HA := hid_in (fun i x (h : a[i]? = some x) => Els.item hat1 h)
    have HB := hid_in (fun i x (h : b[i]? = some x) => Els.item hat2 h)
    have HP1 := hid_in hp1
    have HP2 := hid_in hp2
    have HOA := hid_in oa
    have HOB := hid_in ob
    have HLEN := hid_in hlen
    clear hat1 hat2 hp1 hp2 oa ob hlen
    generalize hn : a.length = n at *
    have Hn := hid_in hn
    clear hn
    go_enter Try.func19, Try.ntmps19
    go_wp2_with fail
    go_loopw [5] (fun vi W => ∃ i m : Nat, i ≤ n ∧ vi = .int .i64 (i : Int) ∧ W = w.drewN m ∧ Hid (∀ (j : Nat) x y, j < i → a[j]? = some x → b[j]? = some y → x = y)) (fun vi _ => n - (intOf vi).toNat)
    case atStart => exact ⟨0, 0, by omega, rfl, rfl, fun j x y h => by omega⟩
    case round =>
      obtain ⟨i, m, hi, rfl, rfl, hall⟩ := hrel
      by_cases hlt : i < n
      · obtain ⟨x, hx⟩ : ∃ x, a[i]? = some x := ⟨_, List.getElem?_eq_getElem (by rw [Hn.out]; exact hlt)⟩
        obtain ⟨y, hy⟩ : ∃ y, b[i]? = some y := ⟨_, List.getElem?_eq_getElem (by rw [← HLEN.out]; exact hlt)⟩
        have hne1 : (a.map It.cells) ≠ [] := by intro h; simp at h; rw [h] at hx; simp at hx
        have hne2 : (b.map It.cells) ≠ [] := by intro h; simp at h; rw [h] at hy; simp at hy
        obtain rfl := (HP1.out hne1).1
        obtain rfl := (HP2.out hne2).1
        have hx1 := HOA.out x (List.mem_of_getElem? hx)
        have hy1 := HOB.out y (List.mem_of_getElem? hy)
        obtain ⟨s1, s2⟩ := is51 (It.cells_length x hx1.sum.1) (HA.out i x hx)
        obtain ⟨s3, s4⟩ := is51 (It.cells_length y hy1.sum.1) (HB.out i y hy)
        have heq := eqItem x y hx1.sum.1 hy1.sum.1
        have HX := hid_in hx
        have HY := hid_in hy
        have HQ : Hid (itemEq x y = true ↔ x = y) := itemEq_iff
        generalize itemEq x y = q at heq HQ
        generalize x.cells = V1 at *
        generalize y.cells = V2 at *
        clear hx hy hne1 hne2 hx1 hy1
        cases q
        · go_wp2_with fail
          go_quiet (fail)
          go_wp2_with fail
          go_ret
          exact ⟨Says.no rfl (fun h => by
            have e : x = y := by
              have := HX.out
              rw [h, HY.out] at this
              exact (Option.some.inj this).symm
            have := HQ.out.2 e
            cases this), _, drewN2 _ _ _⟩
        · go_wp2_with fail
          go_quiet (fail)
          go_wp2_with fail
          go_roundw
          case rel =>
            go_light
            refine ⟨i + 1, _, by omega, by go_num, rfl, fun j x' y' hj h1 h2 => ?_⟩
            rcases Nat.lt_or_ge j i with h3 | h3
            · exact hall.out j x' y' h3 h1 h2
            · obtain rfl : j = i := by omega
              obtain rfl := Option.some.inj (HX.out.symm.trans h1)
              obtain rfl := Option.some.inj (HY.out.symm.trans h2)
              exact HQ.out.1 trivial
          case measure => simp [intOf]; omega
      · obtain rfl : i = n := by omega
        go_wp2_with fail
        go_ret
        exact ⟨Says.yes rfl (eq_of_all (Hn.out.trans HLEN.out) (fun j x y h1 h2 => hall.out j x y (by rw [← Hn.out]; exact (List.getElem?_eq_some_iff.1 h1).1) h1 h2)), m, rfl⟩
  · have h1 : ((a.length : Int) != (b.length : Int)) = true := by simp; omega
    have h2 : ((a.length : Int) == (b.length : Int)) = false := by rw [beq_eq_false_iff_ne]; omega
    have HN : Hid (a ≠ b) := fun h => hlen (by rw [h])
    generalize a.length = n1 at *
    generalize b.length = n2 at *
    go_enter Try.func19, Try.ntmps19
    go_wp2_with fail
    go_ret
    exact ⟨Says.no rfl HN.out, 0, rfl⟩
theorem nd_ext {a b : Nd} (h1 : a.kind = b.kind) (h2 : a.data = b.data) (h3 : a.size = b.size) (h4 : a.parts = b.parts) (h5 : a.items = b.items) : a = b := by
  cases a; cases b
  simp only at h1 h2 h3 h4 h5
  subst h1 h2 h3 h4 h5
  rfl
theorem toList_inj {a b : ByteArray} : a.toList = b.toList ↔ a = b := by
  constructor
  · intro h; exact (ba_beq a b).1 (by rw [beq_toListBytes, h]; simp)
  · rintro rfl; rfl
set_option maxHeartbeats 4000000 in
set_option maxRecDepth 100000 in
theorem same_any (w : World) (va vb : Value) (a b : Nd) (ha : IsN w va a) (hb : IsN w vb b) :
    Calls Try.prog 17 #[va, vb] w fun e w' => Says e (a = b) ∧ Below w.heap.size w w' := by
  obtain ⟨vp1, vi1, rfl, hpa, hia⟩ := ha.ex
  obtain ⟨vp2, vi2, rfl, hpb, hib⟩ := hb.ex
  have HIT : Hid (∀ W, Below w.heap.size w W → Calls Try.prog 19 #[vi1, vi2] W fun e w' => Says e (a.items = b.items) ∧ ∃ m, w' = W.drewN m) := fun W hW => items_any W vi1 vi2 a.items b.items (hia.below hW) (hib.below hW) ha.ok.items hb.ok.items
  obtain ⟨i1, ci1, _, _, rfl, _⟩ := hia.ex
  obtain ⟨i2, ci2, _, _, rfl, _⟩ := hib.ex
  obtain ⟨p1, cap1, b1, o1, rfl, hc1, hd1, hp1, hat1⟩ := hpa.ex
  obtain ⟨p2, cap2, b2, o2, rfl, hc2, hd2, hp2, hat2⟩ := hpb.ex
  simp only [List.length_map] at *
  obtain ⟨W1, H1, HR1, HB1, HS1⟩ := node_row w a.kind a.size a.data (.slice p1 a.parts.length cap1) (.slice i1 a.items.length ci1)
  obtain ⟨W2, H2, HR2, HB2, HS2⟩ := node_row W1 b.kind b.size b.data (.slice p2 b.parts.length cap2) (.slice i2 b.items.length ci2)
  rw [HS1.out] at HR2
  have HRA : Hid (Row W2 w.heap.size [.int .i64 a.kind, .string a.data, .int .i64 a.size, .slice p1 a.parts.length cap1, .slice i1 a.items.length ci1] 31) := HR1.out.below HB2.out HR1.out.lt
  have HBW : Hid (Below w.heap.size w W2) := HB1.out.trans (HB2.out.mono HB1.out.size)
  rw [← H1.out] at H2
  have a0 : W2.cell? ⟨w.heap.size, 0, none⟩ = some (.int .i64 a.kind) := HRA.out.cell 0
  have a1 : W2.cell? ⟨w.heap.size, 1, none⟩ = some (.string a.data) := HRA.out.cell 1
  have a2 : W2.cell? ⟨w.heap.size, 2, none⟩ = some (.int .i64 a.size) := HRA.out.cell 2
  have a3 : W2.cell? ⟨w.heap.size, 3, none⟩ = some (.slice p1 a.parts.length cap1) := HRA.out.cell 3
  have a4 : W2.cell? ⟨w.heap.size, 4, none⟩ = some (.slice i1 a.items.length ci1) := HRA.out.cell 4
  have b0 : W2.cell? ⟨w.heap.size + 1, 0, none⟩ = some (.int .i64 b.kind) := HR2.out.cell 0
  have b1' : W2.cell? ⟨w.heap.size + 1, 1, none⟩ = some (.string b.data) := HR2.out.cell 1
  have b2' : W2.cell? ⟨w.heap.size + 1, 2, none⟩ = some (.int .i64 b.size) := HR2.out.cell 2
  have b3 : W2.cell? ⟨w.heap.size + 1, 3, none⟩ = some (.slice p2 b.parts.length cap2) := HR2.out.cell 3
  have b4 : W2.cell? ⟨w.heap.size + 1, 4, none⟩ = some (.slice i2 b.items.length ci2) := HR2.out.cell 4
  have HA := hid_in (fun (i : Nat) d (h : a.parts[i]? = some d) => hat1 i (dcells d) (by simp [h]))
  have HB := hid_in (fun (i : Nat) d (h : b.parts[i]? = some d) => hat2 i (dcells d) (by simp [h]))
  have HP1 := hid_in hp1
  have HP2 := hid_in hp2
  have HOA := hid_in ha.ok.parts
  have HOB := hid_in hb.ok.parts
  clear hat1 hat2 hp1 hp2 ha hb hpa hpb hia hib HR1 HR2 HRA HB1 HB2 HS1 HS2 H1
  obtain ⟨ak, ad, az, ap, ai⟩ := a
  obtain ⟨bk, bd, bz, bp, bi⟩ := b
  simp only at *
  by_cases hk : ak = bk
  · subst hk
    by_cases hd : ad = bd
    · subst hd
      by_cases hs : az = bz
      · subst hs
        by_cases hl : ap.length = bp.length
        · rw [← hl] at H2 b3 hc2 ⊢
          have HLEN := hid_in hl
          clear hl
          generalize hn : ap.length = n at *
          have Hn := hid_in hn
          clear hn
          go_enter Try.func17, Try.ntmps17
          go_upto_region 1 with fail
          refine wp_world H2.out ?_
          clear H2
          go_wp2_with fail
          go_loopw [5] (fun vi W => ∃ i m : Nat, i ≤ n ∧ vi = .int .i64 (i : Int) ∧ W = W2.drewN m ∧ Hid (∀ (j : Nat) x y, j < i → ap[j]? = some x → bp[j]? = some y → x = y)) (fun vi _ => n - (intOf vi).toNat)
          case atStart => exact ⟨0, 0, by omega, rfl, rfl, fun j x y h => by omega⟩
          case round =>
            obtain ⟨i, m, hi, rfl, rfl, hall⟩ := hrel
            by_cases hlt : i < n
            · obtain ⟨x, hx⟩ : ∃ x, ap[i]? = some x := ⟨_, List.getElem?_eq_getElem (by rw [Hn.out]; exact hlt)⟩
              obtain ⟨y, hy⟩ : ∃ y, bp[i]? = some y := ⟨_, List.getElem?_eq_getElem (by rw [← HLEN.out]; exact hlt)⟩
              have hne1 : (ap.map dcells) ≠ [] := by intro h; simp at h; rw [h] at hx; simp at hx
              have hne2 : (bp.map dcells) ≠ [] := by intro h; simp at h; rw [h] at hy; simp at hy
              obtain ⟨q1, q2⟩ := HP1.out hne1
              obtain ⟨q3, q4⟩ := HP2.out hne2
              subst q1 q3
              have hx1 := HOA.out x (List.mem_of_getElem? hx)
              have hy1 := HOB.out y (List.mem_of_getElem? hy)
              obtain ⟨s1, s2⟩ := is49 (dcells_length hx1.1) (rangeAt_below (HA.out i x hx) HBW.out q2)
              obtain ⟨s3, s4⟩ := is49 (dcells_length hy1.1) (rangeAt_below (HB.out i y hy) HBW.out q4)
              have heq : ∀ W, (Op.equalIn 10000 49 (.agg (dcells x).toArray) (.agg (dcells y).toArray)).run Try.prog W = .ok (decide (x = y)) W := eq49 x y hx1.1 hy1.1
              have HX := hid_in hx
              have HY := hid_in hy
              have HQ : Hid (decide (x = y) = true ↔ x = y) := decide_eq_true_iff
              generalize decide (x = y) = q at heq HQ
              generalize dcells x = V1 at *
              generalize dcells y = V2 at *
              clear hx hy hne1 hne2 hx1 hy1 q2 q4
              cases q
              · go_wp2_with fail
                go_quiet (fail)
                go_wp2_with fail
                go_ret
                exact ⟨Says.no rfl (fun h => by
                  have e : x = y := by
                    have := HX.out
                    rw [(Nd.mk.inj h).2.2.2.1, HY.out] at this
                    exact (Option.some.inj this).symm
                  have := HQ.out.2 e
                  cases this), below_drewN (below_drewN HBW.out _) _⟩
              · go_wp2_with fail
                go_quiet (fail)
                go_wp2_with fail
                go_roundw
                case rel =>
                  go_light
                  refine ⟨i + 1, _, by omega, by go_num, rfl, fun j x' y' hj h1 h2 => ?_⟩
                  rcases Nat.lt_or_ge j i with h3 | h3
                  · exact hall.out j x' y' h3 h1 h2
                  · obtain rfl : j = i := by omega
                    obtain rfl := Option.some.inj (HX.out.symm.trans h1)
                    obtain rfl := Option.some.inj (HY.out.symm.trans h2)
                    exact HQ.out.1 trivial
                case measure => simp [intOf]; omega
            · obtain rfl : i = n := by omega
              have HEQ : Hid (ap = bp) := eq_of_all (Hn.out.trans HLEN.out) (fun j x y h1 h2 => hall.out j x y (by rw [← Hn.out]; exact (List.getElem?_eq_some_iff.1 h1).1) h1 h2)
              go_wp2_with (first | (go_at_call 19; refine (HIT.out _ (below_drewN HBW.out _)).mono ?_; rintro e w5 ⟨hsays, m5, hw5⟩; obtain rfl := hw5; rcases hsays.cases with ⟨rfl, hP⟩ | ⟨rfl, hP⟩; all_goals (have HPP := hid_in hP; clear hP hsays)))
              · go_ret
                exact ⟨Says.yes rfl (by rw [HEQ.out, HPP.out]), below_drewN HBW.out _⟩
              · go_ret
                exact ⟨Says.no rfl (fun h => HPP.out (Nd.mk.inj h).2.2.2.2), below_drewN HBW.out _⟩
        · have hl' : ((ap.length : Int) == (bp.length : Int)) = false := by rw [beq_eq_false_iff_ne]; omega
          have HN : Hid (Nd.mk ak ad az ap ai ≠ Nd.mk ak ad az bp bi) := fun h => hl (by rw [(Nd.mk.inj h).2.2.2.1])
          generalize ap.length = n1 at *
          generalize bp.length = n2 at *
          go_enter Try.func17, Try.ntmps17
          go_upto_region 1 with fail
          refine wp_world H2.out ?_
          clear H2
          go_wp2_with fail
          go_ret
          exact ⟨Says.no rfl HN.out, HBW.out⟩
      · have hs' : (az == bz) = false := beq_eq_false_iff_ne.2 hs
        have HN : Hid (Nd.mk ak ad az ap ai ≠ Nd.mk ak ad bz bp bi) := fun h => hs (Nd.mk.inj h).2.2.1
        go_enter Try.func17, Try.ntmps17
        go_upto_region 1 with fail
        refine wp_world H2.out ?_
        clear H2
        go_wp2_with fail
        go_ret
        exact ⟨Says.no rfl HN.out, HBW.out⟩
    · have hd1' : (ad.toList == bd.toList) = false := by rw [beq_eq_false_iff_ne]; exact fun h => hd (toList_inj.1 h)
      have HN : Hid (Nd.mk ak ad az ap ai ≠ Nd.mk ak bd bz bp bi) := fun h => hd (Nd.mk.inj h).2.1
      go_enter Try.func17, Try.ntmps17
      go_upto_region 1 with fail
      refine wp_world H2.out ?_
      clear H2
      go_wp2_with fail
      go_ret
      exact ⟨Says.no rfl HN.out, HBW.out⟩
  · have hk' : (ak == bk) = false := beq_eq_false_iff_ne.2 hk
    have HN : Hid (Nd.mk ak ad az ap ai ≠ Nd.mk bk bd bz bp bi) := fun h => hk (Nd.mk.inj h).1
    go_enter Try.func17, Try.ntmps17
    go_upto_region 1 with fail
    refine wp_world H2.out ?_
    clear H2
    go_wp2_with fail
    go_ret
    exact ⟨Says.no rfl HN.out, HBW.out⟩
end Go.Proofs.Ytbccjomnfclkdaa
