/-
  The walk of areItems.
-/
import Derived.Deep.RegionHeld3
import Derived.Deep.DrawnRows
import Derived.Deep.CutRange
import Derived.Test.YtamaejlbojbbeaaGreatDoorQ05
import Derived.Test.YtamaejlbojbbeaaGreatDoorQ06
import Derived.Test.YtamaejlbojbbeaaGreatDoorQ07
namespace Go.Proofs.YtamaejlbojbbeaaGreatDoor.Nd
open Go.RowKit
theorem info51 : (Tryz.prog.info? 114).map (·.size) = some 34 := by kernel_rfl
/-- a value is stored into a block that was just laid -/
theorem wpList_store_new {ops : Array Oper} {rest : List Oper} {op : Oper} {a : Act} {w : World} {Q : Exit → Act → World → Prop} (hgd : op.guard = none) (hd : op.dst = none) (t : TypeId) (k : Nat) (x y : Operand) (ho : op.op = .store t x y) (C : Array Value) (V : List Value) (hi : (Tryz.prog.info? t).map (·.size) = some k) (hC : C.size = k) (hV : Hid (V.length = k)) (h1 : Hid (∀ v ∈ V, v.oneCell' = true))
    (hx : a.eval x = .pointer (some ⟨w.heap.size, 0, none⟩)) (hy : a.eval y = .agg V.toArray) (h : ∀ w', Row w' w.heap.size V t → Below w.heap.size w w' → w'.heap.size = w.heap.size + 1 → wpList Tryz.prog ops Q rest a w') : wpList Tryz.prog ops Q (op :: rest) a (w.alloc (.cells C t)) := by
  have e : C = C.toList.toArray := rfl
  rw [e]
  refine wpList_store_Row hgd t x y ho w.heap.size 0 V hx hy t C.toList (Row.newAt w _ C.toList t rfl) k hi hV.out (by simp; omega) h1.out ?_
  intro w' hr hg hs
  rw [splice_all _ _ (by rw [hV.out]; simp; omega)] at hr
  have e2 : a.put op.dst undef = a := by rw [hd]; rfl
  rw [e2]
  exact h w' hr (below_of_grown ((Below.refl _ _).alloc (Nat.le_refl _) _) hg (by simp) (Nat.le_refl _)) (by rw [hs]; simp)
theorem below_drewN {B : Nat} {a w : World} (h : Below B a w) (n : Nat) : Below B a (w.drewN n) :=
  ⟨h.os, h.tape, h.output, by simpa using h.size, fun k hk => by simpa using h.block k hk⟩
/-- take operation i first: what it leaves lies in slot d -/
theorem take_put {P : Program} {ops : Array Oper} {Q : Exit → Act → World → Prop} {md : Region.Mode} {S : World → Prop} {i d : Nat} {oi : Oper} {v : Value} {fuel : Nat} {listed : Array Bool} {a : Act} {w : World} (hi : ops[i]? = some oi) (hd : oi.dst = some d)
    (hs : Region.noSelect ops = true) (hf : Region.free md ops listed i = true) (hr : (Region.ready md ops listed).contains i = true)
    (hQ : ∀ c a w, Q (.panic c) (a.put (some d) v) w → Q (.panic c) a w) (hy : YieldsIf P ops S oi v a) (hS : S w)
    (h : wpAnyH P md ops Q S fuel (listed.setIfInBounds i true) (a.put (some d) v) w) : wpAnyH P md ops Q S (fuel + 1) listed a w :=
  wpAnyH_take hi hs hf hr (by rw [hd]; exact hQ) hy hS (by rw [hd]; exact h)
/-- a call says whether P -/
def Says (e : Ending) (P : Prop) : Prop := ∃ R, e = .returned (.bool R) ∧ (R = true ↔ P)
theorem Says.no {e : Ending} {P : Prop} (h : e = .returned (.bool false)) (hp : ¬ P) : Says e P := ⟨false, h, ⟨fun h => (by cases h), fun h => absurd h hp⟩⟩
theorem Says.yes {e : Ending} {P : Prop} (h : e = .returned (.bool true)) (hp : P) : Says e P := ⟨true, h, ⟨fun _ => hp, fun _ => rfl⟩⟩
theorem Says.cases {e : Ending} {P : Prop} (h : Says e P) : (e = .returned (.bool true) ∧ P) ∨ (e = .returned (.bool false) ∧ ¬ P) := by
  obtain ⟨R, h1, h2⟩ := h
  cases R
  · exact .inr ⟨h1, fun h => by cases h2.2 h⟩
  · exact .inl ⟨h1, h2.1 rfl⟩
theorem It.one (x : It) : ∀ v ∈ x.cells, v.oneCell' = true := by
  intro v hv
  simp only [It.cells, List.mem_cons] at hv
  rcases hv with rfl | rfl | hv
  · rfl
  · rfl
  · exact one_u8 _ v hv
/-- an element of a slice of items -/
theorem Els.item {w : World} {l : List It} {b o : Nat} (h : ∀ (i : Nat) us, (l.map It.cells)[i]? = some us → w.rangeAt b (o + i * 34) us) {i : Nat} {x : It} (hx : l[i]? = some x) : w.rangeAt b (o + i * 34) x.cells := h i x.cells (by simp [hx])
/-- k cells lie there -/
def has (k : Nat) (w : World) (b o : Nat) : Prop := ∀ j, j < k → (w.cell? ⟨b, o + j, none⟩).isSome = true
def cellsAt (k : Nat) (w : World) (b o : Nat) : List Value := (List.range k).map fun j => (w.cell? ⟨b, o + j, none⟩).getD undef
def ptrB : Value → Nat
  | .pointer (some a) => a.block
  | _ => 0
def ptrO : Value → Nat
  | .pointer (some a) => a.off
  | _ => 0
theorem ptrB_pointer (a : Addr) : ptrB (.pointer (some a)) = a.block := by simp only [ptrB]
theorem ptrO_pointer (a : Addr) : ptrO (.pointer (some a)) = a.off := by simp only [ptrO]
theorem range_of_has {k : Nat} {w : World} {b o : Nat} (h : has k w b o) : w.rangeAt b o (cellsAt k w b o) := fun j v hv => by
  have hj : j < k := by have := (List.getElem?_eq_some_iff.1 hv).1; simpa [cellsAt] using this
  obtain ⟨u, hu⟩ := Option.isSome_iff_exists.1 (h j hj)
  simp only [cellsAt, List.getElem?_map, List.getElem?_range hj, Option.map_some, hu, Option.getD_some, Option.some.injEq] at hv
  rw [hu, hv]
theorem cellsAt_length (k : Nat) (w : World) (b o : Nat) : (cellsAt k w b o).length = k := by simp [cellsAt]
theorem run_load51 {v : Value} {w : World} (h1 : v = .pointer (some ⟨ptrB v, ptrO v, none⟩)) (h2 : has 34 w (ptrB v) (ptrO v)) : (Instr.loadAt 114 v).run Tryz.prog w = .ok (.agg (cellsAt 34 w (ptrB v) (ptrO v)).toArray) w := by
  have hr := range_of_has h2
  have hl := cellsAt_length 34 w (ptrB v) (ptrO v)
  generalize cellsAt 34 w (ptrB v) (ptrO v) = V at hr hl
  generalize ptrB v = b at h1 hr
  generalize ptrO v = o at h1 hr
  subst h1
  simp only [Instr.loadAt, Instr.sureAddr, Sem.run_bind, Sem.run_pure, Result.andThen_ok]
  exact run_loadVar_mid w b o 114 V _ hr Tryz.underlying114 rfl (by rw [info51, hl])
theorem has_drewN (k : Nat) (w : World) (b o n : Nat) : has k (w.drewN n) b o = has k w b o := by simp [has]
theorem cellsAt_drewN (k : Nat) (w : World) (b o n : Nat) : cellsAt k (w.drewN n) b o = cellsAt k w b o := by simp [cellsAt]
theorem has_drew (k : Nat) (w : World) (b o : Nat) : has k w.drew b o = has k w b o := rfl
theorem cellsAt_drew (k : Nat) (w : World) (b o : Nat) : cellsAt k w.drew b o = cellsAt k w b o := rfl
theorem quiet_load51 {W : World} {d : Option Tmp} {ty : TypeId} {ps : String} {af : Array Edge} {gd : Option (Nat × Bool)} {x : Operand} {a : Act} {K : Act → Prop} (h1 : a.eval x = .pointer (some ⟨ptrB (a.eval x), ptrO (a.eval x), none⟩)) (h2 : has 34 W (ptrB (a.eval x)) (ptrO (a.eval x))) :
    Oper.quiet Tryz.prog { dst := d, op := Op.load 114 x, type := ty, pos := ps, after := af, guard := gd } a (fun w' => ∃ n, w' = W.drewN n) K = K (a.put d (.agg (cellsAt 34 W (ptrB (a.eval x)) (ptrO (a.eval x))).toArray)) := by
  have hrun : ∀ n, (Instr.loadAt 114 (a.eval x)).run Tryz.prog (W.drewN n) = .ok (.agg (cellsAt 34 W (ptrB (a.eval x)) (ptrO (a.eval x))).toArray) (W.drewN n) := fun n => by
    rw [run_load51 h1 (by rw [has_drewN]; exact h2), cellsAt_drewN]
  generalize Value.agg (cellsAt 34 W (ptrB (a.eval x)) (ptrO (a.eval x))).toArray = v at hrun
  have hat : ∀ n u, Oper.quietAt Tryz.prog { dst := d, op := Op.load 114 x, type := ty, pos := ps, after := af, guard := gd } a (fun w' => ∃ n, w' = W.drewN n) (W.drewN n) u ↔ v = u := by
    intro n u
    unfold Oper.quietAt execOp
    simp only [Sem.run_bind, hrun, Result.andThen_ok, Sem.run_pure, Oper.quietUpon, true_and]
  apply propext
  constructor
  · rintro ⟨u, h, hk⟩
    have := (hat 0 u).1 (h _ ⟨0, rfl⟩)
    rw [this]
    exact hk
  · intro hk
    exact ⟨v, fun w hw => by obtain ⟨n, rfl⟩ := hw; exact (hat n v).2 rfl, hk⟩
theorem wp_load51 {d : Option Tmp} {ty : TypeId} {ps : String} {af : Array Edge} {gd : Option (Nat × Bool)} {x : Operand} {a : Act} {w : World} {K : Act → World → Prop} {Q : Exit → Act → World → Prop} (h1 : a.eval x = .pointer (some ⟨ptrB (a.eval x), ptrO (a.eval x), none⟩)) (h2 : has 34 w (ptrB (a.eval x)) (ptrO (a.eval x))) :
    Oper.wp Tryz.prog { dst := d, op := Op.load 114 x, type := ty, pos := ps, after := af, guard := gd } a w K Q = K (a.put d (.agg (cellsAt 34 w (ptrB (a.eval x)) (ptrO (a.eval x))).toArray)) w := by
  have hrun := run_load51 h1 h2
  generalize Value.agg (cellsAt 34 w (ptrB (a.eval x)) (ptrO (a.eval x))).toArray = v at hrun ⊢
  unfold Oper.wp execOp
  simp only [Sem.run_bind, hrun, Result.andThen_ok, Sem.run_pure]
  rfl
theorem exec_load51 {d : Option Tmp} {ty : TypeId} {ps : String} {af : Array Edge} {gd : Option (Nat × Bool)} {x : Operand} {ρ : Operand → Value} {w : World} (h1 : ρ x = .pointer (some ⟨ptrB (ρ x), ptrO (ρ x), none⟩)) (h2 : has 34 w (ptrB (ρ x)) (ptrO (ρ x))) :
    (execOp ρ { dst := d, op := Op.load 114 x, type := ty, pos := ps, after := af, guard := gd }).run Tryz.prog w = .ok (.value (.agg (cellsAt 34 w (ptrB (ρ x)) (ptrO (ρ x))).toArray)) w := by
  have hrun := run_load51 h1 h2
  unfold execOp
  simp only [Sem.run_bind, hrun, Result.andThen_ok, Sem.run_pure]
attribute [local go_sem ↓] run_load51 quiet_load51 wp_load51 exec_load51
attribute [local go_sem] has_drewN cellsAt_drewN has_drew cellsAt_drew ptrB_pointer ptrO_pointer
set_option maxHeartbeats 2000000 in
set_option maxRecDepth 100000 in
theorem areItems_any (l : List It) (v : Value) (w : World) (hl : Els w v 34 (l.map It.cells)) (hok : ∀ x ∈ l, x.ok) (hsz : ∀ x ∈ l, x.name.size ≤ 9223372036854775807) :
    Calls Tryz.prog 202 #[v] w fun e w' => Says e (itemsOk l) ∧ Below w.heap.size w w' := by
  obtain ⟨p, cap, b, o, rfl, hc1, hc2, hp, hat⟩ := hl.ex
  rw [List.length_map] at *
  clear hl
  rcases Nat.lt_or_ge 64 l.length with h64 | h64
  · have h1 : ¬ ((l.length : Int) ≤ 64) := by omega
    have hno : ¬ itemsOk l := fun h => by have := h.1; omega
    have HNO := hid_in hno
    clear hno h64 hat hp hok hsz
    generalize l.length = n at *
    go_enter Tryz.func202, Tryz.ntmps202
    go_wp2_with fail
    go_ret
    exact ⟨Says.no rfl HNO.out, Below.refl _ _⟩
  · have HAT := hid_in (fun i x (hx : l[i]? = some x) => Els.item hat hx)
    have HP := hid_in hp
    have HOK := hid_in hok
    have HSZ := hid_in hsz
    have h1 : (l.length : Int) ≤ 64 := by omega
    clear hat hp hok hsz
    generalize hn : l.length = n at *
    have Hn := hid_in hn
    clear hn
    go_enter Tryz.func202, Tryz.ntmps202
    go_wp2_with fail
    go_loopw [10] (fun vi W => ∃ i : Nat, i ≤ n ∧ vi = .int .i64 (i : Int) ∧ Hid (Below w.heap.size w W) ∧ Hid (∀ j, j < i → okAt l j)) (fun vi _ => n - (intOf vi).toNat)
    case atStart => exact ⟨0, by omega, rfl, Below.refl _ _, fun j h => by omega⟩
    case round =>
      obtain ⟨i, hi, rfl, HB, hall⟩ := hrel
      by_cases hlt : i < n
      · obtain ⟨x, hx⟩ : ∃ x, l[i]? = some x := ⟨_, List.getElem?_eq_getElem (by rw [Hn.out]; exact hlt)⟩
        have hne : (l.map It.cells) ≠ [] := by intro h; simp at h; rw [h] at hx; simp at hx
        obtain ⟨hpp, hbl⟩ := HP.out hne
        subst hpp
        have HX := hid_in hx
        have hxo := HOK.out x (List.mem_of_getElem? hx)
        have hxs := HSZ.out x (List.mem_of_getElem? hx)
        have HR : Hid (wr.rangeAt b (o + i * 34) x.cells) := rangeAt_below (HAT.out i x hx) HB.out hbl
        have HVL : Hid (x.cells.length = 34) := It.cells_length x hxo.sum.1
        have H1 := hid_in x.one
        have HIT := hid_in (fun W => isItem_any x hxs W)
        clear hx hne hxo hxs
        obtain ⟨V, HVE⟩ : ∃ V, Hid (V = x.cells) := ⟨_, rfl⟩
        rw [← HVE.out] at HR HVL H1 HIT
        cases hb : itemOk x
        · rw [hb] at HIT
          have HBB := hid_in hb
          clear hb
          go_upto_region 6 with (first | (refine wpList_load_mid rfl 114 _ rfl b _ rfl V _ HR.out Tryz.underlying114 rfl (by rw [info51, HVL.out]) ?_) | (refine wpList_store_new rfl rfl 114 34 _ _ rfl _ V info51 rfl HVL H1 rfl rfl ?_; intro w5 hr5 hb5 hs5; have HR5 := hid_in hr5; have HB5 := hid_in hb5; have HS5 := hid_in hs5; clear hr5 hb5 hs5))
          have HK : Hid (∀ W, Below w5.heap.size w5 W → W.rangeAt wr.heap.size 0 V) := fun W hW j v hv => by
            rw [hW.cell (p := ⟨wr.heap.size, 0 + j, none⟩) (by rw [HS5.out]; exact Nat.lt_succ_self _), Nat.zero_add, HR5.out.cell]; exact hv
          have HBD : Hid (Below w5.heap.size w5 w5.drew) := below_drewN (Below.refl _ w5) 1
          go_cut [10, 32] from 10 to 33 (fun vi v w' => vi = .int .i64 (i : Int) ∧ v = .bool true ∧ Below w5.heap.size w5 w')
          case first =>
            refine wp_region_held_drew (S := fun w' => w'.rangeAt wr.heap.size 0 V) (by kernel_rfl) (HK.out _ HBD.out) (fun hHeld => ?_)
            refine take_put (i := 0) (d := 15) (v := .agg V.toArray) rfl rfl (by kernel_rfl) (by kernel_rfl) (by kernel_rfl) (fun _ _ _ h => h) (yieldsIf_load_mid (by rfl) 114 _ rfl _ _ rfl V _ (fun w' h => h) Tryz.underlying114 rfl (by rw [info51, HVL.out])) hHeld ?_
            simp only [Act.put, List.setIfInBounds_toArray, List.set_cons_zero, List.set_cons_succ]
            refine wpAnyH_ready (rs := [1]) (by kernel_rfl) (by simp) ?_
            refine AllReadyH.cons rfl (fun K hK => ?_) AllReadyH.nil
            rw [if_pos (by rfl)]
            go_simp
            refine (HIT.out _).mono ?_
            rintro e w6 ⟨rfl, hb6⟩
            have HB6 := hid_in (HBD.out.trans (hb6.mono HBD.out.size))
            clear hb6
            go_simp
            refine hK.out _ _ (HK.out _ HB6.out) (fun hHeld => ?_)
            clear hK K
            refine take_put (i := 2) (d := 17) (v := ?_) rfl rfl (by kernel_rfl) (by kernel_rfl) (by kernel_rfl) (fun _ _ _ h => h) (Or.inl ⟨by kernel_rfl, ?_⟩) hHeld ?_
            rotate_left
            · (intro w hSw; (try dsimp only at hSw); go_simp; (try with_reducible rfl))
            simp only [Act.put, List.setIfInBounds_toArray, List.set_cons_zero, List.set_cons_succ]
            refine take_put (i := 3) (d := 18) (v := ?_) rfl rfl (by kernel_rfl) (by kernel_rfl) (by kernel_rfl) (fun _ _ _ h => h) (Or.inl ⟨by kernel_rfl, ?_⟩) hHeld ?_
            rotate_left
            · (intro w hSw; (try dsimp only at hSw); go_simp; (try with_reducible rfl))
            simp only [Act.put, List.setIfInBounds_toArray, List.set_cons_zero, List.set_cons_succ]
            refine take_put (i := 4) (d := 19) (v := undef) rfl rfl (by kernel_rfl) (by kernel_rfl) (by kernel_rfl) (fun _ _ _ h => h) (Or.inr ⟨by kernel_rfl, rfl⟩) hHeld ?_
            simp only [Act.put, List.setIfInBounds_toArray, List.set_cons_zero, List.set_cons_succ]
            refine take_put (i := 5) (d := 20) (v := undef) rfl rfl (by kernel_rfl) (by kernel_rfl) (by kernel_rfl) (fun _ _ _ h => h) (Or.inr ⟨by kernel_rfl, rfl⟩) hHeld ?_
            simp only [Act.put, List.setIfInBounds_toArray, List.set_cons_zero, List.set_cons_succ]
            refine take_put (i := 6) (d := 21) (v := undef) rfl rfl (by kernel_rfl) (by kernel_rfl) (by kernel_rfl) (fun _ _ _ h => h) (Or.inr ⟨by kernel_rfl, rfl⟩) hHeld ?_
            simp only [Act.put, List.setIfInBounds_toArray, List.set_cons_zero, List.set_cons_succ]
            refine take_put (i := 7) (d := 22) (v := undef) rfl rfl (by kernel_rfl) (by kernel_rfl) (by kernel_rfl) (fun _ _ _ h => h) (Or.inr ⟨by kernel_rfl, rfl⟩) hHeld ?_
            simp only [Act.put, List.setIfInBounds_toArray, List.set_cons_zero, List.set_cons_succ]
            refine take_put (i := 8) (d := 23) (v := undef) rfl rfl (by kernel_rfl) (by kernel_rfl) (by kernel_rfl) (fun _ _ _ h => h) (Or.inr ⟨by kernel_rfl, rfl⟩) hHeld ?_
            simp only [Act.put, List.setIfInBounds_toArray, List.set_cons_zero, List.set_cons_succ]
            refine take_put (i := 9) (d := 24) (v := undef) rfl rfl (by kernel_rfl) (by kernel_rfl) (by kernel_rfl) (fun _ _ _ h => h) (Or.inr ⟨by kernel_rfl, rfl⟩) hHeld ?_
            simp only [Act.put, List.setIfInBounds_toArray, List.set_cons_zero, List.set_cons_succ]
            refine take_put (i := 10) (d := 25) (v := undef) rfl rfl (by kernel_rfl) (by kernel_rfl) (by kernel_rfl) (fun _ _ _ h => h) (Or.inr ⟨by kernel_rfl, rfl⟩) hHeld ?_
            simp only [Act.put, List.setIfInBounds_toArray, List.set_cons_zero, List.set_cons_succ]
            refine take_put (i := 11) (d := 26) (v := undef) rfl rfl (by kernel_rfl) (by kernel_rfl) (by kernel_rfl) (fun _ _ _ h => h) (Or.inr ⟨by kernel_rfl, rfl⟩) hHeld ?_
            simp only [Act.put, List.setIfInBounds_toArray, List.set_cons_zero, List.set_cons_succ]
            refine take_put (i := 12) (d := 27) (v := undef) rfl rfl (by kernel_rfl) (by kernel_rfl) (by kernel_rfl) (fun _ _ _ h => h) (Or.inr ⟨by kernel_rfl, rfl⟩) hHeld ?_
            simp only [Act.put, List.setIfInBounds_toArray, List.set_cons_zero, List.set_cons_succ]
            refine take_put (i := 13) (d := 28) (v := undef) rfl rfl (by kernel_rfl) (by kernel_rfl) (by kernel_rfl) (fun _ _ _ h => h) (Or.inr ⟨by kernel_rfl, rfl⟩) hHeld ?_
            simp only [Act.put, List.setIfInBounds_toArray, List.set_cons_zero, List.set_cons_succ]
            refine take_put (i := 14) (d := 29) (v := undef) rfl rfl (by kernel_rfl) (by kernel_rfl) (by kernel_rfl) (fun _ _ _ h => h) (Or.inr ⟨by kernel_rfl, rfl⟩) hHeld ?_
            simp only [Act.put, List.setIfInBounds_toArray, List.set_cons_zero, List.set_cons_succ]
            refine take_put (i := 15) (d := 30) (v := undef) rfl rfl (by kernel_rfl) (by kernel_rfl) (by kernel_rfl) (fun _ _ _ h => h) (Or.inr ⟨by kernel_rfl, rfl⟩) hHeld ?_
            simp only [Act.put, List.setIfInBounds_toArray, List.set_cons_zero, List.set_cons_succ]
            refine take_put (i := 16) (d := 31) (v := undef) rfl rfl (by kernel_rfl) (by kernel_rfl) (by kernel_rfl) (fun _ _ _ h => h) (Or.inr ⟨by kernel_rfl, rfl⟩) hHeld ?_
            simp only [Act.put, List.setIfInBounds_toArray, List.set_cons_zero, List.set_cons_succ]
            refine take_put (i := 17) (d := 32) (v := ?_) rfl rfl (by kernel_rfl) (by kernel_rfl) (by kernel_rfl) (fun _ _ _ h => h) (Or.inl ⟨by kernel_rfl, ?_⟩) hHeld ?_
            rotate_left
            · (intro w hSw; (try dsimp only at hSw); go_simp; (try with_reducible rfl))
            simp only [Act.put, List.setIfInBounds_toArray, List.set_cons_zero, List.set_cons_succ]
            refine wpAnyH_done (by kernel_rfl) ?_ _
            go_wp2_with fail
            go_meet
            exact ⟨rfl, rfl, HB6.out⟩
          obtain ⟨rfl, rfl, hb6⟩ := hcut
          have HB6 := hid_in (HB.out.trans ((HB5.out.trans (hb6.mono HB5.out.size)).mono HB.out.size))
          clear hb6 HK HBD HB5 HR5 HS5
          go_wp2_with fail
          go_ret
          exact ⟨Says.no rfl (fun h => by have := (h.2 i (by rw [Hn.out]; exact hlt) x HX.out).1; rw [HBB.out] at this; cases this), HB6.out⟩
        · rw [hb] at HIT
          have HBB := hid_in hb
          clear hb
          cases i with
          | zero =>
            go_upto_region 6 with (first | (refine wpList_load_mid rfl 114 _ rfl b _ rfl V _ HR.out Tryz.underlying114 rfl (by rw [info51, HVL.out]) ?_) | (refine wpList_store_new rfl rfl 114 34 _ _ rfl _ V info51 rfl HVL H1 rfl rfl ?_; intro w5 hr5 hb5 hs5; have HR5 := hid_in hr5; have HB5 := hid_in hb5; have HS5 := hid_in hs5; clear hr5 hb5 hs5))
            have HK : Hid (∀ W, Below w5.heap.size w5 W → W.rangeAt wr.heap.size 0 V) := fun W hW j v hv => by
              rw [hW.cell (p := ⟨wr.heap.size, 0 + j, none⟩) (by rw [HS5.out]; exact Nat.lt_succ_self _), Nat.zero_add, HR5.out.cell]; exact hv
            have HBD : Hid (Below w5.heap.size w5 w5.drew) := below_drewN (Below.refl _ w5) 1
            go_cut [10, 32] from 10 to 33 (fun vi v w' => vi = .int .i64 0 ∧ v = .bool false ∧ Below w5.heap.size w5 w')
            case first =>
              refine wp_region_held_drew (S := fun w' => w'.rangeAt wr.heap.size 0 V) (by kernel_rfl) (HK.out _ HBD.out) (fun hHeld => ?_)
              refine take_put (i := 0) (d := 15) (v := .agg V.toArray) rfl rfl (by kernel_rfl) (by kernel_rfl) (by kernel_rfl) (fun _ _ _ h => h) (yieldsIf_load_mid (by rfl) 114 _ rfl _ _ rfl V _ (fun w' h => h) Tryz.underlying114 rfl (by rw [info51, HVL.out])) hHeld ?_
              simp only [Act.put, List.setIfInBounds_toArray, List.set_cons_zero, List.set_cons_succ]
              refine wpAnyH_ready (rs := [1]) (by kernel_rfl) (by simp) ?_
              refine AllReadyH.cons rfl (fun K hK => ?_) AllReadyH.nil
              rw [if_pos (by rfl)]
              go_simp
              refine (HIT.out _).mono ?_
              rintro e w6 ⟨rfl, hb6⟩
              have HB6 := hid_in (HBD.out.trans (hb6.mono HBD.out.size))
              clear hb6
              go_simp
              refine hK.out _ _ (HK.out _ HB6.out) (fun hHeld => ?_)
              clear hK K
              refine take_put (i := 2) (d := 17) (v := ?_) rfl rfl (by kernel_rfl) (by kernel_rfl) (by kernel_rfl) (fun _ _ _ h => h) (Or.inl ⟨by kernel_rfl, ?_⟩) hHeld ?_
              rotate_left
              · (intro w hSw; (try dsimp only at hSw); go_simp; (try with_reducible rfl))
              simp only [Act.put, List.setIfInBounds_toArray, List.set_cons_zero, List.set_cons_succ]
              refine take_put (i := 3) (d := 18) (v := ?_) rfl rfl (by kernel_rfl) (by kernel_rfl) (by kernel_rfl) (fun _ _ _ h => h) (Or.inl ⟨by kernel_rfl, ?_⟩) hHeld ?_
              rotate_left
              · (intro w hSw; (try dsimp only at hSw); go_simp; (try with_reducible rfl))
              simp only [Act.put, List.setIfInBounds_toArray, List.set_cons_zero, List.set_cons_succ]
              refine take_put (i := 4) (d := 19) (v := ?_) rfl rfl (by kernel_rfl) (by kernel_rfl) (by kernel_rfl) (fun _ _ _ h => h) (Or.inl ⟨by kernel_rfl, ?_⟩) hHeld ?_
              rotate_left
              · (intro w hSw; (try dsimp only at hSw); go_simp; (try with_reducible rfl))
              simp only [Act.put, List.setIfInBounds_toArray, List.set_cons_zero, List.set_cons_succ]
              refine take_put (i := 5) (d := 20) (v := ?_) rfl rfl (by kernel_rfl) (by kernel_rfl) (by kernel_rfl) (fun _ _ _ h => h) (Or.inl ⟨by kernel_rfl, ?_⟩) hHeld ?_
              rotate_left
              · (intro w hSw; (try dsimp only at hSw); go_simp; (try with_reducible rfl))
              simp only [Act.put, List.setIfInBounds_toArray, List.set_cons_zero, List.set_cons_succ]
              refine take_put (i := 6) (d := 21) (v := ?_) rfl rfl (by kernel_rfl) (by kernel_rfl) (by kernel_rfl) (fun _ _ _ h => h) (Or.inl ⟨by kernel_rfl, ?_⟩) hHeld ?_
              rotate_left
              · (intro w hSw; (try dsimp only at hSw); go_simp; (try with_reducible rfl))
              simp only [Act.put, List.setIfInBounds_toArray, List.set_cons_zero, List.set_cons_succ]
              refine take_put (i := 7) (d := 22) (v := undef) rfl rfl (by kernel_rfl) (by kernel_rfl) (by kernel_rfl) (fun _ _ _ h => h) (Or.inr ⟨by kernel_rfl, rfl⟩) hHeld ?_
              simp only [Act.put, List.setIfInBounds_toArray, List.set_cons_zero, List.set_cons_succ]
              refine take_put (i := 8) (d := 23) (v := undef) rfl rfl (by kernel_rfl) (by kernel_rfl) (by kernel_rfl) (fun _ _ _ h => h) (Or.inr ⟨by kernel_rfl, rfl⟩) hHeld ?_
              simp only [Act.put, List.setIfInBounds_toArray, List.set_cons_zero, List.set_cons_succ]
              refine take_put (i := 9) (d := 24) (v := undef) rfl rfl (by kernel_rfl) (by kernel_rfl) (by kernel_rfl) (fun _ _ _ h => h) (Or.inr ⟨by kernel_rfl, rfl⟩) hHeld ?_
              simp only [Act.put, List.setIfInBounds_toArray, List.set_cons_zero, List.set_cons_succ]
              refine take_put (i := 10) (d := 25) (v := undef) rfl rfl (by kernel_rfl) (by kernel_rfl) (by kernel_rfl) (fun _ _ _ h => h) (Or.inr ⟨by kernel_rfl, rfl⟩) hHeld ?_
              simp only [Act.put, List.setIfInBounds_toArray, List.set_cons_zero, List.set_cons_succ]
              refine take_put (i := 11) (d := 26) (v := undef) rfl rfl (by kernel_rfl) (by kernel_rfl) (by kernel_rfl) (fun _ _ _ h => h) (Or.inr ⟨by kernel_rfl, rfl⟩) hHeld ?_
              simp only [Act.put, List.setIfInBounds_toArray, List.set_cons_zero, List.set_cons_succ]
              refine take_put (i := 12) (d := 27) (v := undef) rfl rfl (by kernel_rfl) (by kernel_rfl) (by kernel_rfl) (fun _ _ _ h => h) (Or.inr ⟨by kernel_rfl, rfl⟩) hHeld ?_
              simp only [Act.put, List.setIfInBounds_toArray, List.set_cons_zero, List.set_cons_succ]
              refine take_put (i := 13) (d := 28) (v := undef) rfl rfl (by kernel_rfl) (by kernel_rfl) (by kernel_rfl) (fun _ _ _ h => h) (Or.inr ⟨by kernel_rfl, rfl⟩) hHeld ?_
              simp only [Act.put, List.setIfInBounds_toArray, List.set_cons_zero, List.set_cons_succ]
              refine take_put (i := 14) (d := 29) (v := undef) rfl rfl (by kernel_rfl) (by kernel_rfl) (by kernel_rfl) (fun _ _ _ h => h) (Or.inr ⟨by kernel_rfl, rfl⟩) hHeld ?_
              simp only [Act.put, List.setIfInBounds_toArray, List.set_cons_zero, List.set_cons_succ]
              refine take_put (i := 15) (d := 30) (v := undef) rfl rfl (by kernel_rfl) (by kernel_rfl) (by kernel_rfl) (fun _ _ _ h => h) (Or.inr ⟨by kernel_rfl, rfl⟩) hHeld ?_
              simp only [Act.put, List.setIfInBounds_toArray, List.set_cons_zero, List.set_cons_succ]
              refine take_put (i := 16) (d := 31) (v := ?_) rfl rfl (by kernel_rfl) (by kernel_rfl) (by kernel_rfl) (fun _ _ _ h => h) (Or.inl ⟨by kernel_rfl, ?_⟩) hHeld ?_
              rotate_left
              · (intro w hSw; (try dsimp only at hSw); go_simp; (try with_reducible rfl))
              simp only [Act.put, List.setIfInBounds_toArray, List.set_cons_zero, List.set_cons_succ]
              refine take_put (i := 17) (d := 32) (v := ?_) rfl rfl (by kernel_rfl) (by kernel_rfl) (by kernel_rfl) (fun _ _ _ h => h) (Or.inl ⟨by kernel_rfl, ?_⟩) hHeld ?_
              rotate_left
              · (intro w hSw; (try dsimp only at hSw); go_simp; (try with_reducible rfl))
              simp only [Act.put, List.setIfInBounds_toArray, List.set_cons_zero, List.set_cons_succ]
              refine wpAnyH_done (by kernel_rfl) ?_ _
              go_wp2_with fail
              go_meet
              exact ⟨rfl, rfl, HB6.out⟩
            obtain ⟨rfl, rfl, hb6⟩ := hcut
            have HB6 := hid_in (HB.out.trans ((HB5.out.trans (hb6.mono HB5.out.size)).mono HB.out.size))
            clear hb6 HK HBD HB5 HR5 HS5
            go_wp2_with fail
            go_roundw
            case rel =>
              go_light
              exact ⟨1, by omega, by go_num, HB6, fun j hj y hy => by
                obtain rfl : j = 0 := by omega
                obtain rfl := Option.some.inj (HX.out.symm.trans hy)
                exact ⟨HBB.out, fun h => absurd h (by omega)⟩⟩
            case measure => simp [intOf]; omega
          | succ j =>
            obtain ⟨y, hy⟩ : ∃ y, l[j]? = some y := ⟨_, List.getElem?_eq_getElem (by rw [Hn.out]; omega)⟩
            have HY := hid_in hy
            have HRY : Hid (wr.cell? ⟨b, o + j * 34, none⟩ = some (.string y.name)) := rangeAt_below (HAT.out j y hy) HB.out hbl 0 _ rfl
            have hx0 : V[0]? = some (.string x.name) := by rw [HVE.out]; rfl
            clear hy
            go_upto_region 6 with (first | (refine wpList_load_mid rfl 114 _ rfl b _ rfl V _ HR.out Tryz.underlying114 rfl (by rw [info51, HVL.out]) ?_) | (refine wpList_store_new rfl rfl 114 34 _ _ rfl _ V info51 rfl HVL H1 rfl rfl ?_; intro w5 hr5 hb5 hs5; have HR5 := hid_in hr5; have HB5 := hid_in hb5; have HS5 := hid_in hs5; clear hr5 hb5 hs5))
            have HK : Hid (∀ W, Below w5.heap.size w5 W → W.rangeAt wr.heap.size 0 V) := fun W hW j v hv => by
              rw [hW.cell (p := ⟨wr.heap.size, 0 + j, none⟩) (by rw [HS5.out]; exact Nat.lt_succ_self _), Nat.zero_add, HR5.out.cell]; exact hv
            have HBD : Hid (Below w5.heap.size w5 w5.drew) := below_drewN (Below.refl _ w5) 1
            have HK2 : Hid (∀ W, Below w5.heap.size w5 W → W.rangeAt wr.heap.size 0 V ∧ W.cell? ⟨b, o + j * 34, none⟩ = some (.string y.name) ∧ W.cell? ⟨wr.heap.size, 0, none⟩ = some (.string x.name)) := fun W hW => by
              have hbw : b < wr.heap.size := Nat.lt_of_lt_of_le hbl HB.out.size
              exact ⟨HK.out W hW, by rw [hW.cell (p := ⟨b, o + j * 34, none⟩) (by rw [HS5.out]; exact Nat.lt_succ_of_lt hbw), HB5.out.cell (p := ⟨b, o + j * 34, none⟩) hbw]; exact HRY.out, HK.out W hW 0 _ hx0⟩
            have hj0 : (0 : Int) ≤ (j : Int) := by omega
            have hj1 : (j : Int) < (n : Int) := by omega
            have hj2 : (j : Int) ≤ 64 := by omega
            have e9 : IntKind.i64.wrap (j : Int) = (j : Int) := by rw [IntKind.wrap_i64]; omega
            generalize hyn : y.name = yn at HRY HK2
            generalize hxn : x.name = xn at HK2 hx0
            have HYX : Hid (y.name = yn ∧ x.name = xn) := ⟨hyn, hxn⟩
            clear hyn hxn
            go_cut [10, 32] from 10 to 33 (fun vi v w' => vi = .int .i64 ((j + 1 : Nat) : Int) ∧ v = .bool (geS yn xn) ∧ Below w5.heap.size w5 w')
            case first =>
              refine wp_region_held_drew (S := fun w' => w'.rangeAt wr.heap.size 0 V ∧ w'.cell? ⟨b, o + j * 34, none⟩ = some (.string yn) ∧ w'.cell? ⟨wr.heap.size, 0, none⟩ = some (.string xn)) (by kernel_rfl) (HK2.out _ HBD.out) (fun hHeld => ?_)
              refine take_put (i := 0) (d := 15) (v := .agg V.toArray) rfl rfl (by kernel_rfl) (by kernel_rfl) (by kernel_rfl) (fun _ _ _ h => h) (yieldsIf_load_mid (by rfl) 114 _ rfl _ _ rfl V _ (fun w' h => h.1) Tryz.underlying114 rfl (by rw [info51, HVL.out])) hHeld ?_
              simp only [Act.put, List.setIfInBounds_toArray, List.set_cons_zero, List.set_cons_succ]
              refine wpAnyH_ready (rs := [1]) (by kernel_rfl) (by simp) ?_
              refine AllReadyH.cons rfl (fun K hK => ?_) AllReadyH.nil
              rw [if_pos (by rfl)]
              go_simp
              refine (HIT.out _).mono ?_
              rintro e w6 ⟨rfl, hb6⟩
              have HB6 := hid_in (HBD.out.trans (hb6.mono HBD.out.size))
              clear hb6
              go_simp
              refine hK.out _ _ (HK2.out _ HB6.out) (fun hHeld => ?_)
              clear hK K
              refine take_put (i := 2) (d := 17) (v := ?_) rfl rfl (by kernel_rfl) (by kernel_rfl) (by kernel_rfl) (fun _ _ _ h => h) (Or.inl ⟨by kernel_rfl, ?_⟩) hHeld ?_
              rotate_left
              · (intro w hSw; (try dsimp only at hSw); go_simp; (try with_reducible rfl))
              simp only [Act.put, List.setIfInBounds_toArray, List.set_cons_zero, List.set_cons_succ]
              refine take_put (i := 3) (d := 18) (v := ?_) rfl rfl (by kernel_rfl) (by kernel_rfl) (by kernel_rfl) (fun _ _ _ h => h) (Or.inl ⟨by kernel_rfl, ?_⟩) hHeld ?_
              rotate_left
              · (intro w hSw; (try dsimp only at hSw); go_simp; (try with_reducible rfl))
              simp only [Act.put, List.setIfInBounds_toArray, List.set_cons_zero, List.set_cons_succ]
              refine take_put (i := 4) (d := 19) (v := ?_) rfl rfl (by kernel_rfl) (by kernel_rfl) (by kernel_rfl) (fun _ _ _ h => h) (Or.inl ⟨by kernel_rfl, ?_⟩) hHeld ?_
              rotate_left
              · (intro w hSw; (try dsimp only at hSw); go_simp; (try with_reducible rfl))
              simp only [Act.put, List.setIfInBounds_toArray, List.set_cons_zero, List.set_cons_succ]
              refine take_put (i := 5) (d := 20) (v := ?_) rfl rfl (by kernel_rfl) (by kernel_rfl) (by kernel_rfl) (fun _ _ _ h => h) (Or.inl ⟨by kernel_rfl, ?_⟩) hHeld ?_
              rotate_left
              · (intro w hSw; (try dsimp only at hSw); go_simp; (try with_reducible rfl))
              simp only [Act.put, List.setIfInBounds_toArray, List.set_cons_zero, List.set_cons_succ]
              refine take_put (i := 6) (d := 21) (v := ?_) rfl rfl (by kernel_rfl) (by kernel_rfl) (by kernel_rfl) (fun _ _ _ h => h) (Or.inl ⟨by kernel_rfl, ?_⟩) hHeld ?_
              rotate_left
              · (intro w hSw; (try dsimp only at hSw); go_simp; (try with_reducible rfl))
              simp only [Act.put, List.setIfInBounds_toArray, List.set_cons_zero, List.set_cons_succ]
              refine take_put (i := 7) (d := 22) (v := ?_) rfl rfl (by kernel_rfl) (by kernel_rfl) (by kernel_rfl) (fun _ _ _ h => h) (Or.inl ⟨by kernel_rfl, ?_⟩) hHeld ?_
              rotate_left
              · (intro w hSw; (try dsimp only at hSw); go_simp; (try with_reducible rfl))
              simp only [Act.put, List.setIfInBounds_toArray, List.set_cons_zero, List.set_cons_succ]
              refine take_put (i := 8) (d := 23) (v := ?_) rfl rfl (by kernel_rfl) (by kernel_rfl) (by kernel_rfl) (fun _ _ _ h => h) (Or.inl ⟨by kernel_rfl, ?_⟩) hHeld ?_
              rotate_left
              · (intro w hSw; (try dsimp only at hSw); go_simp; (try with_reducible rfl))
              simp only [Act.put, List.setIfInBounds_toArray, List.set_cons_zero, List.set_cons_succ]
              refine take_put (i := 9) (d := 24) (v := .int .i64 (j : Int)) rfl rfl (by kernel_rfl) (by kernel_rfl) (by kernel_rfl) (fun _ _ _ h => h) (Or.inl ⟨by kernel_rfl, fun w hSw => ?_⟩) hHeld ?_
              · (go_simp)
              simp only [Act.put, List.setIfInBounds_toArray, List.set_cons_zero, List.set_cons_succ]
              refine take_put (i := 10) (d := 25) (v := .pointer (some ⟨b, o + j * 34, none⟩)) rfl rfl (by kernel_rfl) (by kernel_rfl) (by kernel_rfl) (fun _ _ _ h => h) (Or.inl ⟨by kernel_rfl, fun w hSw => ?_⟩) hHeld ?_
              · (go_simp)
              simp only [Act.put, List.setIfInBounds_toArray, List.set_cons_zero, List.set_cons_succ]
              refine take_put (i := 11) (d := 26) (v := ?_) rfl rfl (by kernel_rfl) (by kernel_rfl) (by kernel_rfl) (fun _ _ _ h => h) (Or.inl ⟨by kernel_rfl, ?_⟩) hHeld ?_
              rotate_left
              · (intro w hSw; (try dsimp only at hSw); go_simp; (try with_reducible rfl))
              simp only [Act.put, List.setIfInBounds_toArray, List.set_cons_zero, List.set_cons_succ]
              refine take_put (i := 12) (d := 27) (v := ?_) rfl rfl (by kernel_rfl) (by kernel_rfl) (by kernel_rfl) (fun _ _ _ h => h) (Or.inl ⟨by kernel_rfl, ?_⟩) hHeld ?_
              rotate_left
              · (intro w hSw; (try dsimp only at hSw); go_simp; (try with_reducible rfl))
              simp only [Act.put, List.setIfInBounds_toArray, List.set_cons_zero, List.set_cons_succ]
              refine take_put (i := 13) (d := 28) (v := ?_) rfl rfl (by kernel_rfl) (by kernel_rfl) (by kernel_rfl) (fun _ _ _ h => h) (Or.inl ⟨by kernel_rfl, ?_⟩) hHeld ?_
              rotate_left
              · (intro w hSw; (try dsimp only at hSw); go_simp; (try with_reducible rfl))
              simp only [Act.put, List.setIfInBounds_toArray, List.set_cons_zero, List.set_cons_succ]
              refine take_put (i := 14) (d := 29) (v := ?_) rfl rfl (by kernel_rfl) (by kernel_rfl) (by kernel_rfl) (fun _ _ _ h => h) (Or.inl ⟨by kernel_rfl, ?_⟩) hHeld ?_
              rotate_left
              · (intro w hSw; (try dsimp only at hSw); go_simp; (try with_reducible rfl))
              simp only [Act.put, List.setIfInBounds_toArray, List.set_cons_zero, List.set_cons_succ]
              refine take_put (i := 15) (d := 30) (v := .bool (geS yn xn)) rfl rfl (by kernel_rfl) (by kernel_rfl) (by kernel_rfl) (fun _ _ _ h => h) (Or.inl ⟨by kernel_rfl, fun w hSw => ?_⟩) hHeld ?_
              · (go_simp; simp [geS])
              simp only [Act.put, List.setIfInBounds_toArray, List.set_cons_zero, List.set_cons_succ]
              refine take_put (i := 16) (d := 31) (v := ?_) rfl rfl (by kernel_rfl) (by kernel_rfl) (by kernel_rfl) (fun _ _ _ h => h) (Or.inl ⟨by kernel_rfl, ?_⟩) hHeld ?_
              rotate_left
              · (intro w hSw; (try dsimp only at hSw); go_simp; (try with_reducible rfl))
              simp only [Act.put, List.setIfInBounds_toArray, List.set_cons_zero, List.set_cons_succ]
              refine take_put (i := 17) (d := 32) (v := ?_) rfl rfl (by kernel_rfl) (by kernel_rfl) (by kernel_rfl) (fun _ _ _ h => h) (Or.inl ⟨by kernel_rfl, ?_⟩) hHeld ?_
              rotate_left
              · (intro w hSw; (try dsimp only at hSw); go_simp; (try with_reducible rfl))
              simp only [Act.put, List.setIfInBounds_toArray, List.set_cons_zero, List.set_cons_succ]
              refine wpAnyH_done (by kernel_rfl) ?_ _
              go_wp2_with fail
              go_meet
              exact ⟨rfl, rfl, HB6.out⟩
            obtain ⟨rfl, rfl, hb6⟩ := hcut
            have HB6 := hid_in (HB.out.trans ((HB5.out.trans (hb6.mono HB5.out.size)).mono HB.out.size))
            clear hb6 HK HBD HB5 HR5 HS5
            cases hg : geS yn xn
            · have HGG := hid_in hg
              clear hg
              go_wp2_with fail
              go_roundw
              case rel =>
                go_light
                exact ⟨j + 2, by omega, by go_num, HB6, fun k hk z hz => by
                  rcases Nat.lt_or_ge k (j + 1) with hk1 | hk1
                  · exact hall.out k hk1 z hz
                  · obtain rfl : k = j + 1 := by omega
                    obtain rfl := Option.some.inj (HX.out.symm.trans hz)
                    refine ⟨HBB.out, fun _ y' hy' => ?_⟩
                    obtain rfl := Option.some.inj (HY.out.symm.trans hy')
                    rw [HYX.out.1, HYX.out.2]
                    exact HGG.out⟩
              case measure => simp [intOf]; omega
            · have HGG := hid_in hg
              clear hg
              go_wp2_with fail
              go_ret
              exact ⟨Says.no rfl (fun h => by
                have := (h.2 (j + 1) (by rw [Hn.out]; exact hlt) x HX.out).2 (by omega) y HY.out
                rw [HYX.out.1, HYX.out.2, HGG.out] at this
                cases this), HB6.out⟩
      · obtain rfl : i = n := by omega
        go_wp2_with fail
        go_ret
        exact ⟨Says.yes rfl ⟨by rw [Hn.out]; omega, fun j hj => hall.out j (by rw [← Hn.out]; exact hj)⟩, HB.out⟩
end Go.Proofs.YtamaejlbojbbeaaGreatDoor.Nd
