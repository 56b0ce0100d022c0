/-
  Loads of digests in regions that draw; find, Has, bytes.Equal.
-/
import Derived.Test.YtokjbmpiekadaaaDoorK2
import Derived.Test.YtokjbmpiekadaaaDoorA1
import Derived.Lib.Strings
import Derived.Deep.DrawnRows
namespace Go.Proofs.YtokjbmpiekadaaaDoor
open Go.RowKit

theorem str_toList (a : List Nat) : (str a).toList = a.map UInt8.ofNat := by rw [Lib.toList_data]; simp [str]
theorem str_eq {a b : List Nat} (ha : ∀ x ∈ a, x < 256) (hb : ∀ x ∈ b, x < 256) : ((str a).toList == (str b).toList) = decide (a = b) := by
  rw [Bool.eq_iff_iff, decide_eq_true_eq, beq_iff_eq, str_toList, str_toList]
  constructor
  · intro h; exact str_inj ha hb (by simp [str, h])
  · rintro rfl; rfl
theorem St.alloc {w : World} {g m n : Nat} {M : List Nat → Option (List Nat)} {q u : Int} (h : St w g m M n q u) (o : Obj) : St (w.alloc o) g m M n q u := h.below ((Below.refl _ _).alloc (Nat.le_refl _) _)
theorem St.drewN {w : World} {g m n : Nat} {M : List Nat → Option (List Nat)} {q u : Int} (h : St w g m M n q u) (k : Nat) : St (w.drewN k) g m M n q u := h.below (below_drewN (Below.refl _ _) k)

/-- block b holds one digest -/
def Is39 (w : World) (b : Nat) : Prop := ∃ V, Row w b V 39 ∧ V.length = 32
def rowOf (w : World) (b : Nat) : List Value := match w.heap[b]? with
  | some (.cells cs _ _) => cs.toList
  | _ => []
theorem rowOf_row {w : World} {b : Nat} {V : List Value} {t : TypeId} (h : Row w b V t) : rowOf w b = V := by
  unfold Row at h
  simp [rowOf, h]
theorem Is39_drewN (w : World) (b n : Nat) : Is39 (w.drewN n) b = Is39 w b := by simp [Is39, Row]
theorem rowOf_drewN (w : World) (b n : Nat) : rowOf (w.drewN n) b = rowOf w b := by simp [rowOf]
theorem Is39_drew (w : World) (b : Nat) : Is39 w.drew b = Is39 w b := rfl
theorem rowOf_drew (w : World) (b : Nat) : rowOf w.drew b = rowOf w b := rfl
def ptrB : Value → Nat
  | .pointer (some a) => a.block
  | _ => 0
theorem ptrB_pointer (a : Addr) : ptrB (.pointer (some a)) = a.block := rfl
theorem run_load39 {v : Value} {w : World} (h1 : v = .pointer (some ⟨ptrB v, 0, none⟩)) (h2 : Is39 w (ptrB v)) : (Instr.loadAt 39 v).run Tryd.prog w = .ok (.agg (rowOf w (ptrB v)).toArray) w := by
  obtain ⟨V, hr, hl⟩ := h2
  rw [rowOf_row hr]
  generalize ptrB v = b at h1 hr
  subst h1
  simp only [Instr.loadAt, Instr.sureAddr, Sem.run_bind, Sem.run_pure, Result.andThen_ok]
  exact run_loadVar_mid w b 0 39 V _ (fun j v hv => by rw [Nat.zero_add, hr.cell]; exact hv) Tryd.underlying39 rfl (by rw [info39, hl])
theorem quiet_load39 {W : World} {d : Option Tmp} {ty : TypeId} {ps : String} {af : Array Edge} {gd : Option (Nat × Bool)} {x : Operand} {a : Act} {K : Act → Prop} (h1 : a.eval x = .pointer (some ⟨ptrB (a.eval x), 0, none⟩)) (h2 : Is39 W (ptrB (a.eval x))) :
    Oper.quiet Tryd.prog { dst := d, op := Op.load 39 x, type := ty, pos := ps, after := af, guard := gd } a (fun w' => ∃ n, w' = W.drewN n) K = K (a.put d (.agg (rowOf W (ptrB (a.eval x))).toArray)) := by
  have hrun : ∀ n, (Instr.loadAt 39 (a.eval x)).run Tryd.prog (W.drewN n) = .ok (.agg (rowOf W (ptrB (a.eval x))).toArray) (W.drewN n) := fun n => by
    rw [run_load39 h1 (by rw [Is39_drewN]; exact h2), rowOf_drewN]
  generalize Value.agg (rowOf W (ptrB (a.eval x))).toArray = v at hrun
  have hat : ∀ n u, Oper.quietAt Tryd.prog { dst := d, op := Op.load 39 x, type := ty, pos := ps, after := af, guard := gd } a (fun w' => ∃ n, w' = W.drewN n) (W.drewN n) u ↔ v = u := by
    intro n u
    unfold Oper.quietAt execOp
    simp only [Sem.run_bind, hrun, Result.andThen_ok, Sem.run_pure, Oper.quietUpon, true_and]
  apply propext
  constructor
  · rintro ⟨u, h, hk⟩
    have := (hat 0 u).1 (h _ ⟨0, rfl⟩)
    rw [this]
    exact hk
  · intro hk
    exact ⟨v, fun w hw => by obtain ⟨n, rfl⟩ := hw; exact (hat n v).2 rfl, hk⟩
theorem wp_load39 {d : Option Tmp} {ty : TypeId} {ps : String} {af : Array Edge} {gd : Option (Nat × Bool)} {x : Operand} {a : Act} {w : World} {K : Act → World → Prop} {Q : Exit → Act → World → Prop} (h1 : a.eval x = .pointer (some ⟨ptrB (a.eval x), 0, none⟩)) (h2 : Is39 w (ptrB (a.eval x))) :
    Oper.wp Tryd.prog { dst := d, op := Op.load 39 x, type := ty, pos := ps, after := af, guard := gd } a w K Q = K (a.put d (.agg (rowOf w (ptrB (a.eval x))).toArray)) w := by
  have hrun := run_load39 h1 h2
  generalize Value.agg (rowOf w (ptrB (a.eval x))).toArray = v at hrun ⊢
  unfold Oper.wp execOp
  simp only [Sem.run_bind, hrun, Result.andThen_ok, Sem.run_pure]
  rfl
attribute [local go_sem ↓] run_load39 quiet_load39
attribute [local go_sem] Is39_drewN rowOf_drewN Is39_drew rowOf_drew ptrB_pointer

set_option maxHeartbeats 400000 in
theorem find_none {w : World} {g m n : Nat} {M : List Nat → Option (List Nat)} {q u : Int} (h : St w g m M n q u) (d : List Nat) (hd : d.length = 32) (V : List Value) (HV : Hid (V = d.map u8v)) (hM : M d = none) :
    Calls Tryd.prog 26 #[.pointer (some ⟨g, 0, none⟩), .agg V.toArray] w fun e w' => e = .returned (.tuple #[.slice none 0 0, .int .i64 50]) ∧ Below w.heap.size w w' := by
  have hs := h.alloc (.cells V.toArray 39)
  have hvl : V.length = 32 := by rw [HV.out]; simpa using hd
  have c0 : (w.alloc (.cells V.toArray 39)).cell? ⟨g, 0, none⟩ = some (.map (some m)) := hs.row.cell 0
  have hr := Row.newAt w _ V 39 rfl
  have hI : Is39 (w.alloc (.cells V.toArray 39)) w.heap.size := ⟨V, hr, hvl⟩
  have hR := rowOf_row hr
  have hl : ∀ k, (Instr.lookup 57 (.map (some m)) (.agg V.toArray) true).run Tryd.prog ((w.alloc (.cells V.toArray 39)).drewN k) = .ok (.tuple #[.slice none 0 0, .bool false]) ((w.alloc (.cells V.toArray 39)).drewN k) := by
    intro k
    obtain ⟨V', hV, h1, h2⟩ := (hs.drewN k).map
    have hl := hV.look 57 30 Tryd.underlying57 (.slice none 0 0) (by kernel_rfl) d hd
    rw [h2 d hM] at hl
    simpa only [Option.getD_none, Option.isSome_none, dv, ← HV.out] using hl
  clear h hM hs hd HV hr hvl
  go_enter Tryd.func26, Tryd.ntmps26
  go_wp2_with fail
  go_quiet (fail)
  go_wp2
  go_ret2
  exact ⟨rfl, below_drewN ((Below.refl _ _).alloc (Nat.le_refl _) _) _⟩
set_option maxHeartbeats 400000 in
theorem find_some {w : World} {g m n : Nat} {M : List Nat → Option (List Nat)} {q u : Int} (h : St w g m M n q u) (d : List Nat) (hd : d.length = 32) (V : List Value) (HV : Hid (V = d.map u8v)) (bs : List Nat) (hM : M d = some bs) :
    Calls Tryd.prog 26 #[.pointer (some ⟨g, 0, none⟩), .agg V.toArray] w fun e w' => Below w.heap.size w w' ∧ ∃ p cap b off, e = .returned (.tuple #[.slice p bs.length cap, .int .i64 0]) ∧ Sl w p bs cap b off ∧ (p = none → bs.length = 0 ∧ cap = 0) ∧ (0 < bs.length → b ≠ g ∧ b ≠ m ∧ T5 w b) := by
  have hs := h.alloc (.cells V.toArray 39)
  have hvl : V.length = 32 := by rw [HV.out]; simpa using hd
  have c0 : (w.alloc (.cells V.toArray 39)).cell? ⟨g, 0, none⟩ = some (.map (some m)) := hs.row.cell 0
  have hr := Row.newAt w _ V 39 rfl
  have hI : Is39 (w.alloc (.cells V.toArray 39)) w.heap.size := ⟨V, hr, hvl⟩
  have hR := rowOf_row hr
  obtain ⟨V', hV, h1, h2⟩ := h.map
  obtain ⟨v, hv, p, cap, b, off, rfl, hb⟩ := h1 d bs hM
  have hl : ∀ k, (Instr.lookup 57 (.map (some m)) (.agg V.toArray) true).run Tryd.prog ((w.alloc (.cells V.toArray 39)).drewN k) = .ok (.tuple #[.slice p bs.length cap, .bool true]) ((w.alloc (.cells V.toArray 39)).drewN k) := by
    intro k
    have hV2 : MapOk ((w.alloc (.cells V.toArray 39)).drewN k) m V' n := hV.of_block (by simp only [World.heap_drewN]; exact Below.heap_alloc _ _ _ hV.lt)
    have hl := hV2.look 57 30 Tryd.underlying57 (.slice none 0 0) (by kernel_rfl) d hd
    rw [hv] at hl
    simpa only [Option.getD_some, Option.isSome_some, dv, ← HV.out] using hl
  have HB := hid_in hb
  clear h hM hs hd HV hr hvl hV h1 h2 hv hb
  go_enter Tryd.func26, Tryd.ntmps26
  go_wp2_with fail
  go_quiet (fail)
  go_wp2
  go_ret2
  exact ⟨below_drewN ((Below.refl _ _).alloc (Nat.le_refl _) _) _, p, cap, b, off, rfl, HB.out⟩
set_option maxHeartbeats 400000 in
theorem has_any {w : World} {g m n : Nat} {M : List Nat → Option (List Nat)} {q u : Int} (h : St w g m M n q u) (d : List Nat) (hd : d.length = 32) (V : List Value) (HV : Hid (V = d.map u8v)) :
    Calls Tryd.prog 17 #[.pointer (some ⟨g, 0, none⟩), .agg V.toArray] w fun e w' => e = .returned (.bool (M d).isSome) ∧ Below w.heap.size w w' := by
  have hs := h.alloc (.cells V.toArray 39)
  have hvl : V.length = 32 := by rw [HV.out]; simpa using hd
  have hr := Row.newAt w _ V 39 rfl
  have hb0 : Below w.heap.size w (w.alloc (.cells V.toArray 39)) := (Below.refl _ _).alloc (Nat.le_refl _) _
  have HB0 := hid_in hb0
  cases hM : M d with
  | none =>
    have hf := find_none hs d hd V HV hM
    clear h hM hs hd HV hb0
    go_enter Tryd.func17, Tryd.ntmps17
    go_wp2_with (first | (refine wpList_load_Row rfl 39 _ rfl w.heap.size rfl 39 _ hr _ Tryd.underlying39 rfl 32 info39 hvl ?_) | (go_at_call 26; refine hf.mono ?_; rintro e w1 ⟨rfl, hb1⟩))
    go_ret
    exact ⟨rfl, HB0.out.trans (hb1.mono (by simp))⟩
  | some bs =>
    have hf := find_some hs d hd V HV bs hM
    clear h hM hs hd HV hb0
    go_enter Tryd.func17, Tryd.ntmps17
    go_wp2_with (first | (refine wpList_load_Row rfl 39 _ rfl w.heap.size rfl 39 _ hr _ Tryd.underlying39 rfl 32 info39 hvl ?_) | (go_at_call 26; refine hf.mono ?_; rintro e w1 ⟨hb1, p, cap, b, off, rfl, _⟩))
    go_ret
    exact ⟨rfl, HB0.out.trans (hb1.mono (by simp))⟩
set_option maxHeartbeats 400000 in
theorem equal_any {w : World} {p p' : Option Addr} {a b : List Nat} {cap cap' bl bl' off off' : Nat} (h1 : Sl w p a cap bl off) (h2 : Sl w p' b cap' bl' off') :
    Calls Tryd.prog 61 #[.slice p a.length cap, .slice p' b.length cap'] w fun e w' => e = .returned (.bool (decide (a = b))) ∧ w' = w := by
  have e1 := conv_sl h1
  have e2 := conv_sl h2
  have heq := str_eq h1.lt h2.lt
  generalize str a = A at e1 heq
  generalize str b = B at e2 heq
  have HE := hid_in heq
  clear heq h1 h2
  generalize decide (a = b) = t at *
  generalize a.length = la at *
  generalize b.length = lb at *
  go_enter Tryd.func61, Tryd.ntmps61
  go_wp2
  go_ret
  exact ⟨by rw [← HE.out]; rfl, rfl⟩
end Go.Proofs.YtokjbmpiekadaaaDoor
