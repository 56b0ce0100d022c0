/-
  lay. lay: a blob that is there. tooLong, IndexFunc, ContainsFunc: over a list of one. sums: over a list of one. need: over a list of one. put: over a list of one. Put. Put: what it answers, and the store behind it.
-/
import Derived.LoopN
import Derived.Test.YtamaejlbojbbeaaGreatDoorQ00
import Derived.Test.YtamaejlbojbbeaaGreatDoorQ01
import Derived.Test.YtamaejlbojbbeaaGreatDoorQ02
import Derived.Test.YtamaejlbojbbeaaGreatDoorQ03
namespace Go.Proofs.YtamaejlbojbbeaaGreatDoor.Sb
open Go.RowKit
attribute [local go_sem ↓] run_load39 quiet_load39 wp_load39 Go.wp_at_zero Go.wp_at_succ
attribute [local go_sem] Is39_drewN rowOf_drewN Is39_drew rowOf_drew ptrB_pointer
theorem wp_world {P : Program} {c : Code} {Q : Exit → Act → World → Prop} {a : Act} {W W' : World} (h : W = W') (k : Code.wp P c Q a W') : Code.wp P c Q a W := h ▸ k
def updM (M : List Nat → Option (List Nat)) (d : List Nat) (bs : List Nat) : List Nat → Option (List Nat) := fun x => if x = d then some bs else M x
theorem St.put {w : World} {g m n : Nat} {M : List Nat → Option (List Nat)} {q u : Int} (h : St w g m M n q u) (d : List Nat) (hd : d.length = 32) (V : List Value) (HV : Hid (V = d.map u8v)) (v : Value) (bs : List Nat) (hb : Bs w g m v bs) :
    ∃ w3, (Instr.mapUpdate 83 (.map (some m)) (.agg V.toArray) v).run Tryz.prog w = .ok () w3 ∧ St w3 g m (updM M d bs) (if (M d).isSome then n else n + 1) q u ∧ Kp g m w w3 := by
  have hne := h.ne
  obtain ⟨V', hV, h1, h2⟩ := h.map
  obtain ⟨w3, hrun, hV3, hg3, hs3⟩ := hV.store 83 51 Tryz.underlying83 d hd v
  have hk : Kp g m w w3 := Kp.of_m hg3
  have e1 : (V' d).isSome = (M d).isSome := by
    cases hM : M d with
    | none => rw [h2 d hM]; rfl
    | some x => obtain ⟨y, hy, _⟩ := h1 d x hM; rw [hy]; rfl
  rw [e1] at hV3
  refine ⟨w3, by rw [HV.out]; exact hrun, ⟨h.row.grown hg3 (fun e => hne (Option.some.inj e)), _, hV3, ?_, ?_⟩, hk⟩
  · intro d' x hx
    unfold updM at hx
    unfold upd
    by_cases hc : d' = d
    · rw [if_pos hc] at hx ⊢
      obtain rfl := Option.some.inj hx
      exact ⟨v, rfl, hb.kp hk⟩
    · rw [if_neg hc] at hx ⊢
      obtain ⟨y, hy, hby⟩ := h1 d' x hx
      exact ⟨y, hy, hby.kp hk⟩
  · intro d' hx
    unfold updM at hx
    unfold upd
    by_cases hc : d' = d
    · rw [if_pos hc] at hx; cases hx
    · rw [if_neg hc] at hx ⊢
      exact h2 d' hx
set_option maxHeartbeats 1000000 in
set_option maxRecDepth 100000 in
theorem lay_none {w : World} {g m n : Nat} {M : List Nat → Option (List Nat)} {q u : Int} (h : St w g m M n q u) (d : List Nat) (hd : d.length = 32) (V : List Value) (HV : Hid (V = d.map u8v)) (hM : M d = none)
    (bs : List Nat) (p : Option Addr) (cap b off : Nat) (hsl : Sl w p bs cap b off) (hpn : p = none → bs.length = 0 ∧ cap = 0) (hre : bs.length ≤ 140737488355328) :
    Calls Tryz.prog 118 #[.pointer (some ⟨g, 0, none⟩), .agg V.toArray, .slice p bs.length cap] w fun e w' => e = .returned (.tuple #[]) ∧ St w' g m (updM M d bs) (n + 1) q u ∧ Kp g m w w' := by
  have hs := h.alloc (.cells V.toArray 30)
  have hvl : V.length = 32 := by rw [HV.out]; simpa using hd
  have c0 : (w.alloc (.cells V.toArray 30)).cell? ⟨g, 0, none⟩ = some (.map (some m)) := hs.row.cell 0
  have hr := Row.newAt w _ V 30 rfl
  have hI : Is39 (w.alloc (.cells V.toArray 30)) w.heap.size := ⟨V, hr, hvl⟩
  have hR := rowOf_row hr
  have hl : ∀ k, (Instr.lookup 83 (.map (some m)) (.agg V.toArray) true).run Tryz.prog ((w.alloc (.cells V.toArray 30)).drewN k) = .ok (.tuple #[.slice none 0 0, .bool false]) ((w.alloc (.cells V.toArray 30)).drewN k) := by
    intro k
    obtain ⟨V', hV, h1, h2⟩ := (hs.drewN k).map
    have hl := hV.look 83 51 Tryz.underlying83 (.slice none 0 0) (by kernel_rfl) d hd
    rw [h2 d hM] at hl
    simpa only [Option.getD_none, Option.isSome_none, dv, ← HV.out] using hl
  have HM := hid_in hM
  have HS := hid_in hs
  have HD := hid_in hd
  have HR := hid_in hr
  have HVL := hid_in hvl
  clear h hM hs hd hr hvl
  go_enter Tryz.func118, Tryz.ntmps118
  go_wp2_with fail
  go_quiet (fail)
  go_wp2
  obtain ⟨W, HW⟩ : ∃ W, Hid ((w.alloc (.cells V.toArray 30)).drewN nq = W) := ⟨_, rfl⟩
  refine wp_world HW.out ?_
  have hsW : St W g m M n q u := by rw [← HW.out]; exact HS.out.drewN _
  have hrW : Row W w.heap.size V 30 := by rw [← HW.out]; exact HR.out.drewN _
  have hbW : Below w.heap.size w W := by rw [← HW.out]; exact below_drewN ((Below.refl _ _).alloc (Nat.le_refl _) _) _
  have hslW := hsl.kp (Kp.of_below (g := w.heap.size) (m := w.heap.size) hbW) (fun hj => by have := World.block_lt_of_cell? w _ (hsl.src 0 hj); simp only at this; omega)
  clear hsl hl hI hR c0 HS HR HW
  have c0 : W.cell? ⟨g, 0, none⟩ = some (.map (some m)) := hsW.row.cell 0
  have hI : Is39 W w.heap.size := ⟨V, hrW, HVL.out⟩
  have hR := rowOf_row hrW
  have HSW := hid_in hsW
  have HRW := hid_in hrW
  have HCL : Hid (∀ W1, (∃ k, W1 = W.drewN k) → _) := fun W1 hW1 => clone_any bs p cap b off W1 (by obtain ⟨k, rfl⟩ := hW1; exact hslW.below (below_drewN (Below.refl _ _) k)) hpn hre
  have HBW := hid_in hbW
  clear hsW hrW hslW hpn hre hbW
  go_region_with (first | (go_at_call 109; refine (HCL.out _ ⟨1, rfl⟩).mono ?_; rintro e w2 ⟨p', cap', b', rfl, hs2, hp2, hB2, hT2, hb2⟩; have hrw2 := (HRW.out.drewN 1).below hb2 (HRW.out.drewN 1).lt; have hI2 : Is39 w2 w.heap.size := ⟨V, hrw2, HVL.out⟩; have hR2 : rowOf w2 w.heap.size = V := rowOf_row hrw2; have hst2 := (HSW.out.drewN 1).below hb2; have c02 : w2.cell? ⟨g, 0, none⟩ = some (.map (some m)) := hst2.row.cell 0; obtain ⟨w3, hup, hst3, hk3⟩ := hst2.put d HD.out V HV (.slice p' bs.length cap') bs ⟨p', cap', b', 0, rfl, hs2, hp2, fun h0 => ⟨by have := (HSW.out.drewN 1).glt; omega, by have := (HSW.out.drewN 1).mlt; omega, hT2 h0⟩⟩; have HST3 := hid_in hst3; have HK3 := hid_in hk3; have HB2 := hid_in hb2; clear hs2 hp2 hB2 hT2 hb2 hst3 hk3 hst2 hrw2))
  all_goals
    go_wp2
    go_end0
    have h3 := HST3.out
    rw [HM.out] at h3
    exact ⟨rfl, h3, (Kp.of_below HBW.out).trans ((Kp.of_below (below_drewN (Below.refl _ _) 1)).trans ((Kp.of_below HB2.out).trans HK3.out))⟩
end Go.Proofs.YtamaejlbojbbeaaGreatDoor.Sb
namespace Go.Proofs.YtamaejlbojbbeaaGreatDoor.Sb
open Go.RowKit
attribute [local go_sem ↓] run_load39 quiet_load39 wp_load39 Go.wp_at_zero Go.wp_at_succ
attribute [local go_sem] Is39_drewN rowOf_drewN Is39_drew rowOf_drew ptrB_pointer
set_option maxHeartbeats 1000000 in
set_option maxRecDepth 100000 in
theorem lay_other {w : World} {g m n : Nat} {M : List Nat → Option (List Nat)} {q u : Int} (h : St w g m M n q u) (d : List Nat) (hd : d.length = 32) (V : List Value) (HV : Hid (V = d.map u8v)) (cs : List Nat) (hM : M d = some cs)
    (bs : List Nat) (hcs : cs ≠ bs) (p : Option Addr) (cap b off : Nat) (hsl : Sl w p bs cap b off) (hpn : p = none → bs.length = 0 ∧ cap = 0) (hre : bs.length ≤ 140737488355328) :
    Calls Tryz.prog 118 #[.pointer (some ⟨g, 0, none⟩), .agg V.toArray, .slice p bs.length cap] w fun e w' => e = .returned (.tuple #[]) ∧ St w' g m (updM M d bs) n q u ∧ Kp g m w w' := by
  have hs := h.alloc (.cells V.toArray 30)
  have hvl : V.length = 32 := by rw [HV.out]; simpa using hd
  have c0 : (w.alloc (.cells V.toArray 30)).cell? ⟨g, 0, none⟩ = some (.map (some m)) := hs.row.cell 0
  have hr := Row.newAt w _ V 30 rfl
  have hI : Is39 (w.alloc (.cells V.toArray 30)) w.heap.size := ⟨V, hr, hvl⟩
  have hR := rowOf_row hr
  obtain ⟨V', hV, h1, h2⟩ := h.map
  obtain ⟨v, hv, p0, cap0, b0, off0, rfl, hb1, hb2, hb3⟩ := h1 d cs hM
  have hl : ∀ k, (Instr.lookup 83 (.map (some m)) (.agg V.toArray) true).run Tryz.prog ((w.alloc (.cells V.toArray 30)).drewN k) = .ok (.tuple #[.slice p0 cs.length cap0, .bool true]) ((w.alloc (.cells V.toArray 30)).drewN k) := by
    intro k
    have hV2 : MapOk ((w.alloc (.cells V.toArray 30)).drewN k) m V' n := hV.of_block (by simp only [World.heap_drewN]; exact Below.heap_alloc _ _ _ hV.lt)
    have hl := hV2.look 83 51 Tryz.underlying83 (.slice none 0 0) (by kernel_rfl) d hd
    rw [hv] at hl
    simpa only [Option.getD_some, Option.isSome_some, dv, ← HV.out] using hl
  have hall : ∀ k, Below w.heap.size w ((w.alloc (.cells V.toArray 30)).drewN k) := fun k => below_drewN ((Below.refl _ _).alloc (Nat.le_refl _) _) k
  have HEQ : Hid (∀ k, Calls Tryz.prog 163 #[.slice p0 cs.length cap0, .slice p bs.length cap] ((w.alloc (.cells V.toArray 30)).drewN k) fun e w' => e = .returned (.bool false) ∧ w' = (w.alloc (.cells V.toArray 30)).drewN k) := fun k => by
    have := equal_any (hb1.below (hall k)) (hsl.below (hall k))
    rwa [decide_eq_false hcs] at this
  clear hcs
  clear hb1 hb2 hb3 hV h1 h2 hv hall
  have HST := hid_in h
  have HM := hid_in hM
  have HS := hid_in hs
  have HD := hid_in hd
  have HR := hid_in hr
  have HVL := hid_in hvl
  clear h hM hs hd hr hvl
  go_enter Tryz.func118, Tryz.ntmps118
  go_wp2_with fail
  go_quiet (fail)
  go_wp2_with (first | (go_at_call 163; refine (HEQ.out _).mono ?_; rintro e w1 ⟨rfl, rfl⟩))
  obtain ⟨W, HW⟩ : ∃ W, Hid ((w.alloc (.cells V.toArray 30)).drewN nq = W) := ⟨_, rfl⟩
  refine wp_world HW.out ?_
  have hsW : St W g m M n q u := by rw [← HW.out]; exact HS.out.drewN _
  have hrW : Row W w.heap.size V 30 := by rw [← HW.out]; exact HR.out.drewN _
  have hbW : Below w.heap.size w W := by rw [← HW.out]; exact below_drewN ((Below.refl _ _).alloc (Nat.le_refl _) _) _
  have hslW := hsl.kp (Kp.of_below (g := w.heap.size) (m := w.heap.size) hbW) (fun hj => by have := World.block_lt_of_cell? w _ (hsl.src 0 hj); simp only at this; omega)
  clear hsl hl hI hR c0 HS HR HW HEQ HST
  have c0 : W.cell? ⟨g, 0, none⟩ = some (.map (some m)) := hsW.row.cell 0
  have hI : Is39 W w.heap.size := ⟨V, hrW, HVL.out⟩
  have hR := rowOf_row hrW
  have HSW := hid_in hsW
  have HRW := hid_in hrW
  have HCL : Hid (∀ W1, (∃ k, W1 = W.drewN k) → _) := fun W1 hW1 => clone_any bs p cap b off W1 (by obtain ⟨k, rfl⟩ := hW1; exact hslW.below (below_drewN (Below.refl _ _) k)) hpn hre
  have HBW := hid_in hbW
  clear hsW hrW hslW hpn hre hbW
  go_region_with (first | (go_at_call 109; refine (HCL.out _ ⟨1, rfl⟩).mono ?_; rintro e w2 ⟨p', cap', b', rfl, hs2, hp2, hB2, hT2, hb2⟩; have hrw2 := (HRW.out.drewN 1).below hb2 (HRW.out.drewN 1).lt; have hI2 : Is39 w2 w.heap.size := ⟨V, hrw2, HVL.out⟩; have hR2 : rowOf w2 w.heap.size = V := rowOf_row hrw2; have hst2 := (HSW.out.drewN 1).below hb2; have c02 : w2.cell? ⟨g, 0, none⟩ = some (.map (some m)) := hst2.row.cell 0; obtain ⟨w3, hup, hst3, hk3⟩ := hst2.put d HD.out V HV (.slice p' bs.length cap') bs ⟨p', cap', b', 0, rfl, hs2, hp2, fun h0 => ⟨by have := (HSW.out.drewN 1).glt; omega, by have := (HSW.out.drewN 1).mlt; omega, hT2 h0⟩⟩; have HST3 := hid_in hst3; have HK3 := hid_in hk3; have HB2 := hid_in hb2; clear hs2 hp2 hB2 hT2 hb2 hst3 hk3 hst2 hrw2))
  all_goals
    go_wp2
    go_end0
    have h3 := HST3.out
    rw [HM.out] at h3
    exact ⟨rfl, h3, (Kp.of_below HBW.out).trans ((Kp.of_below (below_drewN (Below.refl _ _) 1)).trans ((Kp.of_below HB2.out).trans HK3.out))⟩
set_option maxHeartbeats 1000000 in
set_option maxRecDepth 100000 in
theorem lay_same {w : World} {g m n : Nat} {M : List Nat → Option (List Nat)} {q u : Int} (h : St w g m M n q u) (d : List Nat) (hd : d.length = 32) (V : List Value) (HV : Hid (V = d.map u8v)) 
    (bs : List Nat) (hM : M d = some bs) (p : Option Addr) (cap b off : Nat) (hsl : Sl w p bs cap b off) :
    Calls Tryz.prog 118 #[.pointer (some ⟨g, 0, none⟩), .agg V.toArray, .slice p bs.length cap] w fun e w' => e = .returned (.tuple #[]) ∧ St w' g m (updM M d bs) n q u ∧ Kp g m w w' := by
  have hs := h.alloc (.cells V.toArray 30)
  have hvl : V.length = 32 := by rw [HV.out]; simpa using hd
  have c0 : (w.alloc (.cells V.toArray 30)).cell? ⟨g, 0, none⟩ = some (.map (some m)) := hs.row.cell 0
  have hr := Row.newAt w _ V 30 rfl
  have hI : Is39 (w.alloc (.cells V.toArray 30)) w.heap.size := ⟨V, hr, hvl⟩
  have hR := rowOf_row hr
  obtain ⟨V', hV, h1, h2⟩ := h.map
  obtain ⟨v, hv, p0, cap0, b0, off0, rfl, hb1, hb2, hb3⟩ := h1 d bs hM
  have hl : ∀ k, (Instr.lookup 83 (.map (some m)) (.agg V.toArray) true).run Tryz.prog ((w.alloc (.cells V.toArray 30)).drewN k) = .ok (.tuple #[.slice p0 bs.length cap0, .bool true]) ((w.alloc (.cells V.toArray 30)).drewN k) := by
    intro k
    have hV2 : MapOk ((w.alloc (.cells V.toArray 30)).drewN k) m V' n := hV.of_block (by simp only [World.heap_drewN]; exact Below.heap_alloc _ _ _ hV.lt)
    have hl := hV2.look 83 51 Tryz.underlying83 (.slice none 0 0) (by kernel_rfl) d hd
    rw [hv] at hl
    simpa only [Option.getD_some, Option.isSome_some, dv, ← HV.out] using hl
  have hall : ∀ k, Below w.heap.size w ((w.alloc (.cells V.toArray 30)).drewN k) := fun k => below_drewN ((Below.refl _ _).alloc (Nat.le_refl _) _) k
  have HEQ : Hid (∀ k, Calls Tryz.prog 163 #[.slice p0 bs.length cap0, .slice p bs.length cap] ((w.alloc (.cells V.toArray 30)).drewN k) fun e w' => e = .returned (.bool true) ∧ w' = (w.alloc (.cells V.toArray 30)).drewN k) := fun k => by
    have := equal_any (hb1.below (hall k)) (hsl.below (hall k))
    rwa [decide_eq_true rfl] at this
  have HALL := hid_in hall
  clear hb1 hb2 hb3 hV h1 h2 hv hall
  have HST := hid_in h
  have HM := hid_in hM
  have HS := hid_in hs
  have HD := hid_in hd
  have HR := hid_in hr
  have HVL := hid_in hvl
  clear h hM hs hd hr hvl
  go_enter Tryz.func118, Tryz.ntmps118
  go_wp2_with fail
  clear hsl
  go_quiet (fail)
  go_wp2_with (first | (go_at_call 163; refine (HEQ.out _).mono ?_; rintro e w1 ⟨rfl, rfl⟩))
  go_end0
  refine ⟨rfl, ?_, Kp.of_below (HALL.out _)⟩
  have e1 : updM M d bs = M := by
    funext x
    unfold updM
    split
    · rename_i hx; rw [hx, HM.out]
    · rfl
  rw [e1]
  exact HST.out.below (HALL.out _)
theorem lay_any {w : World} {g m n : Nat} {M : List Nat → Option (List Nat)} {q u : Int} (h : St w g m M n q u) (d : List Nat) (hd : d.length = 32) (V : List Value) (HV : Hid (V = d.map u8v))
    (bs : List Nat) (p : Option Addr) (cap b off : Nat) (hsl : Sl w p bs cap b off) (hpn : p = none → bs.length = 0 ∧ cap = 0) (hre : bs.length ≤ 140737488355328) :
    Calls Tryz.prog 118 #[.pointer (some ⟨g, 0, none⟩), .agg V.toArray, .slice p bs.length cap] w fun e w' => e = .returned (.tuple #[]) ∧ St w' g m (updM M d bs) (if (M d).isSome then n else n + 1) q u ∧ Kp g m w w' := by
  cases hM : M d with
  | none => exact lay_none h d hd V HV hM bs p cap b off hsl hpn hre
  | some cs =>
    by_cases hc : cs = bs
    · subst hc; exact lay_same h d hd V HV cs hM p cap b off hsl
    · exact lay_other h d hd V HV cs hM bs hc p cap b off hsl hpn hre
end Go.Proofs.YtamaejlbojbbeaaGreatDoor.Sb
namespace Go.Proofs.YtamaejlbojbbeaaGreatDoor.Sb
open Go.RowKit
theorem long_any (p : Option Addr) (n c : Nat) (t : Bool) (ht : decide (4096 < n) = t) (w : World) : Calls Tryz.prog 115 #[.slice p n c] w fun e w' => e = .returned (.bool t) ∧ w' = w := by
  cases t with
  | true =>
    have h1 : (4096 : Int) < (n : Int) := by have := of_decide_eq_true ht; omega
    clear ht
    go_enter Tryz.func115, Tryz.ntmps115
    go_wp2
    go_ret
    exact ⟨rfl, rfl⟩
  | false =>
    have h1 : decide ((4096 : Int) < (n : Int)) = false := by have := of_decide_eq_false ht; simp; omega
    clear ht
    go_enter Tryz.func115, Tryz.ntmps115
    go_wp2
    go_ret
    exact ⟨rfl, rfl⟩
set_option maxHeartbeats 400000 in
theorem index_one (lb : Nat) (p : Option Addr) (n c : Nat) (t : Bool) (ht : decide (4096 < n) = t) (w : World) (c0 : w.cell? ⟨lb, 0, none⟩ = some (.slice p n c)) :
    Calls Tryz.prog 161 #[.slice (some ⟨lb, 0, none⟩) 1 1, .func (.func 115) #[] #[]] w fun e w' => e = .returned (.int .i64 (if t then 0 else -1)) ∧ w' = w := by
  have HT := hid_in ht
  clear ht
  cases t with
  | true =>
    go_enter Tryz.func161, Tryz.ntmps161
    go_wp2_with fail
    refine wp_loop_rounds 2 ?_
    rw [rounds_succ]
    go_wp2_with (go_at_call 115; refine (long_any p n c true HT.out _).mono ?_; rintro e w1 ⟨rfl, rfl⟩)
    go_ret
    exact ⟨rfl, rfl⟩
  | false =>
    go_enter Tryz.func161, Tryz.ntmps161
    go_wp2_with fail
    refine wp_loop_rounds 2 ?_
    rw [rounds_succ]
    go_wp2_with (go_at_call 115; refine (long_any p n c false HT.out _).mono ?_; rintro e w1 ⟨rfl, rfl⟩)
    rw [rounds_succ]
    go_wp2
    go_ret
    exact ⟨rfl, rfl⟩
theorem contains_one (lb : Nat) (p : Option Addr) (n c : Nat) (t : Bool) (ht : decide (4096 < n) = t) (w : World) (c0 : w.cell? ⟨lb, 0, none⟩ = some (.slice p n c)) :
    Calls Tryz.prog 114 #[.slice (some ⟨lb, 0, none⟩) 1 1, .func (.func 115) #[] #[]] w fun e w' => e = .returned (.bool t) ∧ w' = w := by
  have hi := index_one lb p n c t ht w c0
  clear ht c0
  cases t with
  | true =>
    go_enter Tryz.func114, Tryz.ntmps114
    go_wp2_with (go_at_call 161; refine hi.mono ?_; rintro e w1 ⟨rfl, rfl⟩)
    go_ret
    exact ⟨rfl, rfl⟩
  | false =>
    go_enter Tryz.func114, Tryz.ntmps114
    go_wp2_with (go_at_call 161; refine hi.mono ?_; rintro e w1 ⟨rfl, rfl⟩)
    go_ret
    exact ⟨rfl, rfl⟩
end Go.Proofs.YtamaejlbojbbeaaGreatDoor.Sb
namespace Go.Proofs.YtamaejlbojbbeaaGreatDoor.Sb
open Go.RowKit
theorem sum_length (bs : List Nat) : (Sha.sum bs).length = 32 := rfl
theorem sum_V (bs : List Nat) (V : List Value) (h : Hid (V = (Sha.sum bs).map u8v)) (p : Option Addr) (b off cap : Nat) (w : World) (htab : Tab w) (hs : Sl w p bs cap b off) (hsz : bs.length < 1152921504606846000) :
    Calls Tryz.prog 65 #[.slice p bs.length cap] w fun e w' => e = .returned (.agg V.toArray) ∧ Below w.heap.size w w' := by
  rw [h.out]; exact sum_any bs hs.lt p b off cap w htab hs.cap1 hs.cap2 hsz hs.at_ hs.src
theorem make72 (w : World) : (Instr.makeSlice 48 (.int .i64 1) (.int .i64 1)).run Tryz.prog w = .ok (.slice (some ⟨w.heap.size, 0, none⟩) 1 1) (w.alloc (.cells ((List.replicate 32 0).map u8v).toArray 30)) := by kernel_rfl
set_option maxHeartbeats 1000000 in
set_option maxRecDepth 100000 in
theorem sums_one (bs : List Nat) (V : List Value) (HV : Hid (V = (Sha.sum bs).map u8v)) (lb : Nat) (p : Option Addr) (b off cap : Nat) (w : World) (htab : Tab w) (hs : Sl w p bs cap b off) (hsz : bs.length < 1152921504606846000)
    (c0 : w.cell? ⟨lb, 0, none⟩ = some (.slice p bs.length cap)) : Calls Tryz.prog 116 #[.slice (some ⟨lb, 0, none⟩) 1 1] w fun e w' => e = .returned (.slice (some ⟨w.heap.size, 0, none⟩) 1 1) ∧ Row w' w.heap.size V 30 ∧ Below w.heap.size w w' := by
  have hlb := World.block_lt_of_cell? w _ c0
  have hmk := make72
  have hzl : ((List.replicate 32 0).map u8v).length = 32 := by simp
  generalize ((List.replicate 32 0).map u8v) = Z at hmk hzl
  have hb0 : Below w.heap.size w (w.alloc (.cells Z.toArray 30)) := (Below.refl _ _).alloc (Nat.le_refl _) _
  have hrz := Row.newAt w _ Z 30 rfl
  have HSUM := hid_in (sum_V bs V HV p b off cap _ (htab.below hb0 htab.pos) (hs.below hb0) hsz)
  have hvl : V.length = 32 := by rw [HV.out, List.length_map, sum_length]
  have hv1 : ∀ v ∈ V, v.oneCell' = true := by rw [HV.out]; exact one_u8 _
  have HB0 := hid_in hb0
  have HV1 := hid_in hv1
  have HVL := hid_in hvl
  have HZL := hid_in hzl
  have HRZ := hid_in hrz
  clear htab hs hb0 hsz hv1 hvl hzl hrz HV
  go_enter Tryz.func116, Tryz.ntmps116
  go_wp2_with fail
  refine wp_loop_rounds 2 ?_
  rw [rounds_succ]
  go_wp2_with (first | (go_at_call 65; refine HSUM.out.mono ?_; rintro e w1 ⟨rfl, hb1⟩; have hr1 := HRZ.out.below hb1 HRZ.out.lt; have HB1 := hid_in hb1; clear hb1) | (refine wpList_store_Row rfl 30 _ _ rfl w.heap.size 0 V rfl rfl 30 _ hr1 32 info39 HVL.out (by rw [HZL.out]; decide) HV1.out ?_; intro w7 hr7 hg7 hs7))
  rw [rounds_succ]
  go_wp2
  go_ret
  rw [splice_all _ _ (by rw [HVL.out, HZL.out])] at hr7
  exact ⟨rfl, hr7, below_of_grown (HB0.out.trans (HB1.out.mono (by simp))) hg7 (Nat.le_trans HB0.out.size HB1.out.size) (Nat.le_refl _)⟩
end Go.Proofs.YtamaejlbojbbeaaGreatDoor.Sb
namespace Go.Proofs.YtamaejlbojbbeaaGreatDoor.Sb
open Go.RowKit
attribute [local go_sem ↓] run_load39 quiet_load39 wp_load39 Go.wp_at_zero Go.wp_at_succ
attribute [local go_sem] Is39_drewN rowOf_drewN Is39_drew rowOf_drew ptrB_pointer
theorem zero39 : ∃ Z : List Value, (∀ w, (zeroValue 30).run Tryz.prog w = .ok (.agg Z.toArray) w) ∧ Z.length = 32 := ⟨(List.replicate 32 0).map u8v, fun w => by kernel_rfl, rfl⟩
theorem zero100 (w : World) : (zeroValue 151).run Tryz.prog w = .ok (.agg #[]) w := by kernel_rfl
set_option maxHeartbeats 1000000 in
set_option maxRecDepth 100000 in
theorem need_none {w : World} {g m n : Nat} {M : List Nat → Option (List Nat)} {q u : Int} (h : St w g m M n q u) (d : List Nat) (hd : d.length = 32) (V : List Value) (HV : Hid (V = d.map u8v)) (lb db : Nat) (hr : Row w db V 30)
    (p : Option Addr) (len cap : Nat) (c0 : w.cell? ⟨lb, 0, none⟩ = some (.slice p len cap)) (hlen : (len : Int) ≤ 4096) (hM : M d = none) :
    Calls Tryz.prog 117 #[.pointer (some ⟨g, 0, none⟩), .slice (some ⟨lb, 0, none⟩) 1 1, .slice (some ⟨db, 0, none⟩) 1 1] w fun e w' => e = .returned (.int .i64 (len : Int)) ∧ Below w.heap.size w w' := by
  have hvl : V.length = 32 := by rw [HV.out]; simpa using hd
  have hv1 : ∀ v ∈ V, v.oneCell' = true := by rw [HV.out]; exact one_u8 _
  have hm1 : ∀ w', (Instr.makeMap 150 none).run Tryz.prog w' = .ok (.map (some w'.heap.size)) (w'.alloc (.map #[] 0)) := fun w' => run_makeMap 150 w'
  obtain ⟨Z, hz, hzl⟩ := zero39
  have hlb := World.block_lt_of_cell? w _ c0
  have hdb := hr.lt
  have hV0 : MapOk (w.alloc (.map #[] 0)) w.heap.size (fun _ => none) 0 := MapOk.new w
  have hb0 : Below w.heap.size w (w.alloc (.map #[] 0)) := (Below.refl _ _).alloc (Nat.le_refl _) _
  have HV0 := hid_in hV0
  have HB0 := hid_in hb0
  have HD := hid_in hd
  have HST := hid_in h
  have HM := hid_in hM
  clear hV0 hb0 hd h hM
  go_enter Tryz.func117, Tryz.ntmps117
  go_wp2_with fail
  refine wp_loop_rounds 2 ?_
  rw [rounds_succ]
  go_wp2_with (first | (refine wpList_load_Row rfl 30 _ rfl db rfl 30 _ (hr.alloc _) _ Tryz.underlying30 rfl 32 info39 hvl ?_) | (refine wpList_store_Row rfl 30 _ _ rfl (w.heap.size + 1) 0 V rfl rfl 30 Z (Row.newAt (w.alloc _) _ Z 30 (by simp)) 32 info39 hvl (by omega) hv1 ?_; intro w7 hr7 hg7 hs7; rw [splice_all _ _ (by rw [hvl, hzl])] at hr7; have hb7 : Below w.heap.size w w7 := below_of_grown (HB0.out.alloc (by simp) _) hg7 (by simp; omega) (by omega); have hV7 : MapOk w7 w.heap.size (fun _ => none) 0 := HV0.out.of_block ((hg7.block _ (by simp; omega) (by simp)).trans (Below.heap_alloc _ _ _ (by simp))); have hl7 := hV7.look 150 151 Tryz.underlying150 (.agg #[]) (zero100 _) d HD.out; rw [dv, ← HV.out] at hl7; simp only [Option.getD_none, Option.isSome_none] at hl7; have c07 : w7.cell? ⟨lb, 0, none⟩ = some (.slice p len cap) := (hb7.cell (p := ⟨lb, 0, none⟩) hlb).trans c0; have HV7 := hid_in hV7; have HB7 := hid_in hb7; have HST7 := hid_in (HST.out.below hb7); clear hg7 hs7 hV7 hb7 hr hz hzl c0) | (refine wpList_load_Row rfl 30 _ rfl (w.heap.size + 1) rfl 30 _ hr7 _ Tryz.underlying30 rfl 32 info39 hvl ?_) | (refine wpList_load_RowG (by rfl) 30 _ rfl (w.heap.size + 1) rfl 30 _ (hr7.alloc _) _ Tryz.underlying30 rfl 32 info39 hvl ?_) | (go_at_call 162; refine (has_any (HST7.out.alloc _) d HD.out V HV).mono ?_; rw [HM.out]; rintro e w8 ⟨rfl, hb8⟩; have hb78 : Below w7.heap.size w7 w8 := ((Below.refl _ _).alloc (Nat.le_refl _) _).trans (hb8.mono (by simp)); have hr8 := hr7.below hb78 hr7.lt; obtain ⟨w9, hup, hV9, hg9, hs9⟩ := (HV7.out.of_block (hb78.block _ HV7.out.lt)).store 150 151 Tryz.underlying150 d HD.out (.agg #[]); rw [dv, ← HV.out] at hup; have c09 : w9.cell? ⟨lb, 0, none⟩ = some (.slice p len cap) := (hg9.cell (a := ⟨lb, 0, none⟩) ((hb78.cell (World.block_lt_of_cell? w7 _ c07)).trans c07) (by simp; omega)); have hb9 : Below w.heap.size w w9 := below_of_grown (HB7.out.trans (hb78.mono HB7.out.size)) hg9 (Nat.le_trans HB7.out.size hb78.size) (Nat.le_refl _); have HB9 := hid_in hb9; clear hb8 hb78 hV9 hg9 hs9 hb9 c07 hr7 hl7) | (refine wpList_load_Row rfl 30 _ rfl (w.heap.size + 1) rfl 30 _ hr8 _ Tryz.underlying30 rfl 32 info39 hvl ?_))
  rw [rounds_succ]
  go_wp2
  go_ret
  exact ⟨rfl, HB9.out⟩
set_option maxHeartbeats 1000000 in
set_option maxRecDepth 100000 in
theorem need_some {w : World} {g m n : Nat} {M : List Nat → Option (List Nat)} {q u : Int} (h : St w g m M n q u) (d : List Nat) (hd : d.length = 32) (V : List Value) (HV : Hid (V = d.map u8v)) (lb db : Nat) (hr : Row w db V 30)
    (p : Option Addr) (len cap : Nat) (c0 : w.cell? ⟨lb, 0, none⟩ = some (.slice p len cap)) (bs : List Nat) (hM : M d = some bs) :
    Calls Tryz.prog 117 #[.pointer (some ⟨g, 0, none⟩), .slice (some ⟨lb, 0, none⟩) 1 1, .slice (some ⟨db, 0, none⟩) 1 1] w fun e w' => e = .returned (.int .i64 0) ∧ Below w.heap.size w w' := by
  have hvl : V.length = 32 := by rw [HV.out]; simpa using hd
  have hv1 : ∀ v ∈ V, v.oneCell' = true := by rw [HV.out]; exact one_u8 _
  have hm1 : ∀ w', (Instr.makeMap 150 none).run Tryz.prog w' = .ok (.map (some w'.heap.size)) (w'.alloc (.map #[] 0)) := fun w' => run_makeMap 150 w'
  obtain ⟨Z, hz, hzl⟩ := zero39
  have hlb := World.block_lt_of_cell? w _ c0
  have hdb := hr.lt
  have hV0 : MapOk (w.alloc (.map #[] 0)) w.heap.size (fun _ => none) 0 := MapOk.new w
  have hb0 : Below w.heap.size w (w.alloc (.map #[] 0)) := (Below.refl _ _).alloc (Nat.le_refl _) _
  have HV0 := hid_in hV0
  have HB0 := hid_in hb0
  have HD := hid_in hd
  have HST := hid_in h
  have HM := hid_in hM
  clear hV0 hb0 hd h hM
  go_enter Tryz.func117, Tryz.ntmps117
  go_wp2_with fail
  refine wp_loop_rounds 2 ?_
  rw [rounds_succ]
  go_wp2_with (first | (refine wpList_load_Row rfl 30 _ rfl db rfl 30 _ (hr.alloc _) _ Tryz.underlying30 rfl 32 info39 hvl ?_) | (refine wpList_store_Row rfl 30 _ _ rfl (w.heap.size + 1) 0 V rfl rfl 30 Z (Row.newAt (w.alloc _) _ Z 30 (by simp)) 32 info39 hvl (by omega) hv1 ?_; intro w7 hr7 hg7 hs7; rw [splice_all _ _ (by rw [hvl, hzl])] at hr7; have hb7 : Below w.heap.size w w7 := below_of_grown (HB0.out.alloc (by simp) _) hg7 (by simp; omega) (by omega); have hV7 : MapOk w7 w.heap.size (fun _ => none) 0 := HV0.out.of_block ((hg7.block _ (by simp; omega) (by simp)).trans (Below.heap_alloc _ _ _ (by simp))); have hl7 := hV7.look 150 151 Tryz.underlying150 (.agg #[]) (zero100 _) d HD.out; rw [dv, ← HV.out] at hl7; simp only [Option.getD_none, Option.isSome_none] at hl7; have c07 : w7.cell? ⟨lb, 0, none⟩ = some (.slice p len cap) := (hb7.cell (p := ⟨lb, 0, none⟩) hlb).trans c0; have HV7 := hid_in hV7; have HB7 := hid_in hb7; have HST7 := hid_in (HST.out.below hb7); clear hg7 hs7 hV7 hb7 hr hz hzl c0) | (refine wpList_load_Row rfl 30 _ rfl (w.heap.size + 1) rfl 30 _ hr7 _ Tryz.underlying30 rfl 32 info39 hvl ?_) | (refine wpList_load_RowG (by rfl) 30 _ rfl (w.heap.size + 1) rfl 30 _ (hr7.alloc _) _ Tryz.underlying30 rfl 32 info39 hvl ?_) | (go_at_call 162; refine (has_any (HST7.out.alloc _) d HD.out V HV).mono ?_; rw [HM.out]; rintro e w8 ⟨rfl, hb8⟩; have hb78 : Below w7.heap.size w7 w8 := ((Below.refl _ _).alloc (Nat.le_refl _) _).trans (hb8.mono (by simp)); have HB9 := hid_in (HB7.out.trans (hb78.mono HB7.out.size)); clear hb8 hb78 c07 hr7 hl7))
  rw [rounds_succ]
  go_wp2
  go_ret
  exact ⟨rfl, HB9.out⟩
theorem need_any {w : World} {g m n : Nat} {M : List Nat → Option (List Nat)} {q u : Int} (h : St w g m M n q u) (d : List Nat) (hd : d.length = 32) (V : List Value) (HV : Hid (V = d.map u8v)) (lb db : Nat) (hr : Row w db V 30)
    (p : Option Addr) (len cap : Nat) (c0 : w.cell? ⟨lb, 0, none⟩ = some (.slice p len cap)) (hlen : (len : Int) ≤ 4096) :
    Calls Tryz.prog 117 #[.pointer (some ⟨g, 0, none⟩), .slice (some ⟨lb, 0, none⟩) 1 1, .slice (some ⟨db, 0, none⟩) 1 1] w fun e w' => e = .returned (.int .i64 (if (M d).isSome then 0 else (len : Int))) ∧ Below w.heap.size w w' := by
  cases hM : M d with
  | none => exact need_none h d hd V HV lb db hr p len cap c0 hlen hM
  | some bs => exact need_some h d hd V HV lb db hr p len cap c0 bs hM
end Go.Proofs.YtamaejlbojbbeaaGreatDoor.Sb
namespace Go.Proofs.YtamaejlbojbbeaaGreatDoor.Sb
open Go.RowKit
attribute [local go_sem ↓] run_load39 quiet_load39 wp_load39 Go.wp_at_zero Go.wp_at_succ
attribute [local go_sem] Is39_drewN rowOf_drewN Is39_drew rowOf_drew ptrB_pointer
theorem St.setU {w : World} {g m n : Nat} {M : List Nat → Option (List Nat)} {q u : Int} (h : St w g m M n q u) (u' : Int) : St (w.setCell ⟨g, 2, none⟩ (.int .i64 u')) g m M n q u' := by
  have hne := h.ne
  refine ⟨h.row.set_same 2 _, ?_⟩
  obtain ⟨V, hV, h1, h2⟩ := h.map
  refine ⟨V, hV.of_block (Below.heap_setCell _ _ _ _ (fun e => hne e.symm)), fun d bs hd => ?_, h2⟩
  obtain ⟨v, hv, hb⟩ := h1 d bs hd
  exact ⟨v, hv, hb.kp (Kp.of_g (grownBy_setCell w ⟨g, 2, none⟩ _))⟩
theorem Sl.off_st {w : World} {g m n : Nat} {M : List Nat → Option (List Nat)} {q u : Int} (h : St w g m M n q u) {p : Option Addr} {bs : List Nat} {cap b off : Nat} (hs : Sl w p bs cap b off) (h0 : 0 < bs.length) : b ≠ g ∧ b ≠ m := by
  have hc := hs.src 0 h0
  constructor
  · rintro rfl
    rw [h.row.cell] at hc
    have hlt : off + 0 < 3 := by
      have := (List.getElem?_eq_some_iff.1 hc).1
      simpa using this
    rcases (show off = 0 ∨ off = 1 ∨ off = 2 by omega) with rfl | rfl | rfl <;> simp [u8v] at hc
  · rintro rfl
    obtain ⟨V, ⟨es, c, hb, _⟩, _⟩ := h.map
    simp [World.cell?, hb] at hc
set_option maxHeartbeats 1000000 in
set_option maxRecDepth 100000 in
theorem put_ok {w : World} {g m n : Nat} {M : List Nat → Option (List Nat)} {q u : Int} (h : St w g m M n q u) (htab : Tab w) (bs : List Nat) (V : List Value) (HV : Hid (V = (Sha.sum bs).map u8v)) (lb : Nat) (p : Option Addr) (b off cap : Nat)
    (hs : Sl w p bs cap b off) (hpn : p = none → bs.length = 0 ∧ cap = 0) (c0 : w.cell? ⟨lb, 0, none⟩ = some (.slice p bs.length cap)) (hl : bs.length ≤ 4096) (hu0 : 0 ≤ u) (huq : u ≤ q) (hq : q ≤ 9223372036854775807)
    (N : Int) (HN : Hid (N = if (M (Sha.sum bs)).isSome then 0 else (bs.length : Int))) (hfull : N ≤ q - u) (hN0 : 0 ≤ N) (n' : Nat) (HN' : Hid (n' = if (M (Sha.sum bs)).isSome then n else n + 1)) :
    Calls Tryz.prog 59 #[.pointer (some ⟨g, 0, none⟩), .slice (some ⟨lb, 0, none⟩) 1 1] w fun e w' => e = .returned (.tuple #[.slice (some ⟨w.heap.size, 0, none⟩) 1 1, .int .i64 0]) ∧ Row w' w.heap.size V 30 ∧ St w' g m (updM M (Sha.sum bs) bs) n' q (u + N) ∧ Kp g m w w' := by
  have hc := hid_in (contains_one lb p bs.length cap false (decide_eq_false (by omega)) w c0)
  have HSUM := hid_in (sums_one bs V HV lb p b off cap w htab hs (by omega) c0)
  have HNEED : Hid (∀ w1, Below w.heap.size w w1 → Row w1 w.heap.size V 30 → Calls Tryz.prog 117 #[.pointer (some ⟨g, 0, none⟩), .slice (some ⟨lb, 0, none⟩) 1 1, .slice (some ⟨w.heap.size, 0, none⟩) 1 1] w1 fun e w' => e = .returned (.int .i64 N) ∧ Below w1.heap.size w1 w' ∧ w'.cell? ⟨g, 1, none⟩ = some (.int .i64 q) ∧ w'.cell? ⟨g, 2, none⟩ = some (.int .i64 u)) := by
    intro w1 hb1 hr1
    refine (need_any (h.below hb1) (Sha.sum bs) (sum_length bs) V HV lb w.heap.size hr1 p bs.length cap ((hb1.cell (p := ⟨lb, 0, none⟩) (World.block_lt_of_cell? w _ c0)).trans c0) (by omega)).mono ?_
    rintro e w2 ⟨rfl, hb2⟩
    have h2 := (h.below hb1).below hb2
    exact ⟨by rw [HN.out], hb2, h2.row.cell 1, h2.row.cell 2⟩
  have hvl : V.length = 32 := by rw [HV.out, List.length_map, sum_length]
  have hv1 : ∀ v ∈ V, v.oneCell' = true := by rw [HV.out]; exact one_u8 _
  have HVL := hid_in hvl
  have HV1 := hid_in hv1
  obtain ⟨Z, hz, hzl⟩ := zero39
  have HZL := hid_in hzl
  have HST := hid_in h
  have HS := hid_in hs
  have HPN := hid_in hpn
  have HC0 := hid_in c0
  have HL := hid_in hl
  clear h htab hs c0 hl HN hpn hvl hv1 hzl
  go_enter Tryz.func59, Tryz.ntmps59
  go_wp2_with (first | (go_at_call 114; refine hc.out.mono ?_; rintro e w1 ⟨rfl, hw⟩; obtain rfl := hw.symm) | (go_at_call 116; refine HSUM.out.mono ?_; rintro e w1 ⟨rfl, hr1, hb1⟩) | (go_at_call 117; refine (HNEED.out _ hb1 hr1).mono ?_; rintro e w2 ⟨rfl, hb2, c1, c2⟩))
  go_quiet (fail)
  obtain ⟨W, HW⟩ : ∃ W, Hid (w2.drewN nq = W) := ⟨_, rfl⟩
  have hbW : Below w.heap.size w W := by rw [← HW.out]; exact below_drewN (hb1.trans (hb2.mono hb1.size)) _
  have hrW : Row W w.heap.size V 30 := by rw [← HW.out]; exact (hr1.below hb2 hr1.lt).drewN _
  go_wp2
  refine wp_world HW.out ?_
  clear hc HSUM HNEED HW hr1 hb1 hb2 c1 c2
  refine wp_loop_rounds 2 ?_
  rw [rounds_succ]
  have HBW := hid_in hbW
  clear hbW
  go_wp2_with (first | (refine wpList_load_Row rfl 30 _ rfl w.heap.size rfl 30 _ hrW _ Tryz.underlying30 rfl 32 info39 HVL.out ?_) | (refine wpList_store_Row rfl 30 _ _ rfl W.heap.size 0 V rfl rfl 30 Z (Row.newAt W _ Z 30 rfl) 32 info39 HVL.out (by rw [HZL.out]; decide) HV1.out ?_; intro w7 hr7 hg7 hs7; rw [splice_all _ _ (by rw [HVL.out, HZL.out])] at hr7))
  have hbW7 : Below W.heap.size W w7 := below_of_grown ((Below.refl _ _).alloc (Nat.le_refl _) _) hg7 (by simp) (Nat.le_refl _)
  have hb7 : Below w.heap.size w w7 := HBW.out.trans (hbW7.mono HBW.out.size)
  have hI : Is39 w7 W.heap.size := ⟨V, hr7, HVL.out⟩
  have hR := rowOf_row hr7
  have c07 : w7.cell? ⟨lb, 0, none⟩ = some (.slice p bs.length cap) := (hb7.cell (p := ⟨lb, 0, none⟩) (World.block_lt_of_cell? w _ HC0.out)).trans HC0.out
  have HLAY := hid_in (lay_any ((HST.out.below hb7).drewN 1) (Sha.sum bs) (sum_length bs) V HV bs p cap b off ((HS.out.below hb7).below (below_drewN (Below.refl _ _) 1)) HPN.out (by have := HL.out; omega))
  rw [← HN'.out] at HLAY
  have HR0 := hid_in (hrW.below hbW7 hrW.lt)
  have HB7 := hid_in hb7
  have HLT := hid_in (show w.heap.size ≠ g ∧ w.heap.size ≠ m by have := HST.out.glt; have := HST.out.mlt; omega)
  clear hbW7 hb7 hr7 hg7 hs7 hrW hz HS HPN HC0 HL HV1 HZL HST
  go_region_with (first | (go_at_call 118; refine HLAY.out.mono ?_; rintro e w8 ⟨rfl, hst8, hk8⟩; have HST8 := hid_in hst8; have HK8 := hid_in hk8; have c2 : w8.cell? ⟨g, 2, none⟩ = some (.int .i64 u) := hst8.row.cell 2; have f2 : w8.frozen? ⟨g, 2, none⟩ = false := hst8.row.frozen 2; clear hst8 hk8))
  all_goals
    go_wp2
    rw [rounds_succ]
    go_wp2
    go_ret2
    have hk : Kp g m w w8 := (Kp.of_below HB7.out).trans ((Kp.of_below (below_drewN (Below.refl _ _) 1)).trans HK8.out)
    have hkg := Kp.of_g (g := g) (m := m) (grownBy_setCell w8 ⟨g, 2, none⟩ (.int .i64 (u + N)))
    exact ⟨rfl, hkg.row (HK8.out.row (HR0.out.drewN 1) HLT.out.1 HLT.out.2) HLT.out.1 HLT.out.2, HST8.out.setU _, hk.trans hkg⟩
end Go.Proofs.YtamaejlbojbbeaaGreatDoor.Sb
namespace Go.Proofs.YtamaejlbojbbeaaGreatDoor.Sb
open Go.RowKit
theorem post_Row2 {P : Program} {fn : Func} {R : Ending → World → Prop} {a : Act} {w : World} (p u : Tmp) (ty : TypeId) (hf : fn.results = #[.cell p ty, .tmp u]) (g : Nat) (hp : a.tmps.getD p undef = .pointer (some ⟨g, 0, none⟩))
    (t : TypeId) (vs : List Value) (hr : Row w g vs t) (d : TypeDesc) (hu : P.underlying ty = some d) (hd : (match d with | .struct _ | .array _ _ => true | _ => false) = true) (n : Nat) (hi : (P.info? ty).map (·.size) = some n) (hn : vs.length = n)
    (hdf : a.defers = []) (h : R (.returned (.tuple #[.agg vs.toArray, a.tmps.getD u undef])) w) : bodyPost P fn R .ret a w := by
  refine bodyPost_ret ?_ hdf h
  rw [results_cell_tmp hf, hp]
  have hl := run_loadVar_row (P := P) w g t ty vs.toArray (0, 0) d hr hu hd (by rw [hi]; simp [hn])
  simp [asAddr, hl]
theorem zero39n : (∀ w, (zeroValue 30).run Tryz.prog w = .ok (.agg ((List.replicate 32 0).map u8v).toArray) w) := fun w => by kernel_rfl
/-- the world in which Put calls put -/
def pre (w : World) (Z : List Value) (v : Value) : World := (w.alloc (.cells Z.toArray 30)).alloc (.cells #[v] 51)
theorem pre_below (w : World) (Z : List Value) (v : Value) : Below w.heap.size w (pre w Z v) := ((Below.refl _ _).alloc (Nat.le_refl _) _).alloc (by simp) _
theorem pre_size (w : World) (Z : List Value) (v : Value) : (pre w Z v).heap.size = w.heap.size + 2 := by simp [pre]
theorem pre_cell (w : World) (Z : List Value) (v : Value) : (pre w Z v).cell? ⟨w.heap.size + 1, 0, none⟩ = some v := (Row.newAt (w.alloc _) (w.heap.size + 1) [v] 51 (by simp)).cell 0
theorem pre_row (w : World) (Z : List Value) (v : Value) : Row (pre w Z v) w.heap.size Z 30 := (Row.newAt w _ Z 30 rfl).alloc _
set_option maxHeartbeats 1000000 in
set_option maxRecDepth 100000 in
theorem Put_fine (w : World) (g : Nat) (p : Option Addr) (len cap : Nat) (Z V : List Value) (HZ : Hid (Z = (List.replicate 32 0).map u8v)) (HVL : Hid (V.length = 32)) (HV1 : Hid (∀ v ∈ V, v.oneCell' = true)) (R : World → Prop)
    (HP : Hid (Calls Tryz.prog 59 #[.pointer (some ⟨g, 0, none⟩), .slice (some ⟨w.heap.size + 1, 0, none⟩) 1 1] (pre w Z (.slice p len cap)) fun e w' => e = .returned (.tuple #[.slice (some ⟨(pre w Z (.slice p len cap)).heap.size, 0, none⟩) 1 1, .int .i64 0]) ∧ Row w' (pre w Z (.slice p len cap)).heap.size V 30 ∧ Row w' w.heap.size Z 30 ∧ R w')) :
    Calls Tryz.prog 21 #[.pointer (some ⟨g, 0, none⟩), .slice p len cap] w fun e w' => e = .returned (.tuple #[.agg V.toArray, .int .i64 0]) ∧ ∃ w1, R w1 ∧ w1.grownBy w' (some w.heap.size) := by
  have hz := zero39n
  rw [← HZ.out] at hz
  have HZL := hid_in (show Z.length = 32 by rw [HZ.out]; rfl)
  have HP2 := HP.out
  rw [pre_size] at HP2
  have HP3 := hid_in HP2
  clear HP HP2
  go_enter Tryz.func21, Tryz.ntmps21
  go_wp2_with (first | (go_at_call 59; refine HP3.out.mono ?_; rintro e w1 ⟨rfl, hr2, hr1, hR⟩; have HR := hid_in hR; clear hR HP3) | (refine wpList_load_Row rfl 30 _ rfl (w.heap.size + 2) rfl 30 _ hr2 _ Tryz.underlying30 rfl 32 info39 HVL.out ?_) | (refine wpList_store_Row rfl 30 _ _ rfl w.heap.size 0 V rfl rfl 30 _ hr1 32 info39 HVL.out (by rw [HZL.out]; decide) HV1.out ?_; intro w3 hr4 hg4 hs4))
  rw [splice_all _ _ (by rw [HVL.out, HZL.out])] at hr4
  refine post_Row2 4 5 30 Tryz.results21 w.heap.size rfl 30 _ hr4 _ Tryz.underlying30 rfl 32 info39 HVL.out rfl ⟨rfl, w1, HR.out, hg4⟩
end Go.Proofs.YtamaejlbojbbeaaGreatDoor.Sb
namespace Go.Proofs.YtamaejlbojbbeaaGreatDoor.Sb
open Go.RowKit
theorem zeros_hid : ∃ Z : List Value, Hid (Z = (List.replicate 32 0).map u8v) := ⟨_, rfl⟩
theorem Sl.pre {w : World} {p : Option Addr} {bs : List Nat} {cap b off : Nat} (h : Sl w p bs cap b off) (Z : List Value) (v : Value) : Sl (Go.Proofs.YtamaejlbojbbeaaGreatDoor.Sb.pre w Z v) p bs cap b off := h.below (pre_below w Z v)
/-- a digest is stored into a block that was just laid -/
theorem wpList_store_new {ops : Array Oper} {rest : List Oper} {op : Oper} {a : Act} {w : World} {Q : Exit → Act → World → Prop} (hgd : op.guard = none) (x y : Operand) (ho : op.op = .store 30 x y) (Z V : List Value) (hZ : Hid (Z.length = 32)) (hV : Hid (V.length = 32)) (h1 : Hid (∀ v ∈ V, v.oneCell' = true))
    (hx : a.eval x = .pointer (some ⟨w.heap.size, 0, none⟩)) (hy : a.eval y = .agg V.toArray) (h : ∀ w', Row w' w.heap.size V 30 → Below w.heap.size w w' → wpList Tryz.prog ops Q rest (a.put op.dst undef) w') : wpList Tryz.prog ops Q (op :: rest) a (w.alloc (.cells Z.toArray 30)) := by
  refine wpList_store_Row hgd 30 x y ho w.heap.size 0 V hx hy 30 Z (Row.newAt w _ Z 30 rfl) 32 info39 hV.out (by rw [hZ.out]; decide) h1.out ?_
  intro w' hr hg hs
  rw [splice_all _ _ (by rw [hV.out, hZ.out])] at hr
  exact h w' hr (below_of_grown ((Below.refl _ _).alloc (Nat.le_refl _) _) hg (by simp) (Nat.le_refl _))
theorem Put_ok {w : World} {g m n : Nat} {M : List Nat → Option (List Nat)} {q u : Int} (h : St w g m M n q u) (htab : Tab w) (bs : List Nat) (V : List Value) (HV : Hid (V = (Sha.sum bs).map u8v)) (p : Option Addr) (b off cap : Nat)
    (hs : Sl w p bs cap b off) (hpn : p = none → bs.length = 0 ∧ cap = 0) (hl : bs.length ≤ 4096) (hu0 : 0 ≤ u) (huq : u ≤ q) (hq : q ≤ 9223372036854775807)
    (N : Int) (HN : Hid (N = if (M (Sha.sum bs)).isSome then 0 else (bs.length : Int))) (hfull : N ≤ q - u) (n' : Nat) (HN' : Hid (n' = if (M (Sha.sum bs)).isSome then n else n + 1)) :
    Calls Tryz.prog 21 #[.pointer (some ⟨g, 0, none⟩), .slice p bs.length cap] w fun e w' => e = .returned (.tuple #[.agg V.toArray, .int .i64 0]) ∧ St w' g m (updM M (Sha.sum bs) bs) n' q (u + N) ∧ Kp g m w w' := by
  obtain ⟨Z, HZ⟩ := zeros_hid
  have hN0 : 0 ≤ N := by rw [HN.out]; split <;> omega
  have hP := put_ok (h.below (pre_below w Z (.slice p bs.length cap))) (htab.below (pre_below w Z _) htab.pos) bs V HV (w.heap.size + 1) p b off cap (hs.pre Z _) hpn (pre_cell w Z _) hl hu0 huq hq N HN hfull hN0 n' HN'
  have hgl := h.glt
  have hml := h.mlt
  refine (Put_fine w g p bs.length cap Z V HZ (by show V.length = 32; rw [HV.out, List.length_map, sum_length]) (by show ∀ v ∈ V, _; rw [HV.out]; exact one_u8 _) (fun w1 => St w1 g m (updM M (Sha.sum bs) bs) n' q (u + N) ∧ Kp g m (pre w Z (.slice p bs.length cap)) w1 ∧ Row w1 w.heap.size Z 30) ?_).mono ?_
  · refine hP.mono ?_
    rintro e w1 ⟨rfl, hr, hst, hk⟩
    have hz := hk.row (pre_row w Z _) (by omega) (by omega)
    exact ⟨rfl, hr, hz, hst, hk, hz⟩
  · rintro e w' ⟨rfl, w1, ⟨hst, hk, hz⟩, hg⟩
    have k1 : Kp g m w w1 := (Kp.of_below (pre_below w Z _)).trans hk
    exact ⟨rfl, hst.grown39 hz hg, hg.os.trans k1.os, hg.tape.trans k1.tape, hg.output.trans k1.output, Nat.le_trans k1.size hg.size, fun k hk1 h1 h2 => (hg.block k (Nat.lt_of_lt_of_le hk1 k1.size) (by simp; omega)).trans (k1.block k hk1 h1 h2)⟩
end Go.Proofs.YtamaejlbojbbeaaGreatDoor.Sb
