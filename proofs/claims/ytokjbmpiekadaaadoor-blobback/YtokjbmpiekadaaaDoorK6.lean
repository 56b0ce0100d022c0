/-
  lay.
-/
import Derived.Test.YtokjbmpiekadaaaDoorK3
import Derived.Test.YtokjbmpiekadaaaDoorK5
namespace Go.Proofs.YtokjbmpiekadaaaDoor
open Go.RowKit
attribute [local go_sem ↓] run_load39 quiet_load39 wp_load39 Go.wp_at_zero Go.wp_at_succ
attribute [local go_sem] Is39_drewN rowOf_drewN Is39_drew rowOf_drew ptrB_pointer

theorem wp_world {P : Program} {c : Code} {Q : Exit → Act → World → Prop} {a : Act} {W W' : World} (h : W = W') (k : Code.wp P c Q a W') : Code.wp P c Q a W := h ▸ k
def updM (M : List Nat → Option (List Nat)) (d : List Nat) (bs : List Nat) : List Nat → Option (List Nat) := fun x => if x = d then some bs else M x
def delM (M : List Nat → Option (List Nat)) (d : List Nat) : List Nat → Option (List Nat) := fun x => if x = d then none else M x

theorem St.put {w : World} {g m n : Nat} {M : List Nat → Option (List Nat)} {q u : Int} (h : St w g m M n q u) (d : List Nat) (hd : d.length = 32) (V : List Value) (HV : Hid (V = d.map u8v)) (v : Value) (bs : List Nat) (hb : Bs w g m v bs) :
    ∃ w3, (Instr.mapUpdate 57 (.map (some m)) (.agg V.toArray) v).run Tryd.prog w = .ok () w3 ∧ St w3 g m (updM M d bs) (if (M d).isSome then n else n + 1) q u ∧ Kp g m w w3 := by
  have hne := h.ne
  obtain ⟨V', hV, h1, h2⟩ := h.map
  obtain ⟨w3, hrun, hV3, hg3, hs3⟩ := hV.store 57 30 Tryd.underlying57 d hd v
  have hk : Kp g m w w3 := Kp.of_m hg3
  have e1 : (V' d).isSome = (M d).isSome := by
    cases hM : M d with
    | none => rw [h2 d hM]; rfl
    | some x => obtain ⟨y, hy, _⟩ := h1 d x hM; rw [hy]; rfl
  rw [e1] at hV3
  refine ⟨w3, by rw [HV.out]; exact hrun, ⟨h.row.grown hg3 (fun e => hne (Option.some.inj e)), _, hV3, ?_, ?_⟩, hk⟩
  · intro d' x hx
    unfold updM at hx
    unfold upd
    by_cases hc : d' = d
    · rw [if_pos hc] at hx ⊢
      obtain rfl := Option.some.inj hx
      exact ⟨v, rfl, hb.kp hk⟩
    · rw [if_neg hc] at hx ⊢
      obtain ⟨y, hy, hby⟩ := h1 d' x hx
      exact ⟨y, hy, hby.kp hk⟩
  · intro d' hx
    unfold updM at hx
    unfold upd
    by_cases hc : d' = d
    · rw [if_pos hc] at hx; cases hx
    · rw [if_neg hc] at hx ⊢
      exact h2 d' hx
set_option maxHeartbeats 1000000 in
set_option maxRecDepth 100000 in
theorem lay_none {w : World} {g m n : Nat} {M : List Nat → Option (List Nat)} {q u : Int} (h : St w g m M n q u) (d : List Nat) (hd : d.length = 32) (V : List Value) (HV : Hid (V = d.map u8v)) (hM : M d = none)
    (bs : List Nat) (p : Option Addr) (cap b off : Nat) (hsl : Sl w p bs cap b off) (hpn : p = none → bs.length = 0 ∧ cap = 0) (hre : bs.length ≤ 140737488355328) :
    Calls Tryd.prog 49 #[.pointer (some ⟨g, 0, none⟩), .agg V.toArray, .slice p bs.length cap] w fun e w' => e = .returned (.tuple #[]) ∧ St w' g m (updM M d bs) (n + 1) q u ∧ Kp g m w w' := by
  have hs := h.alloc (.cells V.toArray 39)
  have hvl : V.length = 32 := by rw [HV.out]; simpa using hd
  have c0 : (w.alloc (.cells V.toArray 39)).cell? ⟨g, 0, none⟩ = some (.map (some m)) := hs.row.cell 0
  have hr := Row.newAt w _ V 39 rfl
  have hI : Is39 (w.alloc (.cells V.toArray 39)) w.heap.size := ⟨V, hr, hvl⟩
  have hR := rowOf_row hr
  have hl : ∀ k, (Instr.lookup 57 (.map (some m)) (.agg V.toArray) true).run Tryd.prog ((w.alloc (.cells V.toArray 39)).drewN k) = .ok (.tuple #[.slice none 0 0, .bool false]) ((w.alloc (.cells V.toArray 39)).drewN k) := by
    intro k
    obtain ⟨V', hV, h1, h2⟩ := (hs.drewN k).map
    have hl := hV.look 57 30 Tryd.underlying57 (.slice none 0 0) (by kernel_rfl) d hd
    rw [h2 d hM] at hl
    simpa only [Option.getD_none, Option.isSome_none, dv, ← HV.out] using hl
  have HM := hid_in hM
  have HS := hid_in hs
  have HD := hid_in hd
  have HR := hid_in hr
  have HVL := hid_in hvl
  clear h hM hs hd hr hvl
  go_enter Tryd.func49, Tryd.ntmps49
  go_wp2_with fail
  go_quiet (fail)
  go_wp2
  obtain ⟨W, HW⟩ : ∃ W, Hid ((w.alloc (.cells V.toArray 39)).drewN nq = W) := ⟨_, rfl⟩
  refine wp_world HW.out ?_
  have hsW : St W g m M n q u := by rw [← HW.out]; exact HS.out.drewN _
  have hrW : Row W w.heap.size V 39 := by rw [← HW.out]; exact HR.out.drewN _
  have hbW : Below w.heap.size w W := by rw [← HW.out]; exact below_drewN ((Below.refl _ _).alloc (Nat.le_refl _) _) _
  have hslW := hsl.kp (Kp.of_below (g := w.heap.size) (m := w.heap.size) hbW) (fun hj => by have := World.block_lt_of_cell? w _ (hsl.src 0 hj); simp only at this; omega)
  clear hsl hl hI hR c0 HS HR HW
  have c0 : W.cell? ⟨g, 0, none⟩ = some (.map (some m)) := hsW.row.cell 0
  have hI : Is39 W w.heap.size := ⟨V, hrW, HVL.out⟩
  have hR := rowOf_row hrW
  have HSW := hid_in hsW
  have HRW := hid_in hrW
  have HCL : Hid (∀ W1, (∃ k, W1 = W.drewN k) → _) := fun W1 hW1 => clone_any bs p cap b off W1 (by obtain ⟨k, rfl⟩ := hW1; exact hslW.below (below_drewN (Below.refl _ _) k)) hpn hre
  have HBW := hid_in hbW
  clear hsW hrW hslW hpn hre hbW
  go_region_with (first | (go_at_call 39; refine (HCL.out _ ⟨1, rfl⟩).mono ?_; rintro e w2 ⟨p', cap', b', rfl, hs2, hp2, hB2, hT2, hb2⟩; have hrw2 := (HRW.out.drewN 1).below hb2 (HRW.out.drewN 1).lt; have hI2 : Is39 w2 w.heap.size := ⟨V, hrw2, HVL.out⟩; have hR2 : rowOf w2 w.heap.size = V := rowOf_row hrw2; have hst2 := (HSW.out.drewN 1).below hb2; have c02 : w2.cell? ⟨g, 0, none⟩ = some (.map (some m)) := hst2.row.cell 0; obtain ⟨w3, hup, hst3, hk3⟩ := hst2.put d HD.out V HV (.slice p' bs.length cap') bs ⟨p', cap', b', 0, rfl, hs2, hp2, fun h0 => ⟨by have := (HSW.out.drewN 1).glt; omega, by have := (HSW.out.drewN 1).mlt; omega, hT2 h0⟩⟩; have HST3 := hid_in hst3; have HK3 := hid_in hk3; have HB2 := hid_in hb2; clear hs2 hp2 hB2 hT2 hb2 hst3 hk3 hst2 hrw2))
  all_goals
    go_wp2
    go_end0
    have h3 := HST3.out
    rw [HM.out] at h3
    exact ⟨rfl, h3, (Kp.of_below HBW.out).trans ((Kp.of_below (below_drewN (Below.refl _ _) 1)).trans ((Kp.of_below HB2.out).trans HK3.out))⟩
end Go.Proofs.YtokjbmpiekadaaaDoor
