/-
  Drop.
-/
import Derived.Test.YtokjbmpiekadaaaDoorK11
namespace Go.Proofs.YtokjbmpiekadaaaDoor
open Go.RowKit
attribute [local go_sem ↓] run_load39 quiet_load39 wp_load39 Go.wp_at_zero Go.wp_at_succ
attribute [local go_sem] Is39_drewN rowOf_drewN Is39_drew rowOf_drew ptrB_pointer

theorem St.drop {w : World} {g m n : Nat} {M : List Nat → Option (List Nat)} {q u : Int} (h : St w g m M n q u) (d : List Nat) (hd : d.length = 32) (V : List Value) (HV : Hid (V = d.map u8v)) (bs : List Nat) (hM : M d = some bs) (ty : TypeId) :
    ∃ w3, (Builtin.delete_ #[57, 39] ty #[.map (some m), .agg V.toArray]).run Tryd.prog w = .ok (.tuple #[]) w3 ∧ St w3 g m (delM M d) (n - 1) q u ∧ Kp g m w w3 := by
  have hne := h.ne
  obtain ⟨V', hV, h1, h2⟩ := h.map
  have hsome : (V' d).isSome = true := by obtain ⟨y, hy, _⟩ := h1 d bs hM; rw [hy]; rfl
  obtain ⟨w3, hrun, hV3, hg3, hs3⟩ := hV.drop 57 30 Tryd.underlying57 d hd hsome ty
  have hk : Kp g m w w3 := Kp.of_m hg3
  refine ⟨w3, by rw [HV.out]; exact hrun, ⟨h.row.grown hg3 (fun e => hne (Option.some.inj e)), _, hV3, ?_, ?_⟩, hk⟩
  · intro d' x hx
    unfold delM at hx
    unfold del
    by_cases hc : d' = d
    · rw [if_pos hc] at hx; cases hx
    · rw [if_neg hc] at hx ⊢
      obtain ⟨y, hy, hby⟩ := h1 d' x hx
      exact ⟨y, hy, hby.kp hk⟩
  · intro d' hx
    unfold delM at hx
    unfold del
    by_cases hc : d' = d
    · rw [if_pos hc]
    · rw [if_neg hc] at hx ⊢
      exact h2 d' hx
set_option maxHeartbeats 1000000 in
set_option maxRecDepth 100000 in
theorem Drop_ok {w : World} {g m n : Nat} {M : List Nat → Option (List Nat)} {q u : Int} (h : St w g m M n q u) (d : List Nat) (hd : d.length = 32) (V : List Value) (HV : Hid (V = d.map u8v)) (bs : List Nat) (hM : M d = some bs)
    (hu0 : (bs.length : Int) ≤ u) (hq : u ≤ 9223372036854775807) :
    Calls Tryd.prog 13 #[.pointer (some ⟨g, 0, none⟩), .agg V.toArray] w fun e w' => e = .returned (.int .i64 0) ∧ St w' g m (delM M d) (n - 1) q (u - bs.length) ∧ Kp g m w w' := by
  have hs := h.alloc (.cells V.toArray 39)
  have hvl : V.length = 32 := by rw [HV.out]; simpa using hd
  have hr := Row.newAt w _ V 39 rfl
  have hb0 : Below w.heap.size w (w.alloc (.cells V.toArray 39)) := (Below.refl _ _).alloc (Nat.le_refl _) _
  have HB0 := hid_in hb0
  have hf := find_some hs d hd V HV bs hM
  have HS := hid_in hs
  have HD := hid_in hd
  have HM := hid_in hM
  clear h hM hs hd hb0
  go_enter Tryd.func13, Tryd.ntmps13
  go_wp2_with (first | (refine wpList_load_Row rfl 39 _ rfl w.heap.size rfl 39 _ hr _ Tryd.underlying39 rfl 32 info39 hvl ?_) | (go_at_call 26; refine hf.mono ?_; rintro e w1 ⟨hb1, p, cap, b, off, rfl, hs1, hp1, hn1⟩; clear hs1 hp1 hn1))
  have hst1 := HS.out.below hb1
  have hr1 := hr.below hb1 hr.lt
  have c0 : w1.cell? ⟨g, 0, none⟩ = some (.map (some m)) := hst1.row.cell 0
  have hI : Is39 w1 w.heap.size := ⟨V, hr1, hvl⟩
  have hR := rowOf_row hr1
  have HST1 := hid_in hst1
  have HB1 := hid_in hb1
  have hst1d : St w1.drew g m M n q u := hst1.drewN 1
  obtain ⟨w3, hdel, hst3, hk3⟩ := hst1d.drop d HD.out V HV bs HM.out 0
  have HST3 := hid_in hst3
  have HK3 := hid_in hk3
  have c2 : w3.cell? ⟨g, 2, none⟩ = some (.int .i64 u) := hst3.row.cell 2
  have f2 : w3.frozen? ⟨g, 2, none⟩ = false := hst3.row.frozen 2
  clear hst1 hr1 hb1 hr hf hst1d hst3 hk3
  go_region
  all_goals
    go_wp2
    go_ret
    have hk : Kp g m w w3 := (Kp.of_below (HB0.out.trans (HB1.out.drew.mono (by simp)))).trans HK3.out
    exact ⟨rfl, HST3.out.setU _, hk.trans (Kp.of_g (grownBy_setCell w3 ⟨g, 2, none⟩ _))⟩
end Go.Proofs.YtokjbmpiekadaaaDoor
