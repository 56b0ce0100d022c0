/-
  The walk of sha.mix: the state behind a block.
-/
import Derived.Test.YtokjbmpiekadaaaDoorW2
namespace Go.Proofs.YtokjbmpiekadaaaDoor
open Go.RowKit

/-- the table of constants lies in its place -/
def Tab (w : World) : Prop := ∀ t, t < 64 → w.cell? ⟨0, t, none⟩ = some (u32v (Sha.K.getD t 0))
theorem Tab.pos {w : World} (h : Tab w) : 0 < w.heap.size := World.block_lt_of_cell? w ⟨0, 0, none⟩ (h 0 (by decide))
theorem Tab.below {w w' : World} {B : Nat} (h : Tab w) (hb : Below B w w') (hB : 0 < B) : Tab w' := fun t ht => by
  rw [hb.cell (p := ⟨0, t, none⟩) hB]; exact h t ht
theorem Tab.grown {w w' : World} {row : Option Nat} (h : Tab w) (hb : w.grownBy w' row) (hB : some 0 ≠ row) : Tab w' := fun t ht => hb.cell (h t ht) hB

def Ok (s : Sha.St) : Prop := s.a < 4294967296 ∧ s.b < 4294967296 ∧ s.c < 4294967296 ∧ s.d < 4294967296 ∧ s.e < 4294967296 ∧ s.f < 4294967296 ∧ s.g < 4294967296 ∧ s.h < 4294967296
theorem rnd_ok {s : Sha.St} (h : Ok s) (k w : Nat) : Ok (Sha.rnd s k w) := by
  obtain ⟨h1, h2, h3, h4, h5, h6, h7, h8⟩ := h
  exact ⟨Nat.mod_lt _ (by decide), h1, h2, h3, Nat.mod_lt _ (by decide), h5, h6, h7⟩
theorem rounds_ok {s : Sha.St} (h : Ok s) (w : List Nat) : ∀ t, Ok (Sha.rounds s w t)
  | 0 => h
  | t + 1 => rnd_ok (rounds_ok h w t) _ _
theorem plus_ok (s r : Sha.St) : Ok (Sha.plus s r) := by
  refine ⟨?_, ?_, ?_, ?_, ?_, ?_, ?_, ?_⟩ <;> exact Nat.mod_lt _ (by decide)

theorem right_k (x : Nat) (k : Int) (hx : x < 4294967296) (h1 : 1 ≤ k) (h2 : k ≤ 31) (w : World) :
    Calls Tryd.prog 70 #[.int .u32 (x : Int), .int .i64 k] w fun e w' => e = .returned (.int .u32 (Sha.rotr x k.toNat : Int)) ∧ w' = w :=
  right_at x k.toNat k (by omega) hx (by omega) (by omega) w

theorem schedule_W (bl : List Nat) (hl : bl.length = 64) (hby : ∀ x ∈ bl, x < 256) (n : Nat) (hn : Hid (n = 64)) (W : List Nat) (hW : Hid (Sha.wl bl n = W)) (w : World) :
    Calls Tryd.prog 69 #[.agg (bl.map u8v).toArray] w fun e w' => e = .returned (.agg (W.map u32v).toArray) ∧ Below w.heap.size w w' := by
  have h := schedule_any bl hl hby w
  rw [← hn.out, hW.out] at h
  exact h
theorem W_facts (bl : List Nat) (hby : ∀ x ∈ bl, x < 256) : ∃ n W, Hid (n = 64) ∧ Hid (Sha.wl bl n = W) ∧ W.length = 64 ∧ ∀ x ∈ W, x < 4294967296 :=
  ⟨64, _, rfl, rfl, wl_length bl 64, wl_lt bl hby 64⟩

/-- the state while its first i words have been added -/
def acc (s r : Sha.St) (i : Nat) : List Nat := (Sha.plus s r).list.take i ++ s.list.drop i
theorem lt8 {i : Nat} (h : i < 8) : i = 0 ∨ i = 1 ∨ i = 2 ∨ i = 3 ∨ i = 4 ∨ i = 5 ∨ i = 6 ∨ i = 7 := by omega
theorem acc_length (s r : Sha.St) (i : Nat) (h : i ≤ 8) : (acc s r i).length = 8 := by simp [acc, Sha.St.list]; omega
theorem acc_at (s r : Sha.St) (i : Nat) (h : i < 8) : (acc s r i).getD i 0 = s.list.getD i 0 := by
  rcases lt8 h with rfl | rfl | rfl | rfl | rfl | rfl | rfl | rfl <;> rfl
theorem acc_set (s r : Sha.St) (i : Nat) (h : i < 8) : (acc s r i).set i ((s.list.getD i 0 + r.list.getD i 0) % 4294967296) = acc s r (i + 1) := by
  rcases lt8 h with rfl | rfl | rfl | rfl | rfl | rfl | rfl | rfl <;> rfl
theorem idx8 (r : Sha.St) (i : Nat) (h : i < 8) (w : World) : (Instr.index 68 (.agg #[.int .u32 (r.a : Int), .int .u32 (r.b : Int), .int .u32 (r.c : Int), .int .u32 (r.d : Int), .int .u32 (r.e : Int), .int .u32 (r.f : Int), .int .u32 (r.g : Int), .int .u32 (r.h : Int)]) (.int .i64 (i : Int))).run Tryd.prog w = .ok (.int .u32 ((r.list.getD i 0 : Nat) : Int)) w := by
  rcases lt8 h with rfl | rfl | rfl | rfl | rfl | rfl | rfl | rfl <;> kernel_rfl

theorem comp_of (s : Sha.St) (bl : List Nat) (n : Nat) (W : List Nat) (r : Sha.St) (t i : Nat) (hn : Hid (n = 64)) (hW : Hid (Sha.wl bl n = W)) (hr : Hid (r = Sha.rounds s W t)) (ht : t ≤ 64) (ht' : 64 ≤ t) (hi : Hid (i = 8)) : acc s r i = (Sha.comp s bl).list := by
  have e : (Sha.comp s bl) = Sha.plus s r := by
    unfold Sha.comp
    rw [hr.out, ← hW.out, hn.out, show t = 64 by omega]
  rw [e, hi.out]
  rfl

set_option maxRecDepth 100000 in
set_option maxHeartbeats 1000000 in
theorem mix_any (s : Sha.St) (hs : Ok s) (bl : List Nat) (hl : bl.length = 64) (hby : ∀ x ∈ bl, x < 256) (w : World) (htab : Tab w) :
    Calls Tryd.prog 62 #[.agg (s.list.map u32v).toArray, .agg (bl.map u8v).toArray] w fun e w' => e = .returned (.agg ((Sha.comp s bl).list.map u32v).toArray) ∧ Below w.heap.size w w' := by
  obtain ⟨n, W, hn, hW, hWl, hWlt⟩ := W_facts bl hby
  go_enter Tryd.func62, Tryd.ntmps62
  go_wp2_with (first | (refine wpList_load_Row rfl 103 _ rfl (w.heap.size + 1) rfl 103 (bl.map u8v) ?_ _ Tryd.underlying103 rfl 64 info103 (by simp [hl]) ?_; exact (Row.newAt (w.alloc _) _ _ 103 (by simp)).alloc _))
  refine (schedule_W bl hl hby n hn W hW _).mono ?_
  rintro e w1 ⟨rfl, hb⟩
  have hz : w.heap.size + 1 + 1 + 1 ≤ w1.heap.size := by have := hb.size; simpa using this
  have hr1 : Row w1 w.heap.size (s.list.map u32v) 68 := (((Row.new w _ 68).alloc _).alloc _).below hb (by simp; omega)
  have hr2 : Row w1 (w.heap.size + 1 + 1) ((List.replicate 8 0).map u32v) 68 := (Row.newAt ((w.alloc _).alloc _) (w.heap.size + 1 + 1) ((List.replicate 8 0).map u32v) 68 (by simp)).below hb (by simp)
  have hbw : Below w.heap.size w w1 := ((((Below.refl _ _).alloc (Nat.le_refl _) _).alloc (by simp) _).alloc (by simp; omega) _).trans (hb.mono (by simp; omega))
  clear hb
  go_wp2_with (first | (refine wpList_store_Row rfl 69 _ _ rfl w1.heap.size 0 (W.map u32v) rfl rfl 69 ((List.replicate 64 0).map u32v) (Row.newAt w1 _ _ 69 rfl) 64 info69 (by simp [hWl]) (by simp) (one_u32 W) ?_; intro w2 hr3 hg2 hs2))
  rw [splice_all _ _ (by simp [hWl])] at hr3
  simp only [World.size_alloc] at hs2
  have hr1' := (hr1.alloc _).grown hg2 (by simp; omega)
  have hr2' := (hr2.alloc _).grown hg2 (by simp; omega)
  have hbw' : Below w.heap.size w w2 := below_of_grown (hbw.alloc (by omega) _) hg2 (by simp; omega) (by omega)
  clear hr1 hr2 hbw hg2
  have htab' : Tab w2 := htab.below hbw' htab.pos
  have c0 : w2.cell? ⟨w.heap.size, 0, none⟩ = some (.int .u32 (s.a : Int)) := hr1'.cell 0
  have c1 : w2.cell? ⟨w.heap.size, 1, none⟩ = some (.int .u32 (s.b : Int)) := hr1'.cell 1
  have c2 : w2.cell? ⟨w.heap.size, 2, none⟩ = some (.int .u32 (s.c : Int)) := hr1'.cell 2
  have c3 : w2.cell? ⟨w.heap.size, 3, none⟩ = some (.int .u32 (s.d : Int)) := hr1'.cell 3
  have c4 : w2.cell? ⟨w.heap.size, 4, none⟩ = some (.int .u32 (s.e : Int)) := hr1'.cell 4
  have c5 : w2.cell? ⟨w.heap.size, 5, none⟩ = some (.int .u32 (s.f : Int)) := hr1'.cell 5
  have c6 : w2.cell? ⟨w.heap.size, 6, none⟩ = some (.int .u32 (s.g : Int)) := hr1'.cell 6
  have c7 : w2.cell? ⟨w.heap.size, 7, none⟩ = some (.int .u32 (s.h : Int)) := hr1'.cell 7
  go_quiet (fail)
  go_wp2_with fail
  clear c0 c1 c2 c3 c4 c5 c6 c7
  go_loopw [6, 7, 8, 9, 10, 11, 12, 13, 37] (fun va vb vc vd ve vf vg vh i w' => ∃ (t : Nat) (r : Sha.St), t ≤ 64 ∧ i = .int .i64 (t : Int) ∧ r = Sha.rounds s W t ∧ va = .int .u32 (r.a : Int) ∧ vb = .int .u32 (r.b : Int) ∧ vc = .int .u32 (r.c : Int) ∧ vd = .int .u32 (r.d : Int) ∧ ve = .int .u32 (r.e : Int) ∧ vf = .int .u32 (r.f : Int) ∧ vg = .int .u32 (r.g : Int) ∧ vh = .int .u32 (r.h : Int) ∧ Row w' w.heap.size (s.list.map u32v) 68 ∧ Row w' (w.heap.size + 1 + 1) ((List.replicate 8 0).map u32v) 68 ∧ Row w' w1.heap.size (W.map u32v) 69 ∧ Below w.heap.size w w') (fun _ _ _ _ _ _ _ _ i _ => 64 - (intOf i).toNat)
  case atStart => exact ⟨0, s, by omega, rfl, rfl, rfl, rfl, rfl, rfl, rfl, rfl, rfl, rfl, hr1'.drewN _, hr2'.drewN _, hr3.drewN _, below_drewN hbw' _⟩
  case round =>
    clear hr1' hr2' hr3 hbw' htab'
    obtain ⟨t, r, ht, rfl, hr, rfl, rfl, rfl, rfl, rfl, rfl, rfl, rfl, hr1, hr2, hr3, hbw⟩ := hrel
    have hrok : Ok r := by rw [hr]; exact rounds_ok hs W t
    have HR : Hid (r = Sha.rounds s W t) := hr
    clear hr
    obtain ⟨oa, ob, oc, od, oe, of, og, oh⟩ := hrok
    have htab' : Tab wr := htab.below hbw htab.pos
    by_cases hlt : t < 64
    · have k0 : wr.cell? ⟨0, t, none⟩ = some (.int .u32 ((Sha.K.getD t 0 : Nat) : Int)) := htab' t hlt
      have k1 : wr.cell? ⟨w1.heap.size, t, none⟩ = some (.int .u32 ((W.getD t 0 : Nat) : Int)) := hr3.cellMap t (by omega)
      have hstep : Hid (Sha.rounds s W (t + 1) = Sha.rnd r (Sha.K.getD t 0) (W.getD t 0)) := by show _ = _; rw [HR.out]; rfl
      generalize Sha.K.getD t 0 = kt at k0 hstep
      generalize W.getD t 0 = wt at k1 hstep
      clear htab' hWlt hs
      go_wp2_with fail
      go_quiet ((go_at_call 70; exact Calls.quiet_of_same (right_k _ _ (by assumption) (by decide) (by decide) _)))
      go_wp2_with (go_at_call 70; refine (right_k _ _ (by assumption) (by decide) (by decide) _).mono ?_; rintro e w' ⟨rfl, rfl⟩)
      go_roundw
      case rel =>
        go_light
        rw [S1_form r.e oe, S0_form r.a oa, ch_form r.e r.f r.g oe of og, maj_form r.a r.b r.c oa ob oc, t1_form, t2_form, add_form, add_form]
        exact ⟨t + 1, Sha.rnd r kt wt, by omega, by go_num, hstep.out.symm, rfl, rfl, rfl, rfl, rfl, rfl, rfl, rfl, hr1.drewN _, hr2.drewN _, hr3.drewN _, below_drewN hbw _⟩
      case measure => simp [intOf]; omega
    · go_wp2_with fail
      clear hr3 htab'
      go_loopw [109] (fun v w' => ∃ i : Nat, i ≤ 8 ∧ v = .int .i64 (i : Int) ∧ Row w' w.heap.size ((acc s r i).map u32v) 68 ∧ Row w' (w.heap.size + 1 + 1) ((List.replicate 8 0).map u32v) 68 ∧ Below w.heap.size w w') (fun v _ => 8 - (intOf v).toNat)
      case atStart => exact ⟨0, by omega, rfl, hr1, hr2, hbw⟩
      case round =>
        clear hr1 hr2 hbw
        obtain ⟨i, hi, rfl, hr1, hr2, hbw⟩ := hrel
        by_cases hlt8 : i < 8
        · have c0 : wr.cell? ⟨w.heap.size, i, none⟩ = some (.int .u32 ((s.list.getD i 0 : Nat) : Int)) := by
            rw [← acc_at s r i hlt8]; exact hr1.cellMap i (by rw [acc_length s r i hi]; exact hlt8)
          have c1 := hr1.frozen i
          have c2 := idx8 r i hlt8
          have c3 : Hid ((acc s r i).set i ((s.list.getD i 0 + r.list.getD i 0) % 4294967296) = acc s r (i + 1)) := acc_set s r i hlt8
          generalize s.list.getD i 0 = x at c0 c3
          generalize r.list.getD i 0 = y at c2 c3
          go_wp2
          go_roundw
          case rel =>
            go_light
            first
            | (rw [add_form x y]
               refine ⟨i + 1, by omega, by go_num, ?_, hr2.set_other _ _ (by simp; omega), hbw.setCell (Nat.le_refl _) _⟩
               rw [← c3.out, List.map_set]
               exact hr1.set_same i _)
          case measure => simp [intOf]; omega
        · have HI : Hid (i = 8) := by show i = 8; omega
          have hal := acc_length s r i hi
          go_wp2_with (first | (refine wpList_load_Row rfl 68 _ rfl w.heap.size rfl 68 _ hr1 _ Tryd.underlying68 rfl 8 info68 (by simp [hal]) ?_) | (refine wpList_store_Row rfl 68 _ _ rfl (w.heap.size + 1 + 1) 0 ((acc s r i).map u32v) rfl rfl 68 _ hr2 8 info68 (by simp [hal]) (by simp) (one_u32 _) ?_; intro w3 hr4 hg4 hs4))
          refine post_Row 4 68 Tryd.results62 (w.heap.size + 1 + 1) rfl 68 _ hr4 _ Tryd.underlying68 rfl 8 info68 (by simp [splice_all, hal]) rfl ⟨?_, below_of_grown hbw hg4 (by have := hbw.size; omega) (by omega)⟩
          rw [splice_all _ _ (by simp [hal]), comp_of s bl n W r t i hn hW HR (by omega) (by omega) HI]
end Go.Proofs.YtokjbmpiekadaaaDoor
