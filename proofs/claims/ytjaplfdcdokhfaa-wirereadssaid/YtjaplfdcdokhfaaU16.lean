/-
  The walk of same at a text; all kinds in one.
-/
import Derived.Test.YtjaplfdcdokhfaaU15
import Derived.Deep.CutRange
import Derived.Deep.CutBlock
namespace Go.Proofs.Ytjaplfdcdokhfaa
open Go.RowKit

theorem both_read2 {fi fr : Nat} {xa : List Value} {bs : List Nat} {k e : Nat} {v : Value} {rs : List Nat} {e' : Nat} (h : Reads fi fr xa bs k e v rs e') {w : World} {gi gr : Nat} {t : TypeId} (hb : Both w gi gr t bs k e) :
    Calls Try.prog fi (.pointer (some ⟨gi, 0, none⟩) :: xa).toArray w fun r w' => r = .returned v ∧ Grew w w' (· = gi) ∧ Calls Try.prog fr (.pointer (some ⟨gr, 0, none⟩) :: xa).toArray w' fun r w'' => r = .returned v ∧ ∃ k', Both w'' gi gr t bs k' e' ∧ Grew w w'' (fun q => q = gi ∨ q = gr) := by
  refine (h.i w gi hb.i).mono ?_
  rintro r w1 ⟨rfl, h1, h2⟩
  obtain ⟨p, c, _, _, hri, _⟩ := hb.i.ex
  have hr1 : RIs w1 gr t bs k e := hb.r.keep hri h2 (fun e => hb.ne e.symm)
  refine ⟨rfl, h2, (h.r w1 gr t hr1).mono ?_⟩
  rintro r w2 ⟨rfl, ⟨k', hk', h3⟩, h4⟩
  obtain ⟨p', c', _, _, hrr, _⟩ := hr1.ex
  refine ⟨rfl, k', ⟨?_, h3, hb.ne⟩, (h2.mono (fun q h => .inl h)).trans h4 (fun q _ h => .inr h)⟩
  rw [hk']
  exact h1.keep hrr h4 hb.ne
theorem Both.lt {w : World} {gi gr : Nat} {t : TypeId} {bs : List Nat} {k e : Nat} (h : Both w gi gr t bs k e) : gi < w.heap.size ∧ gr < w.heap.size := by
  obtain ⟨_, _, _, _, h1, _⟩ := h.i.ex
  obtain ⟨_, _, _, _, h2, _⟩ := h.r.ex
  exact ⟨h1.lt, h2.lt⟩
set_option maxHeartbeats 2000000 in
set_option maxRecDepth 100000 in
theorem same_text (w : World) (gi gr : Nat) (t : TypeId) (bs : List Nat) (k e : Nat) (K M : Int) (N : Nat) (S : ByteArray) (hk : (IntKind.u64.wrap K).tmod 5 = ((2 : Nat) : Int)) (hm1 : -9223372036854775808 ≤ M) (hm2 : M ≤ 9223372036854775807) (hlt : ∀ x ∈ bs, x < 256) (hb : Both w gi gr t bs k e) :
    Calls Try.prog 16 #[.pointer (some ⟨gi, 0, none⟩), .pointer (some ⟨gr, 0, none⟩), .agg #[.int .i64 K, .int .u64 (N : Int), .string S, .int .i64 M]] w fun r w' => r = .returned (.bool true) ∧ ∃ k' e', Both w' gi gr t bs k' e' ∧ Grew w w' (fun q => q = gi ∨ q = gr) := by
  obtain ⟨s, rs, e', hR⟩ := reads_text bs k e M hm1 hm2 hlt
  have HR := hid_in hR
  have HBO := hid_in hb
  have HK := hid_in hk
  have HLT := hid_in hb.lt
  have hss : (s.toList == s.toList) = true := by simp
  clear hR hb hk
  go_enter Try.func16, Try.ntmps16
  go_wp2_with fail
  refine (kind_any _ K M N S 2 HK.out (by omega)).mono ?_
  rintro r1 w1 ⟨rfl, hb1⟩
  have hrow1 : Row w1 w.heap.size [.int .i64 K, .int .u64 (N : Int), .string S, .int .i64 M] 31 := (Row.newAt w _ [.int .i64 K, .int .u64 (N : Int), .string S, .int .i64 M] 31 rfl).below hb1 (by simp)
  have c3 : w1.cell? ⟨w.heap.size, 3, none⟩ = some (.int .i64 M) := hrow1.cell 3
  have hb1' : Below w.heap.size w w1 := ((Below.refl _ w).alloc (Nat.le_refl _) _).trans (hb1.mono (by simp))
  have HB1 : Hid (Below w.heap.size w w1.drew) := hb1'.drew
  have HROW : Hid (Row w1.drew w.heap.size [.int .i64 K, .int .u64 (N : Int), .string S, .int .i64 M] 31) := hrow1.drew
  have HC := hid_in (both_read2 HR.out (HBO.out.below hb1'.drew))
  clear hb1 hb1' hrow1
  go_upto_block 0 with fail
  go_cut [7] from 8 (fun v7 w' => v7 = .bool true ∧ ∃ k', Both w' gi gr t bs k' e' ∧ Grew w w' (fun q => q = gi ∨ q = gr))
  case first =>
    go_wp2_with fail
    go_region_with (first | (go_at_call 18; refine HC.out.mono ?_; rintro r2 w2 ⟨rfl, hG2, hc2⟩; have c3' : w2.cell? ⟨w.heap.size, 3, none⟩ = some (.int .i64 M) := (HROW.out.of_block (hG2.block _ HROW.out.lt (by have := HLT.out.1; simp; omega))).cell 3; have HC2 := hid_in hc2; clear hc2 hG2) | (go_at_call 45; refine HC2.out.mono ?_; rintro r3 w3 ⟨rfl, k', hB3, hG3⟩; have HB3 := hid_in hB3; have HG3 := hid_in hG3; clear hB3 hG3))
    all_goals
      go_wp2_with fail
      go_meet
      exact ⟨rfl, k', HB3.out, (Grew.of_below _ HB1.out).trans HG3.out (fun _ _ h => h)⟩
  case rest =>
    obtain ⟨rfl, k', hB3, hG3⟩ := hcut
    have HB3 := hid_in hB3
    have HG3 := hid_in hG3
    clear hB3 hG3 hss
    go_wp2_with fail
    obtain ⟨p2, c2, b2, o2, hrr, _, _⟩ := HB3.out.r.ex
    have cr2 : wc.cell? ⟨gr, 2, none⟩ = some (.int .i64 (e' : Int)) := hrr.cell 2
    clear hrr
    obtain ⟨L, HL⟩ : ∃ L, Hid ((bs.drop k').length = L) := ⟨_, rfl⟩
    have H20 := hid_in (fun n => ierr_any (wc.drewN n) gi e' _ (HB3.out.drewN n).i)
    have H15 := hid_in (fun n => ileft_any (wc.drewN n) gi e' _ (HB3.out.drewN n).i)
    have H48 := hid_in (fun n => (rleft_any (wc.drewN n) gr t bs k' e' (HB3.out.drewN n).r).mono (fun r w' (h : _ ∧ _) => (⟨h.1, 1, h.2⟩ : _ ∧ ∃ m, w' = (wc.drewN n).drewN m)))
    have H21 := hid_in (fun n => iend_any (wc.drewN n) gi e' _ (HB3.out.drewN n).i)
    rw [HL.out] at H15 H48 H21
    have HE : Hid (Grew w wc (fun q => q = gi ∨ q = gr)) := HG3.out
    clear HR HBO HK hlt HG3
    rcases (show (e' = 0 ∧ L = 0) ∨ (e' = 0 ∧ L ≠ 0) ∨ e' ≠ 0 by omega) with ⟨rfl, rfl⟩ | ⟨rfl, h0⟩ | h0
    · rw [show decide (0 = 0 ∧ 0 = 0) = true from rfl] at H21
      go_quiet (first | (go_at_call 20; refine Calls.quiet_of_same (H20.out _)) | (go_at_call 15; refine Calls.quiet_of_same (H15.out _)) | (go_at_call 48; refine Calls.quiet_of (H48.out _)) | (go_at_call 21; refine Calls.quiet_of_same (H21.out _)))
      go_wp2
      go_ret
      exact ⟨rfl, k', 0, HB3.out.drewN _, HE.out.trans (Grew.of_below _ (below_drewN wc _)) (fun _ _ h => h)⟩
    · have k2 : ((L : Int) == 0) = false := by rw [beq_eq_false_iff_ne]; omega
      rw [show decide (0 = 0 ∧ L = 0) = false by simp [h0]] at H21
      go_quiet (first | (go_at_call 20; refine Calls.quiet_of_same (H20.out _)) | (go_at_call 15; refine Calls.quiet_of_same (H15.out _)) | (go_at_call 48; refine Calls.quiet_of (H48.out _)) | (go_at_call 21; refine Calls.quiet_of_same (H21.out _)))
      go_wp2
      go_ret
      exact ⟨rfl, k', 0, HB3.out.drewN _, HE.out.trans (Grew.of_below _ (below_drewN wc _)) (fun _ _ h => h)⟩
    · have k2 : ((e' : Int) == 0) = false := by rw [beq_eq_false_iff_ne]; omega
      rw [show decide (e' = 0 ∧ L = 0) = false by simp [h0]] at H21
      go_quiet (first | (go_at_call 20; refine Calls.quiet_of_same (H20.out _)) | (go_at_call 15; refine Calls.quiet_of_same (H15.out _)) | (go_at_call 48; refine Calls.quiet_of (H48.out _)) | (go_at_call 21; refine Calls.quiet_of_same (H21.out _)))
      go_wp2
      go_ret
      exact ⟨rfl, k', e', HB3.out.drewN _, HE.out.trans (Grew.of_below _ (below_drewN wc _)) (fun _ _ h => h)⟩
end Go.Proofs.Ytjaplfdcdokhfaa
