/-
  The walk of same.
-/
import Derived.Test.YtjaplfdcdokhfaaU14
import Derived.Test.YtjaplfdcdokhfaaV5
import Derived.Deep.RegionWith
import Derived.Deep.DrawnRows
import Derived.Deep.QuietTactic
namespace Go.Proofs.Ytjaplfdcdokhfaa
open Go.RowKit

theorem eq_loop {P : Program} {w : World} (f : Nat → Option Bool × Unit → Sem (ForInStep (Option Bool × Unit))) (c : Nat → Bool) :
    ∀ (L : List Nat), (∀ i ∈ L, ∀ s, (f i s).run P w = .ok (if c i = true then .yield (none, ()) else .done (some false, ())) w) → (forIn L (none, ()) f).run P w = .ok (if L.all c = true then (none, ()) else (some false, ())) w
  | [], _ => by simp [Sem.run_pure]
  | i :: L, h => by
    simp only [List.forIn_cons, Sem.run_bind, h i (by simp)]
    by_cases hc : c i = true
    · simp only [hc, if_true, Result.andThen, List.all_cons, Bool.true_and]
      exact eq_loop f c L (fun j hj => h j (by simp [hj]))
    · simp [hc, Result.andThen, Sem.run_pure]
theorem part5 (d : List Nat) (hd : d.length = 32) (i : Nat) (h : i < 32) (w : World) : (part 5 (d.map u8v).toArray i).run Try.prog w = .ok (u8v (d.getD i 0)) w := by
  have hagg : (isAgg 5).run Try.prog w = .ok false w := by kernel_rfl
  have hi : i < d.length := by omega
  simp [part, Sem.run_bind, hagg, hi]
theorem eqin5 (d x y : Nat) (w : World) : (Op.equalIn (d + 1) 5 (u8v x) (u8v y)).run Try.prog w = .ok (decide (x = y)) w := by
  simp only [Op.equalIn, Sem.run_bind, run_underlying Try.underlying5, Result.andThen_ok, u8v, if_true, Sem.run_pure]
  congr 1
  rw [Bool.eq_iff_iff]
  simp
  omega
theorem all_range (a b : List Nat) (ha : a.length = 32) (hb : b.length = 32) : (List.range' 0 32).all (fun i => decide (a.getD i 0 = b.getD i 0)) = decide (a = b) := by
  rw [Bool.eq_iff_iff]
  simp only [List.all_eq_true, decide_eq_true_eq, List.mem_range'_1]
  constructor
  · intro h
    refine List.ext_getElem (by omega) fun i h1 h2 => ?_
    have := h i ⟨by omega, by omega⟩
    simpa [h1, h2] using this
  · rintro rfl i _; rfl
theorem eq51g (d : Nat) (a b : List Nat) (ha : a.length = 32) (hb : b.length = 32) (w : World) : (Op.equalIn (d + 1 + 1) 51 (.agg (a.map u8v).toArray) (.agg (b.map u8v).toArray)).run Try.prog w = .ok (decide (a = b)) w := by
  have hsz : (sizeOf 5).run Try.prog w = .ok 1 w := by kernel_rfl
  rw [Op.equalIn]
  simp only [Sem.run_bind, run_underlying Try.underlying51, Result.andThen_ok, hsz, Nat.mul_one]
  rw [Std.Legacy.Range.forIn_eq_forIn_range']
  rw [eq_loop _ (fun i => decide (a.getD i 0 = b.getD i 0)) _ ?_]
  · simp only [Result.andThen_ok]
    rw [show (List.range' 0 [:32].size) = List.range' 0 32 from rfl, all_range a b ha hb]
    by_cases h : a = b
    · simp [h, Sem.run_pure]
    · simp [h, Sem.run_pure]
  · intro i hi s
    have hi' : i < 32 := by simp only [List.mem_range'_1] at hi; have : [:32].size = 32 := rfl; omega
    simp only [Sem.run_bind, part5 a ha i hi', part5 b hb i hi', eqin5, Result.andThen_ok]
    by_cases h : a.getD i 0 = b.getD i 0
    · simp only [h, decide_true, Bool.not_true, Bool.false_eq_true, if_false, if_true, Sem.run_pure]
    · simp only [h, decide_false, Bool.not_false, if_true, Bool.false_eq_true, if_false, Sem.run_pure]
theorem eq51 (a b : List Nat) (ha : a.length = 32) (hb : b.length = 32) (w : World) : (Op.equalIn 10000 51 (.agg (a.map u8v).toArray) (.agg (b.map u8v).toArray)).run Try.prog w = .ok (decide (a = b)) w := eq51g 9998 a b ha hb w
theorem Both.below {w w' : World} {gi gr : Nat} {t : TypeId} {bs : List Nat} {k e : Nat} (h : Both w gi gr t bs k e) (hb : Below w.heap.size w w') : Both w' gi gr t bs k e :=
  ⟨h.i.below hb, (h.r.toB.below hb).is h.r.le, h.ne⟩
theorem below_drewN (w : World) (n : Nat) : Below w.heap.size w (w.drewN n) :=
  ⟨by simp [World.drewN], by simp [World.drewN], by simp [World.drewN], by simp [World.drewN], fun k _ => by simp [World.drewN]⟩
theorem Both.drewN {w : World} {gi gr : Nat} {t : TypeId} {bs : List Nat} {k e : Nat} (h : Both w gi gr t bs k e) (n : Nat) : Both (w.drewN n) gi gr t bs k e :=
  h.below (below_drewN w n)
set_option maxHeartbeats 1000000 in
set_option maxRecDepth 100000 in
theorem same_num (w : World) (gi gr : Nat) (t : TypeId) (bs : List Nat) (k e : Nat) (K M : Int) (N : Nat) (S : ByteArray) (hk : (IntKind.u64.wrap K).tmod 5 = ((0 : Nat) : Int)) (hlt : ∀ x ∈ bs, x < 256) (hb : Both w gi gr t bs k e) :
    Calls Try.prog 16 #[.pointer (some ⟨gi, 0, none⟩), .pointer (some ⟨gr, 0, none⟩), .agg #[.int .i64 K, .int .u64 (N : Int), .string S, .int .i64 M]] w fun r w' => r = .returned (.bool true) ∧ ∃ k' e', Both w' gi gr t bs k' e' ∧ Grew w w' (fun q => q = gi ∨ q = gr) := by
  obtain ⟨n, rs, e', hn, hR⟩ := reads_num bs k e hlt
  have HR := hid_in hR
  have HBO := hid_in hb
  have HK := hid_in hk
  clear hR hb hk
  go_enter Try.func16, Try.ntmps16
  go_wp2_with fail
  refine (kind_any _ K M N S 0 HK.out (by omega)).mono ?_
  rintro r1 w1 ⟨rfl, hb1⟩
  have hb1' : Below w.heap.size w w1 := ((Below.refl _ w).alloc (Nat.le_refl _) _).trans (hb1.mono (by simp))
  have HB1 := hid_in hb1'
  have HC := hid_in (both_read HR.out (HBO.out.below hb1'))
  clear hb1 hb1'
  go_wp2_with fail
  refine HC.out.mono ?_
  rintro r2 w2 ⟨rfl, hc2⟩
  go_wp2_with fail
  refine hc2.mono ?_
  rintro r3 w3 ⟨rfl, k', hB3, hG3⟩
  have HB3 := hid_in hB3
  have HG3 := hid_in hG3
  clear hB3 hG3 hc2 HC
  go_wp2_with fail
  obtain ⟨p2, c2, b2, o2, hrr, _, _⟩ := HB3.out.r.ex
  have cr2 : w3.cell? ⟨gr, 2, none⟩ = some (.int .i64 (e' : Int)) := hrr.cell 2
  clear hrr
  obtain ⟨L, HL⟩ : ∃ L, Hid ((bs.drop k').length = L) := ⟨_, rfl⟩
  have H20 := hid_in (fun n => ierr_any (w3.drewN n) gi e' _ (HB3.out.drewN n).i)
  have H15 := hid_in (fun n => ileft_any (w3.drewN n) gi e' _ (HB3.out.drewN n).i)
  have H48 := hid_in (fun n => (rleft_any (w3.drewN n) gr t bs k' e' (HB3.out.drewN n).r).mono (fun r w' (h : _ ∧ _) => (⟨h.1, 1, h.2⟩ : _ ∧ ∃ m, w' = (w3.drewN n).drewN m)))
  have H21 := hid_in (fun n => iend_any (w3.drewN n) gi e' _ (HB3.out.drewN n).i)
  rw [HL.out] at H15 H48 H21
  have HE : Hid (Grew w w3 (fun q => q = gi ∨ q = gr)) := (Grew.of_below _ HB1.out).trans HG3.out (fun _ _ h => h)
  clear HR HBO HK hlt HG3 HB1
  rcases (show (e' = 0 ∧ L = 0) ∨ (e' = 0 ∧ L ≠ 0) ∨ e' ≠ 0 by omega) with ⟨rfl, rfl⟩ | ⟨rfl, h0⟩ | h0
  · rw [show decide (0 = 0 ∧ 0 = 0) = true from rfl] at H21
    go_quiet (first | (go_at_call 20; refine Calls.quiet_of_same (H20.out _)) | (go_at_call 15; refine Calls.quiet_of_same (H15.out _)) | (go_at_call 48; refine Calls.quiet_of (H48.out _)) | (go_at_call 21; refine Calls.quiet_of_same (H21.out _)))
    go_wp2
    go_ret
    exact ⟨rfl, k', 0, HB3.out.drewN _, HE.out.trans (Grew.of_below _ (below_drewN w3 _)) (fun _ _ h => h)⟩
  · have k2 : ((L : Int) == 0) = false := by rw [beq_eq_false_iff_ne]; omega
    rw [show decide (0 = 0 ∧ L = 0) = false by simp [h0]] at H21
    go_quiet (first | (go_at_call 20; refine Calls.quiet_of_same (H20.out _)) | (go_at_call 15; refine Calls.quiet_of_same (H15.out _)) | (go_at_call 48; refine Calls.quiet_of (H48.out _)) | (go_at_call 21; refine Calls.quiet_of_same (H21.out _)))
    go_wp2
    go_ret
    exact ⟨rfl, k', 0, HB3.out.drewN _, HE.out.trans (Grew.of_below _ (below_drewN w3 _)) (fun _ _ h => h)⟩
  · have k2 : ((e' : Int) == 0) = false := by rw [beq_eq_false_iff_ne]; omega
    rw [show decide (e' = 0 ∧ L = 0) = false by simp [h0]] at H21
    go_quiet (first | (go_at_call 20; refine Calls.quiet_of_same (H20.out _)) | (go_at_call 15; refine Calls.quiet_of_same (H15.out _)) | (go_at_call 48; refine Calls.quiet_of (H48.out _)) | (go_at_call 21; refine Calls.quiet_of_same (H21.out _)))
    go_wp2
    go_ret
    exact ⟨rfl, k', e', HB3.out.drewN _, HE.out.trans (Grew.of_below _ (below_drewN w3 _)) (fun _ _ h => h)⟩
set_option maxHeartbeats 1000000 in
set_option maxRecDepth 100000 in
theorem same_int (w : World) (gi gr : Nat) (t : TypeId) (bs : List Nat) (k e : Nat) (K M : Int) (N : Nat) (S : ByteArray) (hk : (IntKind.u64.wrap K).tmod 5 = ((1 : Nat) : Int)) (hlt : ∀ x ∈ bs, x < 256) (hb : Both w gi gr t bs k e) :
    Calls Try.prog 16 #[.pointer (some ⟨gi, 0, none⟩), .pointer (some ⟨gr, 0, none⟩), .agg #[.int .i64 K, .int .u64 (N : Int), .string S, .int .i64 M]] w fun r w' => r = .returned (.bool true) ∧ ∃ k' e', Both w' gi gr t bs k' e' ∧ Grew w w' (fun q => q = gi ∨ q = gr) := by
  obtain ⟨n, rs, e', hR⟩ := reads_int bs k e hlt
  have HR := hid_in hR
  have HBO := hid_in hb
  have HK := hid_in hk
  clear hR hb hk
  go_enter Try.func16, Try.ntmps16
  go_wp2_with fail
  refine (kind_any _ K M N S 1 HK.out (by omega)).mono ?_
  rintro r1 w1 ⟨rfl, hb1⟩
  have hb1' : Below w.heap.size w w1 := ((Below.refl _ w).alloc (Nat.le_refl _) _).trans (hb1.mono (by simp))
  have HB1 := hid_in hb1'
  have HC := hid_in (both_read HR.out (HBO.out.below hb1'))
  clear hb1 hb1'
  go_wp2_with fail
  refine HC.out.mono ?_
  rintro r2 w2 ⟨rfl, hc2⟩
  go_wp2_with fail
  refine hc2.mono ?_
  rintro r3 w3 ⟨rfl, k', hB3, hG3⟩
  have HB3 := hid_in hB3
  have HG3 := hid_in hG3
  clear hB3 hG3 hc2 HC
  go_wp2_with fail
  obtain ⟨p2, c2, b2, o2, hrr, _, _⟩ := HB3.out.r.ex
  have cr2 : w3.cell? ⟨gr, 2, none⟩ = some (.int .i64 (e' : Int)) := hrr.cell 2
  clear hrr
  obtain ⟨L, HL⟩ : ∃ L, Hid ((bs.drop k').length = L) := ⟨_, rfl⟩
  have H20 := hid_in (fun n => ierr_any (w3.drewN n) gi e' _ (HB3.out.drewN n).i)
  have H15 := hid_in (fun n => ileft_any (w3.drewN n) gi e' _ (HB3.out.drewN n).i)
  have H48 := hid_in (fun n => (rleft_any (w3.drewN n) gr t bs k' e' (HB3.out.drewN n).r).mono (fun r w' (h : _ ∧ _) => (⟨h.1, 1, h.2⟩ : _ ∧ ∃ m, w' = (w3.drewN n).drewN m)))
  have H21 := hid_in (fun n => iend_any (w3.drewN n) gi e' _ (HB3.out.drewN n).i)
  rw [HL.out] at H15 H48 H21
  have HE : Hid (Grew w w3 (fun q => q = gi ∨ q = gr)) := (Grew.of_below _ HB1.out).trans HG3.out (fun _ _ h => h)
  clear HR HBO HK hlt HG3 HB1
  rcases (show (e' = 0 ∧ L = 0) ∨ (e' = 0 ∧ L ≠ 0) ∨ e' ≠ 0 by omega) with ⟨rfl, rfl⟩ | ⟨rfl, h0⟩ | h0
  · rw [show decide (0 = 0 ∧ 0 = 0) = true from rfl] at H21
    go_quiet (first | (go_at_call 20; refine Calls.quiet_of_same (H20.out _)) | (go_at_call 15; refine Calls.quiet_of_same (H15.out _)) | (go_at_call 48; refine Calls.quiet_of (H48.out _)) | (go_at_call 21; refine Calls.quiet_of_same (H21.out _)))
    go_wp2
    go_ret
    exact ⟨rfl, k', 0, HB3.out.drewN _, HE.out.trans (Grew.of_below _ (below_drewN w3 _)) (fun _ _ h => h)⟩
  · have k2 : ((L : Int) == 0) = false := by rw [beq_eq_false_iff_ne]; omega
    rw [show decide (0 = 0 ∧ L = 0) = false by simp [h0]] at H21
    go_quiet (first | (go_at_call 20; refine Calls.quiet_of_same (H20.out _)) | (go_at_call 15; refine Calls.quiet_of_same (H15.out _)) | (go_at_call 48; refine Calls.quiet_of (H48.out _)) | (go_at_call 21; refine Calls.quiet_of_same (H21.out _)))
    go_wp2
    go_ret
    exact ⟨rfl, k', 0, HB3.out.drewN _, HE.out.trans (Grew.of_below _ (below_drewN w3 _)) (fun _ _ h => h)⟩
  · have k2 : ((e' : Int) == 0) = false := by rw [beq_eq_false_iff_ne]; omega
    rw [show decide (e' = 0 ∧ L = 0) = false by simp [h0]] at H21
    go_quiet (first | (go_at_call 20; refine Calls.quiet_of_same (H20.out _)) | (go_at_call 15; refine Calls.quiet_of_same (H15.out _)) | (go_at_call 48; refine Calls.quiet_of (H48.out _)) | (go_at_call 21; refine Calls.quiet_of_same (H21.out _)))
    go_wp2
    go_ret
    exact ⟨rfl, k', e', HB3.out.drewN _, HE.out.trans (Grew.of_below _ (below_drewN w3 _)) (fun _ _ h => h)⟩
set_option maxHeartbeats 1000000 in
set_option maxRecDepth 100000 in
theorem same_flag (w : World) (gi gr : Nat) (t : TypeId) (bs : List Nat) (k e : Nat) (K M : Int) (N : Nat) (S : ByteArray) (hk : (IntKind.u64.wrap K).tmod 5 = ((3 : Nat) : Int)) (hlt : ∀ x ∈ bs, x < 256) (hb : Both w gi gr t bs k e) :
    Calls Try.prog 16 #[.pointer (some ⟨gi, 0, none⟩), .pointer (some ⟨gr, 0, none⟩), .agg #[.int .i64 K, .int .u64 (N : Int), .string S, .int .i64 M]] w fun r w' => r = .returned (.bool true) ∧ ∃ k' e', Both w' gi gr t bs k' e' ∧ Grew w w' (fun q => q = gi ∨ q = gr) := by
  obtain ⟨n, rs, e', hR⟩ := reads_flag bs k e hlt
  have HR := hid_in hR
  have HBO := hid_in hb
  have HK := hid_in hk
  clear hR hb hk
  go_enter Try.func16, Try.ntmps16
  go_wp2_with fail
  refine (kind_any _ K M N S 3 HK.out (by omega)).mono ?_
  rintro r1 w1 ⟨rfl, hb1⟩
  have hb1' : Below w.heap.size w w1 := ((Below.refl _ w).alloc (Nat.le_refl _) _).trans (hb1.mono (by simp))
  have HB1 := hid_in hb1'
  have HC := hid_in (both_read HR.out (HBO.out.below hb1'))
  clear hb1 hb1'
  go_wp2_with fail
  refine HC.out.mono ?_
  rintro r2 w2 ⟨rfl, hc2⟩
  go_wp2_with fail
  refine hc2.mono ?_
  rintro r3 w3 ⟨rfl, k', hB3, hG3⟩
  have HB3 := hid_in hB3
  have HG3 := hid_in hG3
  clear hB3 hG3 hc2 HC
  go_wp2_with fail
  obtain ⟨p2, c2, b2, o2, hrr, _, _⟩ := HB3.out.r.ex
  have cr2 : w3.cell? ⟨gr, 2, none⟩ = some (.int .i64 (e' : Int)) := hrr.cell 2
  clear hrr
  obtain ⟨L, HL⟩ : ∃ L, Hid ((bs.drop k').length = L) := ⟨_, rfl⟩
  have H20 := hid_in (fun n => ierr_any (w3.drewN n) gi e' _ (HB3.out.drewN n).i)
  have H15 := hid_in (fun n => ileft_any (w3.drewN n) gi e' _ (HB3.out.drewN n).i)
  have H48 := hid_in (fun n => (rleft_any (w3.drewN n) gr t bs k' e' (HB3.out.drewN n).r).mono (fun r w' (h : _ ∧ _) => (⟨h.1, 1, h.2⟩ : _ ∧ ∃ m, w' = (w3.drewN n).drewN m)))
  have H21 := hid_in (fun n => iend_any (w3.drewN n) gi e' _ (HB3.out.drewN n).i)
  rw [HL.out] at H15 H48 H21
  have HE : Hid (Grew w w3 (fun q => q = gi ∨ q = gr)) := (Grew.of_below _ HB1.out).trans HG3.out (fun _ _ h => h)
  clear HR HBO HK hlt HG3 HB1
  rcases (show (e' = 0 ∧ L = 0) ∨ (e' = 0 ∧ L ≠ 0) ∨ e' ≠ 0 by omega) with ⟨rfl, rfl⟩ | ⟨rfl, h0⟩ | h0
  · rw [show decide (0 = 0 ∧ 0 = 0) = true from rfl] at H21
    go_quiet (first | (go_at_call 20; refine Calls.quiet_of_same (H20.out _)) | (go_at_call 15; refine Calls.quiet_of_same (H15.out _)) | (go_at_call 48; refine Calls.quiet_of (H48.out _)) | (go_at_call 21; refine Calls.quiet_of_same (H21.out _)))
    go_wp2
    go_ret
    exact ⟨rfl, k', 0, HB3.out.drewN _, HE.out.trans (Grew.of_below _ (below_drewN w3 _)) (fun _ _ h => h)⟩
  · have k2 : ((L : Int) == 0) = false := by rw [beq_eq_false_iff_ne]; omega
    rw [show decide (0 = 0 ∧ L = 0) = false by simp [h0]] at H21
    go_quiet (first | (go_at_call 20; refine Calls.quiet_of_same (H20.out _)) | (go_at_call 15; refine Calls.quiet_of_same (H15.out _)) | (go_at_call 48; refine Calls.quiet_of (H48.out _)) | (go_at_call 21; refine Calls.quiet_of_same (H21.out _)))
    go_wp2
    go_ret
    exact ⟨rfl, k', 0, HB3.out.drewN _, HE.out.trans (Grew.of_below _ (below_drewN w3 _)) (fun _ _ h => h)⟩
  · have k2 : ((e' : Int) == 0) = false := by rw [beq_eq_false_iff_ne]; omega
    rw [show decide (e' = 0 ∧ L = 0) = false by simp [h0]] at H21
    go_quiet (first | (go_at_call 20; refine Calls.quiet_of_same (H20.out _)) | (go_at_call 15; refine Calls.quiet_of_same (H15.out _)) | (go_at_call 48; refine Calls.quiet_of (H48.out _)) | (go_at_call 21; refine Calls.quiet_of_same (H21.out _)))
    go_wp2
    go_ret
    exact ⟨rfl, k', e', HB3.out.drewN _, HE.out.trans (Grew.of_below _ (below_drewN w3 _)) (fun _ _ h => h)⟩
set_option maxHeartbeats 1000000 in
set_option maxRecDepth 100000 in
theorem same_dig (w : World) (gi gr : Nat) (t : TypeId) (bs : List Nat) (k e : Nat) (K M : Int) (N : Nat) (S : ByteArray) (hk : (IntKind.u64.wrap K).tmod 5 = ((4 : Nat) : Int)) (_hlt : ∀ x ∈ bs, x < 256) (hb : Both w gi gr t bs k e) :
    Calls Try.prog 16 #[.pointer (some ⟨gi, 0, none⟩), .pointer (some ⟨gr, 0, none⟩), .agg #[.int .i64 K, .int .u64 (N : Int), .string S, .int .i64 M]] w fun r w' => r = .returned (.bool true) ∧ ∃ k' e', Both w' gi gr t bs k' e' ∧ Grew w w' (fun q => q = gi ∨ q = gr) := by
  obtain ⟨d, rs, e', hd, hR⟩ := reads_digest bs k e
  have HR := hid_in hR
  have HBO := hid_in hb
  have HK := hid_in hk
  clear hR hb hk
  have heq := eq51 d d hd hd
  rw [show decide (d = d) = true by simp] at heq
  obtain ⟨D, HD⟩ : ∃ D, Hid ((d.map u8v).toArray = D) := ⟨_, rfl⟩
  rw [HD.out] at heq HR
  clear HD hd
  go_enter Try.func16, Try.ntmps16
  go_wp2_with fail
  refine (kind_any _ K M N S 4 HK.out (by omega)).mono ?_
  rintro r1 w1 ⟨rfl, hb1⟩
  have hb1' : Below w.heap.size w w1 := ((Below.refl _ w).alloc (Nat.le_refl _) _).trans (hb1.mono (by simp))
  have HB1 := hid_in hb1'
  have HC := hid_in (both_read HR.out (HBO.out.below hb1'))
  clear hb1 hb1'
  go_wp2_with fail
  refine HC.out.mono ?_
  rintro r2 w2 ⟨rfl, hc2⟩
  go_wp2_with fail
  refine hc2.mono ?_
  rintro r3 w3 ⟨rfl, k', hB3, hG3⟩
  have HB3 := hid_in hB3
  have HG3 := hid_in hG3
  clear hB3 hG3 hc2 HC
  go_wp2_with fail
  obtain ⟨p2, c2, b2, o2, hrr, _, _⟩ := HB3.out.r.ex
  have cr2 : w3.cell? ⟨gr, 2, none⟩ = some (.int .i64 (e' : Int)) := hrr.cell 2
  clear hrr
  obtain ⟨L, HL⟩ : ∃ L, Hid ((bs.drop k').length = L) := ⟨_, rfl⟩
  have H20 := hid_in (fun n => ierr_any (w3.drewN n) gi e' _ (HB3.out.drewN n).i)
  have H15 := hid_in (fun n => ileft_any (w3.drewN n) gi e' _ (HB3.out.drewN n).i)
  have H48 := hid_in (fun n => (rleft_any (w3.drewN n) gr t bs k' e' (HB3.out.drewN n).r).mono (fun r w' (h : _ ∧ _) => (⟨h.1, 1, h.2⟩ : _ ∧ ∃ m, w' = (w3.drewN n).drewN m)))
  have H21 := hid_in (fun n => iend_any (w3.drewN n) gi e' _ (HB3.out.drewN n).i)
  rw [HL.out] at H15 H48 H21
  have HE : Hid (Grew w w3 (fun q => q = gi ∨ q = gr)) := (Grew.of_below _ HB1.out).trans HG3.out (fun _ _ h => h)
  clear HR HBO HK HG3 HB1
  rcases (show (e' = 0 ∧ L = 0) ∨ (e' = 0 ∧ L ≠ 0) ∨ e' ≠ 0 by omega) with ⟨rfl, rfl⟩ | ⟨rfl, h0⟩ | h0
  · rw [show decide (0 = 0 ∧ 0 = 0) = true from rfl] at H21
    go_quiet (first | (go_at_call 20; refine Calls.quiet_of_same (H20.out _)) | (go_at_call 15; refine Calls.quiet_of_same (H15.out _)) | (go_at_call 48; refine Calls.quiet_of (H48.out _)) | (go_at_call 21; refine Calls.quiet_of_same (H21.out _)))
    go_wp2
    go_ret
    exact ⟨rfl, k', 0, HB3.out.drewN _, HE.out.trans (Grew.of_below _ (below_drewN w3 _)) (fun _ _ h => h)⟩
  · have k2 : ((L : Int) == 0) = false := by rw [beq_eq_false_iff_ne]; omega
    rw [show decide (0 = 0 ∧ L = 0) = false by simp [h0]] at H21
    go_quiet (first | (go_at_call 20; refine Calls.quiet_of_same (H20.out _)) | (go_at_call 15; refine Calls.quiet_of_same (H15.out _)) | (go_at_call 48; refine Calls.quiet_of (H48.out _)) | (go_at_call 21; refine Calls.quiet_of_same (H21.out _)))
    go_wp2
    go_ret
    exact ⟨rfl, k', 0, HB3.out.drewN _, HE.out.trans (Grew.of_below _ (below_drewN w3 _)) (fun _ _ h => h)⟩
  · have k2 : ((e' : Int) == 0) = false := by rw [beq_eq_false_iff_ne]; omega
    rw [show decide (e' = 0 ∧ L = 0) = false by simp [h0]] at H21
    go_quiet (first | (go_at_call 20; refine Calls.quiet_of_same (H20.out _)) | (go_at_call 15; refine Calls.quiet_of_same (H15.out _)) | (go_at_call 48; refine Calls.quiet_of (H48.out _)) | (go_at_call 21; refine Calls.quiet_of_same (H21.out _)))
    go_wp2
    go_ret
    exact ⟨rfl, k', e', HB3.out.drewN _, HE.out.trans (Grew.of_below _ (below_drewN w3 _)) (fun _ _ h => h)⟩
end Go.Proofs.Ytjaplfdcdokhfaa
