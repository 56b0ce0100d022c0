/-
  The walk of (*sha.Hash).Write: bytes come behind those that a hash has taken.
-/
import Derived.Test.YtokjbmpiekadaaaDoorFed
import Derived.Deep.RegionHeld3
import Derived.Deep.DrawnRows
namespace Go.Proofs.YtokjbmpiekadaaaDoor
open Go.RowKit

theorem mix_lit (s : Sha.St) (hs : Ok s) (bl : List Nat) (hl : bl.length = 64) (hby : ∀ x ∈ bl, x < 256) (r : Sha.St) (n : Nat) (hn : Hid (n = 64)) (hr : Hid (r = Sha.plus s (Sha.rounds s (Sha.wl bl n) n))) (w : World) (htab : Tab w) :
    Calls Tryd.prog 62 #[.agg #[.int .u32 (s.a : Int), .int .u32 (s.b : Int), .int .u32 (s.c : Int), .int .u32 (s.d : Int), .int .u32 (s.e : Int), .int .u32 (s.f : Int), .int .u32 (s.g : Int), .int .u32 (s.h : Int)], .agg (bl.map u8v).toArray] w
      fun e w' => e = .returned (.agg #[.int .u32 (r.a : Int), .int .u32 (r.b : Int), .int .u32 (r.c : Int), .int .u32 (r.d : Int), .int .u32 (r.e : Int), .int .u32 (r.f : Int), .int .u32 (r.g : Int), .int .u32 (r.h : Int)]) ∧ Below w.heap.size w w' := by
  have h := mix_any s hs bl hl hby w htab
  have e : Sha.comp s bl = r := by rw [hr.out, hn.out]; rfl
  rw [e] at h
  exact h

theorem slice_block (g f : Nat) (hf : f < 64) (w : World) : (Instr.sliceAt 103 (.pointer (some ⟨g, 8, none⟩)) (some (.int .i64 (f : Int))) none none).run Tryd.prog w = .ok (.slice (some ⟨g, 8 + f, none⟩) (64 - f) (64 - f)) w := by
  have ht : Tryd.prog.underlying 103 = some (.array (Tryd.prog.arrayLen 103) (Tryd.prog.elem 103)) := by kernel_rfl
  have ha : Tryd.prog.arrayLen 103 = 64 := by kernel_rfl
  have he : Tryd.prog.elem 103 = 5 := by kernel_rfl
  rw [run_sliceAt_array_l w 103 ⟨g, 8, none⟩ ht .i64 (f : Int) (by omega) (by rw [ha]; omega), he, ha]
  have hsz : (sizeOf 5).run Tryd.prog w = .ok 1 w := by kernel_rfl
  rw [hsz]
  simp only [Result.andThen_ok, slicedAt, Int.toNat_natCast, Nat.mul_one, Addr.add_mid]
  rw [if_neg (by omega)]

theorem slice_rest (b o L C n : Nat) (h1 : n ≤ L) (h2 : L ≤ C) : ∃ q, (n < L → q = some ⟨b, o + n, none⟩) ∧ (∀ w, (Instr.sliceAt 30 (.slice (some ⟨b, o, none⟩) L C) (some (.int .i64 (n : Int))) none none).run Tryd.prog w = .ok (.slice q (L - n) (C - n)) w) ∧
    ∀ w, (Instr.slice 30 (.slice (some ⟨b, o, none⟩) L C) (some (.int .i64 (n : Int))) none none).run Tryd.prog w = .ok (.slice q (L - n) (C - n)) w := by
  have ht : Tryd.prog.underlying 30 = some (.slice (Tryd.prog.elem 30)) := by kernel_rfl
  have he : Tryd.prog.elem 30 = 5 := by kernel_rfl
  have hr : ∀ w, (Instr.slice 30 (.slice (some ⟨b, o, none⟩) L C) (some (.int .i64 (n : Int))) none none).run Tryd.prog w = .ok (.slice (some (if C = n then ⟨b, o, none⟩ else ⟨b, o + n, none⟩)) (L - n) (C - n)) w := by
    intro w
    have hsz : (sizeOf 5).run Tryd.prog w = .ok 1 w := by kernel_rfl
    rw [run_slice_l w 30 (some ⟨b, o, none⟩) L C ht .i64 (n : Int) (by omega) (by omega), he, hsz]
    simp [sliced, Addr.add_mid]
    split <;> rfl
  refine ⟨some (if C = n then ⟨b, o, none⟩ else ⟨b, o + n, none⟩), fun h => by rw [if_neg (by omega)], fun w => ?_, hr⟩
  rw [run_sliceAt_slice _ _ _ _ _ _ ht]
  exact hr w

theorem SS_of {w' : World} {g : Nat} {s : Sha.St} {bl2 : List Nat} {T : Nat} (h : Row w' g (hcells s bl2 T) 105) (ht : Tab w') :
    Row w' g (hcells s bl2 T) 105 ∧ w'.cell? ⟨g, 0, none⟩ = some (.int .u32 (s.a : Int)) ∧ w'.cell? ⟨g, 1, none⟩ = some (.int .u32 (s.b : Int)) ∧ w'.cell? ⟨g, 2, none⟩ = some (.int .u32 (s.c : Int)) ∧ w'.cell? ⟨g, 3, none⟩ = some (.int .u32 (s.d : Int)) ∧ w'.cell? ⟨g, 4, none⟩ = some (.int .u32 (s.e : Int)) ∧ w'.cell? ⟨g, 5, none⟩ = some (.int .u32 (s.f : Int)) ∧ w'.cell? ⟨g, 6, none⟩ = some (.int .u32 (s.g : Int)) ∧ w'.cell? ⟨g, 7, none⟩ = some (.int .u32 (s.h : Int)) ∧ w'.rangeAt g 8 (bl2.map u8v) ∧ Tab w' ∧ w'.frozen? ⟨g, 0, none⟩ = false ∧ w'.frozen? ⟨g, 1, none⟩ = false ∧ w'.frozen? ⟨g, 2, none⟩ = false ∧ w'.frozen? ⟨g, 3, none⟩ = false ∧ w'.frozen? ⟨g, 4, none⟩ = false ∧ w'.frozen? ⟨g, 5, none⟩ = false ∧ w'.frozen? ⟨g, 6, none⟩ = false ∧ w'.frozen? ⟨g, 7, none⟩ = false :=
  ⟨h, h.cell 0, h.cell 1, h.cell 2, h.cell 3, h.cell 4, h.cell 5, h.cell 6, h.cell 7, hc_range h, ht, h.frozen 0, h.frozen 1, h.frozen 2, h.frozen 3, h.frozen 4, h.frozen 5, h.frozen 6, h.frozen 7⟩

/-- the cells of a hash's block -/
def blockOf (w : World) (g : Nat) : List Value := match w.heap[g]? with
  | some (.cells cs _ _) => (cs.toList.drop 8).take 64
  | _ => []
def Has (w : World) (g : Nat) : Prop := ∃ vs, Row w g vs 105 ∧ vs.length = 73
theorem range_blockOf {w : World} {g : Nat} (h : Has w g) : w.rangeAt g 8 (blockOf w g) ∧ (blockOf w g).length = 64 := by
  obtain ⟨vs, hr, hl⟩ := h
  have e : blockOf w g = (vs.drop 8).take 64 := by unfold Row at hr; simp [blockOf, hr]
  rw [e]
  refine ⟨fun j v hv => ?_, by simp [hl]⟩
  rw [hr.cell, ← hv, List.getElem?_take]
  have hj : j < 64 := by have := (List.getElem?_eq_some_iff.1 hv).1; simp at this; omega
  simp [hj]
theorem blockOf_row {w : World} {g : Nat} {s : Sha.St} {bl : List Nat} {T : Nat} (h : Row w g (hcells s bl T) 105) (hl : bl.length = 64) : blockOf w g = bl.map u8v := by
  unfold Row at h
  simp only [blockOf, h, hcells]
  rw [List.drop_append_of_le_length (by simp [Sha.St.list])]
  simp [Sha.St.list, hl]
def ptrBlock : Value → Nat
  | .pointer (some a) => a.block
  | _ => 0
theorem ptrBlock_pointer (a : Addr) : ptrBlock (.pointer (some a)) = a.block := rfl
theorem wp_load51 {d : Option Tmp} {ty : TypeId} {ps : String} {af : Array Edge} {gd : Option (Nat × Bool)} {a : Act} {w : World} {K : Act → World → Prop} {Q : Exit → Act → World → Prop} (h1 : a.eval (.tmp 47) = .pointer (some ⟨ptrBlock (a.eval (.tmp 47)), 8, none⟩)) (h2 : Has w (ptrBlock (a.eval (.tmp 47)))) :
    Oper.wp Tryd.prog { dst := d, op := Op.load 103 (Operand.tmp 47), type := ty, pos := ps, after := af, guard := gd } a w K Q = K (a.put d (.agg (blockOf w (ptrBlock (a.eval (.tmp 47)))).toArray)) w := by
  obtain ⟨hr, hl⟩ := range_blockOf h2
  have hrun := run_loadVar_mid (P := Tryd.prog) w _ 8 103 _ _ hr Tryd.underlying103 rfl (by rw [info103, hl])
  generalize blockOf w (ptrBlock (a.eval (.tmp 47))) = B at hrun ⊢
  unfold Oper.wp execOp
  generalize ptrBlock (a.eval (.tmp 47)) = g at h1 hrun
  simp only [h1, Instr.loadAt, Instr.sureAddr, Sem.run_bind, Sem.run_pure, Result.andThen_ok, hrun]
  rfl
attribute [local go_sem ↓] Go.wp_at_zero Go.wp_at_succ wp_load51
attribute [local go_sem] ptrBlock_pointer

theorem grownBy_drew (w : World) (row : Option Nat) : w.grownBy w.drew row := ⟨rfl, rfl, rfl, Nat.le_refl _, fun _ _ _ => rfl⟩
theorem eight_sets (w : World) (g : Nat) (v0 v1 v2 v3 v4 v5 v6 v7 : Value) : w.grownBy ((((((((w.setCell ⟨g, 0, none⟩ v0).setCell ⟨g, 1, none⟩ v1).setCell ⟨g, 2, none⟩ v2).setCell ⟨g, 3, none⟩ v3).setCell ⟨g, 4, none⟩ v4).setCell ⟨g, 5, none⟩ v5).setCell ⟨g, 6, none⟩ v6).setCell ⟨g, 7, none⟩ v7) (some g) :=
  grownBy_trans (grownBy_trans (grownBy_trans (grownBy_trans (grownBy_trans (grownBy_trans (grownBy_trans (grownBy_setCell _ _ _) (grownBy_setCell _ _ _)) (grownBy_setCell _ _ _)) (grownBy_setCell _ _ _)) (grownBy_setCell _ _ _)) (grownBy_setCell _ _ _)) (grownBy_setCell _ _ _)) (grownBy_setCell _ _ _)

set_option maxHeartbeats 1000000 in
set_option maxRecDepth 100000 in
theorem write_any (g : Nat) (m : List Nat) (bs : List Nat) (hbs : ∀ x ∈ bs, x < 256) (p : Option Addr) (b off cap : Nat) (w : World) (htab : Tab w) (hg0 : g ≠ 0) (hfed : Fed w g m) (hcap : bs.length ≤ cap) (hcap2 : cap ≤ 9223372036854775807)
    (hsz : m.length + bs.length < 1152921504606846976) (hp : 0 < bs.length → p = some ⟨b, off, none⟩ ∧ b ≠ g) (hsrc : ∀ j, j < bs.length → w.cell? ⟨b, off + j, none⟩ = some (u8v (bs.getD j 0))) :
    Calls Tryd.prog 53 #[.pointer (some ⟨g, 0, none⟩), .slice p bs.length cap] w fun e w' => e = .returned (.tuple #[]) ∧ Fed w' g (m ++ bs) ∧ w.grownBy w' (some g) := by
  obtain ⟨s, bl, hrow, hs, hl, hby, hbl, hok⟩ := hfed
  have c72 : w.cell? ⟨g, 72, none⟩ = some (.int .i64 (m.length : Int)) := by rw [hrow.cell, hc_total s bl _ hl]
  have f72 := hrow.frozen 72
  have hm1 : (m.length : Int) < 1152921504606846976 := by omega
  have hm2 : (m.length : Int) + (bs.length : Int) < 1152921504606846976 := by omega
  go_enter Tryd.func53, Tryd.ntmps53
  go_wp2_with fail
  have hstart : FedT (w.setCell ⟨g, 72, none⟩ (.int .i64 ((m.length : Int) + (bs.length : Int)))) g m (m.length + bs.length) :=
    ⟨s, bl, by rw [← hc_set_total s bl m.length _ hl, show ((m.length + bs.length : Nat) : Int) = (m.length : Int) + (bs.length : Int) by omega]; exact hrow.set_same 72 _, hs, hl, hby, hbl, hok⟩
  clear c72 f72 hrow hs hl hby hbl hok
  go_loopw [1, 4] (fun vb vf w' => ∃ (k : Nat) (q : Option Addr), k ≤ bs.length ∧ vb = .slice q (bs.length - k) (cap - k) ∧ vf = .int .i64 (((m ++ bs.take k).length % 64 : Nat) : Int) ∧ (k < bs.length → q = some ⟨b, off + k, none⟩) ∧ FedT w' g (m ++ bs.take k) (m.length + bs.length) ∧ w.grownBy w' (some g)) (fun vb _ _ => match vb with | .slice _ n _ => n | _ => 0)
  case atStart => exact ⟨0, p, by omega, rfl, by simp, fun h => (hp (by omega)).1, by simpa using hstart, grownBy_setCell w ⟨g, 72, none⟩ _⟩
  case round =>
    clear hstart
    obtain ⟨k, q, hk, rfl, rfl, hq, hfed, hgr⟩ := hrel
    by_cases hlt : k < bs.length
    · obtain rfl := hq hlt
      obtain ⟨s, bl, hrow, hs, hl, hby, hbl, hok⟩ := hfed
      have hbg : b ≠ g := (hp (by omega)).2
      obtain ⟨f, hf⟩ : ∃ f, f = (m ++ bs.take k).length % 64 := ⟨_, rfl⟩
      obtain ⟨L, hL⟩ : ∃ L, L = bs.length - k := ⟨_, rfl⟩
      obtain ⟨C, hC⟩ : ∃ C, C = cap - k := ⟨_, rfl⟩
      obtain ⟨n, hn⟩ : ∃ n, n = Nat.min L (64 - f) := ⟨_, rfl⟩
      have hn' : n = min L (64 - f) := hn
      have hf64 : f < 64 := by omega
      have hL0 : 0 < L := by omega
      have hLC : L ≤ C := by omega
      have hC2 : C ≤ 9223372036854775807 := by omega
      have hn0 : 0 < n := by omega
      have hnL : n ≤ L := by omega
      have hnf : n ≤ 64 - f := by omega
      have HL : Hid (L = bs.length - k) := hL
      have HC : Hid (C = cap - k) := hC
      have HF : Hid (f = (m ++ bs.take k).length % 64) := hf
      have HN : Hid (n = Nat.min L (64 - f)) := hn
      rw [← hL, ← hC, ← hf]
      have hcs : ((bs.drop k).take n).length = n := by simp; omega
      have hsrc' : ∀ j v, (((bs.drop k).take n).map u8v)[j]? = some v → wr.cell? ⟨b, off + k + j, none⟩ = some v := by
        intro j v hv
        have hj : j < n := by have := (List.getElem?_eq_some_iff.1 hv).1; simp at this; omega
        have hc := hsrc (k + j) (by omega)
        rw [show off + (k + j) = off + k + j by omega] at hc
        have := hgr.cell hc (by simpa using hbg)
        rw [this, ← hv]
        simp [hj]
        rw [List.getElem?_eq_getElem (by omega)]
        simp
      have hcb : ∀ x ∈ (bs.drop k).take n, x < 256 := fun x hx => hbs x (List.mem_of_mem_drop (List.mem_of_mem_take hx))
      have HCS : Hid (bs.take (k + n) = bs.take k ++ (bs.drop k).take n) := by show _ = _; rw [List.take_add]
      generalize (bs.drop k).take n = cs at hcs hsrc' hcb HCS
      have HS : Hid (s = Sha.run (m ++ bs.take k) ((m ++ bs.take k).length / 64)) := hs
      have HB : Hid (bl.take ((m ++ bs.take k).length % 64) = (m ++ bs.take k).drop (64 * ((m ++ bs.take k).length / 64))) := hbl
      have HM : Hid ((m ++ bs.take k).length = m.length + k) := by show _ = _; simp; omega
      clear hs hbl hf hL hC hn hn' hsrc hp hbs hm1 hm2 hq
      have hsl := slice_block g f hf64
      obtain ⟨q2, hq2, hsl2, hsl3⟩ := slice_rest b (off + k) L C n hnL hLC
      have HQ2 : Hid (n < L → q2 = some ⟨b, off + k + n, none⟩) := hq2
      clear hq2
      by_cases hfull : f + n = 64
      · have tst : (((f : Int) + (n : Int)) == (64 : Int)) = true := by rw [beq_iff_eq]; omega
        have HFULL : Hid (f + n = 64) := hfull
        clear hfull
        go_wp2_with (refine wpList_copy_Row rfl _ _ 30 30 rfl 5 Tryd.underlying30 info5 g (8 + f) (64 - f) (64 - f) b (off + k) L C rfl rfl (hcells s bl (m.length + bs.length)) 105 hrow (cs.map u8v) n (by simpa using hcs) HN.out hsrc' (by rw [hc_length _ _ _ hl]; omega) (one_u8 cs) ?_; intro w1 hr1 hg1 hs1)
        rw [hc_splice s bl _ f cs hl (by omega)] at hr1
        have hl' : (splice bl f cs).length = 64 := by rw [length_splice _ _ _ (by omega)]; exact hl
        have hby' := splice_bytes (f := f) hby hcb
        obtain ⟨bl2, hbl2⟩ : ∃ bl2, bl2 = splice bl f cs := ⟨_, rfl⟩
        have HB2 : Hid (bl2 = splice bl f cs) := hbl2
        have HBL : Hid (bl.length = 64) := hl
        have HCL : Hid (cs.length = n) := hcs
        rw [← hbl2] at hr1 hl' hby'
        obtain ⟨r, n64, h64, hr⟩ : ∃ r n64, Hid (n64 = 64) ∧ Hid (r = Sha.plus s (Sha.rounds s (Sha.wl bl2 n64) n64)) := ⟨_, 64, rfl, rfl⟩
        obtain ⟨T, hT⟩ : ∃ T, T = m.length + bs.length := ⟨_, rfl⟩
        have HT : Hid (T = m.length + bs.length) := hT
        rw [← hT] at hr1
        have hgr1 := grownBy_trans hgr hg1
        have htab1 : Tab w1 := htab.grown hgr1 (by simp; omega)
        have hu51 := Tryd.underlying103
        have hi51 : (Tryd.prog.info? 103).map (·.size) = some (bl2.map u8v).length := by rw [info103]; simp [hl']
        have hlm : (bl2.map u8v).length = 64 := by simp [hl']
        have S0 := SS_of hr1 htab1
        have htab1d : Tab w1.drew := htab1
        have hr1d : Row w1.drew g (hcells s bl2 T) 105 := hr1
        clear hbl2 hT hrow hsl hsl2 hsl3 hsrc' hcb hby hl hcs htab hgr hg1 hs1
        have hhas : Has w1.drew g := ⟨_, hr1d, hc_length _ _ _ hl'⟩
        have hbo : blockOf w1.drew g = bl2.map u8v := blockOf_row hr1d hl'
        obtain ⟨_, d0, d1, d2, d3, d4, d5, d6, d7, _, _, _⟩ := S0
        go_region_with (first | (go_at_call 62; refine (mix_lit s hok bl2 hl' hby' r n64 h64 hr w1.drew htab1d).mono ?_; rintro e w2 ⟨rfl, hbm⟩; have hr2 := Row.below hr1d hbm hr1d.lt; have S2 := SS_of hr2 (htab1d.below hbm htab1d.pos); obtain ⟨_, e0, e1, e2, e3, e4, e5, e6, e7, _, _, g0, g1, g2, g3, g4, g5, g6, g7⟩ := S2))
        all_goals
          go_wp2
          go_roundw
          case rel =>
            go_light
            have eL := HL.out
            have eC := HC.out
            have eF := HF.out
            have hfull := feed_full (m ++ bs.take k) bl cs HBL.out HB.out (by rw [← eF, HCL.out]; exact HFULL.out)
            rw [← eF, ← HB2.out] at hfull
            have hM : m ++ bs.take (k + n) = (m ++ bs.take k) ++ cs := by rw [HCS.out, List.append_assoc]
            refine ⟨k + n, q2, by omega, ?_, ?_, ?_, ?_, ?_⟩
            · rw [show L - n = bs.length - (k + n) by omega, show C - n = cap - (k + n) by omega]
            · rw [hM, hfull.2.1]; rfl
            · intro h; rw [HQ2.out (by omega), Nat.add_assoc]
            · rw [hM]
              refine ⟨r, bl2, ?_, ?_, hl', hby', by rw [hfull.2.1, hfull.2.2]; rfl, ?_⟩
              · rw [← HT.out, ← hc_set_state s r bl2 T]
                exact (((((((hr2.set_same _ _).set_same _ _).set_same _ _).set_same _ _).set_same _ _).set_same _ _).set_same _ _).set_same _ _
              · rw [hfull.1, ← HS.out, hr.out, h64.out]; rfl
              · rw [hr.out]; exact plus_ok _ _
            · exact grownBy_trans (grownBy_trans (grownBy_trans hgr1 (grownBy_drew w1 _)) (grown_of_below hbm)) (eight_sets w2 g _ _ _ _ _ _ _ _)
          case measure => simp; omega
      · have tst : (((f : Int) + (n : Int)) == (64 : Int)) = false := by rw [beq_eq_false_iff_ne]; omega
        have HNF : Hid (¬ f + n = 64) := hfull
        go_wp2_with (refine wpList_copy_Row rfl _ _ 30 30 rfl 5 Tryd.underlying30 info5 g (8 + f) (64 - f) (64 - f) b (off + k) L C rfl rfl (hcells s bl (m.length + bs.length)) 105 hrow (cs.map u8v) n (by simpa using hcs) HN.out hsrc' (by rw [hc_length _ _ _ hl]; omega) (one_u8 cs) ?_; intro w1 hr1 hg1 hs1)
        go_roundw
        case rel =>
          go_light
          rw [hc_splice s bl _ f cs hl (by omega)] at hr1
          have eL := HL.out
          have eC := HC.out
          have eF := HF.out
          have eM := HM.out
          have hB := HB.out
          rw [← eF] at hB
          have hM : m ++ bs.take (k + n) = (m ++ bs.take k) ++ cs := by rw [HCS.out, List.append_assoc]
          have hpart := feed_part (m ++ bs.take k) bl cs hl HB.out (by rw [← eF, hcs]; omega)
          rw [← eF] at hpart
          refine ⟨k + n, q2, by omega, ?_, ?_, ?_, ?_, ?_⟩
          · rw [show L - n = bs.length - (k + n) by omega, show C - n = cap - (k + n) by omega]
          · rw [hM, show ((m ++ bs.take k) ++ cs).length % 64 = f + n by rw [List.length_append, hcs]; omega]; go_num
          · intro h; rw [HQ2.out (by omega), Nat.add_assoc]
          · rw [hM]
            exact ⟨s, splice bl f cs, hr1, by rw [hpart.1]; exact HS.out, by rw [length_splice _ _ _ (by omega)]; exact hl, splice_bytes hby hcb, hpart.2, hok⟩
          · exact grownBy_trans hgr hg1
        case measure => simp; omega
    · have HK : Hid (k = bs.length) := by show k = _; omega
      have hz : bs.length - k = 0 := by omega
      rw [hz]
      clear hz hsrc hp hq hbs htab hm1 hm2 hlt hk
      go_wp2
      go_end0
      rw [HK.out, List.take_of_length_le (Nat.le_refl _)] at hfed
      refine ⟨rfl, ?_, hgr⟩
      unfold Fed
      rw [List.length_append]
      exact hfed
end Go.Proofs.YtokjbmpiekadaaaDoor
