/-
  The walk of PlainRefused.
-/
import Derived.Deep.CutRange
import Derived.Laws.CopyOwn
import Derived.Deep.RegionLaw
import Derived.Deep.DrawnRows
import Derived.Lib.SlBytesConst
import Derived.Lib.AppendZeros
import Derived.Laws.Tables
import Derived.Test.YtngehkmdanhgpaaGreatR00
import Derived.Test.YtngehkmdanhgpaaGreatR01
import Derived.Test.YtngehkmdanhgpaaGreatR02
import Derived.Test.YtngehkmdanhgpaaGreatR03
import Derived.Test.YtngehkmdanhgpaaGreatR04
import Derived.Test.YtngehkmdanhgpaaGreatR05
import Derived.Test.YtngehkmdanhgpaaGreatR06
import Derived.Test.YtngehkmdanhgpaaGreatR07
import Derived.Test.YtngehkmdanhgpaaGreatR08
import Derived.Test.YtngehkmdanhgpaaGreatR09
import Derived.Test.YtngehkmdanhgpaaGreatR10
import Derived.Test.YtngehkmdanhgpaaGreatR11
import Derived.Test.YtngehkmdanhgpaaGreatR12
import Derived.Test.YtngehkmdanhgpaaGreatR13
import Derived.Test.YtngehkmdanhgpaaGreatR14
import Derived.Test.YtngehkmdanhgpaaGreatR15
import Derived.Test.YtngehkmdanhgpaaGreatR16
import Derived.Test.YtngehkmdanhgpaaGreatR17
import Derived.Test.YtngehkmdanhgpaaGreatR18
import Derived.Test.YtngehkmdanhgpaaGreatR19
import Derived.Test.YtngehkmdanhgpaaGreatR20
import Derived.Test.YtngehkmdanhgpaaGreatR21
import Derived.Test.YtngehkmdanhgpaaGreatR22
import Derived.Test.YtngehkmdanhgpaaGreatR23
import Derived.Test.YtngehkmdanhgpaaGreatR24
import Derived.Test.YtngehkmdanhgpaaGreatR25
import Derived.Test.YtngehkmdanhgpaaGreatR26
import Derived.Test.YtngehkmdanhgpaaGreatR27
import Derived.Test.YtngehkmdanhgpaaGreatR28
import Derived.Test.YtngehkmdanhgpaaGreatR29
import Derived.Test.YtngehkmdanhgpaaGreatR30
import Derived.Test.YtngehkmdanhgpaaGreatR31
import Derived.Test.YtngehkmdanhgpaaGreatR32
import Derived.Test.YtngehkmdanhgpaaGreatR33
import Derived.Test.YtngehkmdanhgpaaGreatR34
import Derived.Test.YtngehkmdanhgpaaGreatR35
import Derived.Test.YtngehkmdanhgpaaGreatR36
import Derived.Test.YtngehkmdanhgpaaGreatR37
import Derived.Test.YtngehkmdanhgpaaGreatR38
import Derived.Test.YtngehkmdanhgpaaGreatR39
import Derived.Test.YtngehkmdanhgpaaGreatR40
import Derived.Test.YtngehkmdanhgpaaGreatR41
import Derived.Test.YtngehkmdanhgpaaGreatR42
import Derived.Test.YtngehkmdanhgpaaGreatR43
import Derived.Test.YtngehkmdanhgpaaGreatR44
import Derived.Test.YtngehkmdanhgpaaGreatR45
import Derived.Test.YtngehkmdanhgpaaGreatR46
namespace Go.Proofs.YtngehkmdanhgpaaGreat.Pl
open Go.RowKit
open Vp (Str B bl Val cmpL parseS showS splitS withinS IsPath)
open Nd (take_put Row wp_world post_Row post_Row2 grownBy_setCell below_of_grown Opn checkS)
open Rf (Fil Fls fcells)
/-- between two rounds -/
def ScF (w : World) (g m : Nat) (i : Nat) (W : World) : Prop := ∃ A, FsA W g m A ∧ Tree A ∧ Small A ∧ A.length ≤ 101 + i ∧ Below w.heap.size w W
/-- within a round: the file system, its clone, the list that was, the result -/
structure PQ (w : World) (g m g2 m2 : Nat) (C D : List Ent) (vl : Value) (l : List Fil) (bx : Nat) (R : RA) (v6 : Value) (W : World) : Prop where
  f : FsA W g m C
  c : FsA W g2 m2 D
  was : Fls W vl l
  row : Row W bx [.int .i64 R.code, .bool R.dir, .int .i64 R.size, .string R.data, v6] 37
  nm : Rf.Nm W v6 R.names
  bel : Below w.heap.size w W
  ne : m ≠ m2
theorem PQ.below {w : World} {g m g2 m2 : Nat} {C D : List Ent} {vl : Value} {l : List Fil} {bx : Nat} {R : RA} {v6 : Value} {W W' : World} (h : PQ w g m g2 m2 C D vl l bx R v6 W) (k : Below W.heap.size W W') : PQ w g m g2 m2 C D vl l bx R v6 W' :=
  ⟨h.f.below k, h.c.below k, h.was.below k, h.row.below k h.row.lt, h.nm.below k, h.bel.trans (k.mono h.bel.size), h.ne⟩
theorem FsA.map_at {w : World} {g m : Nat} {A : List Ent} (h : FsA w g m A) : ∃ es clock, w.heap[m]? = some (.map es clock) := by
  obtain ⟨L, h1, _⟩ := h
  obtain ⟨es, clock, hb, _⟩ := h1.map.ex
  exact ⟨es, clock, hb⟩
theorem FsA.apart {w W : World} {g m g2 m2 : Nat} {A D : List Ent} (h : FsA w g m A) (k : FsA w g2 m2 D) (hn : m ≠ m2) (hg : w.grownBy W (some m2)) : FsA W g m A := by
  obtain ⟨es, clock, hb⟩ := k.map_at
  obtain ⟨L, h1, h2⟩ := h
  refine ⟨L, h1.grown hg (fun j e => ?_), h2⟩
  obtain rfl := Option.some.inj e
  refine ⟨fun e => hn e.symm, fun e => ?_, fun cs fr e => ?_⟩
  · have hr := h1.row
    unfold Row at hr
    rw [e, hr] at hb
    cases hb
  · rw [hb] at e
    cases e
theorem nm_mapA {w W : World} {g m : Nat} {A : List Ent} (h : FsA w g m A) (hg : w.grownBy W (some m)) {v : Value} {xs : List Str} (hn : Rf.Nm w v xs) : Rf.Nm W v xs := by
  obtain ⟨es, clock, hb⟩ := h.map_at
  exact nm_kept hn (fun b cs fr e => by
    rw [hg.block b (Array.getElem?_eq_some_iff.1 e).1 (fun e2 => by obtain rfl := Option.some.inj e2; rw [hb] at e; cases e)]
    exact e)
theorem PQ.grown {w : World} {g m g2 m2 : Nat} {C D D' : List Ent} {vl : Value} {l : List Fil} {bx : Nat} {R : RA} {v6 : Value} {W W' : World} (h : PQ w g m g2 m2 C D vl l bx R v6 W) (hF : FsA W' g2 m2 D') (hg : W.grownBy W' (some m2)) (hm : w.heap.size ≤ m2) : PQ w g m g2 m2 C D' vl l bx R v6 W' :=
  ⟨h.f.apart h.c h.ne hg, hF, fls_map h.c hg h.was, row_stays h.row h.c hg, nm_mapA h.c hg h.nm, h.bel.grown hg h.bel.size (fun j e => by obtain rfl := Option.some.inj e; exact hm), h.ne⟩
set_option maxHeartbeats 40000000 in
set_option maxRecDepth 100000 in
theorem refused_any (fs : List Fil) (os : List Opn) (v u : Value) (w : World) (hf : Fls w v fs) (ho : Ops w u os) (hps : ∀ f ∈ fs, f.path.size ≤ 9223372036854775807) (hos : ∀ x ∈ os, x.path.size ≤ 9223372036854775807 ∧ x.dest.size ≤ 9223372036854775807) :
    Calls Tryz.prog 4 #[v, u] w fun e w' => e = .returned (.bool true) ∧ Below w.heap.size w w' := by
  obtain ⟨p0, c0, rfl⟩ := hf.form
  obtain ⟨p1, c1, rfl, hol, hoc⟩ := ops_at ho
  have HAW := hid_in (awake_any w)
  have HFI := hid_in (fun W (k : Below w.heap.size w W) => fitsO_any W _ _ fs os (hf.below k) (ho.below k))
  have HNW := hid_in (fun W (k : Below w.heap.size w W) (hn : fs.length ≤ 100) => w_newS (hf.below k) hn hps)
  have HOC := hid_in hoc
  have HOS := hid_in hos
  have HOL := hid_in hol
  clear hf ho hps hoc hos hol
  generalize fs.length = N at *
  generalize hM0 : os.length = M at *
  have HMM := hid_in hM0
  obtain ⟨K, HK⟩ : ∃ K, Hid (K = min M 40) := ⟨_, hid_in rfl⟩
  clear hM0
  go_enter Tryz.func4, Tryz.ntmps4
  go_upto_region 3 with (go_at_call 8; refine HAW.out.mono ?_; rintro e w1 ⟨rfl, hb1⟩; have HB1 := hid_in hb1; clear hb1)
  go_upto_region 5 with (go_at_call 9; refine (HFI.out _ HB1.out).mono ?_; rintro e w2 ⟨⟨t, rfl, ht⟩, hb2⟩; have HB2 := hid_in (HB1.out.trans (hb2.mono HB1.out.size)); clear hb2; have HT := hid_in ht; clear ht; rcases t with _ | _; (focus (go_wp2_with fail; go_ret; exact ⟨rfl, HB2.out⟩)))
  have hN : N ≤ 100 := by first | exact HT.out rfl | exact HT.out trivial | exact HT.out
  have HN := hid_in hN
  clear HT hN
  go_upto_region 8 with (go_at_call 10; refine (HNW.out _ HB2.out HN.out).mono ?_; rintro e w3 ⟨hb3, ⟨k, hk, rfl⟩ | ⟨g, m, A, rfl, hF, hm, hT, hS, hl⟩⟩; (focus (have HB3 := hid_in (HB2.out.trans (hb3.mono HB2.out.size)); have hk2 : (k != 0) = true := (by simpa using hk); clear hb3 hk; go_wp2_with fail; go_ret; exact ⟨rfl, HB3.out⟩)); have HM := hid_in (Nat.le_trans HB2.out.size hm); have HSC : Hid (ScF w g m 0 w3) := hid_in ⟨A, hF, hT, hS, hl, HB2.out.trans (hb3.mono HB2.out.size)⟩; clear hb3 hF hm hT hS hl)
  clear HAW HFI HNW
  go_wp2
  go_loopw [7] (fun vi W => ∃ i : Nat, i ≤ K ∧ vi = .int .i64 (i : Int) ∧ Hid (ScF w g m i W)) (fun vi _ => K - (intOf vi).toNat)
  case atStart => exact ⟨0, by omega, rfl, HSC.out⟩
  case round =>
    obtain ⟨i, hi, rfl, hsc⟩ := hrel
    have HI := hid_in hi
    have hM : (M : Int) ≤ 9223372036854775807 := by have := HOL.out; omega
    by_cases hlt : i < K
    · have hj1 : (i : Int) < (M : Int) := by have := HK.out; omega
      have hj2 : (i : Int) < 40 := by have := HK.out; omega
      have hj3 : ¬ (i : Int) < 0 := by omega
      have hj4 : 0 ≤ (i : Int) := by omega
      have hlo : i < os.length := by rw [HMM.out]; have := HK.out; omega
      have HI40 : Hid (i < 40) := hid_in (by have := HK.out; omega)
      obtain ⟨b, o, rfl, hcs⟩ := HOC.out (by intro e; rw [e] at hlo; simp at hlo)
      have HCS := hid_in (fun W (k : Below w.heap.size w W) => hcs W k i _ (List.getElem?_eq_getElem hlo))
      obtain ⟨A, hF, hT, hS, hl, hb⟩ := hsc.out
      obtain ⟨s1, s2⟩ := HOS.out _ (List.getElem_mem hlo)
      have HST := hid_in (fun W g m (k : FsA W g m A) => stepT_any k hT hS (by have := HI40.out; omega) os[i].kind os[i].at_ os[i].size os[i].path os[i].dest os[i].data s1 s2)
      have HTA := hid_in hT
      have HND := hid_in hF.one.1
      have HLA := hid_in hl
      have HL9 : Hid (A.length ≤ 200) := hid_in (by have := HI40.out; omega)
      have HF := hid_in hF
      have HB := hid_in hb
      have HLT := hid_in hlt
      generalize os[i] = x at *
      obtain ⟨xk, xp, xt, xd, xa, xz⟩ := x
      simp only at HST HCS
      clear s1 s2 hF hT hS hl hb hsc hlt hlo hi hcs HOC HSC
      go_upto_region 13 with (first | (go_at_call 17; refine (clone_any HF4.out).mono ?_; rintro e w5 ⟨g2, m2, rfl, hc5, hb5, hm5, hg5⟩; have HC5 := hid_in hc5; have HF5 := hid_in (HF4.out.below hb5); have HW5 := hid_in (HW4.out.below hb5); have HB5 := hid_in (HB4.out.trans (hb5.mono HB4.out.size)); have HNE : Hid (m ≠ m2) := hid_in (by obtain ⟨es, cl, hq⟩ := HF4.out.map_at; have := (Array.getElem?_eq_some_iff.1 hq).1; omega); have HM2 := hid_in (Nat.le_trans HB4.out.size hm5); clear hc5 hb5 hm5 hg5) | (go_at_call 16; refine (w_list HF.out (by have := HL9.out; omega)).mono ?_; rintro e w4 ⟨lp, lc, l, rfl, hw4, hl4, hF4, hb4⟩; have HF4 := hid_in hF4; have HW4 := hid_in hw4; have HLI := hid_in hl4; have HB4 := hid_in (HB.out.trans (hb4.mono HB.out.size)); clear hw4 hl4 hF4 hb4))
      obtain ⟨k0, k1, k2, k3, k4, k5⟩ := HCS.out _ HB5.out
      go_upto_region 14 with (go_at_call 14; refine (HST.out _ _ _ HF5.out).mono ?_; rintro e w6 ⟨R, v6, C, rfl, hn6, hF6, hk6, hg6, ht6⟩; obtain ⟨pn, cn, rfl⟩ := hn6.form; have HNM6 := hid_in hn6; have HF6 := hid_in hF6; have HKC := hid_in hk6; have HG6 := hid_in hg6; have HTE := hid_in ht6; clear hn6 hF6 hk6 hg6 ht6)
      obtain ⟨rc, rd, rs, rx, rn⟩ := R
      simp only at HNM6
      obtain ⟨w7, HW7⟩ : ∃ w7, Hid (w6.alloc (.cells #[.int .i64 rc, .bool rd, .int .i64 rs, .string rx, .slice pn rn.length cn] 37) = w7) := ⟨_, hid_in rfl⟩
      have HB7 : Hid (Below w6.heap.size w6 w7) := hid_in (by rw [← HW7.out]; exact (Below.refl _ _).alloc (Nat.le_refl _) _)
      have HP7 : Hid (PQ w g m g2 m2 C A (.slice lp l.length lc) l w6.heap.size ⟨rc, rd, rs, rx, rn⟩ (.slice pn rn.length cn) w7) := hid_in ⟨HF6.out.below HB7.out, (HC5.out.apart HF5.out (fun e => HNE.out e.symm) HG6.out).below HB7.out, (fls_map HF5.out HG6.out HW5.out).below HB7.out, by rw [← HW7.out]; exact Row.new w6 [.int .i64 rc, .bool rd, .int .i64 rs, .string rx, .slice pn rn.length cn] 37, HNM6.out.below HB7.out, (HB5.out.grown HG6.out HB5.out.size (fun j e => by obtain rfl := Option.some.inj e; exact HM.out)).trans (HB7.out.mono (Nat.le_trans HB5.out.size HG6.out.size)), HNE.out⟩
      refine wp_world HW7.out ?_
      have HDC := hid_in (fun W (k : PQ w g m g2 m2 C A (.slice lp l.length lc) l w6.heap.size ⟨rc, rd, rs, rx, rn⟩ (.slice pn rn.length cn) W) => HST.out W g2 m2 k.c)
      have HSE := hid_in (fun (hh : rd = false ∧ rs = 0 ∧ rx = ⟨#[]⟩ ∧ rn = []) W (k : PQ w g m g2 m2 C A (.slice lp l.length lc) l w6.heap.size ⟨rc, rd, rs, rx, rn⟩ (.slice pn rn.length cn) W) => (by
        have hn := k.nm
        obtain ⟨rfl, rfl, rfl, rfl⟩ := hh
        exact same_rc rc 0 false ⟨#[]⟩ [] _ (.slice none 0 0) W hn (nm_nil W) : Calls Tryz.prog 13 #[.agg #[.int .i64 rc, .bool rd, .int .i64 rs, .string rx, .slice pn rn.length cn], .agg #[.int .i64 rc, .bool false, .int .i64 0, .string ⟨#[]⟩, .slice none 0 0]] W fun e w' => e = .returned (.bool true) ∧ Below W.heap.size W w'))
      have HSM := hid_in (fun (v10 : Value) W (hn : Rf.Nm W v10 rn) (D : List Ent) (k : PQ w g m g2 m2 C D (.slice lp l.length lc) l w6.heap.size ⟨rc, rd, rs, rx, rn⟩ (.slice pn rn.length cn) W) => same_rc rc rs rd rx rn v10 (.slice pn rn.length cn) W hn k.nm)
      have HCP := hid_in (fun (D : List Ent) W (k : PQ w g m g2 m2 C D (.slice lp l.length lc) l w6.heap.size ⟨rc, rd, rs, rx, rn⟩ (.slice pn rn.length cn) W) => (And.intro (k.row.cell 0) (And.intro (k.row.cell 1) (And.intro (k.row.cell 2) (And.intro (k.row.cell 3) (And.intro (k.row.cell 4) (HCS.out W k.bel)))))))
      simp only [List.getElem?_cons_succ, List.getElem?_cons_zero] at HCP
      have HONE := hid_in (fun (R2 : RA) (D : List Ent) (h : Tells A xk xa xz xp xt xd R2 D) => Tells.one HTA.out HND.out h HTE.out)
      have HLD := hid_in (fun (l' : List Fil) (h : Lists A l') => (Lists.one HND.out h HLI.out (List.Perm.refl _) : l = l'))
      have HERR := hid_in (fun (h : rc ≠ 0) => HTE.out.err h)
      have HRDS := hid_in (fun (h : xk = 8 ∨ xk = 9 ∨ xk = 10) => HTE.out.reads h)
      obtain ⟨r0, r1, r2, r3, r4, k0', k1', k2', k3', k4', k5'⟩ := HCP.out _ _ HP7.out
      simp only at HERR
      generalize w6.heap.size = bx at *
      generalize rn.length = nl at *
      clear HW7 HB7 HNM6 HF6 HG6 HTE HC5 HF5 HW5 HB5 HF4 HW4 HB4 HST k0 k1 k2 k3 k4 k5 HF HB HOS HLI HTA HMM HN HOL
      by_cases h0 : rc = 0
      · subst h0
        clear HERR HSE
        have HRD0 := hid_in (fun W => Nd.reads_any xk W)
        cases hr : Nd.readsK xk with
        | true =>
          have HRD := HRD0
          rw [hr] at HRD
          clear HRD0
          have hCA : C = A := HRDS.out (by unfold Nd.readsK at hr; simp only [Bool.or_eq_true, beq_iff_eq] at hr; exact hr)
          have HLO : Hid (∀ l', Lists C l' → l = l') := hid_in (fun l' h => HLD.out l' (by rw [← hCA]; exact h))
          clear hCA HRDS hr
          go_upto_region 16 with (first | (go_at_call 18; refine (HRD.out _).mono ?_; rintro e w70 ⟨rfl, rfl⟩) | (go_at_call 12; refine (Rf.files_same _ _ _ _ HW73.out HP73.out.was).mono ?_; rintro e w8 ⟨rfl, hb8⟩; have HP8 := hid_in (HP73.out.below hb8); clear hb8 HW73) | (go_at_call 16; refine (w_list HP72.out.c (by have := HL9.out; omega)).mono ?_; rintro e w73 ⟨p73, c73, l73, rfl, hw73, hl73, -, hb73⟩; have HP73 := hid_in (HP72.out.below hb73); have HW73 := hid_in hw73; obtain rfl := HLD.out l73 hl73; clear hw73 hl73 hb73) | (go_at_call 12; refine (Rf.files_same _ _ _ _ HW71.out HP71.out.was).mono ?_; rintro e w72 ⟨rfl, hb72⟩; have HP72 := hid_in (HP71.out.below hb72); clear hb72 HW71) | (go_at_call 16; refine (w_list HP7.out.f (by have := HKC.out.len; have := HL9.out; omega)).mono ?_; rintro e w71 ⟨p71, c71, l71, rfl, hw71, hl71, -, hb71⟩; have HP71 := hid_in (HP7.out.below hb71); have HW71 := hid_in hw71; obtain rfl := HLO.out l71 hl71; clear hw71 hl71 hb71))
          have HP8d := hid_in (HP8.out.below (Below.refl _ _).drew)
          clear HP8
          have HP8 := HP8d
          clear HP8d
          refine wp_region_held_drew (S := fun W => W.cell? ⟨bx, 0, none⟩ = some (.int .i64 0) ∧ W.cell? ⟨bx, 1, none⟩ = some (.bool rd) ∧ W.cell? ⟨bx, 2, none⟩ = some (.int .i64 rs) ∧ W.cell? ⟨bx, 3, none⟩ = some (.string rx) ∧ W.cell? ⟨bx, 4, none⟩ = some (.slice pn nl cn) ∧ W.cell? ⟨b, o + i * 6, none⟩ = some (.int .i64 xk) ∧ W.cell? ⟨b, o + i * 6 + 1, none⟩ = some (.string xp) ∧ W.cell? ⟨b, o + i * 6 + 2, none⟩ = some (.string xt) ∧ W.cell? ⟨b, o + i * 6 + 3, none⟩ = some (.string xd) ∧ W.cell? ⟨b, o + i * 6 + 4, none⟩ = some (.int .i64 xa) ∧ W.cell? ⟨b, o + i * 6 + 5, none⟩ = some (.int .i64 xz)) (by kernel_rfl) (HCP.out _ _ HP8.out) (fun hHeld => ?_)
          refine take_put (i := 0) (d := 72) (v := ?_) rfl rfl (by kernel_rfl) (by kernel_rfl) (by kernel_rfl) (fun _ _ _ h => h) (Or.inl ⟨by kernel_rfl, ?_⟩) hHeld ?_
          rotate_left
          · (intro w hSw; (try dsimp only at hSw); go_simp; (try with_reducible rfl))
          simp only [Act.put, List.setIfInBounds_toArray, List.set_cons_zero, List.set_cons_succ]
          refine take_put (i := 1) (d := 73) (v := ?_) rfl rfl (by kernel_rfl) (by kernel_rfl) (by kernel_rfl) (fun _ _ _ h => h) (Or.inl ⟨by kernel_rfl, ?_⟩) hHeld ?_
          rotate_left
          · (intro w hSw; (try dsimp only at hSw); go_simp; (try with_reducible rfl))
          simp only [Act.put, List.setIfInBounds_toArray, List.set_cons_zero, List.set_cons_succ]
          refine take_put (i := 2) (d := 74) (v := .bool false) rfl rfl (by kernel_rfl) (by kernel_rfl) (by kernel_rfl) (fun _ _ _ h => h) (Or.inl ⟨by kernel_rfl, fun w hSw => ?_⟩) hHeld ?_
          · (go_simp)
          simp only [Act.put, List.setIfInBounds_toArray, List.set_cons_zero, List.set_cons_succ]
          refine take_put (i := 3) (d := 75) (v := ?_) rfl rfl (by kernel_rfl) (by kernel_rfl) (by kernel_rfl) (fun _ _ _ h => h) (Or.inl ⟨by kernel_rfl, ?_⟩) hHeld ?_
          rotate_left
          · (intro w hSw; (try dsimp only at hSw); go_simp; (try with_reducible rfl))
          simp only [Act.put, List.setIfInBounds_toArray, List.set_cons_zero, List.set_cons_succ]
          refine take_put (i := 4) (d := 76) (v := undef) rfl rfl (by kernel_rfl) (by kernel_rfl) (by kernel_rfl) (fun _ _ _ h => h) (Or.inr ⟨by kernel_rfl, rfl⟩) hHeld ?_
          simp only [Act.put, List.setIfInBounds_toArray, List.set_cons_zero, List.set_cons_succ]
          refine take_put (i := 5) (d := 77) (v := undef) rfl rfl (by kernel_rfl) (by kernel_rfl) (by kernel_rfl) (fun _ _ _ h => h) (Or.inr ⟨by kernel_rfl, rfl⟩) hHeld ?_
          simp only [Act.put, List.setIfInBounds_toArray, List.set_cons_zero, List.set_cons_succ]
          refine take_put (i := 6) (d := 78) (v := undef) rfl rfl (by kernel_rfl) (by kernel_rfl) (by kernel_rfl) (fun _ _ _ h => h) (Or.inr ⟨by kernel_rfl, rfl⟩) hHeld ?_
          simp only [Act.put, List.setIfInBounds_toArray, List.set_cons_zero, List.set_cons_succ]
          refine take_put (i := 7) (d := 79) (v := undef) rfl rfl (by kernel_rfl) (by kernel_rfl) (by kernel_rfl) (fun _ _ _ h => h) (Or.inr ⟨by kernel_rfl, rfl⟩) hHeld ?_
          simp only [Act.put, List.setIfInBounds_toArray, List.set_cons_zero, List.set_cons_succ]
          refine take_put (i := 8) (d := 80) (v := undef) rfl rfl (by kernel_rfl) (by kernel_rfl) (by kernel_rfl) (fun _ _ _ h => h) (Or.inr ⟨by kernel_rfl, rfl⟩) hHeld ?_
          simp only [Act.put, List.setIfInBounds_toArray, List.set_cons_zero, List.set_cons_succ]
          refine take_put (i := 9) (d := 81) (v := undef) rfl rfl (by kernel_rfl) (by kernel_rfl) (by kernel_rfl) (fun _ _ _ h => h) (Or.inr ⟨by kernel_rfl, rfl⟩) hHeld ?_
          simp only [Act.put, List.setIfInBounds_toArray, List.set_cons_zero, List.set_cons_succ]
          refine take_put (i := 10) (d := 82) (v := .bool false) rfl rfl (by kernel_rfl) (by kernel_rfl) (by kernel_rfl) (fun _ _ _ h => h) (Or.inl ⟨by kernel_rfl, fun w hSw => ?_⟩) hHeld ?_
          · (go_simp)
          simp only [Act.put, List.setIfInBounds_toArray, List.set_cons_zero, List.set_cons_succ]
          refine take_put (i := 11) (d := 83) (v := ?_) rfl rfl (by kernel_rfl) (by kernel_rfl) (by kernel_rfl) (fun _ _ _ h => h) (Or.inl ⟨by kernel_rfl, ?_⟩) hHeld ?_
          rotate_left
          · (intro w hSw; (try dsimp only at hSw); go_simp; (try with_reducible rfl))
          simp only [Act.put, List.setIfInBounds_toArray, List.set_cons_zero, List.set_cons_succ]
          refine take_put (i := 12) (d := 84) (v := ?_) rfl rfl (by kernel_rfl) (by kernel_rfl) (by kernel_rfl) (fun _ _ _ h => h) (Or.inl ⟨by kernel_rfl, ?_⟩) hHeld ?_
          rotate_left
          · (intro w hSw; (try dsimp only at hSw); go_simp; (try with_reducible rfl))
          simp only [Act.put, List.setIfInBounds_toArray, List.set_cons_zero, List.set_cons_succ]
          refine take_put (i := 13) (d := 85) (v := ?_) rfl rfl (by kernel_rfl) (by kernel_rfl) (by kernel_rfl) (fun _ _ _ h => h) (Or.inl ⟨by kernel_rfl, ?_⟩) hHeld ?_
          rotate_left
          · (intro w hSw; (try dsimp only at hSw); go_simp; (try with_reducible rfl))
          simp only [Act.put, List.setIfInBounds_toArray, List.set_cons_zero, List.set_cons_succ]
          refine take_put (i := 14) (d := 86) (v := ?_) rfl rfl (by kernel_rfl) (by kernel_rfl) (by kernel_rfl) (fun _ _ _ h => h) (Or.inl ⟨by kernel_rfl, ?_⟩) hHeld ?_
          rotate_left
          · (intro w hSw; (try dsimp only at hSw); go_simp; (try with_reducible rfl))
          simp only [Act.put, List.setIfInBounds_toArray, List.set_cons_zero, List.set_cons_succ]
          refine take_put (i := 15) (d := 87) (v := ?_) rfl rfl (by kernel_rfl) (by kernel_rfl) (by kernel_rfl) (fun _ _ _ h => h) (Or.inl ⟨by kernel_rfl, ?_⟩) hHeld ?_
          rotate_left
          · (intro w hSw; (try dsimp only at hSw); go_simp; (try with_reducible rfl))
          simp only [Act.put, List.setIfInBounds_toArray, List.set_cons_zero, List.set_cons_succ]
          refine take_put (i := 16) (d := 88) (v := ?_) rfl rfl (by kernel_rfl) (by kernel_rfl) (by kernel_rfl) (fun _ _ _ h => h) (Or.inl ⟨by kernel_rfl, ?_⟩) hHeld ?_
          rotate_left
          · (intro w hSw; (try dsimp only at hSw); go_simp; (try with_reducible rfl))
          simp only [Act.put, List.setIfInBounds_toArray, List.set_cons_zero, List.set_cons_succ]
          refine take_put (i := 18) (d := 90) (v := ?_) rfl rfl (by kernel_rfl) (by kernel_rfl) (by kernel_rfl) (fun _ _ _ h => h) (Or.inl ⟨by kernel_rfl, ?_⟩) hHeld ?_
          rotate_left
          · (intro w hSw; (try dsimp only at hSw); go_simp; (try with_reducible rfl))
          simp only [Act.put, List.setIfInBounds_toArray, List.set_cons_zero, List.set_cons_succ]
          refine wpAnyH_ready (rs := [17]) (by kernel_rfl) (by simp) ?_
          refine AllReadyH.cons rfl (fun K hK => ?_) AllReadyH.nil
          rw [if_pos (by rfl)]
          go_simp
          refine (HDC.out _ HP8.out).mono ?_
          rintro e w10 ⟨R2, v10, D, rfl, hn10, hF10, hk10, hg10, ht10⟩
          obtain ⟨e10, hpm10⟩ := HONE.out R2 D ht10
          subst e10
          have HP10 := hid_in (HP8.out.grown hF10 hg10 HM2.out)
          have HNM := hid_in hn10
          have HPM := hid_in hpm10
          have HKD := hid_in hk10
          clear hn10 hF10 hk10 hg10 hpm10 ht10
          go_simp
          refine hK.out _ _ (HCP.out _ _ HP10.out) (fun hHeld => ?_)
          clear hK K
          refine wpAnyH_ready (rs := [19]) (by kernel_rfl) (by simp) ?_
          refine AllReadyH.cons rfl (fun K hK => ?_) AllReadyH.nil
          rw [if_pos (by rfl)]
          go_simp
          refine (HSM.out v10 _ HNM.out _ HP10.out).mono ?_
          rintro e w11 ⟨rfl, hb11⟩
          have HP11 := hid_in (HP10.out.below hb11)
          clear hb11
          go_simp
          refine hK.out _ _ (HCP.out _ _ HP11.out) (fun hHeld => ?_)
          clear hK K
          refine take_put (i := 20) (d := 92) (v := .bool false) rfl rfl (by kernel_rfl) (by kernel_rfl) (by kernel_rfl) (fun _ _ _ h => h) (Or.inl ⟨by kernel_rfl, fun w hSw => ?_⟩) hHeld ?_
          · (go_simp)
          simp only [Act.put, List.setIfInBounds_toArray, List.set_cons_zero, List.set_cons_succ]
          refine take_put (i := 21) (d := 93) (v := .bool false) rfl rfl (by kernel_rfl) (by kernel_rfl) (by kernel_rfl) (fun _ _ _ h => h) (Or.inl ⟨by kernel_rfl, fun w hSw => ?_⟩) hHeld ?_
          · (go_simp)
          simp only [Act.put, List.setIfInBounds_toArray, List.set_cons_zero, List.set_cons_succ]
          refine take_put (i := 22) (d := 94) (v := ?_) rfl rfl (by kernel_rfl) (by kernel_rfl) (by kernel_rfl) (fun _ _ _ h => h) (Or.inl ⟨by kernel_rfl, ?_⟩) hHeld ?_
          rotate_left
          · (intro w hSw; (try dsimp only at hSw); go_simp; (try with_reducible rfl))
          simp only [Act.put, List.setIfInBounds_toArray, List.set_cons_zero, List.set_cons_succ]
          refine take_put (i := 23) (d := 95) (v := ?_) rfl rfl (by kernel_rfl) (by kernel_rfl) (by kernel_rfl) (fun _ _ _ h => h) (Or.inl ⟨by kernel_rfl, ?_⟩) hHeld ?_
          rotate_left
          · (intro w hSw; (try dsimp only at hSw); go_simp; (try with_reducible rfl))
          simp only [Act.put, List.setIfInBounds_toArray, List.set_cons_zero, List.set_cons_succ]
          refine take_put (i := 25) (d := 97) (v := ?_) rfl rfl (by kernel_rfl) (by kernel_rfl) (by kernel_rfl) (fun _ _ _ h => h) (Or.inl ⟨by kernel_rfl, ?_⟩) hHeld ?_
          rotate_left
          · (intro w hSw; (try dsimp only at hSw); go_simp; (try with_reducible rfl))
          simp only [Act.put, List.setIfInBounds_toArray, List.set_cons_zero, List.set_cons_succ]
          refine wpAnyH_ready (rs := [24]) (by kernel_rfl) (by simp) ?_
          refine AllReadyH.cons rfl (fun K hK => ?_) AllReadyH.nil
          rw [if_pos (by rfl)]
          go_simp
          refine (w_list HP11.out.c (by have := HKD.out.len; have := HL9.out; omega)).mono ?_
          rintro e w12 ⟨p12, c12, l12, rfl, hw12, hl12, -, hb12⟩
          have HP12 := hid_in (HP11.out.below hb12)
          have HW12 := hid_in hw12
          have HL12 := hid_in hl12
          clear hw12 hl12 hb12
          go_simp
          refine hK.out _ _ (HCP.out _ _ HP12.out) (fun hHeld => ?_)
          clear hK K
          refine wpAnyH_ready (rs := [26]) (by kernel_rfl) (by simp) ?_
          refine AllReadyH.cons rfl (fun K hK => ?_) AllReadyH.nil
          rw [if_pos (by rfl)]
          go_simp
          refine (w_list HP12.out.f (by have := HKC.out.len; have := HL9.out; omega)).mono ?_
          rintro e w13 ⟨p13, c13, l13, rfl, hw13, hl13, -, hb13⟩
          have HP13 := hid_in (HP12.out.below hb13)
          have HW13 := hid_in hw13
          have HW12b := hid_in (HW12.out.below hb13)
          obtain rfl : l12 = l13 := Lists.one HP12.out.f.one.1 hl13 HL12.out HPM.out
          clear hw13 hl13 hb13
          go_simp
          refine hK.out _ _ (HCP.out _ _ HP13.out) (fun hHeld => ?_)
          clear hK K
          refine wpAnyH_ready (rs := [27]) (by kernel_rfl) (by simp) ?_
          refine AllReadyH.cons rfl (fun K hK => ?_) AllReadyH.nil
          rw [if_pos (by rfl)]
          go_simp
          refine (Rf.files_same _ _ _ _ HW12b.out HW13.out).mono ?_
          rintro e w14 ⟨rfl, hb14⟩
          have HP14 := hid_in (HP13.out.below hb14)
          clear hb14
          go_simp
          refine hK.out _ _ (HCP.out _ _ HP14.out) (fun hHeld => ?_)
          clear hK K
          refine take_put (i := 28) (d := 100) (v := .bool false) rfl rfl (by kernel_rfl) (by kernel_rfl) (by kernel_rfl) (fun _ _ _ h => h) (Or.inl ⟨by kernel_rfl, fun w hSw => ?_⟩) hHeld ?_
          · (go_simp)
          simp only [Act.put, List.setIfInBounds_toArray, List.set_cons_zero, List.set_cons_succ]
          refine take_put (i := 29) (d := 101) (v := .bool false) rfl rfl (by kernel_rfl) (by kernel_rfl) (by kernel_rfl) (fun _ _ _ h => h) (Or.inl ⟨by kernel_rfl, fun w hSw => ?_⟩) hHeld ?_
          · (go_simp)
          simp only [Act.put, List.setIfInBounds_toArray, List.set_cons_zero, List.set_cons_succ]
          refine wpAnyH_done (by kernel_rfl) ?_ _
          go_wp2_with fail
          go_roundw
          case rel => exact ⟨i + 1, by have := HLT.out; omega, by go_num, ⟨C, HP14.out.f, HKC.out.tree, HKC.out.small, by have := HKC.out.len; have := HLA.out; omega, HP14.out.bel⟩⟩
          case measure => have := HLT.out; simp [intOf]; omega
        | false =>
          have HRD := HRD0
          rw [hr] at HRD
          clear HRD0 HRDS hr
          go_upto_region 16 with (first | (go_at_call 18; refine (HRD.out _).mono ?_; rintro e w70 ⟨rfl, rfl⟩) | (go_at_call 12; refine (Rf.files_same _ _ _ _ HW73.out HP73.out.was).mono ?_; rintro e w8 ⟨rfl, hb8⟩; have HP8 := hid_in (HP73.out.below hb8); clear hb8 HW73) | (go_at_call 16; refine (w_list HP7.out.c (by have := HL9.out; omega)).mono ?_; rintro e w73 ⟨p73, c73, l73, rfl, hw73, hl73, -, hb73⟩; have HP73 := hid_in (HP7.out.below hb73); have HW73 := hid_in hw73; obtain rfl := HLD.out l73 hl73; clear hw73 hl73 hb73))
          have HP8d := hid_in (HP8.out.below (Below.refl _ _).drew)
          clear HP8
          have HP8 := HP8d
          clear HP8d
          refine wp_region_held_drew (S := fun W => W.cell? ⟨bx, 0, none⟩ = some (.int .i64 0) ∧ W.cell? ⟨bx, 1, none⟩ = some (.bool rd) ∧ W.cell? ⟨bx, 2, none⟩ = some (.int .i64 rs) ∧ W.cell? ⟨bx, 3, none⟩ = some (.string rx) ∧ W.cell? ⟨bx, 4, none⟩ = some (.slice pn nl cn) ∧ W.cell? ⟨b, o + i * 6, none⟩ = some (.int .i64 xk) ∧ W.cell? ⟨b, o + i * 6 + 1, none⟩ = some (.string xp) ∧ W.cell? ⟨b, o + i * 6 + 2, none⟩ = some (.string xt) ∧ W.cell? ⟨b, o + i * 6 + 3, none⟩ = some (.string xd) ∧ W.cell? ⟨b, o + i * 6 + 4, none⟩ = some (.int .i64 xa) ∧ W.cell? ⟨b, o + i * 6 + 5, none⟩ = some (.int .i64 xz)) (by kernel_rfl) (HCP.out _ _ HP8.out) (fun hHeld => ?_)
          refine take_put (i := 0) (d := 72) (v := ?_) rfl rfl (by kernel_rfl) (by kernel_rfl) (by kernel_rfl) (fun _ _ _ h => h) (Or.inl ⟨by kernel_rfl, ?_⟩) hHeld ?_
          rotate_left
          · (intro w hSw; (try dsimp only at hSw); go_simp; (try with_reducible rfl))
          simp only [Act.put, List.setIfInBounds_toArray, List.set_cons_zero, List.set_cons_succ]
          refine take_put (i := 1) (d := 73) (v := ?_) rfl rfl (by kernel_rfl) (by kernel_rfl) (by kernel_rfl) (fun _ _ _ h => h) (Or.inl ⟨by kernel_rfl, ?_⟩) hHeld ?_
          rotate_left
          · (intro w hSw; (try dsimp only at hSw); go_simp; (try with_reducible rfl))
          simp only [Act.put, List.setIfInBounds_toArray, List.set_cons_zero, List.set_cons_succ]
          refine take_put (i := 2) (d := 74) (v := .bool false) rfl rfl (by kernel_rfl) (by kernel_rfl) (by kernel_rfl) (fun _ _ _ h => h) (Or.inl ⟨by kernel_rfl, fun w hSw => ?_⟩) hHeld ?_
          · (go_simp)
          simp only [Act.put, List.setIfInBounds_toArray, List.set_cons_zero, List.set_cons_succ]
          refine take_put (i := 3) (d := 75) (v := ?_) rfl rfl (by kernel_rfl) (by kernel_rfl) (by kernel_rfl) (fun _ _ _ h => h) (Or.inl ⟨by kernel_rfl, ?_⟩) hHeld ?_
          rotate_left
          · (intro w hSw; (try dsimp only at hSw); go_simp; (try with_reducible rfl))
          simp only [Act.put, List.setIfInBounds_toArray, List.set_cons_zero, List.set_cons_succ]
          refine take_put (i := 4) (d := 76) (v := undef) rfl rfl (by kernel_rfl) (by kernel_rfl) (by kernel_rfl) (fun _ _ _ h => h) (Or.inr ⟨by kernel_rfl, rfl⟩) hHeld ?_
          simp only [Act.put, List.setIfInBounds_toArray, List.set_cons_zero, List.set_cons_succ]
          refine take_put (i := 5) (d := 77) (v := undef) rfl rfl (by kernel_rfl) (by kernel_rfl) (by kernel_rfl) (fun _ _ _ h => h) (Or.inr ⟨by kernel_rfl, rfl⟩) hHeld ?_
          simp only [Act.put, List.setIfInBounds_toArray, List.set_cons_zero, List.set_cons_succ]
          refine take_put (i := 6) (d := 78) (v := undef) rfl rfl (by kernel_rfl) (by kernel_rfl) (by kernel_rfl) (fun _ _ _ h => h) (Or.inr ⟨by kernel_rfl, rfl⟩) hHeld ?_
          simp only [Act.put, List.setIfInBounds_toArray, List.set_cons_zero, List.set_cons_succ]
          refine take_put (i := 7) (d := 79) (v := undef) rfl rfl (by kernel_rfl) (by kernel_rfl) (by kernel_rfl) (fun _ _ _ h => h) (Or.inr ⟨by kernel_rfl, rfl⟩) hHeld ?_
          simp only [Act.put, List.setIfInBounds_toArray, List.set_cons_zero, List.set_cons_succ]
          refine take_put (i := 8) (d := 80) (v := undef) rfl rfl (by kernel_rfl) (by kernel_rfl) (by kernel_rfl) (fun _ _ _ h => h) (Or.inr ⟨by kernel_rfl, rfl⟩) hHeld ?_
          simp only [Act.put, List.setIfInBounds_toArray, List.set_cons_zero, List.set_cons_succ]
          refine take_put (i := 9) (d := 81) (v := undef) rfl rfl (by kernel_rfl) (by kernel_rfl) (by kernel_rfl) (fun _ _ _ h => h) (Or.inr ⟨by kernel_rfl, rfl⟩) hHeld ?_
          simp only [Act.put, List.setIfInBounds_toArray, List.set_cons_zero, List.set_cons_succ]
          refine take_put (i := 10) (d := 82) (v := .bool false) rfl rfl (by kernel_rfl) (by kernel_rfl) (by kernel_rfl) (fun _ _ _ h => h) (Or.inl ⟨by kernel_rfl, fun w hSw => ?_⟩) hHeld ?_
          · (go_simp)
          simp only [Act.put, List.setIfInBounds_toArray, List.set_cons_zero, List.set_cons_succ]
          refine take_put (i := 11) (d := 83) (v := ?_) rfl rfl (by kernel_rfl) (by kernel_rfl) (by kernel_rfl) (fun _ _ _ h => h) (Or.inl ⟨by kernel_rfl, ?_⟩) hHeld ?_
          rotate_left
          · (intro w hSw; (try dsimp only at hSw); go_simp; (try with_reducible rfl))
          simp only [Act.put, List.setIfInBounds_toArray, List.set_cons_zero, List.set_cons_succ]
          refine take_put (i := 12) (d := 84) (v := ?_) rfl rfl (by kernel_rfl) (by kernel_rfl) (by kernel_rfl) (fun _ _ _ h => h) (Or.inl ⟨by kernel_rfl, ?_⟩) hHeld ?_
          rotate_left
          · (intro w hSw; (try dsimp only at hSw); go_simp; (try with_reducible rfl))
          simp only [Act.put, List.setIfInBounds_toArray, List.set_cons_zero, List.set_cons_succ]
          refine take_put (i := 13) (d := 85) (v := ?_) rfl rfl (by kernel_rfl) (by kernel_rfl) (by kernel_rfl) (fun _ _ _ h => h) (Or.inl ⟨by kernel_rfl, ?_⟩) hHeld ?_
          rotate_left
          · (intro w hSw; (try dsimp only at hSw); go_simp; (try with_reducible rfl))
          simp only [Act.put, List.setIfInBounds_toArray, List.set_cons_zero, List.set_cons_succ]
          refine take_put (i := 14) (d := 86) (v := ?_) rfl rfl (by kernel_rfl) (by kernel_rfl) (by kernel_rfl) (fun _ _ _ h => h) (Or.inl ⟨by kernel_rfl, ?_⟩) hHeld ?_
          rotate_left
          · (intro w hSw; (try dsimp only at hSw); go_simp; (try with_reducible rfl))
          simp only [Act.put, List.setIfInBounds_toArray, List.set_cons_zero, List.set_cons_succ]
          refine take_put (i := 15) (d := 87) (v := ?_) rfl rfl (by kernel_rfl) (by kernel_rfl) (by kernel_rfl) (fun _ _ _ h => h) (Or.inl ⟨by kernel_rfl, ?_⟩) hHeld ?_
          rotate_left
          · (intro w hSw; (try dsimp only at hSw); go_simp; (try with_reducible rfl))
          simp only [Act.put, List.setIfInBounds_toArray, List.set_cons_zero, List.set_cons_succ]
          refine take_put (i := 16) (d := 88) (v := ?_) rfl rfl (by kernel_rfl) (by kernel_rfl) (by kernel_rfl) (fun _ _ _ h => h) (Or.inl ⟨by kernel_rfl, ?_⟩) hHeld ?_
          rotate_left
          · (intro w hSw; (try dsimp only at hSw); go_simp; (try with_reducible rfl))
          simp only [Act.put, List.setIfInBounds_toArray, List.set_cons_zero, List.set_cons_succ]
          refine take_put (i := 18) (d := 90) (v := ?_) rfl rfl (by kernel_rfl) (by kernel_rfl) (by kernel_rfl) (fun _ _ _ h => h) (Or.inl ⟨by kernel_rfl, ?_⟩) hHeld ?_
          rotate_left
          · (intro w hSw; (try dsimp only at hSw); go_simp; (try with_reducible rfl))
          simp only [Act.put, List.setIfInBounds_toArray, List.set_cons_zero, List.set_cons_succ]
          refine wpAnyH_ready (rs := [17]) (by kernel_rfl) (by simp) ?_
          refine AllReadyH.cons rfl (fun K hK => ?_) AllReadyH.nil
          rw [if_pos (by rfl)]
          go_simp
          refine (HDC.out _ HP8.out).mono ?_
          rintro e w10 ⟨R2, v10, D, rfl, hn10, hF10, hk10, hg10, ht10⟩
          obtain ⟨e10, hpm10⟩ := HONE.out R2 D ht10
          subst e10
          have HP10 := hid_in (HP8.out.grown hF10 hg10 HM2.out)
          have HNM := hid_in hn10
          have HPM := hid_in hpm10
          have HKD := hid_in hk10
          clear hn10 hF10 hk10 hg10 hpm10 ht10
          go_simp
          refine hK.out _ _ (HCP.out _ _ HP10.out) (fun hHeld => ?_)
          clear hK K
          refine wpAnyH_ready (rs := [19]) (by kernel_rfl) (by simp) ?_
          refine AllReadyH.cons rfl (fun K hK => ?_) AllReadyH.nil
          rw [if_pos (by rfl)]
          go_simp
          refine (HSM.out v10 _ HNM.out _ HP10.out).mono ?_
          rintro e w11 ⟨rfl, hb11⟩
          have HP11 := hid_in (HP10.out.below hb11)
          clear hb11
          go_simp
          refine hK.out _ _ (HCP.out _ _ HP11.out) (fun hHeld => ?_)
          clear hK K
          refine take_put (i := 20) (d := 92) (v := .bool false) rfl rfl (by kernel_rfl) (by kernel_rfl) (by kernel_rfl) (fun _ _ _ h => h) (Or.inl ⟨by kernel_rfl, fun w hSw => ?_⟩) hHeld ?_
          · (go_simp)
          simp only [Act.put, List.setIfInBounds_toArray, List.set_cons_zero, List.set_cons_succ]
          refine take_put (i := 21) (d := 93) (v := .bool false) rfl rfl (by kernel_rfl) (by kernel_rfl) (by kernel_rfl) (fun _ _ _ h => h) (Or.inl ⟨by kernel_rfl, fun w hSw => ?_⟩) hHeld ?_
          · (go_simp)
          simp only [Act.put, List.setIfInBounds_toArray, List.set_cons_zero, List.set_cons_succ]
          refine take_put (i := 22) (d := 94) (v := ?_) rfl rfl (by kernel_rfl) (by kernel_rfl) (by kernel_rfl) (fun _ _ _ h => h) (Or.inl ⟨by kernel_rfl, ?_⟩) hHeld ?_
          rotate_left
          · (intro w hSw; (try dsimp only at hSw); go_simp; (try with_reducible rfl))
          simp only [Act.put, List.setIfInBounds_toArray, List.set_cons_zero, List.set_cons_succ]
          refine take_put (i := 23) (d := 95) (v := ?_) rfl rfl (by kernel_rfl) (by kernel_rfl) (by kernel_rfl) (fun _ _ _ h => h) (Or.inl ⟨by kernel_rfl, ?_⟩) hHeld ?_
          rotate_left
          · (intro w hSw; (try dsimp only at hSw); go_simp; (try with_reducible rfl))
          simp only [Act.put, List.setIfInBounds_toArray, List.set_cons_zero, List.set_cons_succ]
          refine take_put (i := 25) (d := 97) (v := ?_) rfl rfl (by kernel_rfl) (by kernel_rfl) (by kernel_rfl) (fun _ _ _ h => h) (Or.inl ⟨by kernel_rfl, ?_⟩) hHeld ?_
          rotate_left
          · (intro w hSw; (try dsimp only at hSw); go_simp; (try with_reducible rfl))
          simp only [Act.put, List.setIfInBounds_toArray, List.set_cons_zero, List.set_cons_succ]
          refine wpAnyH_ready (rs := [24]) (by kernel_rfl) (by simp) ?_
          refine AllReadyH.cons rfl (fun K hK => ?_) AllReadyH.nil
          rw [if_pos (by rfl)]
          go_simp
          refine (w_list HP11.out.c (by have := HKD.out.len; have := HL9.out; omega)).mono ?_
          rintro e w12 ⟨p12, c12, l12, rfl, hw12, hl12, -, hb12⟩
          have HP12 := hid_in (HP11.out.below hb12)
          have HW12 := hid_in hw12
          have HL12 := hid_in hl12
          clear hw12 hl12 hb12
          go_simp
          refine hK.out _ _ (HCP.out _ _ HP12.out) (fun hHeld => ?_)
          clear hK K
          refine wpAnyH_ready (rs := [26]) (by kernel_rfl) (by simp) ?_
          refine AllReadyH.cons rfl (fun K hK => ?_) AllReadyH.nil
          rw [if_pos (by rfl)]
          go_simp
          refine (w_list HP12.out.f (by have := HKC.out.len; have := HL9.out; omega)).mono ?_
          rintro e w13 ⟨p13, c13, l13, rfl, hw13, hl13, -, hb13⟩
          have HP13 := hid_in (HP12.out.below hb13)
          have HW13 := hid_in hw13
          have HW12b := hid_in (HW12.out.below hb13)
          obtain rfl : l12 = l13 := Lists.one HP12.out.f.one.1 hl13 HL12.out HPM.out
          clear hw13 hl13 hb13
          go_simp
          refine hK.out _ _ (HCP.out _ _ HP13.out) (fun hHeld => ?_)
          clear hK K
          refine wpAnyH_ready (rs := [27]) (by kernel_rfl) (by simp) ?_
          refine AllReadyH.cons rfl (fun K hK => ?_) AllReadyH.nil
          rw [if_pos (by rfl)]
          go_simp
          refine (Rf.files_same _ _ _ _ HW12b.out HW13.out).mono ?_
          rintro e w14 ⟨rfl, hb14⟩
          have HP14 := hid_in (HP13.out.below hb14)
          clear hb14
          go_simp
          refine hK.out _ _ (HCP.out _ _ HP14.out) (fun hHeld => ?_)
          clear hK K
          refine take_put (i := 28) (d := 100) (v := .bool false) rfl rfl (by kernel_rfl) (by kernel_rfl) (by kernel_rfl) (fun _ _ _ h => h) (Or.inl ⟨by kernel_rfl, fun w hSw => ?_⟩) hHeld ?_
          · (go_simp)
          simp only [Act.put, List.setIfInBounds_toArray, List.set_cons_zero, List.set_cons_succ]
          refine take_put (i := 29) (d := 101) (v := .bool false) rfl rfl (by kernel_rfl) (by kernel_rfl) (by kernel_rfl) (fun _ _ _ h => h) (Or.inl ⟨by kernel_rfl, fun w hSw => ?_⟩) hHeld ?_
          · (go_simp)
          simp only [Act.put, List.setIfInBounds_toArray, List.set_cons_zero, List.set_cons_succ]
          refine wpAnyH_done (by kernel_rfl) ?_ _
          go_wp2_with fail
          go_roundw
          case rel => exact ⟨i + 1, by have := HLT.out; omega, by go_num, ⟨C, HP14.out.f, HKC.out.tree, HKC.out.small, by have := HKC.out.len; have := HLA.out; omega, HP14.out.bel⟩⟩
          case measure => have := HLT.out; simp [intOf]; omega
      · obtain ⟨e6, hCA⟩ := HERR.out h0
        have hh : rd = false ∧ rs = 0 ∧ rx = ⟨#[]⟩ ∧ rn = [] := by
          have e7 : (⟨rc, rd, rs, rx, rn⟩ : RA) = ⟨rc, false, 0, ⟨#[]⟩, []⟩ := e6
          injection e7 with _ q1 q2 q3 q4
          exact ⟨q1, q2, q3, q4⟩
        have HSE2 := hid_in (HSE.out hh)
        have HLO : Hid (∀ l', Lists C l' → l = l') := hid_in (fun l' h => HLD.out l' (by rw [← hCA]; exact h))
        have g0 : (rc != 0) = true := by simpa using h0
        clear e6 hCA hh HSE HERR HRDS h0
        go_upto_region 16 with (first | (go_at_call 12; refine (Rf.files_same _ _ _ _ HW73.out HP73.out.was).mono ?_; rintro e w8 ⟨rfl, hb8⟩; have HP8 := hid_in (HP73.out.below hb8); clear hb8 HW73) | (go_at_call 16; refine (w_list HP72.out.c (by have := HL9.out; omega)).mono ?_; rintro e w73 ⟨p73, c73, l73, rfl, hw73, hl73, -, hb73⟩; have HP73 := hid_in (HP72.out.below hb73); have HW73 := hid_in hw73; obtain rfl := HLD.out l73 hl73; clear hw73 hl73 hb73) | (go_at_call 12; refine (Rf.files_same _ _ _ _ HW71.out HP71.out.was).mono ?_; rintro e w72 ⟨rfl, hb72⟩; have HP72 := hid_in (HP71.out.below hb72); clear hb72 HW71) | (go_at_call 16; refine (w_list HP7.out.f (by have := HKC.out.len; have := HL9.out; omega)).mono ?_; rintro e w71 ⟨p71, c71, l71, rfl, hw71, hl71, -, hb71⟩; have HP71 := hid_in (HP7.out.below hb71); have HW71 := hid_in hw71; obtain rfl := HLO.out l71 hl71; clear hw71 hl71 hb71))
        have HP8d := hid_in (HP8.out.below (Below.refl _ _).drew)
        clear HP8
        have HP8 := HP8d
        clear HP8d
        refine wp_region_held_drew (S := fun W => W.cell? ⟨bx, 0, none⟩ = some (.int .i64 rc) ∧ W.cell? ⟨bx, 1, none⟩ = some (.bool rd) ∧ W.cell? ⟨bx, 2, none⟩ = some (.int .i64 rs) ∧ W.cell? ⟨bx, 3, none⟩ = some (.string rx) ∧ W.cell? ⟨bx, 4, none⟩ = some (.slice pn nl cn) ∧ W.cell? ⟨b, o + i * 6, none⟩ = some (.int .i64 xk) ∧ W.cell? ⟨b, o + i * 6 + 1, none⟩ = some (.string xp) ∧ W.cell? ⟨b, o + i * 6 + 2, none⟩ = some (.string xt) ∧ W.cell? ⟨b, o + i * 6 + 3, none⟩ = some (.string xd) ∧ W.cell? ⟨b, o + i * 6 + 4, none⟩ = some (.int .i64 xa) ∧ W.cell? ⟨b, o + i * 6 + 5, none⟩ = some (.int .i64 xz)) (by kernel_rfl) (HCP.out _ _ HP8.out) (fun hHeld => ?_)
        refine take_put (i := 0) (d := 72) (v := ?_) rfl rfl (by kernel_rfl) (by kernel_rfl) (by kernel_rfl) (fun _ _ _ h => h) (Or.inl ⟨by kernel_rfl, ?_⟩) hHeld ?_
        rotate_left
        · (intro w hSw; (try dsimp only at hSw); go_simp; (try with_reducible rfl))
        simp only [Act.put, List.setIfInBounds_toArray, List.set_cons_zero, List.set_cons_succ]
        refine take_put (i := 1) (d := 73) (v := ?_) rfl rfl (by kernel_rfl) (by kernel_rfl) (by kernel_rfl) (fun _ _ _ h => h) (Or.inl ⟨by kernel_rfl, ?_⟩) hHeld ?_
        rotate_left
        · (intro w hSw; (try dsimp only at hSw); go_simp; (try with_reducible rfl))
        simp only [Act.put, List.setIfInBounds_toArray, List.set_cons_zero, List.set_cons_succ]
        refine take_put (i := 2) (d := 74) (v := .bool true) rfl rfl (by kernel_rfl) (by kernel_rfl) (by kernel_rfl) (fun _ _ _ h => h) (Or.inl ⟨by kernel_rfl, fun w hSw => ?_⟩) hHeld ?_
        · (go_simp)
        simp only [Act.put, List.setIfInBounds_toArray, List.set_cons_zero, List.set_cons_succ]
        refine take_put (i := 3) (d := 75) (v := ?_) rfl rfl (by kernel_rfl) (by kernel_rfl) (by kernel_rfl) (fun _ _ _ h => h) (Or.inl ⟨by kernel_rfl, ?_⟩) hHeld ?_
        rotate_left
        · (intro w hSw; (try dsimp only at hSw); go_simp; (try with_reducible rfl))
        simp only [Act.put, List.setIfInBounds_toArray, List.set_cons_zero, List.set_cons_succ]
        refine take_put (i := 4) (d := 76) (v := ?_) rfl rfl (by kernel_rfl) (by kernel_rfl) (by kernel_rfl) (fun _ _ _ h => h) (Or.inl ⟨by kernel_rfl, ?_⟩) hHeld ?_
        rotate_left
        · (intro w hSw; (try dsimp only at hSw); go_simp; (try with_reducible rfl))
        simp only [Act.put, List.setIfInBounds_toArray, List.set_cons_zero, List.set_cons_succ]
        refine take_put (i := 5) (d := 77) (v := ?_) rfl rfl (by kernel_rfl) (by kernel_rfl) (by kernel_rfl) (fun _ _ _ h => h) (Or.inl ⟨by kernel_rfl, ?_⟩) hHeld ?_
        rotate_left
        · (intro w hSw; (try dsimp only at hSw); go_simp; (try with_reducible rfl))
        simp only [Act.put, List.setIfInBounds_toArray, List.set_cons_zero, List.set_cons_succ]
        refine take_put (i := 6) (d := 78) (v := ?_) rfl rfl (by kernel_rfl) (by kernel_rfl) (by kernel_rfl) (fun _ _ _ h => h) (Or.inl ⟨by kernel_rfl, ?_⟩) hHeld ?_
        rotate_left
        · (intro w hSw; (try dsimp only at hSw); go_simp; (try with_reducible rfl))
        simp only [Act.put, List.setIfInBounds_toArray, List.set_cons_zero, List.set_cons_succ]
        refine take_put (i := 7) (d := 79) (v := ?_) rfl rfl (by kernel_rfl) (by kernel_rfl) (by kernel_rfl) (fun _ _ _ h => h) (Or.inl ⟨by kernel_rfl, ?_⟩) hHeld ?_
        rotate_left
        · (intro w hSw; (try dsimp only at hSw); go_simp; (try with_reducible rfl))
        simp only [Act.put, List.setIfInBounds_toArray, List.set_cons_zero, List.set_cons_succ]
        refine wpAnyH_ready (rs := [8]) (by kernel_rfl) (by simp) ?_
        refine AllReadyH.cons rfl (fun K hK => ?_) AllReadyH.nil
        rw [if_pos (by rfl)]
        go_simp
        refine (HSE2.out _ HP8.out).mono ?_
        rintro e w9 ⟨rfl, hb9⟩
        have HP9 := hid_in (HP8.out.below hb9)
        clear hb9
        go_simp
        refine hK.out _ _ (HCP.out _ _ HP9.out) (fun hHeld => ?_)
        clear hK K
        refine take_put (i := 9) (d := 81) (v := .bool false) rfl rfl (by kernel_rfl) (by kernel_rfl) (by kernel_rfl) (fun _ _ _ h => h) (Or.inl ⟨by kernel_rfl, fun w hSw => ?_⟩) hHeld ?_
        · (go_simp)
        simp only [Act.put, List.setIfInBounds_toArray, List.set_cons_zero, List.set_cons_succ]
        refine take_put (i := 10) (d := 82) (v := .bool false) rfl rfl (by kernel_rfl) (by kernel_rfl) (by kernel_rfl) (fun _ _ _ h => h) (Or.inl ⟨by kernel_rfl, fun w hSw => ?_⟩) hHeld ?_
        · (go_simp)
        simp only [Act.put, List.setIfInBounds_toArray, List.set_cons_zero, List.set_cons_succ]
        refine take_put (i := 11) (d := 83) (v := ?_) rfl rfl (by kernel_rfl) (by kernel_rfl) (by kernel_rfl) (fun _ _ _ h => h) (Or.inl ⟨by kernel_rfl, ?_⟩) hHeld ?_
        rotate_left
        · (intro w hSw; (try dsimp only at hSw); go_simp; (try with_reducible rfl))
        simp only [Act.put, List.setIfInBounds_toArray, List.set_cons_zero, List.set_cons_succ]
        refine take_put (i := 12) (d := 84) (v := ?_) rfl rfl (by kernel_rfl) (by kernel_rfl) (by kernel_rfl) (fun _ _ _ h => h) (Or.inl ⟨by kernel_rfl, ?_⟩) hHeld ?_
        rotate_left
        · (intro w hSw; (try dsimp only at hSw); go_simp; (try with_reducible rfl))
        simp only [Act.put, List.setIfInBounds_toArray, List.set_cons_zero, List.set_cons_succ]
        refine take_put (i := 13) (d := 85) (v := ?_) rfl rfl (by kernel_rfl) (by kernel_rfl) (by kernel_rfl) (fun _ _ _ h => h) (Or.inl ⟨by kernel_rfl, ?_⟩) hHeld ?_
        rotate_left
        · (intro w hSw; (try dsimp only at hSw); go_simp; (try with_reducible rfl))
        simp only [Act.put, List.setIfInBounds_toArray, List.set_cons_zero, List.set_cons_succ]
        refine take_put (i := 14) (d := 86) (v := ?_) rfl rfl (by kernel_rfl) (by kernel_rfl) (by kernel_rfl) (fun _ _ _ h => h) (Or.inl ⟨by kernel_rfl, ?_⟩) hHeld ?_
        rotate_left
        · (intro w hSw; (try dsimp only at hSw); go_simp; (try with_reducible rfl))
        simp only [Act.put, List.setIfInBounds_toArray, List.set_cons_zero, List.set_cons_succ]
        refine take_put (i := 15) (d := 87) (v := ?_) rfl rfl (by kernel_rfl) (by kernel_rfl) (by kernel_rfl) (fun _ _ _ h => h) (Or.inl ⟨by kernel_rfl, ?_⟩) hHeld ?_
        rotate_left
        · (intro w hSw; (try dsimp only at hSw); go_simp; (try with_reducible rfl))
        simp only [Act.put, List.setIfInBounds_toArray, List.set_cons_zero, List.set_cons_succ]
        refine take_put (i := 16) (d := 88) (v := ?_) rfl rfl (by kernel_rfl) (by kernel_rfl) (by kernel_rfl) (fun _ _ _ h => h) (Or.inl ⟨by kernel_rfl, ?_⟩) hHeld ?_
        rotate_left
        · (intro w hSw; (try dsimp only at hSw); go_simp; (try with_reducible rfl))
        simp only [Act.put, List.setIfInBounds_toArray, List.set_cons_zero, List.set_cons_succ]
        refine take_put (i := 18) (d := 90) (v := ?_) rfl rfl (by kernel_rfl) (by kernel_rfl) (by kernel_rfl) (fun _ _ _ h => h) (Or.inl ⟨by kernel_rfl, ?_⟩) hHeld ?_
        rotate_left
        · (intro w hSw; (try dsimp only at hSw); go_simp; (try with_reducible rfl))
        simp only [Act.put, List.setIfInBounds_toArray, List.set_cons_zero, List.set_cons_succ]
        refine wpAnyH_ready (rs := [17]) (by kernel_rfl) (by simp) ?_
        refine AllReadyH.cons rfl (fun K hK => ?_) AllReadyH.nil
        rw [if_pos (by rfl)]
        go_simp
        refine (HDC.out _ HP9.out).mono ?_
        rintro e w10 ⟨R2, v10, D, rfl, hn10, hF10, hk10, hg10, ht10⟩
        obtain ⟨e10, hpm10⟩ := HONE.out R2 D ht10
        subst e10
        have HP10 := hid_in (HP9.out.grown hF10 hg10 HM2.out)
        have HNM := hid_in hn10
        have HPM := hid_in hpm10
        have HKD := hid_in hk10
        clear hn10 hF10 hk10 hg10 hpm10 ht10
        go_simp
        refine hK.out _ _ (HCP.out _ _ HP10.out) (fun hHeld => ?_)
        clear hK K
        refine wpAnyH_ready (rs := [19]) (by kernel_rfl) (by simp) ?_
        refine AllReadyH.cons rfl (fun K hK => ?_) AllReadyH.nil
        rw [if_pos (by rfl)]
        go_simp
        refine (HSM.out v10 _ HNM.out _ HP10.out).mono ?_
        rintro e w11 ⟨rfl, hb11⟩
        have HP11 := hid_in (HP10.out.below hb11)
        clear hb11
        go_simp
        refine hK.out _ _ (HCP.out _ _ HP11.out) (fun hHeld => ?_)
        clear hK K
        refine take_put (i := 20) (d := 92) (v := .bool false) rfl rfl (by kernel_rfl) (by kernel_rfl) (by kernel_rfl) (fun _ _ _ h => h) (Or.inl ⟨by kernel_rfl, fun w hSw => ?_⟩) hHeld ?_
        · (go_simp)
        simp only [Act.put, List.setIfInBounds_toArray, List.set_cons_zero, List.set_cons_succ]
        refine take_put (i := 21) (d := 93) (v := .bool false) rfl rfl (by kernel_rfl) (by kernel_rfl) (by kernel_rfl) (fun _ _ _ h => h) (Or.inl ⟨by kernel_rfl, fun w hSw => ?_⟩) hHeld ?_
        · (go_simp)
        simp only [Act.put, List.setIfInBounds_toArray, List.set_cons_zero, List.set_cons_succ]
        refine take_put (i := 22) (d := 94) (v := ?_) rfl rfl (by kernel_rfl) (by kernel_rfl) (by kernel_rfl) (fun _ _ _ h => h) (Or.inl ⟨by kernel_rfl, ?_⟩) hHeld ?_
        rotate_left
        · (intro w hSw; (try dsimp only at hSw); go_simp; (try with_reducible rfl))
        simp only [Act.put, List.setIfInBounds_toArray, List.set_cons_zero, List.set_cons_succ]
        refine take_put (i := 23) (d := 95) (v := ?_) rfl rfl (by kernel_rfl) (by kernel_rfl) (by kernel_rfl) (fun _ _ _ h => h) (Or.inl ⟨by kernel_rfl, ?_⟩) hHeld ?_
        rotate_left
        · (intro w hSw; (try dsimp only at hSw); go_simp; (try with_reducible rfl))
        simp only [Act.put, List.setIfInBounds_toArray, List.set_cons_zero, List.set_cons_succ]
        refine take_put (i := 25) (d := 97) (v := ?_) rfl rfl (by kernel_rfl) (by kernel_rfl) (by kernel_rfl) (fun _ _ _ h => h) (Or.inl ⟨by kernel_rfl, ?_⟩) hHeld ?_
        rotate_left
        · (intro w hSw; (try dsimp only at hSw); go_simp; (try with_reducible rfl))
        simp only [Act.put, List.setIfInBounds_toArray, List.set_cons_zero, List.set_cons_succ]
        refine wpAnyH_ready (rs := [24]) (by kernel_rfl) (by simp) ?_
        refine AllReadyH.cons rfl (fun K hK => ?_) AllReadyH.nil
        rw [if_pos (by rfl)]
        go_simp
        refine (w_list HP11.out.c (by have := HKD.out.len; have := HL9.out; omega)).mono ?_
        rintro e w12 ⟨p12, c12, l12, rfl, hw12, hl12, -, hb12⟩
        have HP12 := hid_in (HP11.out.below hb12)
        have HW12 := hid_in hw12
        have HL12 := hid_in hl12
        clear hw12 hl12 hb12
        go_simp
        refine hK.out _ _ (HCP.out _ _ HP12.out) (fun hHeld => ?_)
        clear hK K
        refine wpAnyH_ready (rs := [26]) (by kernel_rfl) (by simp) ?_
        refine AllReadyH.cons rfl (fun K hK => ?_) AllReadyH.nil
        rw [if_pos (by rfl)]
        go_simp
        refine (w_list HP12.out.f (by have := HKC.out.len; have := HL9.out; omega)).mono ?_
        rintro e w13 ⟨p13, c13, l13, rfl, hw13, hl13, -, hb13⟩
        have HP13 := hid_in (HP12.out.below hb13)
        have HW13 := hid_in hw13
        have HW12b := hid_in (HW12.out.below hb13)
        obtain rfl : l12 = l13 := Lists.one HP12.out.f.one.1 hl13 HL12.out HPM.out
        clear hw13 hl13 hb13
        go_simp
        refine hK.out _ _ (HCP.out _ _ HP13.out) (fun hHeld => ?_)
        clear hK K
        refine wpAnyH_ready (rs := [27]) (by kernel_rfl) (by simp) ?_
        refine AllReadyH.cons rfl (fun K hK => ?_) AllReadyH.nil
        rw [if_pos (by rfl)]
        go_simp
        refine (Rf.files_same _ _ _ _ HW12b.out HW13.out).mono ?_
        rintro e w14 ⟨rfl, hb14⟩
        have HP14 := hid_in (HP13.out.below hb14)
        clear hb14
        go_simp
        refine hK.out _ _ (HCP.out _ _ HP14.out) (fun hHeld => ?_)
        clear hK K
        refine take_put (i := 28) (d := 100) (v := .bool false) rfl rfl (by kernel_rfl) (by kernel_rfl) (by kernel_rfl) (fun _ _ _ h => h) (Or.inl ⟨by kernel_rfl, fun w hSw => ?_⟩) hHeld ?_
        · (go_simp)
        simp only [Act.put, List.setIfInBounds_toArray, List.set_cons_zero, List.set_cons_succ]
        refine take_put (i := 29) (d := 101) (v := .bool false) rfl rfl (by kernel_rfl) (by kernel_rfl) (by kernel_rfl) (fun _ _ _ h => h) (Or.inl ⟨by kernel_rfl, fun w hSw => ?_⟩) hHeld ?_
        · (go_simp)
        simp only [Act.put, List.setIfInBounds_toArray, List.set_cons_zero, List.set_cons_succ]
        refine wpAnyH_done (by kernel_rfl) ?_ _
        go_wp2_with fail
        go_roundw
        case rel => exact ⟨i + 1, by have := HLT.out; omega, by go_num, ⟨C, HP14.out.f, HKC.out.tree, HKC.out.small, by have := HKC.out.len; have := HLA.out; omega, HP14.out.bel⟩⟩
        case measure => have := HLT.out; simp [intOf]; omega
    · have hiK : i = K := by have := HI.out; omega
      obtain ⟨A, -, -, -, -, hb⟩ := hsc.out
      have HB := hid_in hb
      have HDN := hid_in (fun W => do_nil 9 0 0 ⟨#[47]⟩ ⟨#[]⟩ ⟨#[]⟩ W)
      clear hb hsc hi HOC HOS
      by_cases hj : i < M
      · have hj1 : (i : Int) < (M : Int) := by omega
        have hj2 : ¬ (i : Int) < 40 := by have := HK.out; omega
        clear hj hiK hlt
        have hf37 := fun w => field37 7 0 false ⟨#[]⟩ none 0 0 w
        go_wp2_with (first | (go_at_call 14; refine (HDN.out _).mono ?_; rintro e w5 ⟨rfl, hb5⟩; have HB5 := hid_in (HB.out.trans (hb5.mono HB.out.size)); clear hb5) | (go_at_call 16; refine (list_nil _).mono ?_; rintro e w6 ⟨rfl, rfl⟩) | (go_at_call 17; refine (clone_nil _).mono ?_; rintro e w7 ⟨rfl, rfl⟩))
        go_ret
        exact ⟨rfl, HB5.out⟩
      · have hj1 : ¬ (i : Int) < (M : Int) := by omega
        clear hj hiK hlt
        have hf37 := fun w => field37 7 0 false ⟨#[]⟩ none 0 0 w
        go_wp2_with (first | (go_at_call 14; refine (HDN.out _).mono ?_; rintro e w5 ⟨rfl, hb5⟩; have HB5 := hid_in (HB.out.trans (hb5.mono HB.out.size)); clear hb5) | (go_at_call 16; refine (list_nil _).mono ?_; rintro e w6 ⟨rfl, rfl⟩) | (go_at_call 17; refine (clone_nil _).mono ?_; rintro e w7 ⟨rfl, rfl⟩))
        go_ret
        exact ⟨rfl, HB5.out⟩
end Go.Proofs.YtngehkmdanhgpaaGreat.Pl
