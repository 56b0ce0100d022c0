/-
  The walk of move. The walk of rename.
-/
import Derived.Lib.SlBytesConst
import Derived.Laws.CopyOwn
import Derived.Deep.RegionLaw
import Derived.Deep.DrawnRows
import Derived.Lib.AppendZeros
import Derived.Laws.Tables
import Derived.Test.YtngehkmdanhgpaaGreatQ00
import Derived.Test.YtngehkmdanhgpaaGreatQ01
import Derived.Test.YtngehkmdanhgpaaGreatQ02
import Derived.Test.YtngehkmdanhgpaaGreatQ03
import Derived.Test.YtngehkmdanhgpaaGreatQ04
import Derived.Test.YtngehkmdanhgpaaGreatQ05
import Derived.Test.YtngehkmdanhgpaaGreatQ06
import Derived.Test.YtngehkmdanhgpaaGreatQ07
import Derived.Test.YtngehkmdanhgpaaGreatQ08
import Derived.Test.YtngehkmdanhgpaaGreatQ09
import Derived.Test.YtngehkmdanhgpaaGreatQ10
import Derived.Test.YtngehkmdanhgpaaGreatQ11
import Derived.Test.YtngehkmdanhgpaaGreatQ12
import Derived.Test.YtngehkmdanhgpaaGreatQ13
import Derived.Test.YtngehkmdanhgpaaGreatQ14
import Derived.Test.YtngehkmdanhgpaaGreatQ15
import Derived.Test.YtngehkmdanhgpaaGreatQ16
import Derived.Test.YtngehkmdanhgpaaGreatQ17
import Derived.Test.YtngehkmdanhgpaaGreatQ18
import Derived.Test.YtngehkmdanhgpaaGreatQ19
import Derived.Test.YtngehkmdanhgpaaGreatQ21
import Derived.Test.YtngehkmdanhgpaaGreatQ22
import Derived.Test.YtngehkmdanhgpaaGreatQ23
import Derived.Test.YtngehkmdanhgpaaGreatQ24
namespace Go.Proofs.YtngehkmdanhgpaaGreat.Pl
open Go.RowKit
open Vp (Str B bl Val cmpL parseS showS splitS withinS IsPath sv)
open Nd (Row wp_world post_Row post_Row2 grownBy_setCell below_of_grown)
/-- the rest of a path -/
theorem val_drop {w : World} {p : Option Addr} {xs : List Str} {c : Nat} (h : Val w (.slice p xs.length c) xs) (n : Nat) (hn : n ≤ xs.length) : ∃ r, (∀ W, (Instr.slice 35 (.slice p xs.length c) (some (.int .i64 (n : Int))) none none).run Tryz.prog W = .ok (.slice r (xs.length - n) (c - n)) W) ∧ ∀ W, Val W (.slice p xs.length c) xs → Val W (.slice r (xs.length - n) (c - n)) (xs.drop n) := by
  have ht : Tryz.prog.underlying 35 = some (.slice (Tryz.prog.elem 35)) := by kernel_rfl
  have hs : ∀ w : World, (sizeOf (Tryz.prog.elem 35)).run Tryz.prog w = .ok 1 w := fun w => by kernel_rfl
  obtain ⟨p', c', e, hr0⟩ := h
  simp only [Value.slice.injEq] at e
  obtain ⟨rfl, _, rfl⟩ := e
  have hle := hr0.le
  have hfit : ∀ (r : Option Addr) (W : World), (∀ b o, p = some ⟨b, o, none⟩ → n < xs.length → r = some ⟨b, o + n, none⟩) → (r = none → p = none) → Val W (.slice p xs.length c) xs → Val W (.slice r (xs.length - n) (c - n)) (xs.drop n) := fun r W h1 h2 hv => by
    obtain ⟨p', c', e, hr⟩ := hv
    simp only [Value.slice.injEq] at e
    obtain ⟨rfl, _, rfl⟩ := e
    refine ⟨r, c - n, by rw [List.length_drop], by rw [List.length_drop]; have := hr.le; omega, by have := hr.big; omega, fun e => ?_, ?_⟩
    · obtain ⟨rfl, rfl⟩ := hr.nil (h2 e)
      exact ⟨by simp, by simp⟩
    · obtain ⟨b, o, h3, h4⟩ := hr.cells
      refine ⟨b, o + n, fun hne => ?_, fun j x hj => ?_⟩
      · have hlt : n < xs.length := by
          rcases Nat.lt_or_ge n xs.length with h | h
          · exact h
          · exact absurd (List.drop_eq_nil_of_le h) hne
        obtain ⟨h5, h6⟩ := h3 (by rintro rfl; simp at hlt)
        exact ⟨h1 b o h5 hlt, h6⟩
      · rw [List.getElem?_drop] at hj
        rw [Nat.add_assoc]
        exact h4 (n + j) x hj
  rcases p with _ | ⟨b, o, s⟩
  · obtain ⟨rfl, rfl⟩ := hr0.nil rfl
    refine ⟨none, fun W => ?_, fun W => hfit none W (fun b o e => by cases e) (fun _ => rfl)⟩
    have hn0 : n = 0 := by simpa using hn
    subst hn0
    change (Instr.slice 35 (.slice none 0 0) (some (.int .i64 0)) none none).run Tryz.prog W = .ok (.slice none 0 0) W
    rw [run_slice_l W 35 none 0 0 ht .i64 0 (by omega) (by omega), hs]
    simp [sliced]
  · refine ⟨some (if c = n then ⟨b, o, s⟩ else (⟨b, o, s⟩ : Addr).add n), fun W => ?_, fun W => hfit _ W (fun b' o' e hlt => ?_) (fun e => by cases e)⟩
    · rw [run_slice_l W 35 _ xs.length c ht .i64 (n : Int) (by omega) (by omega), hs]
      simp [sliced]
      split <;> rfl
    · have e2 := Option.some.inj e
      rw [if_neg (by omega), e2, Addr.add_mid]
/-- one path goes with what is there -/
def stepA (p q : List Str) (A : List Ent) (e : Ent) : List Ent := putA (cutA A e.names) ⟨q ++ e.names.drop p.length, e.dir, e.data⟩
def movesA (p q : List Str) (es : List Ent) (A : List Ent) : List Ent := es.foldl (stepA p q) A
theorem Gp.app {xs ys : List Str} (h : Gp xs) (k : IsPath ys) (hl : xs.length + ys.length ≤ 8) : Gp (xs ++ ys) := ⟨fun x hx => by
  rcases List.mem_append.1 hx with hx | hx
  · exact h.1 x hx
  · exact k x hx, by rw [List.length_append]; exact hl⟩
theorem cell_map {w W : World} {m : Nat} {L : List Spot} (h : MapP w m L) (hg : w.grownBy W (some m)) {a : Addr} {v : Value} (hc : w.cell? a = some v) : W.cell? a = some v := by
  obtain ⟨es, clock, hb, _⟩ := h.ex
  have hlt := World.block_lt_of_cell? w _ hc
  have hne : a.block ≠ m := by
    intro e
    unfold World.cell? at hc
    rw [e, hb] at hc
    simp at hc
  have h5 := hg.block a.block hlt (fun e => hne (Option.some.inj e))
  unfold World.cell? at hc ⊢
  rw [h5]
  exact hc
theorem nm_grown {w W : World} {m : Nat} {L : List Spot} (h : MapP w m L) (hg : w.grownBy W (some m)) {v : Value} {xs : List Str} (hn : Rf.Nm w v xs) : Rf.Nm W v xs := by
  obtain ⟨es, clock, hb, _⟩ := h.ex
  exact nm_map hb hg hn
theorem row_S {W : World} {b : Nat} {p : Option Addr} {n c : Nat} {t x : ByteArray} {d : Bool} (h : Row W b [.slice p n c, .string t, .bool d, .string x] 63) : W.cell? ⟨b, 0, none⟩ = some (.slice p n c) ∧ W.cell? ⟨b, 2, none⟩ = some (.bool d) ∧ W.cell? ⟨b, 3, none⟩ = some (.string x) := ⟨h.cell 0, h.cell 2, h.cell 3⟩
/-- between two rounds of move -/
structure MR (w0 : World) (g m : Nat) (p q : List Str) (A : List Ent) (sp : List Spot) (i : Nat) (W : World) : Prop where
  fs : ∃ L, Fs W g m L ∧ L.map Spot.ent = movesA p q ((sp.take i).map Spot.ent) A
  gr : w0.grownBy W (some m)
set_option maxHeartbeats 4000000 in
set_option maxRecDepth 100000 in
theorem move_any {w : World} {g m : Nat} {L : List Spot} (h : Fs w g m L) (hn : L.length ≤ 100000) {pv qv : Value} {p q : List Str} (hp : Val w pv p) (hq : Val w qv q) (gp : Gp p) (gq : Gp q) (hq0 : 0 < q.length) (x : Spot) (hx : spotAt L p = some x) (hdeep : ∀ s ∈ L.filter (belowB p), s.names.length + q.length ≤ 8 + p.length) :
    Calls Tryz.prog 99 #[.pointer (some ⟨g, 0, none⟩), pv, qv] w fun e w' => e = .returned (.tuple #[]) ∧ (∃ L' es, Fs w' g m L' ∧ es.Perm ((L.map Spot.ent).filter (belowE p)) ∧ L'.map Spot.ent = movesA p q (es ++ [x.ent]) (L.map Spot.ent)) ∧ w.grownBy w' (some m) := by
  have HP := hid_in hp
  have HQ := hid_in hq
  obtain ⟨pp, pc, rfl⟩ : ∃ a c, pv = .slice a p.length c := by obtain ⟨a, c, e, _⟩ := hp; exact ⟨a, c, e⟩
  obtain ⟨qp, qc, rfl⟩ : ∃ a c, qv = .slice a q.length c := by obtain ⟨a, c, e, _⟩ := hq; exact ⟨a, c, e⟩
  have H := hid_in h
  have HN := hid_in hn
  have HGQ := hid_in gq
  have HX := hid_in hx
  have hxn : x.names = p := by have h2 := List.find?_some hx; exact of_decide_eq_true h2
  have hxm := List.mem_of_find?_eq_some hx
  have HBL := hid_in (below_any h hp hn)
  have HG1 := hid_in (fun W (k : Below w.heap.size w W) => get_any (h.below k) (hp.below k) gp)
  rw [hx] at HG1
  simp only [Option.getD_some] at HG1
  have HALL : Hid (∀ s, (s ∈ L.filter (belowB p) ∨ s = x) → Rf.Nm w s.v s.names ∧ IsPath s.names ∧ p.length ≤ s.names.length ∧ s.names.length + q.length ≤ 8 + p.length) := fun s hs => by
    rcases hs with hs | rfl
    · have hm := List.mem_filter.1 hs
      have hb := hm.2
      simp only [belowB, Bool.and_eq_true, decide_eq_true_eq] at hb
      exact ⟨h.map.nms s hm.1, (h.map.good s hm.1).2.1, by omega, hdeep s hs⟩
    · exact ⟨h.map.nms s hxm, (h.map.good s hxm).2.1, by rw [hxn]; exact Nat.le_refl _, by rw [hxn]; have := gq.2; omega⟩
  obtain ⟨xq, xc, hxv⟩ := (h.map.nms x hxm).form
  obtain ⟨xv, xn, xt, xd, xx⟩ := x
  simp only at hxv hxn
  subst hxv
  obtain ⟨pl, HPL⟩ : ∃ pl, Hid (p.length = pl) := ⟨_, hid_in rfl⟩
  obtain ⟨ql, HQL⟩ : ∃ ql, Hid (q.length = ql) := ⟨_, hid_in rfl⟩
  simp only [Spot.val] at HG1
  obtain ⟨xl, HXL⟩ : ∃ xl, Hid (xn.length = xl) := ⟨_, hid_in rfl⟩
  rw [HPL.out] at HP HBL HG1 ⊢
  rw [HQL.out] at HQ hq0 ⊢
  rw [HXL.out] at HG1
  clear h hp hq gp gq hn hx hxm hdeep hxn
  go_enter Tryz.func99, Tryz.ntmps99
  go_upto_region 1 with (first | (go_at_call 42; refine HBL.out.mono ?_; rintro e w1 ⟨v1, sp, rfl, hs1, hp1, hb1⟩; have HS1 := hid_in hs1; have HP1 := hid_in hp1; have HB1 := hid_in hb1; clear hs1 hp1 hb1) | (go_at_call 56; refine (HG1.out _ HB1.out).mono ?_; rintro e w2 ⟨rfl, hb2⟩; have HB6 : Hid (Below w2.heap.size w2 (w2.alloc (.cells #[.slice xq xl xc, .string xt, .bool xd, .string xx] 63))) := (Below.refl _ _).alloc (Nat.le_refl _) _; have HB26 := hid_in (hb2.trans (HB6.out.mono hb2.size)); have HO6 := hid_in (HS1.out.below HB26.out); have HF6 := hid_in (sps_one w2 ⟨.slice xq xl xc, xn, xt, xd, xx⟩); have HSZ6 : Hid (w.heap.size ≤ (w2.alloc (.cells #[.slice xq xl xc, .string xt, .bool xd, .string xx] 63)).heap.size) := Nat.le_trans HB1.out.size HB26.out.size; clear hb2) | (at_builtin; refine wpList_app63 w.heap.size rfl (.tmp 10) (.tmp 14) rfl v1 sp [(⟨.slice xq xl xc, xn, xt, xd, xx⟩ : Spot)] rfl HO6.out _ rfl HF6.out (fun t ht => by rw [List.mem_singleton.1 ht]; exact ⟨_, _, _, rfl⟩) (by rw [HP1.out.length_eq]; have h1 := List.length_filter_le (belowB p) L; have h2 := HN.out; simp only [List.length_cons, List.length_nil]; omega) HSZ6.out ?_; intro v4 w4 ho4 hg4; obtain ⟨ss, HSS⟩ : ∃ ss, Hid (sp ++ [(⟨.slice xq xl xc, xn, xt, xd, xx⟩ : Spot)] = ss) := ⟨_, hid_in rfl⟩; rw [HSS.out] at ho4; have HO4 := hid_in ho4; have HB4 := hid_in (HO6.out.step (HB1.out.trans (HB26.out.mono HB1.out.size)) HSZ6.out hg4); obtain ⟨p4, cap4, rfl⟩ := ho4.form; clear ho4 hg4))
  have HALLS : Hid (∀ s ∈ sp ++ [(⟨.slice xq xl xc, xn, xt, xd, xx⟩ : Spot)], Rf.Nm w s.v s.names ∧ IsPath s.names ∧ pl ≤ s.names.length ∧ s.names.length + ql ≤ 8 + pl) := fun s hs => by
    rw [← HPL.out, ← HQL.out]
    refine HALL.out s ?_
    rcases List.mem_append.1 hs with hs | hs
    · exact .inl (HP1.out.mem_iff.1 hs)
    · right
      rw [List.mem_singleton.1 hs, HXL.out]
  have HES : Hid ((sp.map Spot.ent).Perm ((L.map Spot.ent).filter (belowE p))) := by
    rw [← belowB_ent]
    exact HP1.out.map _
  rw [HSS.out] at HALLS
  have hlen : ss.length ≤ 100001 := by
    rw [← HSS.out, List.length_append, HP1.out.length_eq]; have h1 := List.length_filter_le (belowB p) L; have h2 := HN.out; simp only [List.length_cons, List.length_nil]; omega
  obtain ⟨p', cap', b, o, e1, hc1, hc2, h4, h5, h6⟩ := HO4.out.sps
  simp only [Value.slice.injEq] at e1
  obtain ⟨rfl, _, rfl⟩ := e1
  have H4 := hid_in h4
  have H5 := hid_in h5
  have HM4 := hid_in (H.out.below HB4.out).map
  have HFS4 := hid_in (H.out.below HB4.out)
  clear h4 h5 h6
  go_wp2_with fail
  go_loopw [17] (fun vi W => ∃ i : Nat, i ≤ ss.length ∧ vi = .int .i64 (i : Int) ∧ Hid (MR w4 g m p q (L.map Spot.ent) ss i W)) (fun vi _ => ss.length - (intOf vi).toNat)
  case atStart => exact ⟨0, by omega, rfl, ⟨L, HFS4.out, rfl⟩, ⟨rfl, rfl, rfl, Nat.le_refl _, fun _ _ _ => rfl⟩⟩
  case round =>
    obtain ⟨i, hi, rfl, hR⟩ := hrel
    obtain ⟨Li, hFi, hAi⟩ := hR.out.fs
    have HFi := hid_in hFi
    have HAi := hid_in hAi
    have HGi := hid_in hR.out.gr
    clear hFi hAi hR
    by_cases hlt : i < ss.length
    · have hg : ss[i]? = some ss[i] := List.getElem?_eq_getElem hlt
      obtain ⟨hp, hb⟩ := H4.out (by intro h; simp [h] at hlt)
      have hrg : ∀ (y : Nat) u, (ss[i]).cells[y]? = some u → wr.cell? ⟨b, o + i * 4 + y, none⟩ = some u := fun y u hy => cell_map HM4.out HGi.out (by rw [Nat.add_assoc]; exact H5.out _ _ (scells_at hg y u hy))
      obtain ⟨hnm, hip, hn1, hn2⟩ := HALLS.out _ (List.getElem_mem hlt)
      have HG := hid_in hg
      generalize ss[i] = s at *
      obtain ⟨tv, tn, tt, td, tx⟩ := s
      simp only at hnm hip hn1 hn2
      obtain ⟨nq, nc, rfl⟩ := hnm.form
      subst hp
      have m0 : wr.cell? ⟨b, o + i * 4, none⟩ = some (.slice nq tn.length nc) := by simpa using hrg 0 _ rfl
      have m1 : wr.cell? ⟨b, o + i * 4 + 1, none⟩ = some (.string tt) := hrg 1 _ rfl
      have m2 : wr.cell? ⟨b, o + i * 4 + 2, none⟩ = some (.bool td) := hrg 2 _ rfl
      have m3 : wr.cell? ⟨b, o + i * 4 + 3, none⟩ = some (.string tx) := hrg 3 _ rfl
      have HNMr := hid_in (nm_grown HM4.out HGi.out (hnm.below HB4.out))
      obtain ⟨rr, hsl, hvd⟩ := val_drop hnm.val pl hn1
      have HVD := hid_in hvd
      have HGP : Hid (Gp tn) := by
        have h8 : ∃ s ∈ L, s.names = tn := by
          have hm : (⟨.slice nq tn.length nc, tn, tt, td, tx⟩ : Spot) ∈ ss := List.mem_of_getElem? HG.out
          rw [← HSS.out] at hm
          rcases List.mem_append.1 hm with hm | hm
          · exact ⟨_, (List.mem_filter.1 (HP1.out.mem_iff.1 hm)).1, rfl⟩
          · have e := List.mem_singleton.1 hm
            have hxm := List.mem_of_find?_eq_some HX.out
            exact ⟨_, hxm, by injection e with a1 a2; exact a2.symm⟩
        obtain ⟨s, h9, rfl⟩ := h8
        exact (H.out.map.good s h9).2
      have HGN : Hid (Gp (q ++ tn.drop p.length)) := HGQ.out.app (fun y hy => hip y (List.mem_of_mem_drop hy)) (by rw [List.length_drop, HPL.out, HQL.out]; omega)
      have hdl : (tn.drop pl).length = tn.length - pl := by rw [List.length_drop]
      obtain ⟨tl, HTL⟩ : ∃ tl, Hid (tn.length = tl) := ⟨_, hid_in rfl⟩
      have HDL : Hid ((tn.drop pl).length = tl - pl) := by show _ = _; rw [hdl, HTL.out]
      rw [HTL.out] at m0 HNMr hsl HVD hn1 hn2
      clear hg hrg hnm hip hvd hdl
      go_upto_region 3 with (first | (refine Nd.wpList_store_new rfl rfl 63 4 _ _ rfl _ [Value.slice nq tl nc, .string tt, .bool td, .string tx] info63 rfl (hid_in rfl) (spot_one _ _ _ _ _ _) rfl rfl ?_; intro w5 hr5 hb5 hs5))
      have HR5 := hid_in hr5
      have HB5 := hid_in hb5
      have HF5 := hid_in (HFi.out.below hb5)
      have HN5 := hid_in (HNMr.out.below hb5)
      obtain ⟨⟨c0, c1, c2, c3⟩, -⟩ := spot_cells hr5 (Below.refl _ w5)
      clear hr5 hb5 hs5 m0 m1 m2 m3
      have HDR := hid_in (drop_any HF5.out HN5.out.val HGP.out)
      go_upto_region 4 with (first | (go_at_call 95; refine HDR.out.mono ?_; rintro e w6 ⟨rfl, hf6, hg6⟩; have HF6 := hid_in hf6; have HG6 := hid_in hg6; have HR6 := hid_in (Row.map HR5.out HF5.out.map hg6); have HN6 := hid_in (nm_grown HF5.out.map hg6 HN5.out); clear hf6 hg6))
      obtain ⟨⟨a0, a1, a2, a3⟩, -⟩ := spot_cells HR6.out (Below.refl _ w6)
      have HB04 : Hid (w4.grownBy w6 (some m)) := grown_two (grown_below HGi.out HB5.out) HG6.out
      have HQ6 : Hid (Val w6 (.slice qp ql qc) q) := val_kept (HQ.out.below HB4.out) HB04.out.size (fun bb cs t fr e => HB04.out.block bb (Array.getElem?_eq_some_iff.1 e).1 (fun e2 => by
        obtain rfl := Option.some.inj e2
        obtain ⟨es, clock, hbm, _⟩ := HM4.out.ex
        rw [hbm] at e
        cases e))
      obtain ⟨W7, HW7⟩ : ∃ W7, Hid (w6.drew.alloc (.cells #[.slice qp ql qc, .slice rr (tl - pl) (nc - pl)] 35) = W7) := ⟨_, hid_in rfl⟩
      have HB7 : Hid (Below w6.heap.size w6 W7) := by rw [← HW7.out]; exact (below_drew w6).alloc (Nat.le_refl _) _
      have HR7 : Hid (Row W7 w6.heap.size [.slice qp ql qc, .slice rr (tl - pl) (nc - pl)] 35) := by rw [← HW7.out]; exact Row.new w6.drew [.slice qp ql qc, .slice rr (tl - pl) (nc - pl)] 35
      have HCC := hid_in (concat_any HR7.out (HQ6.out.below HB7.out) (HVD.out _ (HN6.out.below HB7.out).val) (by rw [HQL.out]; exact hq0) (by rw [HDL.out, HQL.out]; omega))
      rw [← HW7.out] at HCC
      have HPUT := hid_in (fun W (k : Below w6.heap.size w6 W) v (kv : Rf.Nm W v (q ++ tn.drop p.length)) => put_any (HF6.out.below k) kv HGN.out td tx)
      rw [HPL.out] at HPUT
      have kpl : (pl : Int) ≤ (tl : Int) := by omega
      go_region_held3 (fun W => W.cell? ⟨wr.heap.size, 0, none⟩ = some (.slice nq tl nc) ∧ W.cell? ⟨wr.heap.size, 2, none⟩ = some (.bool td) ∧ W.cell? ⟨wr.heap.size, 3, none⟩ = some (.string tx)) (first | (exact row_S HR6.out) | (exact row_S (HR6.out.below HB8.out HR6.out.lt)) | (exact row_S HR9.out) | (exact row_S (HR6.out.below (below_drew w6) HR6.out.lt)) | (exact row_S (HR6.out.below ((below_drew w6).alloc (Nat.le_refl _) _) HR6.out.lt))) (first | (go_at_call 127; refine HCC.out.mono ?_; rintro e w8 ⟨v8, rfl, hn8, hb8⟩; rw [HW7.out] at hb8 hn8; have HN8 := hid_in (Rf.Nm.of hn8); have HB8 := hid_in (HB7.out.trans (hb8.mono HB7.out.size)); clear hn8 hb8) | (go_at_call 25; refine (HPUT.out _ HB8.out _ HN8.out).mono ?_; rintro e w9 ⟨rfl, hf9, hg9⟩; have HF9 := hid_in hf9; have HR9 := hid_in (Row.map (HR6.out.below HB8.out HR6.out.lt) (HF6.out.below HB8.out).map hg9); have HG9 := hid_in (grown_two HB04.out (grown_plus HB8.out hg9)); clear hf9 hg9))
      all_goals
        go_wp2
        refine ⟨⟨i + 1, by omega, by go_num, ⟨_, HF9.out, ?_⟩, HG9.out⟩, by simp [intOf]; omega⟩
        rw [putP_ent, cutP_ent, HAi.out, List.take_add_one, HG.out]
        simp only [Option.toList_some, List.map_append, List.map_cons, List.map_nil, movesA, List.foldl_append, List.foldl_cons, List.foldl_nil, stepA, Spot.ent, HPL.out]
    · obtain rfl : i = ss.length := by omega
      go_wp2_with fail
      refine bodyPost_end (results_none rfl _ _ _) rfl ?_
      refine ⟨rfl, ⟨Li, sp.map Spot.ent, HFi.out, HES.out, ?_⟩, grown_plus HB4.out HGi.out⟩
      rw [HAi.out, List.take_length, ← HSS.out, List.map_append]
      simp only [List.map_cons, List.map_nil, Spot.ent]
end Go.Proofs.YtngehkmdanhgpaaGreat.Pl
namespace Go.Proofs.YtngehkmdanhgpaaGreat.Pl
open Go.RowKit
open Vp (Str B bl Val cmpL parseS showS splitS withinS IsPath sv)
open Nd (Row wp_world post_Row post_Row2 grownBy_setCell below_of_grown)
def rnE (A : List Ent) (p q : List Str) : Int := if endsE A p q ≠ 0 then endsE A p q else if p = q then 0 else mvE A p q
/-- what is there behind a rename -/
def Moved (A : List Ent) (p q : List Str) (A' : List Ent) : Prop := (rnE A p q ≠ 0 ∨ p = q → A' = A) ∧ (rnE A p q = 0 ∧ p ≠ q → ∃ x es, entAt A p = some x ∧ es.Perm (A.filter (belowE p)) ∧ A' = movesA p q (es ++ [x]) A)
theorem ends_ok {L : List Spot} {p q : List Str} (h : endsE (L.map Spot.ent) p q = 0) : p ≠ [] ∧ q ≠ [] ∧ ∃ x, spotAt L p = some x := by
  unfold endsE at h
  split at h
  · exact absurd h (by decide)
  · rename_i hne
    refine ⟨fun e => hne (.inl e), fun e => hne (.inr e), ?_⟩
    split at h
    · rename_i h1; exact absurd h h1
    · rename_i h1
      have h2 : (findP L p).2 = 0 := by rw [(findP_ent L p).1]; exact Decidable.not_not.1 h1
      exact ⟨(findP L p).1, findP_at (by rw [← h2])⟩
theorem mv_ok {L : List Spot} {p q : List Str} (h : mvE (L.map Spot.ent) p q = 0) : ∀ s ∈ L.filter (belowB p), s.names.length + q.length ≤ 8 + p.length := by
  unfold mvE at h
  split at h
  · exact absurd h (by decide)
  · split at h
    · rename_i h1; exact absurd h h1
    · split at h
      · exact absurd h (by decide)
      · rename_i h1
        have h2 : (L.filter (belowB p)).any (deepB p q) = false := by
          rw [← deep_perm (List.Perm.refl _)]
          exact Bool.eq_false_iff.2 h1
        intro s hs
        have := List.any_eq_false.1 h2 s hs
        simp only [deepB, decide_eq_true_eq] at this
        omega
set_option maxHeartbeats 4000000 in
set_option maxRecDepth 100000 in
theorem rename_any {w : World} {g m : Nat} {L : List Spot} (h : Fs w g m L) (hn : L.length ≤ 100000) (k a z : Int) (p t d : ByteArray) (hp : p.size ≤ 9223372036854775807) (ht : t.size ≤ 9223372036854775807) :
    Calls Tryz.prog 69 #[.pointer (some ⟨g, 0, none⟩), .agg #[.int .i64 k, .string p, .string t, .string d, .int .i64 a, .int .i64 z]] w fun e w' => e = .returned (Res.err (rnE (L.map Spot.ent) (nmsOf p) (nmsOf t))).val ∧ (∃ L', Fs w' g m L' ∧ Moved (L.map Spot.ent) (nmsOf p) (nmsOf t) (L'.map Spot.ent)) ∧ w.grownBy w' (some m) := by
  obtain ⟨WA, HWA, HRO, HRA, HBA⟩ := op_box w k a z p t d
  have H := hid_in h
  have HN := hid_in hn
  have HNO1 := hid_in (fun W => namesOf_any p hp W)
  have HNO2 := hid_in (fun W => namesOf_any t ht W)
  have HGP := hid_in (gp_nms p)
  have HGT := hid_in (gp_nms t)
  obtain ⟨c0, c1, c2, c3, c4, c5⟩ := HRO.out.cell 0 |> fun _ => (show _ ∧ _ ∧ _ ∧ _ ∧ _ ∧ _ from ⟨HRO.out.cell 0, HRO.out.cell 1, HRO.out.cell 2, HRO.out.cell 3, HRO.out.cell 4, HRO.out.cell 5⟩)
  have HK := hid_in (fun W (kb : Below WA.heap.size WA W) => And.intro (show W.cell? ⟨w.heap.size, 1, none⟩ = some (.string p) from (HRO.out.below kb HRO.out.lt).cell 1) (show W.cell? ⟨w.heap.size, 2, none⟩ = some (.string t) from (HRO.out.below kb HRO.out.lt).cell 2))
  have HCE := hid_in (fun W (kb : Below w.heap.size w W) pv qv (hv : Val W pv (nmsOf p)) (hu : Val W qv (nmsOf t)) => checkEnds_any (h.below kb) hv hu (gp_nms p) (gp_nms t))
  have HCM := hid_in (fun W (kb : Below w.heap.size w W) pv qv (hv : Val W pv (nmsOf p)) (hu : Val W qv (nmsOf t)) => checkMove_any (h.below kb) hn hv hu (gp_nms p) (gp_nms t))
  have HMV := hid_in (fun W (kb : Below w.heap.size w W) pv qv (hv : Val W pv (nmsOf p)) (hu : Val W qv (nmsOf t)) => move_any (h.below kb) hn hv hu (gp_nms p) (gp_nms t))
  have HEO := hid_in (fun (e : endsE (L.map Spot.ent) (nmsOf p) (nmsOf t) = 0) => ends_ok e)
  have HMO := hid_in (fun (e : mvE (L.map Spot.ent) (nmsOf p) (nmsOf t) = 0) => mv_ok e)
  have HM : Hid (∀ A', Moved (L.map Spot.ent) (nmsOf p) (nmsOf t) A' ↔ ((rnE (L.map Spot.ent) (nmsOf p) (nmsOf t) ≠ 0 ∨ nmsOf p = nmsOf t → A' = L.map Spot.ent) ∧ (rnE (L.map Spot.ent) (nmsOf p) (nmsOf t) = 0 ∧ nmsOf p ≠ nmsOf t → ∃ x es, entAt (L.map Spot.ent) (nmsOf p) = some x ∧ es.Perm ((L.map Spot.ent).filter (belowE (nmsOf p))) ∧ A' = movesA (nmsOf p) (nmsOf t) (es ++ [x]) (L.map Spot.ent)))) := fun A' => Iff.rfl
  have HE : Hid (rnE (L.map Spot.ent) (nmsOf p) (nmsOf t) = if endsE (L.map Spot.ent) (nmsOf p) (nmsOf t) ≠ 0 then endsE (L.map Spot.ent) (nmsOf p) (nmsOf t) else if nmsOf p = nmsOf t then 0 else mvE (L.map Spot.ent) (nmsOf p) (nmsOf t)) := rfl
  have HREF := hid_in (fun k W => refuse_any k W)
  simp only [Res.err, Res.val] at HREF ⊢
  obtain ⟨MV, HMVD⟩ : ∃ MV : List Ent → Prop, Hid (Moved (L.map Spot.ent) (nmsOf p) (nmsOf t) = MV) := ⟨_, hid_in rfl⟩
  rw [HMVD.out] at HM ⊢
  generalize rnE (L.map Spot.ent) (nmsOf p) (nmsOf t) = E at *
  generalize endsE (L.map Spot.ent) (nmsOf p) (nmsOf t) = E1 at *
  generalize mvE (L.map Spot.ent) (nmsOf p) (nmsOf t) = E2 at *
  generalize nmsOf p = ps at *
  generalize nmsOf t = qs at *
  clear h hn
  go_enter Tryz.func69, Tryz.ntmps69
  go_upto_region 1 with fail
  refine wp_world HWA.out ?_
  go_region_held3 (fun W => W.cell? ⟨w.heap.size, 1, none⟩ = some (.string p) ∧ W.cell? ⟨w.heap.size, 2, none⟩ = some (.string t)) (first | (exact HK.out _ HB2.out) | (exact HK.out _ HB1.out) | (exact HK.out _ (Below.refl _ _)) | (exact HK.out _ (below_drew WA))) (first | (go_at_call 92; have hx := HNO1.out; refine (HNO1.out _).mono ?_; rintro e w1 ⟨v1, rfl, hv1, hb1⟩; have HV1 := hid_in hv1; have HB1 := hid_in ((below_drew WA).trans (hb1.mono (below_drew WA).size)); clear hv1 hb1 HNO1 hx) | (go_at_call 92; have hx := HB1.out; refine (HNO2.out _).mono ?_; rintro e w2 ⟨v2, rfl, hv2, hb2⟩; have HV2 := hid_in hv2; have HV1' := hid_in (HV1.out.below hb2); have HB2 := hid_in (HB1.out.trans (hb2.mono HB1.out.size)); clear hv2 hb2 hx))
  have HBX := hid_in (HBA.out.trans (HB2.out.mono HBA.out.size))
  obtain ⟨vp1, vc1, rfl⟩ := HV1.out.form
  obtain ⟨vp2, vc2, rfl⟩ := HV2.out.form
  have HERR := hid_in (fun W (kb : Below w2.heap.size w2 W) => And.intro (res_cells HRA.out (HB2.out.trans (kb.mono HB2.out.size))) (And.intro (HRA.out.below (HB2.out.trans (kb.mono HB2.out.size)) HRA.out.lt) (HBX.out.trans (kb.mono HBX.out.size))))
  have HCE2 := hid_in (HCE.out _ HBX.out _ _ HV1'.out.val HV2.out.val)
  obtain ⟨l1, HL1⟩ : ∃ l1, Hid (ps.length = l1) := ⟨_, hid_in rfl⟩
  obtain ⟨l2, HL2⟩ : ∃ l2, Hid (qs.length = l2) := ⟨_, hid_in rfl⟩
  rw [HL1.out] at HV1' HCE2 ⊢
  rw [HL2.out] at HV2 HCE2 ⊢
  by_cases h1 : E1 = 0
  · subst h1
    obtain ⟨hp0, hq0, x, hx⟩ := HEO.out rfl
    have HE1 : Hid (E = if ps = qs then 0 else E2) := by show _ = _; rw [HE.out, if_neg (by simp)]
    have HCMP := hid_in (fun W (k : Below w2.heap.size w2 W) => Vp.compare_v ((HV1'.out.below k).val) ((HV2.out.below k).val))
    clear HE HCE
    by_cases heq : ps = qs
    · have hc0 : cmpL ps qs = 0 := (Vp.cmpL_is.zero ps qs).2 heq
      rw [hc0] at HCMP
      have HEK : Hid (E = 0) := by show _ = _; rw [HE1.out, if_pos heq]
      have HEQ := hid_in heq
      clear heq hc0 hx hp0 hq0
      go_wp2_with (first | (go_at_call 97; refine HCE2.out.mono ?_; rintro e w3 ⟨rfl, hb3⟩; have HB3 := hid_in hb3; clear hb3) | (go_at_call 81; refine (HCMP.out _ HB3.out).mono ?_; rintro e w4 ⟨rfl, rfl⟩; obtain ⟨⟨⟨g0, g1, g2, g3, g4⟩, q0, q1, q2, q3, q4⟩, hr5, hb5'⟩ := HERR.out _ HB3.out; have HR5 := hid_in hr5; have HB5 := hid_in hb5'; clear hr5 hb5'))
      refine post_err H.out HR5.out HB5.out 0 _ rfl rfl rfl fun W' hf hg => ⟨by rw [HEK.out]; rfl, ⟨L, hf, (HM.out _).2 ⟨fun _ => rfl, fun hh => absurd HEQ.out hh.2⟩⟩, hg⟩
    · have hc0 : (cmpL ps qs == 0) = false := beq_eq_false_iff_ne.2 (fun e => heq ((Vp.cmpL_is.zero ps qs).1 e))
      obtain ⟨cc, HCC⟩ : ∃ cc, Hid (cmpL ps qs = cc) := ⟨_, hid_in rfl⟩
      rw [HCC.out] at HCMP hc0
      have HE2 : Hid (E = E2) := by show _ = _; rw [HE1.out, if_neg heq]
      have HNE := hid_in heq
      clear heq
      go_upto_region 8 with (first | (go_at_call 97; refine HCE2.out.mono ?_; rintro e w3 ⟨rfl, hb3⟩; have HB3 := hid_in hb3; have HV13 := hid_in (HV1'.out.below hb3); have HV23 := hid_in (HV2.out.below hb3); have HBX3 := hid_in (HBX.out.trans (hb3.mono HBX.out.size)); have hcm := HCM.out _ HBX3.out _ _ HV13.out.val HV23.out.val; have HCM2 := hid_in hcm; clear hb3 hcm) | (go_at_call 81; refine (HCMP.out _ HB3.out).mono ?_; rintro e w4 ⟨rfl, rfl⟩) | (go_at_call 98; refine HCM2.out.mono ?_; rintro e w5 ⟨rfl, hb5⟩; have HB5 := hid_in (HB3.out.trans (hb5.mono HB3.out.size)); clear hb5))
      have HBX5 := hid_in (HBX.out.trans (HB5.out.mono HBX.out.size))
      by_cases h2 : E2 = 0
      · subst h2
        have HMV2 := hid_in (HMV.out _ HBX5.out _ _ (HV1'.out.below HB5.out).val (HV2.out.below HB5.out).val (List.length_pos_iff.2 hq0) x hx (HMO.out rfl))
        have HXE : Hid (entAt (L.map Spot.ent) ps = some x.ent) := by show _ = _; rw [← spotAt_ent, hx]; rfl
        clear hx hp0 hq0
        go_wp2_with (first | (go_at_call 99; refine HMV2.out.mono ?_; rintro e w6 ⟨rfl, ⟨L6, es6, hf6, hp6, ha6⟩, hg6⟩; have HF6 := hid_in hf6; have HP6 := hid_in hp6; have HA6 := hid_in ha6; have hr6 := Row.map (HRA.out.below (HB2.out.trans (HB5.out.mono HB2.out.size)) HRA.out.lt) (H.out.below HBX5.out).map hg6; obtain ⟨⟨g0, g1, g2, g3, g4⟩, q0, q1, q2, q3, q4⟩ := res_cells hr6 (Below.refl _ w6); have HR6 := hid_in hr6; have HG6 := hid_in (grown_plus HBX5.out hg6); clear hf6 hp6 ha6 hg6 hr6))
        refine post_Row 4 37 rfl (w.heap.size + 1) rfl 37 [.int .i64 0, .bool false, .int .i64 0, .string ⟨#[]⟩, .slice none 0 0] (set5_row HR6.out rfl _ _ _ _ _) _ Tryz.underlying37 rfl 5 info37 rfl rfl ⟨by rw [HE2.out], ⟨_, HF6.out.set5 HR6.out (by decide) H.out.ne1 _ _ _ _ _, (HM.out _).2 ⟨fun hh => ?_, fun _ => ⟨_, es6, HXE.out, HP6.out, HA6.out⟩⟩⟩, grown_set5 HG6.out (Nat.le_succ _) _ _ _ _ _⟩
        rcases hh with hh | hh
        · exact absurd HE2.out hh
        · exact absurd hh HNE.out
      · have h3 : (E2 != 0) = true := by simpa using h2
        have HK0 := hid_in h2
        clear h2 hx hp0 hq0
        go_wp2_with (first | (go_at_call 30; refine (HREF.out _ _).mono ?_; rintro e w6 ⟨rfl, hb6⟩; obtain ⟨⟨⟨g0, g1, g2, g3, g4⟩, q0, q1, q2, q3, q4⟩, hr6, hb6'⟩ := HERR.out _ (HB5.out.trans (hb6.mono HB5.out.size)); have HR6 := hid_in hr6; have HB6 := hid_in hb6'; clear hb6 hr6 hb6'))
        refine post_err H.out HR6.out HB6.out E2 _ rfl rfl rfl fun W' hf hg => ⟨by rw [HE2.out]; rfl, ⟨L, hf, (HM.out _).2 ⟨fun _ => rfl, fun hh => absurd hh.1 (by rw [HE2.out]; exact HK0.out)⟩⟩, hg⟩
  · have h3 : (E1 != 0) = true := by simpa using h1
    have HEK : Hid (E = E1) := by show _ = _; rw [HE.out, if_pos h1]
    have HK0 := hid_in h1
    clear h1
    go_wp2_with (first | (go_at_call 97; refine HCE2.out.mono ?_; rintro e w3 ⟨rfl, hb3⟩; have HB3 := hid_in hb3; clear hb3) | (go_at_call 30; refine (HREF.out _ _).mono ?_; rintro e w6 ⟨rfl, hb6⟩; obtain ⟨⟨⟨g0, g1, g2, g3, g4⟩, q0, q1, q2, q3, q4⟩, hr6, hb6'⟩ := HERR.out _ (HB3.out.trans (hb6.mono HB3.out.size)); have HR6 := hid_in hr6; have HB6 := hid_in hb6'; clear hb6 hr6 hb6'))
    refine post_err H.out HR6.out HB6.out E1 _ rfl rfl rfl fun W' hf hg => ⟨by rw [HEK.out]; rfl, ⟨L, hf, (HM.out _).2 ⟨fun _ => rfl, fun hh => absurd hh.1 (by rw [HEK.out]; exact HK0.out)⟩⟩, hg⟩
end Go.Proofs.YtngehkmdanhgpaaGreat.Pl
