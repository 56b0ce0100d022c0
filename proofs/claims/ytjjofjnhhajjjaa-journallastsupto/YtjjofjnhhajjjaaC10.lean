/-
  Cut; Clone. Entries in memory: values that read as entries; a row of entries of the call's own, and what is put behind it.
-/
import Derived.Laws.Tables
import Derived.OwnWalk
import Derived.Lib.SlBytesConst
import Derived.Deep.RegionLaw
import Derived.Deep.CutRange
import Derived.Laws.StructEq
import Derived.Laws.CopyOwn
import Derived.Deep.DrawnRows
import Derived.Lib.AppendZeros
import Derived.Test.YtjjofjnhhajjjaaC00
import Derived.Test.YtjjofjnhhajjjaaC01
import Derived.Test.YtjjofjnhhajjjaaC02
import Derived.Test.YtjjofjnhhajjjaaC03
import Derived.Test.YtjjofjnhhajjjaaC04
import Derived.Test.YtjjofjnhhajjjaaC05
import Derived.Test.YtjjofjnhhajjjaaC06
import Derived.Test.YtjjofjnhhajjjaaC07
import Derived.Test.YtjjofjnhhajjjaaC08
import Derived.Test.YtjjofjnhhajjjaaC09
namespace Go.Proofs.Ytjjofjnhhajjjaa.Pt
open Go.RowKit
open Nd (Row wp_world post_Row grownBy_setCell below_of_grown grownBy_trans grown_of_below grownBy_refl u8v Grew Moved Sl hid_in i5h)
/-- a value that reads as numbers, whatever is turned in S -/
def Kp (w : World) (S : Nat → Prop) (v : Value) (ks : List Int) : Prop := ∃ p cap, v = .slice p ks.length cap ∧ ks.length ≤ 9223372036854775807 ∧ (ks ≠ [] → ∃ b o, p = some ⟨b, o, none⟩ ∧ ∀ W, Grew w W S → ∀ (i : Nat) k, ks[i]? = some k → W.cell? ⟨b, o + i, none⟩ = some (.int .i64 k))
def cutD (ks : List Int) (d : Dk) : Dk := ⟨cutAr (ks.getD 0 0) d.a0, cutAr (ks.getD 1 0) d.a1, d.live, false, 0⟩
theorem Stp.grew {a b : World} {B g : Nat} {v0 v1 : Value} {d : Dk} (h : Stp a b B g v0 v1 d) : Grew a b (FS g v0 v1) := by
  obtain ⟨_, _, _, h2, _⟩ := h
  exact h2
/-- behind the cuts of both areas -/
theorem PtV.rise {w : World} {B g : Nat} {v0 v1 : Value} {d : Dk} (h : PtV w B g v0 v1 d) : Stp w ((w.setCell ⟨g, 5, none⟩ (.bool false)).setCell ⟨g, 6, none⟩ (.int .i64 0)) B g v0 v1 { d with down := false, left := 0 } :=
  (h.set (d' := { d with down := false }) 5 (.bool false) rfl rfl rfl ⟨h.ok.o0, h.ok.o1, h.ok.left⟩).then (fun u0 u1 hp => hp.set (d' := { d with down := false, left := 0 }) 6 (.int .i64 0) rfl rfl rfl ⟨hp.ok.o0, hp.ok.o1, by simp⟩)
theorem cut_two (k0 k1 : Int) (d : Dk) : ({ setAr 1 (cutAr k1 (setAr 0 (cutAr k0 d.a0) d).a1) (setAr 0 (cutAr k0 d.a0) d) with down := false, left := 0 } : Dk) = ⟨cutAr k0 d.a0, cutAr k1 d.a1, d.live, false, 0⟩ := rfl
set_option maxHeartbeats 1000000 in
set_option maxRecDepth 100000 in
theorem cut_any {w : World} {B g : Nat} {v0 v1 : Value} {d : Dk} (h : PtV w B g v0 v1 d) (v : Value) (ks : List Int) (hk : Kp w (FS g v0 v1) v ks) : Calls Try.prog 16 #[.pointer (some ⟨g, 0, none⟩), v] w fun e w' => e = .returned (.tuple #[]) ∧ Stp w w' B g v0 v1 (cutD ks d) := by
  obtain ⟨p, cap, rfl, hl, hat⟩ := hk
  have HH := hid_in h
  unfold cutD
  rcases ks with _ | ⟨k0, _ | ⟨k1, r⟩⟩
  · show Calls Try.prog 16 _ w fun e w' => e = .returned (.tuple #[]) ∧ Stp w w' B g v0 v1 ⟨cutAr 0 d.a0, cutAr 0 d.a1, d.live, false, 0⟩
    clear h hat hl
    go_enter Try.func16, Try.ntmps16
    go_wp2_with fail
    refine wp_loop_rounds 3 ?_
    rw [rounds_succ]
    go_wp2_with (first | (go_at_call 33; refine (tcut0 HH.out 0).mono ?_; rintro e w1 ⟨rfl, hs1⟩; have HS1 := hid_in hs1; clear hs1))
    obtain ⟨u0, u1, hp, hg, hsub⟩ := HS1.out
    have HP := hid_in hp
    have HGX := hid_in hg
    have HUX := hid_in hsub
    have HT := hid_in (fun u0 u1 (hq : PtV w1 B g u0 u1 (setAr 0 (cutAr 0 d.a0) d)) => tcut1 hq 0)
    clear hp hg hsub
    rw [rounds_succ]
    go_wp2_with (first | (go_at_call 33; refine (HT.out _ _ HP.out).mono ?_; rintro e w2 ⟨rfl, hs2⟩; have HS2 := hid_in hs2; clear hs2))
    obtain ⟨x0, x1, hp2, hg2, hsub2⟩ := HS2.out
    have HP2 := hid_in hp2
    have HG2 := hid_in hg2
    have HU2 := hid_in hsub2
    have c5 := hp2.row.cell 5
    have c6 := hp2.row.cell 6
    have f5 := hp2.row.frozen 5
    have f6 := hp2.row.frozen 6
    simp only [pcells, List.getElem?_cons_succ, List.getElem?_cons_zero] at c5 c6
    clear hp2 hg2 hsub2
    have HE : Hid (Stp w ((w2.setCell ⟨g, 5, none⟩ (.bool false)).setCell ⟨g, 6, none⟩ (.int .i64 0)) B g v0 v1 ⟨cutAr 0 d.a0, cutAr 0 d.a1, d.live, false, 0⟩) := hid_in (by
      have e1 : Stp w w2 B g v0 v1 (setAr 1 (cutAr 0 (setAr 0 (cutAr 0 d.a0) d).a1) (setAr 0 (cutAr 0 d.a0) d)) := Stp.trans HP.out HGX.out HUX.out HS2.out
      rw [← cut_two]
      exact e1.then (fun u0 u1 hp => hp.rise))
    rw [rounds_succ]
    go_wp2
    go_end0
    exact ⟨rfl, HE.out⟩
  · show Calls Try.prog 16 _ w fun e w' => e = .returned (.tuple #[]) ∧ Stp w w' B g v0 v1 ⟨cutAr k0 d.a0, cutAr 0 d.a1, d.live, false, 0⟩
    obtain ⟨b, o, rfl, hcs⟩ := hat (by simp)
    have HCS := hid_in hcs
    have q0 : w.cell? ⟨b, o, none⟩ = some (.int .i64 k0) := by simpa using hcs w (Grew.refl _ _) 0 k0 rfl
    clear h hcs hat hl
    go_enter Try.func16, Try.ntmps16
    go_wp2_with fail
    refine wp_loop_rounds 3 ?_
    rw [rounds_succ]
    go_wp2_with (first | (go_at_call 33; refine (tcut0 HH.out k0).mono ?_; rintro e w1 ⟨rfl, hs1⟩; have HS1 := hid_in hs1; clear hs1))
    obtain ⟨u0, u1, hp, hg, hsub⟩ := HS1.out
    have HP := hid_in hp
    have HGX := hid_in hg
    have HUX := hid_in hsub
    have HT := hid_in (fun u0 u1 (hq : PtV w1 B g u0 u1 (setAr 0 (cutAr k0 d.a0) d)) => tcut1 hq 0)
    clear hp hg hsub
    rw [rounds_succ]
    go_wp2_with (first | (go_at_call 33; refine (HT.out _ _ HP.out).mono ?_; rintro e w2 ⟨rfl, hs2⟩; have HS2 := hid_in hs2; clear hs2))
    obtain ⟨x0, x1, hp2, hg2, hsub2⟩ := HS2.out
    have HP2 := hid_in hp2
    have HG2 := hid_in hg2
    have HU2 := hid_in hsub2
    have c5 := hp2.row.cell 5
    have c6 := hp2.row.cell 6
    have f5 := hp2.row.frozen 5
    have f6 := hp2.row.frozen 6
    simp only [pcells, List.getElem?_cons_succ, List.getElem?_cons_zero] at c5 c6
    clear hp2 hg2 hsub2
    have HE : Hid (Stp w ((w2.setCell ⟨g, 5, none⟩ (.bool false)).setCell ⟨g, 6, none⟩ (.int .i64 0)) B g v0 v1 ⟨cutAr k0 d.a0, cutAr 0 d.a1, d.live, false, 0⟩) := hid_in (by
      have e1 : Stp w w2 B g v0 v1 (setAr 1 (cutAr 0 (setAr 0 (cutAr k0 d.a0) d).a1) (setAr 0 (cutAr k0 d.a0) d)) := Stp.trans HP.out HGX.out HUX.out HS2.out
      rw [← cut_two]
      exact e1.then (fun u0 u1 hp => hp.rise))
    rw [rounds_succ]
    go_wp2
    go_end0
    exact ⟨rfl, HE.out⟩
  · show Calls Try.prog 16 _ w fun e w' => e = .returned (.tuple #[]) ∧ Stp w w' B g v0 v1 ⟨cutAr k0 d.a0, cutAr k1 d.a1, d.live, false, 0⟩
    obtain ⟨b, o, rfl, hcs⟩ := hat (by simp)
    have HCS := hid_in hcs
    have q0 : w.cell? ⟨b, o, none⟩ = some (.int .i64 k0) := by simpa using hcs w (Grew.refl _ _) 0 k0 rfl
    have hlt0 : (0 : Int) < ((r.length + 1 + 1 : Nat) : Int) := by omega
    have hlt1 : (1 : Int) < ((r.length + 1 + 1 : Nat) : Int) := by omega
    simp only [List.length_cons] at hl ⊢
    generalize r.length + 1 + 1 = m at *
    clear h hcs hat hl
    go_enter Try.func16, Try.ntmps16
    go_wp2_with fail
    refine wp_loop_rounds 3 ?_
    rw [rounds_succ]
    go_wp2_with (first | (go_at_call 33; refine (tcut0 HH.out k0).mono ?_; rintro e w1 ⟨rfl, hs1⟩; have HS1 := hid_in hs1; have q1 := HCS.out w1 HS1.out.grew 1 k1 rfl; clear hs1))
    obtain ⟨u0, u1, hp, hg, hsub⟩ := HS1.out
    have HP := hid_in hp
    have HGX := hid_in hg
    have HUX := hid_in hsub
    have HT := hid_in (fun u0 u1 (hq : PtV w1 B g u0 u1 (setAr 0 (cutAr k0 d.a0) d)) => tcut1 hq k1)
    clear hp hg hsub
    rw [rounds_succ]
    go_wp2_with (first | (go_at_call 33; refine (HT.out _ _ HP.out).mono ?_; rintro e w2 ⟨rfl, hs2⟩; have HS2 := hid_in hs2; clear hs2))
    obtain ⟨x0, x1, hp2, hg2, hsub2⟩ := HS2.out
    have HP2 := hid_in hp2
    have HG2 := hid_in hg2
    have HU2 := hid_in hsub2
    have c5 := hp2.row.cell 5
    have c6 := hp2.row.cell 6
    have f5 := hp2.row.frozen 5
    have f6 := hp2.row.frozen 6
    simp only [pcells, List.getElem?_cons_succ, List.getElem?_cons_zero] at c5 c6
    clear hp2 hg2 hsub2
    have HE : Hid (Stp w ((w2.setCell ⟨g, 5, none⟩ (.bool false)).setCell ⟨g, 6, none⟩ (.int .i64 0)) B g v0 v1 ⟨cutAr k0 d.a0, cutAr k1 d.a1, d.live, false, 0⟩) := hid_in (by
      have e1 : Stp w w2 B g v0 v1 (setAr 1 (cutAr k1 (setAr 0 (cutAr k0 d.a0) d).a1) (setAr 0 (cutAr k0 d.a0) d)) := Stp.trans HP.out HGX.out HUX.out HS2.out
      rw [← cut_two]
      exact e1.then (fun u0 u1 hp => hp.rise))
    rw [rounds_succ]
    go_wp2
    go_end0
    exact ⟨rfl, HE.out⟩
/-- what Clone answers -/
def Cl (w : World) (d : Dk) (e : Ending) (w' : World) : Prop := ∃ l u0 u1, e = .returned (.pointer (some ⟨l, 0, none⟩)) ∧ PtV w' w.heap.size l u0 u1 d ∧ Below w.heap.size w w'
set_option maxHeartbeats 1000000 in
set_option maxRecDepth 100000 in
theorem pclone_any {w : World} {B g : Nat} {v0 v1 : Value} {d : Dk} (h : PtV w B g v0 v1 d) : Calls Try.prog 10 #[.pointer (some ⟨g, 0, none⟩)] w fun e w' => Cl w d e w' := by
  have HH := hid_in h
  obtain ⟨p0, q0, b0, hv0, hsl0, hno0⟩ := Nd.own_sl h.ok.o0.2.1 h.w0
  obtain ⟨p1, q1, b1, hv1, hsl1, hno1⟩ := Nd.own_sl h.ok.o1.2.1 h.w1
  have HS0 := hid_in hsl0
  have HS1 := hid_in hsl1
  have HC0 := hid_in (fun W (x : Below w.heap.size w W) => Nd.clone_any d.a0.bs p0 q0 b0 0 W (hsl0.below x) hno0 h.ok.o0.2.2)
  have HC1 := hid_in (fun W (x : Below w.heap.size w W) => Nd.clone_any d.a1.bs p1 q1 b1 0 W (hsl1.below x) hno1 h.ok.o1.2.2)
  have hrow := h.row
  have HO0 := hid_in h.w0
  have HO1 := hid_in h.w1
  have HK := hid_in h.ok
  clear h hsl0 hsl1 hno0 hno1 HS0 HS1
  subst hv0 hv1
  have HZ : Hid (Row (w.alloc (.cells (pcells (.slice none 0 0) (.slice none 0 0) newD).toArray 60)) w.heap.size (pcells (.slice none 0 0) (.slice none 0 0) newD) 60) := hid_in (Row.new w _ 60)
  have HBZ : Hid (Below w.heap.size w (w.alloc (.cells (pcells (.slice none 0 0) (.slice none 0 0) newD).toArray 60))) := hid_in ((Below.refl _ _).alloc (Nat.le_refl _) _)
  obtain ⟨l, HL⟩ : ∃ l, Hid (w.heap.size = l) := ⟨_, hid_in rfl⟩
  obtain ⟨n0, HN0⟩ : ∃ n, Hid (d.a0.bs.length = n) := ⟨_, hid_in rfl⟩
  obtain ⟨n1, HN1⟩ : ∃ n, Hid (d.a1.bs.length = n) := ⟨_, hid_in rfl⟩
  have h1c : ∀ v ∈ pcells (.slice p0 d.a0.bs.length q0) (.slice p1 d.a1.bs.length q1) d, v.oneCell' = true := by
    intro v hv
    simp only [pcells, List.mem_cons, List.not_mem_nil, or_false] at hv
    rcases hv with rfl | rfl | rfl | rfl | rfl | rfl | rfl <;> rfl
  have H1C := hid_in h1c
  clear h1c
  go_enter Try.func10, Try.ntmps10
  have k0 := hrow.cell 0
  have k1 := hrow.cell 1
  have k2 := hrow.cell 2
  have k3 := hrow.cell 3
  have k4 := hrow.cell 4
  have k5 := hrow.cell 5
  have k6 := hrow.cell 6
  simp only [pcells, List.getElem?_cons_succ, List.getElem?_cons_zero] at k0 k1 k2 k3 k4 k5 k6
  clear hrow
  go_wp2
  obtain ⟨w1, HW1⟩ : ∃ w1, Hid (w.alloc (.cells (pcells (.slice p0 d.a0.bs.length q0) (.slice p1 d.a1.bs.length q1) d).toArray 60) = w1) := ⟨_, hid_in rfl⟩
  have HR1 : Hid (Row w1 w.heap.size (pcells (.slice p0 d.a0.bs.length q0) (.slice p1 d.a1.bs.length q1) d) 60) := hid_in (by rw [← HW1.out]; exact Row.new w _ 60)
  have HB1 : Hid (Below w.heap.size w w1) := hid_in (by rw [← HW1.out]; exact (Below.refl _ _).alloc (Nat.le_refl _) _)
  refine wp_world HW1.out ?_
  clear HW1 HZ HBZ k0 k1 k2 k3 k4 k5 k6
  rw [HL.out]
  rw [HL.out] at HR1
  have c0 := HR1.out.cell 0
  have f0 := HR1.out.frozen 0
  simp only [pcells, List.getElem?_cons_zero] at c0
  rw [HN0.out] at c0
  have HA := hid_in (HC0.out w1 HB1.out)
  rw [HN0.out] at HA
  refine wp_loop_rounds 3 ?_
  rw [rounds_succ]
  go_wp2_with (first | (go_at_call 29; refine HA.out.mono ?_; rintro e w2 ⟨u0, rfl, ho2, hb2⟩; obtain ⟨x0, y0, rfl, -, -⟩ := own_some ho2; have HO2 := hid_in ho2; have HB2 := hid_in hb2; have HR2 := hid_in (HR1.out.below hb2 HR1.out.lt); have d0 := HR2.out.cell 0; have f0 := HR2.out.frozen 0; simp only [pcells, List.getElem?_cons_zero] at d0; rw [HN0.out] at d0; clear ho2 hb2))
  obtain ⟨w3, HW3⟩ : ∃ w3, Hid (w2.setCell ⟨l, 0, none⟩ (.slice x0 n0 y0) = w3) := ⟨_, hid_in rfl⟩
  have HG3 : Hid (w2.grownBy w3 (some l)) := hid_in (by rw [← HW3.out]; exact grownBy_setCell w2 ⟨l, 0, none⟩ _)
  have HR3 : Hid (Row w3 l (pcells (.slice x0 n0 y0) (.slice p1 d.a1.bs.length q1) d) 60) := hid_in (by rw [← HW3.out]; exact HR2.out.set_same 0 _)
  have HB12 := hid_in (HB1.out.trans (HB2.out.mono HB1.out.size))
  have HB3 : Hid (Below w.heap.size w w3) := hid_in (below_of_grown HB12.out HG3.out HB12.out.size (by have := HL.out; omega))
  have hge : ∀ q, Value.ownBlock (.slice x0 n0 y0) = some q → w1.heap.size ≤ q := fun q hq => (HO2.out.lt q hq).1
  have HLT1 := hid_in HR1.out.lt
  have HNE : Hid (Value.ownBlock (.slice x0 n0 y0) ≠ some l) := hid_in (fun e => by have := hge l e; have := HLT1.out; omega)
  have HO3 := hid_in (HO2.out.kept HG3.out (.inr HNE.out))
  refine wp_world HW3.out ?_
  clear c0 f0 d0 HA hge
  have c2 := HR3.out.cell 2
  have f2 := HR3.out.frozen 2
  simp only [pcells, List.getElem?_cons_succ, List.getElem?_cons_zero] at c2
  rw [HN1.out] at c2
  have HA := hid_in (HC1.out w3 HB3.out)
  rw [HN1.out] at HA
  go_wp2_with (first | (go_at_call 29; refine HA.out.mono ?_; rintro e w4 ⟨u1, rfl, ho4, hb4⟩; obtain ⟨x1, y1, rfl, -, -⟩ := own_some ho4; have HO4 := hid_in ho4; have HB4 := hid_in hb4; have HR4 := hid_in (HR3.out.below hb4 HR3.out.lt); have d2 := HR4.out.cell 2; have f2 := HR4.out.frozen 2; simp only [pcells, List.getElem?_cons_succ, List.getElem?_cons_zero] at d2; rw [HN1.out] at d2; clear ho4 hb4))
  obtain ⟨w5, HW5⟩ : ∃ w5, Hid (w4.setCell ⟨l, 2, none⟩ (.slice x1 n1 y1) = w5) := ⟨_, hid_in rfl⟩
  have HG5 : Hid (w4.grownBy w5 (some l)) := hid_in (by rw [← HW5.out]; exact grownBy_setCell w4 ⟨l, 2, none⟩ _)
  have HR5 : Hid (Row w5 l (pcells (.slice x0 n0 y0) (.slice x1 n1 y1) d) 60) := hid_in (by rw [← HW5.out]; exact HR4.out.set_same 2 _)
  have HB34 := hid_in (HB3.out.trans (HB4.out.mono HB3.out.size))
  have HB5 : Hid (Below w.heap.size w w5) := hid_in (below_of_grown HB34.out HG5.out HB34.out.size (by have := HL.out; omega))
  have hge : ∀ q, Value.ownBlock (.slice x1 n1 y1) = some q → w3.heap.size ≤ q := fun q hq => (HO4.out.lt q hq).1
  have hne1 : Value.ownBlock (.slice x1 n1 y1) ≠ some l := fun e => by have := hge l e; have := HR3.out.lt; omega
  have ho0 : w5.ownsRow w.heap.size 5 1 (.slice x0 n0 y0) d.a0.bs.length (d.a0.bs.map u8v) := by
    have e1 := (own_keepG HO3.out (Grew.of_below (fun _ => False) HB4.out) (fun _ _ h => h)).kept HG5.out (.inr HNE.out)
    rw [← HN0.out] at e1 ⊢
    exact Nd.own_base e1 HB1.out.size
  have ho1 : w5.ownsRow w.heap.size 5 1 (.slice x1 n1 y1) d.a1.bs.length (d.a1.bs.map u8v) := by
    have e1 := HO4.out.kept HG5.out (.inr hne1)
    rw [← HN1.out] at e1 ⊢
    exact Nd.own_base e1 HB3.out.size
  have HP : Hid (PtV w5 w.heap.size l (.slice x0 n0 y0) (.slice x1 n1 y1) d) := hid_in ⟨HR5.out, ho0, ho1, HNE.out, hne1, (fun q e0 e1 => by have := hge q e1; have := (HO3.out.lt q e0).2; omega), by have := HL.out; omega, HK.out⟩
  refine wp_world HW5.out ?_
  clear ho0 ho1 hne1 hge c2 f2 d2 HA
  go_wp2
  go_ret
  exact ⟨_, _, _, rfl, HP.out, HB5.out⟩
end Go.Proofs.Ytjjofjnhhajjjaa.Pt
namespace Go.Proofs.Ytjjofjnhhajjjaa.Jr
open Go.RowKit
open Nd (Row wp_world post_Row grownBy_setCell below_of_grown u8v Grew Sl hid_in i64r)
/-- an entry -/
structure Ent where
  cl : Int
  nu : Int
  op : Nd.Opn
  deriving DecidableEq
def Ent.cells (e : Ent) : List Value := [.int .i64 e.cl, .int .i64 e.nu, .int .i64 e.op.kind, .string e.op.path, .string e.op.dest, .string e.op.data, .int .i64 e.op.at_, .int .i64 e.op.size]
def Ent.val (e : Ent) : Value := .agg #[.int .i64 e.cl, .int .i64 e.nu, .int .i64 e.op.kind, .string e.op.path, .string e.op.dest, .string e.op.data, .int .i64 e.op.at_, .int .i64 e.op.size]
structure Ent.ok (e : Ent) : Prop where
  cl : i64r e.cl
  nu : i64r e.nu
  op : e.op.ok
def ecells (es : List Ent) : List Value := es.flatMap Ent.cells
theorem ecells_cons (e : Ent) (es : List Ent) : ecells (e :: es) = e.cells ++ ecells es := by simp [ecells]
theorem ecells_app (a b : List Ent) : ecells (a ++ b) = ecells a ++ ecells b := by simp [ecells]
theorem ecells_len (es : List Ent) : (ecells es).length = es.length * 8 := by
  induction es with
  | nil => rfl
  | cons f r ih =>
    rw [ecells_cons, List.length_append, ih, List.length_cons]
    simp [Ent.cells]
    omega
theorem ecells_one (es : List Ent) : ∀ u ∈ ecells es, u.oneCell' = true := by
  intro u hu
  obtain ⟨f, _, h⟩ := List.mem_flatMap.1 hu
  simp [Ent.cells] at h
  rcases h with rfl | rfl | rfl | rfl | rfl | rfl | rfl | rfl <;> rfl
theorem ecells_at {es : List Ent} {i : Nat} {e : Ent} (h : es[i]? = some e) (y : Nat) (u : Value) (hy : e.cells[y]? = some u) : (ecells es)[i * 8 + y]? = some u := by
  have h1 := Nd.flatten_get (k := 8) (xs := es.map Ent.cells) (fun us hus => by obtain ⟨g, _, rfl⟩ := List.mem_map.1 hus; rfl) i e.cells (by rw [List.getElem?_map, h]; rfl) y u hy
  rw [List.flatMap_def.symm] at h1
  exact h1
/-- a value that reads as entries -/
def Es (w : World) (v : Value) (es : List Ent) : Prop := ∃ p cap b o, v = .slice p es.length cap ∧ es.length ≤ cap ∧ cap ≤ 9223372036854775807 ∧ (es ≠ [] → p = some ⟨b, o, none⟩ ∧ b < w.heap.size) ∧ (∀ j u, (ecells es)[j]? = some u → w.cell? ⟨b, o + j, none⟩ = some u) ∧ (p = none → es = [] ∧ cap = 0)
theorem Es.keep {w w' : World} {S : Nat → Prop} {v : Value} {es : List Ent} (h : Es w v es) (hg : Grew w w' S) (hn : ∀ b, v.ownBlock = some b → ¬ S b) : Es w' v es := by
  obtain ⟨p, cap, b, o, rfl, h2, h3, h4, h5, h6⟩ := h
  refine ⟨p, cap, b, o, rfl, h2, h3, fun he => ⟨(h4 he).1, Nat.lt_of_lt_of_le (h4 he).2 hg.size⟩, fun j u hj => ?_, h6⟩
  have hne : es ≠ [] := by rintro rfl; simp [ecells] at hj
  obtain ⟨rfl, hb⟩ := h4 hne
  rw [World.cell?_of_block (a := ⟨b, o + j, none⟩) (hg.block b hb (hn b rfl))]
  exact h5 j u hj
theorem Es.below {w w' : World} {v : Value} {es : List Ent} (h : Es w v es) (hb : Below w.heap.size w w') : Es w' v es :=
  h.keep (Grew.of_below (fun _ => False) hb) (fun _ _ h => h)
theorem Es.grown {w w' : World} {z : Nat} {v : Value} {es : List Ent} (h : Es w v es) (hg : w.grownBy w' (some z)) (hz : v.ownBlock ≠ some z) : Es w' v es := by
  obtain ⟨p, cap, b, o, rfl, h2, h3, h4, h5, h6⟩ := h
  refine ⟨p, cap, b, o, rfl, h2, h3, fun he => ⟨(h4 he).1, Nat.lt_of_lt_of_le (h4 he).2 hg.size⟩, fun j u hj => ?_, h6⟩
  have hne : es ≠ [] := by rintro rfl; simp [ecells] at hj
  obtain ⟨rfl, hb⟩ := h4 hne
  rw [World.cell?_of_block (a := ⟨b, o + j, none⟩) (hg.block b hb (by intro e; exact hz (by simpa [Value.ownBlock] using e)))]
  exact h5 j u hj
theorem Es.form {w : World} {v : Value} {es : List Ent} (h : Es w v es) : ∃ p cap, v = .slice p es.length cap ∧ es.length ≤ cap ∧ cap ≤ 9223372036854775807 := by
  obtain ⟨p, cap, _, _, h1, h2, h3, _⟩ := h
  exact ⟨p, cap, h1, h2, h3⟩
theorem Es.nil (w : World) : Es w (.slice none 0 0) [] := ⟨none, 0, 0, 0, rfl, Nat.le_refl _, by decide, fun h => absurd rfl h, fun j u h => by simp [ecells] at h, fun _ => ⟨rfl, rfl⟩⟩
theorem Es.at {w : World} {n c : Nat} {p : Option Addr} {es : List Ent} (h : Es w (.slice p n c) es) {i : Nat} {e : Ent} (hi : es[i]? = some e) : ∃ b o, p = some ⟨b, o, none⟩ ∧ ∀ (y : Nat) u, e.cells[y]? = some u → w.cell? ⟨b, o + i * 8 + y, none⟩ = some u := by
  obtain ⟨p', cap, b, o, h1, h2, h3, h4, h5, h6⟩ := h
  simp only [Value.slice.injEq] at h1
  obtain ⟨rfl, rfl, rfl⟩ := h1
  have hne : es ≠ [] := by rintro rfl; simp at hi
  refine ⟨b, o, (h4 hne).1, fun y u hy => ?_⟩
  rw [Nat.add_assoc]
  exact h5 _ _ (ecells_at hi y u hy)
/-- a row of entries of the call's own -/
def EO (w : World) (B : Nat) (v : Value) (es : List Ent) : Prop := w.ownsRow B 51 8 v es.length (ecells es)
theorem EO.below {w w' : World} {B : Nat} {v : Value} {es : List Ent} (h : EO w B v es) (hb : Below w.heap.size w w') : EO w' B v es := Nd.own_belowK h hb
theorem EO.nil (w : World) (B : Nat) : EO w B (.slice none 0 0) [] := ⟨rfl, .inl ⟨rfl, rfl⟩⟩
theorem EO.es {w : World} {B : Nat} {v : Value} {es : List Ent} (h : EO w B v es) : Es w v es := by
  obtain ⟨_, ⟨rfl, h0⟩ | ⟨g, cap, cur, rfl, hB, hh, hn, hm, hs, ht⟩⟩ := h
  · obtain rfl := List.length_eq_zero_iff.1 h0
    exact ⟨none, 0, 0, 0, rfl, by simp, by omega, fun h => absurd rfl h, fun j u h => by simp [ecells] at h, fun _ => ⟨rfl, rfl⟩⟩
  · have hlt : g < w.heap.size := (Array.getElem?_eq_some_iff.1 hh).1
    refine ⟨_, cap, g, 0, rfl, hn, by unfold maxLen at hm; omega, fun _ => ⟨rfl, hlt⟩, fun j u hj => ?_, fun e => by cases e⟩
    have hjl : j < es.length * 8 := by rw [← ecells_len]; exact (List.getElem?_eq_some_iff.1 hj).1
    have ht2 : (cur.toList.take (es.length * 8))[j]? = (ecells es)[j]? := by rw [ht]
    rw [List.getElem?_take, if_pos hjl, hj, Array.getElem?_toList] at ht2
    rw [Nat.zero_add, cell_of_row w g j _ _ (0, 0) hh, ht2]
theorem info51h : ∃ i z, Hid (Try.prog.info? 51 = some i) ∧ Hid (i.size = 8) ∧ Hid (i.bytes = 88) ∧ Hid (i.zero = some z) ∧ Hid (z.cells.size = 8) := by
  have h : (Try.prog.info? 51).map (fun i => (i.size, i.bytes, i.zero.map (·.cells.size))) = some (8, 88, some 8) := by kernel_rfl
  cases hi : Try.prog.info? 51 with
  | none => rw [hi] at h; cases h
  | some i =>
    rw [hi] at h
    simp only [Option.map_some, Option.some.injEq, Prod.mk.injEq] at h
    obtain ⟨h1, h2, h3⟩ := h
    cases hz : i.zero with
    | none => rw [hz] at h3; cases h3
    | some z => rw [hz] at h3; exact ⟨i, z, rfl, h1, h2, hz, Option.some.inj h3⟩
/-- entries put behind a row of the call's own -/
theorem wpList_appE {ops : Array Oper} {rest : List Oper} {o : Oper} {a : Act} {w : World} {Q : Exit → Act → World → Prop} (B : Nat) (hgd : o.guard = none) (s x : Operand) (ho : o.op = .call { callee := .builtin .append, args := #[s, x], argTypes := #[28, 28] })
    (v : Value) (xs ys : List Ent) (hs : a.eval s = v) (hown : EO w B v xs) (sv : Value) (hx : a.eval x = sv) (hsv : Es w sv ys) (hlen : xs.length + ys.length ≤ 100000000000) (hB : B ≤ w.heap.size)
    (h : ∀ v' w', EO w' B v' (xs ++ ys) → w.grownBy w' v.ownBlock → wpList Try.prog ops Q rest (a.put o.dst v') w') : wpList Try.prog ops Q (o :: rest) a w := by
  obtain ⟨p, cap, b, of, rfl, h1, h2, h3, h4, h5⟩ := hsv
  obtain ⟨i, z, hi, hz1, hz2, hz3, hz4⟩ := info51h
  rcases p with _ | ad
  · obtain ⟨rfl, rfl⟩ := h5 rfl
    refine wpList_append_own_none hgd s x 28 ho B 51 i 8 Try.underlying28 hi.out v xs.length (ecells xs) hs hown hx ?_
    exact h v w (by simpa using hown) ⟨rfl, rfl, rfl, Nat.le_refl _, fun _ _ _ => rfl⟩
  · refine wpList_append_own w hgd s x 28 ho B 51 i z 8 88 Try.underlying28 hi.out hz3.out hz1.out hz2.out hz4.out (by decide) v xs.length (ecells xs) hs hown ad ys.length cap (ecells ys) hx (ecells_len ys) (fun j u hj => ?_) (ecells_one ys) (by unfold maxLen; omega) (by omega) hB ?_
    · have hne : ys ≠ [] := by rintro rfl; simp [ecells] at hj
      obtain rfl := Option.some.inj (h3 hne).1
      rw [Addr.add_mid]
      exact h4 j u hj
    · intro v' w' h6 h7 _
      refine h v' w' ?_ h7
      unfold EO
      rw [List.length_append, ecells_app]
      exact h6
theorem size51 (w : World) : (sizeOf 51).run Try.prog w = .ok 8 w := by kernel_rfl
theorem slice28_to (p : Option Addr) (L C n : Nat) (h1 : n ≤ C) (w : World) : (Instr.slice 28 (.slice p L C) none (some (.int .i64 (n : Int))) none).run Try.prog w = .ok (.slice p n C) w := by
  have ht : Try.prog.underlying 28 = some (.slice (Try.prog.elem 28)) := by kernel_rfl
  have he : Try.prog.elem 28 = 51 := by kernel_rfl
  rw [run_slice_h w 28 p L C ht .i64 (n : Int) (by omega) (by omega), he, size51]
  rcases p with _ | ⟨b, o, s⟩ <;> simp [sliced, Addr.add]
theorem Es.first {w : World} {p : Option Addr} {n cap : Nat} {es : List Ent} (h : Es w (.slice p n cap) es) (k : Nat) (hk : k ≤ es.length) : n = es.length ∧ k ≤ cap ∧ Es w (.slice p k cap) (es.take k) := by
  obtain ⟨p', cap', b, o, h1, h2, h3, h4, h5, h6⟩ := h
  simp only [Value.slice.injEq] at h1
  obtain ⟨rfl, rfl, rfl⟩ := h1
  refine ⟨rfl, by omega, p, cap, b, o, by rw [List.length_take, Nat.min_eq_left hk], by rw [List.length_take]; omega, h3, fun hne => h4 (by rintro rfl; simp at hne), fun j u hj => h5 j u ?_, fun e => ⟨by rw [(h6 e).1]; simp, (h6 e).2⟩⟩
  have e : ecells es = ecells (es.take k) ++ ecells (es.drop k) := by rw [← ecells_app, List.take_append_drop]
  rw [e, List.getElem?_append_left (List.getElem?_eq_some_iff.1 hj).1]
  exact hj
/-- one entry in a block of its own -/
theorem es_one (w : World) (e : Ent) : ∃ W, Hid (w.alloc (.cells #[.int .i64 e.cl, .int .i64 e.nu, .int .i64 e.op.kind, .string e.op.path, .string e.op.dest, .string e.op.data, .int .i64 e.op.at_, .int .i64 e.op.size] 51) = W) ∧ Hid (EO W w.heap.size (.slice (some ⟨w.heap.size, 0, none⟩) 1 1) [e]) ∧ Hid (Es W (.slice (some ⟨w.heap.size, 0, none⟩) 1 1) [e]) ∧ Hid (Below w.heap.size w W) := by
  have h1 : EO (w.alloc (.cells #[.int .i64 e.cl, .int .i64 e.nu, .int .i64 e.op.kind, .string e.op.path, .string e.op.dest, .string e.op.data, .int .i64 e.op.at_, .int .i64 e.op.size] 51)) w.heap.size (.slice (some ⟨w.heap.size, 0, none⟩) 1 1) [e] :=
    ⟨rfl, .inr ⟨w.heap.size, 1, _, rfl, Nat.le_refl _, (MapKept.heap_alloc w _).1, Nat.le_refl _, by unfold maxLen; omega, rfl, rfl⟩⟩
  exact ⟨_, rfl, h1, h1.es, (Below.refl _ _).alloc (Nat.le_refl _) _⟩
end Go.Proofs.Ytjjofjnhhajjjaa.Jr
