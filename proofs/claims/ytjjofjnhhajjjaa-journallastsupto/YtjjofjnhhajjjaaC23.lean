/-
  anew: a frame comes in the place of all that are there. A journal in memory: its platter, what it keeps; what a call leaves of it.
-/
import Derived.Laws.Tables
import Derived.OwnWalk
import Derived.Lib.SlBytesConst
import Derived.Deep.RegionLaw
import Derived.Deep.CutRange
import Derived.Laws.CopyOwn
import Derived.Deep.DrawnRows
import Derived.Laws.StructEq
import Derived.Test.YtjjofjnhhajjjaaC00
import Derived.Test.YtjjofjnhhajjjaaC01
import Derived.Test.YtjjofjnhhajjjaaC02
import Derived.Test.YtjjofjnhhajjjaaC03
import Derived.Test.YtjjofjnhhajjjaaC04
import Derived.Test.YtjjofjnhhajjjaaC05
import Derived.Test.YtjjofjnhhajjjaaC06
import Derived.Test.YtjjofjnhhajjjaaC07
import Derived.Test.YtjjofjnhhajjjaaC08
import Derived.Test.YtjjofjnhhajjjaaC09
import Derived.Test.YtjjofjnhhajjjaaC10
import Derived.Test.YtjjofjnhhajjjaaC11
import Derived.Test.YtjjofjnhhajjjaaC12
import Derived.Test.YtjjofjnhhajjjaaC13
import Derived.Test.YtjjofjnhhajjjaaC17
import Derived.Test.YtjjofjnhhajjjaaC18
import Derived.Test.YtjjofjnhhajjjaaC19
import Derived.Test.YtjjofjnhhajjjaaC20
import Derived.Test.YtjjofjnhhajjjaaC21
import Derived.Test.YtjjofjnhhajjjaaC22
namespace Go.Proofs.Ytjjofjnhhajjjaa.Jr
open Go.RowKit
open Nd (Row wp_world post_Row grownBy_setCell grownBy_trans below_of_grown u8v Grew Sl hid_in i64r bytesS str)
open Pt (Dk PtV FS Sub Stp liv arOf appE appD begE begD synD wipD fliD oth)
def chg (e : Int) (d : Dk) (k : Int × Dk) : Int × Dk := if e = 0 then k else (e, d)
def anewR (xs : List Nat) (d : Dk) : Int × Dk :=
  chg (begE 2 (oth d) d) (wipD (oth d) d) (chg (appE (oth d) (wipD (oth d) d)) (appD (oth d) xs (wipD (oth d) d)) (chg (begE 1 (oth d) (appD (oth d) xs (wipD (oth d) d))) (synD (oth d) (appD (oth d) xs (wipD (oth d) d)))
    (chg (begE 3 (oth (synD (oth d) (appD (oth d) xs (wipD (oth d) d)))) (synD (oth d) (appD (oth d) xs (wipD (oth d) d)))) (fliD (synD (oth d) (appD (oth d) xs (wipD (oth d) d))))
      (begE 2 (liv d.live) (fliD (synD (oth d) (appD (oth d) xs (wipD (oth d) d)))), wipD (liv d.live) (fliD (synD (oth d) (appD (oth d) xs (wipD (oth d) d))))))))
theorem chg_no {e : Int} {d : Dk} {k : Int × Dk} (h : ¬ e = 0) : chg e d k = (e, d) := if_neg h
theorem chg_yes {e : Int} {d : Dk} {k : Int × Dk} (h : e = 0) : chg e d k = k := if_pos h
def five (_j p6 p2 p3 p5 g : Value) : List Value := [.func (.func 48) #[] #[p2, p6], .func (.func 50) #[] #[p2, p6, p3], .func (.func 52) #[] #[p2, p6], .func (.func 53) #[g] #[], .func (.func 54) #[] #[p2, p5]]
/-- the call's own rows -/
structure AnW (W : World) (n j g : Nat) (vs : List Value) (a : Int) (sl : Value) : Prop where
  hj : Row W j (.pointer (some ⟨g, 0, none⟩) :: vs) 68
  r2 : Row W n [.pointer (some ⟨j, 0, none⟩)] 27
  r3 : Row W (n + 1) [sl] 54
  r5 : Row W (n + 1 + 1) [.int .i64 a] 3
  r6 : Row W (n + 1 + 1 + 1) [.int .i64 (1 - a)] 3
  r7 : Row W (n + 1 + 1 + 1 + 1) (five (.pointer (some ⟨j, 0, none⟩)) (.pointer (some ⟨n + 1 + 1 + 1, 0, none⟩)) (.pointer (some ⟨n, 0, none⟩)) (.pointer (some ⟨n + 1, 0, none⟩)) (.pointer (some ⟨n + 1 + 1, 0, none⟩)) (.pointer (some ⟨g, 0, none⟩))) 92
theorem AnW.stp {W W' : World} {n j g B : Nat} {vs : List Value} {a : Int} {sl u0 u1 : Value} {d d' : Dk} (h : AnW W n j g vs a sl) (hp : PtV W B g u0 u1 d) (hs : Stp W W' B g u0 u1 d') : AnW W' n j g vs a sl :=
  ⟨hs.row hp h.hj (by decide) (by decide), hs.row hp h.r2 (by decide) (by decide), hs.row hp h.r3 (by decide) (by decide), hs.row hp h.r5 (by decide) (by decide), hs.row hp h.r6 (by decide) (by decide), hs.row hp h.r7 (by decide) (by decide)⟩
set_option maxHeartbeats 4000000 in
set_option maxRecDepth 100000 in
theorem anew_any {w : World} {B g j : Nat} {v0 v1 : Value} {d : Dk} {vs : List Value} (h : PtV w B g v0 v1 d) (hj : Row w j (.pointer (some ⟨g, 0, none⟩) :: vs) 68) (p : Option Addr) (xs : List Nat) (cap b off : Nat) (hsl : Sl w p xs cap b off) (hno : p = none → xs.length = 0 ∧ cap = 0) (hfb : 0 < xs.length → ¬ FS g v0 v1 b) (hl : (arOf (oth d) (wipD (oth d) d)).bs.length + xs.length ≤ 140737488355328) :
    Calls Try.prog 36 #[.pointer (some ⟨j, 0, none⟩), .slice p xs.length cap] w fun e w' => e = .returned (.int .i64 (anewR xs d).1) ∧ Stp w w' B g v0 v1 (anewR xs d).2 := by
  have HP := hid_in h
  have HJ := hid_in hj
  have hmf : ∀ (fn : Fn) (first cap : Array Value) (w : World), (Instr.makeFunc fn first cap).run Try.prog w = .ok (.func fn first cap) w := fun _ _ _ _ => rfl
  obtain ⟨R, HR⟩ : ∃ R, Hid (anewR xs d = R) := ⟨_, hid_in rfl⟩
  rw [HR.out]
  obtain ⟨a, HA⟩ : ∃ a, Hid (liv d.live = a) := ⟨_, hid_in rfl⟩
  have ha := Pt.liv_range d.live
  rw [HA.out] at ha
  obtain ⟨ha0, ha1⟩ := ha
  have j0 : w.cell? ⟨j, 0, none⟩ = some (.pointer (some ⟨g, 0, none⟩)) := hj.cell 0
  have hjl := hj.lt
  have hjn : ¬ j = w.heap.size := by omega
  have hjn1 : ¬ j = w.heap.size + 1 := by omega
  have HL := (fun W (hb : Below w.heap.size w W) => Pt.live_any (h.below hb))
  obtain ⟨W1, H1, R1, B1, S1⟩ := row_new w [.pointer (some ⟨j, 0, none⟩)] 27
  obtain ⟨W2, H2, R2, B2, S2⟩ := row_new W1 [.slice p xs.length cap] 54
  obtain ⟨W3, H3, R3, B3, S3⟩ := row_new W2 [.int .i64 a] 3
  obtain ⟨W4, H4, R4, B4, S4⟩ := row_new W3 [.int .i64 (1 - a)] 3
  have hs1 : W1.heap.size = w.heap.size + 1 := S1.out
  have hs2 : W2.heap.size = w.heap.size + 1 + 1 := by rw [S2.out, hs1]
  have hs3 : W3.heap.size = w.heap.size + 1 + 1 + 1 := by rw [S3.out, hs2]
  have hs4 : W4.heap.size = w.heap.size + 1 + 1 + 1 + 1 := by rw [S4.out, hs3]
  rw [hs1] at R2
  rw [hs2] at R3
  rw [hs3] at R4
  obtain ⟨W5, H5, R5, B5, S5⟩ := row_new W4 (five (.pointer (some ⟨j, 0, none⟩)) (.pointer (some ⟨w.heap.size + 1 + 1 + 1, 0, none⟩)) (.pointer (some ⟨w.heap.size, 0, none⟩)) (.pointer (some ⟨w.heap.size + 1, 0, none⟩)) (.pointer (some ⟨w.heap.size + 1 + 1, 0, none⟩)) (.pointer (some ⟨g, 0, none⟩))) 92
  rw [hs4] at R5
  have B02 := hid_in (B1.out.trans (B2.out.mono B1.out.size))
  have B03 := hid_in (B02.out.trans (B3.out.mono B02.out.size))
  have B04 := hid_in (B03.out.trans (B4.out.mono B03.out.size))
  have B05 := hid_in (B04.out.trans (B5.out.mono B04.out.size))
  have HJ2 := hid_in (hj.below B02.out hj.lt)
  have R12 := hid_in (R1.out.below B2.out R1.out.lt)
  have HJ4 := hid_in (hj.below B04.out hj.lt)
  have R14 := hid_in (((R12.out.below B3.out R12.out.lt)).below B4.out (by have := R12.out.lt; have := B3.out.size; omega))
  have R24 := hid_in ((R2.out.below B3.out R2.out.lt).below B4.out (by have := R2.out.lt; have := B3.out.size; omega))
  have R34 := hid_in (R3.out.below B4.out R3.out.lt)
  have HJ5 := hid_in (hj.below B05.out hj.lt)
  have R15 := hid_in (R14.out.below B5.out R14.out.lt)
  have R25 := hid_in (R24.out.below B5.out R24.out.lt)
  have R35 := hid_in (R34.out.below B5.out R34.out.lt)
  have R45 := hid_in (R4.out.below B5.out R4.out.lt)
  have HP5 := hid_in (h.below B05.out)
  have HSL := hid_in (hsl.below B05.out)
  have HNO := hid_in hno
  have HFB := hid_in hfb
  have HLL := hid_in hl
  have HL2 := hid_in (HL W2 B02.out)
  rw [HA.out] at HL2
  have j2 : W2.cell? ⟨j, 0, none⟩ = some (.pointer (some ⟨g, 0, none⟩)) := HJ2.out.cell 0
  have p2 : W2.cell? ⟨w.heap.size, 0, none⟩ = some (.pointer (some ⟨j, 0, none⟩)) := R12.out.cell 0
  have q3 : W3.cell? ⟨w.heap.size + 1 + 1, 0, none⟩ = some (.int .i64 a) := R3.out.cell 0
  have j4 : W4.cell? ⟨j, 0, none⟩ = some (.pointer (some ⟨g, 0, none⟩)) := HJ4.out.cell 0
  have p4 : W4.cell? ⟨w.heap.size, 0, none⟩ = some (.pointer (some ⟨j, 0, none⟩)) := R14.out.cell 0
  clear h hj hsl hno hfb hl hjl hjn hjn1 j0 HL
  have hz1 : IntKind.i64.wrap (1 - a) = 1 - a := by rw [IntKind.wrap_i64]; omega
  go_enter Try.func36, Try.ntmps36
  go_upto_region 1 with fail
  refine wp_world (congrArg (fun x => World.alloc x _) H1.out) ?_
  refine wp_world H2.out ?_
  go_upto_region 2 with (first | (go_at_call 26; refine HL2.out.mono ?_; rintro e w1 ⟨rfl, rfl⟩))
  refine wp_world H3.out ?_
  go_upto_region 3 with fail
  refine wp_world H4.out ?_
  go_wp2_with fail
  refine wp_world H5.out ?_
  have hoth : oth d = 1 - a := by unfold oth; rw [HA.out]
  rw [hoth] at HLL
  have hR := HR.out
  unfold anewR at hR
  rw [hoth, HA.out] at hR
  have HRR := hid_in hR
  have HW0 : Hid (AnW W5 w.heap.size j g vs a (.slice p xs.length cap)) := ⟨HJ5.out, R15.out, R25.out, R35.out, R45.out, R5.out⟩
  have HS0 : Hid (Stp W5 W5 B g v0 v1 d) := Stp.refl HP5.out
  have HF5 := hid_in (show ∀ W' D, Stp W5 W' B g v0 v1 D → Stp w W' B g v0 v1 D from fun W' D hs => hs.ahead B05.out)
  clear hR hoth HJ5 R15 R25 R35 R45 R5 R1 R2 R3 R4 R12 R14 R24 R34 HJ2 HJ4 j2 p2 q3 j4 p4 hs1 hs2 hs3 hs4 HL2 H1 H2 H3 H4 H5 B1 B2 B3 B4 B5 B02 B03 B04 S1 S2 S3 S4 S5
  obtain ⟨D1, HD1⟩ : ∃ D, Hid (wipD (1 - a) d = D) := ⟨_, hid_in rfl⟩
  rw [HD1.out] at HRR HLL
  obtain ⟨D2, HD2⟩ : ∃ D, Hid (appD (1 - a) xs D1 = D) := ⟨_, hid_in rfl⟩
  rw [HD2.out] at HRR
  obtain ⟨D3, HD3⟩ : ∃ D, Hid (synD (1 - a) D2 = D) := ⟨_, hid_in rfl⟩
  rw [HD3.out] at HRR
  obtain ⟨D4, HD4⟩ : ∃ D, Hid (fliD D3 = D) := ⟨_, hid_in rfl⟩
  rw [HD4.out] at HRR
  obtain ⟨D5, HD5⟩ : ∃ D, Hid (wipD a D4 = D) := ⟨_, hid_in rfl⟩
  rw [HD5.out] at HRR
  obtain ⟨E0, HE0⟩ : ∃ E, Hid (begE 2 (1 - a) d = E) := ⟨_, hid_in rfl⟩
  rw [HE0.out] at HRR
  obtain ⟨E1, HE1⟩ : ∃ E, Hid (appE (1 - a) D1 = E) := ⟨_, hid_in rfl⟩
  rw [HE1.out] at HRR
  obtain ⟨E2, HE2⟩ : ∃ E, Hid (begE 1 (1 - a) D2 = E) := ⟨_, hid_in rfl⟩
  rw [HE2.out] at HRR
  obtain ⟨E3, HE3⟩ : ∃ E, Hid (begE 3 (oth D3) D3 = E) := ⟨_, hid_in rfl⟩
  rw [HE3.out] at HRR
  obtain ⟨E4, HE4⟩ : ∃ E, Hid (begE 2 a D4 = E) := ⟨_, hid_in rfl⟩
  rw [HE4.out] at HRR
  refine wp_loop_rounds 6 ?_
  obtain ⟨x0, y0, hp, hg, hsub⟩ := HS0.out
  have HC0 := hid_in (anew_48 hp HW0.out.hj (HW0.out.r2.cell 0) (HW0.out.r6.cell 0))
  rw [HE0.out, HD1.out] at HC0
  have HT0 := hid_in (fun W' (hs : Stp W5 W' B g x0 y0 D1) => Stp.trans hp hg hsub hs)
  have HX0 := hid_in (fun W' (hs : Stp W5 W' B g x0 y0 D1) => HW0.out.stp hp hs)
  have m0 : W5.cell? ⟨w.heap.size + 1 + 1 + 1 + 1, 0, none⟩ = some (.func (.func 48) #[] #[.pointer (some ⟨w.heap.size, 0, none⟩), .pointer (some ⟨w.heap.size + 1 + 1 + 1, 0, none⟩)]) := HW0.out.r7.cell 0
  clear hp hg hsub
  rw [rounds_succ]
  by_cases h0 : E0 = 0
  rotate_left
  · go_wp2_with (first | (go_at_call 48; refine HC0.out.mono ?_; rintro e w1 ⟨rfl, hs⟩; have HS1 := hid_in (HT0.out _ hs); have HW1 := hid_in (HX0.out _ hs); clear hs m0))
    go_ret
    have hr := HRR.out
    rw [chg_no h0] at hr
    rw [← hr]
    exact ⟨rfl, HF5.out _ _ HS1.out⟩
  go_wp2_with (first | (go_at_call 48; refine HC0.out.mono ?_; rintro e w1 ⟨rfl, hs⟩; have HS1 := hid_in (HT0.out _ hs); have HW1 := hid_in (HX0.out _ hs); clear hs m0))
  obtain ⟨x1, y1, hp, hg, hsub⟩ := HS1.out
  have HC1 := hid_in (anew_50 hp HW1.out.hj (HW1.out.r2.cell 0) (HW1.out.r6.cell 0) p xs cap b off (HW1.out.r3.cell 0) (HSL.out.grew hg HFB.out) HNO.out HLL.out)
  rw [HE1.out, HD2.out] at HC1
  have HT1 := hid_in (fun W' (hs : Stp w1 W' B g x1 y1 D2) => Stp.trans hp hg hsub hs)
  have HX1 := hid_in (fun W' (hs : Stp w1 W' B g x1 y1 D2) => HW1.out.stp hp hs)
  have m1 : w1.cell? ⟨w.heap.size + 1 + 1 + 1 + 1, 1, none⟩ = some (.func (.func 50) #[] #[.pointer (some ⟨w.heap.size, 0, none⟩), .pointer (some ⟨w.heap.size + 1 + 1 + 1, 0, none⟩), .pointer (some ⟨w.heap.size + 1, 0, none⟩)]) := HW1.out.r7.cell 1
  clear hp hg hsub
  rw [rounds_succ]
  by_cases h1 : E1 = 0
  rotate_left
  · go_wp2_with (first | (go_at_call 50; refine HC1.out.mono ?_; rintro e w2 ⟨rfl, hs⟩; have HS2 := hid_in (HT1.out _ hs); have HW2 := hid_in (HX1.out _ hs); clear hs m1))
    go_ret
    have hr := HRR.out
    rw [chg_yes h0, chg_no h1] at hr
    rw [← hr]
    exact ⟨rfl, HF5.out _ _ HS2.out⟩
  go_wp2_with (first | (go_at_call 50; refine HC1.out.mono ?_; rintro e w2 ⟨rfl, hs⟩; have HS2 := hid_in (HT1.out _ hs); have HW2 := hid_in (HX1.out _ hs); clear hs m1))
  obtain ⟨x2, y2, hp, hg, hsub⟩ := HS2.out
  have HC2 := hid_in (anew_52 hp HW2.out.hj (HW2.out.r2.cell 0) (HW2.out.r6.cell 0))
  rw [HE2.out, HD3.out] at HC2
  have HT2 := hid_in (fun W' (hs : Stp w2 W' B g x2 y2 D3) => Stp.trans hp hg hsub hs)
  have HX2 := hid_in (fun W' (hs : Stp w2 W' B g x2 y2 D3) => HW2.out.stp hp hs)
  have m2 : w2.cell? ⟨w.heap.size + 1 + 1 + 1 + 1, 2, none⟩ = some (.func (.func 52) #[] #[.pointer (some ⟨w.heap.size, 0, none⟩), .pointer (some ⟨w.heap.size + 1 + 1 + 1, 0, none⟩)]) := HW2.out.r7.cell 2
  clear hp hg hsub
  rw [rounds_succ]
  by_cases h2 : E2 = 0
  rotate_left
  · go_wp2_with (first | (go_at_call 52; refine HC2.out.mono ?_; rintro e w3 ⟨rfl, hs⟩; have HS3 := hid_in (HT2.out _ hs); have HW3 := hid_in (HX2.out _ hs); clear hs m2))
    go_ret
    have hr := HRR.out
    rw [chg_yes h0, chg_yes h1, chg_no h2] at hr
    rw [← hr]
    exact ⟨rfl, HF5.out _ _ HS3.out⟩
  go_wp2_with (first | (go_at_call 52; refine HC2.out.mono ?_; rintro e w3 ⟨rfl, hs⟩; have HS3 := hid_in (HT2.out _ hs); have HW3 := hid_in (HX2.out _ hs); clear hs m2))
  obtain ⟨x3, y3, hp, hg, hsub⟩ := HS3.out
  have HC3 := hid_in (Pt.flip_any hp)
  rw [HE3.out, HD4.out] at HC3
  have HT3 := hid_in (fun W' (hs : Stp w3 W' B g x3 y3 D4) => Stp.trans hp hg hsub hs)
  have HX3 := hid_in (fun W' (hs : Stp w3 W' B g x3 y3 D4) => HW3.out.stp hp hs)
  have m3 : w3.cell? ⟨w.heap.size + 1 + 1 + 1 + 1, 3, none⟩ = some (.func (.func 53) #[.pointer (some ⟨g, 0, none⟩)] #[]) := HW3.out.r7.cell 3
  clear hp hg hsub
  rw [rounds_succ]
  by_cases h3 : E3 = 0
  rotate_left
  · go_wp2_with (first | (go_at_call 53; refine HC3.out.mono ?_; rintro e w4 ⟨rfl, hs⟩; have HS4 := hid_in (HT3.out _ hs); have HW4 := hid_in (HX3.out _ hs); clear hs m3))
    go_ret
    have hr := HRR.out
    rw [chg_yes h0, chg_yes h1, chg_yes h2, chg_no h3] at hr
    rw [← hr]
    exact ⟨rfl, HF5.out _ _ HS4.out⟩
  go_wp2_with (first | (go_at_call 53; refine HC3.out.mono ?_; rintro e w4 ⟨rfl, hs⟩; have HS4 := hid_in (HT3.out _ hs); have HW4 := hid_in (HX3.out _ hs); clear hs m3))
  obtain ⟨x4, y4, hp, hg, hsub⟩ := HS4.out
  have HC4 := hid_in (anew_54 hp HW4.out.hj (HW4.out.r2.cell 0) (HW4.out.r5.cell 0))
  rw [HE4.out, HD5.out] at HC4
  have HT4 := hid_in (fun W' (hs : Stp w4 W' B g x4 y4 D5) => Stp.trans hp hg hsub hs)
  have HX4 := hid_in (fun W' (hs : Stp w4 W' B g x4 y4 D5) => HW4.out.stp hp hs)
  have m4 : w4.cell? ⟨w.heap.size + 1 + 1 + 1 + 1, 4, none⟩ = some (.func (.func 54) #[] #[.pointer (some ⟨w.heap.size, 0, none⟩), .pointer (some ⟨w.heap.size + 1 + 1, 0, none⟩)]) := HW4.out.r7.cell 4
  clear hp hg hsub
  rw [rounds_succ]
  by_cases h4 : E4 = 0
  rotate_left
  · go_wp2_with (first | (go_at_call 54; refine HC4.out.mono ?_; rintro e w5 ⟨rfl, hs⟩; have HS5 := hid_in (HT4.out _ hs); have HW5 := hid_in (HX4.out _ hs); clear hs m4))
    go_ret
    have hr := HRR.out
    rw [chg_yes h0, chg_yes h1, chg_yes h2, chg_yes h3] at hr
    rw [← hr]
    exact ⟨rfl, HF5.out _ _ HS5.out⟩
  go_wp2_with (first | (go_at_call 54; refine HC4.out.mono ?_; rintro e w5 ⟨rfl, hs⟩; have HS5 := hid_in (HT4.out _ hs); have HW5 := hid_in (HX4.out _ hs); clear hs m4))
  rw [rounds_succ]
  go_wp2
  go_ret
  have hr := HRR.out
  rw [chg_yes h0, chg_yes h1, chg_yes h2, chg_yes h3] at hr
  rw [← hr]
  refine ⟨?_, HF5.out _ _ HS5.out⟩
  show _ = Ending.returned (.int .i64 E4)
  rw [h4]
  rfl
end Go.Proofs.Ytjjofjnhhajjjaa.Jr
namespace Go.Proofs.Ytjjofjnhhajjjaa.Jr
open Go.RowKit
open Nd (Row wp_world post_Row grownBy_setCell grownBy_trans below_of_grown u8v Grew Sl hid_in i64r bytesS str)
open Pt (Dk PtV FS Sub Stp liv arOf appE appD begE begD synD wipD fliD oth)
/-- entries that lie in a row of entries -/
structure Et (w : World) (v : Value) (es : List Ent) : Prop where
  val : Es w v es
  ty : ∀ b, es ≠ [] → v.ownBlock = some b → ∃ cur, w.heap[b]? = some (.cells cur 51 (0, 0))
theorem Et.nil (w : World) : Et w (.slice none 0 0) [] := ⟨Es.nil w, fun _ h => absurd rfl h⟩
theorem EO.et {w : World} {B : Nat} {v : Value} {es : List Ent} (h : EO w B v es) : Et w v es := by
  refine ⟨h.es, fun b hne hb => ?_⟩
  obtain ⟨_, ⟨rfl, h0⟩ | ⟨g, cap, cur, rfl, hB, hh, r⟩⟩ := h
  · cases hb
  · have e : g = b := by simpa [Value.ownBlock] using hb
    subst e
    exact ⟨cur, hh⟩
theorem Et.keep {w w' : World} {S : Nat → Prop} {v : Value} {es : List Ent} (h : Et w v es) (hg : Grew w w' S) (hS : ∀ b cur, w.heap[b]? = some (.cells cur 51 (0, 0)) → ¬ S b) : Et w' v es := by
  by_cases hne : es = []
  · subst hne
    obtain ⟨p, cap, b, o, rfl, h2, h3, h4, h5, h7⟩ := h.val
    exact ⟨⟨p, cap, b, o, rfl, h2, h3, fun e => absurd rfl e, fun j u hj => by simp [ecells] at hj, h7⟩, fun _ e => absurd rfl e⟩
  · refine ⟨h.val.keep hg (fun b hb => ?_), fun b e hb => ?_⟩
    · obtain ⟨cur, hc⟩ := h.ty b hne hb
      exact hS b cur hc
    · obtain ⟨cur, hc⟩ := h.ty b hne hb
      refine ⟨cur, ?_⟩
      rw [hg.block b (Array.getElem?_eq_some_iff.1 hc).1 (hS b cur hc)]
      exact hc
theorem Et.below {w w' : World} {v : Value} {es : List Ent} (h : Et w v es) (hb : Below w.heap.size w w') : Et w' v es := h.keep (Grew.of_below (fun _ => False) hb) (fun _ _ _ h => h)
theorem no51 {w : World} {B g b : Nat} {v0 v1 : Value} {d : Dk} {cur : Array Value} (h : PtV w B g v0 v1 d) (hb : w.heap[b]? = some (.cells cur 51 (0, 0))) : ¬ FS g v0 v1 b :=
  h.typed (vs := cur.toList) (t := 51) (by unfold Row; rw [hb]) (by decide) (by decide)
/-- the journal at block j, on the platter at block g, keeps k -/
structure JV (w : World) (B j g : Nat) (v0 v1 : Value) (d : Dk) (ve : Value) (k : Kt) : Prop where
  pt : PtV w B g v0 v1 d
  row : Row w j (.pointer (some ⟨g, 0, none⟩) :: k.cells ve) 68
  et : Et w ve k.ents
  base : B ≤ j
  ok : k.ok
  may : may k = true
def FJ (j g : Nat) (v0 v1 : Value) : Nat → Prop := fun b => b = j ∨ FS g v0 v1 b
theorem JV.no51 {w : World} {B j g b : Nat} {v0 v1 ve : Value} {d : Dk} {k : Kt} {cur : Array Value} (h : JV w B j g v0 v1 d ve k) (hb : w.heap[b]? = some (.cells cur 51 (0, 0))) : ¬ FJ j g v0 v1 b := by
  rintro (rfl | hf)
  · have hr := h.row
    unfold Row at hr
    rw [hr] at hb
    injection hb with hb
    injection hb with _ hb
    exact absurd hb (by decide)
  · exact Jr.no51 h.pt hb hf
theorem JV.keep {w w' : World} {B j g : Nat} {v0 v1 ve : Value} {d : Dk} {k : Kt} {S : Nat → Prop} (h : JV w B j g v0 v1 d ve k) (hg : Grew w w' S) (hn : ∀ b, FJ j g v0 v1 b → ¬ S b) (h51 : ∀ b cur, w.heap[b]? = some (.cells cur 51 (0, 0)) → ¬ S b) : JV w' B j g v0 v1 d ve k :=
  ⟨h.pt.keep hg (fun b hb => hn b (.inr hb)), h.row.grew hg (hn j (.inl rfl)), h.et.keep hg h51, h.base, h.ok, h.may⟩
theorem JV.below {w w' : World} {B j g : Nat} {v0 v1 ve : Value} {d : Dk} {k : Kt} (h : JV w B j g v0 v1 d ve k) (hb : Below w.heap.size w w') : JV w' B j g v0 v1 d ve k :=
  h.keep (Grew.of_below (fun _ => False) hb) (fun _ _ h => h) (fun _ _ _ h => h)
theorem JV.fj_lt {w : World} {B j g : Nat} {v0 v1 ve : Value} {d : Dk} {k : Kt} (h : JV w B j g v0 v1 d ve k) : ∀ b, FJ j g v0 v1 b → B ≤ b ∧ b < w.heap.size := by
  rintro b (rfl | hb)
  · exact ⟨h.base, h.row.lt⟩
  · exact h.pt.fs_lt b hb
/-- what a call leaves of a journal -/
def JStp (w w' : World) (B j g : Nat) (v0 v1 : Value) (d' : Dk) (k' : Kt) : Prop := ∃ u0 u1 ve', JV w' B j g u0 u1 d' ve' k' ∧ Grew w w' (FJ j g v0 v1) ∧ Sub w (FJ j g v0 v1) (FJ j g u0 u1)
theorem JStp.of_below {w w' : World} {B j g : Nat} {v0 v1 ve : Value} {d : Dk} {k : Kt} (h : JV w B j g v0 v1 d ve k) (hb : Below w.heap.size w w') : JStp w w' B j g v0 v1 d k := ⟨v0, v1, ve, h.below hb, Grew.of_below _ hb, fun _ h => .inl h⟩
theorem JStp.refl {w : World} {B j g : Nat} {v0 v1 ve : Value} {d : Dk} {k : Kt} (h : JV w B j g v0 v1 d ve k) : JStp w w B j g v0 v1 d k := ⟨v0, v1, ve, h, Grew.refl _ _, fun _ h => .inl h⟩
theorem JStp.trans {a b c : World} {B j g : Nat} {v0 v1 u0 u1 : Value} {d : Dk} {k : Kt} (hg : Grew a b (FJ j g v0 v1)) (hs : Sub a (FJ j g v0 v1) (FJ j g u0 u1)) (h : JStp b c B j g u0 u1 d k) : JStp a c B j g v0 v1 d k := by
  obtain ⟨x0, x1, ve, h1, h2, h3⟩ := h
  refine ⟨x0, x1, ve, h1, hg.trans h2 (fun q hq hT => ?_), fun q hq => ?_⟩
  · rcases hs q hT with h | h
    · exact h
    · omega
  · rcases h3 q hq with h | h
    · exact hs q h
    · exact .inr (Nat.le_trans hg.size h)
theorem JStp.then {a b c : World} {B j g : Nat} {v0 v1 : Value} {d d' : Dk} {k k' : Kt} (h : JStp a b B j g v0 v1 d k) (f : ∀ u0 u1 ve, JV b B j g u0 u1 d ve k → JStp b c B j g u0 u1 d' k') : JStp a c B j g v0 v1 d' k' := by
  obtain ⟨u0, u1, ve, h1, h2, h3⟩ := h
  exact JStp.trans h2 h3 (f u0 u1 ve h1)
theorem JStp.ahead {a b c : World} {B j g : Nat} {v0 v1 : Value} {d : Dk} {k : Kt} (hb : Below a.heap.size a b) (h : JStp b c B j g v0 v1 d k) : JStp a c B j g v0 v1 d k :=
  JStp.trans (Grew.of_below _ hb) (fun _ h => .inl h) h
theorem JStp.behind {a b c : World} {B j g : Nat} {v0 v1 : Value} {d : Dk} {k : Kt} (h : JStp a b B j g v0 v1 d k) (hb : Below b.heap.size b c) : JStp a c B j g v0 v1 d k :=
  h.then (fun _ _ _ hv => JStp.of_below hv hb)
/-- a change of the platter alone -/
theorem JStp.of_stp {w w' : World} {B j g : Nat} {v0 v1 ve : Value} {d d' : Dk} {k : Kt} (h : JV w B j g v0 v1 d ve k) (hs : Stp w w' B g v0 v1 d') : JStp w w' B j g v0 v1 d' k := by
  have hr := hs.row h.pt h.row (by decide) (by decide)
  obtain ⟨u0, u1, h1, h2, h3⟩ := hs
  refine ⟨u0, u1, ve, ⟨h1, hr, h.et.keep h2 (fun b cur hb => Jr.no51 h.pt hb), h.base, h.ok, h.may⟩, h2.mono (fun _ h => .inr h), ?_⟩
  rintro q (rfl | hq)
  · exact .inl (.inl rfl)
  · rcases h3 q hq with h | h
    · exact .inl (.inr h)
    · exact .inr h
/-- the same, and where the entries lie -/
theorem JStp.putV {w : World} {B j g : Nat} {v0 v1 ve v : Value} {d : Dk} {k n : Kt} (h : JV w B j g v0 v1 d ve k) (he : Et w v n.ents) (hok : n.ok) (hm : Jr.may n = true) :
    ∃ u0 u1, JV (((((w.setCell ⟨j, 1, none⟩ (.int .i64 n.view)).setCell ⟨j, 2, none⟩ (.int .i64 n.normal)).setCell ⟨j, 3, none⟩ (.int .i64 n.base)).setCell ⟨j, 4, none⟩ (.string n.state)).setCell ⟨j, 5, none⟩ v) B j g u0 u1 d v n ∧ Grew w (((((w.setCell ⟨j, 1, none⟩ (.int .i64 n.view)).setCell ⟨j, 2, none⟩ (.int .i64 n.normal)).setCell ⟨j, 3, none⟩ (.int .i64 n.base)).setCell ⟨j, 4, none⟩ (.string n.state)).setCell ⟨j, 5, none⟩ v) (FJ j g v0 v1) ∧ Sub w (FJ j g v0 v1) (FJ j g u0 u1) := by
  have hr := ((((h.row.set_same 1 (.int .i64 n.view)).set_same 2 (.int .i64 n.normal)).set_same 3 (.int .i64 n.base)).set_same 4 (.string n.state)).set_same 5 v
  have hg := grownBy_trans (grownBy_trans (grownBy_trans (grownBy_trans (grownBy_setCell w ⟨j, 1, none⟩ (.int .i64 n.view)) (grownBy_setCell _ ⟨j, 2, none⟩ (.int .i64 n.normal))) (grownBy_setCell _ ⟨j, 3, none⟩ (.int .i64 n.base))) (grownBy_setCell _ ⟨j, 4, none⟩ (.string n.state))) (grownBy_setCell _ ⟨j, 5, none⟩ v)
  have hj : ¬ FS g v0 v1 j := h.pt.typed h.row (by decide) (by decide)
  have hG := Grew.of_grown hg
  have h51 : ∀ b cur, w.heap[b]? = some (.cells cur 51 (0, 0)) → ¬ (some b = some j) := fun b cur hb e => by
    cases e
    exact h.no51 hb (.inl rfl)
  refine ⟨v0, v1, ⟨h.pt.keep hG (fun b hb e => ?_), hr, he.keep hG h51, h.base, hok, hm⟩, hG.mono (fun q hq => ?_), fun _ h => .inl h⟩
  · cases e
    exact hj hb
  · cases hq
    exact .inl rfl
/-- what is kept is another: five cells are stored -/
theorem JStp.put {w : World} {B j g : Nat} {v0 v1 ve v : Value} {d : Dk} {k n : Kt} (h : JV w B j g v0 v1 d ve k) (he : Et w v n.ents) (hok : n.ok) (hm : Jr.may n = true) :
    JStp w (((((w.setCell ⟨j, 1, none⟩ (.int .i64 n.view)).setCell ⟨j, 2, none⟩ (.int .i64 n.normal)).setCell ⟨j, 3, none⟩ (.int .i64 n.base)).setCell ⟨j, 4, none⟩ (.string n.state)).setCell ⟨j, 5, none⟩ v) B j g v0 v1 d n := by
  obtain ⟨u0, u1, h1, h2, h3⟩ := JStp.putV h he hok hm
  exact ⟨u0, u1, v, h1, h2, h3⟩
/-- the entries lie where they lay, or in new memory -/
def VB (w : World) (ve ve' : Value) : Prop := ve' = ve ∨ ∀ q, ve'.ownBlock = some q → w.heap.size ≤ q
/-- what a call leaves of a journal, and where the entries lie -/
def JStpV (w w' : World) (B j g : Nat) (v0 v1 ve : Value) (d' : Dk) (k' : Kt) : Prop := ∃ u0 u1 ve', JV w' B j g u0 u1 d' ve' k' ∧ Grew w w' (FJ j g v0 v1) ∧ Sub w (FJ j g v0 v1) (FJ j g u0 u1) ∧ VB w ve ve'
theorem JStpV.weak {w w' : World} {B j g : Nat} {v0 v1 ve : Value} {d' : Dk} {k' : Kt} (h : JStpV w w' B j g v0 v1 ve d' k') : JStp w w' B j g v0 v1 d' k' := by
  obtain ⟨u0, u1, ve', h1, h2, h3, _⟩ := h
  exact ⟨u0, u1, ve', h1, h2, h3⟩
theorem JStpV.of_below {w w' : World} {B j g : Nat} {v0 v1 ve : Value} {d : Dk} {k : Kt} (h : JV w B j g v0 v1 d ve k) (hb : Below w.heap.size w w') : JStpV w w' B j g v0 v1 ve d k := ⟨v0, v1, ve, h.below hb, Grew.of_below _ hb, fun _ h => .inl h, .inl rfl⟩
theorem VB.ahead {a b : World} {u v : Value} (hs : a.heap.size ≤ b.heap.size) (h : VB b u v) : VB a u v := h.imp id (fun h q hq => Nat.le_trans hs (h q hq))
theorem JStpV.trans {a b c : World} {B j g : Nat} {v0 v1 u0 u1 ve vm : Value} {d : Dk} {k : Kt} (hg : Grew a b (FJ j g v0 v1)) (hs : Sub a (FJ j g v0 v1) (FJ j g u0 u1)) (hv : VB a ve vm) (h : JStpV b c B j g u0 u1 vm d k) : JStpV a c B j g v0 v1 ve d k := by
  obtain ⟨x0, x1, vf, h1, h2, h3, h4⟩ := h
  refine ⟨x0, x1, vf, h1, hg.trans h2 (fun q hq hT => ?_), fun q hq => ?_, ?_⟩
  · rcases hs q hT with h | h
    · exact h
    · omega
  · rcases h3 q hq with h | h
    · exact hs q h
    · exact .inr (Nat.le_trans hg.size h)
  · rcases h4 with rfl | h4
    · exact hv
    · exact .inr (fun q hq => Nat.le_trans hg.size (h4 q hq))
theorem JStpV.ahead {a b c : World} {B j g : Nat} {v0 v1 ve : Value} {d : Dk} {k : Kt} (hb : Below a.heap.size a b) (h : JStpV b c B j g v0 v1 ve d k) : JStpV a c B j g v0 v1 ve d k :=
  JStpV.trans (Grew.of_below _ hb) (fun _ h => .inl h) (.inl rfl) h
theorem JStpV.of_stp {w w' : World} {B j g : Nat} {v0 v1 ve : Value} {d d' : Dk} {k : Kt} (h : JV w B j g v0 v1 d ve k) (hs : Stp w w' B g v0 v1 d') : JStpV w w' B j g v0 v1 ve d' k := by
  have hr := hs.row h.pt h.row (by decide) (by decide)
  obtain ⟨u0, u1, h1, h2, h3⟩ := hs
  refine ⟨u0, u1, ve, ⟨h1, hr, h.et.keep h2 (fun b cur hb => Jr.no51 h.pt hb), h.base, h.ok, h.may⟩, h2.mono (fun _ h => .inr h), ?_, .inl rfl⟩
  rintro q (rfl | hq)
  · exact .inl (.inl rfl)
  · rcases h3 q hq with h | h
    · exact .inl (.inr h)
    · exact .inr h
end Go.Proofs.Ytjjofjnhhajjjaa.Jr
