/-
  The walk of op.Decode. The walk of the reference's Encode. An operation's bytes mean it alone. Plain numbers, no program in it.
-/
import Derived.Laws.StructEq
import Derived.Laws.Tables
import Derived.Laws.CopyOwn
import Derived.OwnWalk
import Derived.Deep.RegionLaw
import Derived.Deep.DrawnRows
import Derived.Deep.CutRange
import Derived.Test.YtjjofjnhhajjjaaA00
import Derived.Test.YtjjofjnhhajjjaaA01
import Derived.Test.YtjjofjnhhajjjaaA02
import Derived.Test.YtjjofjnhhajjjaaA03
import Derived.Test.YtjjofjnhhajjjaaA04
import Derived.Test.YtjjofjnhhajjjaaA05
import Derived.Test.YtjjofjnhhajjjaaA06
namespace Go.Proofs.Ytjjofjnhhajjjaa.Nd
open Go.RowKit
/-- what is read as an operation -/
def rdO (s : Sta) : Opn × Sta :=
  let a := sInt s
  let b := sText 1100 a.2
  let c := sText 1100 b.2
  let d := sText 1100 c.2
  let e := sInt d.2
  let f := sInt e.2
  (⟨a.1, str b.1, str c.1, str d.1, e.1, f.1⟩, f.2)
def zeroO : Opn := ⟨0, ⟨#[]⟩, ⟨#[]⟩, ⟨#[]⟩, 0, 0⟩
theorem set6 {W : World} {Z : Nat} {t : TypeId} {a0 a1 a2 a3 a4 a5 : Value} (h : Row W Z [a0, a1, a2, a3, a4, a5] t) (b0 b1 b2 b3 b4 b5 : Value) :
    Row ((((((W.setCell ⟨Z, 0, none⟩ b0).setCell ⟨Z, 1, none⟩ b1).setCell ⟨Z, 2, none⟩ b2).setCell ⟨Z, 3, none⟩ b3).setCell ⟨Z, 4, none⟩ b4).setCell ⟨Z, 5, none⟩ b5) Z [b0, b1, b2, b3, b4, b5] t ∧ W.grownBy ((((((W.setCell ⟨Z, 0, none⟩ b0).setCell ⟨Z, 1, none⟩ b1).setCell ⟨Z, 2, none⟩ b2).setCell ⟨Z, 3, none⟩ b3).setCell ⟨Z, 4, none⟩ b4).setCell ⟨Z, 5, none⟩ b5) (some Z) :=
  ⟨(((((h.set_same 0 b0).set_same 1 b1).set_same 2 b2).set_same 3 b3).set_same 4 b4).set_same 5 b5,
    grownBy_trans (grownBy_trans (grownBy_trans (grownBy_trans (grownBy_trans (grownBy_setCell W ⟨Z, 0, none⟩ b0) (grownBy_setCell _ ⟨Z, 1, none⟩ b1)) (grownBy_setCell _ ⟨Z, 2, none⟩ b2)) (grownBy_setCell _ ⟨Z, 3, none⟩ b3)) (grownBy_setCell _ ⟨Z, 4, none⟩ b4)) (grownBy_setCell _ ⟨Z, 5, none⟩ b5)⟩
/-- under way: the In at g is in state s, the answer's block is as it was -/
structure PV (w : World) (g B : Nat) (vs : List Value) (t : TypeId) (s : Sta) (W : World) : Prop where
  inn : In B W g s
  z : Row W w.heap.size vs t
  below : Below w.heap.size w W
  lt : w.heap.size < g
theorem PV.step {w : World} {g B : Nat} {vs : List Value} {t : TypeId} {s s' : Sta} {W W' : World} (h : PV w g B vs t s W) (hi : In B W' g s') (hg : Grew W W' (· = g)) : PV w g B vs t s' W' :=
  ⟨hi, h.z.grew hg (by have := h.lt; omega), hg.below h.below h.below.size (fun k hk => by have := h.lt; omega), h.lt⟩
theorem PV.next {w : World} {g B : Nat} {vs : List Value} {t : TypeId} {s : Sta} {W W' : World} (h : PV w g B vs t s W) (hb : Below W.heap.size W W') : PV w g B vs t s W' :=
  ⟨InIs.below h.inn hb, h.z.below hb h.z.lt, h.below.trans (hb.mono h.below.size), h.lt⟩
theorem dec_ok {l : List Nat} {e : Nat} : (l, e) = (([] : List Nat), 0) ↔ e = 0 ∧ l.length = 0 := by
  simp [and_comm]
set_option maxHeartbeats 4000000 in
set_option maxRecDepth 100000 in
theorem decode_p (bs : List Nat) (p : Option Addr) (cap b off : Nat) (w : World) (hsl : Sl w p bs cap b off) (hno : p = none → bs.length = 0 ∧ cap = 0) (hre : bs.length ≤ 140737488355328) :
    Calls Try.prog 81 #[.slice p bs.length cap] w fun e w' => (((rdO (bs, 0)).2 = ([], 0) ∧ e = .returned (.tuple #[(rdO (bs, 0)).1.val, .int .i64 0])) ∨ ((rdO (bs, 0)).2 ≠ ([], 0) ∧ e = .returned (.tuple #[zeroO.val, .int .i64 21]))) ∧ Below w.heap.size w w' := by
  obtain ⟨W0, H0, HR0, HB0, HZ0⟩ := op_row w 0 0 0 ⟨#[]⟩ ⟨#[]⟩ ⟨#[]⟩
  have HRA := hid_in (read_any bs p cap b off W0 (hsl.below HB0.out) hno hre)
  obtain ⟨a1, s1, HS1⟩ : ∃ a s, Hid (sInt (bs, 0) = (a, s)) := ⟨_, _, rfl⟩
  obtain ⟨y2, s2, HS2⟩ : ∃ a s, Hid (sText 1100 s1 = (a, s)) := ⟨_, _, rfl⟩
  obtain ⟨y3, s3, HS3⟩ : ∃ a s, Hid (sText 1100 s2 = (a, s)) := ⟨_, _, rfl⟩
  obtain ⟨y4, s4, HS4⟩ : ∃ a s, Hid (sText 1100 s3 = (a, s)) := ⟨_, _, rfl⟩
  obtain ⟨a5, s5, HS5⟩ : ∃ a s, Hid (sInt s4 = (a, s)) := ⟨_, _, rfl⟩
  obtain ⟨a6, s6, HS6⟩ : ∃ a s, Hid (sInt s5 = (a, s)) := ⟨_, _, rfl⟩
  obtain ⟨x2, HX2⟩ : ∃ x, Hid (str y2 = x) := ⟨_, rfl⟩
  obtain ⟨x3, HX3⟩ : ∃ x, Hid (str y3 = x) := ⟨_, rfl⟩
  obtain ⟨x4, HX4⟩ : ∃ x, Hid (str y4 = x) := ⟨_, rfl⟩
  have HRD : Hid (rdO (bs, 0) = (⟨a1, x2, x3, x4, a5, a6⟩, s6)) := by
    show _ = _
    simp only [rdO, HS1.out, HS2.out, HS3.out, HS4.out, HS5.out, HS6.out, HX2.out, HX3.out, HX4.out]
  rw [HRD.out]
  clear hsl hno hre HRD
  generalize bs.length = n at *
  go_enter Try.func81, Try.ntmps81
  go_upto_region 1 with fail
  refine wp_world H0.out ?_
  clear H0
  go_upto_region 2 with (first | (go_at_call 61; refine HRA.out.mono ?_; rintro e w1 ⟨g, rfl, h1, h2, h3⟩; have HP1 : Hid (PV w g w1.heap.size [.int .i64 0, .string ⟨#[]⟩, .string ⟨#[]⟩, .string ⟨#[]⟩, .int .i64 0, .int .i64 0] 49 (bs, 0) w1) := ⟨h1, HR0.out.below h3 HR0.out.lt, HB0.out.trans (h3.mono HB0.out.size), Nat.lt_of_lt_of_le HR0.out.lt h2⟩; clear h1 h2 h3))
  generalize w1.heap.size = B at *
  have HC1 := hid_in (fun W (h : In B W g (bs, 0)) => int_s W g B (bs, 0) h)
  rw [HS1.out] at HC1
  have HC2 := hid_in (fun W (h : In B W g s1) => text_s W g B s1 1100 (by decide) h)
  rw [HS2.out] at HC2
  simp only [HX2.out] at HC2
  have HC3 := hid_in (fun W (h : In B W g s2) => text_s W g B s2 1100 (by decide) h)
  rw [HS3.out] at HC3
  simp only [HX3.out] at HC3
  have HC4 := hid_in (fun W (h : In B W g s3) => text_s W g B s3 1100 (by decide) h)
  rw [HS4.out] at HC4
  simp only [HX4.out] at HC4
  have HC5 := hid_in (fun W (h : In B W g s4) => int_s W g B s4 h)
  rw [HS5.out] at HC5
  have HC6 := hid_in (fun W (h : In B W g s5) => int_s W g B s5 h)
  rw [HS6.out] at HC6
  clear HS1 HS2 HS3 HS4 HS5 HS6 HX2 HX3 HX4 HR0 HB0 HZ0 HRA
  go_upto_region 3 with (first | (go_at_call 80; refine (HC1.out _ HP1.out.inn).mono ?_; rintro e w2 ⟨rfl, h1, h2⟩; have HP2 := hid_in (HP1.out.step h1 h2); clear h1 h2 HP1 HC1) | (go_at_call 65; refine (HC2.out _ HP2.out.inn).mono ?_; rintro e w3 ⟨rfl, h1, h2⟩; have HP3 := hid_in (HP2.out.step h1 h2); clear h1 h2 HP2 HC2) | (go_at_call 65; refine (HC3.out _ HP3.out.inn).mono ?_; rintro e w4 ⟨rfl, h1, h2⟩; have HP4 := hid_in (HP3.out.step h1 h2); clear h1 h2 HP3 HC3) | (go_at_call 65; refine (HC4.out _ HP4.out.inn).mono ?_; rintro e w5 ⟨rfl, h1, h2⟩; have HP5 := hid_in (HP4.out.step h1 h2); clear h1 h2 HP4 HC4) | (go_at_call 80; refine (HC5.out _ HP5.out.inn).mono ?_; rintro e w6 ⟨rfl, h1, h2⟩; have HP6 := hid_in (HP5.out.step h1 h2); clear h1 h2 HP5 HC5) | (go_at_call 80; refine (HC6.out _ HP6.out.inn).mono ?_; rintro e w7 ⟨rfl, h1, h2⟩; have HP7 := hid_in (HP6.out.step h1 h2); clear h1 h2 HP6 HC6))
  obtain ⟨W8, HW8⟩ : ∃ W8, Hid (w7.alloc (.cells #[.int .i64 a1, .string x2, .string x3, .string x4, .int .i64 a5, .int .i64 a6] 49) = W8) := ⟨_, rfl⟩
  have hb8 : Below w7.heap.size w7 W8 := by rw [← HW8.out]; exact (Below.refl _ _).alloc (Nat.le_refl _) _
  have HP8 := hid_in (HP7.out.next hb8)
  obtain ⟨G, HG⟩ : ∃ G, w7.heap.size = G := ⟨_, rfl⟩
  have HRG : Hid (Row W8 G [.int .i64 a1, .string x2, .string x3, .string x4, .int .i64 a5, .int .i64 a6] 49) := by show Row _ _ _ _; rw [← HW8.out, ← HG]; exact Row.new w7 [.int .i64 a1, .string x2, .string x3, .string x4, .int .i64 a5, .int .i64 a6] 49
  have n1 : w.heap.size ≠ G := by have := HP7.out.z.lt; omega
  have n2 : G ≠ w.heap.size := by have := HP7.out.z.lt; omega
  rw [HG]
  refine wp_world HW8.out ?_
  clear HW8 hb8 HP7 HG
  have z0 : W8.cell? ⟨w.heap.size, 0, none⟩ = some (.int .i64 0) := HP8.out.z.cell 0
  have z1 : W8.cell? ⟨w.heap.size, 1, none⟩ = some (.string ⟨#[]⟩) := HP8.out.z.cell 1
  have z2 : W8.cell? ⟨w.heap.size, 2, none⟩ = some (.string ⟨#[]⟩) := HP8.out.z.cell 2
  have z3 : W8.cell? ⟨w.heap.size, 3, none⟩ = some (.string ⟨#[]⟩) := HP8.out.z.cell 3
  have z4 : W8.cell? ⟨w.heap.size, 4, none⟩ = some (.int .i64 0) := HP8.out.z.cell 4
  have z5 : W8.cell? ⟨w.heap.size, 5, none⟩ = some (.int .i64 0) := HP8.out.z.cell 5
  have q0 := HP8.out.z.frozen 0
  have q1 := HP8.out.z.frozen 1
  have q2 := HP8.out.z.frozen 2
  have q3 := HP8.out.z.frozen 3
  have q4 := HP8.out.z.frozen 4
  have q5 := HP8.out.z.frozen 5
  have d0 : W8.cell? ⟨G, 0, none⟩ = some (.int .i64 a1) := HRG.out.cell 0
  have d1 : W8.cell? ⟨G, 1, none⟩ = some (.string x2) := HRG.out.cell 1
  have d2 : W8.cell? ⟨G, 2, none⟩ = some (.string x3) := HRG.out.cell 2
  have d3 : W8.cell? ⟨G, 3, none⟩ = some (.string x4) := HRG.out.cell 3
  have d4 : W8.cell? ⟨G, 4, none⟩ = some (.int .i64 a5) := HRG.out.cell 4
  have d5 : W8.cell? ⟨G, 5, none⟩ = some (.int .i64 a6) := HRG.out.cell 5
  obtain ⟨l6, e6⟩ := s6
  have HEN := hid_in (iend_any W8 g e6 l6 HP8.out.inn)
  by_cases hend : e6 = 0 ∧ l6.length = 0
  · rw [decide_eq_true hend] at HEN
    have HY : Hid ((l6, e6) = (([] : List Nat), 0)) := dec_ok.2 hend
    clear hend
    go_wp2_with (first | (go_at_call 66; refine HEN.out.mono ?_; rintro e w9 ⟨rfl, rfl⟩))
    have HF := hid_in (set6 HP8.out.z (.int .i64 a1) (.string x2) (.string x3) (.string x4) (.int .i64 a5) (.int .i64 a6))
    refine post_Row2 2 3 49 Try.results81 w.heap.size rfl 49 _ HF.out.1 _ Try.underlying49 rfl 6 info23 rfl rfl ?_
    exact ⟨.inl ⟨HY.out, rfl⟩, HP8.out.below.grown HF.out.2 HP8.out.below.size (fun k e => by cases e; exact Nat.le_refl _)⟩
  · rw [decide_eq_false hend] at HEN
    have HY : Hid ((l6, e6) ≠ (([] : List Nat), 0)) := fun h => hend (dec_ok.1 h)
    clear hend
    go_wp2_with (first | (go_at_call 66; refine HEN.out.mono ?_; rintro e w9 ⟨rfl, rfl⟩))
    have HF := hid_in (set6 HP8.out.z (.int .i64 0) (.string ⟨#[]⟩) (.string ⟨#[]⟩) (.string ⟨#[]⟩) (.int .i64 0) (.int .i64 0))
    refine post_Row2 2 3 49 Try.results81 w.heap.size rfl 49 _ HF.out.1 _ Try.underlying49 rfl 6 info23 rfl rfl ?_
    exact ⟨.inr ⟨HY.out, rfl⟩, HP8.out.below.grown HF.out.2 HP8.out.below.size (fun k e => by cases e; exact Nat.le_refl _)⟩
end Go.Proofs.Ytjjofjnhhajjjaa.Nd
namespace Go.Proofs.Ytjjofjnhhajjjaa.Nd
open Go.RowKit
theorem int_c (W : World) (n : Int) (hn : i64r n) : Calls Try.prog 45 #[.int .i64 n] W fun e w' => ∃ p c b, e = .returned (.slice p (Wire.num (Wire.zz n)).length c) ∧ Sl w' p (Wire.num (Wire.zz n)) c b 0 ∧ (p = none → (Wire.num (Wire.zz n)).length = 0 ∧ c = 0) ∧ w'.ownsRow W.heap.size 5 1 (.slice p (Wire.num (Wire.zz n)).length c) (Wire.num (Wire.zz n)).length ((Wire.num (Wire.zz n)).map u8v) ∧ Below W.heap.size W w' := by
  refine (rwint_any W n hn.1 hn.2).mono ?_
  rintro e w' ⟨v, rfl, ho, hb⟩
  obtain ⟨p, c, b, rfl, hs, hno⟩ := own_sl (num_lt _ (zz_lt n hn.1 hn.2)) ho
  exact ⟨p, c, b, rfl, hs, hno, ho, hb⟩
theorem text_cc (W : World) (s : ByteArray) (hn : s.size ≤ 1100) : Calls Try.prog 46 #[.string s] W fun e w' => ∃ p c b, e = .returned (.slice p (Wire.num s.size ++ bytesS s).length c) ∧ Sl w' p (Wire.num s.size ++ bytesS s) c b 0 ∧ (p = none → (Wire.num s.size ++ bytesS s).length = 0 ∧ c = 0) ∧ w'.ownsRow W.heap.size 5 1 (.slice p (Wire.num s.size ++ bytesS s).length c) (Wire.num s.size ++ bytesS s).length ((Wire.num s.size ++ bytesS s).map u8v) ∧ Below W.heap.size W w' := by
  refine (rwtext_any W s (by omega)).mono ?_
  rintro e w' ⟨v, rfl, ho, hb⟩
  obtain ⟨p, c, b, rfl, hs, hno⟩ := own_sl (app_lt (num_lt s.size (by omega)) (bytesS_lt s)) ho
  exact ⟨p, c, b, rfl, hs, hno, ho, hb⟩
theorem encO_len (o : Opn) (hs : o.short) : (encO o).length ≤ 4000 := by
  obtain ⟨z1, z2, z3⟩ := hs
  have y1 := num_length (Wire.zz o.kind)
  have y2 := num_length o.path.size
  have y3 := num_length o.dest.size
  have y4 := num_length o.data.size
  have y5 := num_length (Wire.zz o.at_)
  have y6 := num_length (Wire.zz o.size)
  unfold encO
  simp only [List.length_append, bytesS_length]
  omega
set_option maxHeartbeats 4000000 in
set_option maxRecDepth 100000 in
theorem rencode_ok (o : Opn) (hok : o.ok) (hs : o.short) (w : World) : Calls Try.prog 34 #[o.val] w fun e w' => (∃ u, e = .returned (.tuple #[u, .int .i64 0]) ∧ w'.ownsRow w.heap.size 5 1 u (encO o).length ((encO o).map u8v)) ∧ Below w.heap.size w w' := by
  have hll := encO_len o hs
  obtain ⟨k, p, t, d, a, z⟩ := o
  simp only [Opn.val]
  obtain ⟨W0, H0, HR0, HB0, HZ0⟩ := op_row w k a z p t d
  have c0_ : W0.cell? ⟨w.heap.size, 0, none⟩ = some (.int .i64 k) := HR0.out.cell 0
  have c1 : W0.cell? ⟨w.heap.size, 1, none⟩ = some (.string p) := HR0.out.cell 1
  have c2 : W0.cell? ⟨w.heap.size, 2, none⟩ = some (.string t) := HR0.out.cell 2
  have c3 : W0.cell? ⟨w.heap.size, 3, none⟩ = some (.string d) := HR0.out.cell 3
  have HIk := hid_in hok.kind
  have HIa := hid_in hok.at_
  have HIz := hid_in hok.size
  simp only at HIk HIa HIz
  obtain ⟨z1, z2, z3⟩ := hs
  simp only at z1 z2 z3
  have k1 : ¬ ((1100 : Int) < (p.size : Int)) := by omega
  have k2 : ¬ ((1100 : Int) < (t.size : Int)) := by omega
  have k3 : ¬ ((1100 : Int) < (d.size : Int)) := by omega
  have HZp := hid_in z1
  have HZt := hid_in z2
  have HZd := hid_in z3
  have HEN : Hid (encO ⟨k, p, t, d, a, z⟩ = Wire.num (Wire.zz k) ++ (Wire.num p.size ++ bytesS p) ++ (Wire.num t.size ++ bytesS t) ++ (Wire.num d.size ++ bytesS d) ++ Wire.num (Wire.zz a) ++ Wire.num (Wire.zz z)) := rfl
  obtain ⟨T0, HT0⟩ : ∃ T, Hid (Wire.num (Wire.zz k) = T) := ⟨_, rfl⟩
  obtain ⟨T1, HT1⟩ : ∃ T, Hid ((Wire.num p.size ++ bytesS p) = T) := ⟨_, rfl⟩
  obtain ⟨T2, HT2⟩ : ∃ T, Hid ((Wire.num t.size ++ bytesS t) = T) := ⟨_, rfl⟩
  obtain ⟨T3, HT3⟩ : ∃ T, Hid ((Wire.num d.size ++ bytesS d) = T) := ⟨_, rfl⟩
  obtain ⟨T4, HT4⟩ : ∃ T, Hid (Wire.num (Wire.zz a) = T) := ⟨_, rfl⟩
  obtain ⟨T5, HT5⟩ : ∃ T, Hid (Wire.num (Wire.zz z) = T) := ⟨_, rfl⟩
  rw [HT0.out, HT1.out, HT2.out, HT3.out, HT4.out, HT5.out] at HEN
  rw [HEN.out] at hll ⊢
  have HLL := hid_in hll
  clear hok z1 z2 z3 hll
  go_enter Try.func34, Try.ntmps34
  go_upto_region 1 with fail
  refine wp_world H0.out ?_
  clear H0
  go_upto_region 3 with fail
  clear c1 c2 c3
  have HC0 := hid_in (int_c W0 k HIk.out)
  rw [HT0.out] at HC0
  go_upto_region 4 with (first | (go_at_call 45; refine HC0.out.mono ?_; rintro e w1 ⟨p1, c1, b1, rfl, hs1, hn1, ho1, hb1⟩; have HRE1 : Hid (RE W0 w1 _ T0) := ⟨ho1, hb1⟩; clear hs1 hn1 ho1 hb1 c0_))
  clear HC0
  have hr1 := HRE1.out.row HR0.out
  have c1_ : w1.cell? ⟨w.heap.size, 1, none⟩ = some (.string p) := hr1.cell 1
  clear hr1
  have HC1 := hid_in (text_cc w1 p HZp.out)
  rw [HT1.out] at HC1
  have HF1 : Hid (T0.length + T1.length ≤ 140737488355328) := by
    have := HLL.out
    show _ ≤ _
    simp only [List.length_append] at this ⊢
    omega
  go_upto_region 5 with (first | (go_at_call 46; refine HC1.out.mono ?_; rintro e w2 ⟨p2, c2, b2, rfl, hs2, hn2, ho2, hb2⟩; have HRE2 := hid_in (HRE1.out.below hb2); have HS2 := hid_in hs2; have HN2 := hid_in hn2; clear hs2 hn2 ho2 hb2 c1_ HRE1) | (at_builtin; refine wpList_app W0.heap.size rfl _ _ rfl _ T0 T1 rfl HRE2.out.own _ _ _ _ _ rfl rfl HS2.out HN2.out HF1.out HRE2.out.bel.size ?_; intro v3 w3 ho3 hg3; have HRE3 := hid_in (HRE2.out.more ho3 hg3); clear ho3 hg3 HRE2 HS2 HN2))
  clear HC1 HF1
  have hr2 := HRE3.out.row HR0.out
  have c2_ : w3.cell? ⟨w.heap.size, 2, none⟩ = some (.string t) := hr2.cell 2
  clear hr2
  have HC2 := hid_in (text_cc w3 t HZt.out)
  rw [HT2.out] at HC2
  have HF2 : Hid ((T0 ++ T1).length + T2.length ≤ 140737488355328) := by
    have := HLL.out
    show _ ≤ _
    simp only [List.length_append] at this ⊢
    omega
  go_upto_region 6 with (first | (go_at_call 46; refine HC2.out.mono ?_; rintro e w4 ⟨p4, c4, b4, rfl, hs4, hn4, ho4, hb4⟩; have HRE4 := hid_in (HRE3.out.below hb4); have HS4 := hid_in hs4; have HN4 := hid_in hn4; clear hs4 hn4 ho4 hb4 c2_ HRE3) | (at_builtin; refine wpList_app W0.heap.size rfl _ _ rfl _ (T0 ++ T1) T2 rfl HRE4.out.own _ _ _ _ _ rfl rfl HS4.out HN4.out HF2.out HRE4.out.bel.size ?_; intro v5 w5 ho5 hg5; have HRE5 := hid_in (HRE4.out.more ho5 hg5); clear ho5 hg5 HRE4 HS4 HN4))
  clear HC2 HF2
  have hr3 := HRE5.out.row HR0.out
  have c3_ : w5.cell? ⟨w.heap.size, 3, none⟩ = some (.string d) := hr3.cell 3
  clear hr3
  have HC3 := hid_in (text_cc w5 d HZd.out)
  rw [HT3.out] at HC3
  have HF3 : Hid (((T0 ++ T1) ++ T2).length + T3.length ≤ 140737488355328) := by
    have := HLL.out
    show _ ≤ _
    simp only [List.length_append] at this ⊢
    omega
  go_upto_region 7 with (first | (go_at_call 46; refine HC3.out.mono ?_; rintro e w6 ⟨p6, c6, b6, rfl, hs6, hn6, ho6, hb6⟩; have HRE6 := hid_in (HRE5.out.below hb6); have HS6 := hid_in hs6; have HN6 := hid_in hn6; clear hs6 hn6 ho6 hb6 c3_ HRE5) | (at_builtin; refine wpList_app W0.heap.size rfl _ _ rfl _ ((T0 ++ T1) ++ T2) T3 rfl HRE6.out.own _ _ _ _ _ rfl rfl HS6.out HN6.out HF3.out HRE6.out.bel.size ?_; intro v7 w7 ho7 hg7; have HRE7 := hid_in (HRE6.out.more ho7 hg7); clear ho7 hg7 HRE6 HS6 HN6))
  clear HC3 HF3
  have hr4 := HRE7.out.row HR0.out
  have c4_ : w7.cell? ⟨w.heap.size, 4, none⟩ = some (.int .i64 a) := hr4.cell 4
  clear hr4
  have HC4 := hid_in (int_c w7 a HIa.out)
  rw [HT4.out] at HC4
  have HF4 : Hid ((((T0 ++ T1) ++ T2) ++ T3).length + T4.length ≤ 140737488355328) := by
    have := HLL.out
    show _ ≤ _
    simp only [List.length_append] at this ⊢
    omega
  go_upto_region 8 with (first | (go_at_call 45; refine HC4.out.mono ?_; rintro e w8 ⟨p8, c8, b8, rfl, hs8, hn8, ho8, hb8⟩; have HRE8 := hid_in (HRE7.out.below hb8); have HS8 := hid_in hs8; have HN8 := hid_in hn8; clear hs8 hn8 ho8 hb8 c4_ HRE7) | (at_builtin; refine wpList_app W0.heap.size rfl _ _ rfl _ (((T0 ++ T1) ++ T2) ++ T3) T4 rfl HRE8.out.own _ _ _ _ _ rfl rfl HS8.out HN8.out HF4.out HRE8.out.bel.size ?_; intro v9 w9 ho9 hg9; have HRE9 := hid_in (HRE8.out.more ho9 hg9); clear ho9 hg9 HRE8 HS8 HN8))
  clear HC4 HF4
  have hr5 := HRE9.out.row HR0.out
  have c5_ : w9.cell? ⟨w.heap.size, 5, none⟩ = some (.int .i64 z) := hr5.cell 5
  clear hr5
  have HC5 := hid_in (int_c w9 z HIz.out)
  rw [HT5.out] at HC5
  have HF5 : Hid (((((T0 ++ T1) ++ T2) ++ T3) ++ T4).length + T5.length ≤ 140737488355328) := by
    have := HLL.out
    show _ ≤ _
    simp only [List.length_append] at this ⊢
    omega
  go_wp2_with (first | (go_at_call 45; refine HC5.out.mono ?_; rintro e w10 ⟨p10, c10, b10, rfl, hs10, hn10, ho10, hb10⟩; have HRE10 := hid_in (HRE9.out.below hb10); have HS10 := hid_in hs10; have HN10 := hid_in hn10; clear hs10 hn10 ho10 hb10 c5_ HRE9) | (at_builtin; refine wpList_app W0.heap.size rfl _ _ rfl _ ((((T0 ++ T1) ++ T2) ++ T3) ++ T4) T5 rfl HRE10.out.own _ _ _ _ _ rfl rfl HS10.out HN10.out HF5.out HRE10.out.bel.size ?_; intro v11 w11 ho11 hg11; have HRE11 := hid_in (HRE10.out.more ho11 hg11); clear ho11 hg11 HRE10 HS10 HN10))
  clear HC5 HF5
  go_ret2
  have h := HRE11.out.fin HB0.out
  exact ⟨⟨_, rfl, h.1⟩, h.2⟩
set_option maxHeartbeats 2000000 in
set_option maxRecDepth 100000 in
theorem rencode_long (o : Opn) (hok : o.ok) (hl : ¬ o.short) (w : World) : Calls Try.prog 34 #[o.val] w fun e w' => e = .returned (.tuple #[.slice none 0 0, .int .i64 2]) ∧ Below w.heap.size w w' := by
  obtain ⟨k, p, t, d, a, z⟩ := o
  have q1 := hok.path
  have q2 := hok.dest
  have q3 := hok.data
  simp only [Opn.val, Opn.short] at *
  obtain ⟨W0, H0, HR0, HB0, HZ0⟩ := op_row w k a z p t d
  have c1 : W0.cell? ⟨w.heap.size, 1, none⟩ = some (.string p) := HR0.out.cell 1
  have c2 : W0.cell? ⟨w.heap.size, 2, none⟩ = some (.string t) := HR0.out.cell 2
  have c3 : W0.cell? ⟨w.heap.size, 3, none⟩ = some (.string d) := HR0.out.cell 3
  clear hok
  rcases (show (1100 : Int) < (p.size : Int) ∨ (¬ ((1100 : Int) < (p.size : Int)) ∧ (1100 : Int) < (t.size : Int)) ∨ (¬ ((1100 : Int) < (p.size : Int)) ∧ ¬ ((1100 : Int) < (t.size : Int)) ∧ (1100 : Int) < (d.size : Int)) by omega) with k1 | ⟨k1, k2⟩ | ⟨k1, k2, k3⟩
  all_goals
    clear hl
    go_enter Try.func34, Try.ntmps34
    go_upto_region 1 with fail
    refine wp_world H0.out ?_
    clear H0
    go_wp2
    go_ret2
    exact ⟨rfl, HB0.out⟩
end Go.Proofs.Ytjjofjnhhajjjaa.Nd
namespace Go.Proofs.Ytjjofjnhhajjjaa.Nd
open Go.RowKit
theorem sInt_int (n : Int) (hn : i64r n) (r : List Nat) : sInt (Wire.num (Wire.zz n) ++ r, 0) = (n, (r, 0)) := by
  unfold sInt
  rw [sNum_num _ r (zz_lt n hn.1 hn.2)]
  simp only [unzz_zz n hn.1 hn.2]
theorem rdO_enc {o : Opn} (hok : o.ok) (hs : o.short) (r : List Nat) : rdO (encO o ++ r, 0) = (o, (r, 0)) := by
  have e : encO o ++ r = Wire.num (Wire.zz o.kind) ++ (Wire.num o.path.size ++ bytesS o.path ++ (Wire.num o.dest.size ++ bytesS o.dest ++ (Wire.num o.data.size ++ bytesS o.data ++ (Wire.num (Wire.zz o.at_) ++ (Wire.num (Wire.zz o.size) ++ r))))) := by
    simp [encO]
  rw [e]
  unfold rdO
  simp only [sInt_int _ hok.kind, sText_text 1100 _ _ hs.1 (by decide), sText_text 1100 _ _ hs.2.1 (by decide), sText_text 1100 _ _ hs.2.2 (by decide), sInt_int _ hok.at_, sInt_int _ hok.size, str_bytesS]
theorem encO_lt {o : Opn} (hok : o.ok) (hs : o.short) : ∀ x ∈ encO o, x < 256 := by
  have z1 := zz_lt o.kind hok.kind.1 hok.kind.2
  have z2 := zz_lt o.at_ hok.at_.1 hok.at_.2
  have z3 := zz_lt o.size hok.size.1 hok.size.2
  obtain ⟨s1, s2, s3⟩ := hs
  unfold encO
  exact app_lt (app_lt (app_lt (app_lt (app_lt (num_lt _ z1) (app_lt (num_lt _ (by omega)) (bytesS_lt _))) (app_lt (num_lt _ (by omega)) (bytesS_lt _))) (app_lt (num_lt _ (by omega)) (bytesS_lt _))) (num_lt _ z2)) (num_lt _ z3)
end Go.Proofs.Ytjjofjnhhajjjaa.Nd
