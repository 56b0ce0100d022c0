/-
  The walks of areFields and of Encode, the program's. The walk of op.Decode. The walk of the reference's Encode. An operation's bytes mean it alone. Plain numbers, no program in it. The walk of op.Encode. The reference's Decode.
-/
import Derived.Laws.Tables
import Derived.OwnWalk
import Derived.Deep.CutRange
import Derived.Laws.CopyOwn
import Derived.Deep.RegionLaw
import Derived.Deep.DrawnRows
import Derived.Laws.StructEq
import Derived.Test.YtjjofjnhhajjjaaC00
import Derived.Test.YtjjofjnhhajjjaaC01
import Derived.Test.YtjjofjnhhajjjaaC02
import Derived.Test.YtjjofjnhhajjjaaC03
import Derived.Test.YtjjofjnhhajjjaaC04
import Derived.Test.YtjjofjnhhajjjaaC05
namespace Go.Proofs.Ytjjofjnhhajjjaa.Nd
open Go.RowKit
theorem Says.isNo' {e : Ending} {P : Prop} (h : Says e P) (hp : ¬ P) : e = .returned (.bool false) := by
  rcases h.cases with ⟨_, h2⟩ | ⟨h1, _⟩
  · exact absurd h2 hp
  · exact h1
theorem Says.isYes' {e : Ending} {P : Prop} (h : Says e P) (hp : P) : e = .returned (.bool true) := by
  rcases h.cases with ⟨h1, _⟩ | ⟨_, h2⟩
  · exact h1
  · exact absurd hp h2
def shortS (ns : List ByteArray) : Prop := ∀ s ∈ ns, s.size ≤ 1100
set_option maxHeartbeats 1000000 in
set_option maxRecDepth 100000 in
theorem areFields_any (w : World) (v : Value) (ns : List ByteArray) (h : Strs w v ns) (hsz : ∀ s ∈ ns, s.size ≤ 9223372036854775807) : Calls Try.prog 74 #[v] w fun e w' => Says e (shortS ns) ∧ w' = w := by
  obtain ⟨p, cap, b, o, rfl, h1, h2, h3, h4⟩ := h
  have H3 := hid_in h3
  have H4 := hid_in h4
  have HSZ := hid_in hsz
  clear h3 h4 hsz
  go_enter Try.func74, Try.ntmps74
  go_wp2_with fail
  go_loopw [7] (fun vk w' => ∃ j : Nat, vk = .int .i64 (j : Int) ∧ j ≤ ns.length ∧ (∀ i s, i < j → ns[i]? = some s → s.size ≤ 1100) ∧ w' = w) (fun vk _ => ns.length - (intOf vk).toNat)
  case atStart => exact ⟨0, rfl, by omega, fun i s h => by omega, rfl⟩
  case round =>
    obtain ⟨j, rfl, hj, hok, rfl⟩ := hrel
    have HOK := hid_in hok
    clear hok
    by_cases hl : j < ns.length
    · have k1 : (j : Int) < (ns.length : Int) := by omega
      obtain ⟨s, hs⟩ : ∃ s, ns[j]? = some s := ⟨_, List.getElem?_eq_getElem hl⟩
      have hne : ns ≠ [] := by rintro rfl; simp at hl
      obtain ⟨rfl, _⟩ := H3.out hne
      have c0 := H4.out j s hs
      have HS := hid_in hs
      have hz := HSZ.out s (List.mem_of_getElem? hs)
      clear hs hne
      by_cases hb : 1100 < s.size
      · have k2 : (1100 : Int) < (s.size : Int) := by omega
        go_wp2
        go_ret
        exact ⟨.no rfl (fun h => by have := h s (List.mem_of_getElem? HS.out); omega), rfl⟩
      · have k2 : ¬ ((1100 : Int) < (s.size : Int)) := by omega
        have HB := hid_in hb
        clear hb
        go_wp2
        refine ⟨⟨j + 1, by go_num, by omega, fun i x h5 h6 => ?_, trivial⟩, by simp [intOf]; omega⟩
        rcases (show i < j ∨ i = j by omega) with h | rfl
        · exact HOK.out i x h h6
        · obtain rfl : s = x := Option.some.inj (HS.out.symm.trans h6)
          have := HB.out
          omega
    · have k1 : ¬ ((j : Int) < (ns.length : Int)) := by omega
      go_wp2
      go_ret
      refine ⟨.yes rfl (fun s hs => ?_), rfl⟩
      obtain ⟨i, hi, rfl⟩ := List.getElem_of_mem hs
      exact HOK.out i _ (by omega) (List.getElem?_eq_getElem hi)
theorem strs3 (w : World) (p t d : ByteArray) : Strs (w.alloc (.cells #[.string p, .string t, .string d] 9)) (.slice (some ⟨w.heap.size, 0, none⟩) 3 3) [p, t, d] := by
  have hr := Row.new w [.string p, .string t, .string d] 9
  refine ⟨_, 3, w.heap.size, 0, rfl, by simp, by omega, fun _ => ⟨rfl, by simp⟩, fun i s hi => ?_⟩
  have hi3 : i < 3 := by have := (List.getElem?_eq_some_iff.1 hi).1; simpa using this
  rw [Nat.zero_add, hr.cell]
  rcases (show i = 0 ∨ i = 1 ∨ i = 2 by omega) with rfl | rfl | rfl <;> simp at hi ⊢ <;> exact hi
/-- the bytes of an operation -/
def encO (o : Opn) : List Nat := Wire.num (Wire.zz o.kind) ++ (Wire.num o.path.size ++ bytesS o.path) ++ (Wire.num o.dest.size ++ bytesS o.dest) ++ (Wire.num o.data.size ++ bytesS o.data) ++ Wire.num (Wire.zz o.at_) ++ Wire.num (Wire.zz o.size)
structure Opn.ok (o : Opn) : Prop where
  kind : i64r o.kind
  at_ : i64r o.at_
  size : i64r o.size
  path : o.path.size ≤ 9223372036854775807
  dest : o.dest.size ≤ 9223372036854775807
  data : o.data.size ≤ 9223372036854775807
def Opn.short (o : Opn) : Prop := o.path.size ≤ 1100 ∧ o.dest.size ≤ 1100 ∧ o.data.size ≤ 1100
theorem short3 (p t d : ByteArray) : shortS [p, t, d] ↔ p.size ≤ 1100 ∧ t.size ≤ 1100 ∧ d.size ≤ 1100 := by simp [shortS]
set_option maxHeartbeats 2000000 in
set_option maxRecDepth 100000 in
theorem encode_long (o : Opn) (hok : o.ok) (hl : ¬ o.short) (w : World) : Calls Try.prog 56 #[o.val] w fun e w' => e = .returned (.tuple #[.slice none 0 0, .int .i64 2]) ∧ Below w.heap.size w w' := by
  obtain ⟨k, p, t, d, a, z⟩ := o
  simp only [Opn.val]
  obtain ⟨W0, H0, HR0, HB0, HZ0⟩ := op_row w k a z p t d
  have c1 : W0.cell? ⟨w.heap.size, 1, none⟩ = some (.string p) := HR0.out.cell 1
  have c2 : W0.cell? ⟨w.heap.size, 2, none⟩ = some (.string t) := HR0.out.cell 2
  have c3 : W0.cell? ⟨w.heap.size, 3, none⟩ = some (.string d) := HR0.out.cell 3
  have HAF := hid_in (areFields_any _ _ _ (strs3 W0 p t d) (by have h1 := hok.path; have h2 := hok.dest; have h3 := hok.data; simp only at h1 h2 h3; simp [h1, h2, h3]))
  have HNO : Hid (¬ shortS [p, t, d]) := fun h => hl ((short3 p t d).1 h)
  clear hok hl
  go_enter Try.func56, Try.ntmps56
  go_upto_region 1 with fail
  refine wp_world H0.out ?_
  clear H0
  go_wp2_with (first | (go_at_call 74; refine HAF.out.mono ?_; rintro e w1 ⟨hs, hw1⟩; obtain rfl := hs.isNo' HNO.out; subst hw1; clear hs))
  go_ret2
  exact ⟨rfl, HB0.out.alloc HB0.out.size _⟩
end Go.Proofs.Ytjjofjnhhajjjaa.Nd
namespace Go.Proofs.Ytjjofjnhhajjjaa.Nd
open Go.RowKit
/-- what is read as an operation -/
def rdO (s : Sta) : Opn × Sta :=
  let a := sInt s
  let b := sText 1100 a.2
  let c := sText 1100 b.2
  let d := sText 1100 c.2
  let e := sInt d.2
  let f := sInt e.2
  (⟨a.1, str b.1, str c.1, str d.1, e.1, f.1⟩, f.2)
def zeroO : Opn := ⟨0, ⟨#[]⟩, ⟨#[]⟩, ⟨#[]⟩, 0, 0⟩
theorem set6 {W : World} {Z : Nat} {t : TypeId} {a0 a1 a2 a3 a4 a5 : Value} (h : Row W Z [a0, a1, a2, a3, a4, a5] t) (b0 b1 b2 b3 b4 b5 : Value) :
    Row ((((((W.setCell ⟨Z, 0, none⟩ b0).setCell ⟨Z, 1, none⟩ b1).setCell ⟨Z, 2, none⟩ b2).setCell ⟨Z, 3, none⟩ b3).setCell ⟨Z, 4, none⟩ b4).setCell ⟨Z, 5, none⟩ b5) Z [b0, b1, b2, b3, b4, b5] t ∧ W.grownBy ((((((W.setCell ⟨Z, 0, none⟩ b0).setCell ⟨Z, 1, none⟩ b1).setCell ⟨Z, 2, none⟩ b2).setCell ⟨Z, 3, none⟩ b3).setCell ⟨Z, 4, none⟩ b4).setCell ⟨Z, 5, none⟩ b5) (some Z) :=
  ⟨(((((h.set_same 0 b0).set_same 1 b1).set_same 2 b2).set_same 3 b3).set_same 4 b4).set_same 5 b5,
    grownBy_trans (grownBy_trans (grownBy_trans (grownBy_trans (grownBy_trans (grownBy_setCell W ⟨Z, 0, none⟩ b0) (grownBy_setCell _ ⟨Z, 1, none⟩ b1)) (grownBy_setCell _ ⟨Z, 2, none⟩ b2)) (grownBy_setCell _ ⟨Z, 3, none⟩ b3)) (grownBy_setCell _ ⟨Z, 4, none⟩ b4)) (grownBy_setCell _ ⟨Z, 5, none⟩ b5)⟩
/-- under way: the In at g is in state s, the answer's block is as it was -/
structure PV (w : World) (g B : Nat) (vs : List Value) (t : TypeId) (s : Sta) (W : World) : Prop where
  inn : In B W g s
  z : Row W w.heap.size vs t
  below : Below w.heap.size w W
  lt : w.heap.size < g
theorem PV.step {w : World} {g B : Nat} {vs : List Value} {t : TypeId} {s s' : Sta} {W W' : World} (h : PV w g B vs t s W) (hi : In B W' g s') (hg : Grew W W' (· = g)) : PV w g B vs t s' W' :=
  ⟨hi, h.z.grew hg (by have := h.lt; omega), hg.below h.below h.below.size (fun k hk => by have := h.lt; omega), h.lt⟩
theorem PV.next {w : World} {g B : Nat} {vs : List Value} {t : TypeId} {s : Sta} {W W' : World} (h : PV w g B vs t s W) (hb : Below W.heap.size W W') : PV w g B vs t s W' :=
  ⟨InIs.below h.inn hb, h.z.below hb h.z.lt, h.below.trans (hb.mono h.below.size), h.lt⟩
theorem dec_ok {l : List Nat} {e : Nat} : (l, e) = (([] : List Nat), 0) ↔ e = 0 ∧ l.length = 0 := by
  simp [and_comm]
set_option maxHeartbeats 4000000 in
set_option maxRecDepth 100000 in
theorem decode_p (bs : List Nat) (p : Option Addr) (cap b off : Nat) (w : World) (hsl : Sl w p bs cap b off) (hno : p = none → bs.length = 0 ∧ cap = 0) (hre : bs.length ≤ 140737488355328) :
    Calls Try.prog 81 #[.slice p bs.length cap] w fun e w' => (((rdO (bs, 0)).2 = ([], 0) ∧ e = .returned (.tuple #[(rdO (bs, 0)).1.val, .int .i64 0])) ∨ ((rdO (bs, 0)).2 ≠ ([], 0) ∧ e = .returned (.tuple #[zeroO.val, .int .i64 21]))) ∧ Below w.heap.size w w' := by
  obtain ⟨W0, H0, HR0, HB0, HZ0⟩ := op_row w 0 0 0 ⟨#[]⟩ ⟨#[]⟩ ⟨#[]⟩
  have HRA := hid_in (read_any bs p cap b off W0 (hsl.below HB0.out) hno hre)
  obtain ⟨a1, s1, HS1⟩ : ∃ a s, Hid (sInt (bs, 0) = (a, s)) := ⟨_, _, rfl⟩
  obtain ⟨y2, s2, HS2⟩ : ∃ a s, Hid (sText 1100 s1 = (a, s)) := ⟨_, _, rfl⟩
  obtain ⟨y3, s3, HS3⟩ : ∃ a s, Hid (sText 1100 s2 = (a, s)) := ⟨_, _, rfl⟩
  obtain ⟨y4, s4, HS4⟩ : ∃ a s, Hid (sText 1100 s3 = (a, s)) := ⟨_, _, rfl⟩
  obtain ⟨a5, s5, HS5⟩ : ∃ a s, Hid (sInt s4 = (a, s)) := ⟨_, _, rfl⟩
  obtain ⟨a6, s6, HS6⟩ : ∃ a s, Hid (sInt s5 = (a, s)) := ⟨_, _, rfl⟩
  obtain ⟨x2, HX2⟩ : ∃ x, Hid (str y2 = x) := ⟨_, rfl⟩
  obtain ⟨x3, HX3⟩ : ∃ x, Hid (str y3 = x) := ⟨_, rfl⟩
  obtain ⟨x4, HX4⟩ : ∃ x, Hid (str y4 = x) := ⟨_, rfl⟩
  have HRD : Hid (rdO (bs, 0) = (⟨a1, x2, x3, x4, a5, a6⟩, s6)) := by
    show _ = _
    simp only [rdO, HS1.out, HS2.out, HS3.out, HS4.out, HS5.out, HS6.out, HX2.out, HX3.out, HX4.out]
  rw [HRD.out]
  clear hsl hno hre HRD
  generalize bs.length = n at *
  go_enter Try.func81, Try.ntmps81
  go_upto_region 1 with fail
  refine wp_world H0.out ?_
  clear H0
  go_upto_region 2 with (first | (go_at_call 61; refine HRA.out.mono ?_; rintro e w1 ⟨g, rfl, h1, h2, h3⟩; have HP1 : Hid (PV w g w1.heap.size [.int .i64 0, .string ⟨#[]⟩, .string ⟨#[]⟩, .string ⟨#[]⟩, .int .i64 0, .int .i64 0] 49 (bs, 0) w1) := ⟨h1, HR0.out.below h3 HR0.out.lt, HB0.out.trans (h3.mono HB0.out.size), Nat.lt_of_lt_of_le HR0.out.lt h2⟩; clear h1 h2 h3))
  generalize w1.heap.size = B at *
  have HC1 := hid_in (fun W (h : In B W g (bs, 0)) => int_s W g B (bs, 0) h)
  rw [HS1.out] at HC1
  have HC2 := hid_in (fun W (h : In B W g s1) => text_s W g B s1 1100 (by decide) h)
  rw [HS2.out] at HC2
  simp only [HX2.out] at HC2
  have HC3 := hid_in (fun W (h : In B W g s2) => text_s W g B s2 1100 (by decide) h)
  rw [HS3.out] at HC3
  simp only [HX3.out] at HC3
  have HC4 := hid_in (fun W (h : In B W g s3) => text_s W g B s3 1100 (by decide) h)
  rw [HS4.out] at HC4
  simp only [HX4.out] at HC4
  have HC5 := hid_in (fun W (h : In B W g s4) => int_s W g B s4 h)
  rw [HS5.out] at HC5
  have HC6 := hid_in (fun W (h : In B W g s5) => int_s W g B s5 h)
  rw [HS6.out] at HC6
  clear HS1 HS2 HS3 HS4 HS5 HS6 HX2 HX3 HX4 HR0 HB0 HZ0 HRA
  go_upto_region 3 with (first | (go_at_call 80; refine (HC1.out _ HP1.out.inn).mono ?_; rintro e w2 ⟨rfl, h1, h2⟩; have HP2 := hid_in (HP1.out.step h1 h2); clear h1 h2 HP1 HC1) | (go_at_call 65; refine (HC2.out _ HP2.out.inn).mono ?_; rintro e w3 ⟨rfl, h1, h2⟩; have HP3 := hid_in (HP2.out.step h1 h2); clear h1 h2 HP2 HC2) | (go_at_call 65; refine (HC3.out _ HP3.out.inn).mono ?_; rintro e w4 ⟨rfl, h1, h2⟩; have HP4 := hid_in (HP3.out.step h1 h2); clear h1 h2 HP3 HC3) | (go_at_call 65; refine (HC4.out _ HP4.out.inn).mono ?_; rintro e w5 ⟨rfl, h1, h2⟩; have HP5 := hid_in (HP4.out.step h1 h2); clear h1 h2 HP4 HC4) | (go_at_call 80; refine (HC5.out _ HP5.out.inn).mono ?_; rintro e w6 ⟨rfl, h1, h2⟩; have HP6 := hid_in (HP5.out.step h1 h2); clear h1 h2 HP5 HC5) | (go_at_call 80; refine (HC6.out _ HP6.out.inn).mono ?_; rintro e w7 ⟨rfl, h1, h2⟩; have HP7 := hid_in (HP6.out.step h1 h2); clear h1 h2 HP6 HC6))
  obtain ⟨W8, HW8⟩ : ∃ W8, Hid (w7.alloc (.cells #[.int .i64 a1, .string x2, .string x3, .string x4, .int .i64 a5, .int .i64 a6] 49) = W8) := ⟨_, rfl⟩
  have hb8 : Below w7.heap.size w7 W8 := by rw [← HW8.out]; exact (Below.refl _ _).alloc (Nat.le_refl _) _
  have HP8 := hid_in (HP7.out.next hb8)
  obtain ⟨G, HG⟩ : ∃ G, w7.heap.size = G := ⟨_, rfl⟩
  have HRG : Hid (Row W8 G [.int .i64 a1, .string x2, .string x3, .string x4, .int .i64 a5, .int .i64 a6] 49) := by show Row _ _ _ _; rw [← HW8.out, ← HG]; exact Row.new w7 [.int .i64 a1, .string x2, .string x3, .string x4, .int .i64 a5, .int .i64 a6] 49
  have n1 : w.heap.size ≠ G := by have := HP7.out.z.lt; omega
  have n2 : G ≠ w.heap.size := by have := HP7.out.z.lt; omega
  rw [HG]
  refine wp_world HW8.out ?_
  clear HW8 hb8 HP7 HG
  have z0 : W8.cell? ⟨w.heap.size, 0, none⟩ = some (.int .i64 0) := HP8.out.z.cell 0
  have z1 : W8.cell? ⟨w.heap.size, 1, none⟩ = some (.string ⟨#[]⟩) := HP8.out.z.cell 1
  have z2 : W8.cell? ⟨w.heap.size, 2, none⟩ = some (.string ⟨#[]⟩) := HP8.out.z.cell 2
  have z3 : W8.cell? ⟨w.heap.size, 3, none⟩ = some (.string ⟨#[]⟩) := HP8.out.z.cell 3
  have z4 : W8.cell? ⟨w.heap.size, 4, none⟩ = some (.int .i64 0) := HP8.out.z.cell 4
  have z5 : W8.cell? ⟨w.heap.size, 5, none⟩ = some (.int .i64 0) := HP8.out.z.cell 5
  have q0 := HP8.out.z.frozen 0
  have q1 := HP8.out.z.frozen 1
  have q2 := HP8.out.z.frozen 2
  have q3 := HP8.out.z.frozen 3
  have q4 := HP8.out.z.frozen 4
  have q5 := HP8.out.z.frozen 5
  have d0 : W8.cell? ⟨G, 0, none⟩ = some (.int .i64 a1) := HRG.out.cell 0
  have d1 : W8.cell? ⟨G, 1, none⟩ = some (.string x2) := HRG.out.cell 1
  have d2 : W8.cell? ⟨G, 2, none⟩ = some (.string x3) := HRG.out.cell 2
  have d3 : W8.cell? ⟨G, 3, none⟩ = some (.string x4) := HRG.out.cell 3
  have d4 : W8.cell? ⟨G, 4, none⟩ = some (.int .i64 a5) := HRG.out.cell 4
  have d5 : W8.cell? ⟨G, 5, none⟩ = some (.int .i64 a6) := HRG.out.cell 5
  obtain ⟨l6, e6⟩ := s6
  have HEN := hid_in (iend_any W8 g e6 l6 HP8.out.inn)
  by_cases hend : e6 = 0 ∧ l6.length = 0
  · rw [decide_eq_true hend] at HEN
    have HY : Hid ((l6, e6) = (([] : List Nat), 0)) := dec_ok.2 hend
    clear hend
    go_wp2_with (first | (go_at_call 66; refine HEN.out.mono ?_; rintro e w9 ⟨rfl, rfl⟩))
    have HF := hid_in (set6 HP8.out.z (.int .i64 a1) (.string x2) (.string x3) (.string x4) (.int .i64 a5) (.int .i64 a6))
    refine post_Row2 2 3 49 Try.results81 w.heap.size rfl 49 _ HF.out.1 _ Try.underlying49 rfl 6 info23 rfl rfl ?_
    exact ⟨.inl ⟨HY.out, rfl⟩, HP8.out.below.grown HF.out.2 HP8.out.below.size (fun k e => by cases e; exact Nat.le_refl _)⟩
  · rw [decide_eq_false hend] at HEN
    have HY : Hid ((l6, e6) ≠ (([] : List Nat), 0)) := fun h => hend (dec_ok.1 h)
    clear hend
    go_wp2_with (first | (go_at_call 66; refine HEN.out.mono ?_; rintro e w9 ⟨rfl, rfl⟩))
    have HF := hid_in (set6 HP8.out.z (.int .i64 0) (.string ⟨#[]⟩) (.string ⟨#[]⟩) (.string ⟨#[]⟩) (.int .i64 0) (.int .i64 0))
    refine post_Row2 2 3 49 Try.results81 w.heap.size rfl 49 _ HF.out.1 _ Try.underlying49 rfl 6 info23 rfl rfl ?_
    exact ⟨.inr ⟨HY.out, rfl⟩, HP8.out.below.grown HF.out.2 HP8.out.below.size (fun k e => by cases e; exact Nat.le_refl _)⟩
end Go.Proofs.Ytjjofjnhhajjjaa.Nd
namespace Go.Proofs.Ytjjofjnhhajjjaa.Nd
open Go.RowKit
theorem encO_len (o : Opn) (hs : o.short) : (encO o).length ≤ 4000 := by
  obtain ⟨z1, z2, z3⟩ := hs
  have y1 := num_length (Wire.zz o.kind)
  have y2 := num_length o.path.size
  have y3 := num_length o.dest.size
  have y4 := num_length o.data.size
  have y5 := num_length (Wire.zz o.at_)
  have y6 := num_length (Wire.zz o.size)
  unfold encO
  simp only [List.length_append, bytesS_length]
  omega
end Go.Proofs.Ytjjofjnhhajjjaa.Nd
namespace Go.Proofs.Ytjjofjnhhajjjaa.Nd
open Go.RowKit
theorem sInt_int (n : Int) (hn : i64r n) (r : List Nat) : sInt (Wire.num (Wire.zz n) ++ r, 0) = (n, (r, 0)) := by
  unfold sInt
  rw [sNum_num _ r (zz_lt n hn.1 hn.2)]
  simp only [unzz_zz n hn.1 hn.2]
theorem rdO_enc {o : Opn} (hok : o.ok) (hs : o.short) (r : List Nat) : rdO (encO o ++ r, 0) = (o, (r, 0)) := by
  have e : encO o ++ r = Wire.num (Wire.zz o.kind) ++ (Wire.num o.path.size ++ bytesS o.path ++ (Wire.num o.dest.size ++ bytesS o.dest ++ (Wire.num o.data.size ++ bytesS o.data ++ (Wire.num (Wire.zz o.at_) ++ (Wire.num (Wire.zz o.size) ++ r))))) := by
    simp [encO]
  rw [e]
  unfold rdO
  simp only [sInt_int _ hok.kind, sText_text 1100 _ _ hs.1 (by decide), sText_text 1100 _ _ hs.2.1 (by decide), sText_text 1100 _ _ hs.2.2 (by decide), sInt_int _ hok.at_, sInt_int _ hok.size, str_bytesS]
theorem encO_lt {o : Opn} (hok : o.ok) (hs : o.short) : ∀ x ∈ encO o, x < 256 := by
  have z1 := zz_lt o.kind hok.kind.1 hok.kind.2
  have z2 := zz_lt o.at_ hok.at_.1 hok.at_.2
  have z3 := zz_lt o.size hok.size.1 hok.size.2
  obtain ⟨s1, s2, s3⟩ := hs
  unfold encO
  exact app_lt (app_lt (app_lt (app_lt (app_lt (num_lt _ z1) (app_lt (num_lt _ (by omega)) (bytesS_lt _))) (app_lt (num_lt _ (by omega)) (bytesS_lt _))) (app_lt (num_lt _ (by omega)) (bytesS_lt _))) (num_lt _ z2)) (num_lt _ z3)
end Go.Proofs.Ytjjofjnhhajjjaa.Nd
namespace Go.Proofs.Ytjjofjnhhajjjaa.Nd
open Go.RowKit
set_option maxHeartbeats 4000000 in
set_option maxRecDepth 100000 in
theorem encode_ok (o : Opn) (hok : o.ok) (hs : o.short) (w : World) : Calls Try.prog 56 #[o.val] w fun e w' => (∃ u, e = .returned (.tuple #[u, .int .i64 0]) ∧ w'.ownsRow w.heap.size 5 1 u (encO o).length ((encO o).map u8v)) ∧ Below w.heap.size w w' := by
  obtain ⟨k, p, t, d, a, z⟩ := o
  simp only [Opn.val]
  obtain ⟨W0, H0, HR0, HB0, HZ0⟩ := op_row w k a z p t d
  have c1 : W0.cell? ⟨w.heap.size, 1, none⟩ = some (.string p) := HR0.out.cell 1
  have c2 : W0.cell? ⟨w.heap.size, 2, none⟩ = some (.string t) := HR0.out.cell 2
  have c3 : W0.cell? ⟨w.heap.size, 3, none⟩ = some (.string d) := HR0.out.cell 3
  have HAF := hid_in (areFields_any _ _ _ (strs3 W0 p t d) (by have h1 := hok.path; have h2 := hok.dest; have h3 := hok.data; simp only at h1 h2 h3; simp [h1, h2, h3]))
  have HYES : Hid (shortS [p, t, d]) := (short3 p t d).2 hs
  have HIk := hid_in hok.kind
  have HIa := hid_in hok.at_
  have HIz := hid_in hok.size
  simp only at HIk HIa HIz
  obtain ⟨z1, z2, z3⟩ := hs
  simp only at z1 z2 z3
  have y1 := num_length (Wire.zz k)
  have y2 := num_length p.size
  have y3 := num_length t.size
  have y4 := num_length d.size
  have y5 := num_length (Wire.zz a)
  have y6 := num_length (Wire.zz z)
  have HL0 : Hid (([] : List Nat).length + 10 ≤ 140737488355328) := by
    show _ ≤ _
    simp only [List.length_nil]
    omega
  have HL1 : Hid ((([] ++ Wire.num (Wire.zz k)) : List Nat).length + 10 + p.size ≤ 140737488355328) := by
    show _ ≤ _
    simp only [List.length_append, List.length_nil]
    omega
  have HL2 : Hid (((([] ++ Wire.num (Wire.zz k)) ++ (Wire.num p.size ++ bytesS p)) : List Nat).length + 10 + t.size ≤ 140737488355328) := by
    show _ ≤ _
    simp only [List.length_append, List.length_nil, bytesS_length]
    omega
  have HL3 : Hid ((((([] ++ Wire.num (Wire.zz k)) ++ (Wire.num p.size ++ bytesS p)) ++ (Wire.num t.size ++ bytesS t)) : List Nat).length + 10 + d.size ≤ 140737488355328) := by
    show _ ≤ _
    simp only [List.length_append, List.length_nil, bytesS_length]
    omega
  have HL4 : Hid (((((([] ++ Wire.num (Wire.zz k)) ++ (Wire.num p.size ++ bytesS p)) ++ (Wire.num t.size ++ bytesS t)) ++ (Wire.num d.size ++ bytesS d)) : List Nat).length + 10 ≤ 140737488355328) := by
    show _ ≤ _
    simp only [List.length_append, List.length_nil, bytesS_length]
    omega
  have HL5 : Hid ((((((([] ++ Wire.num (Wire.zz k)) ++ (Wire.num p.size ++ bytesS p)) ++ (Wire.num t.size ++ bytesS t)) ++ (Wire.num d.size ++ bytesS d)) ++ Wire.num (Wire.zz a)) : List Nat).length + 10 ≤ 140737488355328) := by
    show _ ≤ _
    simp only [List.length_append, List.length_nil, bytesS_length]
    omega
  have HL6 : Hid (((((((([] ++ Wire.num (Wire.zz k)) ++ (Wire.num p.size ++ bytesS p)) ++ (Wire.num t.size ++ bytesS t)) ++ (Wire.num d.size ++ bytesS d)) ++ Wire.num (Wire.zz a)) ++ Wire.num (Wire.zz z)) : List Nat).length ≤ 140737488355328) := by
    show _ ≤ _
    simp only [List.length_append, List.length_nil, bytesS_length]
    omega
  clear hok z1 z2 z3 y1 y2 y3 y4 y5 y6
  go_enter Try.func56, Try.ntmps56
  go_upto_region 1 with fail
  refine wp_world H0.out ?_
  clear H0
  go_upto_region 4 with (first | (go_at_call 74; refine HAF.out.mono ?_; rintro e w1 ⟨hs, hw1⟩; obtain rfl := hs.isYes' HYES.out; have HB1 : Hid (Below w.heap.size w w1) := (by rw [hw1]; exact HB0.out.alloc HB0.out.size _); have HR1 : Hid (Row w1 w.heap.size [.int .i64 k, .string p, .string t, .string d, .int .i64 a, .int .i64 z] 49) := (by rw [hw1]; exact HR0.out.alloc _); clear hs hw1 c1 c2 c3 HAF))
  have HSZ : Hid (w.heap.size < w1.heap.size) := HR1.out.lt
  obtain ⟨W2, HW2⟩ : ∃ W2, Hid (w1.alloc (.cells #[.slice none 0 0] 112) = W2) := ⟨_, rfl⟩
  have HO2 : Hid (OutB W2 w1.heap.size w1.heap.size []) := ⟨.slice none 0 0, by rw [← HW2.out]; exact out_new w1⟩
  have HB2 : Hid (Below w1.heap.size w1 W2) := by show Below _ _ _; rw [← HW2.out]; exact (Below.refl _ _).alloc (Nat.le_refl _) _
  refine wp_world HW2.out ?_
  clear HW2
  generalize w1.heap.size = B at *
  have HBE : Hid (∀ W, Below B w1 W → Row W w.heap.size [.int .i64 k, .string p, .string t, .string d, .int .i64 a, .int .i64 z] 49) := fun W hW => HR1.out.below hW HSZ.out
  have HBF : Hid (∀ W W', Below B w1 W → Below W.heap.size W W' → Below w.heap.size w W') := fun W W' h1 h2 => by
    have h3 : Below w.heap.size w W := HB1.out.trans (h1.mono (Nat.le_of_lt HSZ.out))
    exact h3.trans (h2.mono h3.size)
  have hr2 := HBE.out W2 HB2.out
  have c0_ : W2.cell? ⟨w.heap.size, 0, none⟩ = some (.int .i64 k) := hr2.cell 0
  clear hr2
  go_wp2_with (first | (go_at_call 75; refine (int_o _ B B _ k HIk.out (Nat.le_refl _) HO2.out HL0.out).mono ?_; rintro e w3 ⟨rfl, h1, h2⟩; have HO3 := hid_in h1; have HB3 := hid_in (HB2.out.trans h2); clear h1 h2 c0_ HO2; have hr3 := HBE.out w3 HB3.out; have c1_ : w3.cell? ⟨w.heap.size, 1, none⟩ = some (.string p) := hr3.cell 1; clear hr3) | (go_at_call 76; refine (text_o _ B B _ p (Nat.le_refl _) HO3.out HL1.out).mono ?_; rintro e w4 ⟨rfl, h1, h2⟩; have HO4 := hid_in h1; have HB4 := hid_in (HB3.out.trans h2); clear h1 h2 c1_ HO3; have hr4 := HBE.out w4 HB4.out; have c2_ : w4.cell? ⟨w.heap.size, 2, none⟩ = some (.string t) := hr4.cell 2; clear hr4) | (go_at_call 76; refine (text_o _ B B _ t (Nat.le_refl _) HO4.out HL2.out).mono ?_; rintro e w5 ⟨rfl, h1, h2⟩; have HO5 := hid_in h1; have HB5 := hid_in (HB4.out.trans h2); clear h1 h2 c2_ HO4; have hr5 := HBE.out w5 HB5.out; have c3_ : w5.cell? ⟨w.heap.size, 3, none⟩ = some (.string d) := hr5.cell 3; clear hr5) | (go_at_call 76; refine (text_o _ B B _ d (Nat.le_refl _) HO5.out HL3.out).mono ?_; rintro e w6 ⟨rfl, h1, h2⟩; have HO6 := hid_in h1; have HB6 := hid_in (HB5.out.trans h2); clear h1 h2 c3_ HO5; have hr6 := HBE.out w6 HB6.out; have c4_ : w6.cell? ⟨w.heap.size, 4, none⟩ = some (.int .i64 a) := hr6.cell 4; clear hr6) | (go_at_call 75; refine (int_o _ B B _ a HIa.out (Nat.le_refl _) HO6.out HL4.out).mono ?_; rintro e w7 ⟨rfl, h1, h2⟩; have HO7 := hid_in h1; have HB7 := hid_in (HB6.out.trans h2); clear h1 h2 c4_ HO6; have hr7 := HBE.out w7 HB7.out; have c5_ : w7.cell? ⟨w.heap.size, 5, none⟩ = some (.int .i64 z) := hr7.cell 5; clear hr7) | (go_at_call 75; refine (int_o _ B B _ z HIz.out (Nat.le_refl _) HO7.out HL5.out).mono ?_; rintro e w8 ⟨rfl, h1, h2⟩; have HO8 := hid_in h1; have HB8 := hid_in (HB7.out.trans h2); clear h1 h2 c5_ HO7) | (go_at_call 77; obtain ⟨v9, hv9⟩ := HO8.out; refine (obytes_any w8 B B v9 _ hv9 HL6.out).mono ?_; rintro e w9 ⟨u9, rfl, h1, h2⟩; have HW9 := hid_in h1; have HB9 := hid_in h2; have HE9 := hid_in HB8.out; clear h1 h2 hv9 HO8))
  go_ret2
  refine ⟨⟨_, rfl, ?_⟩, HBF.out _ _ HE9.out HB9.out⟩
  exact own_mono HW9.out (Nat.le_trans HB1.out.size HE9.out.size)
end Go.Proofs.Ytjjofjnhhajjjaa.Nd
namespace Go.Proofs.Ytjjofjnhhajjjaa.Nd
open Go.RowKit
/-- what the reference's Decode answers -/
def RDPost (bs : List Nat) (w : World) (e : Ending) (w' : World) : Prop := (∃ v k, e = .returned (.tuple #[v, .bool k]) ∧ ((k = true ∧ ∃ n, Means bs n ∧ IsN w' v n) ∨ (k = false ∧ (∀ n, ¬ Means bs n) ∧ IsN w' v zeroN))) ∧ Below w.heap.size w w'
theorem RDPost.no {bs : List Nat} {w : World} {e : Ending} {w' : World} (v : Value) (he : e = .returned (.tuple #[v, .bool false])) (h : ∀ n, ¬ Means bs n) (hz : IsN w' v zeroN) (hb : Below w.heap.size w w') : RDPost bs w e w' := ⟨⟨v, false, he, .inr ⟨rfl, h, hz⟩⟩, hb⟩
theorem RDPost.yes {bs : List Nat} {w : World} {e : Ending} {w' : World} (v : Value) (n : Nd) (he : e = .returned (.tuple #[v, .bool true])) (h : Means bs n) (hz : IsN w' v n) (hb : Below w.heap.size w w') : RDPost bs w e w' := ⟨⟨v, true, he, .inl ⟨rfl, n, h, hz⟩⟩, hb⟩
end Go.Proofs.Ytjjofjnhhajjjaa.Nd
