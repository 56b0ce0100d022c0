/-
  Fields that are written, and what stays; a table's bytes. Numbers and seats that are read.
-/
import Derived.Deep.CutRange
import Derived.OwnWalk
import Derived.Laws.CopyOwn
import Derived.Laws.Tables
import Derived.Deep.RegionLaw
import Derived.Deep.DrawnRows
import Derived.Test.YtiijlnlkhpneaaaF00
import Derived.Test.YtiijlnlkhpneaaaF01
import Derived.Test.YtiijlnlkhpneaaaF02
import Derived.Test.YtiijlnlkhpneaaaF03
import Derived.Test.YtiijlnlkhpneaaaF04
import Derived.Test.YtiijlnlkhpneaaaF05
import Derived.Test.YtiijlnlkhpneaaaF06
import Derived.Test.YtiijlnlkhpneaaaF07
import Derived.Test.YtiijlnlkhpneaaaF08
import Derived.Test.YtiijlnlkhpneaaaF09
import Derived.Test.YtiijlnlkhpneaaaF10
import Derived.Test.YtiijlnlkhpneaaaF11
import Derived.Test.YtiijlnlkhpneaaaF12
import Derived.Test.YtiijlnlkhpneaaaF13
import Derived.Test.YtiijlnlkhpneaaaF14
namespace Go.Proofs.Ytiijlnlkhpneaaa.Se
open Go.RowKit
open Nd (Row wp_world post_Row grownBy_setCell below_of_grown grownBy_trans grown_of_below grownBy_refl OutB OutIs OutS Grew bytesS u8v i64r)
/-- what is neither a row of bytes nor an Out stays -/
def Keeps (w w' : World) : Prop := ∀ (b : Nat) (cs : Array Value) (t : TypeId) (fr : Nat × Nat), w.heap[b]? = some (.cells cs t fr) → t ≠ 5 → t ≠ 67 → w'.heap[b]? = some (.cells cs t fr)
theorem Keeps.trans {a b c : World} (h : Keeps a b) (k : Keeps b c) : Keeps a c := fun x cs t fr e h5 h67 => k x cs t fr (h x cs t fr e h5 h67) h5 h67
theorem Keeps.row {w w' : World} (h : Keeps w w') {b : Nat} {vs : List Value} {t : TypeId} (hr : Row w b vs t) (h5 : t ≠ 5) (h67 : t ≠ 67) : Row w' b vs t := by
  unfold Row at *
  exact h b _ t _ hr h5 h67
theorem out_keeps {w w' : World} {B g : Nat} {v : Value} {xs : List Nat} (hv : OutIs w B g v xs) (h : Grew w w' (OutS g v)) : Keeps w w' := fun b cs t fr e h5 h67 => by
  rw [h.block b (Array.getElem?_eq_some_iff.1 e).1 (fun hS => ?_), e]
  rcases hS with rfl | hS
  · have hr := hv.row
    unfold Row at hr
    rw [hr] at e
    cases e
    exact h67 rfl
  · obtain ⟨_, ⟨rfl, _⟩ | ⟨g', cap, cur, rfl, _, hh, _⟩⟩ := hv.own
    · cases hS
    · have e2 : b = g' := by simpa [Value.ownBlock] using hS
      subst e2
      rw [hh] at e
      cases e
      exact h5 rfl
theorem num_k (w : World) (B g : Nat) (xs : List Nat) (n : Nat) (hn : n < 18446744073709551616) (hg : B ≤ g) (ho : OutB w B g xs) (hl : xs.length + 10 ≤ 140737488355328) :
    Calls Try.prog 30 #[.pointer (some ⟨g, 0, none⟩), .int .u64 (n : Int)] w fun e w' => e = .returned (.tuple #[]) ∧ OutB w' B g (xs ++ Nd.Wire.num n) ∧ Below B w w' ∧ Keeps w w' := by
  obtain ⟨v, hv⟩ := ho
  refine (Nd.onum_any w B g v xs n hn hv hl).mono ?_
  rintro e w' ⟨rfl, v', h1, h2, _⟩
  exact ⟨rfl, ⟨v', h1⟩, Nd.out_below hg hv h2, out_keeps hv h2⟩
theorem int_k (w : World) (B g : Nat) (xs : List Nat) (n : Int) (hn : i64r n) (hg : B ≤ g) (ho : OutB w B g xs) (hl : xs.length + 10 ≤ 140737488355328) :
    Calls Try.prog 31 #[.pointer (some ⟨g, 0, none⟩), .int .i64 n] w fun e w' => e = .returned (.tuple #[]) ∧ OutB w' B g (xs ++ Nd.Wire.num (Nd.Wire.zz n)) ∧ Below B w w' ∧ Keeps w w' := by
  obtain ⟨v, hv⟩ := ho
  refine (Nd.oint_any w B g v xs n hn.1 hn.2 hv hl).mono ?_
  rintro e w' ⟨rfl, v', h1, h2, _⟩
  exact ⟨rfl, ⟨v', h1⟩, Nd.out_below hg hv h2, out_keeps hv h2⟩
theorem flag_k (w : World) (B g : Nat) (xs : List Nat) (f : Bool) (hg : B ≤ g) (ho : OutB w B g xs) (hl : xs.length + 1 ≤ 140737488355328) :
    Calls Try.prog 32 #[.pointer (some ⟨g, 0, none⟩), .bool f] w fun e w' => e = .returned (.tuple #[]) ∧ OutB w' B g (xs ++ [if f then 1 else 0]) ∧ Below B w w' ∧ Keeps w w' := by
  obtain ⟨v, hv⟩ := ho
  refine (Nd.oflag_any w B g v xs f hv hl).mono ?_
  rintro e w' ⟨rfl, v', h1, h2, _⟩
  exact ⟨rfl, ⟨v', h1⟩, Nd.out_below hg hv h2, out_keeps hv h2⟩
theorem text_k (w : World) (B g : Nat) (xs : List Nat) (s : ByteArray) (hg : B ≤ g) (ho : OutB w B g xs) (hl : xs.length + 10 + s.size ≤ 140737488355328) :
    Calls Try.prog 33 #[.pointer (some ⟨g, 0, none⟩), .string s] w fun e w' => e = .returned (.tuple #[]) ∧ OutB w' B g (xs ++ (Nd.Wire.num s.size ++ bytesS s)) ∧ Below B w w' ∧ Keeps w w' := by
  obtain ⟨v, hv⟩ := ho
  refine (Nd.otext_any w B g v xs s hv hl).mono ?_
  rintro e w' ⟨rfl, v', h1, h2, _⟩
  exact ⟨rfl, ⟨v', h1⟩, Nd.out_below hg hv h2, out_keeps hv h2⟩
/-- a seat's bytes -/
def encS (s : Seat) : List Nat := (((Nd.Wire.num s.client.toNat ++ Nd.Wire.num s.number.toNat) ++ Nd.Wire.num (Nd.Wire.zz s.at_)) ++ [if s.kept then 1 else 0]) ++ (Nd.Wire.num s.reply.size ++ bytesS s.reply)
/-- a table's bytes -/
def encT (room : Int) (X : List Seat) : List Nat := (Nd.Wire.num room.toNat ++ Nd.Wire.num X.length) ++ X.flatMap encS
/-- a seat that can be written -/
structure Enc1 (s : Seat) : Prop where
  c0 : 0 ≤ s.client
  c8 : s.client ≤ 8
  n0 : 0 ≤ s.number
  n9 : s.number ≤ 1099511627776
  at_ : i64r s.at_
  short : s.reply.size ≤ 8192
theorem encS_len {s : Seat} (h : Enc1 s) : (encS s).length ≤ 8250 := by
  have h1 := Nd.num_length s.client.toNat
  have h2 := Nd.num_length s.number.toNat
  have h3 := Nd.num_length (Nd.Wire.zz s.at_)
  have h4 := Nd.num_length s.reply.size
  have h5 := h.short
  unfold encS
  simp only [List.length_append, Nd.bytesS_length, List.length_cons, List.length_nil]
  omega
theorem encs_len : ∀ X : List Seat, (∀ s ∈ X, Enc1 s) → (X.flatMap encS).length ≤ 8250 * X.length
  | [], _ => by simp
  | a :: r, h => by
    have h1 := encs_len r (fun s hs => h s (by simp [hs]))
    have h2 := encS_len (h a (by simp))
    rw [List.flatMap_cons, List.length_append, List.length_cons]
    omega
theorem take_encS {X : List Seat} {i : Nat} {s : Seat} (h : X[i]? = some s) : (X.take (i + 1)).flatMap encS = (X.take i).flatMap encS ++ encS s := by
  rw [List.take_add_one, h, List.flatMap_append]
  simp
/-- numbers of when that can be written -/
def AtOk (T : List Seat) : Prop := ∀ s ∈ T, i64r s.at_
theorem enc1_of {T : List Seat} (hr : Right T) (ha : AtOk T) : ∀ s ∈ T.filter seated, Enc1 s := fun s hs => by
  have h3 := List.mem_filter.1 hs
  obtain ⟨j, hj⟩ := List.getElem?_of_mem h3.1
  have hl : j < 8 := by rw [← hr.len]; exact (List.getElem?_eq_some_iff.1 hj).1
  rcases (hr.at_ j s hj).who with h4 | ⟨h4, h5⟩
  · rw [seated_no h4] at h3
    exact absurd h3.2 (by simp)
  · have h6 : 1 ≤ s.number ∧ s.number ≤ 1099511627776 := of_decide_eq_true h4
    exact ⟨by omega, by omega, by omega, h6.2, ha s h3.1, (hr.at_ j s hj).short⟩
end Go.Proofs.Ytiijlnlkhpneaaa.Se
namespace Go.Proofs.Ytiijlnlkhpneaaa.Se
open Go.RowKit
open Nd (Row wp_world post_Row grownBy_setCell below_of_grown In Sta sNum sText sFlag sInt Grew str sNum_lt)
/-- a number, cut at one above the most -/
def sCut (m : Nat) (s : Sta) : Nat := min (sNum s).1 (m + 1)
theorem cut_le (m : Nat) (s : Sta) : sCut m s ≤ m + 1 := Nat.min_le_right _ _
set_option maxHeartbeats 1000000 in
set_option maxRecDepth 100000 in
theorem number_s (w : World) (g B : Nat) (s : Sta) (m : Nat) (hm : m ≤ 1099511627776) (hi : In B w g s) : Calls Try.prog 51 #[.pointer (some ⟨g, 0, none⟩), .int .u64 (m : Int)] w fun r w' => r = .returned (.int .i64 ((sCut m s : Nat) : Int)) ∧ In B w' g (sNum s).2 ∧ Grew w w' (· = g) := by
  have HN := hid_in (Nd.num_s w g B s hi)
  have hlt := sNum_lt s
  unfold sCut
  generalize (sNum s).1 = n at *
  generalize (sNum s).2 = s' at *
  have hm2 : (m : Int) ≤ 1099511627776 := by omega
  have hn2 : (n : Int) < 18446744073709551616 := by omega
  clear hi
  have he : (min (n : Int) ((m : Int) + 1)) = ((min n (m + 1) : Nat) : Int) := by omega
  have HE := hid_in he
  have e1 : IntKind.u64.wrap ((m : Int) + 1) = (m : Int) + 1 := by unfold IntKind.wrap; simp [IntKind.signed, IntKind.bits]; omega
  have e2 : wrap64 ((m : Int) + 1) = (m : Int) + 1 := by unfold wrap64; omega
  have HM2 := hid_in hm2
  have HG := hid_in hlt
  clear hlt hm he hm2 hn2
  by_cases hc : (n : Int) < (m : Int) + 1
  · have e3 : wrap64 (n : Int) = (n : Int) := by have := HM2.out; unfold wrap64; omega
    have c1 : (n : Int) ≤ (m : Int) + 1 := by omega
    have c2 : ¬ (m : Int) + 1 < (n : Int) := by omega
    have c3 : ¬ (m : Int) + 1 ≤ (n : Int) := by omega
    have HX : Hid ((n : Int) = min (n : Int) ((m : Int) + 1)) := hid_in (by omega)
    go_enter Try.func51, Try.ntmps51
    go_wp2_with (go_at_call 54; refine HN.out.mono ?_; rintro e w1 ⟨rfl, hi1, hg1⟩; have HI1 := hid_in hi1; have HG1 := hid_in hg1; clear hi1 hg1)
    go_ret
    refine ⟨?_, HI1.out, HG1.out⟩
    rw [← HE.out, ← HX.out]
    first | rfl | (show Ending.returned (Value.int IntKind.i64 (wrap64 (n : Int))) = _; rw [e3])
  · have c1 : (m : Int) + 1 ≤ (n : Int) := by omega
    have HX : Hid ((m : Int) + 1 = min (n : Int) ((m : Int) + 1)) := hid_in (by omega)
    by_cases hq : (n : Int) = (m : Int) + 1
    · have c2 : ¬ (m : Int) + 1 < (n : Int) := by omega
      rw [hq] at HN
      have HX2 : Hid ((m : Int) + 1 = min (n : Int) ((m : Int) + 1)) := hid_in HX.out
      rw [← HE.out, ← HX2.out]
      clear c1 c2 hc hq HE HX HX2
      go_enter Try.func51, Try.ntmps51
      go_wp2_with (go_at_call 54; refine HN.out.mono ?_; rintro e w1 ⟨rfl, hi1, hg1⟩; have HI1 := hid_in hi1; have HG1 := hid_in hg1; clear hi1 hg1)
      go_ret
      refine ⟨?_, HI1.out, HG1.out⟩
      first | rfl | (show Ending.returned (Value.int IntKind.i64 (wrap64 ((m : Int) + 1))) = _; rw [e2])
    · have c2 : (m : Int) + 1 < (n : Int) := by omega
      have c3 : ¬ (n : Int) ≤ (m : Int) + 1 := by omega
      clear hq
      go_enter Try.func51, Try.ntmps51
      go_wp2_with (go_at_call 54; refine HN.out.mono ?_; rintro e w1 ⟨rfl, hi1, hg1⟩; have HI1 := hid_in hi1; have HG1 := hid_in hg1; clear hi1 hg1)
      go_ret
      refine ⟨?_, HI1.out, HG1.out⟩
      rw [← HE.out, ← HX.out]
      first | rfl | (show Ending.returned (Value.int IntKind.i64 (wrap64 ((m : Int) + 1))) = _; rw [e2])
/-- a seat that is read -/
def sSeat (s : Sta) : Seat × Sta := (⟨((sCut 8 s : Nat) : Int), ((sCut 1099511627776 (sNum s).2 : Nat) : Int), (sInt (sNum (sNum s).2).2).1, (sFlag (sInt (sNum (sNum s).2).2).2).1, str (sText 8192 (sFlag (sInt (sNum (sNum s).2).2).2).2).1⟩, (sText 8192 (sFlag (sInt (sNum (sNum s).2).2).2).2).2)
set_option maxHeartbeats 2000000 in
set_option maxRecDepth 100000 in
theorem readSeat_s (w : World) (g B : Nat) (s : Sta) (hg : g < w.heap.size) (hB : B ≤ w.heap.size) (hi : In B w g s) : Calls Try.prog 52 #[.pointer (some ⟨g, 0, none⟩)] w fun r w' => r = .returned (.agg #[.int .i64 (sSeat s).1.client, .int .i64 (sSeat s).1.number, .int .i64 (sSeat s).1.at_, .bool (sSeat s).1.kept, .string (sSeat s).1.reply]) ∧ In B w' g (sSeat s).2 ∧ Grew w w' (· = g) := by
  obtain ⟨w1, HW1⟩ : ∃ w1, Hid (w.alloc (.cells #[.int .i64 0, .int .i64 0, .int .i64 0, .bool false, .string ⟨#[]⟩] 48) = w1) := ⟨_, hid_in rfl⟩
  have HB1 : Hid (Below w.heap.size w w1) := by rw [← HW1.out]; exact (Below.refl _ _).alloc (Nat.le_refl _) _
  have HR1 : Hid (Row w1 w.heap.size [.int .i64 0, .int .i64 0, .int .i64 0, .bool false, .string ⟨#[]⟩] 48) := by rw [← HW1.out]; exact Row.new w [.int .i64 0, .int .i64 0, .int .i64 0, .bool false, .string ⟨#[]⟩] 48
  have HI1 := hid_in (hi.below HB1.out)
  have HN1 := hid_in (fun W t (k : In B W g t) => number_s W g B t 8 (by omega) k)
  have HN2 := hid_in (fun W t (k : In B W g t) => number_s W g B t 1099511627776 (by omega) k)
  have HT := hid_in (fun W t (k : In B W g t) => Nd.text_s W g B t 8192 (by omega) k)
  simp only [show ((8 : Nat) : Int) = 8 from rfl] at HN1
  simp only [show ((1099511627776 : Nat) : Int) = 1099511627776 from rfl] at HN2
  simp only [show ((8192 : Nat) : Int) = 8192 from rfl] at HT
  have HF := hid_in (fun W t (k : In B W g t) => Nd.flag_s W g B t k)
  have HNT := hid_in (fun W t (k : In B W g t) => Nd.int_s W g B t k)
  have HG := hid_in hg
  have HBB := hid_in hB
  have HRG := hid_in (fun (W W' : World) vs (h : Row W w.heap.size vs 48) (k : Grew W W' (· = g)) => (show Row W' w.heap.size vs 48 from by
    have hl := h.lt
    unfold Row at *
    rw [k.block _ hl (by omega)]
    exact h))
  unfold sSeat
  simp only
  clear hi hg hB
  go_enter Try.func52, Try.ntmps52
  go_upto_region 1 with fail
  refine wp_world HW1.out ?_
  go_wp2_with (first | (go_at_call 57; refine (HT.out _ _ HI5.out).mono ?_; rintro e w6 ⟨rfl, hi6, hg6⟩; have HI6 := hid_in hi6; have HG6 := hid_in hg6; have HR6 := hid_in (HRG.out _ _ _ HR5.out hg6); have r0 := HR6.out.cell 0; have z0 := HR6.out.frozen 0; have r1 := HR6.out.cell 1; have z1 := HR6.out.frozen 1; have r2 := HR6.out.cell 2; have z2 := HR6.out.frozen 2; have r3 := HR6.out.cell 3; have z3 := HR6.out.frozen 3; have r4 := HR6.out.cell 4; have z4 := HR6.out.frozen 4; clear hi6 hg6) | (go_at_call 56; refine (HF.out _ _ HI4.out).mono ?_; rintro e w5 ⟨rfl, hi5, hg5⟩; have HI5 := hid_in hi5; have HG5 := hid_in hg5; have HR5 := hid_in (HRG.out _ _ _ HR4.out hg5); clear hi5 hg5) | (go_at_call 55; refine (HNT.out _ _ HI3.out).mono ?_; rintro e w4 ⟨rfl, hi4, hg4⟩; have HI4 := hid_in hi4; have HG4 := hid_in hg4; have HR4 := hid_in (HRG.out _ _ _ HR3.out hg4); clear hi4 hg4) | (go_at_call 51; refine (HN2.out _ _ HI2.out).mono ?_; rintro e w3 ⟨rfl, hi3, hg3⟩; have HI3 := hid_in hi3; have HG3 := hid_in hg3; have HR3 := hid_in (HRG.out _ _ _ HR2.out hg3); clear hi3 hg3) | (go_at_call 51; refine (HN1.out _ _ HI1.out).mono ?_; rintro e w2 ⟨rfl, hi2, hg2⟩; have HI2 := hid_in hi2; have HG2 := hid_in hg2; have HR2 := hid_in (HRG.out _ _ _ HR1.out hg2); clear hi2 hg2))
  have hG : Grew w w6 (· = g) := (((((⟨HB1.out.os, HB1.out.tape, HB1.out.output, HB1.out.size, fun k hk _ => HB1.out.block k hk⟩ : Grew w w1 (· = g)).trans HG2.out (fun _ _ h => h)).trans HG3.out (fun _ _ h => h)).trans HG4.out (fun _ _ h => h)).trans HG5.out (fun _ _ h => h)).trans HG6.out (fun _ _ h => h)
  have hS : ∀ (W : World) (j : Nat) (v : Value), Grew w W (· = g) → In B W g (sText 8192 (sFlag (sInt (sNum (sNum s).2).2).2).2).2 → Grew w (W.setCell ⟨w.heap.size, j, none⟩ v) (· = g) ∧ In B (W.setCell ⟨w.heap.size, j, none⟩ v) g (sText 8192 (sFlag (sInt (sNum (sNum s).2).2).2).2).2 := fun W j v h1 h2 => by
    have hg := grownBy_setCell W ⟨w.heap.size, j, none⟩ v
    refine ⟨⟨hg.os.trans h1.os, hg.tape.trans h1.tape, hg.output.trans h1.output, Nat.le_trans h1.size hg.size, fun k hk hn => ?_⟩, h2.grown hg HBB.out (by have := HG.out; show g ≠ w.heap.size; omega)⟩
    rw [hg.block k (Nat.lt_of_lt_of_le hk h1.size) (fun e => by have e2 : k = w.heap.size := Option.some.inj e; omega)]
    exact h1.block k hk hn
  obtain ⟨s0, i0⟩ := hS _ 0 (.int .i64 ((sCut 8 s : Nat) : Int)) hG HI6.out
  obtain ⟨s1, i1⟩ := hS _ 1 (.int .i64 ((sCut 1099511627776 (sNum s).2 : Nat) : Int)) s0 i0
  obtain ⟨s2, i2⟩ := hS _ 2 (.int .i64 (sInt (sNum (sNum s).2).2).1) s1 i1
  obtain ⟨s3, i3⟩ := hS _ 3 (.bool (sFlag (sInt (sNum (sNum s).2).2).2).1) s2 i2
  obtain ⟨s4, i4⟩ := hS _ 4 (.string (str (sText 8192 (sFlag (sInt (sNum (sNum s).2).2).2).2).1)) s3 i3
  exact post_Row 2 48 rfl w.heap.size rfl 48 [.int .i64 ((sCut 8 s : Nat) : Int), .int .i64 ((sCut 1099511627776 (sNum s).2 : Nat) : Int), .int .i64 (sInt (sNum (sNum s).2).2).1, .bool (sFlag (sInt (sNum (sNum s).2).2).2).1, .string (str (sText 8192 (sFlag (sInt (sNum (sNum s).2).2).2).2).1)] (((((HR6.out.set_same 0 _).set_same 1 _).set_same 2 _).set_same 3 _).set_same 4 _) _ Try.underlying48 rfl 5 size48 rfl rfl ⟨rfl, i4, s4⟩
end Go.Proofs.Ytiijlnlkhpneaaa.Se
