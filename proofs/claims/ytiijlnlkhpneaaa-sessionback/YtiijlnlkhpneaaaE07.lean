/-
  Lists of seats in memory; a row of seats of the call's own, and what is put behind it. List. Make, isClient, isNumber, Look, keptBytes, oldest.
-/
import Derived.OwnWalk
import Derived.Laws.Tables
import Derived.Laws.CopyOwn
import Derived.Deep.RegionLaw
import Derived.Deep.DrawnRows
import Derived.Test.YtiijlnlkhpneaaaE00
import Derived.Test.YtiijlnlkhpneaaaE01
import Derived.Test.YtiijlnlkhpneaaaE02
import Derived.Test.YtiijlnlkhpneaaaE03
import Derived.Test.YtiijlnlkhpneaaaE04
import Derived.Test.YtiijlnlkhpneaaaE05
import Derived.Test.YtiijlnlkhpneaaaE06
namespace Go.Proofs.Ytiijlnlkhpneaaa.Se
open Go.RowKit
open Nd (Row wp_world post_Row grownBy_setCell below_of_grown)
theorem tcells_one (fs : List Seat) : ∀ u ∈ tcells fs, u.oneCell' = true := by
  intro u hu
  obtain ⟨f, _, h⟩ := List.mem_flatMap.1 hu
  simp [Seat.cells] at h
  rcases h with rfl | rfl | rfl | rfl | rfl <;> rfl
/-- a value that reads as files -/
def Sls (w : World) (v : Value) (fs : List Seat) : Prop := ∃ p cap b o, v = .slice p fs.length cap ∧ fs.length ≤ cap ∧ cap ≤ 9223372036854775807 ∧ (fs ≠ [] → p = some ⟨b, o, none⟩ ∧ b < w.heap.size) ∧ (∀ j u, (tcells fs)[j]? = some u → w.cell? ⟨b, o + j, none⟩ = some u) ∧ (p = none → fs = [] ∧ cap = 0)
theorem Sls.below {w w' : World} {v : Value} {fs : List Seat} (h : Sls w v fs) (hb : Below w.heap.size w w') : Sls w' v fs := by
  obtain ⟨p, cap, b, o, h1, h2, h3, h4, h5, h6⟩ := h
  refine ⟨p, cap, b, o, h1, h2, h3, fun hn => ⟨(h4 hn).1, Nat.lt_of_lt_of_le (h4 hn).2 hb.size⟩, fun j u hj => ?_, h6⟩
  have hne : fs ≠ [] := by rintro rfl; simp [tcells] at hj
  rw [hb.cell (p := ⟨b, o + j, none⟩) (h4 hne).2]
  exact h5 j u hj
theorem Sls.form {w : World} {v : Value} {fs : List Seat} (h : Sls w v fs) : ∃ p cap, v = .slice p fs.length cap := by
  obtain ⟨p, cap, _, _, h1, _⟩ := h
  exact ⟨p, cap, h1⟩
/-- a row of files of the call's own -/
def SO (w : World) (B : Nat) (v : Value) (fs : List Seat) : Prop := w.ownsRow B 48 5 v fs.length (tcells fs)
theorem SO.below {w w' : World} {B : Nat} {v : Value} {fs : List Seat} (h : SO w B v fs) (hb : Below w.heap.size w w') : SO w' B v fs := Nd.own_belowK h hb
theorem SO.sls {w : World} {B : Nat} {v : Value} {fs : List Seat} (h : SO w B v fs) : Sls w v fs := by
  obtain ⟨_, ⟨rfl, h0⟩ | ⟨g, cap, cur, rfl, hB, hh, hn, hm, hs, ht⟩⟩ := h
  · obtain rfl := List.length_eq_zero_iff.1 h0
    exact ⟨none, 0, 0, 0, rfl, by simp, by omega, fun h => absurd rfl h, fun j u h => by simp [tcells] at h, fun _ => ⟨rfl, rfl⟩⟩
  · have hlt : g < w.heap.size := (Array.getElem?_eq_some_iff.1 hh).1
    refine ⟨_, cap, g, 0, rfl, hn, by unfold maxLen at hm; omega, fun _ => ⟨rfl, hlt⟩, fun j u hj => ?_, fun e => by cases e⟩
    have hjl : j < fs.length * 5 := by rw [← tcells_len]; exact (List.getElem?_eq_some_iff.1 hj).1
    have ht2 : (cur.toList.take (fs.length * 5))[j]? = (tcells fs)[j]? := by rw [ht]
    rw [List.getElem?_take, if_pos hjl, hj, Array.getElem?_toList] at ht2
    rw [Nat.zero_add, cell_of_row w g j _ _ (0, 0) hh, ht2]
theorem info48h : ∃ i z, Hid (Try.prog.info? 48 = some i) ∧ Hid (i.size = 5) ∧ Hid (i.bytes = 48) ∧ Hid (i.zero = some z) ∧ Hid (z.cells.size = 5) := by
  have h : (Try.prog.info? 48).map (fun i => (i.size, i.bytes, i.zero.map (·.cells.size))) = some (5, 48, some 5) := by kernel_rfl
  cases hi : Try.prog.info? 48 with
  | none => rw [hi] at h; cases h
  | some i =>
    rw [hi] at h
    simp only [Option.map_some, Option.some.injEq, Prod.mk.injEq] at h
    obtain ⟨h1, h2, h3⟩ := h
    cases hz : i.zero with
    | none => rw [hz] at h3; cases h3
    | some z => rw [hz] at h3; exact ⟨i, z, rfl, h1, h2, hz, Option.some.inj h3⟩
/-- files put behind a row of the call's own -/
theorem wpList_app48 {ops : Array Oper} {rest : List Oper} {o : Oper} {a : Act} {w : World} {Q : Exit → Act → World → Prop} (B : Nat) (hgd : o.guard = none) (s x : Operand) (ho : o.op = .call { callee := .builtin .append, args := #[s, x], argTypes := #[30, 30] })
    (v : Value) (xs ys : List Seat) (hs : a.eval s = v) (hown : SO w B v xs) (sv : Value) (hx : a.eval x = sv) (hsv : Sls w sv ys) (hlen : xs.length + ys.length ≤ 1000000) (hB : B ≤ w.heap.size)
    (h : ∀ v' w', SO w' B v' (xs ++ ys) → w.grownBy w' v.ownBlock → wpList Try.prog ops Q rest (a.put o.dst v') w') : wpList Try.prog ops Q (o :: rest) a w := by
  obtain ⟨p, cap, b, of, rfl, h1, h2, h3, h4, h5⟩ := hsv
  obtain ⟨i, z, hi, hz1, hz2, hz3, hz4⟩ := info48h
  rcases p with _ | ad
  · obtain ⟨rfl, rfl⟩ := h5 rfl
    refine wpList_append_own_none hgd s x 30 ho B 48 i 5 Try.underlying30 hi.out v xs.length (tcells xs) hs hown hx ?_
    exact h v w (by simpa using hown) ⟨rfl, rfl, rfl, Nat.le_refl _, fun _ _ _ => rfl⟩
  · refine wpList_append_own w hgd s x 30 ho B 48 i z 5 48 Try.underlying30 hi.out hz3.out hz1.out hz2.out hz4.out (by decide) v xs.length (tcells xs) hs hown ad ys.length cap (tcells ys) hx (tcells_len ys) (fun j u hj => ?_) (tcells_one ys) (by unfold maxLen; omega) (by omega) hB ?_
    · have hne : ys ≠ [] := by rintro rfl; simp [tcells] at hj
      obtain rfl := Option.some.inj (h3 hne).1
      rw [Addr.add_mid]
      exact h4 j u hj
    · intro v' w' h6 h7 _
      refine h v' w' ?_ h7
      unfold SO
      rw [List.length_append, show tcells (xs ++ ys) = tcells xs ++ tcells ys by simp [tcells]]
      exact h6
theorem SO.nil (w : World) (B : Nat) : SO w B (.slice none 0 0) [] := World.ownsRow_nil _ _ _ _
theorem SO.step {w w' a : World} {B : Nat} {v : Value} {fs : List Seat} (h : SO w B v fs) (hb : Below B a w) (hB : B ≤ w.heap.size) (hg : w.grownBy w' v.ownBlock) : Below B a w' :=
  hb.grown hg hB (fun k e => (Nd.own_geK h k e).1)
theorem sls_one (w : World) (s : Seat) : Sls (w.alloc (.cells #[.int .i64 s.client, .int .i64 s.number, .int .i64 s.at_, .bool s.kept, .string s.reply] 48)) (.slice (some ⟨w.heap.size, 0, none⟩) 1 1) [s] := by
  have hr := Row.new w [.int .i64 s.client, .int .i64 s.number, .int .i64 s.at_, .bool s.kept, .string s.reply] 48
  refine ⟨_, 1, w.heap.size, 0, rfl, by simp, by omega, fun _ => ⟨rfl, by simp⟩, fun j u hj => ?_, fun e => by cases e⟩
  rw [Nat.zero_add, hr.cell]
  simpa [tcells, Seat.cells] using hj
theorem Sls.at_ {w : World} {v : Value} {fs : List Seat} (h : Sls w v fs) : ∃ p c, v = .slice p fs.length c ∧ fs.length ≤ 9223372036854775807 ∧ (fs ≠ [] → ∃ b o, p = some ⟨b, o, none⟩ ∧ ∀ W, Below w.heap.size w W → ∀ (i : Nat) s, fs[i]? = some s → W.cell? ⟨b, o + i * 5, none⟩ = some (.int .i64 s.client) ∧ W.cell? ⟨b, o + i * 5 + 1, none⟩ = some (.int .i64 s.number) ∧ W.cell? ⟨b, o + i * 5 + 2, none⟩ = some (.int .i64 s.at_) ∧ W.cell? ⟨b, o + i * 5 + 3, none⟩ = some (.bool s.kept) ∧ W.cell? ⟨b, o + i * 5 + 4, none⟩ = some (.string s.reply)) := by
  obtain ⟨p, cap, b, o, h1, h2, h3, h4, h5, h6⟩ := h
  refine ⟨p, cap, h1, by omega, fun hne => ⟨b, o, (h4 hne).1, fun W hb i s hi => ?_⟩⟩
  have hc : ∀ j, W.cell? ⟨b, j, none⟩ = w.cell? ⟨b, j, none⟩ := fun j => hb.cell (p := ⟨b, j, none⟩) (h4 hne).2
  have hr : ∀ (j : Nat) u, s.cells[j]? = some u → w.cell? ⟨b, o + i * 5 + j, none⟩ = some u := fun j u hj => by
    have h7 := h5 (i * 5 + j) u (tcells_at hi j u hj)
    rw [← Nat.add_assoc] at h7
    exact h7
  simp only [hc]
  exact ⟨hr 0 _ rfl, hr 1 _ rfl, hr 2 _ rfl, hr 3 _ rfl, hr 4 _ rfl⟩
end Go.Proofs.Ytiijlnlkhpneaaa.Se
namespace Go.Proofs.Ytiijlnlkhpneaaa.Se
open Go.RowKit
open Nd (Row wp_world post_Row grownBy_setCell below_of_grown)
def seated (s : Seat) : Bool := s.number != 0
theorem filter_yes {es : List Seat} {f : Seat → Bool} {i : Nat} {e : Seat} (h : es[i]? = some e) (hf : f e = true) : (es.take (i + 1)).filter f = (es.take i).filter f ++ [e] := by
  rw [List.take_add_one, h, List.filter_append]
  simp [hf]
theorem filter_no {es : List Seat} {f : Seat → Bool} {i : Nat} {e : Seat} (h : es[i]? = some e) (hf : f e = false) : (es.take (i + 1)).filter f = (es.take i).filter f := by
  rw [List.take_add_one, h, List.filter_append]
  simp [hf]
theorem list_nil (w : World) : Calls Try.prog 13 #[.pointer none] w fun e w' => e = .returned (.slice none 0 0) ∧ w' = w := by
  go_enter Try.func13, Try.ntmps13
  go_wp2
  go_ret
  exact ⟨rfl, rfl⟩
set_option maxHeartbeats 2000000 in
set_option maxRecDepth 100000 in
theorem list_any {w : World} {g : Nat} {room : Int} {T : List Seat} (h : Tab w g room T) :
    Calls Try.prog 13 #[.pointer (some ⟨g, 0, none⟩)] w fun e w' => ∃ v, e = .returned v ∧ SO w' w.heap.size v (T.filter seated) ∧ Below w.heap.size w w' := by
  have HRG := h.range
  have HFT := h.fits
  have HL := hid_in h.len
  have HIX := hid_in (fun i s (hi : T[i]? = some s) W => index59 h.len hi W)
  generalize tcells T = A at *
  clear h
  go_enter Try.func13, Try.ntmps13
  go_wp2_with (first | (refine wpList_load_mid rfl 59 _ rfl g 1 rfl A _ HRG.out Try.underlying59 rfl HFT.out ?_))
  go_loopw [3, 12] (fun vo vi W => ∃ i : Nat, i ≤ 8 ∧ vi = .int .i64 (i : Int) ∧ Hid (SO W w.heap.size vo ((T.take i).filter seated)) ∧ Hid (Below w.heap.size w W)) (fun _ vi _ => 8 - (intOf vi).toNat)
  case atStart => exact ⟨0, by omega, rfl, SO.nil _ _, Below.refl _ _⟩
  case round =>
    obtain ⟨i, hi, rfl, hso, hbr⟩ := hrel
    by_cases hlt : i < 8
    · obtain ⟨s, hs⟩ : ∃ s, T[i]? = some s := ⟨_, List.getElem?_eq_getElem (by rw [HL.out]; exact hlt)⟩
      have hix := HIX.out i s hs
      have HTY := hid_in (fun k => filter_yes (f := seated) hs k)
      have HTN := hid_in (fun k => filter_no (f := seated) hs k)
      have hlt2 : (i : Int) < 8 := by omega
      have HLT := hid_in hlt
      have HLE : Hid (((T.take i).filter seated).length ≤ 8) := hid_in (Nat.le_trans (List.length_filter_le _ _) (by simp; omega))
      generalize (T.take i).filter seated = X at *
      obtain ⟨sc, sn, sa, sk, sr⟩ := s
      simp only [Seat.cells] at hix
      clear hs hlt
      by_cases h0 : sn = 0
      · subst h0
        have HTK := hid_in (HTN.out rfl)
        go_wp2_with fail
        refine ⟨⟨i + 1, by have := HLT.out; omega, by go_num, ?_, hbr.out.alloc hbr.out.size _⟩, by have := HLT.out; simp [intOf]; omega⟩
        rw [HTK.out]
        exact hso.out.below ((Below.refl _ _).alloc (Nat.le_refl _) _)
      · have h1 : (sn != 0) = true := by simpa using h0
        have HTK := hid_in (HTY.out h1)
        obtain ⟨w1, HW1⟩ : ∃ w1, Hid (wr.alloc (.cells #[.int .i64 sc, .int .i64 sn, .int .i64 sa, .bool sk, .string sr] 48) = w1) := ⟨_, hid_in rfl⟩
        have HB1 : Hid (Below wr.heap.size wr w1) := by rw [← HW1.out]; exact (Below.refl _ _).alloc (Nat.le_refl _) _
        have HR1 : Hid (Row w1 wr.heap.size [.int .i64 sc, .int .i64 sn, .int .i64 sa, .bool sk, .string sr] 48) := by rw [← HW1.out]; exact Row.new wr [.int .i64 sc, .int .i64 sn, .int .i64 sa, .bool sk, .string sr] 48
        have HBW := hid_in (hbr.out.trans (HB1.out.mono hbr.out.size))
        have a0 : w1.cell? ⟨wr.heap.size, 0, none⟩ = some (.int .i64 sc) := HR1.out.cell 0
        have a1 : w1.cell? ⟨wr.heap.size, 1, none⟩ = some (.int .i64 sn) := HR1.out.cell 1
        have a2 : w1.cell? ⟨wr.heap.size, 2, none⟩ = some (.int .i64 sa) := HR1.out.cell 2
        have a3 : w1.cell? ⟨wr.heap.size, 3, none⟩ = some (.bool sk) := HR1.out.cell 3
        have a4 : w1.cell? ⟨wr.heap.size, 4, none⟩ = some (.string sr) := HR1.out.cell 4
        have HO1 := hid_in (hso.out.below HB1.out)
        have HB2 : Hid (Below w1.heap.size w1 (w1.alloc (.cells #[.int .i64 sc, .int .i64 sn, .int .i64 sa, .bool sk, .string sr] 48))) := hid_in ((Below.refl _ _).alloc (Nat.le_refl _) _)
        have HO2 := hid_in (HO1.out.below HB2.out)
        have HF2 := hid_in (sls_one w1 ⟨sc, sn, sa, sk, sr⟩)
        simp only at HF2
        have HBV := hid_in (HBW.out.trans (HB2.out.mono HBW.out.size))
        clear h0
        go_upto_region 7 with fail
        refine wp_world HW1.out ?_
        go_wp2_with (first | (at_builtin; refine wpList_app48 w.heap.size rfl _ _ rfl _ _ [⟨sc, sn, sa, sk, sr⟩] rfl HO2.out _ rfl HF2.out (by have := HLE.out; simp only [List.length_cons, List.length_nil]; omega) HBV.out.size ?_; intro v4 w4 ho4 hg4; have HB4 := hid_in (HO2.out.step HBV.out HBV.out.size hg4); have HO4 : Hid (SO w4 w.heap.size v4 (X ++ [⟨sc, sn, sa, sk, sr⟩])) := hid_in ho4; clear ho4 hg4))
        refine ⟨⟨i + 1, by have := HLT.out; omega, by go_num, ?_, HB4.out⟩, by have := HLT.out; simp [intOf]; omega⟩
        rw [HTK.out]
        exact HO4.out
    · obtain rfl : i = 8 := by omega
      have HX : Hid (T.take 8 = T) := hid_in (by rw [← HL.out, List.take_length])
      rw [HX.out] at hso
      clear hlt hi
      go_wp2_with fail
      go_ret
      exact ⟨_, rfl, hso.out, hbr.out⟩
end Go.Proofs.Ytiijlnlkhpneaaa.Se
namespace Go.Proofs.Ytiijlnlkhpneaaa.Se
open Go.RowKit
open Nd (Row wp_world post_Row grownBy_setCell below_of_grown wpList_store_new wpList_store_Row)
def roomOk (r : Int) : Prop := 0 ≤ r ∧ r ≤ 8192
def noTab : List Seat := List.replicate 8 noSeat
set_option maxHeartbeats 1000000 in
set_option maxRecDepth 100000 in
theorem make_ok (r : Int) (w : World) (h : roomOk r) : Calls Try.prog 10 #[.int .i64 r] w fun e w' => ∃ g, e = .returned (.tuple #[.pointer (some ⟨g, 0, none⟩), .int .i64 0]) ∧ Tab w' g r noTab ∧ Below w.heap.size w w' ∧ w.heap.size ≤ g := by
  obtain ⟨h1, h2⟩ := h
  have k1 : ¬ r < 0 := by omega
  have k2 : ¬ 8192 < r := by omega
  go_enter Try.func10, Try.ntmps10
  go_wp2
  go_ret2
  refine ⟨w.heap.size, rfl, ⟨Row.new w (.int .i64 r :: tcells noTab) 61, rfl⟩, (Below.refl _ _).alloc (Nat.le_refl _) _, Nat.le_refl _⟩
set_option maxHeartbeats 1000000 in
theorem make_bad (r : Int) (w : World) (h : ¬ roomOk r) : Calls Try.prog 10 #[.int .i64 r] w fun e w' => e = .returned (.tuple #[.pointer none, .int .i64 1]) ∧ w' = w := by
  unfold roomOk at h
  by_cases k1 : r < 0
  · clear h
    go_enter Try.func10, Try.ntmps10
    go_wp2
    go_ret2
    exact ⟨rfl, rfl⟩
  · have k2 : 8192 < r := by omega
    clear h
    go_enter Try.func10, Try.ntmps10
    go_wp2
    go_ret2
    exact ⟨rfl, rfl⟩
def isC (c : Int) : Bool := decide (1 ≤ c ∧ c ≤ 8)
def isN (n : Int) : Bool := decide (1 ≤ n ∧ n ≤ 1099511627776)
theorem isClient_any (c : Int) (w : World) : Calls Try.prog 26 #[.int .i64 c] w fun e w' => e = .returned (.bool (isC c)) ∧ w' = w := by
  unfold isC
  by_cases h1 : 1 ≤ c
  · by_cases h2 : c ≤ 8
    · rw [decide_eq_true ⟨h1, h2⟩]
      go_enter Try.func26, Try.ntmps26
      go_wp2
      go_ret
      exact ⟨rfl, rfl⟩
    · rw [decide_eq_false (fun h => h2 h.2)]
      go_enter Try.func26, Try.ntmps26
      go_wp2
      go_ret
      exact ⟨rfl, rfl⟩
  · rw [decide_eq_false (fun h => h1 h.1)]
    go_enter Try.func26, Try.ntmps26
    go_wp2
    go_ret
    exact ⟨rfl, rfl⟩
theorem isNumber_any (c : Int) (w : World) : Calls Try.prog 27 #[.int .i64 c] w fun e w' => e = .returned (.bool (isN c)) ∧ w' = w := by
  unfold isN
  by_cases h1 : 1 ≤ c
  · by_cases h2 : c ≤ 1099511627776
    · rw [decide_eq_true ⟨h1, h2⟩]
      go_enter Try.func27, Try.ntmps27
      go_wp2
      go_ret
      exact ⟨rfl, rfl⟩
    · rw [decide_eq_false (fun h => h2 h.2)]
      go_enter Try.func27, Try.ntmps27
      go_wp2
      go_ret
      exact ⟨rfl, rfl⟩
  · rw [decide_eq_false (fun h => h1 h.1)]
    go_enter Try.func27, Try.ntmps27
    go_wp2
    go_ret
    exact ⟨rfl, rfl⟩
end Go.Proofs.Ytiijlnlkhpneaaa.Se
