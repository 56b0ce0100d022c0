/-
  Numbers in memory: values that read as numbers; a row of numbers of the call's own, and what is put behind it. Who leads a view, how many are most, how long a replica waits, the next view that one leads. How two votes are held against each other. The order of votes. The foremost of votes.
-/
import Derived.Lib.SlBytesConst
import Derived.Lib.AppendZeros
import Derived.Deep.DrawnRows
import Derived.Deep.RegionLaw
import Derived.OwnWalk
import Derived.Laws.Tables
import Derived.Laws.CopyOwn
import Derived.Laws.StructEq
import Derived.Deep.RegionHeld3
import Derived.Deep.LoopGhost
import Derived.Test.YtpmakigmhcjegaaG00
namespace Go.Proofs.Ytpmakigmhcjegaa.Vw
open Go.RowKit
open Nd (Row wp_world u8v Grew Sl hid_in)
def iv (n : Int) : Value := .int .i64 n
/-- a value that reads as numbers -/
def Ks (w : World) (v : Value) (ks : List Int) : Prop := ∃ p cap b o, v = .slice p ks.length cap ∧ ks.length ≤ cap ∧ cap ≤ 9223372036854775807 ∧ (ks ≠ [] → p = some ⟨b, o, none⟩ ∧ b < w.heap.size) ∧ (∀ j u, ks[j]? = some u → w.cell? ⟨b, o + j, none⟩ = some (.int .i64 u)) ∧ (p = none → ks = [] ∧ cap = 0)
theorem Ks.keep {w w' : World} {S : Nat → Prop} {v : Value} {ks : List Int} (h : Ks w v ks) (hg : Grew w w' S) (hn : ∀ b, v.ownBlock = some b → ¬ S b) : Ks w' v ks := by
  obtain ⟨p, cap, b, o, rfl, h2, h3, h4, h5, h6⟩ := h
  refine ⟨p, cap, b, o, rfl, h2, h3, fun he => ⟨(h4 he).1, Nat.lt_of_lt_of_le (h4 he).2 hg.size⟩, fun j u hj => ?_, h6⟩
  have hne : ks ≠ [] := by rintro rfl; simp at hj
  obtain ⟨rfl, hb⟩ := h4 hne
  rw [World.cell?_of_block (a := ⟨b, o + j, none⟩) (hg.block b hb (hn b rfl))]
  exact h5 j u hj
theorem Ks.below {w w' : World} {v : Value} {ks : List Int} (h : Ks w v ks) (hb : Below w.heap.size w w') : Ks w' v ks :=
  h.keep (Grew.of_below (fun _ => False) hb) (fun _ _ h => h)
theorem Ks.form {w : World} {v : Value} {ks : List Int} (h : Ks w v ks) : ∃ p cap, v = .slice p ks.length cap ∧ ks.length ≤ cap ∧ cap ≤ 9223372036854775807 := by
  obtain ⟨p, cap, _, _, h1, h2, h3, _⟩ := h
  exact ⟨p, cap, h1, h2, h3⟩
theorem Ks.nil (w : World) : Ks w (.slice none 0 0) [] := ⟨none, 0, 0, 0, rfl, Nat.le_refl _, by decide, fun h => absurd rfl h, fun j u h => by simp at h, fun _ => ⟨rfl, rfl⟩⟩
theorem Ks.at {w : World} {n c : Nat} {p : Option Addr} {ks : List Int} (h : Ks w (.slice p n c) ks) {i : Nat} {e : Int} (hi : ks[i]? = some e) : ∃ b o, p = some ⟨b, o, none⟩ ∧ w.cell? ⟨b, o + i, none⟩ = some (.int .i64 e) := by
  obtain ⟨p', cap, b, o, h1, h2, h3, h4, h5, h6⟩ := h
  simp only [Value.slice.injEq] at h1
  obtain ⟨rfl, rfl, rfl⟩ := h1
  have hne : ks ≠ [] := by rintro rfl; simp at hi
  exact ⟨b, o, (h4 hne).1, h5 _ _ hi⟩
/-- a row of numbers of the call's own -/
def KO (w : World) (B : Nat) (v : Value) (ks : List Int) : Prop := w.ownsRow B 2 1 v ks.length (ks.map iv)
theorem KO.below {w w' : World} {B : Nat} {v : Value} {ks : List Int} (h : KO w B v ks) (hb : Below w.heap.size w w') : KO w' B v ks := Nd.own_belowK h hb
theorem KO.nil (w : World) (B : Nat) : KO w B (.slice none 0 0) [] := ⟨rfl, .inl ⟨rfl, rfl⟩⟩
theorem KO.ks {w : World} {B : Nat} {v : Value} {ks : List Int} (h : KO w B v ks) : Ks w v ks := by
  obtain ⟨_, ⟨rfl, h0⟩ | ⟨g, cap, cur, rfl, hB, hh, hn, hm, hs, ht⟩⟩ := h
  · obtain rfl := List.length_eq_zero_iff.1 h0
    exact ⟨none, 0, 0, 0, rfl, by simp, by omega, fun h => absurd rfl h, fun j u h => by simp at h, fun _ => ⟨rfl, rfl⟩⟩
  · have hlt : g < w.heap.size := (Array.getElem?_eq_some_iff.1 hh).1
    refine ⟨_, cap, g, 0, rfl, hn, by unfold maxLen at hm; omega, fun _ => ⟨rfl, hlt⟩, fun j u hj => ?_, fun e => by cases e⟩
    have hjl : j < ks.length * 1 := by have := (List.getElem?_eq_some_iff.1 hj).1; omega
    have ht2 : (cur.toList.take (ks.length * 1))[j]? = (ks.map iv)[j]? := by rw [ht]
    rw [List.getElem?_take, if_pos hjl, List.getElem?_map, hj, Array.getElem?_toList] at ht2
    rw [Nat.zero_add, cell_of_row w g j _ _ (0, 0) hh, ht2]
    rfl
theorem KO.lt {w : World} {B : Nat} {v : Value} {ks : List Int} (h : KO w B v ks) : ∀ k, v.ownBlock = some k → B ≤ k ∧ k < w.heap.size := World.ownsRow.lt h
theorem VO.lt {w : World} {B : Nat} {v : Value} {es : List Vt} (h : EO w B v es) : ∀ k, v.ownBlock = some k → B ≤ k ∧ k < w.heap.size := World.ownsRow.lt h
theorem info2h : ∃ i z, Hid (Try.prog.info? 2 = some i) ∧ Hid (i.size = 1) ∧ Hid (i.bytes = 8) ∧ Hid (i.zero = some z) ∧ Hid (z.cells.size = 1) := by
  have h : (Try.prog.info? 2).map (fun i => (i.size, i.bytes, i.zero.map (·.cells.size))) = some (1, 8, some 1) := by kernel_rfl
  cases hi : Try.prog.info? 2 with
  | none => rw [hi] at h; cases h
  | some i =>
    rw [hi] at h
    simp only [Option.map_some, Option.some.injEq, Prod.mk.injEq] at h
    obtain ⟨h1, h2, h3⟩ := h
    cases hz : i.zero with
    | none => rw [hz] at h3; cases h3
    | some z => rw [hz] at h3; exact ⟨i, z, rfl, h1, h2, hz, Option.some.inj h3⟩
theorem iv_one (ks : List Int) : ∀ u ∈ ks.map iv, u.oneCell' = true := by
  intro u hu
  obtain ⟨f, _, rfl⟩ := List.mem_map.1 hu
  rfl
/-- numbers put behind a row of the call's own -/
theorem wpList_appK {ops : Array Oper} {rest : List Oper} {o : Oper} {a : Act} {w : World} {Q : Exit → Act → World → Prop} (B : Nat) (hgd : o.guard = none) (s x : Operand) (ho : o.op = .call { callee := .builtin .append, args := #[s, x], argTypes := #[34, 34] })
    (v : Value) (xs ys : List Int) (hs : a.eval s = v) (hown : KO w B v xs) (sv : Value) (hx : a.eval x = sv) (hsv : Ks w sv ys) (hlen : xs.length + ys.length ≤ 17592186044416) (hB : B ≤ w.heap.size)
    (h : ∀ v' w', KO w' B v' (xs ++ ys) → w.grownBy w' v.ownBlock → wpList Try.prog ops Q rest (a.put o.dst v') w') : wpList Try.prog ops Q (o :: rest) a w := by
  obtain ⟨p, cap, b, of, rfl, h1, h2, h3, h4, h5⟩ := hsv
  obtain ⟨i, z, hi, hz1, hz2, hz3, hz4⟩ := info2h
  rcases p with _ | ad
  · obtain ⟨rfl, rfl⟩ := h5 rfl
    refine wpList_append_own_none hgd s x 34 ho B 2 i 1 Try.underlying34 hi.out v xs.length (xs.map iv) hs hown hx ?_
    exact h v w (by simpa using hown) ⟨rfl, rfl, rfl, Nat.le_refl _, fun _ _ _ => rfl⟩
  · refine wpList_append_own w hgd s x 34 ho B 2 i z 1 8 Try.underlying34 hi.out hz3.out hz1.out hz2.out hz4.out (by decide) v xs.length (xs.map iv) hs hown ad ys.length cap (ys.map iv) hx (by simp) (fun j u hj => ?_) (iv_one ys) (by unfold maxLen; omega) (by omega) hB ?_
    · have hne : ys ≠ [] := by rintro rfl; simp at hj
      obtain rfl := Option.some.inj (h3 hne).1
      rw [Addr.add_mid]
      rw [List.getElem?_map] at hj
      cases hy : ys[j]? with
      | none => rw [hy] at hj; cases hj
      | some y => rw [hy] at hj; cases hj; exact h4 j y hy
    · intro v' w' h6 h7 _
      refine h v' w' ?_ h7
      unfold KO
      rw [List.length_append, List.map_append]
      exact h6
theorem nil34_yes (w : World) : (binOp .eql 34 (.slice none 0 0) (.slice none 0 0)).run Try.prog w = .ok (.bool true) w := by kernel_rfl
theorem nil34_no (ad : Addr) (n c : Nat) (w : World) : (binOp .eql 34 (.slice (some ad) n c) (.slice none 0 0)).run Try.prog w = .ok (.bool false) w := by kernel_rfl
theorem ko_empty (w : World) : ∃ W, Hid (w.alloc (.cells #[] 2) = W) ∧ Hid (KO W w.heap.size (.slice (some ⟨w.heap.size, 0, none⟩) 0 0) []) ∧ Hid (Below w.heap.size w W) :=
  ⟨_, rfl, ⟨rfl, .inr ⟨w.heap.size, 0, _, rfl, Nat.le_refl _, (MapKept.heap_alloc w _).1, Nat.le_refl _, by unfold maxLen; omega, rfl, rfl⟩⟩, (Below.refl _ _).alloc (Nat.le_refl _) _⟩
/-- slices.Clone of numbers -/
theorem kclone_any (ks : List Int) (v : Value) (w : World) (hn : ks.length ≤ 17592186044416) (h : Ks w v ks) :
    Calls Try.prog 23 #[v] w fun e w' => ∃ v', e = .returned v' ∧ KO w' w.heap.size v' ks ∧ Below w.heap.size w w' := by
  obtain ⟨p, cap, rfl, hc1, hc2⟩ := h.form
  rcases p with _ | ad
  · obtain ⟨_, _, _, _, h1, _, _, _, _, h6⟩ := h
    injection h1 with h1 h2 h3
    obtain ⟨rfl, h7⟩ := h6 h1.symm
    subst h3
    subst h7
    clear h1 h2 h6
    simp only [List.length_nil]
    have hn1 := nil34_yes w
    go_enter Try.func23, Try.ntmps23
    go_wp2
    go_ret
    exact ⟨_, rfl, KO.nil _ _, Below.refl _ _⟩
  · obtain ⟨W1, HW1, HN1, HB1⟩ := ko_empty w
    have HE := hid_in (h.below HB1.out)
    have hn1 := nil34_no ad ks.length cap w
    have hw := HW1.out
    subst hw
    clear h HW1
    go_enter Try.func23, Try.ntmps23
    go_wp2_with (first | (at_builtin; refine wpList_appK w.heap.size rfl (.tmp 5) (.tmp 6) rfl (.slice (some ⟨w.heap.size, 0, none⟩) 0 0) [] ks rfl HN1.out _ rfl HE.out (by simp; omega) HB1.out.size ?_; intro v2 w2 hn2 hg2; have HB2 := hid_in (HB1.out.grown hg2 HB1.out.size (fun k e => (HN1.out.lt k e).1)); have HN2 := hid_in hn2; clear hn2 hg2))
    go_ret
    exact ⟨_, rfl, HN2.out, HB2.out⟩
end Go.Proofs.Ytpmakigmhcjegaa.Vw
namespace Go.Proofs.Ytpmakigmhcjegaa.Vw
open Go.RowKit
open Nd (Row wp_world u8v Grew Sl hid_in)
def prim (v n : Int) : Int := if v < 0 ∨ n < 1 then -1 else v % n
def quo (n : Int) : Int := if n < 1 then 0 else n / 2 + 1
def wai (n : Int) : Int := if n < 0 ∨ 7 ≤ n then 0 else 8 + 2 * n
theorem primary_any (v n : Int) (hv : ir v) (hn : ir n) (w : World) : Calls Try.prog 9 #[.int .i64 v, .int .i64 n] w fun e w' => e = .returned (.int .i64 (prim v n)) ∧ w' = w := by
  unfold prim
  obtain ⟨v1, v2⟩ := hv
  obtain ⟨n1, n2⟩ := hn
  by_cases h1 : v < 0
  · rw [if_pos (.inl h1)]
    go_enter Try.func9, Try.ntmps9
    go_wp2
    go_ret
    exact ⟨rfl, rfl⟩
  · by_cases h2 : n < 1
    · rw [if_pos (.inr h2)]
      go_enter Try.func9, Try.ntmps9
      go_wp2
      go_ret
      exact ⟨rfl, rfl⟩
    · rw [if_neg (by omega)]
      have h3 : n ≠ 0 := by omega
      have e : v.tmod n = v % n := Int.tmod_eq_emod_of_nonneg (by omega)
      go_enter Try.func9, Try.ntmps9
      go_wp2
      go_ret
      exact ⟨rfl, rfl⟩
theorem quorum_any (n : Int) (hn : ir n) (w : World) : Calls Try.prog 11 #[.int .i64 n] w fun e w' => e = .returned (.int .i64 (quo n)) ∧ w' = w := by
  unfold quo
  obtain ⟨n1, n2⟩ := hn
  by_cases h2 : n < 1
  · rw [if_pos h2]
    go_enter Try.func11, Try.ntmps11
    go_wp2
    go_ret
    exact ⟨rfl, rfl⟩
  · rw [if_neg h2]
    have e : n.tdiv 2 = n / 2 := Int.tdiv_eq_ediv_of_nonneg (by omega)
    go_enter Try.func11, Try.ntmps11
    go_wp2
    go_ret
    exact ⟨rfl, rfl⟩
theorem wait_any (n : Int) (hn : ir n) (w : World) : Calls Try.prog 13 #[.int .i64 n] w fun e w' => e = .returned (.int .i64 (wai n)) ∧ w' = w := by
  unfold wai
  obtain ⟨n1, n2⟩ := hn
  by_cases h1 : n < 0
  · rw [if_pos (.inl h1)]
    go_enter Try.func13, Try.ntmps13
    go_wp2
    go_ret
    exact ⟨rfl, rfl⟩
  · by_cases h2 : 7 ≤ n
    · rw [if_pos (.inr h2)]
      go_enter Try.func13, Try.ntmps13
      go_wp2
      go_ret
      exact ⟨rfl, rfl⟩
    · rw [if_neg (by omega)]
      go_enter Try.func13, Try.ntmps13
      go_wp2
      go_ret
      exact ⟨rfl, rfl⟩
def ahd (v id n : Int) : Int := if id - prim v n ≤ 0 then id - prim v n + n else id - prim v n
def nxt (v id n : Int) : Int := if v < 0 ∨ id < 0 ∨ n ≤ id then -1 else if 1099511627776 - v < ahd v id n then -1 else v + ahd v id n
theorem prim_range {v n : Int} (h1 : 0 ≤ v) (h2 : 1 ≤ n) : prim v n = v % n ∧ 0 ≤ prim v n ∧ prim v n < n := by
  unfold prim
  rw [if_neg (by omega)]
  exact ⟨rfl, Int.emod_nonneg _ (by omega), Int.emod_lt_of_pos _ (by omega)⟩
theorem next_any (v id n : Int) (hv : ir v) (hi : ir id) (hn : ir n) (w : World) : Calls Try.prog 15 #[.int .i64 v, .int .i64 id, .int .i64 n] w fun e w' => e = .returned (.int .i64 (nxt v id n)) ∧ w' = w := by
  have HP := hid_in (primary_any v n hv hn)
  obtain ⟨v1, v2⟩ := hv
  obtain ⟨i1, i2⟩ := hi
  obtain ⟨n1, n2⟩ := hn
  unfold nxt
  by_cases h1 : v < 0
  · rw [if_pos (.inl h1)]
    clear HP
    go_enter Try.func15, Try.ntmps15
    go_wp2
    go_ret
    exact ⟨rfl, rfl⟩
  by_cases h2 : id < 0
  · rw [if_pos (.inr (.inl h2))]
    clear HP
    go_enter Try.func15, Try.ntmps15
    go_wp2
    go_ret
    exact ⟨rfl, rfl⟩
  by_cases h3 : n ≤ id
  · rw [if_pos (.inr (.inr h3))]
    clear HP
    go_enter Try.func15, Try.ntmps15
    go_wp2
    go_ret
    exact ⟨rfl, rfl⟩
  rw [if_neg (by omega)]
  unfold ahd
  obtain ⟨p1, p2⟩ := (prim_range (v := v) (n := n) (by omega) (by omega)).2
  generalize prim v n = p at *
  by_cases h4 : id - p ≤ 0
  · rw [if_pos h4]
    by_cases h5 : 1099511627776 - v < id - p + n
    · rw [if_pos h5]
      go_enter Try.func15, Try.ntmps15
      go_wp2_with (first | (go_at_call 9; refine (HP.out _).mono ?_; rintro e w2 ⟨rfl, rfl⟩))
      go_ret
      exact ⟨rfl, rfl⟩
    · rw [if_neg h5]
      go_enter Try.func15, Try.ntmps15
      go_wp2_with (first | (go_at_call 9; refine (HP.out _).mono ?_; rintro e w2 ⟨rfl, rfl⟩))
      go_ret
      exact ⟨rfl, rfl⟩
  · rw [if_neg h4]
    by_cases h5 : 1099511627776 - v < id - p
    · rw [if_pos h5]
      go_enter Try.func15, Try.ntmps15
      go_wp2_with (first | (go_at_call 9; refine (HP.out _).mono ?_; rintro e w2 ⟨rfl, rfl⟩))
      go_ret
      exact ⟨rfl, rfl⟩
    · rw [if_neg h5]
      go_enter Try.func15, Try.ntmps15
      go_wp2_with (first | (go_at_call 9; refine (HP.out _).mono ?_; rintro e w2 ⟨rfl, rfl⟩))
      go_ret
      exact ⟨rfl, rfl⟩
end Go.Proofs.Ytpmakigmhcjegaa.Vw
namespace Go.Proofs.Ytpmakigmhcjegaa.Vw
open Go.RowKit
open Nd (Row wp_world u8v Grew Sl hid_in)
def cmpI (a b : Int) : Int := if a < b then -1 else if b < a then 1 else 0
def orI (a b c : Int) : Int := if a ≠ 0 then a else if b ≠ 0 then b else c
/-- does the first come ahead of the second? -/
def ahead (a b : Vt) : Prop := b.n < a.n ∨ (a.n = b.n ∧ (b.l < a.l ∨ (a.l = b.l ∧ a.r < b.r)))
instance aheadDec (a b : Vt) : Decidable (ahead a b) := by unfold ahead; infer_instance
def ordI (a b : Vt) : Int := orI (cmpI b.n a.n) (cmpI b.l a.l) (cmpI a.r b.r)
theorem ordI_lt (a b : Vt) : ordI a b < 0 ↔ ahead a b := by
  unfold ordI orI cmpI ahead
  split <;> (repeat' split) <;> (first | omega | (constructor <;> intro h <;> omega))
theorem nan2 (a : Int) (w : World) : Calls Try.prog 30 #[.int .i64 a] w fun e w' => e = .returned (.bool false) ∧ w' = w := by
  go_enter Try.func30, Try.ntmps30
  go_wp2
  go_ret
  exact ⟨rfl, rfl⟩
theorem nan3 (a : Int) (w : World) : Calls Try.prog 31 #[.int .i64 a] w fun e w' => e = .returned (.bool false) ∧ w' = w := by
  go_enter Try.func31, Try.ntmps31
  go_wp2
  go_ret
  exact ⟨rfl, rfl⟩
theorem compare2 (a b : Int) (w : World) : Calls Try.prog 26 #[.int .i64 a, .int .i64 b] w fun e w' => e = .returned (.int .i64 (cmpI a b)) ∧ w' = w := by
  have HN := hid_in nan2
  unfold cmpI
  by_cases h1 : a < b
  · rw [if_pos h1]
    go_enter Try.func26, Try.ntmps26
    go_wp2_with (first | (go_at_call 30; refine (HN.out _ _).mono ?_; rintro e w2 ⟨rfl, rfl⟩))
    go_ret
    exact ⟨rfl, rfl⟩
  · rw [if_neg h1]
    by_cases h2 : b < a
    · rw [if_pos h2]
      go_enter Try.func26, Try.ntmps26
      go_wp2_with (first | (go_at_call 30; refine (HN.out _ _).mono ?_; rintro e w2 ⟨rfl, rfl⟩))
      go_ret
      exact ⟨rfl, rfl⟩
    · rw [if_neg h2]
      go_enter Try.func26, Try.ntmps26
      go_wp2_with (first | (go_at_call 30; refine (HN.out _ _).mono ?_; rintro e w2 ⟨rfl, rfl⟩))
      go_ret
      exact ⟨rfl, rfl⟩
theorem compare3 (a b : Int) (w : World) : Calls Try.prog 27 #[.int .i64 a, .int .i64 b] w fun e w' => e = .returned (.int .i64 (cmpI a b)) ∧ w' = w := by
  have HN := hid_in nan3
  unfold cmpI
  by_cases h1 : a < b
  · rw [if_pos h1]
    go_enter Try.func27, Try.ntmps27
    go_wp2_with (first | (go_at_call 31; refine (HN.out _ _).mono ?_; rintro e w2 ⟨rfl, rfl⟩))
    go_ret
    exact ⟨rfl, rfl⟩
  · rw [if_neg h1]
    by_cases h2 : b < a
    · rw [if_pos h2]
      go_enter Try.func27, Try.ntmps27
      go_wp2_with (first | (go_at_call 31; refine (HN.out _ _).mono ?_; rintro e w2 ⟨rfl, rfl⟩))
      go_ret
      exact ⟨rfl, rfl⟩
    · rw [if_neg h2]
      go_enter Try.func27, Try.ntmps27
      go_wp2_with (first | (go_at_call 31; refine (HN.out _ _).mono ?_; rintro e w2 ⟨rfl, rfl⟩))
      go_ret
      exact ⟨rfl, rfl⟩
/-- cmp.Or of three numbers that lie in a block -/
theorem or_any (b : Nat) (x y z : Int) (w : World) (hr : Row w b [.int .i64 x, .int .i64 y, .int .i64 z] 3) : Calls Try.prog 25 #[.slice (some ⟨b, 0, none⟩) 3 3] w fun e w' => e = .returned (.int .i64 (orI x y z)) ∧ w' = w := by
  have c0 : w.cell? ⟨b, 0, none⟩ = some (.int .i64 x) := hr.cell 0
  have c1 : w.cell? ⟨b, 1, none⟩ = some (.int .i64 y) := hr.cell 1
  have c2 : w.cell? ⟨b, 2, none⟩ = some (.int .i64 z) := hr.cell 2
  clear hr
  unfold orI
  by_cases h1 : x = 0
  · rw [if_neg (by omega)]
    by_cases h2 : y = 0
    · rw [if_neg (by omega)]
      by_cases h3 : z = 0
      · go_enter Try.func25, Try.ntmps25
        go_wp2_with fail
        refine wp_loop_rounds 4 ?_
        rw [rounds_succ]; go_wp2
        rw [rounds_succ]; go_wp2
        rw [rounds_succ]; go_wp2
        rw [rounds_succ]; go_wp2
        go_ret
        exact ⟨by rw [h3]; exact rfl, rfl⟩
      · go_enter Try.func25, Try.ntmps25
        go_wp2_with fail
        refine wp_loop_rounds 4 ?_
        rw [rounds_succ]; go_wp2
        rw [rounds_succ]; go_wp2
        rw [rounds_succ]; go_wp2
        go_ret
        exact ⟨rfl, rfl⟩
    · rw [if_pos h2]
      go_enter Try.func25, Try.ntmps25
      go_wp2_with fail
      refine wp_loop_rounds 4 ?_
      rw [rounds_succ]; go_wp2
      rw [rounds_succ]; go_wp2
      go_ret
      exact ⟨rfl, rfl⟩
  · rw [if_pos h1]
    go_enter Try.func25, Try.ntmps25
    go_wp2_with fail
    refine wp_loop_rounds 4 ?_
    rw [rounds_succ]; go_wp2
    go_ret
    exact ⟨rfl, rfl⟩
end Go.Proofs.Ytpmakigmhcjegaa.Vw
namespace Go.Proofs.Ytpmakigmhcjegaa.Vw
open Go.RowKit
open Nd (Row wp_world u8v Grew Sl hid_in)
set_option maxHeartbeats 2000000 in
set_option maxRecDepth 100000 in
theorem byLog_any (a b : Vt) (w : World) : Calls Try.prog 22 #[.agg #[.int .i64 a.r, .int .i64 a.n, .int .i64 a.l], .agg #[.int .i64 b.r, .int .i64 b.n, .int .i64 b.l]] w fun e w' => e = .returned (.int .i64 (ordI a b)) ∧ Below w.heap.size w w' := by
  unfold ordI
  obtain ⟨ar, an, al⟩ := a
  obtain ⟨br, bn, bl⟩ := b
  have HC2 := hid_in compare2
  have HC3 := hid_in compare3
  have HOR := hid_in or_any
  dsimp only at *
  go_enter Try.func22, Try.ntmps22
  go_upto_region 1 with fail
  obtain ⟨W1, HW1⟩ : ∃ W1, Hid ((w.alloc (.cells #[.int .i64 ar, .int .i64 an, .int .i64 al] 31)).alloc (.cells #[.int .i64 br, .int .i64 bn, .int .i64 bl] 31) = W1) := ⟨_, hid_in rfl⟩
  have HB1 : Hid (Below w.heap.size w W1) := hid_in (by rw [← HW1.out]; exact ((Below.refl _ _).alloc (Nat.le_refl _) _).alloc (by simp) _)
  have HR1 : Hid (Row W1 w.heap.size [.int .i64 ar, .int .i64 an, .int .i64 al] 31) := hid_in (by rw [← HW1.out]; exact (Row.new w _ 31).alloc _)
  have HR2 : Hid (Row W1 (w.heap.size + 1) [.int .i64 br, .int .i64 bn, .int .i64 bl] 31) := hid_in (by rw [← HW1.out]; exact Row.newAt _ _ _ 31 (by simp))
  refine wp_world HW1.out ?_
  have HK : Hid (∀ W, Below W1.heap.size W1 W → W.cell? ⟨w.heap.size, 0, none⟩ = some (.int .i64 ar) ∧ W.cell? ⟨w.heap.size, 1, none⟩ = some (.int .i64 an) ∧ W.cell? ⟨w.heap.size, 2, none⟩ = some (.int .i64 al) ∧ W.cell? ⟨w.heap.size + 1, 0, none⟩ = some (.int .i64 br) ∧ W.cell? ⟨w.heap.size + 1, 1, none⟩ = some (.int .i64 bn) ∧ W.cell? ⟨w.heap.size + 1, 2, none⟩ = some (.int .i64 bl)) := hid_in (fun W hb => ⟨(HR1.out.below hb HR1.out.lt).cell 0, (HR1.out.below hb HR1.out.lt).cell 1, (HR1.out.below hb HR1.out.lt).cell 2, (HR2.out.below hb HR2.out.lt).cell 0, (HR2.out.below hb HR2.out.lt).cell 1, (HR2.out.below hb HR2.out.lt).cell 2⟩)
  clear HR1 HR2 HW1
  go_region_held3 (fun W => W.cell? ⟨w.heap.size, 0, none⟩ = some (.int .i64 ar) ∧ W.cell? ⟨w.heap.size, 1, none⟩ = some (.int .i64 an) ∧ W.cell? ⟨w.heap.size, 2, none⟩ = some (.int .i64 al) ∧ W.cell? ⟨w.heap.size + 1, 0, none⟩ = some (.int .i64 br) ∧ W.cell? ⟨w.heap.size + 1, 1, none⟩ = some (.int .i64 bn) ∧ W.cell? ⟨w.heap.size + 1, 2, none⟩ = some (.int .i64 bl)) (first | (exact HK.out _ (Below.refl _ _)) | (exact HK.out _ (Below.refl _ _).drew) | (exact HK.out _ ((Below.refl _ _).drew.alloc (Nat.le_refl _) _))) (first | (go_at_call 26; refine (HC2.out _ _ _).mono ?_; rintro e w2 ⟨rfl, rfl⟩) | (go_at_call 27; refine (HC3.out _ _ _).mono ?_; rintro e w2 ⟨rfl, rfl⟩) | (go_at_call 25; refine (HOR.out _ _ _ _ _ (Row.newAt W1.drew _ _ 3 rfl)).mono ?_; rintro e w2 ⟨rfl, rfl⟩))
  go_wp2
  go_ret
  exact ⟨rfl, (HB1.out.alloc HB1.out.size _).drew⟩
end Go.Proofs.Ytpmakigmhcjegaa.Vw
namespace Go.Proofs.Ytpmakigmhcjegaa.Vw
open Go.RowKit
open Nd (Row wp_world u8v Grew Sl hid_in)
def zv : Vt := ⟨0, 0, 0⟩
/-- the place of the best of the first k -/
def bst (vs : List Vt) : Nat → Int
  | 0 => -1
  | k + 1 => if bst vs k < 0 ∨ ahead (vs.getD k zv) (vs.getD (bst vs k).toNat zv) then (k : Int) else bst vs k
theorem bst_range (vs : List Vt) : ∀ k, -1 ≤ bst vs k ∧ bst vs k < k ∧ (0 < k → 0 ≤ bst vs k)
  | 0 => ⟨by simp [bst], by simp [bst], fun h => absurd h (by omega)⟩
  | k + 1 => by
    obtain ⟨h1, h2, h3⟩ := bst_range vs k
    rw [bst]
    split
    · omega
    · rename_i h
      refine ⟨h1, by omega, fun _ => ?_⟩
      have h4 : ¬ bst vs k < 0 := fun h5 => h (.inl h5)
      omega
theorem getD_of {vs : List Vt} {k : Nat} (h : k < vs.length) : vs.getD k zv = vs[k] := by simp [h]
theorem cells3 {W : World} {b o i : Nat} {e : Vt} (h : ∀ (y : Nat) u, e.cells[y]? = some u → W.cell? ⟨b, o + i * 3 + y, none⟩ = some u) : W.cell? ⟨b, o + i * 3, none⟩ = some (.int .i64 e.r) ∧ W.cell? ⟨b, o + i * 3 + 1, none⟩ = some (.int .i64 e.n) ∧ W.cell? ⟨b, o + i * 3 + 2, none⟩ = some (.int .i64 e.l) :=
  ⟨by have := h 0 _ rfl; exact this, h 1 _ rfl, h 2 _ rfl⟩
theorem Es.at3 {w : World} {n c : Nat} {p : Option Addr} {es : List Vt} (h : Es w (.slice p n c) es) {i : Nat} {e : Vt} (hi : es[i]? = some e) : ∃ b o, p = some ⟨b, o, none⟩ ∧ w.cell? ⟨b, o + i * 3, none⟩ = some (.int .i64 e.r) ∧ w.cell? ⟨b, o + i * 3 + 1, none⟩ = some (.int .i64 e.n) ∧ w.cell? ⟨b, o + i * 3 + 2, none⟩ = some (.int .i64 e.l) := by
  obtain ⟨b, o, rfl, hm⟩ := h.at hi
  exact ⟨b, o, rfl, cells3 hm⟩
theorem bst_lt {vs : List Vt} {k : Nat} (h : bst vs k < 0) : bst vs (k + 1) = (k : Int) := by rw [bst, if_pos (.inl h)]
theorem bst_yes {vs : List Vt} {k f : Nat} (hk : k < vs.length) (hf : f < vs.length) (h : bst vs k = (f : Int)) (ha : ahead vs[k] vs[f]) : bst vs (k + 1) = (k : Int) := by
  rw [bst, if_pos (.inr (by rw [h, Int.toNat_natCast, getD_of hk, getD_of hf]; exact ha))]
theorem bst_no {vs : List Vt} {k f : Nat} (hk : k < vs.length) (hf : f < vs.length) (h : bst vs k = (f : Int)) (ha : ¬ ahead vs[k] vs[f]) : bst vs (k + 1) = (f : Int) := by
  rw [bst, if_neg ?_, h]
  rw [h, Int.toNat_natCast, getD_of hk, getD_of hf]
  rintro (h1 | h1)
  · omega
  · exact ha h1
set_option maxHeartbeats 4000000 in
set_option maxRecDepth 100000 in
theorem foremost_any (vs : List Vt) (v : Value) (w : World) (hv : Es w v vs) : Calls Try.prog 21 #[v, .func (.func 22) #[] #[]] w fun e w' => e = .returned (.int .i64 (bst vs vs.length)) ∧ Below w.heap.size w w' := by
  obtain ⟨p, cap, rfl, hc1, hc2⟩ := hv.form
  have HV := hid_in hv
  have HBL := hid_in byLog_any
  have k1 : (vs.length : Int) ≤ 9223372036854775807 := by omega
  clear hv hc1 hc2
  go_enter Try.func21, Try.ntmps21
  go_wp2_with fail
  go_loopg [5, 10] vs.length (fun g vb vi W => ∃ k : Nat, g + k = vs.length ∧ vi = .int .i64 (k : Int) ∧ vb = .int .i64 (bst vs k) ∧ Hid (Below w.heap.size w W))
  case atStart => exact ⟨0, by omega, rfl, rfl, Below.refl _ _⟩
  case round =>
    obtain ⟨k, hg, rfl, rfl, hB⟩ := hrel
    by_cases hlt : k < vs.length
    · obtain ⟨b, o, rfl, m0, m1, m2⟩ := (HV.out.below hB.out).at3 (List.getElem?_eq_getElem hlt)
      go_upto_region 5 with fail
      obtain ⟨W1, HW1⟩ : ∃ W1, Hid (wr.alloc (.cells #[.int .i64 vs[k].r, .int .i64 vs[k].n, .int .i64 vs[k].l] 31) = W1) := ⟨_, hid_in rfl⟩
      have HB1 : Hid (Below wr.heap.size wr W1) := hid_in (by rw [← HW1.out]; exact (Below.refl _ _).alloc (Nat.le_refl _) _)
      have HR1 : Hid (Row W1 wr.heap.size [.int .i64 vs[k].r, .int .i64 vs[k].n, .int .i64 vs[k].l] 31) := hid_in (by rw [← HW1.out]; exact Row.new wr _ 31)
      refine wp_world HW1.out ?_
      have HV1 := hid_in (HV.out.below (hB.out.trans (HB1.out.mono hB.out.size)))
      by_cases hf : bst vs k < 0
      · have HN := hid_in (bst_lt hf)
        have hq : bst vs k = -1 := by have := (bst_range vs k).1; omega
        rw [hq]
        clear m0 m1 m2 HR1 HW1 HV1 hf hq
        generalize vs[k] = x at *
        go_region
        go_wp2_with fail
        go_roundg (vs.length - (k + 1))
        case measure => omega
        case rel => exact ⟨k + 1, by omega, by go_num, by rw [HN.out], hB.out.trans ((HB1.out.drew).mono hB.out.size)⟩
      · obtain ⟨r1, r2, r3⟩ := bst_range vs k
        obtain ⟨f, HF⟩ : ∃ f : Nat, bst vs k = (f : Int) := ⟨(bst vs k).toNat, by omega⟩
        have hfk : f < vs.length := by omega
        obtain ⟨b', o', hbo, n0, n1, n2⟩ := HV1.out.at3 (List.getElem?_eq_getElem hfk)
        injection hbo with hbo
        injection hbo with hb1 ho1
        subst hb1 ho1
        have HY := hid_in (bst_yes hlt hfk HF)
        have HNO := hid_in (bst_no hlt hfk HF)
        have HO := hid_in (ordI_lt vs[k] vs[f])
        have q0 : W1.cell? ⟨wr.heap.size, 0, none⟩ = some (.int .i64 vs[k].r) := HR1.out.cell 0
        have q1 : W1.cell? ⟨wr.heap.size, 1, none⟩ = some (.int .i64 vs[k].n) := HR1.out.cell 1
        have q2 : W1.cell? ⟨wr.heap.size, 2, none⟩ = some (.int .i64 vs[k].l) := HR1.out.cell 2
        rw [HF] at hf r1 r2 r3 ⊢
        have k2 : ¬ (f : Int) < 0 := by omega
        clear m0 m1 m2 HR1 HW1 HV1 HF hf r1 r2 r3
        generalize hxe : vs[k] = x at *
        generalize hye : vs[f] = y at *
        clear hxe hye
        obtain ⟨xr, xn, xl⟩ := x
        obtain ⟨yr, yn, yl⟩ := y
        dsimp only at *
        have HK : Hid (∀ W, Below W1.heap.size W1 W → W.cell? ⟨wr.heap.size, 0, none⟩ = some (.int .i64 xr) ∧ W.cell? ⟨wr.heap.size, 1, none⟩ = some (.int .i64 xn) ∧ W.cell? ⟨wr.heap.size, 2, none⟩ = some (.int .i64 xl) ∧ W.cell? ⟨b, o + f * 3, none⟩ = some (.int .i64 yr) ∧ W.cell? ⟨b, o + f * 3 + 1, none⟩ = some (.int .i64 yn) ∧ W.cell? ⟨b, o + f * 3 + 2, none⟩ = some (.int .i64 yl)) := hid_in (fun W hb => ⟨by rw [hb.cell (World.block_lt_of_cell? _ _ q0)]; exact q0, by rw [hb.cell (World.block_lt_of_cell? _ _ q1)]; exact q1, by rw [hb.cell (World.block_lt_of_cell? _ _ q2)]; exact q2, by rw [hb.cell (World.block_lt_of_cell? _ _ n0)]; exact n0, by rw [hb.cell (World.block_lt_of_cell? _ _ n1)]; exact n1, by rw [hb.cell (World.block_lt_of_cell? _ _ n2)]; exact n2⟩)
        by_cases ha : ahead ⟨xr, xn, xl⟩ ⟨yr, yn, yl⟩
        · have hc := (HO.out).2 ha
          have HZ := hid_in (HY.out ha)
          have HB := hid_in (HBL.out ⟨xr, xn, xl⟩ ⟨yr, yn, yl⟩)
          generalize ordI ⟨xr, xn, xl⟩ ⟨yr, yn, yl⟩ = oi at *
          clear HY HNO HO ha q0 q1 q2 n0 n1 n2 HBL
          go_region_held3 (fun W => W.cell? ⟨wr.heap.size, 0, none⟩ = some (.int .i64 xr) ∧ W.cell? ⟨wr.heap.size, 1, none⟩ = some (.int .i64 xn) ∧ W.cell? ⟨wr.heap.size, 2, none⟩ = some (.int .i64 xl) ∧ W.cell? ⟨b, o + f * 3, none⟩ = some (.int .i64 yr) ∧ W.cell? ⟨b, o + f * 3 + 1, none⟩ = some (.int .i64 yn) ∧ W.cell? ⟨b, o + f * 3 + 2, none⟩ = some (.int .i64 yl)) (first | (exact HK.out _ (Below.refl _ _)) | (exact HK.out _ (Below.refl _ _).drew) | (exact HK.out _ HB3.out)) (first | (go_at_call 22; refine (HB.out _).mono ?_; rintro e w3 ⟨rfl, hb3⟩; have HB3 := hid_in ((Below.refl _ _).drew.trans (hb3.mono (Below.refl W1.heap.size W1).drew.size)); clear hb3))
          go_wp2_with fail
          go_roundg (vs.length - (k + 1))
          case measure => omega
          case rel => exact ⟨k + 1, by omega, by go_num, by rw [HZ.out], hB.out.trans ((HB1.out.trans (HB3.out.mono HB1.out.size)).mono hB.out.size)⟩
        · have hc : ¬ ordI ⟨xr, xn, xl⟩ ⟨yr, yn, yl⟩ < 0 := fun h => ha ((HO.out).1 h)
          have HZ := hid_in (HNO.out ha)
          have HB := hid_in (HBL.out ⟨xr, xn, xl⟩ ⟨yr, yn, yl⟩)
          generalize ordI ⟨xr, xn, xl⟩ ⟨yr, yn, yl⟩ = oi at *
          clear HY HNO HO ha q0 q1 q2 n0 n1 n2 HBL
          go_region_held3 (fun W => W.cell? ⟨wr.heap.size, 0, none⟩ = some (.int .i64 xr) ∧ W.cell? ⟨wr.heap.size, 1, none⟩ = some (.int .i64 xn) ∧ W.cell? ⟨wr.heap.size, 2, none⟩ = some (.int .i64 xl) ∧ W.cell? ⟨b, o + f * 3, none⟩ = some (.int .i64 yr) ∧ W.cell? ⟨b, o + f * 3 + 1, none⟩ = some (.int .i64 yn) ∧ W.cell? ⟨b, o + f * 3 + 2, none⟩ = some (.int .i64 yl)) (first | (exact HK.out _ (Below.refl _ _)) | (exact HK.out _ (Below.refl _ _).drew) | (exact HK.out _ HB3.out)) (first | (go_at_call 22; refine (HB.out _).mono ?_; rintro e w3 ⟨rfl, hb3⟩; have HB3 := hid_in ((Below.refl _ _).drew.trans (hb3.mono (Below.refl W1.heap.size W1).drew.size)); clear hb3))
          go_wp2_with fail
          go_roundg (vs.length - (k + 1))
          case measure => omega
          case rel => exact ⟨k + 1, by omega, by go_num, by rw [HZ.out], hB.out.trans ((HB1.out.trans (HB3.out.mono HB1.out.size)).mono hB.out.size)⟩
    · obtain rfl : k = vs.length := by omega
      go_wp2_with fail
      go_ret
      exact ⟨rfl, hB.out⟩
theorem best_any (vs : List Vt) (v : Value) (w : World) (hv : Es w v vs) : Calls Try.prog 17 #[v] w fun e w' => e = .returned (.int .i64 (bst vs vs.length)) ∧ Below w.heap.size w w' := by
  obtain ⟨p, cap, rfl, hc1, hc2⟩ := hv.form
  have HF := hid_in (foremost_any vs _ w hv)
  clear hv
  go_enter Try.func17, Try.ntmps17
  go_wp2_with (first | (go_at_call 21; refine HF.out.mono ?_; rintro e w3 ⟨rfl, hb3⟩; have HB3 := hid_in hb3; clear hb3))
  go_ret
  exact ⟨rfl, HB3.out⟩
end Go.Proofs.Ytpmakigmhcjegaa.Vw
