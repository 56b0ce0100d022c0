/-
  keptBytes, oldest. oldest. Look. Forget.
-/
import Derived.Laws.CopyOwn
import Derived.Deep.RegionLaw
import Derived.Deep.DrawnRows
import Derived.Test.YtiijlnlkhpneaaaE00
import Derived.Test.YtiijlnlkhpneaaaE01
import Derived.Test.YtiijlnlkhpneaaaE02
import Derived.Test.YtiijlnlkhpneaaaE03
import Derived.Test.YtiijlnlkhpneaaaE04
import Derived.Test.YtiijlnlkhpneaaaE05
import Derived.Test.YtiijlnlkhpneaaaE07
namespace Go.Proofs.Ytiijlnlkhpneaaa.Se
open Go.RowKit
open Nd (Row wp_world post_Row grownBy_setCell below_of_grown wpList_store_new wpList_store_Row)
def sumR (T : List Seat) : Nat := (T.map (fun s => s.reply.size)).sum
def ShortT (T : List Seat) : Prop := ∀ s ∈ T, s.reply.size ≤ 8192
theorem sumR_take {T : List Seat} {i : Nat} {s : Seat} (h : T[i]? = some s) : sumR (T.take (i + 1)) = sumR (T.take i) + s.reply.size := by
  unfold sumR
  rw [List.take_add_one, h]
  simp
theorem sumR_le {T : List Seat} (h : ShortT T) : sumR T ≤ T.length * 8192 := by
  induction T with
  | nil => simp [sumR]
  | cons a r ih =>
    have h1 := h a (by simp)
    have h2 := ih (fun x hx => h x (by simp [hx]))
    unfold sumR at h2 ⊢
    simp only [List.map_cons, List.sum_cons, List.length_cons]
    omega
theorem sumR_take_le {T : List Seat} (h : ShortT T) (hl : T.length = 8) (i : Nat) : sumR (T.take i) ≤ 65536 := by
  have h1 := sumR_le (T := T.take i) (fun x hx => h x (List.mem_of_mem_take hx))
  have h2 : (T.take i).length ≤ 8 := by simp; omega
  omega
set_option maxHeartbeats 2000000 in
set_option maxRecDepth 100000 in
theorem keptBytes_any {w : World} {g : Nat} {room : Int} {T : List Seat} (h : Tab w g room T) (hS : ShortT T) :
    Calls Try.prog 48 #[.pointer (some ⟨g, 0, none⟩)] w fun e w' => e = .returned (.int .i64 (sumR T : Int)) ∧ Below w.heap.size w w' := by
  have HRG := h.range
  have HFT := h.fits
  have HL := hid_in h.len
  have HIX := hid_in (fun i s (hi : T[i]? = some s) W => index59 h.len hi W)
  have HSM := hid_in (fun i => sumR_take_le hS h.len i)
  generalize tcells T = A at *
  clear h hS
  go_enter Try.func48, Try.ntmps48
  go_wp2_with (first | (refine wpList_load_mid rfl 59 _ rfl g 1 rfl A _ HRG.out Try.underlying59 rfl HFT.out ?_))
  go_loopw [3, 10] (fun vn vi W => ∃ i : Nat, i ≤ 8 ∧ vi = .int .i64 (i : Int) ∧ vn = .int .i64 (sumR (T.take i) : Int) ∧ Hid (Below w.heap.size w W)) (fun _ vi _ => 8 - (intOf vi).toNat)
  case atStart => exact ⟨0, by omega, rfl, rfl, Below.refl _ _⟩
  case round =>
    obtain ⟨i, hi, rfl, rfl, hbr⟩ := hrel
    by_cases hlt : i < 8
    · obtain ⟨s, hs⟩ : ∃ s, T[i]? = some s := ⟨_, List.getElem?_eq_getElem (by rw [HL.out]; exact hlt)⟩
      have hix := HIX.out i s hs
      have HTK := hid_in (sumR_take hs)
      have hb1 := HSM.out i
      have hb2 := HSM.out (i + 1)
      rw [HTK.out] at hb2
      have hlt2 : (i : Int) < 8 := by omega
      have HLT := hid_in hlt
      generalize sumR (T.take i) = m at *
      obtain ⟨sc, sn, sa, sk, sr⟩ := s
      simp only [Seat.cells] at hix
      simp only at hb2 HTK
      have hs2 : (m : Int) ≤ 65536 := by omega
      have hs3 : (sr.size : Int) ≤ 65536 := by omega
      clear hs hlt hb1 hb2
      go_wp2_with fail
      refine ⟨⟨i + 1, by have := HLT.out; omega, by go_num, ?_, hbr.out.alloc hbr.out.size _⟩, by have := HLT.out; simp [intOf]; omega⟩
      rw [HTK.out]
      go_num
    · obtain rfl : i = 8 := by omega
      have HX : Hid (sumR (T.take 8) = sumR T) := hid_in (by rw [← HL.out, List.take_length])
      rw [HX.out]
      clear hlt hi
      go_wp2_with fail
      go_ret
      exact ⟨rfl, hbr.out⟩
end Go.Proofs.Ytiijlnlkhpneaaa.Se
namespace Go.Proofs.Ytiijlnlkhpneaaa.Se
open Go.RowKit
open Nd (Row wp_world post_Row grownBy_setCell below_of_grown wpList_store_new wpList_store_Row splice_all)
/-- of two seats the one whose reply goes first -/
def pickS (f s : Seat) : Seat := if s.kept = true ∧ (f.kept = false ∨ s.at_ < f.at_) then s else f
def oldS (T : List Seat) : Seat := T.foldl pickS noSeat
theorem oldS_take {T : List Seat} {i : Nat} {s : Seat} (h : T[i]? = some s) : oldS (T.take (i + 1)) = pickS (oldS (T.take i)) s := by
  unfold oldS
  rw [List.take_add_one, h]
  simp
theorem below_set {B f j : Nat} {a w : World} (h : Below B a w) (hf : B ≤ f) (hB : B ≤ w.heap.size) (v : Value) : Below B a (w.setCell ⟨f, j, none⟩ v) ∧ B ≤ (w.setCell ⟨f, j, none⟩ v).heap.size :=
  ⟨below_of_grown h (grownBy_setCell w ⟨f, j, none⟩ v) hB hf, by have := (grownBy_setCell w ⟨f, j, none⟩ v).size; omega⟩
theorem row_set5 {w : World} {f : Nat} {a0 a1 a2 a3 a4 : Value} {t : TypeId} (h : Row w f [a0, a1, a2, a3, a4] t) (v0 v1 v2 v3 v4 : Value) : Row (((((w.setCell ⟨f, 0, none⟩ v0).setCell ⟨f, 1, none⟩ v1).setCell ⟨f, 2, none⟩ v2).setCell ⟨f, 3, none⟩ v3).setCell ⟨f, 4, none⟩ v4) f [v0, v1, v2, v3, v4] t :=
  ((((h.set_same 0 v0).set_same 1 v1).set_same 2 v2).set_same 3 v3).set_same 4 v4
theorem below_set5 {B f : Nat} {a w : World} (h : Below B a w) (hf : B ≤ f) (hB : B ≤ w.heap.size) (v0 v1 v2 v3 v4 : Value) : Below B a (((((w.setCell ⟨f, 0, none⟩ v0).setCell ⟨f, 1, none⟩ v1).setCell ⟨f, 2, none⟩ v2).setCell ⟨f, 3, none⟩ v3).setCell ⟨f, 4, none⟩ v4) ∧ B ≤ (((((w.setCell ⟨f, 0, none⟩ v0).setCell ⟨f, 1, none⟩ v1).setCell ⟨f, 2, none⟩ v2).setCell ⟨f, 3, none⟩ v3).setCell ⟨f, 4, none⟩ v4).heap.size := by
  obtain ⟨h0, k0⟩ := below_set (j := 0) h hf hB v0
  obtain ⟨h1, k1⟩ := below_set (j := 1) h0 hf k0 v1
  obtain ⟨h2, k2⟩ := below_set (j := 2) h1 hf k1 v2
  obtain ⟨h3, k3⟩ := below_set (j := 3) h2 hf k2 v3
  exact below_set (j := 4) h3 hf k3 v4
set_option maxHeartbeats 2000000 in
set_option maxRecDepth 100000 in
theorem oldest_any {w : World} {g : Nat} {room : Int} {T : List Seat} (h : Tab w g room T) :
    Calls Try.prog 49 #[.pointer (some ⟨g, 0, none⟩)] w fun e w' => e = .returned (.int .i64 (oldS T).client) ∧ Below w.heap.size w w' := by
  have HRG := (h.alloc (.cells noSeat.cells.toArray 48)).range
  have HFT := h.fits
  have HL := hid_in h.len
  have HIX := hid_in (fun i s (hi : T[i]? = some s) W => index59 h.len hi W)
  simp only [noSeat, Seat.cells] at HRG
  generalize tcells T = A at *
  clear h
  go_enter Try.func49, Try.ntmps49
  go_wp2_with (first | (refine wpList_load_mid rfl 59 _ rfl g 1 rfl A _ HRG.out Try.underlying59 rfl HFT.out ?_))
  go_loopw [10] (fun vi W => ∃ i : Nat, i ≤ 8 ∧ vi = .int .i64 (i : Int) ∧ Hid (Row W w.heap.size (oldS (T.take i)).cells 48) ∧ Hid (Below w.heap.size w W)) (fun vi _ => 8 - (intOf vi).toNat)
  case atStart => exact ⟨0, by omega, rfl, Row.new w noSeat.cells 48, (Below.refl _ _).alloc (Nat.le_refl _) _⟩
  case round =>
    obtain ⟨i, hi, rfl, hfr, hbr⟩ := hrel
    by_cases hlt : i < 8
    · obtain ⟨s, hs⟩ : ∃ s, T[i]? = some s := ⟨_, List.getElem?_eq_getElem (by rw [HL.out]; exact hlt)⟩
      have hix := HIX.out i s hs
      have HTK := hid_in (oldS_take hs)
      have hlt2 : (i : Int) < 8 := by omega
      have HLT := hid_in hlt
      generalize oldS (T.take i) = f at *
      obtain ⟨sc, sn, sa, sk, sr⟩ := s
      obtain ⟨fc, fn, fa, fk, fr⟩ := f
      unfold pickS at HTK
      simp only [Seat.cells] at hix hfr
      simp only at HTK
      have f0 := hfr.out.cell 0
      have f1 := hfr.out.cell 1
      have f2 := hfr.out.cell 2
      have f3 := hfr.out.cell 3
      have f4 := hfr.out.cell 4
      have z0 := hfr.out.frozen 0
      have z1 := hfr.out.frozen 1
      have z2 := hfr.out.frozen 2
      have z3 := hfr.out.frozen 3
      have z4 := hfr.out.frozen 4
      have flt := hfr.out.lt
      simp at f0 f1 f2 f3 f4
      clear hs hlt
      rcases sk with _ | _
      · rw [if_neg (by simp)] at HTK
        go_wp2_with fail
        refine ⟨⟨i + 1, by have := HLT.out; omega, by go_num, ?_, hbr.out.alloc hbr.out.size _⟩, by have := HLT.out; simp [intOf]; omega⟩
        rw [HTK.out]
        exact hfr.out.alloc _
      · rcases fk with _ | _
        · rw [if_pos (by simp)] at HTK
          go_wp2_with fail
          refine ⟨⟨i + 1, by have := HLT.out; omega, by go_num, ?_, (below_set5 hbr.out (Nat.le_refl _) hbr.out.size _ _ _ _ _).1.alloc (below_set5 hbr.out (Nat.le_refl _) hbr.out.size _ _ _ _ _).2 _⟩, by have := HLT.out; simp [intOf]; omega⟩
          rw [HTK.out]
          exact (row_set5 hfr.out _ _ _ _ _).alloc _
        · by_cases hat : sa < fa
          · rw [if_pos (by simp; exact hat)] at HTK
            go_wp2_with fail
            refine ⟨⟨i + 1, by have := HLT.out; omega, by go_num, ?_, (below_set5 hbr.out (Nat.le_refl _) hbr.out.size _ _ _ _ _).1.alloc (below_set5 hbr.out (Nat.le_refl _) hbr.out.size _ _ _ _ _).2 _⟩, by have := HLT.out; simp [intOf]; omega⟩
            rw [HTK.out]
            exact (row_set5 hfr.out _ _ _ _ _).alloc _
          · rw [if_neg (by simp; omega)] at HTK
            go_wp2_with fail
            refine ⟨⟨i + 1, by have := HLT.out; omega, by go_num, ?_, hbr.out.alloc hbr.out.size _⟩, by have := HLT.out; simp [intOf]; omega⟩
            rw [HTK.out]
            exact hfr.out.alloc _
    · obtain rfl : i = 8 := by omega
      have HX : Hid (oldS (T.take 8) = oldS T) := hid_in (by rw [← HL.out, List.take_length])
      rw [HX.out] at hfr
      have f0 := hfr.out.cell 0
      simp [Seat.cells] at f0
      clear hlt hi
      go_wp2_with fail
      go_ret
      exact ⟨rfl, hbr.out⟩
end Go.Proofs.Ytiijlnlkhpneaaa.Se
namespace Go.Proofs.Ytiijlnlkhpneaaa.Se
open Go.RowKit
open Nd (Row wp_world post_Row grownBy_setCell below_of_grown wpList_store_new wpList_store_Row)
/-- what is known of a request: a seat's answer -/
def seatSays (s : Seat) (n : Int) : Int × ByteArray := if s.number < n then (1, ⟨#[]⟩) else if n < s.number then (4, ⟨#[]⟩) else if s.kept then (2, s.reply) else (3, ⟨#[]⟩)
def lookS (T : List Seat) (c n : Int) : Int × ByteArray := if isC c && isN n then seatSays (T.getD (c - 1).toNat noSeat) n else (0, ⟨#[]⟩)
theorem isC_at {c : Int} (h : isC c = true) {T : List Seat} (hl : T.length = 8) : ∃ (i : Nat) (s : Seat), i < 8 ∧ c = (i : Int) + 1 ∧ T[i]? = some s ∧ T.getD (c - 1).toNat noSeat = s := by
  have hc : 1 ≤ c ∧ c ≤ 8 := of_decide_eq_true h
  have hi : (c - 1).toNat < T.length := by omega
  refine ⟨(c - 1).toNat, T[(c - 1).toNat], by omega, by omega, List.getElem?_eq_getElem hi, ?_⟩
  rw [List.getD_eq_getElem?_getD, List.getElem?_eq_getElem hi]; rfl
theorem look_nil (c n : Int) (w : World) : Calls Try.prog 14 #[.pointer none, .int .i64 c, .int .i64 n] w fun e w' => e = .returned (.tuple #[.int .i64 0, .string ⟨#[]⟩]) ∧ w' = w := by
  go_enter Try.func14, Try.ntmps14
  go_wp2
  go_ret2
  exact ⟨rfl, rfl⟩
set_option maxHeartbeats 2000000 in
set_option maxRecDepth 100000 in
theorem look_any {w : World} {g : Nat} {room : Int} {T : List Seat} (h : Tab w g room T) (c n : Int) : Calls Try.prog 14 #[.pointer (some ⟨g, 0, none⟩), .int .i64 c, .int .i64 n] w fun e w' => e = .returned (.tuple #[.int .i64 (lookS T c n).1, .string (lookS T c n).2]) ∧ Below w.heap.size w w' := by
  have HC := hid_in (fun W => isClient_any c W)
  have HN := hid_in (fun W => isNumber_any n W)
  unfold lookS
  rcases hc : isC c with _ | _
  · rw [hc] at HC
    clear hc h HN
    go_enter Try.func14, Try.ntmps14
    go_wp2_with (first | (go_at_call 26; refine (HC.out _).mono ?_; rintro e w2 ⟨rfl, rfl⟩))
    go_ret2
    exact ⟨rfl, Below.refl _ _⟩
  · rw [hc] at HC
    rcases hn : isN n with _ | _
    · rw [hn] at HN
      clear hc h hn
      go_enter Try.func14, Try.ntmps14
      go_wp2_with (first | (go_at_call 26; refine (HC.out _).mono ?_; rintro e w2 ⟨rfl, rfl⟩) | (go_at_call 27; refine (HN.out _).mono ?_; rintro e w2 ⟨rfl, rfl⟩))
      go_ret2
      exact ⟨rfl, Below.refl _ _⟩
    · rw [hn] at HN
      obtain ⟨i, s, hi, rfl, hs, hg⟩ := isC_at hc h.len
      rw [hg]
      simp only [Bool.and_true, if_true]
      obtain ⟨c0, c1, c2, c3, c4⟩ := h.cs hs
      obtain ⟨sc, sn, sa, sk, sr⟩ := s
      have e3 : (i : Int) < 8 := by omega
      have e4 : 0 ≤ (i : Int) := by omega
      simp only at c0 c1 c2 c3 c4
      unfold seatSays
      clear hc hn h hs hg hi
      simp only
      by_cases k1 : sn < n
      · rw [if_pos k1]
        go_enter Try.func14, Try.ntmps14
        go_wp2_with (first | (go_at_call 26; refine (HC.out _).mono ?_; rintro e w2 ⟨rfl, rfl⟩) | (go_at_call 27; refine (HN.out _).mono ?_; rintro e w2 ⟨rfl, rfl⟩))
        go_ret2
        exact ⟨rfl, (Below.refl _ _).alloc (Nat.le_refl _) _⟩
      · rw [if_neg k1]
        by_cases k2 : n < sn
        · rw [if_pos k2]
          go_enter Try.func14, Try.ntmps14
          go_wp2_with (first | (go_at_call 26; refine (HC.out _).mono ?_; rintro e w2 ⟨rfl, rfl⟩) | (go_at_call 27; refine (HN.out _).mono ?_; rintro e w2 ⟨rfl, rfl⟩))
          go_ret2
          exact ⟨rfl, (Below.refl _ _).alloc (Nat.le_refl _) _⟩
        · rw [if_neg k2]
          cases sk with
          | false =>
            go_enter Try.func14, Try.ntmps14
            go_wp2_with (first | (go_at_call 26; refine (HC.out _).mono ?_; rintro e w2 ⟨rfl, rfl⟩) | (go_at_call 27; refine (HN.out _).mono ?_; rintro e w2 ⟨rfl, rfl⟩))
            go_ret2
            exact ⟨rfl, (Below.refl _ _).alloc (Nat.le_refl _) _⟩
          | true =>
            go_enter Try.func14, Try.ntmps14
            go_wp2_with (first | (go_at_call 26; refine (HC.out _).mono ?_; rintro e w2 ⟨rfl, rfl⟩) | (go_at_call 27; refine (HN.out _).mono ?_; rintro e w2 ⟨rfl, rfl⟩))
            go_quiet (fail)
            go_wp2
            go_ret2
            exact ⟨rfl, Nd.below_drewN ((Below.refl _ _).alloc (Nat.le_refl _) _) _⟩
end Go.Proofs.Ytiijlnlkhpneaaa.Se
namespace Go.Proofs.Ytiijlnlkhpneaaa.Se
open Go.RowKit
open Nd (Row wp_world post_Row grownBy_setCell below_of_grown)
def hush (s : Seat) : Seat := { s with kept := false, reply := ⟨#[]⟩ }
theorem tcells_hush : ∀ (T : List Seat) (i : Nat) (s : Seat), T[i]? = some s → ((tcells T).set (i * 5 + 3) (.bool false)).set (i * 5 + 4) (.string ⟨#[]⟩) = tcells (T.set i (hush s))
  | [], i, s, h => by simp at h
  | a :: r, 0, s, h => by
    simp at h
    subst h
    rfl
  | a :: r, i + 1, s, h => by
    have ih := tcells_hush r i s (by simpa using h)
    have e : tcells (a :: r) = a.cells ++ tcells r := rfl
    have e2 : tcells ((a :: r).set (i + 1) (hush s)) = a.cells ++ tcells (r.set i (hush s)) := rfl
    rw [e, e2, ← ih, show (i + 1) * 5 + 3 = (i * 5 + 3) + 5 by omega, show (i + 1) * 5 + 4 = (i * 5 + 4) + 5 by omega]
    rfl
def forgT (T : List Seat) (c : Int) : List Seat := if isC c then T.set (c - 1).toNat (hush (T.getD (c - 1).toNat noSeat)) else T
def forgB (T : List Seat) (c : Int) : Bool := if isC c then (T.getD (c - 1).toNat noSeat).kept else false
theorem forget_nil (c : Int) (w : World) : Calls Try.prog 16 #[.pointer none, .int .i64 c] w fun e w' => e = .returned (.bool false) ∧ w' = w := by
  go_enter Try.func16, Try.ntmps16
  go_wp2
  go_ret
  exact ⟨rfl, rfl⟩
set_option maxHeartbeats 2000000 in
set_option maxRecDepth 100000 in
theorem forget_any {w : World} {g : Nat} {room : Int} {T : List Seat} (h : Tab w g room T) (c : Int) : Calls Try.prog 16 #[.pointer (some ⟨g, 0, none⟩), .int .i64 c] w fun e w' => e = .returned (.bool (forgB T c)) ∧ Tab w' g room (forgT T c) ∧ w.grownBy w' (some g) ∧ w'.heap.size = w.heap.size := by
  have HC := hid_in (fun W => isClient_any c W)
  unfold forgB forgT
  rcases hc : isC c with _ | _
  · rw [hc] at HC
    have H := hid_in h
    clear hc h
    go_enter Try.func16, Try.ntmps16
    go_wp2_with (first | (go_at_call 26; refine (HC.out _).mono ?_; rintro e w2 ⟨rfl, rfl⟩))
    go_ret
    exact ⟨rfl, H.out, Nd.grownBy_refl _ _, rfl⟩
  · rw [hc] at HC
    obtain ⟨i, s, hi, rfl, hs, hg⟩ := isC_at hc h.len
    rw [hg]
    simp only [if_true]
    obtain ⟨c0, c1, c2, c3, c4⟩ := h.cs hs
    have z3 := h.row.frozen (1 + i * 5 + 3)
    have z4 := h.row.frozen (1 + i * 5 + 4)
    have HR : Hid (Tab ((w.setCell ⟨g, 1 + i * 5 + 3, none⟩ (.bool false)).setCell ⟨g, 1 + i * 5 + 4, none⟩ (.string ⟨#[]⟩)) g room (T.set i (hush s))) := hid_in (by
      refine ⟨?_, by rw [List.length_set]; exact h.len⟩
      have h1 := (h.row.set_same (1 + i * 5 + 3) (.bool false)).set_same (1 + i * 5 + 4) (.string ⟨#[]⟩)
      rw [show 1 + i * 5 + 3 = (i * 5 + 3) + 1 by omega, show 1 + i * 5 + 4 = (i * 5 + 4) + 1 by omega] at h1 ⊢
      rw [List.set_cons_succ, List.set_cons_succ, tcells_hush T i s hs] at h1
      exact h1)
    have e1 : ((i : Int) + 1 - 1).toNat = i := by omega
    rw [e1]
    generalize s.kept = sk at *
    have e3 : (i : Int) < 8 := by omega
    have e4 : 0 ≤ (i : Int) := by omega
    clear hc h hs hg hi e1
    go_enter Try.func16, Try.ntmps16
    go_wp2_with (first | (go_at_call 26; refine (HC.out _).mono ?_; rintro e w2 ⟨rfl, rfl⟩))
    go_ret
    exact ⟨rfl, HR.out, Nd.grownBy_trans (grownBy_setCell _ _ _) (grownBy_setCell _ _ _), by simp [World.setCell]⟩
end Go.Proofs.Ytiijlnlkhpneaaa.Se
