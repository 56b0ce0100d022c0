/-
  Look. Forget. Plain facts: what goes for room. makeRoom.
-/
import Derived.Laws.CopyOwn
import Derived.Deep.RegionLaw
import Derived.Deep.DrawnRows
import Derived.OwnWalk
import Derived.Laws.Tables
import Derived.Test.YtiijlnlkhpneaaaF00
import Derived.Test.YtiijlnlkhpneaaaF01
import Derived.Test.YtiijlnlkhpneaaaF02
import Derived.Test.YtiijlnlkhpneaaaF03
import Derived.Test.YtiijlnlkhpneaaaF04
import Derived.Test.YtiijlnlkhpneaaaF05
import Derived.Test.YtiijlnlkhpneaaaF06
import Derived.Test.YtiijlnlkhpneaaaF07
import Derived.Test.YtiijlnlkhpneaaaF08
import Derived.Test.YtiijlnlkhpneaaaF09
import Derived.Test.YtiijlnlkhpneaaaF10
namespace Go.Proofs.Ytiijlnlkhpneaaa.Se
open Go.RowKit
open Nd (Row wp_world post_Row grownBy_setCell below_of_grown wpList_store_new wpList_store_Row)
/-- what is known of a request: a seat's answer -/
def seatSays (s : Seat) (n : Int) : Int × ByteArray := if s.number < n then (1, ⟨#[]⟩) else if n < s.number then (4, ⟨#[]⟩) else if s.kept then (2, s.reply) else (3, ⟨#[]⟩)
def lookS (T : List Seat) (c n : Int) : Int × ByteArray := if isC c && isN n then seatSays (T.getD (c - 1).toNat noSeat) n else (0, ⟨#[]⟩)
theorem isC_at {c : Int} (h : isC c = true) {T : List Seat} (hl : T.length = 8) : ∃ (i : Nat) (s : Seat), i < 8 ∧ c = (i : Int) + 1 ∧ T[i]? = some s ∧ T.getD (c - 1).toNat noSeat = s := by
  have hc : 1 ≤ c ∧ c ≤ 8 := of_decide_eq_true h
  have hi : (c - 1).toNat < T.length := by omega
  refine ⟨(c - 1).toNat, T[(c - 1).toNat], by omega, by omega, List.getElem?_eq_getElem hi, ?_⟩
  rw [List.getD_eq_getElem?_getD, List.getElem?_eq_getElem hi]; rfl
set_option maxHeartbeats 2000000 in
set_option maxRecDepth 100000 in
theorem look_any {w : World} {g : Nat} {room : Int} {T : List Seat} (h : Tab w g room T) (c n : Int) : Calls Try.prog 14 #[.pointer (some ⟨g, 0, none⟩), .int .i64 c, .int .i64 n] w fun e w' => e = .returned (.tuple #[.int .i64 (lookS T c n).1, .string (lookS T c n).2]) ∧ Below w.heap.size w w' := by
  have HC := hid_in (fun W => isClient_any c W)
  have HN := hid_in (fun W => isNumber_any n W)
  unfold lookS
  rcases hc : isC c with _ | _
  · rw [hc] at HC
    clear hc h HN
    go_enter Try.func14, Try.ntmps14
    go_wp2_with (first | (go_at_call 26; refine (HC.out _).mono ?_; rintro e w2 ⟨rfl, rfl⟩))
    go_ret2
    exact ⟨rfl, Below.refl _ _⟩
  · rw [hc] at HC
    rcases hn : isN n with _ | _
    · rw [hn] at HN
      clear hc h hn
      go_enter Try.func14, Try.ntmps14
      go_wp2_with (first | (go_at_call 26; refine (HC.out _).mono ?_; rintro e w2 ⟨rfl, rfl⟩) | (go_at_call 27; refine (HN.out _).mono ?_; rintro e w2 ⟨rfl, rfl⟩))
      go_ret2
      exact ⟨rfl, Below.refl _ _⟩
    · rw [hn] at HN
      obtain ⟨i, s, hi, rfl, hs, hg⟩ := isC_at hc h.len
      rw [hg]
      simp only [Bool.and_true, if_true]
      obtain ⟨c0, c1, c2, c3, c4⟩ := h.cs hs
      obtain ⟨sc, sn, sa, sk, sr⟩ := s
      have e3 : (i : Int) < 8 := by omega
      have e4 : 0 ≤ (i : Int) := by omega
      simp only at c0 c1 c2 c3 c4
      unfold seatSays
      clear hc hn h hs hg hi
      simp only
      by_cases k1 : sn < n
      · rw [if_pos k1]
        go_enter Try.func14, Try.ntmps14
        go_wp2_with (first | (go_at_call 26; refine (HC.out _).mono ?_; rintro e w2 ⟨rfl, rfl⟩) | (go_at_call 27; refine (HN.out _).mono ?_; rintro e w2 ⟨rfl, rfl⟩))
        go_ret2
        exact ⟨rfl, (Below.refl _ _).alloc (Nat.le_refl _) _⟩
      · rw [if_neg k1]
        by_cases k2 : n < sn
        · rw [if_pos k2]
          go_enter Try.func14, Try.ntmps14
          go_wp2_with (first | (go_at_call 26; refine (HC.out _).mono ?_; rintro e w2 ⟨rfl, rfl⟩) | (go_at_call 27; refine (HN.out _).mono ?_; rintro e w2 ⟨rfl, rfl⟩))
          go_ret2
          exact ⟨rfl, (Below.refl _ _).alloc (Nat.le_refl _) _⟩
        · rw [if_neg k2]
          cases sk with
          | false =>
            go_enter Try.func14, Try.ntmps14
            go_wp2_with (first | (go_at_call 26; refine (HC.out _).mono ?_; rintro e w2 ⟨rfl, rfl⟩) | (go_at_call 27; refine (HN.out _).mono ?_; rintro e w2 ⟨rfl, rfl⟩))
            go_ret2
            exact ⟨rfl, (Below.refl _ _).alloc (Nat.le_refl _) _⟩
          | true =>
            go_enter Try.func14, Try.ntmps14
            go_wp2_with (first | (go_at_call 26; refine (HC.out _).mono ?_; rintro e w2 ⟨rfl, rfl⟩) | (go_at_call 27; refine (HN.out _).mono ?_; rintro e w2 ⟨rfl, rfl⟩))
            go_quiet (fail)
            go_wp2
            go_ret2
            exact ⟨rfl, Nd.below_drewN ((Below.refl _ _).alloc (Nat.le_refl _) _) _⟩
end Go.Proofs.Ytiijlnlkhpneaaa.Se
namespace Go.Proofs.Ytiijlnlkhpneaaa.Se
open Go.RowKit
open Nd (Row wp_world post_Row grownBy_setCell below_of_grown)
def hush (s : Seat) : Seat := { s with kept := false, reply := ⟨#[]⟩ }
theorem tcells_hush : ∀ (T : List Seat) (i : Nat) (s : Seat), T[i]? = some s → ((tcells T).set (i * 5 + 3) (.bool false)).set (i * 5 + 4) (.string ⟨#[]⟩) = tcells (T.set i (hush s))
  | [], i, s, h => by simp at h
  | a :: r, 0, s, h => by
    simp at h
    subst h
    rfl
  | a :: r, i + 1, s, h => by
    have ih := tcells_hush r i s (by simpa using h)
    have e : tcells (a :: r) = a.cells ++ tcells r := rfl
    have e2 : tcells ((a :: r).set (i + 1) (hush s)) = a.cells ++ tcells (r.set i (hush s)) := rfl
    rw [e, e2, ← ih, show (i + 1) * 5 + 3 = (i * 5 + 3) + 5 by omega, show (i + 1) * 5 + 4 = (i * 5 + 4) + 5 by omega]
    rfl
def forgT (T : List Seat) (c : Int) : List Seat := if isC c then T.set (c - 1).toNat (hush (T.getD (c - 1).toNat noSeat)) else T
def forgB (T : List Seat) (c : Int) : Bool := if isC c then (T.getD (c - 1).toNat noSeat).kept else false
set_option maxHeartbeats 2000000 in
set_option maxRecDepth 100000 in
theorem forget_any {w : World} {g : Nat} {room : Int} {T : List Seat} (h : Tab w g room T) (c : Int) : Calls Try.prog 16 #[.pointer (some ⟨g, 0, none⟩), .int .i64 c] w fun e w' => e = .returned (.bool (forgB T c)) ∧ Tab w' g room (forgT T c) ∧ w.grownBy w' (some g) ∧ w'.heap.size = w.heap.size := by
  have HC := hid_in (fun W => isClient_any c W)
  unfold forgB forgT
  rcases hc : isC c with _ | _
  · rw [hc] at HC
    have H := hid_in h
    clear hc h
    go_enter Try.func16, Try.ntmps16
    go_wp2_with (first | (go_at_call 26; refine (HC.out _).mono ?_; rintro e w2 ⟨rfl, rfl⟩))
    go_ret
    exact ⟨rfl, H.out, Nd.grownBy_refl _ _, rfl⟩
  · rw [hc] at HC
    obtain ⟨i, s, hi, rfl, hs, hg⟩ := isC_at hc h.len
    rw [hg]
    simp only [if_true]
    obtain ⟨c0, c1, c2, c3, c4⟩ := h.cs hs
    have z3 := h.row.frozen (1 + i * 5 + 3)
    have z4 := h.row.frozen (1 + i * 5 + 4)
    have HR : Hid (Tab ((w.setCell ⟨g, 1 + i * 5 + 3, none⟩ (.bool false)).setCell ⟨g, 1 + i * 5 + 4, none⟩ (.string ⟨#[]⟩)) g room (T.set i (hush s))) := hid_in (by
      refine ⟨?_, by rw [List.length_set]; exact h.len⟩
      have h1 := (h.row.set_same (1 + i * 5 + 3) (.bool false)).set_same (1 + i * 5 + 4) (.string ⟨#[]⟩)
      rw [show 1 + i * 5 + 3 = (i * 5 + 3) + 1 by omega, show 1 + i * 5 + 4 = (i * 5 + 4) + 1 by omega] at h1 ⊢
      rw [List.set_cons_succ, List.set_cons_succ, tcells_hush T i s hs] at h1
      exact h1)
    have e1 : ((i : Int) + 1 - 1).toNat = i := by omega
    rw [e1]
    generalize s.kept = sk at *
    have e3 : (i : Int) < 8 := by omega
    have e4 : 0 ≤ (i : Int) := by omega
    clear hc h hs hg hi e1
    go_enter Try.func16, Try.ntmps16
    go_wp2_with (first | (go_at_call 26; refine (HC.out _).mono ?_; rintro e w2 ⟨rfl, rfl⟩))
    go_ret
    exact ⟨rfl, HR.out, Nd.grownBy_trans (grownBy_setCell _ _ _) (grownBy_setCell _ _ _), by simp [World.setCell]⟩
end Go.Proofs.Ytiijlnlkhpneaaa.Se
namespace Go.Proofs.Ytiijlnlkhpneaaa.Se
open Go.RowKit
/-- a seat that may stand at place i -/
structure Right1 (i : Nat) (s : Seat) : Prop where
  who : s = noSeat ∨ (isN s.number = true ∧ s.client = (i : Int) + 1)
  none_ : s.kept = false → s.reply = ⟨#[]⟩
  short : s.reply.size ≤ 8192
structure Right (T : List Seat) : Prop where
  len : T.length = 8
  at_ : ∀ i s, T[i]? = some s → Right1 i s
theorem Right.short {T : List Seat} (h : Right T) : ShortT T := fun s hs => by
  obtain ⟨i, hi⟩ := List.getElem?_of_mem hs
  exact (h.at_ i s hi).short
theorem right_no : Right noTab := ⟨rfl, fun i s h => by
  have : s = noSeat := List.eq_of_mem_replicate (List.mem_of_getElem? h)
  subst this
  exact ⟨.inl rfl, fun _ => rfl, by decide⟩⟩
theorem Right1.hush {i : Nat} {s : Seat} (h : Right1 i s) : Right1 i (hush s) := by
  refine ⟨?_, fun _ => rfl, by simp [Se.hush, ByteArray.size]⟩
  rcases h.who with rfl | ⟨h1, h2⟩
  · exact .inl rfl
  · exact .inr ⟨h1, h2⟩
theorem Right.set {T : List Seat} (h : Right T) (i : Nat) (s : Seat) (hs : Right1 i s) : Right (T.set i s) := ⟨by rw [List.length_set]; exact h.len, fun j x hx => by
  rw [List.getElem?_set] at hx
  by_cases hj : i = j
  · subst hj
    rw [if_pos rfl] at hx
    by_cases hl : i < T.length
    · rw [if_pos hl] at hx
      cases hx
      exact hs
    · rw [if_neg hl] at hx
      cases hx
  · rw [if_neg hj] at hx
    exact h.at_ j x hx⟩
def keptN (T : List Seat) : Nat := (T.filter (·.kept)).length
theorem pick_kept {f s : Seat} (h : f.kept = true ∨ s.kept = true) : (pickS f s).kept = true := by
  unfold pickS
  split
  · rename_i h1; exact h1.1
  · rename_i h1
    rcases h with h | h
    · exact h
    · cases hf : f.kept with
      | true => rfl
      | false => exact absurd ⟨h, .inl hf⟩ h1
theorem fold_mem : ∀ (T : List Seat) (f : Seat), T.foldl pickS f = f ∨ T.foldl pickS f ∈ T
  | [], f => .inl rfl
  | a :: r, f => by
    rw [List.foldl_cons]
    rcases fold_mem r (pickS f a) with h | h
    · rw [h]
      unfold pickS
      split
      · exact .inr (by simp)
      · exact .inl rfl
    · exact .inr (by simp [h])
theorem fold_kept : ∀ (T : List Seat) (f : Seat), (f.kept = true ∨ ∃ s ∈ T, s.kept = true) → (T.foldl pickS f).kept = true
  | [], f, h => by
    rcases h with h | ⟨s, hs, _⟩
    · exact h
    · cases hs
  | a :: r, f, h => by
    rw [List.foldl_cons]
    refine fold_kept r (pickS f a) ?_
    rcases h with h | ⟨s, hs, hk⟩
    · exact .inl (pick_kept (.inl h))
    · rcases List.mem_cons.1 hs with rfl | hs
      · exact .inl (pick_kept (.inr hk))
      · exact .inr ⟨s, hs, hk⟩
theorem sum_zero : ∀ T : List Seat, (∀ s ∈ T, s.reply.size = 0) → sumR T = 0
  | [], _ => rfl
  | a :: r, h => by
    have h1 := h a (by simp)
    have h2 := sum_zero r (fun s hs => h s (by simp [hs]))
    unfold sumR at h2 ⊢
    rw [List.map_cons, List.sum_cons, h1, h2]
theorem sum_pos {T : List Seat} (h : Right T) (hp : 0 < sumR T) : ∃ s ∈ T, s.kept = true := by
  refine Classical.byContradiction fun hno => ?_
  have h0 : ∀ s ∈ T, s.reply.size = 0 := fun s hs => by
    obtain ⟨i, hi⟩ := List.getElem?_of_mem hs
    have hk : s.kept = false := by
      cases hk : s.kept with
      | false => rfl
      | true => exact absurd ⟨s, hs, hk⟩ hno
    rw [(h.at_ i s hi).none_ hk]
    rfl
  have : sumR T = 0 := by
    exact sum_zero T h0
  omega
/-- the seat whose reply goes -/
theorem old_at {T : List Seat} (h : Right T) (hk : ∃ s ∈ T, s.kept = true) : ∃ (i : Nat) (s : Seat), T[i]? = some s ∧ s.kept = true ∧ oldS T = s ∧ i < 8 ∧ s.client = (i : Int) + 1 ∧ forgT T (oldS T).client = T.set i (hush s) := by
  have h1 : (oldS T).kept = true := fold_kept T noSeat (.inr hk)
  have h2 : oldS T ∈ T := by
    rcases fold_mem T noSeat with h2 | h2
    · unfold oldS at h1
      rw [h2] at h1
      cases h1
    · exact h2
  obtain ⟨i, hi⟩ := List.getElem?_of_mem h2
  have hl : i < 8 := by rw [← h.len]; exact (List.getElem?_eq_some_iff.1 hi).1
  have hc : (oldS T).client = (i : Int) + 1 := by
    rcases (h.at_ i _ hi).who with h3 | h3
    · rw [h3] at h1
      cases h1
    · exact h3.2
  refine ⟨i, oldS T, hi, h1, rfl, hl, hc, ?_⟩
  unfold forgT
  have hC : isC ((i : Int) + 1) = true := decide_eq_true (by omega)
  rw [hc, if_pos hC, show ((i : Int) + 1 - 1).toNat = i by omega, List.getD_eq_getElem?_getD, hi]
  rfl
theorem keptN_set : ∀ {T : List Seat} {i : Nat} {s : Seat}, T[i]? = some s → s.kept = true → keptN (T.set i (hush s)) + 1 = keptN T
  | [], i, s, h, _ => by simp at h
  | a :: r, 0, s, h, hk => by
    simp at h
    subst h
    simp [keptN, hush, hk]
  | a :: r, i + 1, s, h, hk => by
    have ih := keptN_set (T := r) (i := i) (by simpa using h) hk
    unfold keptN at ih ⊢
    rw [List.set_cons_succ, List.filter_cons, List.filter_cons]
    cases a.kept with
    | true => simp only [if_true, List.length_cons]; omega
    | false => simpa using ih
/-- replies go, till there is room -/
def mk : Nat → Int → List Seat → List Seat
  | 0, _, T => T
  | f + 1, room, T => if room < (sumR T : Int) then mk f room (forgT T (oldS T).client) else T
def mkR (room : Int) (T : List Seat) : List Seat := mk (keptN T) room T
theorem mk_done {room : Int} {T : List Seat} (h : ¬ room < (sumR T : Int)) : ∀ f, mk f room T = T
  | 0 => rfl
  | f + 1 => by unfold mk; rw [if_neg h]
theorem mk_step {room : Int} {T : List Seat} (hr : Right T) (h0 : 0 ≤ room) (h : room < (sumR T : Int)) : ∃ (i : Nat) (s : Seat), T[i]? = some s ∧ s.kept = true ∧ i < 8 ∧ forgT T (oldS T).client = T.set i (hush s) ∧ Right (T.set i (hush s)) ∧ keptN (T.set i (hush s)) + 1 = keptN T ∧ mkR room T = mkR room (T.set i (hush s)) := by
  obtain ⟨i, s, h1, h2, h3, h4, h5, h6⟩ := old_at hr (sum_pos hr (by omega))
  have h7 := keptN_set h1 h2
  refine ⟨i, s, h1, h2, h4, h6, hr.set i _ (hr.at_ i s h1).hush, h7, ?_⟩
  unfold mkR
  rw [← h7]
  show (if room < (sumR T : Int) then mk (keptN (T.set i (hush s))) room (forgT T (oldS T).client) else T) = _
  rw [if_pos h, h6]
/-- what holds behind it, by steps -/
theorem mk_ind {room : Int} (h0 : 0 ≤ room) (P : List Seat → Prop) (hP : ∀ T i s, Right T → P T → T[i]? = some s → s.kept = true → room < (sumR T : Int) → P (T.set i (hush s))) : ∀ n T, keptN T ≤ n → Right T → P T → P (mkR room T) ∧ Right (mkR room T) ∧ (sumR (mkR room T) : Int) ≤ room
  | n, T, hn, hr, hp => by
    by_cases h : room < (sumR T : Int)
    · obtain ⟨i, s, h1, h2, h3, h4, h5, h6, h7⟩ := mk_step hr h0 h
      rw [h7]
      cases n with
      | zero => omega
      | succ n => exact mk_ind h0 P hP n _ (by omega) h5 (hP T i s hr hp h1 h2 h)
    · have : mkR room T = T := mk_done h _
      rw [this]
      exact ⟨hp, hr, by omega⟩
end Go.Proofs.Ytiijlnlkhpneaaa.Se
namespace Go.Proofs.Ytiijlnlkhpneaaa.Se
open Go.RowKit
open Nd (Row wp_world post_Row grownBy_setCell below_of_grown grownBy_trans grown_of_below grownBy_refl)
set_option maxHeartbeats 4000000 in
set_option maxRecDepth 100000 in
theorem makeRoom_any {w : World} {g : Nat} {room : Int} {T : List Seat} (h : Tab w g room T) (hr : Right T) (h0 : 0 ≤ room) :
    Calls Try.prog 29 #[.pointer (some ⟨g, 0, none⟩)] w fun e w' => e = .returned (.tuple #[]) ∧ Tab w' g room (mkR room T) ∧ w.grownBy w' (some g) := by
  have H := hid_in h
  have HR := hid_in hr
  have H0 := hid_in h0
  clear h hr h0
  go_enter Try.func29, Try.ntmps29
  go_wp2_with fail
  go_loopg [3] (keptN T) (fun n v3 W => ∃ T', n = keptN T' ∧ Hid (Right T') ∧ Hid (Tab W g room T') ∧ Hid (mkR room T' = mkR room T) ∧ Hid (w.grownBy W (some g)))
  case atStart => exact ⟨T, rfl, HR.out, H.out, rfl, grownBy_refl _ _⟩
  case round =>
    obtain ⟨T', rfl, hr, ht, he, hg⟩ := hrel
    have c0 := ht.out.room_
    have HD : Hid (Below wr.heap.size wr wr.drew) := hid_in (Below.refl _ wr).drew
    have HKB := hid_in (fun W (x : Below wr.heap.size wr W) => keptBytes_any (ht.out.below x ht.out.lt) hr.out.short)
    have HCE := hid_in (fun W (x : Below wr.heap.size wr W) => (ht.out.below x ht.out.lt).room_)
    by_cases hm : room < (sumR T' : Int)
    · obtain ⟨i, s, h1, h2, h3, h4, h5, h6, h7⟩ := mk_step hr.out H0.out hm
      have HOL := hid_in (fun W (x : Below wr.heap.size wr W) => oldest_any (ht.out.below x ht.out.lt))
      have HFO := hid_in (fun W (x : Below wr.heap.size wr W) => forget_any (ht.out.below x ht.out.lt) (oldS T').client)
      rw [h4] at HFO
      have H5 := hid_in h5
      have H6 := hid_in h6
      have H7 := hid_in h7
      generalize (oldS T').client = oc at *
      generalize forgB T' oc = fb at *
      generalize T'.set i (hush s) = T2 at *
      generalize sumR T' = S at *
      clear h1 h2 h3 h4 h5 h6 h7
      go_upto_region 0 with fail
      go_region_with (first | (go_at_call 48; refine (HKB.out _ HD.out).mono ?_; rintro e w2 ⟨rfl, hb2⟩; have HB2 := hid_in (HD.out.trans (hb2.mono HD.out.size)); have c2 := HCE.out _ HB2.out; clear hb2))
      all_goals
        go_wp2_with (first | (go_at_call 49; refine (HOL.out _ HB2.out).mono ?_; rintro e w3 ⟨rfl, hb3⟩; have HB3 := hid_in (HB2.out.trans (hb3.mono HB2.out.size)); clear hb3) | (go_at_call 16; refine (HFO.out _ HB3.out).mono ?_; rintro e w4 ⟨rfl, ht4, hg4, hs4⟩; have HT4 := hid_in ht4; have HG4 := hid_in hg4; clear ht4 hg4 hs4))
        go_roundg (keptN T2)
        case measure => have := H6.out; omega
        case rel => exact ⟨T2, rfl, H5.out, HT4.out, H7.out.symm.trans he.out, grownBy_trans hg.out (grownBy_trans (grown_of_below HB3.out) HG4.out)⟩
    · have h8 : mkR room T' = T' := mk_done hm _
      have HT : Hid (T' = mkR room T) := hid_in (h8.symm.trans he.out)
      have HBT := hid_in (fun W (x : Below wr.heap.size wr W) => (ht.out.below x ht.out.lt))
      rw [HT.out] at HBT
      generalize sumR T' = S at *
      clear h8
      go_upto_region 0 with fail
      go_region_with (first | (go_at_call 48; refine (HKB.out _ HD.out).mono ?_; rintro e w2 ⟨rfl, hb2⟩; have HB2 := hid_in (HD.out.trans (hb2.mono HD.out.size)); have c2 := HCE.out _ HB2.out; clear hb2))
      all_goals
        go_wp2_with fail
        go_end0
        exact ⟨rfl, HBT.out _ HB2.out, grownBy_trans hg.out (grown_of_below HB2.out)⟩
end Go.Proofs.Ytiijlnlkhpneaaa.Se
