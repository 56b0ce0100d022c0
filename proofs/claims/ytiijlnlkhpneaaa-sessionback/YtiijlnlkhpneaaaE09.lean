/-
  Plain facts: what goes for room. makeRoom. Record.
-/
import Derived.OwnWalk
import Derived.Laws.Tables
import Derived.Laws.CopyOwn
import Derived.Deep.RegionLaw
import Derived.Deep.DrawnRows
import Derived.Test.YtiijlnlkhpneaaaE00
import Derived.Test.YtiijlnlkhpneaaaE01
import Derived.Test.YtiijlnlkhpneaaaE02
import Derived.Test.YtiijlnlkhpneaaaE03
import Derived.Test.YtiijlnlkhpneaaaE04
import Derived.Test.YtiijlnlkhpneaaaE05
import Derived.Test.YtiijlnlkhpneaaaE06
import Derived.Test.YtiijlnlkhpneaaaE07
import Derived.Test.YtiijlnlkhpneaaaE08
namespace Go.Proofs.Ytiijlnlkhpneaaa.Se
open Go.RowKit
/-- a seat that may stand at place i -/
structure Right1 (i : Nat) (s : Seat) : Prop where
  who : s = noSeat ∨ (isN s.number = true ∧ s.client = (i : Int) + 1)
  none_ : s.kept = false → s.reply = ⟨#[]⟩
  short : s.reply.size ≤ 8192
structure Right (T : List Seat) : Prop where
  len : T.length = 8
  at_ : ∀ i s, T[i]? = some s → Right1 i s
theorem Right.short {T : List Seat} (h : Right T) : ShortT T := fun s hs => by
  obtain ⟨i, hi⟩ := List.getElem?_of_mem hs
  exact (h.at_ i s hi).short
theorem right_no : Right noTab := ⟨rfl, fun i s h => by
  have : s = noSeat := List.eq_of_mem_replicate (List.mem_of_getElem? h)
  subst this
  exact ⟨.inl rfl, fun _ => rfl, by decide⟩⟩
theorem Right1.hush {i : Nat} {s : Seat} (h : Right1 i s) : Right1 i (hush s) := by
  refine ⟨?_, fun _ => rfl, by simp [Se.hush, ByteArray.size]⟩
  rcases h.who with rfl | ⟨h1, h2⟩
  · exact .inl rfl
  · exact .inr ⟨h1, h2⟩
theorem Right.set {T : List Seat} (h : Right T) (i : Nat) (s : Seat) (hs : Right1 i s) : Right (T.set i s) := ⟨by rw [List.length_set]; exact h.len, fun j x hx => by
  rw [List.getElem?_set] at hx
  by_cases hj : i = j
  · subst hj
    rw [if_pos rfl] at hx
    by_cases hl : i < T.length
    · rw [if_pos hl] at hx
      cases hx
      exact hs
    · rw [if_neg hl] at hx
      cases hx
  · rw [if_neg hj] at hx
    exact h.at_ j x hx⟩
def keptN (T : List Seat) : Nat := (T.filter (·.kept)).length
theorem pick_kept {f s : Seat} (h : f.kept = true ∨ s.kept = true) : (pickS f s).kept = true := by
  unfold pickS
  split
  · rename_i h1; exact h1.1
  · rename_i h1
    rcases h with h | h
    · exact h
    · cases hf : f.kept with
      | true => rfl
      | false => exact absurd ⟨h, .inl hf⟩ h1
theorem fold_mem : ∀ (T : List Seat) (f : Seat), T.foldl pickS f = f ∨ T.foldl pickS f ∈ T
  | [], f => .inl rfl
  | a :: r, f => by
    rw [List.foldl_cons]
    rcases fold_mem r (pickS f a) with h | h
    · rw [h]
      unfold pickS
      split
      · exact .inr (by simp)
      · exact .inl rfl
    · exact .inr (by simp [h])
theorem fold_kept : ∀ (T : List Seat) (f : Seat), (f.kept = true ∨ ∃ s ∈ T, s.kept = true) → (T.foldl pickS f).kept = true
  | [], f, h => by
    rcases h with h | ⟨s, hs, _⟩
    · exact h
    · cases hs
  | a :: r, f, h => by
    rw [List.foldl_cons]
    refine fold_kept r (pickS f a) ?_
    rcases h with h | ⟨s, hs, hk⟩
    · exact .inl (pick_kept (.inl h))
    · rcases List.mem_cons.1 hs with rfl | hs
      · exact .inl (pick_kept (.inr hk))
      · exact .inr ⟨s, hs, hk⟩
theorem sum_zero : ∀ T : List Seat, (∀ s ∈ T, s.reply.size = 0) → sumR T = 0
  | [], _ => rfl
  | a :: r, h => by
    have h1 := h a (by simp)
    have h2 := sum_zero r (fun s hs => h s (by simp [hs]))
    unfold sumR at h2 ⊢
    rw [List.map_cons, List.sum_cons, h1, h2]
theorem sum_pos {T : List Seat} (h : Right T) (hp : 0 < sumR T) : ∃ s ∈ T, s.kept = true := by
  refine Classical.byContradiction fun hno => ?_
  have h0 : ∀ s ∈ T, s.reply.size = 0 := fun s hs => by
    obtain ⟨i, hi⟩ := List.getElem?_of_mem hs
    have hk : s.kept = false := by
      cases hk : s.kept with
      | false => rfl
      | true => exact absurd ⟨s, hs, hk⟩ hno
    rw [(h.at_ i s hi).none_ hk]
    rfl
  have : sumR T = 0 := by
    exact sum_zero T h0
  omega
/-- the seat whose reply goes -/
theorem old_at {T : List Seat} (h : Right T) (hk : ∃ s ∈ T, s.kept = true) : ∃ (i : Nat) (s : Seat), T[i]? = some s ∧ s.kept = true ∧ oldS T = s ∧ i < 8 ∧ s.client = (i : Int) + 1 ∧ forgT T (oldS T).client = T.set i (hush s) := by
  have h1 : (oldS T).kept = true := fold_kept T noSeat (.inr hk)
  have h2 : oldS T ∈ T := by
    rcases fold_mem T noSeat with h2 | h2
    · unfold oldS at h1
      rw [h2] at h1
      cases h1
    · exact h2
  obtain ⟨i, hi⟩ := List.getElem?_of_mem h2
  have hl : i < 8 := by rw [← h.len]; exact (List.getElem?_eq_some_iff.1 hi).1
  have hc : (oldS T).client = (i : Int) + 1 := by
    rcases (h.at_ i _ hi).who with h3 | h3
    · rw [h3] at h1
      cases h1
    · exact h3.2
  refine ⟨i, oldS T, hi, h1, rfl, hl, hc, ?_⟩
  unfold forgT
  have hC : isC ((i : Int) + 1) = true := decide_eq_true (by omega)
  rw [hc, if_pos hC, show ((i : Int) + 1 - 1).toNat = i by omega, List.getD_eq_getElem?_getD, hi]
  rfl
theorem keptN_set : ∀ {T : List Seat} {i : Nat} {s : Seat}, T[i]? = some s → s.kept = true → keptN (T.set i (hush s)) + 1 = keptN T
  | [], i, s, h, _ => by simp at h
  | a :: r, 0, s, h, hk => by
    simp at h
    subst h
    simp [keptN, hush, hk]
  | a :: r, i + 1, s, h, hk => by
    have ih := keptN_set (T := r) (i := i) (by simpa using h) hk
    unfold keptN at ih ⊢
    rw [List.set_cons_succ, List.filter_cons, List.filter_cons]
    cases a.kept with
    | true => simp only [if_true, List.length_cons]; omega
    | false => simpa using ih
/-- replies go, till there is room -/
def mk : Nat → Int → List Seat → List Seat
  | 0, _, T => T
  | f + 1, room, T => if room < (sumR T : Int) then mk f room (forgT T (oldS T).client) else T
def mkR (room : Int) (T : List Seat) : List Seat := mk (keptN T) room T
theorem mk_done {room : Int} {T : List Seat} (h : ¬ room < (sumR T : Int)) : ∀ f, mk f room T = T
  | 0 => rfl
  | f + 1 => by unfold mk; rw [if_neg h]
theorem mk_step {room : Int} {T : List Seat} (hr : Right T) (h0 : 0 ≤ room) (h : room < (sumR T : Int)) : ∃ (i : Nat) (s : Seat), T[i]? = some s ∧ s.kept = true ∧ i < 8 ∧ forgT T (oldS T).client = T.set i (hush s) ∧ Right (T.set i (hush s)) ∧ keptN (T.set i (hush s)) + 1 = keptN T ∧ mkR room T = mkR room (T.set i (hush s)) := by
  obtain ⟨i, s, h1, h2, h3, h4, h5, h6⟩ := old_at hr (sum_pos hr (by omega))
  have h7 := keptN_set h1 h2
  refine ⟨i, s, h1, h2, h4, h6, hr.set i _ (hr.at_ i s h1).hush, h7, ?_⟩
  unfold mkR
  rw [← h7]
  show (if room < (sumR T : Int) then mk (keptN (T.set i (hush s))) room (forgT T (oldS T).client) else T) = _
  rw [if_pos h, h6]
/-- what holds behind it, by steps -/
theorem mk_ind {room : Int} (h0 : 0 ≤ room) (P : List Seat → Prop) (hP : ∀ T i s, Right T → P T → T[i]? = some s → s.kept = true → room < (sumR T : Int) → P (T.set i (hush s))) : ∀ n T, keptN T ≤ n → Right T → P T → P (mkR room T) ∧ Right (mkR room T) ∧ (sumR (mkR room T) : Int) ≤ room
  | n, T, hn, hr, hp => by
    by_cases h : room < (sumR T : Int)
    · obtain ⟨i, s, h1, h2, h3, h4, h5, h6, h7⟩ := mk_step hr h0 h
      rw [h7]
      cases n with
      | zero => omega
      | succ n => exact mk_ind h0 P hP n _ (by omega) h5 (hP T i s hr hp h1 h2 h)
    · have : mkR room T = T := mk_done h _
      rw [this]
      exact ⟨hp, hr, by omega⟩
end Go.Proofs.Ytiijlnlkhpneaaa.Se
namespace Go.Proofs.Ytiijlnlkhpneaaa.Se
open Go.RowKit
open Nd (Row wp_world post_Row grownBy_setCell below_of_grown grownBy_trans grown_of_below grownBy_refl)
set_option maxHeartbeats 4000000 in
set_option maxRecDepth 100000 in
theorem makeRoom_any {w : World} {g : Nat} {room : Int} {T : List Seat} (h : Tab w g room T) (hr : Right T) (h0 : 0 ≤ room) :
    Calls Try.prog 29 #[.pointer (some ⟨g, 0, none⟩)] w fun e w' => e = .returned (.tuple #[]) ∧ Tab w' g room (mkR room T) ∧ w.grownBy w' (some g) := by
  have H := hid_in h
  have HR := hid_in hr
  have H0 := hid_in h0
  clear h hr h0
  go_enter Try.func29, Try.ntmps29
  go_wp2_with fail
  go_loopg [3] (keptN T) (fun n v3 W => ∃ T', n = keptN T' ∧ Hid (Right T') ∧ Hid (Tab W g room T') ∧ Hid (mkR room T' = mkR room T) ∧ Hid (w.grownBy W (some g)))
  case atStart => exact ⟨T, rfl, HR.out, H.out, rfl, grownBy_refl _ _⟩
  case round =>
    obtain ⟨T', rfl, hr, ht, he, hg⟩ := hrel
    have c0 := ht.out.room_
    have HD : Hid (Below wr.heap.size wr wr.drew) := hid_in (Below.refl _ wr).drew
    have HKB := hid_in (fun W (x : Below wr.heap.size wr W) => keptBytes_any (ht.out.below x ht.out.lt) hr.out.short)
    have HCE := hid_in (fun W (x : Below wr.heap.size wr W) => (ht.out.below x ht.out.lt).room_)
    by_cases hm : room < (sumR T' : Int)
    · obtain ⟨i, s, h1, h2, h3, h4, h5, h6, h7⟩ := mk_step hr.out H0.out hm
      have HOL := hid_in (fun W (x : Below wr.heap.size wr W) => oldest_any (ht.out.below x ht.out.lt))
      have HFO := hid_in (fun W (x : Below wr.heap.size wr W) => forget_any (ht.out.below x ht.out.lt) (oldS T').client)
      rw [h4] at HFO
      have H5 := hid_in h5
      have H6 := hid_in h6
      have H7 := hid_in h7
      generalize (oldS T').client = oc at *
      generalize forgB T' oc = fb at *
      generalize T'.set i (hush s) = T2 at *
      generalize sumR T' = S at *
      clear h1 h2 h3 h4 h5 h6 h7
      go_upto_region 0 with fail
      go_region_with (first | (go_at_call 48; refine (HKB.out _ HD.out).mono ?_; rintro e w2 ⟨rfl, hb2⟩; have HB2 := hid_in (HD.out.trans (hb2.mono HD.out.size)); have c2 := HCE.out _ HB2.out; clear hb2))
      all_goals
        go_wp2_with (first | (go_at_call 49; refine (HOL.out _ HB2.out).mono ?_; rintro e w3 ⟨rfl, hb3⟩; have HB3 := hid_in (HB2.out.trans (hb3.mono HB2.out.size)); clear hb3) | (go_at_call 16; refine (HFO.out _ HB3.out).mono ?_; rintro e w4 ⟨rfl, ht4, hg4, hs4⟩; have HT4 := hid_in ht4; have HG4 := hid_in hg4; clear ht4 hg4 hs4))
        go_roundg (keptN T2)
        case measure => have := H6.out; omega
        case rel => exact ⟨T2, rfl, H5.out, HT4.out, H7.out.symm.trans he.out, grownBy_trans hg.out (grownBy_trans (grown_of_below HB3.out) HG4.out)⟩
    · have h8 : mkR room T' = T' := mk_done hm _
      have HT : Hid (T' = mkR room T) := hid_in (h8.symm.trans he.out)
      have HBT := hid_in (fun W (x : Below wr.heap.size wr W) => (ht.out.below x ht.out.lt))
      rw [HT.out] at HBT
      generalize sumR T' = S at *
      clear h8
      go_upto_region 0 with fail
      go_region_with (first | (go_at_call 48; refine (HKB.out _ HD.out).mono ?_; rintro e w2 ⟨rfl, hb2⟩; have HB2 := hid_in (HD.out.trans (hb2.mono HD.out.size)); have c2 := HCE.out _ HB2.out; clear hb2))
      all_goals
        go_wp2_with fail
        go_end0
        exact ⟨rfl, HBT.out _ HB2.out, grownBy_trans hg.out (grown_of_below HB2.out)⟩
end Go.Proofs.Ytiijlnlkhpneaaa.Se
namespace Go.Proofs.Ytiijlnlkhpneaaa.Se
open Go.RowKit
open Nd (Row wp_world post_Row grownBy_setCell below_of_grown grownBy_trans grown_of_below grownBy_refl)
/-- what is wrong with a record -/
def recE (T : List Seat) (c n : Int) (r : ByteArray) : Int := if (lookS T c n).1 = 0 then 1 else if (lookS T c n).1 = 1 then (if 8192 < (r.size : Int) then 2 else 0) else 6
def recT (room : Int) (T : List Seat) (c n a : Int) (r : ByteArray) : List Seat := if recE T c n r = 0 then mkR room (T.set (c - 1).toNat ⟨c, n, a, true, r⟩) else T
theorem record_nil (c n a : Int) (r : ByteArray) (w : World) : Calls Try.prog 17 #[.pointer none, .int .i64 c, .int .i64 n, .int .i64 a, .string r] w fun e w' => e = .returned (.int .i64 7) ∧ w' = w := by
  go_enter Try.func17, Try.ntmps17
  go_wp2
  go_ret
  exact ⟨rfl, rfl⟩
theorem tcells_put5 : ∀ (T : List Seat) (i : Nat) (s : Seat), i < T.length → (((((tcells T).set (i * 5) (.int .i64 s.client)).set (i * 5 + 1) (.int .i64 s.number)).set (i * 5 + 2) (.int .i64 s.at_)).set (i * 5 + 3) (.bool s.kept)).set (i * 5 + 4) (.string s.reply) = tcells (T.set i s)
  | [], i, s, h => by simp at h
  | a :: r, 0, s, h => rfl
  | a :: r, i + 1, s, h => by
    have ih := tcells_put5 r i s (by simpa using h)
    have e : tcells (a :: r) = a.cells ++ tcells r := rfl
    have e2 : tcells ((a :: r).set (i + 1) s) = a.cells ++ tcells (r.set i s) := rfl
    rw [e, e2, ← ih, show (i + 1) * 5 + 3 = (i * 5 + 3) + 5 by omega, show (i + 1) * 5 + 4 = (i * 5 + 4) + 5 by omega, show (i + 1) * 5 + 2 = (i * 5 + 2) + 5 by omega, show (i + 1) * 5 + 1 = (i * 5 + 1) + 5 by omega, show (i + 1) * 5 = (i * 5) + 5 by omega]
    rfl
theorem tab_put5 {w : World} {g : Nat} {room : Int} {T : List Seat} (h : Tab w g room T) (i : Nat) (hi : i < 8) (s : Seat) : Tab (((((w.setCell ⟨g, 1 + i * 5, none⟩ (.int .i64 s.client)).setCell ⟨g, 1 + i * 5 + 1, none⟩ (.int .i64 s.number)).setCell ⟨g, 1 + i * 5 + 2, none⟩ (.int .i64 s.at_)).setCell ⟨g, 1 + i * 5 + 3, none⟩ (.bool s.kept)).setCell ⟨g, 1 + i * 5 + 4, none⟩ (.string s.reply)) g room (T.set i s) := by
  refine ⟨?_, by rw [List.length_set]; exact h.len⟩
  have h1 := ((((h.row.set_same (1 + i * 5) (.int .i64 s.client)).set_same (1 + i * 5 + 1) (.int .i64 s.number)).set_same (1 + i * 5 + 2) (.int .i64 s.at_)).set_same (1 + i * 5 + 3) (.bool s.kept)).set_same (1 + i * 5 + 4) (.string s.reply)
  rw [show 1 + i * 5 + 3 = (i * 5 + 3) + 1 by omega, show 1 + i * 5 + 4 = (i * 5 + 4) + 1 by omega, show 1 + i * 5 + 2 = (i * 5 + 2) + 1 by omega, show 1 + i * 5 + 1 = (i * 5 + 1) + 1 by omega, show 1 + i * 5 = (i * 5) + 1 by omega] at h1 ⊢
  rw [List.set_cons_succ, List.set_cons_succ, List.set_cons_succ, List.set_cons_succ, List.set_cons_succ, tcells_put5 T i s (by rw [h.len]; exact hi)] at h1
  exact h1
theorem look_range (T : List Seat) (c n : Int) (h : (lookS T c n).1 ≠ 0) : isC c = true ∧ isN n = true := by
  unfold lookS at h
  cases hc : isC c <;> cases hn : isN n <;> simp [hc, hn] at h ⊢
theorem right_put {T : List Seat} (hr : Right T) {i : Nat} {n a : Int} {r : ByteArray} (hn : isN n = true) (hl : r.size ≤ 8192) : Right (T.set i ⟨(i : Int) + 1, n, a, true, r⟩) :=
  hr.set i _ ⟨.inr ⟨hn, rfl⟩, (fun h => by cases h), hl⟩
set_option maxHeartbeats 4000000 in
set_option maxRecDepth 100000 in
theorem record_any {w : World} {g : Nat} {room : Int} {T : List Seat} (h : Tab w g room T) (hr : Right T) (h0 : 0 ≤ room) (c n a : Int) (r : ByteArray) :
    Calls Try.prog 17 #[.pointer (some ⟨g, 0, none⟩), .int .i64 c, .int .i64 n, .int .i64 a, .string r] w fun e w' => e = .returned (.int .i64 (recE T c n r)) ∧ Tab w' g room (recT room T c n a r) ∧ w.grownBy w' (some g) := by
  have H := hid_in h
  have HLK := hid_in (look_any h c n)
  have HIN := hid_in (look_range T c n)
  unfold recT
  unfold recE
  generalize (lookS T c n).2 = lr at *
  generalize (lookS T c n).1 = st at *
  by_cases k0 : st = 0
  · subst k0
    rw [if_pos rfl, if_neg (by decide)]
    clear h hr h0
    go_enter Try.func17, Try.ntmps17
    go_wp2_with (first | (go_at_call 14; refine HLK.out.mono ?_; rintro e w2 ⟨rfl, hb2⟩; have HB2 := hid_in hb2; clear hb2))
    go_ret
    exact ⟨rfl, H.out.below HB2.out H.out.lt, grown_of_below HB2.out⟩
  · rw [if_neg k0]
    have k0b : (st == 0) = false := by simpa using k0
    by_cases k1 : st = 1
    · subst k1
      rw [if_pos rfl]
      obtain ⟨hc, hn⟩ := HIN.out k0
      clear k0b
      by_cases k2 : 8192 < (r.size : Int)
      · rw [if_pos k2, if_neg (by decide)]
        clear h hr h0 hc hn
        go_enter Try.func17, Try.ntmps17
        go_wp2_with (first | (go_at_call 14; refine HLK.out.mono ?_; rintro e w2 ⟨rfl, hb2⟩; have HB2 := hid_in hb2; clear hb2))
        go_ret
        exact ⟨rfl, H.out.below HB2.out H.out.lt, grown_of_below HB2.out⟩
      · rw [if_neg k2, if_pos rfl]
        obtain ⟨i, s, hi, rfl, hs, -⟩ := isC_at hc h.len
        have e1 : ((i : Int) + 1 - 1).toNat = i := by omega
        rw [e1]
        have HI := hid_in hi
        have HRP := hid_in (right_put (i := i) (a := a) hr hn (by omega : r.size ≤ 8192))
        have HCS := hid_in (fun W (x : Below w.heap.size w W) => (h.below x h.lt).cs hs)
        have HZ := hid_in (fun W (x : Below w.heap.size w W) j => (h.below x h.lt).row.frozen j)
        have HMR := hid_in (fun W (x : Tab W g room (T.set i ⟨(i : Int) + 1, n, a, true, r⟩)) => makeRoom_any x HRP.out h0)
        have e3 : (i : Int) < 8 := by omega
        have e4 : 0 ≤ (i : Int) := by omega
        clear h hr h0 hc hn hs e1 hi k0
        go_enter Try.func17, Try.ntmps17
        go_upto_region 10 with (first | (go_at_call 14; refine HLK.out.mono ?_; rintro e w2 ⟨rfl, hb2⟩; have HB2 := hid_in hb2; clear hb2))
        obtain ⟨c0, c1, c2, c3, c4⟩ := HCS.out _ HB2.out
        have z0 := HZ.out _ HB2.out (1 + i * 5)
        have z1 := HZ.out _ HB2.out (1 + i * 5 + 1)
        have z2 := HZ.out _ HB2.out (1 + i * 5 + 2)
        have z3 := HZ.out _ HB2.out (1 + i * 5 + 3)
        have z4 := HZ.out _ HB2.out (1 + i * 5 + 4)
        have HT3 := hid_in (tab_put5 (H.out.below HB2.out H.out.lt) i HI.out ⟨(i : Int) + 1, n, a, true, r⟩)
        simp only at HT3
        have HG3 : Hid (w2.grownBy (((((w2.setCell ⟨g, 1 + i * 5, none⟩ (.int .i64 ((i : Int) + 1))).setCell ⟨g, 1 + i * 5 + 1, none⟩ (.int .i64 n)).setCell ⟨g, 1 + i * 5 + 2, none⟩ (.int .i64 a)).setCell ⟨g, 1 + i * 5 + 3, none⟩ (.bool true)).setCell ⟨g, 1 + i * 5 + 4, none⟩ (.string r)) (some g)) := hid_in (grownBy_trans (grownBy_trans (grownBy_trans (grownBy_trans (grownBy_setCell _ _ _) (grownBy_setCell _ _ _)) (grownBy_setCell _ _ _)) (grownBy_setCell _ _ _)) (grownBy_setCell _ _ _))
        go_wp2_with (first | (go_at_call 29; refine (HMR.out _ HT3.out).mono ?_; rintro e w5 ⟨rfl, ht5, hg5⟩; have HT5 := hid_in ht5; have HG5 := hid_in hg5; clear ht5 hg5))
        go_ret
        exact ⟨rfl, HT5.out, grownBy_trans (grown_of_below HB2.out) (grownBy_trans HG3.out HG5.out)⟩
    · rw [if_neg k1, if_neg (by decide)]
      have k1b : (st != 1) = true := by simpa using k1
      clear h hr h0 k0 k1
      go_enter Try.func17, Try.ntmps17
      go_wp2_with (first | (go_at_call 14; refine HLK.out.mono ?_; rintro e w2 ⟨rfl, hb2⟩; have HB2 := hid_in hb2; clear hb2))
      go_ret
      exact ⟨rfl, H.out.below HB2.out H.out.lt, grown_of_below HB2.out⟩
end Go.Proofs.Ytiijlnlkhpneaaa.Se
