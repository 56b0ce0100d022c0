/-
  List. Plain facts: what goes for room. makeRoom.
-/
import Derived.Laws.Tables
import Derived.Laws.CopyOwn
import Derived.Deep.RegionLaw
import Derived.Deep.DrawnRows
import Derived.Lib.AppendZeros
import Derived.OwnWalk
import Derived.Laws.StructEq
import Derived.Test.YtiijlnlkhpneaaaD00
import Derived.Test.YtiijlnlkhpneaaaD01
import Derived.Test.YtiijlnlkhpneaaaD02
import Derived.Test.YtiijlnlkhpneaaaD03
namespace Go.Proofs.Ytiijlnlkhpneaaa.Se
open Go.RowKit
open Nd (Row wp_world grownBy_setCell below_of_grown)
def seated (s : Seat) : Bool := s.number != 0
theorem filter_yes {es : List Seat} {f : Seat → Bool} {i : Nat} {e : Seat} (h : es[i]? = some e) (hf : f e = true) : (es.take (i + 1)).filter f = (es.take i).filter f ++ [e] := by
  rw [List.take_add_one, h, List.filter_append]
  simp [hf]
theorem filter_no {es : List Seat} {f : Seat → Bool} {i : Nat} {e : Seat} (h : es[i]? = some e) (hf : f e = false) : (es.take (i + 1)).filter f = (es.take i).filter f := by
  rw [List.take_add_one, h, List.filter_append]
  simp [hf]
set_option maxHeartbeats 2000000 in
set_option maxRecDepth 100000 in
theorem list_any {w : World} {g : Nat} {room : Int} {T : List Seat} (h : Tab w g room T) :
    Calls Try.prog 13 #[.pointer (some ⟨g, 0, none⟩)] w fun e w' => ∃ v, e = .returned v ∧ SO w' w.heap.size v (T.filter seated) ∧ Below w.heap.size w w' := by
  have HRG := h.range
  have HFT := h.fits
  have HL := hid_in h.len
  have HIX := hid_in (fun i s (hi : T[i]? = some s) W => index59 h.len hi W)
  generalize tcells T = A at *
  clear h
  go_enter Try.func13, Try.ntmps13
  go_wp2_with (first | (refine wpList_load_mid rfl 59 _ rfl g 1 rfl A _ HRG.out Try.underlying59 rfl HFT.out ?_))
  go_loopw [3, 12] (fun vo vi W => ∃ i : Nat, i ≤ 8 ∧ vi = .int .i64 (i : Int) ∧ Hid (SO W w.heap.size vo ((T.take i).filter seated)) ∧ Hid (Below w.heap.size w W)) (fun _ vi _ => 8 - (intOf vi).toNat)
  case atStart => exact ⟨0, by omega, rfl, SO.nil _ _, Below.refl _ _⟩
  case round =>
    obtain ⟨i, hi, rfl, hso, hbr⟩ := hrel
    by_cases hlt : i < 8
    · obtain ⟨s, hs⟩ : ∃ s, T[i]? = some s := ⟨_, List.getElem?_eq_getElem (by rw [HL.out]; exact hlt)⟩
      have hix := HIX.out i s hs
      have HTY := hid_in (fun k => filter_yes (f := seated) hs k)
      have HTN := hid_in (fun k => filter_no (f := seated) hs k)
      have hlt2 : (i : Int) < 8 := by omega
      have HLT := hid_in hlt
      have HLE : Hid (((T.take i).filter seated).length ≤ 8) := hid_in (Nat.le_trans (List.length_filter_le _ _) (by simp; omega))
      generalize (T.take i).filter seated = X at *
      obtain ⟨sc, sn, sa, sk, sr⟩ := s
      simp only [Seat.cells] at hix
      clear hs hlt
      by_cases h0 : sn = 0
      · subst h0
        have HTK := hid_in (HTN.out rfl)
        go_wp2_with fail
        refine ⟨⟨i + 1, by have := HLT.out; omega, by go_num, ?_, hbr.out.alloc hbr.out.size _⟩, by have := HLT.out; simp [intOf]; omega⟩
        rw [HTK.out]
        exact hso.out.below ((Below.refl _ _).alloc (Nat.le_refl _) _)
      · have h1 : (sn != 0) = true := by simpa using h0
        have HTK := hid_in (HTY.out h1)
        obtain ⟨w1, HW1⟩ : ∃ w1, Hid (wr.alloc (.cells #[.int .i64 sc, .int .i64 sn, .int .i64 sa, .bool sk, .string sr] 48) = w1) := ⟨_, hid_in rfl⟩
        have HB1 : Hid (Below wr.heap.size wr w1) := by rw [← HW1.out]; exact (Below.refl _ _).alloc (Nat.le_refl _) _
        have HR1 : Hid (Row w1 wr.heap.size [.int .i64 sc, .int .i64 sn, .int .i64 sa, .bool sk, .string sr] 48) := by rw [← HW1.out]; exact Row.new wr [.int .i64 sc, .int .i64 sn, .int .i64 sa, .bool sk, .string sr] 48
        have HBW := hid_in (hbr.out.trans (HB1.out.mono hbr.out.size))
        have a0 : w1.cell? ⟨wr.heap.size, 0, none⟩ = some (.int .i64 sc) := HR1.out.cell 0
        have a1 : w1.cell? ⟨wr.heap.size, 1, none⟩ = some (.int .i64 sn) := HR1.out.cell 1
        have a2 : w1.cell? ⟨wr.heap.size, 2, none⟩ = some (.int .i64 sa) := HR1.out.cell 2
        have a3 : w1.cell? ⟨wr.heap.size, 3, none⟩ = some (.bool sk) := HR1.out.cell 3
        have a4 : w1.cell? ⟨wr.heap.size, 4, none⟩ = some (.string sr) := HR1.out.cell 4
        have HO1 := hid_in (hso.out.below HB1.out)
        have HB2 : Hid (Below w1.heap.size w1 (w1.alloc (.cells #[.int .i64 sc, .int .i64 sn, .int .i64 sa, .bool sk, .string sr] 48))) := hid_in ((Below.refl _ _).alloc (Nat.le_refl _) _)
        have HO2 := hid_in (HO1.out.below HB2.out)
        have HF2 := hid_in (sls_one w1 ⟨sc, sn, sa, sk, sr⟩)
        simp only at HF2
        have HBV := hid_in (HBW.out.trans (HB2.out.mono HBW.out.size))
        clear h0
        go_upto_region 7 with fail
        refine wp_world HW1.out ?_
        go_wp2_with (first | (at_builtin; refine wpList_app48 w.heap.size rfl _ _ rfl _ _ [⟨sc, sn, sa, sk, sr⟩] rfl HO2.out _ rfl HF2.out (by have := HLE.out; simp only [List.length_cons, List.length_nil]; omega) HBV.out.size ?_; intro v4 w4 ho4 hg4; have HB4 := hid_in (HO2.out.step HBV.out HBV.out.size hg4); have HO4 : Hid (SO w4 w.heap.size v4 (X ++ [⟨sc, sn, sa, sk, sr⟩])) := hid_in ho4; clear ho4 hg4))
        refine ⟨⟨i + 1, by have := HLT.out; omega, by go_num, ?_, HB4.out⟩, by have := HLT.out; simp [intOf]; omega⟩
        rw [HTK.out]
        exact HO4.out
    · obtain rfl : i = 8 := by omega
      have HX : Hid (T.take 8 = T) := hid_in (by rw [← HL.out, List.take_length])
      rw [HX.out] at hso
      clear hlt hi
      go_wp2_with fail
      go_ret
      exact ⟨_, rfl, hso.out, hbr.out⟩
end Go.Proofs.Ytiijlnlkhpneaaa.Se
namespace Go.Proofs.Ytiijlnlkhpneaaa.Se
open Go.RowKit
/-- a seat that may stand at place i -/
structure Right1 (i : Nat) (s : Seat) : Prop where
  who : s = noSeat ∨ (isN s.number = true ∧ s.client = (i : Int) + 1)
  none_ : s.kept = false → s.reply = ⟨#[]⟩
  short : s.reply.size ≤ 8192
structure Right (T : List Seat) : Prop where
  len : T.length = 8
  at_ : ∀ i s, T[i]? = some s → Right1 i s
theorem Right.short {T : List Seat} (h : Right T) : ShortT T := fun s hs => by
  obtain ⟨i, hi⟩ := List.getElem?_of_mem hs
  exact (h.at_ i s hi).short
theorem right_no : Right noTab := ⟨rfl, fun i s h => by
  have : s = noSeat := List.eq_of_mem_replicate (List.mem_of_getElem? h)
  subst this
  exact ⟨.inl rfl, fun _ => rfl, by decide⟩⟩
theorem Right1.hush {i : Nat} {s : Seat} (h : Right1 i s) : Right1 i (hush s) := by
  refine ⟨?_, fun _ => rfl, by simp [Se.hush, ByteArray.size]⟩
  rcases h.who with rfl | ⟨h1, h2⟩
  · exact .inl rfl
  · exact .inr ⟨h1, h2⟩
theorem Right.set {T : List Seat} (h : Right T) (i : Nat) (s : Seat) (hs : Right1 i s) : Right (T.set i s) := ⟨by rw [List.length_set]; exact h.len, fun j x hx => by
  rw [List.getElem?_set] at hx
  by_cases hj : i = j
  · subst hj
    rw [if_pos rfl] at hx
    by_cases hl : i < T.length
    · rw [if_pos hl] at hx
      cases hx
      exact hs
    · rw [if_neg hl] at hx
      cases hx
  · rw [if_neg hj] at hx
    exact h.at_ j x hx⟩
def keptN (T : List Seat) : Nat := (T.filter (·.kept)).length
theorem pick_kept {f s : Seat} (h : f.kept = true ∨ s.kept = true) : (pickS f s).kept = true := by
  unfold pickS
  split
  · rename_i h1; exact h1.1
  · rename_i h1
    rcases h with h | h
    · exact h
    · cases hf : f.kept with
      | true => rfl
      | false => exact absurd ⟨h, .inl hf⟩ h1
theorem fold_mem : ∀ (T : List Seat) (f : Seat), T.foldl pickS f = f ∨ T.foldl pickS f ∈ T
  | [], f => .inl rfl
  | a :: r, f => by
    rw [List.foldl_cons]
    rcases fold_mem r (pickS f a) with h | h
    · rw [h]
      unfold pickS
      split
      · exact .inr (by simp)
      · exact .inl rfl
    · exact .inr (by simp [h])
theorem fold_kept : ∀ (T : List Seat) (f : Seat), (f.kept = true ∨ ∃ s ∈ T, s.kept = true) → (T.foldl pickS f).kept = true
  | [], f, h => by
    rcases h with h | ⟨s, hs, _⟩
    · exact h
    · cases hs
  | a :: r, f, h => by
    rw [List.foldl_cons]
    refine fold_kept r (pickS f a) ?_
    rcases h with h | ⟨s, hs, hk⟩
    · exact .inl (pick_kept (.inl h))
    · rcases List.mem_cons.1 hs with rfl | hs
      · exact .inl (pick_kept (.inr hk))
      · exact .inr ⟨s, hs, hk⟩
theorem sum_zero : ∀ T : List Seat, (∀ s ∈ T, s.reply.size = 0) → sumR T = 0
  | [], _ => rfl
  | a :: r, h => by
    have h1 := h a (by simp)
    have h2 := sum_zero r (fun s hs => h s (by simp [hs]))
    unfold sumR at h2 ⊢
    rw [List.map_cons, List.sum_cons, h1, h2]
theorem sum_pos {T : List Seat} (h : Right T) (hp : 0 < sumR T) : ∃ s ∈ T, s.kept = true := by
  refine Classical.byContradiction fun hno => ?_
  have h0 : ∀ s ∈ T, s.reply.size = 0 := fun s hs => by
    obtain ⟨i, hi⟩ := List.getElem?_of_mem hs
    have hk : s.kept = false := by
      cases hk : s.kept with
      | false => rfl
      | true => exact absurd ⟨s, hs, hk⟩ hno
    rw [(h.at_ i s hi).none_ hk]
    rfl
  have : sumR T = 0 := by
    exact sum_zero T h0
  omega
/-- the seat whose reply goes -/
theorem old_at {T : List Seat} (h : Right T) (hk : ∃ s ∈ T, s.kept = true) : ∃ (i : Nat) (s : Seat), T[i]? = some s ∧ s.kept = true ∧ oldS T = s ∧ i < 8 ∧ s.client = (i : Int) + 1 ∧ forgT T (oldS T).client = T.set i (hush s) := by
  have h1 : (oldS T).kept = true := fold_kept T noSeat (.inr hk)
  have h2 : oldS T ∈ T := by
    rcases fold_mem T noSeat with h2 | h2
    · unfold oldS at h1
      rw [h2] at h1
      cases h1
    · exact h2
  obtain ⟨i, hi⟩ := List.getElem?_of_mem h2
  have hl : i < 8 := by rw [← h.len]; exact (List.getElem?_eq_some_iff.1 hi).1
  have hc : (oldS T).client = (i : Int) + 1 := by
    rcases (h.at_ i _ hi).who with h3 | h3
    · rw [h3] at h1
      cases h1
    · exact h3.2
  refine ⟨i, oldS T, hi, h1, rfl, hl, hc, ?_⟩
  unfold forgT
  have hC : isC ((i : Int) + 1) = true := decide_eq_true (by omega)
  rw [hc, if_pos hC, show ((i : Int) + 1 - 1).toNat = i by omega, List.getD_eq_getElem?_getD, hi]
  rfl
theorem keptN_set : ∀ {T : List Seat} {i : Nat} {s : Seat}, T[i]? = some s → s.kept = true → keptN (T.set i (hush s)) + 1 = keptN T
  | [], i, s, h, _ => by simp at h
  | a :: r, 0, s, h, hk => by
    simp at h
    subst h
    simp [keptN, hush, hk]
  | a :: r, i + 1, s, h, hk => by
    have ih := keptN_set (T := r) (i := i) (by simpa using h) hk
    unfold keptN at ih ⊢
    rw [List.set_cons_succ, List.filter_cons, List.filter_cons]
    cases a.kept with
    | true => simp only [if_true, List.length_cons]; omega
    | false => simpa using ih
/-- replies go, till there is room -/
def mk : Nat → Int → List Seat → List Seat
  | 0, _, T => T
  | f + 1, room, T => if room < (sumR T : Int) then mk f room (forgT T (oldS T).client) else T
def mkR (room : Int) (T : List Seat) : List Seat := mk (keptN T) room T
theorem mk_done {room : Int} {T : List Seat} (h : ¬ room < (sumR T : Int)) : ∀ f, mk f room T = T
  | 0 => rfl
  | f + 1 => by unfold mk; rw [if_neg h]
theorem mk_step {room : Int} {T : List Seat} (hr : Right T) (h0 : 0 ≤ room) (h : room < (sumR T : Int)) : ∃ (i : Nat) (s : Seat), T[i]? = some s ∧ s.kept = true ∧ i < 8 ∧ forgT T (oldS T).client = T.set i (hush s) ∧ Right (T.set i (hush s)) ∧ keptN (T.set i (hush s)) + 1 = keptN T ∧ mkR room T = mkR room (T.set i (hush s)) := by
  obtain ⟨i, s, h1, h2, h3, h4, h5, h6⟩ := old_at hr (sum_pos hr (by omega))
  have h7 := keptN_set h1 h2
  refine ⟨i, s, h1, h2, h4, h6, hr.set i _ (hr.at_ i s h1).hush, h7, ?_⟩
  unfold mkR
  rw [← h7]
  show (if room < (sumR T : Int) then mk (keptN (T.set i (hush s))) room (forgT T (oldS T).client) else T) = _
  rw [if_pos h, h6]
/-- what holds behind it, by steps -/
theorem mk_ind {room : Int} (h0 : 0 ≤ room) (P : List Seat → Prop) (hP : ∀ T i s, Right T → P T → T[i]? = some s → s.kept = true → room < (sumR T : Int) → P (T.set i (hush s))) : ∀ n T, keptN T ≤ n → Right T → P T → P (mkR room T) ∧ Right (mkR room T) ∧ (sumR (mkR room T) : Int) ≤ room
  | n, T, hn, hr, hp => by
    by_cases h : room < (sumR T : Int)
    · obtain ⟨i, s, h1, h2, h3, h4, h5, h6, h7⟩ := mk_step hr h0 h
      rw [h7]
      cases n with
      | zero => omega
      | succ n => exact mk_ind h0 P hP n _ (by omega) h5 (hP T i s hr hp h1 h2 h)
    · have : mkR room T = T := mk_done h _
      rw [this]
      exact ⟨hp, hr, by omega⟩
end Go.Proofs.Ytiijlnlkhpneaaa.Se
namespace Go.Proofs.Ytiijlnlkhpneaaa.Se
open Go.RowKit
open Nd (Row wp_world grownBy_setCell below_of_grown grownBy_trans grown_of_below grownBy_refl)
set_option maxHeartbeats 4000000 in
set_option maxRecDepth 100000 in
theorem makeRoom_any {w : World} {g : Nat} {room : Int} {T : List Seat} (h : Tab w g room T) (hr : Right T) (h0 : 0 ≤ room) :
    Calls Try.prog 29 #[.pointer (some ⟨g, 0, none⟩)] w fun e w' => e = .returned (.tuple #[]) ∧ Tab w' g room (mkR room T) ∧ w.grownBy w' (some g) := by
  have H := hid_in h
  have HR := hid_in hr
  have H0 := hid_in h0
  clear h hr h0
  go_enter Try.func29, Try.ntmps29
  go_wp2_with fail
  go_loopg [3] (keptN T) (fun n v3 W => ∃ T', n = keptN T' ∧ Hid (Right T') ∧ Hid (Tab W g room T') ∧ Hid (mkR room T' = mkR room T) ∧ Hid (w.grownBy W (some g)))
  case atStart => exact ⟨T, rfl, HR.out, H.out, rfl, grownBy_refl _ _⟩
  case round =>
    obtain ⟨T', rfl, hr, ht, he, hg⟩ := hrel
    have c0 := ht.out.room_
    have HD : Hid (Below wr.heap.size wr wr.drew) := hid_in (Below.refl _ wr).drew
    have HKB := hid_in (fun W (x : Below wr.heap.size wr W) => keptBytes_any (ht.out.below x ht.out.lt) hr.out.short)
    have HCE := hid_in (fun W (x : Below wr.heap.size wr W) => (ht.out.below x ht.out.lt).room_)
    by_cases hm : room < (sumR T' : Int)
    · obtain ⟨i, s, h1, h2, h3, h4, h5, h6, h7⟩ := mk_step hr.out H0.out hm
      have HOL := hid_in (fun W (x : Below wr.heap.size wr W) => oldest_any (ht.out.below x ht.out.lt))
      have HFO := hid_in (fun W (x : Below wr.heap.size wr W) => forget_any (ht.out.below x ht.out.lt) (oldS T').client)
      rw [h4] at HFO
      have H5 := hid_in h5
      have H6 := hid_in h6
      have H7 := hid_in h7
      generalize (oldS T').client = oc at *
      generalize forgB T' oc = fb at *
      generalize T'.set i (hush s) = T2 at *
      generalize sumR T' = S at *
      clear h1 h2 h3 h4 h5 h6 h7
      go_upto_region 0 with fail
      go_region_with (first | (go_at_call 48; refine (HKB.out _ HD.out).mono ?_; rintro e w2 ⟨rfl, hb2⟩; have HB2 := hid_in (HD.out.trans (hb2.mono HD.out.size)); have c2 := HCE.out _ HB2.out; clear hb2))
      all_goals
        go_wp2_with (first | (go_at_call 49; refine (HOL.out _ HB2.out).mono ?_; rintro e w3 ⟨rfl, hb3⟩; have HB3 := hid_in (HB2.out.trans (hb3.mono HB2.out.size)); clear hb3) | (go_at_call 16; refine (HFO.out _ HB3.out).mono ?_; rintro e w4 ⟨rfl, ht4, hg4, hs4⟩; have HT4 := hid_in ht4; have HG4 := hid_in hg4; clear ht4 hg4 hs4))
        go_roundg (keptN T2)
        case measure => have := H6.out; omega
        case rel => exact ⟨T2, rfl, H5.out, HT4.out, H7.out.symm.trans he.out, grownBy_trans hg.out (grownBy_trans (grown_of_below HB3.out) HG4.out)⟩
    · have h8 : mkR room T' = T' := mk_done hm _
      have HT : Hid (T' = mkR room T) := hid_in (h8.symm.trans he.out)
      have HBT := hid_in (fun W (x : Below wr.heap.size wr W) => (ht.out.below x ht.out.lt))
      rw [HT.out] at HBT
      generalize sumR T' = S at *
      clear h8
      go_upto_region 0 with fail
      go_region_with (first | (go_at_call 48; refine (HKB.out _ HD.out).mono ?_; rintro e w2 ⟨rfl, hb2⟩; have HB2 := hid_in (HD.out.trans (hb2.mono HD.out.size)); have c2 := HCE.out _ HB2.out; clear hb2))
      all_goals
        go_wp2_with fail
        go_end0
        exact ⟨rfl, HBT.out _ HB2.out, grownBy_trans hg.out (grown_of_below HB2.out)⟩
end Go.Proofs.Ytiijlnlkhpneaaa.Se
