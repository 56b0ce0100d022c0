/-
  What stays so, whatever is played or read; bytes.Equal. Decode; the program's Clone. Both tables' Clone. A script that comes in. The walk of SessionPlays.
-/
import Derived.Deep.CutRange
import Derived.OwnWalk
import Derived.Laws.CopyOwn
import Derived.Laws.Tables
import Derived.Deep.RegionLaw
import Derived.Deep.DrawnRows
import Derived.ProofKit
import Derived.OpenShut
import Derived.ShutString
import Derived.ChangeOld
import Derived.Deep.DeepHandedRow
import Derived.Deep.Slices
import Derived.SizedLaws
import Derived.Lib.LaidTab
import Derived.Test.YtiijlnlkhpneaaaF00
import Derived.Test.YtiijlnlkhpneaaaF01
import Derived.Test.YtiijlnlkhpneaaaF02
import Derived.Test.YtiijlnlkhpneaaaF03
import Derived.Test.YtiijlnlkhpneaaaF04
import Derived.Test.YtiijlnlkhpneaaaF05
import Derived.Test.YtiijlnlkhpneaaaF06
import Derived.Test.YtiijlnlkhpneaaaF07
import Derived.Test.YtiijlnlkhpneaaaF08
import Derived.Test.YtiijlnlkhpneaaaF09
import Derived.Test.YtiijlnlkhpneaaaF10
import Derived.Test.YtiijlnlkhpneaaaF11
import Derived.Test.YtiijlnlkhpneaaaF12
import Derived.Test.YtiijlnlkhpneaaaF13
import Derived.Test.YtiijlnlkhpneaaaF14
import Derived.Test.YtiijlnlkhpneaaaF15
import Derived.Test.YtiijlnlkhpneaaaF16
import Derived.Test.YtiijlnlkhpneaaaF17
import Derived.Test.YtiijlnlkhpneaaaF18
import Derived.Test.YtiijlnlkhpneaaaF19
import Derived.Test.YtiijlnlkhpneaaaF20
import Derived.Test.YtiijlnlkhpneaaaF21
import Derived.Test.YtiijlnlkhpneaaaF22
import Derived.Test.YtiijlnlkhpneaaaF23
namespace Go.Proofs.Ytiijlnlkhpneaaa.Se
open Go.RowKit
open Nd (Row wp_world In Sta sNum sText sFlag sInt Grew str sNum_lt i64r bytesS okS Sl u8v)
theorem atok_no : AtOk noTab := fun s hs => by
  have := List.eq_of_mem_replicate hs
  subst this
  exact ⟨by decide, by decide⟩
theorem atok_set {T : List Seat} (h : AtOk T) (i : Nat) {s : Seat} (hs : i64r s.at_) : AtOk (T.set i s) := fun x hx => by
  rcases List.mem_or_eq_of_mem_set hx with h1 | h1
  · exact h x h1
  · rw [h1]; exact hs
theorem atok_getD {T : List Seat} (h : AtOk T) (i : Nat) : i64r (T.getD i noSeat).at_ := by
  rw [List.getD_eq_getElem?_getD]
  cases hi : T[i]? with
  | none => exact ⟨by decide, by decide⟩
  | some s => exact h s (List.mem_of_getElem? hi)
theorem sumR_set_le : ∀ (T : List Seat) (i : Nat) (s : Seat), s.reply.size = 0 → sumR (T.set i s) ≤ sumR T
  | [], _, _, _ => by simp
  | a :: r, 0, s, h => by rw [List.set_cons_zero, sumR_cons, sumR_cons, h]; omega
  | a :: r, i + 1, s, h => by
    have := sumR_set_le r i s h
    rw [List.set_cons_succ, sumR_cons, sumR_cons]
    omega
/-- a table that may be -/
structure Ok (room : Int) (T : List Seat) : Prop where
  right : Right T
  at_ : AtOk T
  sum : (sumR T : Int) ≤ room
theorem ok_no {room : Int} (h0 : 0 ≤ room) : Ok room noTab := ⟨right_no, atok_no, by rw [show sumR noTab = 0 from rfl]; exact h0⟩
theorem Ok.forg {room : Int} {T : List Seat} (h : Ok room T) (c : Int) : Ok room (forgT T c) := by
  refine ⟨forgT_right h.right c, ?_, ?_⟩
  · unfold forgT
    split
    · exact atok_set h.at_ _ (atok_getD h.at_ _)
    · exact h.at_
  · have := h.sum
    unfold forgT
    split
    · have := sumR_set_le T (c - 1).toNat (hush (T.getD (c - 1).toNat noSeat)) rfl
      omega
    · exact h.sum
theorem Ok.record {room : Int} (h0 : 0 ≤ room) {T : List Seat} (h : Ok room T) (c n : Int) {a : Int} (r : ByteArray) (ha : i64r a) : Ok room (recT room T c n a r) := by
  refine ⟨recT_right h0 h.right _ _ _ _, ?_, ?_⟩ <;>
  · unfold recT
    split
    · rename_i he
      have h1 : (lookS T c n).1 = 1 := by
        unfold recE at he
        split at he
        · cases he
        · split at he
          · assumption
          · cases he
      have h2 : r.size ≤ 8192 := by
        unfold recE at he
        rw [h1] at he
        simp at he
        omega
      obtain ⟨hc, hn⟩ := look_range T c n (by rw [h1]; decide)
      obtain ⟨i, s, hi, rfl, hs, -⟩ := isC_at hc h.right.len
      rw [show ((i : Int) + 1 - 1).toNat = i by omega]
      have hR := right_put (i := i) (a := a) h.right hn h2
      have hk := mk_ind h0 (fun T' => AtOk T') (fun T' j s' _ hA hj _ _ => atok_set hA j (hA s' (List.mem_of_getElem? hj))) _ _ (Nat.le_refl _) hR (atok_set h.at_ i ha)
      first | exact hk.1 | exact hk.2.2 | exact hk.2.2.1
    · first | exact h.at_ | exact h.sum
theorem Ok.seat {room : Int} (h0 : 0 ≤ room) {T : List Seat} (h : Ok room T) {x : Seat} (ha : i64r x.at_) : Ok room (seatT room T x) := by
  unfold seatT
  split
  · exact h.record h0 _ _ _ ha
  · exact (h.record h0 _ _ _ ha).forg _
theorem Ok.step {room : Int} (h0 : 0 ≤ room) {T : List Seat} (h : Ok room T) {x : Act1} (ha : i64r x.at_) : Ok room (stepT room T x) := by
  unfold stepT
  split
  · exact h.forg _
  · exact h.record h0 _ _ _ ha
theorem Ok.play {room : Int} (h0 : 0 ≤ room) : ∀ (ss : List Act1) {T : List Seat}, Ok room T → (∀ x ∈ ss, i64r x.at_) → Ok room (playT room T ss)
  | [], _, h, _ => h
  | x :: r, _, h, ha => Ok.play h0 r (h.step h0 (ha x (by simp))) (fun y hy => ha y (by simp [hy]))
theorem readL_ok {room : Int} (h0 : 0 ≤ room) : ∀ (k : Nat) {T : List Seat} (s : Sta), Ok room T → Ok room (readL k room T s).1
  | 0, _, _, h => h
  | k + 1, T, s, h => by
    unfold readL
    split
    · exact readL_ok h0 k _ (h.seat h0 (unzz_ok _ (sNum_lt _)))
    · exact h
theorem readT_ok {s : Sta} {rm : Nat} {T : List Seat} (h : readT s = some (rm, T)) : rm ≤ 8192 ∧ Ok (rm : Int) T := by
  unfold readT at h
  split at h
  · rename_i h1
    split at h
    · have h2 := Option.some.inj h
      obtain rfl := (Prod.mk.inj h2).1
      obtain rfl := (Prod.mk.inj h2).2
      exact ⟨h1, readL_ok (by omega) _ _ (ok_no (by omega))⟩
    · cases h
  · cases h
theorem encS_lt {s : Seat} (h : Enc1 s) : ∀ x ∈ encS s, x < 256 := by
  have h1 := h.c8; have h2 := h.n9
  unfold encS
  refine Nd.app_lt (Nd.app_lt (Nd.app_lt (Nd.app_lt (Nd.num_lt _ (by omega)) (Nd.num_lt _ (by omega))) (Nd.num_lt _ (zz_lt _ h.at_))) (fun x hx => ?_)) (Nd.app_lt (Nd.num_lt _ (by have := h.short; omega)) (Nd.bytesS_lt _))
  simp only [List.mem_singleton] at hx
  rw [hx]
  split <;> omega
theorem encT_lt {rm : Nat} (h9 : rm ≤ 8192) {X : List Seat} (h8 : X.length ≤ 8) (he : ∀ s ∈ X, Enc1 s) : ∀ x ∈ encT (rm : Int) X, x < 256 := by
  unfold encT
  refine Nd.app_lt (Nd.app_lt (Nd.num_lt _ (by omega)) (Nd.num_lt _ (by omega))) (fun x hx => ?_)
  obtain ⟨s, hs, hx⟩ := List.mem_flatMap.1 hx
  exact encS_lt (he s hs) x hx
theorem toL_inj {a b : ByteArray} (h : a.toList = b.toList) : a = b := by
  have h2 : a.data.toList = b.data.toList := by rw [← Lib.toList_data, ← Lib.toList_data]; exact h
  cases a
  cases b
  simp only at h2
  rw [Array.toList_inj.1 h2]
theorem str_inj {a b : List Nat} (ha : ∀ x ∈ a, x < 256) (hb : ∀ x ∈ b, x < 256) (h : str a = str b) : a = b := by
  have h2 : a.map UInt8.ofNat = b.map UInt8.ofNat := by simpa [str] using h
  have h3 := congrArg (List.map UInt8.toNat) h2
  rw [List.map_map, List.map_map] at h3
  have key : ∀ l : List Nat, (∀ x ∈ l, x < 256) → l.map (UInt8.toNat ∘ UInt8.ofNat) = l := by
    intro l hl
    conv => rhs; rw [← List.map_id l]
    refine List.map_congr_left fun x hx => ?_
    have := hl x hx
    simp only [Function.comp_def, id, UInt8.toNat_ofNat']
    omega
  rw [key a ha, key b hb] at h3
  exact h3
set_option maxHeartbeats 1000000 in
set_option maxRecDepth 100000 in
theorem equal_any {w : World} {xs ys : List Nat} {p q : Option Addr} {c d b o b' o' : Nat} (hx : Sl w p xs c b o) (hy : Sl w q ys d b' o') :
    Calls Try.prog 41 #[.slice p xs.length c, .slice q ys.length d] w fun e w' => e = .returned (.bool (decide (xs = ys))) ∧ Below w.heap.size w w' := by
  have h1 := Nd.conv_sl hx
  have h2 := Nd.conv_sl hy
  have hi := fun e => str_inj (a := xs) (b := ys) hx.lt hy.lt e
  generalize xs.length = n1 at *
  generalize ys.length = n2 at *
  clear hx hy
  by_cases he : xs = ys
  · subst he
    rw [decide_eq_true rfl]
    generalize str xs = T at *
    clear hi
    go_enter Try.func41, Try.ntmps41
    go_wp2
    go_ret
    exact ⟨by simp, Below.refl _ _⟩
  · rw [decide_eq_false he]
    have hne : str xs ≠ str ys := fun e => he (hi e)
    have hb : (str xs == str ys) = false := by rw [Bool.eq_false_iff]; exact fun hh => hne ((MapKept.bytes_beq _ _).1 hh)
    have hlst : ¬ (str xs).toList = (str ys).toList := fun e => hne (toL_inj e)
    generalize str xs = T at *
    generalize str ys = T' at *
    clear hi he
    go_enter Try.func41, Try.ntmps41
    go_wp2
    go_ret
    exact ⟨by simp [hlst], Below.refl _ _⟩
end Go.Proofs.Ytiijlnlkhpneaaa.Se
namespace Go.Proofs.Ytiijlnlkhpneaaa.Se
open Go.RowKit
open Nd (Row wp_world post_Row grownBy_setCell below_of_grown grownBy_trans grown_of_below grownBy_refl In Sta sNum Grew str i64r bytesS Sl u8v)
theorem encT_len {rm : Nat} {X : List Seat} (h8 : X.length ≤ 8) (he : ∀ s ∈ X, Enc1 s) : (encT (rm : Int) X).length ≤ 70000 := by
  have h1 := encs_len X he
  have h2 := Nd.num_length rm
  have h3 := Nd.num_length X.length
  unfold encT
  rw [List.length_append, List.length_append, Int.toNat_natCast]
  omega
/-- Encode's answer as bytes that are read -/
theorem enc_sl {w : World} {g rm : Nat} {T : List Seat} (h : Tab w g (rm : Int) T) (hk : Ok (rm : Int) T) (h9 : rm ≤ 8192) :
    Calls Try.prog 18 #[.pointer (some ⟨g, 0, none⟩)] w fun e w' => ∃ p cap b, e = .returned (.slice p (encT (rm : Int) (T.filter seated)).length cap) ∧ Sl w' p (encT (rm : Int) (T.filter seated)) cap b 0 ∧ (p = none → (encT (rm : Int) (T.filter seated)).length = 0 ∧ cap = 0) ∧ Below w.heap.size w w' := by
  refine (encode_any h hk.right hk.at_ (by omega) (by omega)).mono ?_
  rintro e w' ⟨v, rfl, ho, hb⟩
  obtain ⟨p, cap, b, rfl, hs, hno⟩ := Nd.own_sl (encT_lt h9 (filter_le8 hk.right) (enc1_of hk.right hk.at_)) ho
  exact ⟨p, cap, b, rfl, hs, hno, hb⟩
def DecP (w : World) (bs : List Nat) (e : Ending) (w' : World) : Prop :=
  ((e = .returned (.tuple #[.pointer none, .int .i64 21]) ∧ ∀ rm T, readT (bs, 0) = some (rm, T) → encT (rm : Int) (T.filter seated) ≠ bs) ∨ (∃ (rm : Nat) (T : List Seat) (g : Nat), e = .returned (.tuple #[.pointer (some ⟨g, 0, none⟩), .int .i64 0]) ∧ readT (bs, 0) = some (rm, T) ∧ encT (rm : Int) (T.filter seated) = bs ∧ Tab w' g (rm : Int) T ∧ w.heap.size ≤ g)) ∧ Below w.heap.size w w'
theorem below_grew {w w1 w2 : World} {g : Nat} (h : Below w.heap.size w w1) (k : Grew w1 w2 (· = g)) (hg : w.heap.size ≤ g) : Below w.heap.size w w2 := below_of_grown h (grew_by k) h.size hg
set_option maxHeartbeats 2000000 in
set_option maxRecDepth 100000 in
theorem decode_any {w : World} {p : Option Addr} {bs : List Nat} {cap b off : Nat} (hs : Sl w p bs cap b off) (hno : p = none → bs.length = 0 ∧ cap = 0) (hl : bs.length ≤ 140737488355328) :
    Calls Try.prog 20 #[.slice p bs.length cap] w fun e w' => DecP w bs e w' := by
  have HR := hid_in (Nd.read_any bs p cap b off w hs hno hl)
  have HS := hid_in hs
  obtain ⟨n, HN⟩ : ∃ n, Hid (bs.length = n) := ⟨_, hid_in rfl⟩
  rw [HN.out] at HR ⊢
  clear hs hno hl
  go_enter Try.func20, Try.ntmps20
  go_upto_region 2 with (first | (go_at_call 40; (refine HR.out.mono ?_; rintro e w1 ⟨g1, rfl, hi1, hg1, hb1⟩; have HI1 : Hid (In w1.heap.size w1 g1 (bs, 0)) := hid_in hi1; have HG1 := hid_in hg1; have HB1 := hid_in hb1; clear hi1 hg1 hb1)) | (go_at_call 39; (refine (read_any w1 g1 _ (bs, 0) (Nat.le_refl _) HI1.out).mono ?_; rintro e w2 ⟨hor, hgr2⟩; have HB2 := hid_in (below_grew HB1.out hgr2 HG1.out); have HS2 := hid_in (HS.out.below HB2.out); clear hgr2; rcases hor with ⟨hnone, k, hk, rfl⟩ | ⟨rm, T, g, hsome, rfl, hF, hgw⟩)))
  · have HNO := hid_in hnone
    have hkb : (k != 0) = true := by simpa using hk
    clear hnone HR HS HS2 HI1 HG1 hk
    go_wp2
    go_ret2
    refine ⟨.inl ⟨rfl, fun rm T h => ?_⟩, HB2.out⟩
    rw [HNO.out] at h
    cases h
  · obtain ⟨h9, hok⟩ := readT_ok hsome
    have HSO := hid_in hsome
    have HT := hid_in hF
    have HGW := hid_in (Nat.le_trans HB1.out.size hgw)
    have HE := hid_in (enc_sl hF hok h9)
    have HEQ := hid_in (fun W (q : Option Addr) (c b' : Nat) (h1 : Sl W q (encT (rm : Int) (T.filter seated)) c b' 0) (h2 : Sl W p bs cap b off) => equal_any h1 h2)
    obtain ⟨Z, HZ⟩ : ∃ Z, Hid (encT (rm : Int) (T.filter seated) = Z) := ⟨_, hid_in rfl⟩
    rw [HZ.out] at HE HEQ
    rw [HN.out] at HEQ
    obtain ⟨zl, HZL⟩ : ∃ zl, Hid (Z.length = zl) := ⟨_, hid_in rfl⟩
    rw [HZL.out] at HE HEQ
    clear hsome hF hgw h9 hok HR HS HI1 HG1 HB1
    by_cases hx : Z = bs
    · have HX := hid_in hx
      rw [decide_eq_true hx] at HEQ
      clear hx
      go_wp2_with (first | (go_at_call 18; refine HE.out.mono ?_; rintro e w3 ⟨p3, c3, b3, rfl, hs3, -, hb3⟩; have HS3 := hid_in hs3; have HT3 := hid_in (HT.out.below hb3 HT.out.lt); have HB3 := hid_in (HB2.out.trans (hb3.mono HB2.out.size)); have HS23 := hid_in (HS2.out.below hb3); clear hs3 hb3) | (go_at_call 41; refine (HEQ.out _ _ _ _ HS3.out HS23.out).mono ?_; rintro e w4 ⟨rfl, hb4⟩; have HT4 := hid_in (HT3.out.below hb4 HT3.out.lt); have HB4 := hid_in (HB3.out.trans (hb4.mono HB3.out.size)); clear hb4))
      go_ret2
      exact ⟨.inr ⟨rm, T, g, rfl, HSO.out, by rw [HZ.out]; exact HX.out, HT4.out, HGW.out⟩, HB4.out⟩
    · have HX := hid_in hx
      rw [decide_eq_false hx] at HEQ
      clear hx
      go_wp2_with (first | (go_at_call 18; refine HE.out.mono ?_; rintro e w3 ⟨p3, c3, b3, rfl, hs3, -, hb3⟩; have HS3 := hid_in hs3; have HB3 := hid_in (HB2.out.trans (hb3.mono HB2.out.size)); have HS23 := hid_in (HS2.out.below hb3); clear hs3 hb3) | (go_at_call 41; refine (HEQ.out _ _ _ _ HS3.out HS23.out).mono ?_; rintro e w4 ⟨rfl, hb4⟩; have HB4 := hid_in (HB3.out.trans (hb4.mono HB3.out.size)); clear hb4))
      go_ret2
      refine ⟨.inl ⟨rfl, fun rm' T' h => ?_⟩, HB4.out⟩
      rw [HSO.out] at h
      have h4 := Option.some.inj h
      obtain rfl := (Prod.mk.inj h4).1
      obtain rfl := (Prod.mk.inj h4).2
      rw [HZ.out]
      exact HX.out
end Go.Proofs.Ytiijlnlkhpneaaa.Se
namespace Go.Proofs.Ytiijlnlkhpneaaa.Se
open Go.RowKit
open Nd (take_put Row wp_world post_Row grownBy_setCell below_of_grown grownBy_trans grown_of_below grownBy_refl)
theorem size61 : (Try.prog.info? 61).map (·.size) = some 41 := by kernel_rfl
theorem size61c {A : List Value} (h : A.length = 41) : (Try.prog.info? 61).map (·.size) = some A.length := by rw [size61, h]
set_option maxHeartbeats 2000000 in
set_option maxRecDepth 100000 in
theorem clone_any {w : World} {g : Nat} {room : Int} {T : List Seat} (h : Tab w g room T) :
    Calls Try.prog 22 #[.pointer (some ⟨g, 0, none⟩)] w fun e w' => ∃ c, e = .returned (.pointer (some ⟨c, 0, none⟩)) ∧ Tab w' c room T ∧ Below w.heap.size w w' ∧ w.heap.size ≤ c := by
  have HL := hid_in h.len
  have HRG : Hid (w.rangeAt g 0 (.int .i64 room :: tcells T)) := hid_in (fun j v hv => by rw [Nat.zero_add, h.row.cell]; exact hv)
  have HAL : Hid ((Value.int .i64 room :: tcells T).length = 41) := hid_in (by rw [List.length_cons, tcells_len, h.len])
  have HON : Hid (∀ v ∈ (Value.int .i64 room :: tcells T), v.oneCell' = true) := hid_in (fun v hv => by
    rcases List.mem_cons.1 hv with rfl | hv
    · rfl
    · exact tcells_one T v hv)
  obtain ⟨A, HA⟩ : ∃ A, Hid (Value.int .i64 room :: tcells T = A) := ⟨_, hid_in rfl⟩
  rw [HA.out] at HRG HAL HON
  have HFT := hid_in (size61c HAL.out)
  clear h
  go_enter Try.func22, Try.ntmps22
  go_wp2_with (first | (refine wpList_load_mid rfl 61 _ rfl g 0 rfl A _ HRG.out Try.underlying61 rfl HFT.out ?_) | (refine Nd.wpList_store_new rfl rfl 61 41 _ _ rfl _ A size61 rfl HAL HON rfl rfl ?_; intro w6 hr6 hb6 hs6; have HR6 := hid_in hr6; have HB6 := hid_in hb6; clear hr6 hb6 hs6))
  go_ret
  exact ⟨_, rfl, ⟨by rw [HA.out]; exact HR6.out, HL.out⟩, HB6.out, Nat.le_refl _⟩
end Go.Proofs.Ytiijlnlkhpneaaa.Se
namespace Go.Proofs.Ytiijlnlkhpneaaa.Se
open Go.ChangeShapes Go.WideShapes Go.ChangeAt Go.RowKit Go.Deep
theorem cells9 : Try.prog.cellsOf 9 = 1 := by kernel_rfl
theorem cells3 : Try.prog.cellsOf 3 = 1 := by kernel_rfl
theorem cells4 : Try.prog.cellsOf 4 = 1 := by kernel_rfl
theorem cells2 : Try.prog.cellsOf 2 = 1 := by kernel_rfl
theorem cells44 : Try.prog.cellsOf 44 = 5 := by kernel_rfl
end Go.Proofs.Ytiijlnlkhpneaaa.Se
namespace Go.Proofs.Ytiijlnlkhpneaaa.Se
open Go.RowKit
open Nd (take_put Row wp_world post_Row grownBy_setCell below_of_grown grownBy_trans grown_of_below grownBy_refl)
/-- both tables are the same -/
def LK (a : World) (B g r : Nat) (room : Int) (T : List Seat) (W : World) : Prop := Tab W g room T ∧ RT W B r room (T.filter seated) ∧ Below a.heap.size a W
theorem LK.below {a : World} {B g r : Nat} {room : Int} {T : List Seat} {W W' : World} (h : LK a B g r room T W) (hb : Below W.heap.size W W') : LK a B g r room T W' :=
  ⟨h.1.below hb h.1.lt, h.2.1.below hb, h.2.2.trans (hb.mono h.2.2.size)⟩
end Go.Proofs.Ytiijlnlkhpneaaa.Se
