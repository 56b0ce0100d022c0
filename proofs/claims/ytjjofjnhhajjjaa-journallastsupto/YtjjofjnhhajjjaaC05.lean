/-
  A node's bytes mean it alone: what is written is read as it was, and what is read was written so. Slices of one element; rows of elements of the call's own. The walks of the reference's Num, Int, Text and Flag. The walks of Int and Flag, written and read, of wire and of the reference. The walk of Node: the node that plain data mean. Plain facts on a right node's bytes, and what comes in with a Raw in later worlds. The walk of the reference's Encode. Int and Flag that are written and read, by states. Operations: what Check says of one; the walks of named, areNumbers and checkPaths.
-/
import Derived.Laws.Tables
import Derived.OwnWalk
import Derived.Laws.CopyOwn
import Derived.Deep.RegionLaw
import Derived.Deep.DrawnRows
import Derived.Laws.StructEq
import Derived.Laws.BitsAllLaws
import Derived.Deep.CutRange
import Derived.Test.YtjjofjnhhajjjaaC00
import Derived.Test.YtjjofjnhhajjjaaC01
import Derived.Test.YtjjofjnhhajjjaaC02
import Derived.Test.YtjjofjnhhajjjaaC03
import Derived.Test.YtjjofjnhhajjjaaC04
namespace Go.Proofs.Ytjjofjnhhajjjaa.Nd
open Go.RowKit
theorem bytesS_str {l : List Nat} (h : ∀ x ∈ l, x < 256) : bytesS (str l) = l := by
  unfold bytesS str
  simp only [List.map_map]
  conv => rhs; rw [← List.map_id l]
  apply List.map_congr_left
  intro x hx
  have := h x hx
  simp
  omega
theorem sNum_num (v : Nat) (r : List Nat) (h : v < 18446744073709551616) : sNum (Wire.num v ++ r, 0) = (v, (r, 0)) := by
  unfold sNum
  rw [if_pos rfl]
  exact rnum_num v r h
theorem sText_text (m : Nat) (S : ByteArray) (r : List Nat) (h : S.size ≤ m) (hm : m ≤ 9223372036854775807) : sText m (Wire.num S.size ++ bytesS S ++ r, 0) = (bytesS S, (r, 0)) := by
  unfold sText Wire.rtext
  rw [if_pos rfl]
  have e := rnum_num S.size (bytesS S ++ r) (by omega)
  rw [← List.append_assoc] at e
  simp only [e]
  rw [if_neg (by simp), if_neg (by simp; omega), if_neg (by simp [bytesS_length])]
  have hl := bytesS_length S
  simp [← hl]
theorem sDig_dig (d r : List Nat) (h : d.length = 32) : sDig (d ++ r, 0) = (d, (r, 0)) := by
  unfold sDig rdigest
  rw [if_pos rfl, if_neg (by simp; omega)]
  simp [← h]
theorem sParts_parts (ps : List (List Nat)) (h : ∀ d ∈ ps, Dg d) (r : List Nat) : ∀ c, c ≤ ps.length → sParts c (ps.flatten ++ r, 0) = (ps.take c, ((ps.drop c).flatten ++ r, 0)) := by
  intro c
  induction c with
  | zero => intro _; simp [sParts]
  | succ c ih =>
    intro hc
    have h1 := ih (by omega)
    have hd : ps.drop c = ps[c] :: ps.drop (c + 1) := List.drop_eq_getElem_cons (by omega)
    have h2 := sDig_dig ps[c] ((ps.drop (c + 1)).flatten ++ r) (h _ (List.getElem_mem _)).1
    simp only [sParts, h1, hd, List.flatten_cons, List.append_assoc, h2]
    rw [List.take_add_one, List.getElem?_eq_getElem (by omega)]
    rfl
theorem sItems_items (f : Nat → Nat) (hf2 : f 2 = 2) (hf3 : f 3 = 3) (l : List It) (h : ∀ x ∈ l, x.ok) (hk : ∀ x ∈ l, (x.kind = 2 ∨ x.kind = 3) ∧ x.name.size ≤ 16) (r : List Nat) : ∀ c, c ≤ l.length → sItems f c (l.flatMap It.bytes ++ r, 0) = (l.take c, ((l.drop c).flatMap It.bytes ++ r, 0)) := by
  intro c
  induction c with
  | zero => intro _; simp [sItems]
  | succ c ih =>
    intro hc
    have h1 := ih (by omega)
    have hd : l.drop c = l[c] :: l.drop (c + 1) := List.drop_eq_getElem_cons (by omega)
    have hm : l[c] ∈ l := List.getElem_mem _
    obtain ⟨hk1, hk2⟩ := hk _ hm
    have e1 := sText_text 16 l[c].name (Wire.num l[c].kind.toNat ++ (l[c].sum ++ ((l.drop (c + 1)).flatMap It.bytes ++ r))) hk2 (by decide)
    have e2 := sNum_num l[c].kind.toNat (l[c].sum ++ ((l.drop (c + 1)).flatMap It.bytes ++ r)) (by rcases hk1 with h | h <;> rw [h] <;> decide)
    have e3 := sDig_dig l[c].sum ((l.drop (c + 1)).flatMap It.bytes ++ r) (h _ hm).sum.1
    rw [List.append_assoc] at e1
    have e4 : ((f l[c].kind.toNat : Nat) : Int) = l[c].kind := by
      rcases hk1 with h | h
      · rw [h]; show ((f 2 : Nat) : Int) = 2; rw [hf2]; rfl
      · rw [h]; show ((f 3 : Nat) : Int) = 3; rw [hf3]; rfl
    simp only [sItems, sItem, h1, hd, List.flatMap_cons, It.bytes, List.append_assoc, e1, e2, e3, e4, str_bytesS]
    rw [List.take_add_one, List.getElem?_eq_getElem (by omega)]
    rfl
theorem itemsOk_kinds {l : List It} (h : itemsOk l) : ∀ x ∈ l, (x.kind = 2 ∨ x.kind = 3) ∧ x.name.size ≤ 16 := by
  intro x hx
  refine ⟨?_, (itemsOk_kind h x hx).2⟩
  obtain ⟨i, hi, rfl⟩ := List.getElem_of_mem hx
  have h1 := (h.2 i hi _ (List.getElem?_eq_getElem hi)).1
  unfold itemOk at h1
  simp only [Bool.and_eq_true, Bool.or_eq_true, beq_iff_eq] at h1
  exact h1.1
theorem empty_of {s : ByteArray} (h : s.size = 0) : s = ByteArray.empty := ByteArray.size_eq_zero_iff.1 h
/-- what is written is read as it was -/
theorem rd_enc {n : Nd} (hr : right n) (hok : n.ok) : rd (enc n, 0) = (n, ([], 0)) := by
  obtain ⟨kind, data, size, parts, items⟩ := n
  rcases hr with ⟨hk, hd1, hd2, hs, hp, hi⟩ | ⟨hk, hd, hs0, hs1, hp, hi⟩ | ⟨hk, hd, hs, hp, hi⟩
  · simp only at hk hd1 hd2 hs hp hi
    subst hk hs hp hi
    rw [enc_1 rfl]
    have e1 := sNum_num 1 (Wire.num data.size ++ bytesS data) (by decide)
    have e2 := sText_text 64 data [] hd2 (by decide)
    rw [List.append_nil] at e2
    rw [rd_1 (by rw [e1]; rfl), e1, e2, str_bytesS]
  · simp only at hk hd hs0 hs1 hp hi
    subst hk hi
    rw [enc_2 rfl, List.append_assoc]
    simp only
    have e1 := sNum_num 2 (Wire.num size.toNat ++ parts.flatten) (by decide)
    have e2 := sNum_num size.toNat parts.flatten (by omega)
    have hc : cutN 1024 size.toNat = size.toNat := by unfold cutN; omega
    have hz : ((size.toNat : Nat) : Int) = size := by omega
    have e3 := sParts_parts parts hok.parts [] parts.length (Nat.le_refl _)
    rw [List.append_nil] at e3
    rw [rd_2 (z := size.toNat) (by rw [e1]; rfl) (by rw [e1, e2]; exact hc), e1, e2, hz, ← hp, e3, empty_of hd]
    simp
  · simp only at hk hd hs hp hi
    subst hk hs hp
    rw [enc_3 rfl, List.append_assoc]
    simp only
    have hl := hi.1
    have e1 := sNum_num 3 (Wire.num items.length ++ items.flatMap It.bytes) (by decide)
    have e2 := sNum_num items.length (items.flatMap It.bytes) (by omega)
    have hc : cutN 64 items.length = items.length := by unfold cutN; omega
    have e3 := sItems_items (cutN 3) rfl rfl items hok.items (itemsOk_kinds hi) [] items.length (Nat.le_refl _)
    rw [List.append_nil] at e3
    rw [rd_3 (z := items.length) (by rw [e1]; rfl) (by rw [e1, e2]; exact hc), e1, e2, e3, empty_of hd]
    simp
/-- these bytes mean that node -/
def Means (bs : List Nat) (n : Nd) : Prop := right n ∧ n.ok ∧ enc n = bs
theorem Means.rd {bs : List Nat} {n : Nd} (h : Means bs n) : Go.Proofs.Ytjjofjnhhajjjaa.Nd.rd (bs, 0) = (n, ([], 0)) := by rw [← h.2.2]; exact rd_enc h.1 h.2.1
end Go.Proofs.Ytjjofjnhhajjjaa.Nd
namespace Go.Proofs.Ytjjofjnhhajjjaa.Nd
open Go.RowKit
theorem own_belowK {w w' : World} {B n k : Nat} {e : TypeId} {v : Value} {xs : List Value} (h : w.ownsRow B e k v n xs) (hb : Below w.heap.size w w') : w'.ownsRow B e k v n xs := by
  obtain ⟨h1, h2 | ⟨g, cap, cur, rfl, hB, hh, r⟩⟩ := h
  · exact ⟨h1, .inl h2⟩
  · refine ⟨h1, .inr ⟨g, cap, cur, rfl, hB, ?_, r⟩⟩
    have hlt : g < w.heap.size := (Array.getElem?_eq_some_iff.1 hh).1
    rw [hb.block g hlt]
    exact hh
theorem flatten_get {k : Nat} {xs : List (List Value)} (h : ∀ us ∈ xs, us.length = k) : ∀ (i : Nat) us, xs[i]? = some us → ∀ (y : Nat) u, us[y]? = some u → xs.flatten[i * k + y]? = some u := by
  induction xs with
  | nil => intro i us hi; simp at hi
  | cons x r ih =>
    intro i us hi y u hy
    have hx := h x (by simp)
    cases i with
    | zero =>
      simp at hi
      subst hi
      rw [List.flatten_cons, Nat.zero_mul, Nat.zero_add, List.getElem?_append_left (by exact (List.getElem?_eq_some_iff.1 hy).1)]
      exact hy
    | succ i =>
      rw [List.flatten_cons, List.getElem?_append_right (by rw [hx, Nat.add_mul]; omega), hx]
      have := ih (fun us hus => h us (by simp [hus])) i us (by simpa using hi) y u hy
      rw [show (i + 1) * k + y - k = i * k + y by rw [Nat.add_mul]; omega]
      exact this
end Go.Proofs.Ytjjofjnhhajjjaa.Nd
namespace Go.Proofs.Ytjjofjnhhajjjaa.Nd
open Go.RowKit
set_option maxHeartbeats 1000000 in
set_option maxRecDepth 100000 in
theorem rwnum_any (w : World) (n : Nat) (hn : n < 18446744073709551616) :
    Calls Try.prog 71 #[.int .u64 (n : Int)] w fun e w' => ∃ v, e = .returned v ∧ w'.ownsRow w.heap.size 5 1 v (Wire.num n).length ((Wire.num n).map u8v) ∧ Below w.heap.size w w' := by
  obtain ⟨i5i, HI5, HE1, HE2, HE3⟩ := i5h
  go_enter Try.func71, Try.ntmps71
  go_wp2_with fail
  go_loopw [0, 3] (fun u v w' => ∃ (k m : Nat) (pre : List Nat), u = .int .u64 (m : Int) ∧ m < 128 ^ (k + 1) ∧ m < 18446744073709551616 ∧ pre.length + (k + 1) ≤ 10 ∧ pre ++ Wire.numF k m = Wire.num n ∧ w'.ownsRow w.heap.size 5 1 v pre.length (pre.map u8v) ∧ Below w.heap.size w w' ∧ w.heap.size ≤ w'.heap.size) (fun u _ _ => (intOf u).toNat)
  case atStart => exact ⟨9, n, [], rfl, by omega, hn, by simp, rfl, World.ownsRow_nil _ _ _ _, Below.refl _ _, Nat.le_refl _⟩
  case round =>
    obtain ⟨k, m, pre, rfl, hm, hm64, hpl, hpre, hown, hbel, hsz⟩ := hrel
    have HP := hid_in hpre
    have HB := hid_in hbel
    have hfit : pre.length + 1 ≤ 140737488355328 := by omega
    clear hpre hbel
    by_cases h128 : 128 ≤ m
    · have hk0 : k ≠ 0 := by intro h; subst h; simp at hm; omega
      obtain ⟨k', rfl⟩ : ∃ k', k = k' + 1 := ⟨k - 1, by omega⟩
      have k1 : (128 : Int) ≤ (m : Int) := by omega
      have HM2 : Hid (m / 128 < 128 ^ (k' + 1)) := by show _ < _; rw [Nat.div_lt_iff_lt_mul (by decide)]; rw [Nat.pow_succ] at hm; exact hm
      clear hm hk0
      go_wp2_with (at_builtin; refine wpList_append_one rfl _ _ 54 rfl w.heap.size 5 i5i (.int .u8 0) Try.underlying54 HI5.out HE3.out HE1.out HE2.out rfl _ _ _ rfl hown 5 _ rfl rfl hfit hsz ?_; intro v1 w1 hown1 hb1 hs1; have HB1 := hid_in hb1; clear hb1)
      go_roundw
      case rel =>
        go_light
        have e0 : (m : Int) / 128 = ((m / 128 : Nat) : Int) := by simp
        have e1 : (m : Int) % 128 + 128 = ((m % 128 + 128 : Nat) : Int) := by omega
        rw [e0]
        rw [e1] at hown1
        refine ⟨k', m / 128, pre ++ [m % 128 + 128], rfl, HM2.out, by omega, by rw [List.length_append]; simp; omega, ?_, ?_, HB1.out _ HB.out, hs1⟩
        · rw [← HP.out, List.append_assoc]
          congr 1
          simp only [Wire.numF]
          rw [if_neg (by omega)]
          rfl
        · rw [List.length_append, List.map_append]; exact hown1
      case measure => simp [intOf]; omega
    · have k1 : (m : Int) < 128 := by omega
      have HN : Hid (Wire.numF k m = [m]) := by
        show _ = _
        rcases k with _ | k
        · rfl
        · simp only [Wire.numF]; rw [if_pos (by omega)]
      clear hm
      go_wp2_with (at_builtin; refine wpList_append_one rfl _ _ 54 rfl w.heap.size 5 i5i (.int .u8 0) Try.underlying54 HI5.out HE3.out HE1.out HE2.out rfl _ _ _ rfl hown 5 _ rfl rfl hfit hsz ?_; intro v1 w1 hown1 hb1 hs1; have HB1 := hid_in hb1; clear hb1)
      go_ret
      refine ⟨_, rfl, ?_, HB1.out _ HB.out⟩
      rw [← HP.out, HN.out, List.length_append, List.map_append]
      exact hown1
set_option maxHeartbeats 1000000 in
theorem rwtext_any (w : World) (s : ByteArray) (hl : 10 + s.size ≤ 140737488355328) :
    Calls Try.prog 46 #[.string s] w fun e w' => ∃ v, e = .returned v ∧ w'.ownsRow w.heap.size 5 1 v (Wire.num s.size ++ bytesS s).length ((Wire.num s.size ++ bytesS s).map u8v) ∧ Below w.heap.size w w' := by
  obtain ⟨i5i, HI5, HE1, HE2, HE3⟩ := i5h
  have hnum := rwnum_any w s.size (by omega)
  have ks : (s.size : Int) ≤ 140737488355328 := by omega
  have hnl := num_length s.size
  go_enter Try.func46, Try.ntmps46
  go_wp2_with fail
  refine hnum.mono ?_
  rintro e w1 ⟨v1, rfl, hown, hb⟩
  have HB := hid_in hb
  have hbase : w.heap.size ≤ w1.heap.size := hb.size
  have hfit : (Wire.num s.size).length + s.size ≤ 140737488355328 := by omega
  clear hnum hb
  go_wp2_with (at_builtin; refine wpList_append_string_at rfl _ _ 54 9 rfl w.heap.size 5 i5i Try.underlying54 Try.underlying9 HI5.out HE3.out HE1.out HE2.out _ _ _ rfl hown s rfl hfit hbase ?_; intro v2 w2 hown2 hg2 hm2; have HG2 : Hid (w1.grownBy w2 v1.ownBlock) := hg2; clear hm2)
  go_ret
  refine ⟨_, rfl, ?_, own_step HB.out HG2.out hbase rfl hown⟩
  rw [List.length_append, List.map_append, bytesS_length, ← strCells_bytes]
  exact hown2
end Go.Proofs.Ytjjofjnhhajjjaa.Nd
namespace Go.Proofs.Ytjjofjnhhajjjaa.Nd
open Go.RowKit
namespace Wire
/-- a number with a sign, as one without -/
def zz (n : Int) : Nat := if 0 ≤ n then (2 * n).toNat else (-2 * n - 1).toNat
/-- a number with a sign, out of one without -/
def unzz (m : Nat) : Int := if m % 2 = 0 then ((m / 2 : Nat) : Int) else -((m / 2 : Nat) : Int) - 1
end Wire
theorem not64 (x : Nat) (hx : x < 18446744073709551616) : bits .xor .u64 (if IntKind.u64.signed = true then -1 else IntKind.u64.max) (x : Int) = ((18446744073709551615 - x : Nat) : Int) := by
  have h : (if IntKind.u64.signed = true then -1 else IntKind.u64.max : Int) = ((18446744073709551615 : Nat) : Int) := by decide
  have hx' : 18446744073709551615 ^^^ x = 18446744073709551615 - x := by
    refine Nat.eq_of_testBit_eq fun i => ?_
    rw [Nat.testBit_xor, show (18446744073709551615 : Nat) = 2 ^ 64 - 1 from rfl, Nat.testBit_two_pow_sub_one, show 2 ^ 64 - 1 - x = 2 ^ 64 - (x + 1) by omega, Nat.testBit_two_pow_sub_succ (show x < 2 ^ 64 by omega)]
    by_cases h : i < 64
    · simp [h]
    · have : x.testBit i = false := Nat.testBit_lt_two_pow (Nat.lt_of_lt_of_le (show x < 2 ^ 64 by omega) (Nat.pow_le_pow_right (by omega) (by omega)))
      simp [h, this]
  rw [h, u64_xor_nat _ _ (by decide) hx, hx']
set_option maxHeartbeats 1000000 in
set_option maxRecDepth 100000 in
theorem oint_any (w : World) (B g : Nat) (v : Value) (xs : List Nat) (n : Int) (hn1 : -9223372036854775808 ≤ n) (hn2 : n ≤ 9223372036854775807) (ho : OutIs w B g v xs) (hl : xs.length + 10 ≤ 140737488355328) :
    Calls Try.prog 75 #[.pointer (some ⟨g, 0, none⟩), .int .i64 n] w fun e w' => e = .returned (.tuple #[]) ∧ ∃ v', OutIs w' B g v' (xs ++ Wire.num (Wire.zz n)) ∧ Grew w w' (OutS g v) ∧ Moved w v v' := by
  obtain ⟨z, HZ, hz⟩ : ∃ z, Hid (z = Wire.zz n) ∧ z < 18446744073709551616 := ⟨_, rfl, by unfold Wire.zz; split <;> omega⟩
  have hnum := onum_any w B g v xs z hz ho hl
  rw [← HZ.out]
  by_cases h0 : 0 ≤ n
  · have hz1 : Hid ((z : Int) = 2 * n) := by show _ = _; rw [HZ.out]; unfold Wire.zz; rw [if_pos h0]; omega
    obtain ⟨m, rfl⟩ := Int.eq_ofNat_of_zero_le h0
    clear ho
    go_enter Try.func75, Try.ntmps75
    go_wp2_with fail
    have e0 : ((m : Int) * 2) = (z : Int) := by have := hz1.out; omega
    rw [e0]
    refine hnum.mono ?_
    rintro e w' ⟨rfl, hh⟩
    have H := hid_in hh
    clear hh hnum
    go_wp2
    go_end0
    exact ⟨rfl, H.out⟩
  · have hz1 : Hid ((z : Int) = -2 * n - 1) := by show _ = _; rw [HZ.out]; unfold Wire.zz; rw [if_neg h0]; omega
    clear ho
    go_enter Try.func75, Try.ntmps75
    go_wp2_with fail
    have e0 : bits .xor .u64 IntKind.u64.max (IntKind.u64.wrap (IntKind.u64.wrap n * 2)) = (z : Int) := by
      have hy : IntKind.u64.wrap (IntKind.u64.wrap n * 2) = (((2 * n + 18446744073709551616).toNat : Nat) : Int) := by
        rw [IntKind.wrap_u64, IntKind.wrap_u64]; omega
      rw [hy]
      have h := not64 (2 * n + 18446744073709551616).toNat (by omega)
      have h' : bits .xor .u64 IntKind.u64.max (((2 * n + 18446744073709551616).toNat : Nat) : Int) = ((18446744073709551615 - (2 * n + 18446744073709551616).toNat : Nat) : Int) := h
      rw [h']
      have := hz1.out
      omega
    rw [e0]
    refine hnum.mono ?_
    rintro e w' ⟨rfl, hh⟩
    have H := hid_in hh
    clear hh hnum e0
    go_wp2
    go_end0
    exact ⟨rfl, H.out⟩
theorem and_one64 (x : Nat) (hx : x < 18446744073709551616) : bits .and .u64 (x : Int) 1 = ((x % 2 : Nat) : Int) := by
  have := u64_and_nat x 1 hx (by decide)
  rw [Nat.and_one_is_mod] at this
  exact this
set_option maxHeartbeats 400000 in
theorem iint_of (w : World) (g m : Nat) (hm : m < 18446744073709551616) (R : World → Prop) (hn : Calls Try.prog 79 #[.pointer (some ⟨g, 0, none⟩)] w fun r w' => r = .returned (.int .u64 (m : Int)) ∧ R w') :
    Calls Try.prog 80 #[.pointer (some ⟨g, 0, none⟩)] w fun r w' => r = .returned (.int .i64 (Wire.unzz m)) ∧ R w' := by
  have ha := and_one64 m hm
  go_enter Try.func80, Try.ntmps80
  go_wp2_with fail
  refine hn.mono ?_
  rintro e w1 ⟨rfl, hR⟩
  have HR := hid_in hR
  clear hR hn
  by_cases h : m % 2 = 0
  · have HU : Hid (Wire.unzz m = ((m / 2 : Nat) : Int)) := by show _ = _; unfold Wire.unzz; rw [if_pos h]
    have ha' : bits .and .u64 (m : Int) 1 = 0 := by rw [ha, h]; rfl
    clear ha
    go_wp2
    go_ret
    rw [HU.out]
    exact ⟨by simp, HR.out⟩
  · have HU : Hid (Wire.unzz m = -((m / 2 : Nat) : Int) - 1) := by show _ = _; unfold Wire.unzz; rw [if_neg h]
    have ha' : bits .and .u64 (m : Int) 1 = 1 := by rw [ha, show m % 2 = 1 by omega]; rfl
    clear ha
    go_wp2
    go_ret
    rw [HU.out]
    exact ⟨by simp, HR.out⟩
theorem unzz_zz (n : Int) (h1 : -9223372036854775808 ≤ n) (h2 : n ≤ 9223372036854775807) : Wire.unzz (Wire.zz n) = n := by
  unfold Wire.unzz Wire.zz
  split
  · rename_i h
    split
    · omega
    · omega
  · rename_i h
    split
    · omega
    · omega
theorem zz_lt (n : Int) (h1 : -9223372036854775808 ≤ n) (h2 : n ≤ 9223372036854775807) : Wire.zz n < 18446744073709551616 := by
  unfold Wire.zz
  split <;> omega
end Go.Proofs.Ytjjofjnhhajjjaa.Nd
namespace Go.Proofs.Ytjjofjnhhajjjaa.Nd
open Go.RowKit
/-- a slice of slices of bytes -/
def Bss (w : World) (v : Value) (ps : List (List Nat)) : Prop := ∃ p cap b o, v = .slice p ps.length cap ∧ ps.length ≤ cap ∧ cap ≤ 9223372036854775807 ∧ (ps ≠ [] → p = some ⟨b, o, none⟩ ∧ b < w.heap.size) ∧ ∀ (i : Nat) bs, ps[i]? = some bs → ∃ q c b' o', w.cell? ⟨b, o + i, none⟩ = some (.slice q bs.length c) ∧ Sl w q bs c b' o'
/-- a slice of texts -/
def Strs (w : World) (v : Value) (ns : List ByteArray) : Prop := ∃ p cap b o, v = .slice p ns.length cap ∧ ns.length ≤ cap ∧ cap ≤ 9223372036854775807 ∧ (ns ≠ [] → p = some ⟨b, o, none⟩ ∧ b < w.heap.size) ∧ ∀ (i : Nat) s, ns[i]? = some s → w.cell? ⟨b, o + i, none⟩ = some (.string s)
/-- a slice of numbers -/
def Ints (w : World) (v : Value) (ks : List Int) : Prop := ∃ p cap b o, v = .slice p ks.length cap ∧ ks.length ≤ cap ∧ cap ≤ 9223372036854775807 ∧ (ks ≠ [] → p = some ⟨b, o, none⟩ ∧ b < w.heap.size) ∧ ∀ (i : Nat) k, ks[i]? = some k → w.cell? ⟨b, o + i, none⟩ = some (.int .i64 k)
theorem Bss.lt {w : World} {v : Value} {ps : List (List Nat)} (h : Bss w v ps) : ∀ bs ∈ ps, ∀ x ∈ bs, x < 256 := by
  obtain ⟨p, cap, b, o, _, _, _, _, hat⟩ := h
  intro bs hbs
  obtain ⟨i, hi, rfl⟩ := List.getElem_of_mem hbs
  obtain ⟨q, c, b', o', _, hs⟩ := hat i _ (List.getElem?_eq_getElem hi)
  exact hs.lt
end Go.Proofs.Ytjjofjnhhajjjaa.Nd
namespace Go.Proofs.Ytjjofjnhhajjjaa.Nd
open Go.RowKit
theorem app_lt {a b : List Nat} (ha : ∀ x ∈ a, x < 256) (hb : ∀ x ∈ b, x < 256) : ∀ x ∈ a ++ b, x < 256 := by
  intro x hx
  rcases List.mem_append.1 hx with h | h
  · exact ha x h
  · exact hb x h
theorem Bss.below {w w' : World} {v : Value} {ps : List (List Nat)} (h : Bss w v ps) (hb : Below w.heap.size w w') : Bss w' v ps := by
  obtain ⟨p, cap, b, o, rfl, h1, h2, h3, hat⟩ := h
  refine ⟨p, cap, b, o, rfl, h1, h2, fun hne => ⟨(h3 hne).1, Nat.lt_of_lt_of_le (h3 hne).2 hb.size⟩, fun i bs hi => ?_⟩
  obtain ⟨q, c, b', o', hc, hs⟩ := hat i bs hi
  exact ⟨q, c, b', o', (hb.cell (p := ⟨b, o + i, none⟩) (World.block_lt_of_cell? w _ hc)).trans hc, hs.below hb⟩
theorem Strs.below {w w' : World} {v : Value} {ns : List ByteArray} (h : Strs w v ns) (hb : Below w.heap.size w w') : Strs w' v ns := by
  obtain ⟨p, cap, b, o, rfl, h1, h2, h3, hat⟩ := h
  exact ⟨p, cap, b, o, rfl, h1, h2, fun hne => ⟨(h3 hne).1, Nat.lt_of_lt_of_le (h3 hne).2 hb.size⟩, fun i s hi => (hb.cell (p := ⟨b, o + i, none⟩) (World.block_lt_of_cell? w _ (hat i s hi))).trans (hat i s hi)⟩
theorem Ints.below {w w' : World} {v : Value} {ks : List Int} (h : Ints w v ks) (hb : Below w.heap.size w w') : Ints w' v ks := by
  obtain ⟨p, cap, b, o, rfl, h1, h2, h3, hat⟩ := h
  exact ⟨p, cap, b, o, rfl, h1, h2, fun hne => ⟨(h3 hne).1, Nat.lt_of_lt_of_le (h3 hne).2 hb.size⟩, fun i s hi => (hb.cell (p := ⟨b, o + i, none⟩) (World.block_lt_of_cell? w _ (hat i s hi))).trans (hat i s hi)⟩
end Go.Proofs.Ytjjofjnhhajjjaa.Nd
namespace Go.Proofs.Ytjjofjnhhajjjaa.Nd
open Go.RowKit
/-- bytes that the call itself gathers -/
structure RE (W0 W : World) (v : Value) (xs : List Nat) : Prop where
  own : W.ownsRow W0.heap.size 5 1 v xs.length (xs.map u8v)
  bel : Below W0.heap.size W0 W
theorem RE.below {W0 W W' : World} {v : Value} {xs : List Nat} (h : RE W0 W v xs) (hb : Below W.heap.size W W') : RE W0 W' v xs := ⟨own_belowK h.own hb, h.bel.trans (hb.mono h.bel.size)⟩
theorem text_c (W : World) (s : ByteArray) (hn : s.size ≤ 1000) : Calls Try.prog 46 #[.string s] W fun e w' => ∃ p c b, e = .returned (.slice p (Wire.num s.size ++ bytesS s).length c) ∧ Sl w' p (Wire.num s.size ++ bytesS s) c b 0 ∧ (p = none → (Wire.num s.size ++ bytesS s).length = 0 ∧ c = 0) ∧ Below W.heap.size W w' := by
  refine (rwtext_any W s (by omega)).mono ?_
  rintro e w' ⟨v, rfl, ho, hb⟩
  obtain ⟨p, c, b, rfl, hs, hno⟩ := own_sl (app_lt (num_lt s.size (by omega)) (bytesS_lt s)) ho
  exact ⟨p, c, b, rfl, hs, hno, hb⟩
theorem own_base {W : World} {B B' : Nat} {e : TypeId} {size n : Nat} {v : Value} {xs : List Value} (h : W.ownsRow B e size v n xs) (hb : B' ≤ B) : W.ownsRow B' e size v n xs := by
  obtain ⟨h1, h2 | ⟨g, cap, cur, rfl, hB, r⟩⟩ := h
  · exact ⟨h1, .inl h2⟩
  · exact ⟨h1, .inr ⟨g, cap, cur, rfl, Nat.le_trans hb hB, r⟩⟩
theorem RE.row {W0 W : World} {v : Value} {xs : List Nat} (h : RE W0 W v xs) {g : Nat} {vs : List Value} {t : TypeId} (hr : Row W0 g vs t) : Row W g vs t := hr.below h.bel hr.lt
end Go.Proofs.Ytjjofjnhhajjjaa.Nd
namespace Go.Proofs.Ytjjofjnhhajjjaa.Nd
open Go.RowKit
def i64r (n : Int) : Prop := -9223372036854775808 ≤ n ∧ n ≤ 9223372036854775807
theorem int_o (w : World) (B g : Nat) (xs : List Nat) (n : Int) (hn : i64r n) (hg : B ≤ g) (ho : OutB w B g xs) (hl : xs.length + 10 ≤ 140737488355328) :
    Calls Try.prog 75 #[.pointer (some ⟨g, 0, none⟩), .int .i64 n] w fun e w' => e = .returned (.tuple #[]) ∧ OutB w' B g (xs ++ Wire.num (Wire.zz n)) ∧ Below B w w' := by
  obtain ⟨v, hv⟩ := ho
  refine (oint_any w B g v xs n hn.1 hn.2 hv hl).mono ?_
  rintro e w' ⟨rfl, v', h1, h2, _⟩
  exact ⟨rfl, ⟨v', h1⟩, out_below hg hv h2⟩
/-- a number with a sign that is read -/
def sInt (s : Sta) : Int × Sta := (Wire.unzz (sNum s).1, (sNum s).2)
theorem sNum_lt (s : Sta) : (sNum s).1 < 18446744073709551616 := by
  unfold sNum
  split
  · exact rnum_lt s.1
  · show 0 < 18446744073709551616; decide
theorem int_s (w : World) (g B : Nat) (s : Sta) (hi : In B w g s) : Calls Try.prog 80 #[.pointer (some ⟨g, 0, none⟩)] w fun r w' => r = .returned (.int .i64 (sInt s).1) ∧ In B w' g (sInt s).2 ∧ Grew w w' (· = g) :=
  iint_of w g (sNum s).1 (sNum_lt s) (fun w' => In B w' g (sNum s).2 ∧ Grew w w' (· = g)) (num_s w g B s hi)
end Go.Proofs.Ytjjofjnhhajjjaa.Nd
namespace Go.Proofs.Ytjjofjnhhajjjaa.Nd
open Go.RowKit
/-- an operation -/
structure Opn where
  kind : Int
  path : ByteArray
  dest : ByteArray
  data : ByteArray
  at_ : Int
  size : Int
  deriving DecidableEq
def Opn.cells (o : Opn) : List Value := [.int .i64 o.kind, .string o.path, .string o.dest, .string o.data, .int .i64 o.at_, .int .i64 o.size]
def Opn.val (o : Opn) : Value := .agg #[.int .i64 o.kind, .string o.path, .string o.dest, .string o.data, .int .i64 o.at_, .int .i64 o.size]
/-- an operation in a block of its own -/
theorem op_row (w : World) (k a z : Int) (p t d : ByteArray) : ∃ w2, Hid (w.alloc (.cells #[.int .i64 k, .string p, .string t, .string d, .int .i64 a, .int .i64 z] 49) = w2) ∧ Hid (Row w2 w.heap.size [.int .i64 k, .string p, .string t, .string d, .int .i64 a, .int .i64 z] 49) ∧ Hid (Below w.heap.size w w2) ∧ Hid (w2.heap.size = w.heap.size + 1) :=
  ⟨_, rfl, Row.new w [.int .i64 k, .string p, .string t, .string d, .int .i64 a, .int .i64 z] 49, (Below.refl _ _).alloc (Nat.le_refl _) _, by show _ = _; simp⟩
theorem info23 : (Try.prog.info? 49).map (·.size) = some 6 := by kernel_rfl
end Go.Proofs.Ytjjofjnhhajjjaa.Nd
