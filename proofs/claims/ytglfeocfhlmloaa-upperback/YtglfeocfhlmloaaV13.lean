/-
  The walk of node.Decode. Fields that are written; the walks of writeParts and writeItems. The walk of node.Encode. A node's bytes mean it alone: what is written is read as it was, and what is read was written so. Digests and items that are compared. The walks of the reference's Items and Same. Slices of one element; rows of elements of the call's own. A row of paths of the call's own; one more path behind it. The walks of Check and Split, of the reference's Check.
-/
import Derived.Laws.CopyOwn
import Derived.Deep.RegionLaw
import Derived.Deep.DrawnRows
import Derived.Laws.Tables
import Derived.Laws.StructEq
import Derived.Test.YtglfeocfhlmloaaV00
import Derived.Test.YtglfeocfhlmloaaV01
import Derived.Test.YtglfeocfhlmloaaV02
import Derived.Test.YtglfeocfhlmloaaV03
import Derived.Test.YtglfeocfhlmloaaV04
import Derived.Test.YtglfeocfhlmloaaV05
import Derived.Test.YtglfeocfhlmloaaV06
import Derived.Test.YtglfeocfhlmloaaV07
import Derived.Test.YtglfeocfhlmloaaV08
import Derived.Test.YtglfeocfhlmloaaV09
import Derived.Test.YtglfeocfhlmloaaV10
import Derived.Test.YtglfeocfhlmloaaV11
import Derived.Test.YtglfeocfhlmloaaV12
namespace Go.Proofs.Ytglfeocfhlmloaa.Nd
open Go.RowKit
theorem IsN.form {w : World} {v : Value} {n : Nd} (h : IsN w v n) : ∃ pp cp pi ci, v = .agg #[.int .i64 n.kind, .string n.data, .int .i64 n.size, .slice pp n.parts.length cp, .slice pi n.items.length ci] := by
  obtain ⟨vp, vi, rfl, hp, hi⟩ := h.ex
  obtain ⟨pp, cp, _, _, rfl, _⟩ := hp.ex
  obtain ⟨pi, ci, _, _, rfl, _⟩ := hi.ex
  exact ⟨pp, cp, pi, ci, by simp⟩
theorem post_Row2 {P : Program} {fn : Func} {R : Ending → World → Prop} {a : Act} {w : World} (p u : Tmp) (ty : TypeId) (hf : fn.results = #[.cell p ty, .tmp u]) (g : Nat) (hp : a.tmps.getD p undef = .pointer (some ⟨g, 0, none⟩))
    (t : TypeId) (vs : List Value) (hr : Row w g vs t) (d : TypeDesc) (hu : P.underlying ty = some d) (hd : (match d with | .struct _ | .array _ _ => true | _ => false) = true) (n : Nat) (hi : (P.info? ty).map (·.size) = some n) (hn : vs.length = n)
    (hdf : a.defers = []) (h : R (.returned (.tuple #[.agg vs.toArray, a.tmps.getD u undef])) w) : bodyPost P fn R .ret a w := by
  refine bodyPost_ret ?_ hdf h
  rw [results_cell_tmp hf, hp]
  have hl := run_loadVar_row (P := P) w g t ty vs.toArray (0, 0) d hr hu hd (by rw [hi]; simp [hn])
  simp [asAddr, hl]
end Go.Proofs.Ytglfeocfhlmloaa.Nd
namespace Go.Proofs.Ytglfeocfhlmloaa.Nd
open Go.RowKit
theorem Els.own {w : World} {v : Value} {k : Nat} {xs : List (List Value)} (h : Els w v k xs) (hne : xs ≠ []) : ∀ q, v.ownBlock = some q → q < w.heap.size := by
  obtain ⟨p, cap, b, o, rfl, _, _, h3, _⟩ := h.ex
  obtain ⟨rfl, hb⟩ := h3 hne
  intro q hq
  cases hq
  exact hb
/-- the Out at block g has made the bytes xs, in blocks from B on -/
def OutB (w : World) (B g : Nat) (xs : List Nat) : Prop := ∃ v, OutIs w B g v xs
theorem OutB.below {w w' : World} {B g : Nat} {xs : List Nat} (h : OutB w B g xs) (hb : Below w.heap.size w w') : OutB w' B g xs := by
  obtain ⟨v, hv⟩ := h
  exact ⟨v, hv.below hb⟩
theorem OutB.base {w : World} {B g : Nat} {xs : List Nat} (h : OutB w B g xs) : B ≤ w.heap.size := by
  obtain ⟨v, hv⟩ := h
  exact hv.base
theorem out_below {w w' : World} {B g : Nat} {v : Value} {xs : List Nat} (hg : B ≤ g) (ho : OutIs w B g v xs) (h : Grew w w' (OutS g v)) : Below B w w' :=
  h.below (Below.refl _ _) ho.base (outS_ge ho hg)
/-- the same, apart from block I -/
def OutA (w : World) (B g : Nat) (xs : List Nat) (I : Nat) : Prop := ∃ v, OutIs w B g v xs ∧ v.ownBlock ≠ some I
theorem OutA.toB {w : World} {B g I : Nat} {xs : List Nat} (h : OutA w B g xs I) : OutB w B g xs := by
  obtain ⟨v, hv, _⟩ := h
  exact ⟨v, hv⟩
theorem OutA.below {w w' : World} {B g I : Nat} {xs : List Nat} (h : OutA w B g xs I) (hb : Below w.heap.size w w') : OutA w' B g xs I := by
  obtain ⟨v, hv, hn⟩ := h
  exact ⟨v, hv.below hb, hn⟩
theorem OutB.blk {w : World} {B g : Nat} {xs : List Nat} (h : OutB w B g xs) : g < w.heap.size := by
  obtain ⟨v, hv⟩ := h
  exact hv.row.lt
end Go.Proofs.Ytglfeocfhlmloaa.Nd
namespace Go.Proofs.Ytglfeocfhlmloaa.Nd
open Go.RowKit
theorem Els.keep {w w' : World} {v : Value} {k B : Nat} {xs : List (List Value)} (h : Els w v k xs) (hb : Below B w w') (hB : w.heap.size ≤ B) : Els w' v k xs := h.below (hb.mono hB)
theorem enc_1 {n : Nd} (h : n.kind = 1) : enc n = Wire.num 1 ++ (Wire.num n.data.size ++ bytesS n.data) := by simp [enc, h]
theorem enc_2 {n : Nd} (h : n.kind = 2) : enc n = Wire.num 2 ++ Wire.num n.size.toNat ++ n.parts.flatten := by simp [enc, h]
theorem enc_3 {n : Nd} (h : n.kind = 3) : enc n = Wire.num 3 ++ Wire.num n.items.length ++ n.items.flatMap It.bytes := by simp [enc, h]
theorem itemsOk_kind {l : List It} (h : itemsOk l) : ∀ x ∈ l, 0 ≤ x.kind ∧ x.name.size ≤ 16 := by
  intro x hx
  obtain ⟨i, hi, rfl⟩ := List.getElem_of_mem hx
  have h1 := (h.2 i hi _ (List.getElem?_eq_getElem hi)).1
  unfold itemOk at h1
  simp only [Bool.and_eq_true, Bool.or_eq_true, beq_iff_eq] at h1
  obtain ⟨h2, h3⟩ := h1
  unfold isNameS at h3
  simp only [Bool.and_eq_true, decide_eq_true_eq] at h3
  have h4 := h3.1.2
  rw [bl_length] at h4
  exact ⟨by rcases h2 with h | h <;> omega, h4⟩
end Go.Proofs.Ytglfeocfhlmloaa.Nd
namespace Go.Proofs.Ytglfeocfhlmloaa.Nd
open Go.RowKit
theorem sNum_num (v : Nat) (r : List Nat) (h : v < 18446744073709551616) : sNum (Wire.num v ++ r, 0) = (v, (r, 0)) := by
  unfold sNum
  rw [if_pos rfl]
  exact rnum_num v r h
theorem sText_text (m : Nat) (S : ByteArray) (r : List Nat) (h : S.size ≤ m) (hm : m ≤ 9223372036854775807) : sText m (Wire.num S.size ++ bytesS S ++ r, 0) = (bytesS S, (r, 0)) := by
  unfold sText Wire.rtext
  rw [if_pos rfl]
  have e := rnum_num S.size (bytesS S ++ r) (by omega)
  rw [← List.append_assoc] at e
  simp only [e]
  rw [if_neg (by simp), if_neg (by simp; omega), if_neg (by simp [bytesS_length])]
  have hl := bytesS_length S
  simp [← hl]
theorem sDig_dig (d r : List Nat) (h : d.length = 32) : sDig (d ++ r, 0) = (d, (r, 0)) := by
  unfold sDig rdigest
  rw [if_pos rfl, if_neg (by simp; omega)]
  simp [← h]
theorem sParts_parts (ps : List (List Nat)) (h : ∀ d ∈ ps, Dg d) (r : List Nat) : ∀ c, c ≤ ps.length → sParts c (ps.flatten ++ r, 0) = (ps.take c, ((ps.drop c).flatten ++ r, 0)) := by
  intro c
  induction c with
  | zero => intro _; simp [sParts]
  | succ c ih =>
    intro hc
    have h1 := ih (by omega)
    have hd : ps.drop c = ps[c] :: ps.drop (c + 1) := List.drop_eq_getElem_cons (by omega)
    have h2 := sDig_dig ps[c] ((ps.drop (c + 1)).flatten ++ r) (h _ (List.getElem_mem _)).1
    simp only [sParts, h1, hd, List.flatten_cons, List.append_assoc, h2]
    rw [List.take_add_one, List.getElem?_eq_getElem (by omega)]
    rfl
theorem sItems_items (f : Nat → Nat) (hf2 : f 2 = 2) (hf3 : f 3 = 3) (l : List It) (h : ∀ x ∈ l, x.ok) (hk : ∀ x ∈ l, (x.kind = 2 ∨ x.kind = 3) ∧ x.name.size ≤ 16) (r : List Nat) : ∀ c, c ≤ l.length → sItems f c (l.flatMap It.bytes ++ r, 0) = (l.take c, ((l.drop c).flatMap It.bytes ++ r, 0)) := by
  intro c
  induction c with
  | zero => intro _; simp [sItems]
  | succ c ih =>
    intro hc
    have h1 := ih (by omega)
    have hd : l.drop c = l[c] :: l.drop (c + 1) := List.drop_eq_getElem_cons (by omega)
    have hm : l[c] ∈ l := List.getElem_mem _
    obtain ⟨hk1, hk2⟩ := hk _ hm
    have e1 := sText_text 16 l[c].name (Wire.num l[c].kind.toNat ++ (l[c].sum ++ ((l.drop (c + 1)).flatMap It.bytes ++ r))) hk2 (by decide)
    have e2 := sNum_num l[c].kind.toNat (l[c].sum ++ ((l.drop (c + 1)).flatMap It.bytes ++ r)) (by rcases hk1 with h | h <;> rw [h] <;> decide)
    have e3 := sDig_dig l[c].sum ((l.drop (c + 1)).flatMap It.bytes ++ r) (h _ hm).sum.1
    rw [List.append_assoc] at e1
    have e4 : ((f l[c].kind.toNat : Nat) : Int) = l[c].kind := by
      rcases hk1 with h | h
      · rw [h]; show ((f 2 : Nat) : Int) = 2; rw [hf2]; rfl
      · rw [h]; show ((f 3 : Nat) : Int) = 3; rw [hf3]; rfl
    simp only [sItems, sItem, h1, hd, List.flatMap_cons, It.bytes, List.append_assoc, e1, e2, e3, e4, str_bytesS]
    rw [List.take_add_one, List.getElem?_eq_getElem (by omega)]
    rfl
theorem itemsOk_kinds {l : List It} (h : itemsOk l) : ∀ x ∈ l, (x.kind = 2 ∨ x.kind = 3) ∧ x.name.size ≤ 16 := by
  intro x hx
  refine ⟨?_, (itemsOk_kind h x hx).2⟩
  obtain ⟨i, hi, rfl⟩ := List.getElem_of_mem hx
  have h1 := (h.2 i hi _ (List.getElem?_eq_getElem hi)).1
  unfold itemOk at h1
  simp only [Bool.and_eq_true, Bool.or_eq_true, beq_iff_eq] at h1
  exact h1.1
theorem empty_of {s : ByteArray} (h : s.size = 0) : s = ByteArray.empty := ByteArray.size_eq_zero_iff.1 h
/-- what is written is read as it was -/
theorem rd_enc {n : Nd} (hr : right n) (hok : n.ok) : rd (enc n, 0) = (n, ([], 0)) := by
  obtain ⟨kind, data, size, parts, items⟩ := n
  rcases hr with ⟨hk, hd1, hd2, hs, hp, hi⟩ | ⟨hk, hd, hs0, hs1, hp, hi⟩ | ⟨hk, hd, hs, hp, hi⟩
  · simp only at hk hd1 hd2 hs hp hi
    subst hk hs hp hi
    rw [enc_1 rfl]
    have e1 := sNum_num 1 (Wire.num data.size ++ bytesS data) (by decide)
    have e2 := sText_text 64 data [] hd2 (by decide)
    rw [List.append_nil] at e2
    rw [rd_1 (by rw [e1]; rfl), e1, e2, str_bytesS]
  · simp only at hk hd hs0 hs1 hp hi
    subst hk hi
    rw [enc_2 rfl, List.append_assoc]
    simp only
    have e1 := sNum_num 2 (Wire.num size.toNat ++ parts.flatten) (by decide)
    have e2 := sNum_num size.toNat parts.flatten (by omega)
    have hc : cutN 1024 size.toNat = size.toNat := by unfold cutN; omega
    have hz : ((size.toNat : Nat) : Int) = size := by omega
    have e3 := sParts_parts parts hok.parts [] parts.length (Nat.le_refl _)
    rw [List.append_nil] at e3
    rw [rd_2 (z := size.toNat) (by rw [e1]; rfl) (by rw [e1, e2]; exact hc), e1, e2, hz, ← hp, e3, empty_of hd]
    simp
  · simp only at hk hd hs hp hi
    subst hk hs hp
    rw [enc_3 rfl, List.append_assoc]
    simp only
    have hl := hi.1
    have e1 := sNum_num 3 (Wire.num items.length ++ items.flatMap It.bytes) (by decide)
    have e2 := sNum_num items.length (items.flatMap It.bytes) (by omega)
    have hc : cutN 64 items.length = items.length := by unfold cutN; omega
    have e3 := sItems_items (cutN 3) rfl rfl items hok.items (itemsOk_kinds hi) [] items.length (Nat.le_refl _)
    rw [List.append_nil] at e3
    rw [rd_3 (z := items.length) (by rw [e1]; rfl) (by rw [e1, e2]; exact hc), e1, e2, e3, empty_of hd]
    simp
/-- these bytes mean that node -/
def Means (bs : List Nat) (n : Nd) : Prop := right n ∧ n.ok ∧ enc n = bs
theorem Means.rd {bs : List Nat} {n : Nd} (h : Means bs n) : Go.Proofs.Ytglfeocfhlmloaa.Nd.rd (bs, 0) = (n, ([], 0)) := by rw [← h.2.2]; exact rd_enc h.1 h.2.1
end Go.Proofs.Ytglfeocfhlmloaa.Nd
namespace Go.Proofs.Ytglfeocfhlmloaa.Nd
open Go.RowKit
theorem ba_beq (a b : ByteArray) : (a == b) = true ↔ a = b := by
  rw [beq_toListBytes, beq_iff_eq, Lib.toList_data, Lib.toList_data]
  constructor
  · intro h
    cases a; cases b
    simpa using h
  · rintro rfl; rfl
end Go.Proofs.Ytglfeocfhlmloaa.Nd
namespace Go.Proofs.Ytglfeocfhlmloaa.Nd
open Go.RowKit
attribute [local go_sem] has_drewN cellsAt_drewN has_drew cellsAt_drew ptrB_pointer ptrO_pointer
theorem toList_inj {a b : ByteArray} : a.toList = b.toList ↔ a = b := by
  constructor
  · intro h; exact (ba_beq a b).1 (by rw [beq_toListBytes, h]; simp)
  · rintro rfl; rfl
end Go.Proofs.Ytglfeocfhlmloaa.Nd
namespace Go.Proofs.Ytglfeocfhlmloaa.Nd
open Go.RowKit
theorem own_belowK {w w' : World} {B n k : Nat} {e : TypeId} {v : Value} {xs : List Value} (h : w.ownsRow B e k v n xs) (hb : Below w.heap.size w w') : w'.ownsRow B e k v n xs := by
  obtain ⟨h1, h2 | ⟨g, cap, cur, rfl, hB, hh, r⟩⟩ := h
  · exact ⟨h1, .inl h2⟩
  · refine ⟨h1, .inr ⟨g, cap, cur, rfl, hB, ?_, r⟩⟩
    have hlt : g < w.heap.size := (Array.getElem?_eq_some_iff.1 hh).1
    rw [hb.block g hlt]
    exact hh
theorem own_geK {W : World} {base : Nat} {e : TypeId} {size n : Nat} {v : Value} {xs : List Value} (h : W.ownsRow base e size v n xs) (k : Nat) (hk : v.ownBlock = some k) : base ≤ k ∧ k < W.heap.size := by
  obtain ⟨_, ⟨rfl, _⟩ | ⟨g, cap, cur, rfl, hB, hh, _⟩⟩ := h
  · cases hk
  · have e2 : g = k := by simpa [Value.ownBlock] using hk
    have := (Array.getElem?_eq_some_iff.1 hh).1
    omega
theorem flatten_get {k : Nat} {xs : List (List Value)} (h : ∀ us ∈ xs, us.length = k) : ∀ (i : Nat) us, xs[i]? = some us → ∀ (y : Nat) u, us[y]? = some u → xs.flatten[i * k + y]? = some u := by
  induction xs with
  | nil => intro i us hi; simp at hi
  | cons x r ih =>
    intro i us hi y u hy
    have hx := h x (by simp)
    cases i with
    | zero =>
      simp at hi
      subst hi
      rw [List.flatten_cons, Nat.zero_mul, Nat.zero_add, List.getElem?_append_left (by exact (List.getElem?_eq_some_iff.1 hy).1)]
      exact hy
    | succ i =>
      rw [List.flatten_cons, List.getElem?_append_right (by rw [hx, Nat.add_mul]; omega), hx]
      have := ih (fun us hus => h us (by simp [hus])) i us (by simpa using hi) y u hy
      rw [show (i + 1) * k + y - k = i * k + y by rw [Nat.add_mul]; omega]
      exact this
end Go.Proofs.Ytglfeocfhlmloaa.Nd
namespace Go.Proofs.Ytglfeocfhlmloaa.Rf
open Go.RowKit
open Vp (Str B bl Val cmpL parseS showS sv)
/-- names in a row of their own -/
def Nm (w : World) (v : Value) (xs : List Str) : Prop := w.ownsRow 0 9 1 v xs.length (xs.map sv)
theorem own0 {w : World} {base n size : Nat} {e : TypeId} {v : Value} {xs : List Value} (h : w.ownsRow base e size v n xs) : w.ownsRow 0 e size v n xs := by
  refine ⟨h.1, ?_⟩
  rcases h.2 with h | ⟨g, cap, cur, h1, _, h3⟩
  · exact .inl h
  · exact .inr ⟨g, cap, cur, h1, Nat.zero_le _, h3⟩
theorem Nm.of {w : World} {base : Nat} {v : Value} {xs : List Str} (h : Vp.Nms w base v xs) : Nm w v xs := own0 h
theorem Nm.val {w : World} {v : Value} {xs : List Str} (h : Nm w v xs) : Val w v xs := Vp.Nms.val (base := 0) h
theorem Nm.below {w w' : World} {v : Value} {xs : List Str} (h : Nm w v xs) (hb : Below w.heap.size w w') : Nm w' v xs := Nd.own_belowK h hb
theorem Nm.form {w : World} {v : Value} {xs : List Str} (h : Nm w v xs) : ∃ p c, v = .slice p xs.length c := Vp.Nms.shape (base := 0) h
end Go.Proofs.Ytglfeocfhlmloaa.Rf
namespace Go.Proofs.Ytglfeocfhlmloaa.Vp
open Go.RowKit
/-- whether names are a path's -/
def checkS (xs : List Str) : Int := if xs.all isNameS = false then 41 else if 8 < xs.length then 42 else 0
theorem lens_mem {xs : List Str} {x : Str} (h : x ∈ xs) : x.length ≤ Lib.lens xs := by
  induction xs with
  | nil => cases h
  | cons y r ih =>
    simp only [Lib.lens, List.map_cons, List.sum_cons] at ih ⊢
    rcases List.mem_cons.1 h with rfl | h
    · omega
    · have := ih h; omega
theorem allS_snoc {p : Str → Bool} {l : List Str} {i : Nat} {c : Str} (hc : l[i]? = some c) (h : (l.take i).all p = true) (hp : p c = true) : (l.take (i + 1)).all p = true := by
  rw [List.take_add_one, hc]; simp [List.all_append, h, hp]
theorem allS_no {p : Str → Bool} {l : List Str} {i : Nat} {c : Str} (hc : l[i]? = some c) (hp : p c = false) : l.all p = false := by
  rw [List.all_eq_false]
  exact ⟨c, List.mem_of_getElem? hc, by simp [hp]⟩
set_option maxHeartbeats 400000 in
set_option maxRecDepth 100000 in
theorem check_v {xs : List Str} {u : Value} {w : World} (hx : Val w u xs) (hl : Lib.lens xs + xs.length ≤ 140737488355328) : Calls Try.prog 33 #[u] w fun e w' => e = .returned (.int .i64 (checkS xs)) ∧ w' = w := by
  obtain ⟨p, cap, b, o, rfl, hle, hbig, hp, hc⟩ := val_at hx
  obtain ⟨R, hR⟩ : ∃ R, Hid (R = checkS xs) := ⟨_, rfl⟩
  rw [← hR.out]
  have HC := hid_in hc
  have HP := hid_in hp
  have HL := hid_in hl
  have hb1 : xs.length ≤ 9223372036854775807 := by omega
  generalize hn : xs.length = n at *
  have Hn := hid_in hn
  clear hn hc hp hx hl
  go_enter Try.func33, Try.ntmps33
  go_wp2_with fail
  go_loopw [7] (fun vi w' => w' = w ∧ ∃ i : Nat, i ≤ n ∧ vi = .int .i64 (i : Int) ∧ Hid ((xs.take i).all isNameS = true)) (fun vi _ => n - (intOf vi).toNat)
  case atStart => exact ⟨rfl, 0, by omega, rfl, rfl⟩
  case round =>
    obtain ⟨hw, i, hi, rfl, hall⟩ := hrel
    obtain rfl := hw.symm
    by_cases hlt : i < n
    · obtain ⟨x, hxi⟩ : ∃ d, xs[i]? = some d := ⟨_, List.getElem?_eq_getElem (by rw [Hn.out]; exact hlt)⟩
      have cx := HC.out i x hxi
      obtain rfl := HP.out (by rintro rfl; simp at hxi)
      have HN := hid_in (isName_any x (by have := lens_mem (List.mem_of_getElem? hxi); have := HL.out; omega))
      have HX := hid_in hxi
      clear hxi
      cases hnm : isNameS x
      · rw [hnm] at HN
        have HNM := hid_in hnm
        clear hnm
        go_wp2_with (go_at_call 53; refine (HN.out _).mono ?_; rintro e w' ⟨rfl, hw⟩; obtain rfl := hw.symm)
        go_ret
        refine ⟨congrArg (fun z => Ending.returned (Value.int .i64 z)) (Eq.trans ?_ hR.out.symm), rfl⟩
        unfold checkS
        rw [if_pos (allS_no HX.out HNM.out)]
      · rw [hnm] at HN
        have hsn : Hid ((xs.take (i + 1)).all isNameS = true) := allS_snoc HX.out hall.out hnm
        clear hnm
        go_wp2_with (go_at_call 53; refine (HN.out _).mono ?_; rintro e w' ⟨rfl, hw⟩; obtain rfl := hw.symm)
        go_roundw
        case rel =>
          go_light
          exact ⟨trivial, i + 1, by omega, by go_num, hsn⟩
        case measure => simp [intOf]; omega
    · have hin : i = n := by omega
      subst hin
      have HA : Hid (R = if 8 < i then 42 else 0) := by
        show _ = _
        rw [hR.out]
        have := hall.out
        rw [List.take_of_length_le (by rw [Hn.out]; omega)] at this
        unfold checkS
        rw [if_neg (by rw [this]; simp), Hn.out]
      clear hR
      by_cases h8 : 8 < i
      · have HA2 := hid_in (HA.out.trans (if_pos h8))
        go_wp2_with fail
        go_ret
        refine ⟨congrArg (fun z => Ending.returned (Value.int .i64 z)) (Eq.trans ?_ HA2.out.symm), rfl⟩
        rfl
      · have HA2 := hid_in (HA.out.trans (if_neg h8))
        go_wp2_with fail
        go_ret
        refine ⟨congrArg (fun z => Ending.returned (Value.int .i64 z)) (Eq.trans ?_ HA2.out.symm), rfl⟩
        rfl
end Go.Proofs.Ytglfeocfhlmloaa.Vp
