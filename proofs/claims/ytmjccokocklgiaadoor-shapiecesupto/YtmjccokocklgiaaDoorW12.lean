/-
  The walks of bytes.Compare, sha.Compare and the reference's Compare: which digest is the lesser one.
-/
import Derived.Test.YtmjccokocklgiaaDoorW11
import Derived.Lib.Bytealg
import Derived.Lib.BytesEntry
namespace Go.Proofs.YtmjccokocklgiaaDoor
open Go.RowKit

/-- -1, 0 or 1: by the first place at which two lists differ -/
def cmpN : List Nat → List Nat → Int
  | [], [] => 0
  | [], _ :: _ => -1
  | _ :: _, [] => 1
  | x :: a, y :: b => if x < y then -1 else if y < x then 1 else cmpN a b
theorem ofNat_lt (x y : Nat) (hx : x < 256) (hy : y < 256) : UInt8.ofNat x < UInt8.ofNat y ↔ x < y := by
  rw [UInt8.lt_iff_toNat_lt]; simp [UInt8.toNat_ofNat']; omega
theorem cmp_bytes : ∀ (a b : List Nat), (∀ x ∈ a, x < 256) → (∀ x ∈ b, x < 256) → Lib.compareBytes (a.map UInt8.ofNat) (b.map UInt8.ofNat) = cmpN a b
  | [], [], _, _ => rfl
  | [], _ :: _, _, _ => rfl
  | _ :: _, [], _, _ => rfl
  | x :: a, y :: b, ha, hb => by
    simp only [List.map_cons, Lib.compareBytes, cmpN, ofNat_lt x y (ha x (by simp)) (hb y (by simp)), ofNat_lt y x (hb y (by simp)) (ha x (by simp))]
    rw [cmp_bytes a b (fun z hz => ha z (by simp [hz])) (fun z hz => hb z (by simp [hz]))]

theorem load_bytes (w : World) (b : Nat) (l : List Nat) (hc : ∀ j, j < l.length → w.cell? ⟨b, j, none⟩ = some (u8v (l.getD j 0))) : (Extern.Bytes.loadBytes ⟨b, 0, none⟩ l.length .empty).run Tryd.prog w = .ok (str l) w := by
  have h := Lib.run_loadBytesX (P := Tryd.prog) w (l.map fun (x : Nat) => (x : Int)) ⟨b, 0, none⟩ .empty (fun j x hj => by
    have hj' : j < l.length := by simpa using (List.getElem?_eq_some_iff.1 hj).1
    rw [Addr.add_mid, Nat.zero_add, hc j hj']
    simp [hj'] at hj
    subst hj
    simp [u8v, hj'])
  rw [List.length_map] at h
  rw [h]
  have e : (⟨ByteArray.empty.data ++ (Lib.bytesOf (l.map fun (x : Nat) => (x : Int))).toArray⟩ : ByteArray) = str l := by
    simp [Lib.bytesOf, str, ByteArray.empty, ByteArray.emptyWithCapacity]
    exact List.map_congr_left fun x _ => by simp
  rw [e]

set_option maxHeartbeats 400000 in
theorem bcompare_any (a b : List Nat) (ha : ∀ x ∈ a, x < 256) (hb : ∀ x ∈ b, x < 256) (ga gb ca cb : Nat) (w : World) (h1 : ∀ j, j < a.length → w.cell? ⟨ga, j, none⟩ = some (u8v (a.getD j 0))) (h2 : ∀ j, j < b.length → w.cell? ⟨gb, j, none⟩ = some (u8v (b.getD j 0))) :
    Calls Tryd.prog 29 #[.slice (some ⟨ga, 0, none⟩) a.length ca, .slice (some ⟨gb, 0, none⟩) b.length cb] w fun e w' => e = .returned (.int .i64 (cmpN a b)) ∧ w' = w := by
  have hrun : (Extern.BytealgCompare.compare #[.slice (some ⟨ga, 0, none⟩) a.length ca, .slice (some ⟨gb, 0, none⟩) b.length cb]).run Tryd.prog w = .ok (.int .i64 (cmpN a b)) w := by
    change Sem.run Tryd.prog (do pure (goInt (Extern.BytealgCompare.cmp (← Extern.Bytes.bytesOf (.slice (some ⟨ga, 0, none⟩) a.length ca)) (← Extern.Bytes.bytesOf (.slice (some ⟨gb, 0, none⟩) b.length cb))))) w = _
    simp only [Extern.Bytes.bytesOf, Sem.run_bind, Sem.run_pure, Result.andThen, load_bytes w ga a h1, load_bytes w gb b h2]
    rw [Lib.cmp_eq, show (str a).data.toList = a.map UInt8.ofNat by simp [str], show (str b).data.toList = b.map UInt8.ofNat by simp [str], cmp_bytes a b ha hb]
    rfl
  clear h1 h2
  go_enter Tryd.func29, Tryd.ntmps29
  go_wp2
  rw [run_callFunc_extern Tryd.func32 (by kernel_rfl) (by kernel_rfl) (by kernel_rfl) (e := Extern.BytealgCompare.compare) (by kernel_rfl), hrun]
  simp only [Result.andThen]
  rw [Oper.upon_value]
  go_wp2
  go_ret
  exact ⟨rfl, rfl⟩

set_option maxHeartbeats 400000 in
theorem compare_any (a b : List Nat) (ha : ∀ x ∈ a, x < 256) (hb : ∀ x ∈ b, x < 256) (hal : a.length = 32) (hbl : b.length = 32) (w : World) :
    Calls Tryd.prog 21 #[.agg (a.map u8v).toArray, .agg (b.map u8v).toArray] w fun e w' => e = .returned (.int .i64 (cmpN a b)) ∧ Below w.heap.size w w' := by
  have hra : Row ((w.alloc (.cells (a.map u8v).toArray 25)).alloc (.cells (b.map u8v).toArray 25)) w.heap.size (a.map u8v) 25 := (Row.newAt w _ _ 25 rfl).alloc _
  have hrb : Row ((w.alloc (.cells (a.map u8v).toArray 25)).alloc (.cells (b.map u8v).toArray 25)) (w.heap.size + 1) (b.map u8v) 25 := Row.newAt (w.alloc _) _ _ 25 (by simp)
  have h := bcompare_any a b ha hb w.heap.size (w.heap.size + 1) 32 32 _ (fun j hj => hra.drew.cellMap j hj) (fun j hj => hrb.drew.cellMap j hj)
  rw [hal, hbl] at h
  clear hra hrb
  go_enter Tryd.func21, Tryd.ntmps21
  go_wp2_with fail
  go_region_with (first | (go_at_call 29; refine h.mono ?_; rintro e w' ⟨rfl, rfl⟩))
  go_wp2
  go_ret
  exact ⟨rfl, (((Below.refl _ _).alloc (Nat.le_refl _) _).alloc (by simp) _).drew⟩

theorem cmp_drop (a b : List Nat) (i : Nat) (h1 : i < a.length) (h2 : i < b.length) : cmpN (a.drop i) (b.drop i) = if a.getD i 0 < b.getD i 0 then -1 else if b.getD i 0 < a.getD i 0 then 1 else cmpN (a.drop (i + 1)) (b.drop (i + 1)) := by
  rw [List.drop_eq_getElem_cons h1, List.drop_eq_getElem_cons h2]
  simp [cmpN, h1, h2]

set_option maxHeartbeats 400000 in
theorem rcompare_any (a b : List Nat) (hal : a.length = 32) (hbl : b.length = 32) (w : World) :
    Calls Tryd.prog 22 #[.agg (a.map u8v).toArray, .agg (b.map u8v).toArray] w fun e w' => e = .returned (.int .i64 (cmpN a b)) ∧ Below w.heap.size w w' := by
  go_enter Tryd.func22, Tryd.ntmps22
  go_wp2_with fail
  go_loopw [5] (fun vi w' => ∃ i : Nat, i ≤ 32 ∧ vi = .int .i64 (i : Int) ∧ cmpN a b = cmpN (a.drop i) (b.drop i) ∧ Row w' w.heap.size (a.map u8v) 25 ∧ Row w' (w.heap.size + 1) (b.map u8v) 25 ∧ Below w.heap.size w w') (fun vi _ => 32 - (intOf vi).toNat)
  case atStart => exact ⟨0, by omega, rfl, rfl, (Row.newAt w _ _ 25 rfl).alloc _, Row.newAt (w.alloc _) _ _ 25 (by simp), ((Below.refl _ _).alloc (Nat.le_refl _) _).alloc (by simp) _⟩
  case round =>
    obtain ⟨i, hi, rfl, hcmp, hra, hrb, hbw⟩ := hrel
    have HC : Hid (cmpN a b = cmpN (a.drop i) (b.drop i)) := hcmp
    clear hcmp
    by_cases hlt : i < 32
    · have hlt' : (i : Int) < 32 := by omega
      have c0 : wr.cell? ⟨w.heap.size, i, none⟩ = some (.int .u8 ((a.getD i 0 : Nat) : Int)) := hra.cellMap i (by omega)
      have c1 : wr.cell? ⟨w.heap.size + 1, i, none⟩ = some (.int .u8 ((b.getD i 0 : Nat) : Int)) := hrb.cellMap i (by omega)
      have HD : Hid (cmpN (a.drop i) (b.drop i) = if a.getD i 0 < b.getD i 0 then -1 else if b.getD i 0 < a.getD i 0 then 1 else cmpN (a.drop (i + 1)) (b.drop (i + 1))) := cmp_drop a b i (by omega) (by omega)
      generalize a.getD i 0 = x at c0 HD
      generalize b.getD i 0 = y at c1 HD
      by_cases h1 : x < y
      · have h1' : (x : Int) < (y : Int) := by omega
        go_wp2_with fail
        go_quiet (fail)
        go_wp2
        go_ret
        exact ⟨by rw [HC.out, HD.out, if_pos h1]; rfl, below_drewN hbw _⟩
      · have h1' : ¬ (x : Int) < (y : Int) := by omega
        by_cases h2 : y < x
        · have h2' : (y : Int) < (x : Int) := by omega
          go_wp2_with fail
          go_quiet (fail)
          go_wp2_with fail
          go_quiet (fail)
          go_wp2
          go_ret
          exact ⟨by rw [HC.out, HD.out, if_neg h1, if_pos h2]; rfl, below_drewN (below_drewN hbw _) _⟩
        · have h2' : ¬ (y : Int) < (x : Int) := by omega
          go_wp2_with fail
          go_quiet (fail)
          go_wp2_with fail
          go_quiet (fail)
          go_wp2
          go_roundw
          case rel =>
            go_light
            exact ⟨i + 1, by omega, by go_num, by rw [HC.out, HD.out, if_neg h1, if_neg h2], hra.drewN _, hrb.drewN _, below_drewN hbw _⟩
          case measure => simp [intOf]; omega
    · have hlt' : ¬ (i : Int) < 32 := by omega
      go_wp2
      go_ret
      refine ⟨?_, hbw⟩
      rw [HC.out, List.drop_eq_nil_of_le (by omega), List.drop_eq_nil_of_le (by omega)]
      rfl
end Go.Proofs.YtmjccokocklgiaaDoor
