/-
  The walks of sha.New, sha.digestOf and sha.ending. The walk of sha.ending: what comes behind the bytes. What a hash has taken: its cells, and what they mean. The walk of (*sha.Hash).Write: bytes come behind those that a hash has taken. The walks of (*sha.Hash).Sum and sha.Sum: the digest of all bytes so far.
-/
import Derived.Deep.RegionHeld3
import Derived.Deep.DrawnRows
import Derived.Test.YtamaejlbojbbeaaGreatDoorQ00
import Derived.Test.YtamaejlbojbbeaaGreatDoorQ01
namespace Go.Proofs.YtamaejlbojbbeaaGreatDoor.Sb
open Go.RowKit
/-- a hash's cells: its state, its block, how many bytes it took -/
def hcells (s : Sha.St) (bl : List Nat) (total : Nat) : List Value := s.list.map u32v ++ (bl.map u8v ++ [.int .i64 (total : Int)])
set_option maxHeartbeats 400000 in
set_option maxRecDepth 100000 in
theorem new_any (w : World) :
    Calls Tryz.prog 121 #[] w fun e w' => e = .returned (.pointer (some ⟨w.heap.size, 0, none⟩)) ∧ Row w' w.heap.size (hcells Sha.H0 (List.replicate 64 0) 0) 243 ∧ Below w.heap.size w w' ∧ w'.heap.size = w.heap.size + 1 := by
  have hz : ∀ w, (zeroValue 243).run Tryz.prog w = .ok (.agg #[.int .u32 0, .int .u32 0, .int .u32 0, .int .u32 0, .int .u32 0, .int .u32 0, .int .u32 0, .int .u32 0, .int .u8 0, .int .u8 0, .int .u8 0, .int .u8 0, .int .u8 0, .int .u8 0, .int .u8 0, .int .u8 0, .int .u8 0, .int .u8 0, .int .u8 0, .int .u8 0, .int .u8 0, .int .u8 0, .int .u8 0, .int .u8 0, .int .u8 0, .int .u8 0, .int .u8 0, .int .u8 0, .int .u8 0, .int .u8 0, .int .u8 0, .int .u8 0, .int .u8 0, .int .u8 0, .int .u8 0, .int .u8 0, .int .u8 0, .int .u8 0, .int .u8 0, .int .u8 0, .int .u8 0, .int .u8 0, .int .u8 0, .int .u8 0, .int .u8 0, .int .u8 0, .int .u8 0, .int .u8 0, .int .u8 0, .int .u8 0, .int .u8 0, .int .u8 0, .int .u8 0, .int .u8 0, .int .u8 0, .int .u8 0, .int .u8 0, .int .u8 0, .int .u8 0, .int .u8 0, .int .u8 0, .int .u8 0, .int .u8 0, .int .u8 0, .int .u8 0, .int .u8 0, .int .u8 0, .int .u8 0, .int .u8 0, .int .u8 0, .int .u8 0, .int .u8 0, .int .i64 0]) w := fun _ => by kernel_rfl
  go_enter Tryz.func121, Tryz.ntmps121
  go_wp2
  go_ret
  exact ⟨rfl, Row.newAt w _ (hcells Sha.H0 (List.replicate 64 0) 0) 243 rfl, (Below.refl _ _).alloc (Nat.le_refl _) _, by simp⟩
theorem i5 : (Tryz.prog.info? 5).map (fun i => (i.size, i.bytes, i.zero)) = some (1, 1, some (.int .u8 0)) := by kernel_rfl
theorem make_bytes (n : Nat) (hn : n ≤ 281474976710656) (w : World) : (Instr.makeSlice 51 (.int .i64 (n : Int)) (.int .i64 (n : Int))).run Tryz.prog w = .ok (.slice (some ⟨w.heap.size, 0, none⟩) n n) (w.alloc (.cells ((List.replicate n 0).map u8v).toArray 5)) := by
  obtain ⟨i, hi, he⟩ := Option.map_eq_some_iff.1 i5
  simp only [Prod.mk.injEq] at he
  obtain ⟨h1, h2, h3⟩ := he
  have h := run_make (P := Tryz.prog) w 51 5 i (.int .u8 0) Tryz.underlying51 hi h3 .i64 .i64 (n : Int) (n : Int) (by omega) (by omega) (by rw [h2]; omega) (by omega)
  rw [h, h1]
  have e : madeCells (Value.int .u8 0).cells ((n : Int).toNat * 1) = ((List.replicate n 0).map u8v).toArray := by
    have := toList_madeCells_one (.int .u8 0) n
    simp only [Int.toNat_natCast, Nat.mul_one]
    rw [← Array.toList_inj, List.toList_toArray]
    exact this.trans (by simp [u8v])
  rw [e]
  simp
theorem idxS (s : Sha.St) (i : Nat) (h : i < 8) (w : World) : (Instr.index 156 (.agg (s.list.map u32v).toArray) (.int .i64 (i : Int))).run Tryz.prog w = .ok (.int .u32 ((s.list.getD i 0 : Nat) : Int)) w := by
  rcases lt8 h with rfl | rfl | rfl | rfl | rfl | rfl | rfl | rfl <;> kernel_rfl
/-- the digest while its first i words have been written -/
def dacc (s : Sha.St) (i : Nat) : List Nat := (s.list.take i).flatMap Sha.bytesOf ++ List.replicate (32 - 4 * i) 0
theorem dacc_length (s : Sha.St) (i : Nat) (h : i ≤ 8) : (dacc s i).length = 32 := by
  rcases Nat.lt_or_eq_of_le h with h | rfl
  · rcases lt8 h with rfl | rfl | rfl | rfl | rfl | rfl | rfl | rfl <;> rfl
  · rfl
theorem dacc_set (s : Sha.St) (i : Nat) (h : i < 8) : ((((dacc s i).set (4 * i) (s.list.getD i 0 / 16777216 % 256)).set (4 * i + 1) (s.list.getD i 0 / 65536 % 256)).set (4 * i + 2) (s.list.getD i 0 / 256 % 256)).set (4 * i + 3) (s.list.getD i 0 % 256) = dacc s (i + 1) := by
  rcases lt8 h with rfl | rfl | rfl | rfl | rfl | rfl | rfl | rfl <;> rfl
theorem dacc_all (s : Sha.St) : dacc s 8 = Sha.digestOf s := rfl
theorem list_lt {s : Sha.St} (h : Ok s) : ∀ x ∈ s.list, x < 4294967296 := by
  obtain ⟨h1, h2, h3, h4, h5, h6, h7, h8⟩ := h
  intro x hx
  simp only [Sha.St.list, List.mem_cons, List.not_mem_nil, or_false] at hx
  rcases hx with rfl | rfl | rfl | rfl | rfl | rfl | rfl | rfl <;> assumption
set_option maxHeartbeats 400000 in
set_option maxRecDepth 100000 in
theorem digestOf_any (s : Sha.St) (hs : Ok s) (w : World) :
    Calls Tryz.prog 166 #[.agg (s.list.map u32v).toArray] w fun e w' => e = .returned (.agg ((Sha.digestOf s).map u8v).toArray) ∧ Below w.heap.size w w' := by
  go_enter Tryz.func166, Tryz.ntmps166
  go_wp2_with (refine wpList_load_Row rfl 156 _ rfl w.heap.size rfl 156 (s.list.map u32v) ?_ _ Tryz.underlying156 rfl 8 info68 (by simp [Sha.St.list]) ?_; exact ((Row.newAt w _ _ 156 rfl).alloc _).alloc _)
  go_loopw [7] (fun v w' => ∃ i : Nat, i ≤ 8 ∧ v = .int .i64 (i : Int) ∧ Row w' (w.heap.size + 1) ((List.replicate 32 0).map u8v) 30 ∧ Row w' (w.heap.size + 1 + 1) ((dacc s i).map u8v) 30 ∧ Below w.heap.size w w') (fun v _ => 8 - (intOf v).toNat)
  case atStart =>
    refine ⟨0, by omega, rfl, ?_, ?_, ?_⟩
    · exact (Row.newAt (w.alloc _) (w.heap.size + 1) ((List.replicate 32 0).map u8v) 30 (by simp)).alloc _
    · exact Row.newAt ((w.alloc _).alloc _) (w.heap.size + 1 + 1) ((List.replicate 32 0).map u8v) 30 (by simp)
    · exact ((((Below.refl _ _).alloc (Nat.le_refl _) _).alloc (by simp) _).alloc (by simp; omega) _)
  case round =>
    obtain ⟨i, hi, rfl, hr1, hr2, hbw⟩ := hrel
    by_cases hlt : i < 8
    · have hl := dacc_length s i hi
      have c0 : wr.cell? ⟨w.heap.size + 1 + 1, 4 * i, none⟩ = some (.int .u8 (((dacc s i).getD (4 * i) 0 : Nat) : Int)) := hr2.cellMap _ (by omega)
      have c1 : wr.cell? ⟨w.heap.size + 1 + 1, 4 * i + 1, none⟩ = some (.int .u8 (((dacc s i).getD (4 * i + 1) 0 : Nat) : Int)) := hr2.cellMap _ (by omega)
      have c2 : wr.cell? ⟨w.heap.size + 1 + 1, 4 * i + 2, none⟩ = some (.int .u8 (((dacc s i).getD (4 * i + 2) 0 : Nat) : Int)) := hr2.cellMap _ (by omega)
      have c3 : wr.cell? ⟨w.heap.size + 1 + 1, 4 * i + 3, none⟩ = some (.int .u8 (((dacc s i).getD (4 * i + 3) 0 : Nat) : Int)) := hr2.cellMap _ (by omega)
      have f0 := hr2.frozen (4 * i)
      have f1 := hr2.frozen (4 * i + 1)
      have f2 := hr2.frozen (4 * i + 2)
      have f3 := hr2.frozen (4 * i + 3)
      generalize (dacc s i).getD (4 * i) 0 = y0 at c0
      generalize (dacc s i).getD (4 * i + 1) 0 = y1 at c1
      generalize (dacc s i).getD (4 * i + 2) 0 = y2 at c2
      generalize (dacc s i).getD (4 * i + 3) 0 = y3 at c3
      have hx := idxS s i hlt
      have hxl : s.list.getD i 0 < 4294967296 := getD_lt (list_lt hs) i
      have hset := dacc_set s i hlt
      have HS : Hid (((((dacc s i).set (4 * i) (s.list.getD i 0 / 16777216 % 256)).set (4 * i + 1) (s.list.getD i 0 / 65536 % 256)).set (4 * i + 2) (s.list.getD i 0 / 256 % 256)).set (4 * i + 3) (s.list.getD i 0 % 256) = dacc s (i + 1)) := hset
      clear hset
      generalize s.list.getD i 0 = x at hx hxl HS
      go_wp2
      go_roundw
      case rel =>
        go_light
        have e0 : (x : Int) / 16777216 = ((x / 16777216 % 256 : Nat) : Int) := by omega
        have e1 : (x : Int) / 65536 % 256 = ((x / 65536 % 256 : Nat) : Int) := by omega
        have e2 : (x : Int) / 256 % 256 = ((x / 256 % 256 : Nat) : Int) := by omega
        have e3 : (x : Int) % 256 = ((x % 256 : Nat) : Int) := by omega
        rw [e0, e1, e2, e3]
        refine ⟨i + 1, by omega, by go_num, ?_, ?_, ?_⟩
        · exact (((hr1.set_other _ _ (by simp)).set_other _ _ (by simp)).set_other _ _ (by simp)).set_other _ _ (by simp)
        · rw [← HS.out]
          simp only [List.map_set]
          exact (((hr2.set_same _ _).set_same _ _).set_same _ _).set_same _ _
        · exact (((hbw.setCell (by simp; omega) _).setCell (by simp; omega) _).setCell (by simp; omega) _).setCell (by simp; omega) _
      case measure => simp [intOf]; omega
    · have HI : Hid (i = 8) := by show i = 8; omega
      have hal := dacc_length s i hi
      go_wp2_with (first | (refine wpList_load_Row rfl 30 _ rfl (w.heap.size + 1 + 1) rfl 30 _ hr2 _ Tryz.underlying30 rfl 32 info39 (by simp [hal]) ?_) | (refine wpList_store_Row rfl 30 _ _ rfl (w.heap.size + 1) 0 ((dacc s i).map u8v) rfl rfl 30 _ hr1 32 info39 (by simp [hal]) (by simp) (one_u8 _) ?_; intro w3 hr4 hg4 hs4))
      refine post_Row 2 30 Tryz.results166 (w.heap.size + 1) rfl 30 _ hr4 _ Tryz.underlying30 rfl 32 info39 (by simp [splice_all, hal]) rfl ⟨?_, below_of_grown hbw hg4 (by have := hbw.size; omega) (by omega)⟩
      rw [splice_all _ _ (by simp [hal]), HI.out, dacc_all s]
end Go.Proofs.YtamaejlbojbbeaaGreatDoor.Sb
namespace Go.Proofs.YtamaejlbojbbeaaGreatDoor.Sb
open Go.RowKit
/-- the last i bytes of a count -/
def cb (c : Nat) : Nat → List Nat
  | 0 => []
  | i + 1 => (c / 2 ^ (8 * i) % 256) :: cb c i
/-- the ending while i bytes of the count have been written -/
def eacc (z c i : Nat) : List Nat := 128 :: (List.replicate (z + (8 - i)) 0 ++ cb c i)
theorem cb_length (c i : Nat) : (cb c i).length = i := by
  induction i with
  | zero => rfl
  | succ i ih => simp [cb, ih]
theorem eacc_length (z c i : Nat) (h : i ≤ 8) : (eacc z c i).length = z + 9 := by simp [eacc, cb_length]; omega
theorem set_mid {α : Type} (A B : List α) (x y : α) (k : Nat) (h : k = A.length) : (A ++ x :: B).set k y = A ++ y :: B := by
  subst h; simp
theorem eacc_set (z c i : Nat) (h : i < 8) : (eacc z c i).set (z + 8 - i) (c / 2 ^ (8 * i) % 256) = eacc z c (i + 1) := by
  have e1 : eacc z c i = (128 :: List.replicate (z + (7 - i)) 0) ++ 0 :: cb c i := by
    unfold eacc
    rw [show z + (8 - i) = z + (7 - i) + 1 by omega, List.replicate_succ']
    simp
  have e2 : eacc z c (i + 1) = (128 :: List.replicate (z + (7 - i)) 0) ++ (c / 2 ^ (8 * i) % 256) :: cb c i := by
    unfold eacc
    rw [show 8 - (i + 1) = 7 - i by omega]
    rfl
  rw [e1, e2, set_mid _ _ _ _ _ (by simp; omega)]
theorem eacc_all (n z : Nat) (hz : z = (119 - n % 64) % 64) : eacc z (n * 8) 8 = Sha.ending n := by
  subst hz
  simp [eacc, cb, Sha.ending]
theorem ending_length (n : Nat) : (Sha.ending n).length = (119 - n % 64) % 64 + 9 := by simp [Sha.ending]
theorem eacc_start (w : World) (z c : Nat) : Row (w.alloc (.cells ((Array.replicate (z + 9) (u8v 0)).setIfInBounds 0 (.int .u8 128)) 5)) w.heap.size ((eacc z c 0).map u8v) 5 := by
  have e : (Array.replicate (z + 9) (u8v 0)).setIfInBounds 0 (.int .u8 128) = ((eacc z c 0).map u8v).toArray := by
    rw [← Array.toList_inj, Array.toList_setIfInBounds, Array.toList_replicate, List.replicate_succ]
    simp [eacc, cb, u8v]
  rw [e]
  exact Row.newAt w _ _ 5 rfl
set_option maxHeartbeats 400000 in
set_option maxRecDepth 100000 in
theorem ending_any (n : Nat) (hn : n < 1152921504606846976) (w : World) :
    Calls Tryz.prog 165 #[.int .i64 (n : Int)] w fun e w' => e = .returned (.slice (some ⟨w.heap.size, 0, none⟩) (Sha.ending n).length (Sha.ending n).length) ∧ Row w' w.heap.size ((Sha.ending n).map u8v) 5 ∧ Below w.heap.size w w' ∧ w'.heap.size = w.heap.size + 1 := by
  obtain ⟨z, hz⟩ : ∃ z, z = (119 - n % 64) % 64 := ⟨_, rfl⟩
  have HZ : Hid (z = (119 - n % 64) % 64) := hz
  have hzl : z < 64 := by omega
  have hz1 : (119 - (n : Int)) % 64 = (z : Int) := by omega
  have hmk : ∀ w, (Instr.makeSlice 51 (.int .i64 (1 + (z : Int) + 8)) (.int .i64 (1 + (z : Int) + 8))).run Tryz.prog w = .ok (.slice (some ⟨w.heap.size, 0, none⟩) (z + 9) (z + 9)) (w.alloc (.cells ((List.replicate (z + 9) 0).map u8v).toArray 5)) := by
    intro w
    have := make_bytes (z + 9) (by omega) w
    rw [show ((z + 9 : Nat) : Int) = 1 + (z : Int) + 8 by omega] at this
    exact this
  clear hz
  go_enter Tryz.func165, Tryz.ntmps165
  go_wp2_with fail
  go_loopw [20] (fun v w' => ∃ i : Nat, i ≤ 8 ∧ v = .int .i64 (i : Int) ∧ Row w' w.heap.size ((eacc z (n * 8) i).map u8v) 5 ∧ Below w.heap.size w w' ∧ w'.heap.size = w.heap.size + 1) (fun v _ => 8 - (intOf v).toNat)
  case atStart => exact ⟨0, by omega, rfl, eacc_start w z (n * 8), (Below.refl _ _).alloc (Nat.le_refl _) _, by simp⟩
  case round =>
    obtain ⟨i, hi, rfl, hr1, hbw, hsz⟩ := hrel
    have hl := eacc_length z (n * 8) i hi
    have HL : Hid ((eacc z (n * 8) i).length = z + 9) := hl
    have HSZ : Hid (wr.heap.size = w.heap.size + 1) := hsz
    clear hsz
    by_cases hlt : i < 8
    · have c0 : wr.cell? ⟨w.heap.size, z + 8 - i, none⟩ = some (.int .u8 (((eacc z (n * 8) i).getD (z + 8 - i) 0 : Nat) : Int)) := hr1.cellMap _ (by omega)
      have f0 := hr1.frozen (z + 8 - i)
      have HS : Hid ((eacc z (n * 8) i).set (z + 8 - i) (n * 8 / 2 ^ (8 * i) % 256) = eacc z (n * 8) (i + 1)) := eacc_set z (n * 8) i hlt
      generalize (eacc z (n * 8) i).getD (z + 8 - i) 0 = y0 at c0
      clear hl hmk hz1
      go_wp2
      go_roundw
      case rel =>
        go_light
        have e0 : (n : Int) * 8 / 2 ^ (8 * i) % 256 = ((n * 8 / 2 ^ (8 * i) % 256 : Nat) : Int) := by simp
        rw [e0]
        refine ⟨i + 1, by omega, by go_num, ?_, hbw.setCell (Nat.le_refl _) _, by simpa [World.setCell] using HSZ.out⟩
        rw [← HS.out, List.map_set]
        exact hr1.set_same _ _
      case measure => simp [intOf]; omega
    · have HI : Hid (i = 8) := by show i = 8; omega
      clear hl hmk
      go_wp2
      go_ret
      have e1 : eacc z (n * 8) i = Sha.ending n := by rw [HI.out]; exact eacc_all n z HZ.out
      rw [e1] at hr1
      rw [ending_length, ← HZ.out]
      exact ⟨rfl, hr1, hbw, HSZ.out⟩
end Go.Proofs.YtamaejlbojbbeaaGreatDoor.Sb
namespace Go.Proofs.YtamaejlbojbbeaaGreatDoor.Sb
open Go.RowKit
theorem hc_length (s : Sha.St) (bl : List Nat) (T : Nat) (hl : bl.length = 64) : (hcells s bl T).length = 73 := by simp [hcells, Sha.St.list, hl]
theorem hc_total (s : Sha.St) (bl : List Nat) (T : Nat) (hl : bl.length = 64) : (hcells s bl T)[72]? = some (.int .i64 (T : Int)) := by
  unfold hcells
  rw [List.getElem?_append_right (by simp [Sha.St.list]), List.getElem?_append_right (by simp [Sha.St.list, hl])]
  simp [Sha.St.list, hl]
theorem hc_set_total (s : Sha.St) (bl : List Nat) (T T' : Nat) (hl : bl.length = 64) : (hcells s bl T).set 72 (.int .i64 (T' : Int)) = hcells s bl T' := by
  unfold hcells
  rw [List.set_append_right _ _ (by simp [Sha.St.list]), List.set_append_right _ _ (by simp [Sha.St.list, hl])]
  simp [Sha.St.list, hl]
theorem hc_set_state (s r : Sha.St) (bl : List Nat) (T : Nat) : ((((((((hcells s bl T).set 0 (u32v r.a)).set 1 (u32v r.b)).set 2 (u32v r.c)).set 3 (u32v r.d)).set 4 (u32v r.e)).set 5 (u32v r.f)).set 6 (u32v r.g)).set 7 (u32v r.h) = hcells r bl T := rfl
theorem hc_range {w : World} {g : Nat} {s : Sha.St} {bl : List Nat} {T : Nat} {t : TypeId} (h : Row w g (hcells s bl T) t) : w.rangeAt g 8 (bl.map u8v) := by
  intro j v hv
  have hj : j < bl.length := by simpa using (List.getElem?_eq_some_iff.1 hv).1
  rw [h.cell]
  unfold hcells
  rw [List.getElem?_append_right (by simp [Sha.St.list]), show 8 + j - (List.map u32v s.list).length = j by simp [Sha.St.list], List.getElem?_append_left (by simpa using hj)]
  exact hv
theorem hc_splice (s : Sha.St) (bl : List Nat) (T f : Nat) (cs : List Nat) (hl : bl.length = 64) (hf : f + cs.length ≤ 64) : splice (hcells s bl T) (8 + f) (cs.map u8v) = hcells s (splice bl f cs) T := by
  unfold splice hcells
  have e1 : (List.map u32v s.list).length = 8 := by simp [Sha.St.list]
  rw [List.take_append, List.drop_append, List.take_append, List.drop_append]
  simp only [e1, List.length_map, List.map_append, List.map_take, List.map_drop, hl]
  rw [List.take_of_length_le (by rw [e1]; omega), show 8 + f - 8 = f by omega, show 8 + f + cs.length - 8 = f + cs.length by omega,
    show List.drop (8 + f + cs.length) (List.map u32v s.list) = [] from List.drop_eq_nil_of_le (by rw [e1]; omega), show f - 64 = 0 by omega, show f + cs.length - 64 = 0 by omega]
  simp
/-- the hash at block g has taken the bytes m; its count says T -/
def FedT (w : World) (g : Nat) (m : List Nat) (T : Nat) : Prop :=
  ∃ s bl, Row w g (hcells s bl T) 243 ∧ s = Sha.run m (m.length / 64) ∧ bl.length = 64 ∧ (∀ x ∈ bl, x < 256) ∧ bl.take (m.length % 64) = m.drop (64 * (m.length / 64)) ∧ Ok s
def Fed (w : World) (g : Nat) (m : List Nat) : Prop := FedT w g m m.length
theorem H0_ok : Ok Sha.H0 := by refine ⟨?_, ?_, ?_, ?_, ?_, ?_, ?_, ?_⟩ <;> decide
theorem fed_new {w : World} {g : Nat} (h : Row w g (hcells Sha.H0 (List.replicate 64 0) 0) 243) : Fed w g [] :=
  ⟨Sha.H0, List.replicate 64 0, h, rfl, rfl, by intro x hx; simp only [List.mem_replicate] at hx; omega, rfl, H0_ok⟩
theorem run_append (m x : List Nat) : ∀ q, 64 * q ≤ m.length → Sha.run (m ++ x) q = Sha.run m q
  | 0, _ => rfl
  | q + 1, h => by
    simp only [Sha.run]
    rw [run_append m x q (by omega), List.drop_append_of_le_length (by omega), List.take_append_of_le_length (by rw [List.length_drop]; omega)]
theorem run_ok (m : List Nat) : ∀ q, Ok (Sha.run m q)
  | 0 => H0_ok
  | _ + 1 => plus_ok _ _
theorem splice_bytes {bl cs : List Nat} {f : Nat} (h1 : ∀ x ∈ bl, x < 256) (h2 : ∀ x ∈ cs, x < 256) : ∀ x ∈ splice bl f cs, x < 256 := by
  intro x hx
  unfold splice at hx
  simp only [List.mem_append] at hx
  rcases hx with hx | hx | hx
  · exact h1 x (List.mem_of_mem_take hx)
  · exact h2 x hx
  · exact h1 x (List.mem_of_mem_drop hx)
/-- some bytes more that do not fill the block -/
theorem feed_part (m bl cs : List Nat) (hl : bl.length = 64) (hb : bl.take (m.length % 64) = m.drop (64 * (m.length / 64))) (hn : m.length % 64 + cs.length < 64) :
    Sha.run (m ++ cs) ((m ++ cs).length / 64) = Sha.run m (m.length / 64) ∧ (splice bl (m.length % 64) cs).take ((m ++ cs).length % 64) = (m ++ cs).drop (64 * ((m ++ cs).length / 64)) := by
  have e1 : (m ++ cs).length / 64 = m.length / 64 := by simp only [List.length_append]; omega
  have e2 : (m ++ cs).length % 64 = m.length % 64 + cs.length := by simp only [List.length_append]; omega
  rw [e1, e2]
  refine ⟨run_append m cs _ (by omega), ?_⟩
  rw [List.drop_append_of_le_length (by omega), ← hb]
  unfold splice
  have e3 : (bl.take (m.length % 64)).length = m.length % 64 := by simp; omega
  rw [List.take_append, e3, List.take_of_length_le (by omega), show m.length % 64 + cs.length - m.length % 64 = cs.length by omega, List.take_append_of_le_length (Nat.le_refl _), List.take_of_length_le (Nat.le_refl _)]
/-- bytes that fill the block -/
theorem feed_full (m bl cs : List Nat) (hl : bl.length = 64) (hb : bl.take (m.length % 64) = m.drop (64 * (m.length / 64))) (hn : m.length % 64 + cs.length = 64) :
    Sha.run (m ++ cs) ((m ++ cs).length / 64) = Sha.comp (Sha.run m (m.length / 64)) (splice bl (m.length % 64) cs) ∧ (m ++ cs).length % 64 = 0 ∧ (m ++ cs).drop (64 * ((m ++ cs).length / 64)) = [] := by
  have e1 : (m ++ cs).length / 64 = m.length / 64 + 1 := by simp only [List.length_append]; omega
  have e2 : (m ++ cs).length % 64 = 0 := by simp only [List.length_append]; omega
  refine ⟨?_, e2, List.drop_eq_nil_of_le (by rw [e1]; simp only [List.length_append]; omega)⟩
  rw [e1]
  simp only [Sha.run]
  rw [run_append m cs _ (by omega), List.drop_append_of_le_length (by omega), ← hb]
  congr 1
  unfold splice
  have e3 : (bl.take (m.length % 64)).length = m.length % 64 := by simp; omega
  rw [List.drop_eq_nil_of_le (by omega), List.append_nil, List.take_of_length_le (by simp only [List.length_append, e3]; omega)]
theorem wpList_copy_Row {P : Program} {w : World} {ops : Array Oper} {rest : List Oper} {o : Oper} {a : Act} {Q : Exit → Act → World → Prop} (hgd : o.guard = none) (d s : Operand) (dT sT : TypeId)
    (ho : o.op = .call { callee := .builtin .copy, args := #[d, s], argTypes := #[dT, sT] }) (elem : TypeId) (hu : P.underlying dT = some (.slice elem)) (hsz : (P.info? elem).map (·.size) = some 1)
    (g off dLen dCap : Nat) (b o2 sLen sCap : Nat) (hd : a.eval d = .slice (some ⟨g, off, none⟩) dLen dCap) (hs : a.eval s = .slice (some ⟨b, o2, none⟩) sLen sCap)
    (cur : List Value) (t : TypeId) (hg : Row w g cur t) (cs : List Value) (n : Nat) (hn : cs.length = n) (hmin : n = Nat.min sLen dLen)
    (hsrc : ∀ j v, cs[j]? = some v → w.cell? ⟨b, o2 + j, none⟩ = some v) (hfit : off + n ≤ cur.length) (h1 : ∀ v ∈ cs, v.oneCell' = true)
    (h : ∀ w', Row w' g (splice cur off cs) t → w.grownBy w' (some g) → w'.heap.size = w.heap.size → wpList P ops Q rest (a.put o.dst (.int .i64 (n : Int))) w') : wpList P ops Q (o :: rest) a w := by
  refine wpList_copy_own hgd d s dT sT ho elem hu hsz g off dLen dCap ⟨b, o2, none⟩ sLen sCap hd hs cur.toArray t hg cs (by omega) (fun j v hv => by rw [Addr.add_mid]; exact hsrc j v hv) (by simpa [hn] using hfit) h1 ?_
  have hw := h (w.setRow g (splice cur off cs).toArray) (setRow_heap w g _ _ t _ hg) ⟨rfl, rfl, rfl, by simp [World.setRow], fun k _ hne => setRow_other w g k _ (fun e => hne (by rw [e]))⟩ (by simp [World.setRow])
  rw [← hn] at hw
  exact hw
end Go.Proofs.YtamaejlbojbbeaaGreatDoor.Sb
namespace Go.Proofs.YtamaejlbojbbeaaGreatDoor.Sb
open Go.RowKit
theorem mix_lit (s : Sha.St) (hs : Ok s) (bl : List Nat) (hl : bl.length = 64) (hby : ∀ x ∈ bl, x < 256) (r : Sha.St) (n : Nat) (hn : Hid (n = 64)) (hr : Hid (r = Sha.plus s (Sha.rounds s (Sha.wl bl n) n))) (w : World) (htab : Tab w) :
    Calls Tryz.prog 164 #[.agg #[.int .u32 (s.a : Int), .int .u32 (s.b : Int), .int .u32 (s.c : Int), .int .u32 (s.d : Int), .int .u32 (s.e : Int), .int .u32 (s.f : Int), .int .u32 (s.g : Int), .int .u32 (s.h : Int)], .agg (bl.map u8v).toArray] w
      fun e w' => e = .returned (.agg #[.int .u32 (r.a : Int), .int .u32 (r.b : Int), .int .u32 (r.c : Int), .int .u32 (r.d : Int), .int .u32 (r.e : Int), .int .u32 (r.f : Int), .int .u32 (r.g : Int), .int .u32 (r.h : Int)]) ∧ Below w.heap.size w w' := by
  have h := mix_any s hs bl hl hby w htab
  have e : Sha.comp s bl = r := by rw [hr.out, hn.out]; rfl
  rw [e] at h
  exact h
theorem slice_block (g f : Nat) (hf : f < 64) (w : World) : (Instr.sliceAt 241 (.pointer (some ⟨g, 8, none⟩)) (some (.int .i64 (f : Int))) none none).run Tryz.prog w = .ok (.slice (some ⟨g, 8 + f, none⟩) (64 - f) (64 - f)) w := by
  have ht : Tryz.prog.underlying 241 = some (.array (Tryz.prog.arrayLen 241) (Tryz.prog.elem 241)) := by kernel_rfl
  have ha : Tryz.prog.arrayLen 241 = 64 := by kernel_rfl
  have he : Tryz.prog.elem 241 = 5 := by kernel_rfl
  rw [run_sliceAt_array_l w 241 ⟨g, 8, none⟩ ht .i64 (f : Int) (by omega) (by rw [ha]; omega), he, ha]
  have hsz : (sizeOf 5).run Tryz.prog w = .ok 1 w := by kernel_rfl
  rw [hsz]
  simp only [Result.andThen_ok, slicedAt, Int.toNat_natCast, Nat.mul_one, Addr.add_mid]
  rw [if_neg (by omega)]
theorem slice_rest (b o L C n : Nat) (h1 : n ≤ L) (h2 : L ≤ C) : ∃ q, (n < L → q = some ⟨b, o + n, none⟩) ∧ (∀ w, (Instr.sliceAt 51 (.slice (some ⟨b, o, none⟩) L C) (some (.int .i64 (n : Int))) none none).run Tryz.prog w = .ok (.slice q (L - n) (C - n)) w) ∧
    ∀ w, (Instr.slice 51 (.slice (some ⟨b, o, none⟩) L C) (some (.int .i64 (n : Int))) none none).run Tryz.prog w = .ok (.slice q (L - n) (C - n)) w := by
  have ht : Tryz.prog.underlying 51 = some (.slice (Tryz.prog.elem 51)) := by kernel_rfl
  have he : Tryz.prog.elem 51 = 5 := by kernel_rfl
  have hr : ∀ w, (Instr.slice 51 (.slice (some ⟨b, o, none⟩) L C) (some (.int .i64 (n : Int))) none none).run Tryz.prog w = .ok (.slice (some (if C = n then ⟨b, o, none⟩ else ⟨b, o + n, none⟩)) (L - n) (C - n)) w := by
    intro w
    have hsz : (sizeOf 5).run Tryz.prog w = .ok 1 w := by kernel_rfl
    rw [run_slice_l w 51 (some ⟨b, o, none⟩) L C ht .i64 (n : Int) (by omega) (by omega), he, hsz]
    simp [sliced, Addr.add_mid]
    split <;> rfl
  refine ⟨some (if C = n then ⟨b, o, none⟩ else ⟨b, o + n, none⟩), fun h => by rw [if_neg (by omega)], fun w => ?_, hr⟩
  rw [run_sliceAt_slice _ _ _ _ _ _ ht]
  exact hr w
theorem SS_of {w' : World} {g : Nat} {s : Sha.St} {bl2 : List Nat} {T : Nat} (h : Row w' g (hcells s bl2 T) 243) (ht : Tab w') :
    Row w' g (hcells s bl2 T) 243 ∧ w'.cell? ⟨g, 0, none⟩ = some (.int .u32 (s.a : Int)) ∧ w'.cell? ⟨g, 1, none⟩ = some (.int .u32 (s.b : Int)) ∧ w'.cell? ⟨g, 2, none⟩ = some (.int .u32 (s.c : Int)) ∧ w'.cell? ⟨g, 3, none⟩ = some (.int .u32 (s.d : Int)) ∧ w'.cell? ⟨g, 4, none⟩ = some (.int .u32 (s.e : Int)) ∧ w'.cell? ⟨g, 5, none⟩ = some (.int .u32 (s.f : Int)) ∧ w'.cell? ⟨g, 6, none⟩ = some (.int .u32 (s.g : Int)) ∧ w'.cell? ⟨g, 7, none⟩ = some (.int .u32 (s.h : Int)) ∧ w'.rangeAt g 8 (bl2.map u8v) ∧ Tab w' ∧ w'.frozen? ⟨g, 0, none⟩ = false ∧ w'.frozen? ⟨g, 1, none⟩ = false ∧ w'.frozen? ⟨g, 2, none⟩ = false ∧ w'.frozen? ⟨g, 3, none⟩ = false ∧ w'.frozen? ⟨g, 4, none⟩ = false ∧ w'.frozen? ⟨g, 5, none⟩ = false ∧ w'.frozen? ⟨g, 6, none⟩ = false ∧ w'.frozen? ⟨g, 7, none⟩ = false :=
  ⟨h, h.cell 0, h.cell 1, h.cell 2, h.cell 3, h.cell 4, h.cell 5, h.cell 6, h.cell 7, hc_range h, ht, h.frozen 0, h.frozen 1, h.frozen 2, h.frozen 3, h.frozen 4, h.frozen 5, h.frozen 6, h.frozen 7⟩
/-- the cells of a hash's block -/
def blockOf (w : World) (g : Nat) : List Value := match w.heap[g]? with
  | some (.cells cs _ _) => (cs.toList.drop 8).take 64
  | _ => []
def Has (w : World) (g : Nat) : Prop := ∃ vs, Row w g vs 243 ∧ vs.length = 73
theorem range_blockOf {w : World} {g : Nat} (h : Has w g) : w.rangeAt g 8 (blockOf w g) ∧ (blockOf w g).length = 64 := by
  obtain ⟨vs, hr, hl⟩ := h
  have e : blockOf w g = (vs.drop 8).take 64 := by unfold Row at hr; simp [blockOf, hr]
  rw [e]
  refine ⟨fun j v hv => ?_, by simp [hl]⟩
  rw [hr.cell, ← hv, List.getElem?_take]
  have hj : j < 64 := by have := (List.getElem?_eq_some_iff.1 hv).1; simp at this; omega
  simp [hj]
theorem blockOf_row {w : World} {g : Nat} {s : Sha.St} {bl : List Nat} {T : Nat} (h : Row w g (hcells s bl T) 243) (hl : bl.length = 64) : blockOf w g = bl.map u8v := by
  unfold Row at h
  simp only [blockOf, h, hcells]
  rw [List.drop_append_of_le_length (by simp [Sha.St.list])]
  simp [Sha.St.list, hl]
def ptrBlock : Value → Nat
  | .pointer (some a) => a.block
  | _ => 0
theorem ptrBlock_pointer (a : Addr) : ptrBlock (.pointer (some a)) = a.block := rfl
theorem wp_load51 {d : Option Tmp} {ty : TypeId} {ps : String} {af : Array Edge} {gd : Option (Nat × Bool)} {a : Act} {w : World} {K : Act → World → Prop} {Q : Exit → Act → World → Prop} (h1 : a.eval (.tmp 47) = .pointer (some ⟨ptrBlock (a.eval (.tmp 47)), 8, none⟩)) (h2 : Has w (ptrBlock (a.eval (.tmp 47)))) :
    Oper.wp Tryz.prog { dst := d, op := Op.load 241 (Operand.tmp 47), type := ty, pos := ps, after := af, guard := gd } a w K Q = K (a.put d (.agg (blockOf w (ptrBlock (a.eval (.tmp 47)))).toArray)) w := by
  obtain ⟨hr, hl⟩ := range_blockOf h2
  have hrun := run_loadVar_mid (P := Tryz.prog) w _ 8 241 _ _ hr Tryz.underlying241 rfl (by rw [info103, hl])
  generalize blockOf w (ptrBlock (a.eval (.tmp 47))) = B at hrun ⊢
  unfold Oper.wp execOp
  generalize ptrBlock (a.eval (.tmp 47)) = g at h1 hrun
  simp only [h1, Instr.loadAt, Instr.sureAddr, Sem.run_bind, Sem.run_pure, Result.andThen_ok, hrun]
  rfl
attribute [local go_sem ↓] Go.wp_at_zero Go.wp_at_succ wp_load51
attribute [local go_sem] ptrBlock_pointer
theorem grownBy_drew (w : World) (row : Option Nat) : w.grownBy w.drew row := ⟨rfl, rfl, rfl, Nat.le_refl _, fun _ _ _ => rfl⟩
theorem eight_sets (w : World) (g : Nat) (v0 v1 v2 v3 v4 v5 v6 v7 : Value) : w.grownBy ((((((((w.setCell ⟨g, 0, none⟩ v0).setCell ⟨g, 1, none⟩ v1).setCell ⟨g, 2, none⟩ v2).setCell ⟨g, 3, none⟩ v3).setCell ⟨g, 4, none⟩ v4).setCell ⟨g, 5, none⟩ v5).setCell ⟨g, 6, none⟩ v6).setCell ⟨g, 7, none⟩ v7) (some g) :=
  grownBy_trans (grownBy_trans (grownBy_trans (grownBy_trans (grownBy_trans (grownBy_trans (grownBy_trans (grownBy_setCell _ _ _) (grownBy_setCell _ _ _)) (grownBy_setCell _ _ _)) (grownBy_setCell _ _ _)) (grownBy_setCell _ _ _)) (grownBy_setCell _ _ _)) (grownBy_setCell _ _ _)) (grownBy_setCell _ _ _)
set_option maxHeartbeats 1000000 in
set_option maxRecDepth 100000 in
theorem write_any (g : Nat) (m : List Nat) (bs : List Nat) (hbs : ∀ x ∈ bs, x < 256) (p : Option Addr) (b off cap : Nat) (w : World) (htab : Tab w) (hg0 : g ≠ 0) (hfed : Fed w g m) (hcap : bs.length ≤ cap) (hcap2 : cap ≤ 9223372036854775807)
    (hsz : m.length + bs.length < 1152921504606846976) (hp : 0 < bs.length → p = some ⟨b, off, none⟩ ∧ b ≠ g) (hsrc : ∀ j, j < bs.length → w.cell? ⟨b, off + j, none⟩ = some (u8v (bs.getD j 0))) :
    Calls Tryz.prog 122 #[.pointer (some ⟨g, 0, none⟩), .slice p bs.length cap] w fun e w' => e = .returned (.tuple #[]) ∧ Fed w' g (m ++ bs) ∧ w.grownBy w' (some g) := by
  obtain ⟨s, bl, hrow, hs, hl, hby, hbl, hok⟩ := hfed
  have c72 : w.cell? ⟨g, 72, none⟩ = some (.int .i64 (m.length : Int)) := by rw [hrow.cell, hc_total s bl _ hl]
  have f72 := hrow.frozen 72
  have hm1 : (m.length : Int) < 1152921504606846976 := by omega
  have hm2 : (m.length : Int) + (bs.length : Int) < 1152921504606846976 := by omega
  go_enter Tryz.func122, Tryz.ntmps122
  go_wp2_with fail
  have hstart : FedT (w.setCell ⟨g, 72, none⟩ (.int .i64 ((m.length : Int) + (bs.length : Int)))) g m (m.length + bs.length) :=
    ⟨s, bl, by rw [← hc_set_total s bl m.length _ hl, show ((m.length + bs.length : Nat) : Int) = (m.length : Int) + (bs.length : Int) by omega]; exact hrow.set_same 72 _, hs, hl, hby, hbl, hok⟩
  clear c72 f72 hrow hs hl hby hbl hok
  go_loopw [1, 4] (fun vb vf w' => ∃ (k : Nat) (q : Option Addr), k ≤ bs.length ∧ vb = .slice q (bs.length - k) (cap - k) ∧ vf = .int .i64 (((m ++ bs.take k).length % 64 : Nat) : Int) ∧ (k < bs.length → q = some ⟨b, off + k, none⟩) ∧ FedT w' g (m ++ bs.take k) (m.length + bs.length) ∧ w.grownBy w' (some g)) (fun vb _ _ => match vb with | .slice _ n _ => n | _ => 0)
  case atStart => exact ⟨0, p, by omega, rfl, by simp, fun h => (hp (by omega)).1, by simpa using hstart, grownBy_setCell w ⟨g, 72, none⟩ _⟩
  case round =>
    clear hstart
    obtain ⟨k, q, hk, rfl, rfl, hq, hfed, hgr⟩ := hrel
    by_cases hlt : k < bs.length
    · obtain rfl := hq hlt
      obtain ⟨s, bl, hrow, hs, hl, hby, hbl, hok⟩ := hfed
      have hbg : b ≠ g := (hp (by omega)).2
      obtain ⟨f, hf⟩ : ∃ f, f = (m ++ bs.take k).length % 64 := ⟨_, rfl⟩
      obtain ⟨L, hL⟩ : ∃ L, L = bs.length - k := ⟨_, rfl⟩
      obtain ⟨C, hC⟩ : ∃ C, C = cap - k := ⟨_, rfl⟩
      obtain ⟨n, hn⟩ : ∃ n, n = Nat.min L (64 - f) := ⟨_, rfl⟩
      have hn' : n = min L (64 - f) := hn
      have hf64 : f < 64 := by omega
      have hL0 : 0 < L := by omega
      have hLC : L ≤ C := by omega
      have hC2 : C ≤ 9223372036854775807 := by omega
      have hn0 : 0 < n := by omega
      have hnL : n ≤ L := by omega
      have hnf : n ≤ 64 - f := by omega
      have HL : Hid (L = bs.length - k) := hL
      have HC : Hid (C = cap - k) := hC
      have HF : Hid (f = (m ++ bs.take k).length % 64) := hf
      have HN : Hid (n = Nat.min L (64 - f)) := hn
      rw [← hL, ← hC, ← hf]
      have hcs : ((bs.drop k).take n).length = n := by simp; omega
      have hsrc' : ∀ j v, (((bs.drop k).take n).map u8v)[j]? = some v → wr.cell? ⟨b, off + k + j, none⟩ = some v := by
        intro j v hv
        have hj : j < n := by have := (List.getElem?_eq_some_iff.1 hv).1; simp at this; omega
        have hc := hsrc (k + j) (by omega)
        rw [show off + (k + j) = off + k + j by omega] at hc
        have := hgr.cell hc (by simpa using hbg)
        rw [this, ← hv]
        simp [hj]
        rw [List.getElem?_eq_getElem (by omega)]
        simp
      have hcb : ∀ x ∈ (bs.drop k).take n, x < 256 := fun x hx => hbs x (List.mem_of_mem_drop (List.mem_of_mem_take hx))
      have HCS : Hid (bs.take (k + n) = bs.take k ++ (bs.drop k).take n) := by show _ = _; rw [List.take_add]
      generalize (bs.drop k).take n = cs at hcs hsrc' hcb HCS
      have HS : Hid (s = Sha.run (m ++ bs.take k) ((m ++ bs.take k).length / 64)) := hs
      have HB : Hid (bl.take ((m ++ bs.take k).length % 64) = (m ++ bs.take k).drop (64 * ((m ++ bs.take k).length / 64))) := hbl
      have HM : Hid ((m ++ bs.take k).length = m.length + k) := by show _ = _; simp; omega
      clear hs hbl hf hL hC hn hn' hsrc hp hbs hm1 hm2 hq
      have hsl := slice_block g f hf64
      obtain ⟨q2, hq2, hsl2, hsl3⟩ := slice_rest b (off + k) L C n hnL hLC
      have HQ2 : Hid (n < L → q2 = some ⟨b, off + k + n, none⟩) := hq2
      clear hq2
      by_cases hfull : f + n = 64
      · have tst : (((f : Int) + (n : Int)) == (64 : Int)) = true := by rw [beq_iff_eq]; omega
        have HFULL : Hid (f + n = 64) := hfull
        clear hfull
        go_wp2_with (refine wpList_copy_Row rfl _ _ 51 51 rfl 5 Tryz.underlying51 info5 g (8 + f) (64 - f) (64 - f) b (off + k) L C rfl rfl (hcells s bl (m.length + bs.length)) 243 hrow (cs.map u8v) n (by simpa using hcs) HN.out hsrc' (by rw [hc_length _ _ _ hl]; omega) (one_u8 cs) ?_; intro w1 hr1 hg1 hs1)
        rw [hc_splice s bl _ f cs hl (by omega)] at hr1
        have hl' : (splice bl f cs).length = 64 := by rw [length_splice _ _ _ (by omega)]; exact hl
        have hby' := splice_bytes (f := f) hby hcb
        obtain ⟨bl2, hbl2⟩ : ∃ bl2, bl2 = splice bl f cs := ⟨_, rfl⟩
        have HB2 : Hid (bl2 = splice bl f cs) := hbl2
        have HBL : Hid (bl.length = 64) := hl
        have HCL : Hid (cs.length = n) := hcs
        rw [← hbl2] at hr1 hl' hby'
        obtain ⟨r, n64, h64, hr⟩ : ∃ r n64, Hid (n64 = 64) ∧ Hid (r = Sha.plus s (Sha.rounds s (Sha.wl bl2 n64) n64)) := ⟨_, 64, rfl, rfl⟩
        obtain ⟨T, hT⟩ : ∃ T, T = m.length + bs.length := ⟨_, rfl⟩
        have HT : Hid (T = m.length + bs.length) := hT
        rw [← hT] at hr1
        have hgr1 := grownBy_trans hgr hg1
        have htab1 : Tab w1 := htab.grown hgr1 (by simp; omega)
        have hu51 := Tryz.underlying241
        have hi51 : (Tryz.prog.info? 241).map (·.size) = some (bl2.map u8v).length := by rw [info103]; simp [hl']
        have hlm : (bl2.map u8v).length = 64 := by simp [hl']
        have S0 := SS_of hr1 htab1
        have htab1d : Tab w1.drew := htab1
        have hr1d : Row w1.drew g (hcells s bl2 T) 243 := hr1
        clear hbl2 hT hrow hsl hsl2 hsl3 hsrc' hcb hby hl hcs htab hgr hg1 hs1
        have hhas : Has w1.drew g := ⟨_, hr1d, hc_length _ _ _ hl'⟩
        have hbo : blockOf w1.drew g = bl2.map u8v := blockOf_row hr1d hl'
        obtain ⟨_, d0, d1, d2, d3, d4, d5, d6, d7, _, _, _⟩ := S0
        go_region_with (first | (go_at_call 164; refine (mix_lit s hok bl2 hl' hby' r n64 h64 hr w1.drew htab1d).mono ?_; rintro e w2 ⟨rfl, hbm⟩; have hr2 := Row.below hr1d hbm hr1d.lt; have S2 := SS_of hr2 (htab1d.below hbm htab1d.pos); obtain ⟨_, e0, e1, e2, e3, e4, e5, e6, e7, _, _, g0, g1, g2, g3, g4, g5, g6, g7⟩ := S2))
        all_goals
          go_wp2
          go_roundw
          case rel =>
            go_light
            have eL := HL.out
            have eC := HC.out
            have eF := HF.out
            have hfull := feed_full (m ++ bs.take k) bl cs HBL.out HB.out (by rw [← eF, HCL.out]; exact HFULL.out)
            rw [← eF, ← HB2.out] at hfull
            have hM : m ++ bs.take (k + n) = (m ++ bs.take k) ++ cs := by rw [HCS.out, List.append_assoc]
            refine ⟨k + n, q2, by omega, ?_, ?_, ?_, ?_, ?_⟩
            · rw [show L - n = bs.length - (k + n) by omega, show C - n = cap - (k + n) by omega]
            · rw [hM, hfull.2.1]; rfl
            · intro h; rw [HQ2.out (by omega), Nat.add_assoc]
            · rw [hM]
              refine ⟨r, bl2, ?_, ?_, hl', hby', by rw [hfull.2.1, hfull.2.2]; rfl, ?_⟩
              · rw [← HT.out, ← hc_set_state s r bl2 T]
                exact (((((((hr2.set_same _ _).set_same _ _).set_same _ _).set_same _ _).set_same _ _).set_same _ _).set_same _ _).set_same _ _
              · rw [hfull.1, ← HS.out, hr.out, h64.out]; rfl
              · rw [hr.out]; exact plus_ok _ _
            · exact grownBy_trans (grownBy_trans (grownBy_trans hgr1 (grownBy_drew w1 _)) (grown_of_below hbm)) (eight_sets w2 g _ _ _ _ _ _ _ _)
          case measure => simp; omega
      · have tst : (((f : Int) + (n : Int)) == (64 : Int)) = false := by rw [beq_eq_false_iff_ne]; omega
        have HNF : Hid (¬ f + n = 64) := hfull
        go_wp2_with (refine wpList_copy_Row rfl _ _ 51 51 rfl 5 Tryz.underlying51 info5 g (8 + f) (64 - f) (64 - f) b (off + k) L C rfl rfl (hcells s bl (m.length + bs.length)) 243 hrow (cs.map u8v) n (by simpa using hcs) HN.out hsrc' (by rw [hc_length _ _ _ hl]; omega) (one_u8 cs) ?_; intro w1 hr1 hg1 hs1)
        go_roundw
        case rel =>
          go_light
          rw [hc_splice s bl _ f cs hl (by omega)] at hr1
          have eL := HL.out
          have eC := HC.out
          have eF := HF.out
          have eM := HM.out
          have hB := HB.out
          rw [← eF] at hB
          have hM : m ++ bs.take (k + n) = (m ++ bs.take k) ++ cs := by rw [HCS.out, List.append_assoc]
          have hpart := feed_part (m ++ bs.take k) bl cs hl HB.out (by rw [← eF, hcs]; omega)
          rw [← eF] at hpart
          refine ⟨k + n, q2, by omega, ?_, ?_, ?_, ?_, ?_⟩
          · rw [show L - n = bs.length - (k + n) by omega, show C - n = cap - (k + n) by omega]
          · rw [hM, show ((m ++ bs.take k) ++ cs).length % 64 = f + n by rw [List.length_append, hcs]; omega]; go_num
          · intro h; rw [HQ2.out (by omega), Nat.add_assoc]
          · rw [hM]
            exact ⟨s, splice bl f cs, hr1, by rw [hpart.1]; exact HS.out, by rw [length_splice _ _ _ (by omega)]; exact hl, splice_bytes hby hcb, hpart.2, hok⟩
          · exact grownBy_trans hgr hg1
        case measure => simp; omega
    · have HK : Hid (k = bs.length) := by show k = _; omega
      have hz : bs.length - k = 0 := by omega
      rw [hz]
      clear hz hsrc hp hq hbs htab hm1 hm2 hlt hk
      go_wp2
      go_end0
      rw [HK.out, List.take_of_length_le (Nat.le_refl _)] at hfed
      refine ⟨rfl, ?_, hgr⟩
      unfold Fed
      rw [List.length_append]
      exact hfed
end Go.Proofs.YtamaejlbojbbeaaGreatDoor.Sb
namespace Go.Proofs.YtamaejlbojbbeaaGreatDoor.Sb
open Go.RowKit
theorem ending_bytes (n : Nat) : ∀ x ∈ Sha.ending n, x < 256 := by
  intro x hx
  simp only [Sha.ending, List.mem_cons, List.mem_append, List.mem_replicate, List.not_mem_nil, or_false] at hx
  rcases hx with rfl | ⟨_, rfl⟩ | rfl | rfl | rfl | rfl | rfl | rfl | rfl | rfl <;> omega
theorem hc_one (s : Sha.St) (bl : List Nat) (T : Nat) : ∀ v ∈ hcells s bl T, v.oneCell' = true := by
  intro v hv
  simp only [hcells, List.mem_append, List.mem_singleton] at hv
  rcases hv with hv | hv | rfl
  · exact one_u32 _ v hv
  · exact one_u8 _ v hv
  · rfl
theorem hc_state {w : World} {g : Nat} {s : Sha.St} {bl : List Nat} {T : Nat} {t : TypeId} (h : Row w g (hcells s bl T) t) : w.rangeAt g 0 (s.list.map u32v) := by
  intro j v hv
  have hj : j < (s.list.map u32v).length := (List.getElem?_eq_some_iff.1 hv).1
  rw [h.cell, hcells, Nat.zero_add, List.getElem?_append_left hj, hv]
theorem sum_fed {w : World} {g : Nat} {m : List Nat} {T : Nat} (h : FedT w g (m ++ Sha.ending m.length) T) : ∃ s bl, Row w g (hcells s bl T) 243 ∧ bl.length = 64 ∧ Ok s ∧ Hid (Sha.digestOf s = Sha.sum m) := by
  obtain ⟨s, bl, hrow, hs, hl, _, _, hok⟩ := h
  exact ⟨s, bl, hrow, hl, hok, by show _ = _; rw [hs]; rfl⟩
theorem digest_length (s : Sha.St) : (Sha.digestOf s).length = 32 := rfl
theorem zero53 (w : World) : (zeroValue 243).run Tryz.prog w = .ok (.agg (hcells ⟨0, 0, 0, 0, 0, 0, 0, 0⟩ (List.replicate 64 0) 0).toArray) w := by kernel_rfl
theorem zero53' : ∃ Z : List Value, (∀ w, (zeroValue 243).run Tryz.prog w = .ok (.agg Z.toArray) w) ∧ Z.length = 73 := ⟨_, zero53, rfl⟩
set_option maxHeartbeats 400000 in
set_option maxRecDepth 100000 in
theorem hsum_any (g : Nat) (m : List Nat) (w : World) (htab : Tab w) (hfed : Fed w g m) (hsz : m.length < 1152921504606846000) :
    Calls Tryz.prog 123 #[.pointer (some ⟨g, 0, none⟩)] w fun e w' => e = .returned (.agg ((Sha.sum m).map u8v).toArray) ∧ Below w.heap.size w w' := by
  obtain ⟨s, bl, hrow, hs, hl, hby, hbl, hok⟩ := hfed
  have c72 : w.cell? ⟨g, 72, none⟩ = some (.int .i64 (m.length : Int)) := by rw [hrow.cell, hc_total s bl _ hl]
  have hlt := hrow.lt
  have HS : Hid (s = Sha.run m (m.length / 64)) := hs
  have HBL : Hid (bl.take (m.length % 64) = m.drop (64 * (m.length / 64))) := hbl
  clear hs hbl
  obtain ⟨Z, hz, hzl⟩ := zero53'
  go_enter Tryz.func123, Tryz.ntmps123
  go_wp2_with (first | (refine wpList_load_Row rfl 243 _ rfl g rfl 243 (hcells s bl m.length) (hrow.alloc _) _ Tryz.underlying243 rfl 73 info105 (hc_length _ _ _ hl) ?_) | (refine wpList_store_Row rfl 243 _ _ rfl (w.heap.size + 1) 0 (hcells s bl m.length) rfl rfl 243 Z (Row.newAt (w.alloc _) _ Z 243 (by simp)) 73 info105 (hc_length _ _ _ hl) (by omega) (hc_one _ _ _) ?_; intro w1 hr1 hg1 hs1; rw [splice_all _ _ (by rw [hc_length _ _ _ hl, hzl])] at hr1; have c72' : w1.cell? ⟨g, 72, none⟩ = some (.int .i64 (m.length : Int)) := by { rw [((hrow.alloc _).alloc _).grown hg1 (by simp; omega) |>.cell, hc_total s bl _ hl] }))
  refine (ending_any m.length (by omega) w1).mono ?_
  rintro e w2 ⟨rfl, hre, hb2, hs2⟩
  simp only [World.size_alloc] at hs1
  have hbw1 : Below w.heap.size w w1 := below_of_grown (((Below.refl _ _).alloc (Nat.le_refl _) _).alloc (by simp) _) hg1 (by simp; omega) (by omega)
  have hr0 : Row w1 w.heap.size ((List.replicate 32 0).map u8v) 30 := ((Row.newAt w _ ((List.replicate 32 0).map u8v) 30 rfl).alloc _).grown hg1 (by simp)
  have htab1 : Tab w1 := htab.below hbw1 htab.pos
  have hfed1 : Fed w1 (w.heap.size + 1) m := ⟨s, bl, hr1, HS.out, hl, hby, HBL.out, hok⟩
  have hpos := htab.pos
  have hfed2 : Fed w2 (w.heap.size + 1) m := ⟨s, bl, hr1.below hb2 (by omega), HS.out, hl, hby, HBL.out, hok⟩
  have htab2 : Tab w2 := htab1.below hb2 htab1.pos
  have hr02 := hr0.below hb2 (by omega)
  have hlen := ending_length m.length
  have hbw2 : Below w.heap.size w w2 := hbw1.trans (hb2.mono (by omega))
  have hwr := write_any (w.heap.size + 1) m (Sha.ending m.length) (ending_bytes m.length) (some ⟨w1.heap.size, 0, none⟩) w1.heap.size 0 (Sha.ending m.length).length w2 htab2 (by omega) hfed2 (Nat.le_refl _) (by omega) (by omega) (fun _ => ⟨rfl, by omega⟩) (fun j hj => by rw [Nat.zero_add]; exact hre.cellMap j hj)
  have HWR := hwr
  generalize (Sha.ending m.length).length = el at hwr ⊢
  rw [hs1] at hwr
  clear c72 c72' hz hr0 hr1 HS HBL hfed1 htab1 hbw1 hb2 hg1 hlen HWR
  go_wp2_with fail
  refine hwr.mono ?_
  rintro e w3 ⟨rfl, hfed3, hg3⟩
  clear hwr hfed2
  obtain ⟨s3, bl3, hrow3, hl3, hok3, HD⟩ := sum_fed hfed3
  have hr03 := hr02.grown hg3 (by simp)
  have hbw3 : Below w.heap.size w w3 := below_of_grown hbw2 hg3 (by omega) (by omega)
  have hst := hc_state hrow3
  clear hfed3 hr02 hre
  go_wp2_with (first | (refine wpList_load_mid rfl 156 _ rfl (w.heap.size + 1) 0 rfl (s3.list.map u32v) _ hst Tryz.underlying156 rfl (by rw [info68]; rfl) ?_))
  refine (digestOf_any s3 hok3 w3).mono ?_
  rintro e w4 ⟨rfl, hb4⟩
  have hr04 := hr03.below hb4 hr03.lt
  have hbw4 : Below w.heap.size w w4 := hbw3.trans (hb4.mono hbw3.size)
  have hdl := digest_length s3
  generalize Sha.digestOf s3 = D at hdl HD ⊢
  go_wp2_with (first | (refine wpList_store_Row rfl 30 _ _ rfl w.heap.size 0 (D.map u8v) rfl rfl 30 _ hr04 32 info39 (by simpa using hdl) (by simp) (one_u8 D) ?_; intro w5 hr5 hg5 hs5))
  refine post_Row 2 30 Tryz.results123 w.heap.size rfl 30 _ hr5 _ Tryz.underlying30 rfl 32 info39 (by rw [splice_all _ _ (by simpa using hdl)]; simpa using hdl) rfl ⟨?_, below_of_grown hbw4 hg5 hbw4.size (Nat.le_refl _)⟩
  rw [splice_all _ _ (by simpa using hdl), HD.out]
end Go.Proofs.YtamaejlbojbbeaaGreatDoor.Sb
