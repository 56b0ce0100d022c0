/-
  The walks of sha.New, sha.digestOf and sha.ending.
-/
import Derived.Test.YtokjbmpiekadaaaDoorW3
namespace Go.Proofs.YtokjbmpiekadaaaDoor
open Go.RowKit

/-- a hash's cells: its state, its block, how many bytes it took -/
def hcells (s : Sha.St) (bl : List Nat) (total : Nat) : List Value := s.list.map u32v ++ (bl.map u8v ++ [.int .i64 (total : Int)])

set_option maxHeartbeats 400000 in
set_option maxRecDepth 100000 in
theorem new_any (w : World) :
    Calls Tryd.prog 52 #[] w fun e w' => e = .returned (.pointer (some ⟨w.heap.size, 0, none⟩)) ∧ Row w' w.heap.size (hcells Sha.H0 (List.replicate 64 0) 0) 105 ∧ Below w.heap.size w w' ∧ w'.heap.size = w.heap.size + 1 := by
  have hz : ∀ w, (zeroValue 105).run Tryd.prog w = .ok (.agg #[.int .u32 0, .int .u32 0, .int .u32 0, .int .u32 0, .int .u32 0, .int .u32 0, .int .u32 0, .int .u32 0, .int .u8 0, .int .u8 0, .int .u8 0, .int .u8 0, .int .u8 0, .int .u8 0, .int .u8 0, .int .u8 0, .int .u8 0, .int .u8 0, .int .u8 0, .int .u8 0, .int .u8 0, .int .u8 0, .int .u8 0, .int .u8 0, .int .u8 0, .int .u8 0, .int .u8 0, .int .u8 0, .int .u8 0, .int .u8 0, .int .u8 0, .int .u8 0, .int .u8 0, .int .u8 0, .int .u8 0, .int .u8 0, .int .u8 0, .int .u8 0, .int .u8 0, .int .u8 0, .int .u8 0, .int .u8 0, .int .u8 0, .int .u8 0, .int .u8 0, .int .u8 0, .int .u8 0, .int .u8 0, .int .u8 0, .int .u8 0, .int .u8 0, .int .u8 0, .int .u8 0, .int .u8 0, .int .u8 0, .int .u8 0, .int .u8 0, .int .u8 0, .int .u8 0, .int .u8 0, .int .u8 0, .int .u8 0, .int .u8 0, .int .u8 0, .int .u8 0, .int .u8 0, .int .u8 0, .int .u8 0, .int .u8 0, .int .u8 0, .int .u8 0, .int .u8 0, .int .i64 0]) w := fun _ => by kernel_rfl
  go_enter Tryd.func52, Tryd.ntmps52
  go_wp2
  go_ret
  exact ⟨rfl, Row.newAt w _ (hcells Sha.H0 (List.replicate 64 0) 0) 105 rfl, (Below.refl _ _).alloc (Nat.le_refl _) _, by simp⟩
theorem i5 : (Tryd.prog.info? 5).map (fun i => (i.size, i.bytes, i.zero)) = some (1, 1, some (.int .u8 0)) := by kernel_rfl
theorem make_bytes (n : Nat) (hn : n ≤ 281474976710656) (w : World) : (Instr.makeSlice 30 (.int .i64 (n : Int)) (.int .i64 (n : Int))).run Tryd.prog w = .ok (.slice (some ⟨w.heap.size, 0, none⟩) n n) (w.alloc (.cells ((List.replicate n 0).map u8v).toArray 5)) := by
  obtain ⟨i, hi, he⟩ := Option.map_eq_some_iff.1 i5
  simp only [Prod.mk.injEq] at he
  obtain ⟨h1, h2, h3⟩ := he
  have h := run_make (P := Tryd.prog) w 30 5 i (.int .u8 0) Tryd.underlying30 hi h3 .i64 .i64 (n : Int) (n : Int) (by omega) (by omega) (by rw [h2]; omega) (by omega)
  rw [h, h1]
  have e : madeCells (Value.int .u8 0).cells ((n : Int).toNat * 1) = ((List.replicate n 0).map u8v).toArray := by
    have := toList_madeCells_one (.int .u8 0) n
    simp only [Int.toNat_natCast, Nat.mul_one]
    rw [← Array.toList_inj, List.toList_toArray]
    exact this.trans (by simp [u8v])
  rw [e]
  simp

theorem idxS (s : Sha.St) (i : Nat) (h : i < 8) (w : World) : (Instr.index 68 (.agg (s.list.map u32v).toArray) (.int .i64 (i : Int))).run Tryd.prog w = .ok (.int .u32 ((s.list.getD i 0 : Nat) : Int)) w := by
  rcases lt8 h with rfl | rfl | rfl | rfl | rfl | rfl | rfl | rfl <;> kernel_rfl
/-- the digest while its first i words have been written -/
def dacc (s : Sha.St) (i : Nat) : List Nat := (s.list.take i).flatMap Sha.bytesOf ++ List.replicate (32 - 4 * i) 0
theorem dacc_length (s : Sha.St) (i : Nat) (h : i ≤ 8) : (dacc s i).length = 32 := by
  rcases Nat.lt_or_eq_of_le h with h | rfl
  · rcases lt8 h with rfl | rfl | rfl | rfl | rfl | rfl | rfl | rfl <;> rfl
  · rfl
theorem dacc_set (s : Sha.St) (i : Nat) (h : i < 8) : ((((dacc s i).set (4 * i) (s.list.getD i 0 / 16777216 % 256)).set (4 * i + 1) (s.list.getD i 0 / 65536 % 256)).set (4 * i + 2) (s.list.getD i 0 / 256 % 256)).set (4 * i + 3) (s.list.getD i 0 % 256) = dacc s (i + 1) := by
  rcases lt8 h with rfl | rfl | rfl | rfl | rfl | rfl | rfl | rfl <;> rfl
theorem dacc_all (s : Sha.St) : dacc s 8 = Sha.digestOf s := rfl
theorem list_lt {s : Sha.St} (h : Ok s) : ∀ x ∈ s.list, x < 4294967296 := by
  obtain ⟨h1, h2, h3, h4, h5, h6, h7, h8⟩ := h
  intro x hx
  simp only [Sha.St.list, List.mem_cons, List.not_mem_nil, or_false] at hx
  rcases hx with rfl | rfl | rfl | rfl | rfl | rfl | rfl | rfl <;> assumption

set_option maxHeartbeats 400000 in
set_option maxRecDepth 100000 in
theorem digestOf_any (s : Sha.St) (hs : Ok s) (w : World) :
    Calls Tryd.prog 64 #[.agg (s.list.map u32v).toArray] w fun e w' => e = .returned (.agg ((Sha.digestOf s).map u8v).toArray) ∧ Below w.heap.size w w' := by
  go_enter Tryd.func64, Tryd.ntmps64
  go_wp2_with (refine wpList_load_Row rfl 68 _ rfl w.heap.size rfl 68 (s.list.map u32v) ?_ _ Tryd.underlying68 rfl 8 info68 (by simp [Sha.St.list]) ?_; exact ((Row.newAt w _ _ 68 rfl).alloc _).alloc _)
  go_loopw [7] (fun v w' => ∃ i : Nat, i ≤ 8 ∧ v = .int .i64 (i : Int) ∧ Row w' (w.heap.size + 1) ((List.replicate 32 0).map u8v) 39 ∧ Row w' (w.heap.size + 1 + 1) ((dacc s i).map u8v) 39 ∧ Below w.heap.size w w') (fun v _ => 8 - (intOf v).toNat)
  case atStart =>
    refine ⟨0, by omega, rfl, ?_, ?_, ?_⟩
    · exact (Row.newAt (w.alloc _) (w.heap.size + 1) ((List.replicate 32 0).map u8v) 39 (by simp)).alloc _
    · exact Row.newAt ((w.alloc _).alloc _) (w.heap.size + 1 + 1) ((List.replicate 32 0).map u8v) 39 (by simp)
    · exact ((((Below.refl _ _).alloc (Nat.le_refl _) _).alloc (by simp) _).alloc (by simp; omega) _)
  case round =>
    obtain ⟨i, hi, rfl, hr1, hr2, hbw⟩ := hrel
    by_cases hlt : i < 8
    · have hl := dacc_length s i hi
      have c0 : wr.cell? ⟨w.heap.size + 1 + 1, 4 * i, none⟩ = some (.int .u8 (((dacc s i).getD (4 * i) 0 : Nat) : Int)) := hr2.cellMap _ (by omega)
      have c1 : wr.cell? ⟨w.heap.size + 1 + 1, 4 * i + 1, none⟩ = some (.int .u8 (((dacc s i).getD (4 * i + 1) 0 : Nat) : Int)) := hr2.cellMap _ (by omega)
      have c2 : wr.cell? ⟨w.heap.size + 1 + 1, 4 * i + 2, none⟩ = some (.int .u8 (((dacc s i).getD (4 * i + 2) 0 : Nat) : Int)) := hr2.cellMap _ (by omega)
      have c3 : wr.cell? ⟨w.heap.size + 1 + 1, 4 * i + 3, none⟩ = some (.int .u8 (((dacc s i).getD (4 * i + 3) 0 : Nat) : Int)) := hr2.cellMap _ (by omega)
      have f0 := hr2.frozen (4 * i)
      have f1 := hr2.frozen (4 * i + 1)
      have f2 := hr2.frozen (4 * i + 2)
      have f3 := hr2.frozen (4 * i + 3)
      generalize (dacc s i).getD (4 * i) 0 = y0 at c0
      generalize (dacc s i).getD (4 * i + 1) 0 = y1 at c1
      generalize (dacc s i).getD (4 * i + 2) 0 = y2 at c2
      generalize (dacc s i).getD (4 * i + 3) 0 = y3 at c3
      have hx := idxS s i hlt
      have hxl : s.list.getD i 0 < 4294967296 := getD_lt (list_lt hs) i
      have hset := dacc_set s i hlt
      have HS : Hid (((((dacc s i).set (4 * i) (s.list.getD i 0 / 16777216 % 256)).set (4 * i + 1) (s.list.getD i 0 / 65536 % 256)).set (4 * i + 2) (s.list.getD i 0 / 256 % 256)).set (4 * i + 3) (s.list.getD i 0 % 256) = dacc s (i + 1)) := hset
      clear hset
      generalize s.list.getD i 0 = x at hx hxl HS
      go_wp2
      go_roundw
      case rel =>
        go_light
        have e0 : (x : Int) / 16777216 = ((x / 16777216 % 256 : Nat) : Int) := by omega
        have e1 : (x : Int) / 65536 % 256 = ((x / 65536 % 256 : Nat) : Int) := by omega
        have e2 : (x : Int) / 256 % 256 = ((x / 256 % 256 : Nat) : Int) := by omega
        have e3 : (x : Int) % 256 = ((x % 256 : Nat) : Int) := by omega
        rw [e0, e1, e2, e3]
        refine ⟨i + 1, by omega, by go_num, ?_, ?_, ?_⟩
        · exact (((hr1.set_other _ _ (by simp)).set_other _ _ (by simp)).set_other _ _ (by simp)).set_other _ _ (by simp)
        · rw [← HS.out]
          simp only [List.map_set]
          exact (((hr2.set_same _ _).set_same _ _).set_same _ _).set_same _ _
        · exact (((hbw.setCell (by simp; omega) _).setCell (by simp; omega) _).setCell (by simp; omega) _).setCell (by simp; omega) _
      case measure => simp [intOf]; omega
    · have HI : Hid (i = 8) := by show i = 8; omega
      have hal := dacc_length s i hi
      go_wp2_with (first | (refine wpList_load_Row rfl 39 _ rfl (w.heap.size + 1 + 1) rfl 39 _ hr2 _ Tryd.underlying39 rfl 32 info39 (by simp [hal]) ?_) | (refine wpList_store_Row rfl 39 _ _ rfl (w.heap.size + 1) 0 ((dacc s i).map u8v) rfl rfl 39 _ hr1 32 info39 (by simp [hal]) (by simp) (one_u8 _) ?_; intro w3 hr4 hg4 hs4))
      refine post_Row 2 39 Tryd.results64 (w.heap.size + 1) rfl 39 _ hr4 _ Tryd.underlying39 rfl 32 info39 (by simp [splice_all, hal]) rfl ⟨?_, below_of_grown hbw hg4 (by have := hbw.size; omega) (by omega)⟩
      rw [splice_all _ _ (by simp [hal]), HI.out, dacc_all s]

end Go.Proofs.YtokjbmpiekadaaaDoor
