/-
  The walk of sha.Unhex: the digest that digits mean.
-/
import Derived.Test.YtmjccokocklgiaaDoorW13
namespace Go.Proofs.YtmjccokocklgiaaDoor
open Go.RowKit

theorem post_Row2 {P : Program} {fn : Func} {R : Ending → World → Prop} {a : Act} {w : World} (p u : Tmp) (ty : TypeId) (hf : fn.results = #[.cell p ty, .tmp u]) (g : Nat) (hp : a.tmps.getD p undef = .pointer (some ⟨g, 0, none⟩))
    (t : TypeId) (vs : List Value) (hr : Row w g vs t) (d : TypeDesc) (hu : P.underlying ty = some d) (hd : (match d with | .struct _ | .array _ _ => true | _ => false) = true) (n : Nat) (hi : (P.info? ty).map (·.size) = some n) (hn : vs.length = n)
    (hdf : a.defers = []) (h : R (.returned (.tuple #[.agg vs.toArray, a.tmps.getD u undef])) w) : bodyPost P fn R .ret a w := by
  refine bodyPost_ret ?_ hdf h
  rw [results_cell_tmp hf, hp]
  have hl := run_loadVar_row (P := P) w g t ty vs.toArray (0, 0) d hr hu hd (by rw [hi]; simp [hn])
  simp [asAddr, hl]

/-- the bytes of a string -/
def bytesS (s : ByteArray) : List Nat := s.data.toList.map UInt8.toNat
theorem bytesS_length (s : ByteArray) : (bytesS s).length = s.size := by
  simp only [bytesS, List.length_map, Array.length_toList]; rfl
theorem bytesS_lt (s : ByteArray) : ∀ x ∈ bytesS s, x < 256 := by
  intro x hx
  simp only [bytesS, List.mem_map] at hx
  obtain ⟨u, _, rfl⟩ := hx
  exact u.toNat_lt
theorem index_str (s : ByteArray) (j : Nat) (hj : j < s.size) (k : Int) (hk : k = (j : Int)) (w : World) : (Instr.index 9 (.string s) (.int .i64 k)).run Tryd.prog w = .ok (.int .u8 (((bytesS s).getD j 0 : Nat) : Int)) w := by
  subst hk
  have hs : s[j]? = some s[j] := by simp [hj]
  have hb : (bytesS s).getD j 0 = s[j].toNat := by
    have : j < s.data.size := hj
    simp only [bytesS, List.getD_eq_getElem?_getD, List.getElem?_map, Array.getElem?_toList, Array.getElem?_eq_getElem this]
    rfl
  rw [hb]
  simp [Instr.index, asIntOf, run_underlying Tryd.underlying9, hs]

/-- the digest while i bytes have been read -/
def uacc (d : List Nat) (i : Nat) : List Nat := d ++ List.replicate (32 - i) 0
theorem uacc_set (d : List Nat) (i v : Nat) (hd : d.length = i) (hi : i < 32) : (uacc d i).set i v = uacc (d ++ [v]) (i + 1) := by
  have e1 : uacc d i = d ++ 0 :: List.replicate (31 - i) 0 := by unfold uacc; rw [show 32 - i = (31 - i) + 1 by omega]; rfl
  have e2 : uacc (d ++ [v]) (i + 1) = d ++ v :: List.replicate (31 - i) 0 := by unfold uacc; rw [show 32 - (i + 1) = 31 - i by omega]; simp
  rw [e1, e2, set_mid _ _ _ _ _ hd.symm]
theorem uacc_length (d : List Nat) (i : Nat) (hd : d.length = i) (hi : i ≤ 32) : (uacc d i).length = 32 := by simp [uacc, hd]; omega

set_option maxHeartbeats 400000 in
set_option maxRecDepth 100000 in
theorem unhex_any (s : ByteArray) (_hs2 : s.size ≤ 9223372036854775807) (w : World) :
    Calls Tryd.prog 17 #[.string s] w fun e w' => e = .returned (.tuple #[.agg ((Sha.unhex (bytesS s)).1.map u8v).toArray, .int .i64 (((Sha.unhex (bytesS s)).2 : Nat) : Int)]) ∧ Below w.heap.size w w' := by
  by_cases h64 : s.size = 64
  · have hlen : (bytesS s).length = 64 := by rw [bytesS_length]; exact h64
    have hlt := bytesS_lt s
    have hix := fun (j : Nat) (hj : j < 64) => index_str s j (by omega)
    have HU : Hid (Sha.unhex (bytesS s) = match Sha.udig (bytesS s) 32 with | some d => (d, 0) | none => (Sha.zeros32, 21)) := by show _ = _; unfold Sha.unhex; rw [if_pos hlen]; rfl
    generalize bytesS s = l at hlen hlt hix HU ⊢
    have k1 : ((s.size : Int) != 64) = false := by rw [bne_eq_false_iff_eq]; omega
    have HIX : Hid (∀ (j : Nat), j < 64 → ∀ (k : Int), k = (j : Int) → ∀ (w : World), (Instr.index 9 (.string s) (.int .i64 k)).run Tryd.prog w = .ok (.int .u8 ((l.getD j 0 : Nat) : Int)) w) := hix
    clear hix h64
    go_enter Tryd.func17, Tryd.ntmps17
    go_wp2_with fail
    go_loopw [14] (fun vi w' => ∃ (i : Nat) (d : List Nat), i ≤ 32 ∧ vi = .int .i64 (i : Int) ∧ Sha.udig l i = some d ∧ Row w' w.heap.size ((List.replicate 32 0).map u8v) 25 ∧ Row w' (w.heap.size + 1) ((uacc d i).map u8v) 25 ∧ Below w.heap.size w w') (fun vi _ => 32 - (intOf vi).toNat)
    case atStart =>
      refine ⟨0, [], by omega, rfl, rfl, (Row.newAt w _ ((List.replicate 32 0).map u8v) 25 rfl).alloc _, ?_, ((Below.refl _ _).alloc (Nat.le_refl _) _).alloc (by simp) _⟩
      exact Row.newAt (w.alloc _) _ ((uacc [] 0).map u8v) 25 (by simp)
    case round =>
      obtain ⟨i, d, hi, rfl, hd, hr0, hr, hbw⟩ := hrel
      have hdl := udig_length l i d hd
      have HD : Hid (Sha.udig l i = some d) := hd
      clear hd
      by_cases hlt32 : i < 32
      · have x0 := HIX.out (2 * i) (by omega) (2 * (i : Int)) (by omega)
        have x1 := HIX.out (2 * i + 1) (by omega) (2 * (i : Int) + 1) (by omega)
        have b0 : l.getD (2 * i) 0 < 256 := getD_lt hlt _
        have b1 : l.getD (2 * i + 1) 0 < 256 := getD_lt hlt _
        have HP : Hid (Sha.pv l i = match Sha.uval (l.getD (2 * i) 0), Sha.uval (l.getD (2 * i + 1) 0) with | some x, some y => some (x * 16 + y) | _, _ => none) := rfl
        generalize l.getD (2 * i) 0 = y0 at x0 b0 HP
        generalize l.getD (2 * i + 1) 0 = y1 at x1 b1 HP
        have v0 := value_any y0 b0
        have v1 := value_any y1 b1
        have hal := uacc_length d i hdl hi
        have c0 : wr.cell? ⟨w.heap.size + 1, i, none⟩ = some (.int .u8 (((uacc d i).getD i 0 : Nat) : Int)) := hr.cellMap _ (by omega)
        have f0 := hr.frozen i
        generalize (uacc d i).getD i 0 = z at c0
        have q0 := uval_lt y0
        have q1 := uval_lt y1
        generalize Sha.uval y0 = u0 at v0 HP q0
        generalize Sha.uval y1 = u1 at v1 HP q1
        have V0 : Hid (∀ w, Calls Tryd.prog 28 #[.int .u8 (y0 : Int)] w fun e w' => e = .returned (.tuple #[.int .u8 ((u0.getD 0 : Nat) : Int), .bool u0.isSome]) ∧ w' = w) := v0
        have V1 : Hid (∀ w, Calls Tryd.prog 28 #[.int .u8 (y1 : Int)] w fun e w' => e = .returned (.tuple #[.int .u8 ((u1.getD 0 : Nat) : Int), .bool u1.isSome]) ∧ w' = w) := v1
        clear v0 v1 hal hlt
        go_wp2_with fail
        refine (V0.out _).mono ?_
        rintro e w' ⟨rfl, rfl⟩
        go_wp2_with fail
        refine (V1.out _).mono ?_
        rintro e w' ⟨rfl, rfl⟩
        clear V0 V1 x0 x1
        cases u0 with
        | none =>
          have hpv : Sha.pv l i = none := by rw [HP.out]
          have hz : Sha.unhex l = (Sha.zeros32, 21) := by rw [HU.out, udig_none l i hpv 32 hlt32]
          have HZ : Hid (Sha.unhex l = (Sha.zeros32, 21)) := hz
          clear hz hpv c0 f0 q0 q1
          go_wp2_with (first | (refine wpList_store_Row rfl 25 _ _ rfl w.heap.size 0 (Sha.zeros32.map u8v) rfl rfl 25 _ hr0 32 info25 rfl (by simp) (one_u8 _) ?_; intro w3 hr4 hg4 hs4))
          refine post_Row2 2 3 25 Tryd.results17 w.heap.size rfl 25 _ hr4 _ Tryd.underlying25 rfl 32 info25 rfl rfl ⟨?_, below_of_grown hbw hg4 hbw.size (Nat.le_refl _)⟩
          rw [HZ.out]; rfl
        | some a =>
          cases u1 with
          | none =>
            have hpv : Sha.pv l i = none := by rw [HP.out]
            have hz : Sha.unhex l = (Sha.zeros32, 21) := by rw [HU.out, udig_none l i hpv 32 hlt32]
            have HZ : Hid (Sha.unhex l = (Sha.zeros32, 21)) := hz
            clear hz hpv c0 f0 q0 q1
            go_wp2_with (first | (refine wpList_store_Row rfl 25 _ _ rfl w.heap.size 0 (Sha.zeros32.map u8v) rfl rfl 25 _ hr0 32 info25 rfl (by simp) (one_u8 _) ?_; intro w3 hr4 hg4 hs4))
            refine post_Row2 2 3 25 Tryd.results17 w.heap.size rfl 25 _ hr4 _ Tryd.underlying25 rfl 32 info25 rfl rfl ⟨?_, below_of_grown hbw hg4 hbw.size (Nat.le_refl _)⟩
            rw [HZ.out]; rfl
          | some b =>
            have ha := q0 a rfl
            have hb := q1 b rfl
            clear q0 q1
            go_wp2
            go_roundw
            case rel =>
              go_light
              have e0 : bits .or .u8 ((a : Int) * 16) (b : Int) = ((a * 16 + b : Nat) : Int) := by
                rw [show (a : Int) * 16 = ((a * 16 : Nat) : Int) by simp, u8_or_nat _ _ (by omega) (by omega), nat_join 4 _ _ (by omega) (by omega)]
              rw [e0]
              refine ⟨i + 1, d ++ [a * 16 + b], by omega, by go_num, ?_, hr0.set_other _ _ (by simp), ?_, hbw.setCell (by simp) _⟩
              · simp only [Sha.udig]; rw [HD.out, HP.out]
              · rw [← uacc_set d i _ hdl hlt32, List.map_set]; exact hr.set_same _ _
            case measure => simp [intOf]; omega
      · have HI : Hid (i = 32) := by show i = 32; omega
        have hal := uacc_length d i hdl hi
        go_wp2_with (first | (refine wpList_load_Row rfl 25 _ rfl (w.heap.size + 1) rfl 25 _ hr _ Tryd.underlying25 rfl 32 info25 (by simp [hal]) ?_) | (refine wpList_store_Row rfl 25 _ _ rfl w.heap.size 0 ((uacc d i).map u8v) rfl rfl 25 _ hr0 32 info25 (by simp [hal]) (by simp) (one_u8 _) ?_; intro w3 hr4 hg4 hs4))
        refine post_Row2 2 3 25 Tryd.results17 w.heap.size rfl 25 _ hr4 _ Tryd.underlying25 rfl 32 info25 (by simp [splice_all, hal]) rfl ⟨?_, below_of_grown hbw hg4 hbw.size (Nat.le_refl _)⟩
        have hz : Sha.unhex l = (d, 0) := by rw [HU.out, ← HI.out, HD.out]
        rw [splice_all _ _ (by simp [hal]), hz, show uacc d i = d by unfold uacc; rw [HI.out]; simp]
        rfl
  · have hu : Sha.unhex (bytesS s) = (Sha.zeros32, 21) := by unfold Sha.unhex; rw [if_neg (by rw [bytesS_length]; exact h64)]
    rw [hu]
    have k1 : ((s.size : Int) != 64) = true := by rw [bne_iff_ne]; omega
    clear hu h64
    go_enter Tryd.func17, Tryd.ntmps17
    go_wp2_with (first | (refine wpList_store_Row rfl 25 _ _ rfl w.heap.size 0 (Sha.zeros32.map u8v) rfl rfl 25 ((List.replicate 32 0).map u8v) ((Row.newAt w _ _ 25 rfl).alloc _) 32 info25 rfl (by simp) (one_u8 _) ?_; intro w3 hr4 hg4 hs4))
    refine post_Row2 2 3 25 Tryd.results17 w.heap.size rfl 25 _ hr4 _ Tryd.underlying25 rfl 32 info25 rfl rfl ⟨rfl, below_of_grown (((Below.refl _ _).alloc (Nat.le_refl _) _).alloc (by simp) _) hg4 (by simp; omega) (Nat.le_refl _)⟩
end Go.Proofs.YtmjccokocklgiaaDoor
