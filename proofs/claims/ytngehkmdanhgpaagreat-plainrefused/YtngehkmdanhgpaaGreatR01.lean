/-
  The pieces of a text: what stands between its strokes. The walk of strings.Cut at one stroke. The iterator over a text's pieces, and what it hands to a loop. One piece more: the walk of step.
-/
import Derived.Lib.Bytealg
import Derived.Lib.Walk
import Derived.Laws.Strings3
import Derived.Deep.Draws
import Derived.BigCall
import Derived.BigGuard
import Derived.RangeFuncNested
import Derived.RangeFuncBound
import Derived.RangeFuncCalls
import Derived.RangeFuncLeaves
import Derived.RangeFuncBox
import Derived.Shelf.Abstract
import Derived.OwnWalkIn
import Derived.TacticsInMore
import Derived.LoopNIn
import Derived.LoopIn
import Derived.Maps.AppendAt
import Derived.Test.YtngehkmdanhgpaaGreatR00
namespace Go.Proofs.YtngehkmdanhgpaaGreat.Vp
open Go.RowKit
/-- what stands ahead of the first stroke, what behind it, whether there is one -/
def cutS : Str → Str × Str × Bool
  | [] => ([], [], false)
  | c :: r => if c = 47 then ([], r, true) else (c :: (cutS r).1, (cutS r).2.1, (cutS r).2.2)
/-- what stands between the strokes, from the left, empty pieces too -/
def piecesS : Str → List Str
  | [] => [[]]
  | c :: r => if c = 47 then [] :: piecesS r else match piecesS r with
    | [] => [[c]]
    | p :: ps => (c :: p) :: ps
theorem pieces_cut (x : Str) : piecesS x = if (cutS x).2.2 then (cutS x).1 :: piecesS (cutS x).2.1 else [(cutS x).1] := by
  induction x with
  | nil => rfl
  | cons c r ih =>
    by_cases h : c = 47
    · simp [piecesS, cutS, h]
    · have e1 : piecesS (c :: r) = match piecesS r with | [] => [[c]] | p :: ps => (c :: p) :: ps := by rw [piecesS, if_neg h]
      have e2 : cutS (c :: r) = (c :: (cutS r).1, (cutS r).2.1, (cutS r).2.2) := by rw [cutS, if_neg h]
      rw [e1, e2, ih]
      by_cases h2 : (cutS r).2.2 = true
      · simp [h2]
      · simp [h2]
theorem cut_short (x : Str) (h : (cutS x).2.2 = true) : (cutS x).2.1.length < x.length := by
  induction x with
  | nil => simp [cutS] at h
  | cons c r ih =>
    unfold cutS at h ⊢
    by_cases h2 : c = 47
    · simp [h2]
    · simp only [h2, if_false] at h ⊢
      have := ih h
      simp; omega
theorem idx_cases (x : Str) : (Lib.indexByte x 47 = -1 ∧ cutS x = (x, [], false)) ∨ ∃ i : Nat, Lib.indexByte x 47 = (i : Int) ∧ i < x.length ∧ cutS x = (x.take i, x.drop (i + 1), true) := by
  induction x with
  | nil => exact .inl ⟨rfl, rfl⟩
  | cons c r ih =>
    unfold Lib.indexByte cutS
    by_cases h : c = 47
    · exact .inr ⟨0, by simp [h], by simp, by simp [h]⟩
    · rcases ih with ⟨h1, h2⟩ | ⟨i, h1, hi, h2⟩
      · exact .inl ⟨by simp [h, h1], by simp [h, h2]⟩
      · refine .inr ⟨i + 1, ?_, by simp; omega, by simp [h, h2]⟩
        rw [h1]
        have : ¬ ((i : Int) = -1) := by omega
        simp [h, this]
theorem extract_B (x : Str) (a b : Nat) : (B x).extract a b = B ((x.take b).drop a) := by
  refine ByteArray.ext ?_
  rw [ByteArray.data_extract]
  apply Array.toList_inj.1
  simp [B, List.drop_take]
set_option maxHeartbeats 400000 in
set_option maxRecDepth 100000 in
theorem indexByte_any (s : ByteArray) (c : Int) (w : World) : Calls Tryz.prog 147 #[.string s, .int .u8 c] w fun e w' => e = .returned (.int .i64 (Lib.indexByte s.data.toList c.toNat.toUInt8)) ∧ w' = w := by
  go_enter Tryz.func147, Tryz.ntmps147
  go_wp2
  rw [run_callFunc_extern Tryz.func151 (by kernel_rfl) (by kernel_rfl) (by kernel_rfl) (e := Extern.BytealgIndexByte.indexByte) (by kernel_rfl), Lib.run_indexByteString]
  simp only [Result.andThen]
  rw [Oper.upon_value]
  go_wp2
  go_ret
  exact ⟨rfl, rfl⟩
set_option maxHeartbeats 2000000 in
set_option maxRecDepth 100000 in
theorem index_any (x : Str) (w : World) : Calls Tryz.prog 144 #[.string (B x), .string ⟨#[47]⟩] w fun e w' => e = .returned (.int .i64 (Lib.indexByte x 47)) ∧ w' = w := by
  have hT := toL x
  have hD : (B x).data.toList = x := bl_B x
  obtain ⟨K, hK⟩ : ∃ K, Hid (K = Lib.indexByte x 47) := ⟨_, rfl⟩
  rw [← hK.out]
  have hC := indexByte_any (B x) 47
  rw [hD, show (47 : Int).toNat.toUInt8 = 47 from rfl, ← hK.out] at hC
  generalize B x = s at hT hC ⊢
  clear hD
  have HC := hid_in hC
  have HT := hid_in hT
  clear hC hT
  go_enter Tryz.func144, Tryz.ntmps144
  go_wp2_with (go_at_call 147; refine (HC.out _).mono ?_; rintro e w' ⟨rfl, hw⟩; obtain rfl := hw.symm)
  · have h : ([47] == s.toList) = true := by assumption
    go_ret
    refine ⟨congrArg (fun z => Ending.returned (Value.int .i64 z)) (Eq.trans ?_ hK.out.symm), rfl⟩
    have e : x = [47] := by rw [← HT.out]; exact (beq_iff_eq.1 h).symm
    rw [e]; rfl
  · go_ret
    exact ⟨rfl, rfl⟩
set_option maxHeartbeats 1000000 in
set_option maxRecDepth 100000 in
theorem lcut_any (x : Str) (hx : x.length ≤ 4294967296) (w : World) : Calls Tryz.prog 134 #[.string (B x), .string ⟨#[47]⟩] w fun e w' => e = .returned (.tuple #[.string (B (cutS x).1), .string (B (cutS x).2.1), .bool (cutS x).2.2]) ∧ ∃ n, w' = w.drewN n := by
  have hI := index_any x
  have hsz : (B x).size = x.length := B_size x
  rcases idx_cases x with ⟨h1, h2⟩ | ⟨i, h1, hi, h2⟩
  · rw [h1] at hI
    rw [h2]
    have HI := hid_in hI
    clear hI
    go_enter Tryz.func134, Tryz.ntmps134
    go_wp2_with (go_at_call 144; refine (HI.out _).mono ?_; rintro e w' ⟨rfl, hw⟩; obtain rfl := hw.symm)
    go_ret3
    exact ⟨rfl, 0, rfl⟩
  · rw [h1] at hI
    have e1 : (B x).extract 0 i = B (x.take i) := by rw [extract_B]; simp
    have e2 : (B x).extract (i + 1) x.length = B (x.drop (i + 1)) := by rw [extract_B]; simp
    rw [h2]
    have HI := hid_in hI
    have E1 := hid_in e1
    have E2 := hid_in e2
    have c2 : (i : Int) ≤ ((B x).size : Int) := by omega
    have c4 : (i : Int) + 1 ≤ ((B x).size : Int) := by omega
    clear hI h1 h2 e1 e2
    show Calls Tryz.prog 134 #[.string (B x), .string ⟨#[47]⟩] w fun e w' => e = .returned (.tuple #[.string (B (x.take i)), .string (B (x.drop (i + 1))), .bool true]) ∧ ∃ n, w' = w.drewN n
    generalize B x = s at hsz HI E1 E2 c2 c4 ⊢
    generalize x.length = n at *
    go_enter Tryz.func134, Tryz.ntmps134
    go_wp2_with (go_at_call 144; refine (HI.out _).mono ?_; rintro e w' ⟨rfl, hw⟩; obtain rfl := hw.symm)
    go_region
    go_wp2
    go_ret3
    refine ⟨?_, 1, rfl⟩
    simp [E1.out, E2.out]
set_option maxHeartbeats 1000000 in
set_option maxRecDepth 100000 in
theorem cut_any (x : Str) (hx : x.length ≤ 4294967296) (w : World) : Calls Tryz.prog 117 #[.string (B x), .string ⟨#[47]⟩] w fun e w' => e = .returned (.tuple #[.string (B (cutS x).1), .string (B (cutS x).2.1), .bool (cutS x).2.2]) ∧ ∃ n, w' = w.drewN n := by
  have hI := lcut_any x hx
  have HI := hid_in hI
  clear hI
  go_enter Tryz.func117, Tryz.ntmps117
  go_wp2_with (go_at_call 134; refine (HI.out _).mono ?_; rintro e w' ⟨rfl, n, hw⟩; obtain rfl := hw)
  go_ret3
  exact ⟨rfl, n, rfl⟩
end Go.Proofs.YtngehkmdanhgpaaGreat.Vp
namespace Go.Proofs.YtngehkmdanhgpaaGreat.Vp
open Go.RowKit Go.Shelf
attribute [local go_sem] Oper.semAt_some
theorem grown_drewN (W : World) (m : Nat) : W.grownBy (W.drewN m) none :=
  ⟨(below_drewN (Below.refl 0 W) m).os, (below_drewN (Below.refl 0 W) m).tape, (below_drewN (Below.refl 0 W) m).output, (below_drewN (Below.refl 0 W) m).size, fun k _ _ => by simp⟩
def leftOf (v : Value) : Value → Nat
  | .bool true => (match v with | .string s => (bl s).length | _ => 0) + 1
  | _ => 0
set_option maxHeartbeats 1000000 in
theorem pieces_in (x : Str) (w : World) : CallsIn Fence.wide 3 Tryz.prog 85 #[.string (B x)] w fun e w' => e = .returned (.func (.func 116) #[] #[.pointer (some ⟨w.heap.size, 0, none⟩)]) ∧ w' = w.alloc (.cells #[.string (B x)] 9) := by
  refine callsIn_of_wp Tryz.func85 rfl trivial ?_ rfl
  simp only [Tryz.ntmps85, List.size_toArray, List.length_cons, List.length_nil, Nat.reduceAdd, Nat.reduceSub, Array.replicate_succ, Array.replicate_zero, List.push_toArray, List.append_toArray, List.nil_append, List.cons_append]
  gi_wp2
  go_ret
  exact ⟨rfl, rfl⟩
set_option maxRecDepth 100000 in
set_option maxHeartbeats 1000000 in
theorem pieces1_in (n : Nat) (hn : 1 ≤ n) (l Bn : Nat) (x : Str) (hx : x.length ≤ 4294967296) (J Jx : List Str → World → Prop)
    (hJd : ∀ s W m, J s W → J s (World.drewN W m))
    (hY : ∀ pre p W, J pre W → pre.length < (piecesS x).length → YieldAt Fence.wide (n - 1) Tryz.prog l #[.string (B p)] W fun e W' =>
      (e = .returned (.bool true) ∧ J (pre ++ [p]) W' ∧ True) ∨ (e = .returned (.bool false) ∧ Jx (pre ++ [p]) W'))
    (W : World) (hBn : W.cell? ⟨Bn, 0, none⟩ = some (.string (B x))) (h0 : J [] W) :
    CallsIn Fence.wide n Tryz.prog 116 #[.func (.yield l) #[] #[], .pointer (some ⟨Bn, 0, none⟩)] W fun e W' => (∃ v, e = .returned v) ∧
      ((∃ ys, ys = piecesS x ∧ J ys W') ∨ (∃ pre, pre <+: piecesS x ∧ Jx pre W')) := by
  refine callsIn_of_wp Tryz.func116 rfl trivial ?_ rfl
  simp only [Tryz.ntmps116, List.size_toArray, List.length_cons, List.length_nil, Nat.reduceAdd, Nat.reduceSub, Array.replicate_succ, Array.replicate_zero, List.push_toArray, List.append_toArray, List.nil_append, List.cons_append]
  have HY := hid_in hY
  have HJd := hid_in hJd
  clear hY hJd
  gi_wp2
  gi_loopw [3, 4] (fun v3 v4 wr => (∃ (pre : List Str) (y : Str), v3 = .string (B y) ∧ v4 = .bool true ∧ y.length ≤ 4294967296 ∧ Hid (piecesS x = pre ++ piecesS y) ∧ J pre wr) ∨ (v4 = .bool false ∧ J (piecesS x) wr))
    (fun v3 v4 _ => leftOf v3 v4)
  case atStart =>
    exact .inl ⟨[], x, rfl, rfl, hx, rfl, h0⟩
  case round =>
    rcases hrel with ⟨pre, y, rfl, rfl, hy, hp, hJs⟩ | ⟨rfl, hJs⟩
    · have hC := hid_in (cut_any y hy)
      have HP := hid_in (pieces_cut y)
      have HL := hid_in (cut_short y)
      generalize cutS y = t at hC HP HL
      obtain ⟨c, r, b⟩ := t
      simp only at HP
      gi_wp2_with (refine ⟨trivial, ?_⟩; gi_at_call 117; refine (callsIn_wide.2 (hC.out _)).mono ?_; rintro e w' ⟨rfl, m, hw⟩; obtain rfl := hw)
      have hpre : (pre ++ [c]) <+: piecesS x := by
        rw [hp.out, HP.out]
        cases b
        · exact ⟨[], by simp⟩
        · exact ⟨piecesS r, by simp⟩
      obtain ⟨fn, tmps, assign, body, hy2, hR⟩ := HY.out pre c (wr.drewN m) (HJd.out _ _ _ hJs) (by have := hpre.length_le; simp at this; omega)
      have HPRE := hid_in hpre
      clear hpre
      rw [hy2]
      gi_wp2
      refine hR.mono ?_
      rintro e W3 (⟨rfl, hJ3, _⟩ | ⟨rfl, hJx3⟩)
      · gi_wp2
        go_roundw
        case rel =>
          cases b
          · refine .inr ⟨rfl, ?_⟩
            rw [hp.out, HP.out]; exact hJ3
          · refine .inl ⟨pre ++ [c], r, rfl, rfl, ?_, ?_, hJ3⟩
            · have := HL.out rfl; omega
            · show _ = _
              rw [hp.out, HP.out]; simp
        case measure =>
          cases b
          · simp [leftOf]
          · have := HL.out rfl
            simp [leftOf, bl_B]; omega
      · gi_wp2
        refine bodyPost_ret (results_none rfl _ _ _) rfl ?_
        exact ⟨⟨_, rfl⟩, .inr ⟨pre ++ [c], HPRE.out, hJx3⟩⟩
    · gi_wp2
      go_end0
      exact ⟨⟨_, rfl⟩, .inl ⟨_, rfl, hJs⟩⟩
theorem pieces_stops (n : Nat) (hn : 1 ≤ n) (Bn : Nat) (x : Str) (hx : x.length ≤ 4294967296) (w : World) (hb : Bn < w.heap.size) (hc : w.cell? ⟨Bn, 0, none⟩ = some (.string (B x))) :
    SeqStopsK Fence.wide n Tryz.prog 116 #[.pointer (some ⟨Bn, 0, none⟩)] (fun p : Str => #[Value.string (B p)]) (fun _ _ => True) (fun ys => ys = piecesS x) (fun pre => pre <+: piecesS x) (piecesS x).length w := fun l J Jx W hW hJ _ hY h0 =>
  pieces1_in n hn l Bn x hx J Jx (fun s W m h => hJ s W _ none h (grown_drewN W m) (fun r e => by cases e)) hY W ((hW.cell (p := ⟨Bn, 0, none⟩) hb).trans hc) h0
end Go.Proofs.YtngehkmdanhgpaaGreat.Vp
namespace Go.Proofs.YtngehkmdanhgpaaGreat.Vp
open Go.RowKit Go.Shelf
def sv (x : Str) : Value := .string (B x)
/-- the names behind one more piece -/
def stepS (xs : List Str) (p : Str) : List Str := if p = [] ∨ p = [46] then xs else if p = [46, 46] then xs.dropLast else xs ++ [p]
/-- a slice of the call's own that holds these names -/
abbrev Nms (W : World) (base : Nat) (v : Value) (xs : List Str) : Prop := W.ownsRow base 9 1 v xs.length (xs.map sv)
def s0 (p : Str) : ByteArray := B p
theorem info9 : (Tryz.prog.info? 9).map (fun i => (i.zero, i.size, i.bytes)) = some (some (.string ByteArray.empty), 1, 16) := by kernel_rfl
theorem grown_tmp {W w1 : World} {o : Obj} {row : Option Nat} (h : (W.alloc o).grownBy w1 row) : W.grownBy w1 row :=
  ⟨h.os, h.tape, h.output, Nat.le_trans (by simp) h.size, fun k hk hne => (h.block k (by simp; omega) hne).trans (Below.heap_alloc W o k hk)⟩
theorem Nms.back {W : World} {base : Nat} {g k cap : Nat} {xs : List Str} (h : Nms W base (.slice (some ⟨g, 0, none⟩) (k + 1) cap) xs) (hk : xs.length = k + 1) : Nms W base (.slice (some ⟨g, 0, none⟩) k cap) xs.dropLast := by
  have hl : xs.dropLast.length = k := by simp [hk]
  unfold Nms at *
  rw [hl]
  refine ⟨by simp [hk], ?_⟩
  rcases h.2 with ⟨h0, _⟩ | ⟨g', cap', cur, h0, hb, hg, hn, hm, hs, ht⟩
  · cases h0
  · simp only [Value.slice.injEq, Option.some.injEq, Addr.mk.injEq] at h0
    obtain ⟨⟨e1, _, _⟩, _, e2⟩ := h0
    subst e1 e2
    refine .inr ⟨g, cap, cur, rfl, hb, hg, by omega, hm, hs, ?_⟩
    have e : (xs.map sv).take k = xs.dropLast.map sv := by rw [List.dropLast_eq_take, hk, List.map_take]; rfl
    rw [← e, ← ht, hk, List.take_take]
    congr 1
    omega
set_option maxHeartbeats 1000000 in
set_option maxRecDepth 100000 in
theorem step_any (base : Nat) (v : Value) (xs : List Str) (p : Str) (W : World) (hrow : Nms W base v xs) (hlen : xs.length ≤ 100000) (hbase : base ≤ W.heap.size) :
    Calls Tryz.prog 86 #[v, .string (B p)] W fun e W' => ∃ v', e = .returned v' ∧ Nms W' base v' (stepS xs p) ∧ W.grownBy W' v.ownBlock := by
  have hT := toL p
  by_cases h1 : p = [] ∨ p = [46]
  · have hs : stepS xs p = xs := by unfold stepS; rw [if_pos h1]
    rw [hs]
    have HR := hid_in hrow
    clear hrow hs
    generalize B p = s at hT ⊢
    rcases h1 with rfl | rfl
    · go_enter Tryz.func86, Tryz.ntmps86
      go_wp2_with fail
      all_goals
        go_ret
        exact ⟨v, rfl, HR.out, ⟨rfl, rfl, rfl, Nat.le_refl _, fun _ _ _ => rfl⟩⟩
    · go_enter Tryz.func86, Tryz.ntmps86
      go_wp2_with fail
      all_goals
        go_ret
        exact ⟨v, rfl, HR.out, ⟨rfl, rfl, rfl, Nat.le_refl _, fun _ _ _ => rfl⟩⟩
  · by_cases h2 : p = [46, 46]
    · have hs : stepS xs p = xs.dropLast := by unfold stepS; rw [if_neg h1, if_pos h2]
      rw [hs]
      clear h1 hs
      subst h2
      generalize B [46, 46] = s at hT ⊢
      rcases hrow.2 with ⟨rfl, h0⟩ | ⟨g, cap, cur, rfl, hb, hg, hn, hm, hcs, ht⟩
      · have hx : xs = [] := List.eq_nil_of_length_eq_zero h0
        subst hx
        clear hrow h0
        go_enter Tryz.func86, Tryz.ntmps86
        go_wp2_with fail
        all_goals
          go_ret
          exact ⟨_, rfl, World.ownsRow_nil _ _ _ _, ⟨rfl, rfl, rfl, Nat.le_refl _, fun _ _ _ => rfl⟩⟩
      · cases hk : xs.length with
        | zero =>
          have hx : xs = [] := List.eq_nil_of_length_eq_zero hk
          subst hx
          have HR := hid_in hrow
          have hcap : cap ≤ 9223372036854775807 := by unfold maxLen at hm; omega
          clear hrow hg ht hcs hk
          go_enter Tryz.func86, Tryz.ntmps86
          go_wp2_with fail
          all_goals
            go_ret
            exact ⟨_, rfl, HR.out, ⟨rfl, rfl, rfl, Nat.le_refl _, fun _ _ _ => rfl⟩⟩
        | succ k =>
          rw [hk] at hn hlen
          have HR := hid_in (Nms.back (k := k) (show Nms W base (.slice (some ⟨g, 0, none⟩) (k + 1) cap) xs by rw [← hk]; exact hrow) hk)
          have hcap : cap ≤ 9223372036854775807 := by unfold maxLen at hm; omega
          have c1 : (k : Int) ≤ cap := by omega
          have hmax : max (k : Int) 0 = k := by omega
          clear hrow hg ht hcs hk
          go_enter Tryz.func86, Tryz.ntmps86
          go_wp2_with fail
          all_goals
            go_ret
            exact ⟨_, rfl, HR.out, ⟨rfl, rfl, rfl, Nat.le_refl _, fun _ _ _ => rfl⟩⟩
    · have hs : stepS xs p = xs ++ [p] := by unfold stepS; rw [if_neg h1, if_neg h2]
      rw [hs]
      obtain ⟨i0, hi, hz0, hz1, hz2⟩ := info_parts info9
      have e0 : (s0 p).toList.isEmpty = false := by rw [s0, toL]; cases p <;> simp_all
      have e1 : ((s0 p).toList == [46]) = false := by rw [s0, toL, beq_eq_false_iff_ne]; exact fun e => h1 (.inr e)
      have e2 : ((s0 p).toList == [46, 46]) = false := by rw [s0, toL, beq_eq_false_iff_ne]; exact h2
      have e3 : ((s0 p).toList = [46]) = False := by rw [s0, toL]; simp only [eq_iff_iff, iff_false]; exact fun e => h1 (.inr e)
      have e4 : ((s0 p).toList = [46, 46]) = False := by rw [s0, toL]; simp only [eq_iff_iff, iff_false]; exact h2
      have e5 : ((s0 p).toList = []) = False := by rw [s0, toL]; simp only [eq_iff_iff, iff_false]; exact fun e => h1 (.inl e)
      have HS : Hid ((xs ++ [p]).map sv = xs.map sv ++ [.string (s0 p)] ∧ (xs ++ [p]).length = xs.length + 1) := ⟨by simp [sv, s0], by simp⟩
      have hml : xs.length + 1 ≤ maxLen := by unfold maxLen; omega
      have hrow2 : W.ownsRow base 9 1 v xs.length (xs.map sv) := hrow
      obtain ⟨k, hk⟩ : ∃ k, Hid (k = xs.length) := ⟨_, rfl⟩
      rw [← hk.out] at hrow2 hlen hml
      obtain ⟨us, hus⟩ : ∃ us, Hid (us = xs.map sv) := ⟨_, rfl⟩
      rw [← hus.out] at hrow2
      have HR := hid_in hrow2
      clear hT h1 h2 hs hrow hrow2
      show Calls Tryz.prog 86 #[v, .string (s0 p)] W fun e W' => ∃ v', e = .returned v' ∧ Nms W' base v' (xs ++ [p]) ∧ W.grownBy W' v.ownBlock
      generalize s0 p = s at e0 e1 e2 e3 e4 e5 HS ⊢
      go_enter Tryz.func86, Tryz.ntmps86
      go_wp2_with (first | (at_builtin; refine wpList_append_own _ rfl _ _ 35 rfl base 9 i0 (.string ByteArray.empty) 1 16 Tryz.underlying35 hi hz0 hz1 hz2 rfl (by decide) v k us rfl (HR.out.alloc _) ⟨W.heap.size, 0, none⟩ 1 1 [.string s] rfl rfl (cell_one_new _ _ _) (by simp [Value.oneCell']) hml (by omega) (by simp; omega) ?_; intro v' w1 hown' hgrow _; have HO := hid_in hown'; have HG := hid_in hgrow; clear hown' hgrow))
      go_ret
      refine ⟨_, rfl, ?_, grown_tmp HG.out⟩
      unfold Nms
      rw [HS.out.1, HS.out.2, ← hk.out, ← hus.out]
      exact HO.out
end Go.Proofs.YtngehkmdanhgpaaGreat.Vp
