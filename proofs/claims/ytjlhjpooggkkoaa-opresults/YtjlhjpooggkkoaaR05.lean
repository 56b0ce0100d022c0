/-
  The iterator over a text's pieces, and what it hands to a loop. One piece more: the walk of step. The walk of Parse. Names that are read out of memory; the walks of Show, Clean and awake. The contracts again, over values that read as names. The walk of the reference's Parse.
-/
import Derived.RangeFuncNested
import Derived.RangeFuncBound
import Derived.RangeFuncCalls
import Derived.RangeFuncLeaves
import Derived.RangeFuncBox
import Derived.Shelf.Abstract
import Derived.OwnWalkIn
import Derived.TacticsInMore
import Derived.LoopNIn
import Derived.LoopIn
import Derived.Maps.AppendAt
import Derived.Test.YtjlhjpooggkkoaaRows
import Derived.Test.YtjlhjpooggkkoaaR04
namespace Go.Proofs.Ytjlhjpooggkkoaa.Vp
open Go.RowKit Go.Shelf
attribute [local go_sem] Oper.semAt_some
theorem grown_drewN (W : World) (m : Nat) : W.grownBy (W.drewN m) none :=
  ⟨(below_drewN (Below.refl 0 W) m).os, (below_drewN (Below.refl 0 W) m).tape, (below_drewN (Below.refl 0 W) m).output, (below_drewN (Below.refl 0 W) m).size, fun k _ _ => by simp⟩
def leftOf (v : Value) : Value → Nat
  | .bool true => (match v with | .string s => (bl s).length | _ => 0) + 1
  | _ => 0
set_option maxHeartbeats 1000000 in
theorem pieces_in (x : Str) (w : World) : CallsIn Fence.wide 3 Try.prog 57 #[.string (B x)] w fun e w' => e = .returned (.func (.func 60) #[] #[.pointer (some ⟨w.heap.size, 0, none⟩)]) ∧ w' = w.alloc (.cells #[.string (B x)] 9) := by
  refine callsIn_of_wp Try.func57 rfl trivial ?_ rfl
  simp only [Try.ntmps57, List.size_toArray, List.length_cons, List.length_nil, Nat.reduceAdd, Nat.reduceSub, Array.replicate_succ, Array.replicate_zero, List.push_toArray, List.append_toArray, List.nil_append, List.cons_append]
  gi_wp2
  go_ret
  exact ⟨rfl, rfl⟩
set_option maxRecDepth 100000 in
set_option maxHeartbeats 1000000 in
theorem pieces1_in (n : Nat) (hn : 1 ≤ n) (l Bn : Nat) (x : Str) (hx : x.length ≤ 4294967296) (J Jx : List Str → World → Prop)
    (hJd : ∀ s W m, J s W → J s (World.drewN W m))
    (hY : ∀ pre p W, J pre W → pre.length < (piecesS x).length → YieldAt Fence.wide (n - 1) Try.prog l #[.string (B p)] W fun e W' =>
      (e = .returned (.bool true) ∧ J (pre ++ [p]) W' ∧ True) ∨ (e = .returned (.bool false) ∧ Jx (pre ++ [p]) W'))
    (W : World) (hBn : W.cell? ⟨Bn, 0, none⟩ = some (.string (B x))) (h0 : J [] W) :
    CallsIn Fence.wide n Try.prog 60 #[.func (.yield l) #[] #[], .pointer (some ⟨Bn, 0, none⟩)] W fun e W' => (∃ v, e = .returned v) ∧
      ((∃ ys, ys = piecesS x ∧ J ys W') ∨ (∃ pre, pre <+: piecesS x ∧ Jx pre W')) := by
  refine callsIn_of_wp Try.func60 rfl trivial ?_ rfl
  simp only [Try.ntmps60, List.size_toArray, List.length_cons, List.length_nil, Nat.reduceAdd, Nat.reduceSub, Array.replicate_succ, Array.replicate_zero, List.push_toArray, List.append_toArray, List.nil_append, List.cons_append]
  have HY := hid_in hY
  have HJd := hid_in hJd
  clear hY hJd
  gi_wp2
  gi_loopw [3, 4] (fun v3 v4 wr => (∃ (pre : List Str) (y : Str), v3 = .string (B y) ∧ v4 = .bool true ∧ y.length ≤ 4294967296 ∧ Hid (piecesS x = pre ++ piecesS y) ∧ J pre wr) ∨ (v4 = .bool false ∧ J (piecesS x) wr))
    (fun v3 v4 _ => leftOf v3 v4)
  case atStart =>
    exact .inl ⟨[], x, rfl, rfl, hx, rfl, h0⟩
  case round =>
    rcases hrel with ⟨pre, y, rfl, rfl, hy, hp, hJs⟩ | ⟨rfl, hJs⟩
    · have hC := hid_in (cut_any y hy)
      have HP := hid_in (pieces_cut y)
      have HL := hid_in (cut_short y)
      generalize cutS y = t at hC HP HL
      obtain ⟨c, r, b⟩ := t
      simp only at HP
      gi_wp2_with (refine ⟨trivial, ?_⟩; gi_at_call 61; refine (callsIn_wide.2 (hC.out _)).mono ?_; rintro e w' ⟨rfl, m, hw⟩; obtain rfl := hw)
      have hpre : (pre ++ [c]) <+: piecesS x := by
        rw [hp.out, HP.out]
        cases b
        · exact ⟨[], by simp⟩
        · exact ⟨piecesS r, by simp⟩
      obtain ⟨fn, tmps, assign, body, hy2, hR⟩ := HY.out pre c (wr.drewN m) (HJd.out _ _ _ hJs) (by have := hpre.length_le; simp at this; omega)
      have HPRE := hid_in hpre
      clear hpre
      rw [hy2]
      gi_wp2
      refine hR.mono ?_
      rintro e W3 (⟨rfl, hJ3, _⟩ | ⟨rfl, hJx3⟩)
      · gi_wp2
        go_roundw
        case rel =>
          cases b
          · refine .inr ⟨rfl, ?_⟩
            rw [hp.out, HP.out]; exact hJ3
          · refine .inl ⟨pre ++ [c], r, rfl, rfl, ?_, ?_, hJ3⟩
            · have := HL.out rfl; omega
            · show _ = _
              rw [hp.out, HP.out]; simp
        case measure =>
          cases b
          · simp [leftOf]
          · have := HL.out rfl
            simp [leftOf, bl_B]; omega
      · gi_wp2
        refine bodyPost_ret (results_none rfl _ _ _) rfl ?_
        exact ⟨⟨_, rfl⟩, .inr ⟨pre ++ [c], HPRE.out, hJx3⟩⟩
    · gi_wp2
      go_end0
      exact ⟨⟨_, rfl⟩, .inl ⟨_, rfl, hJs⟩⟩
theorem pieces_stops (n : Nat) (hn : 1 ≤ n) (Bn : Nat) (x : Str) (hx : x.length ≤ 4294967296) (w : World) (hb : Bn < w.heap.size) (hc : w.cell? ⟨Bn, 0, none⟩ = some (.string (B x))) :
    SeqStopsK Fence.wide n Try.prog 60 #[.pointer (some ⟨Bn, 0, none⟩)] (fun p : Str => #[Value.string (B p)]) (fun _ _ => True) (fun ys => ys = piecesS x) (fun pre => pre <+: piecesS x) (piecesS x).length w := fun l J Jx W hW hJ _ hY h0 =>
  pieces1_in n hn l Bn x hx J Jx (fun s W m h => hJ s W _ none h (grown_drewN W m) (fun r e => by cases e)) hY W ((hW.cell (p := ⟨Bn, 0, none⟩) hb).trans hc) h0
end Go.Proofs.Ytjlhjpooggkkoaa.Vp
namespace Go.Proofs.Ytjlhjpooggkkoaa.Vp
open Go.RowKit Go.Shelf
def sv (x : Str) : Value := .string (B x)
/-- the names behind one more piece -/
def stepS (xs : List Str) (p : Str) : List Str := if p = [] ∨ p = [46] then xs else if p = [46, 46] then xs.dropLast else xs ++ [p]
/-- a slice of the call's own that holds these names -/
abbrev Nms (W : World) (base : Nat) (v : Value) (xs : List Str) : Prop := W.ownsRow base 9 1 v xs.length (xs.map sv)
def s0 (p : Str) : ByteArray := B p
theorem info9 : (Try.prog.info? 9).map (fun i => (i.zero, i.size, i.bytes)) = some (some (.string ByteArray.empty), 1, 16) := by kernel_rfl
theorem grown_tmp {W w1 : World} {o : Obj} {row : Option Nat} (h : (W.alloc o).grownBy w1 row) : W.grownBy w1 row :=
  ⟨h.os, h.tape, h.output, Nat.le_trans (by simp) h.size, fun k hk hne => (h.block k (by simp; omega) hne).trans (Below.heap_alloc W o k hk)⟩
theorem Nms.back {W : World} {base : Nat} {g k cap : Nat} {xs : List Str} (h : Nms W base (.slice (some ⟨g, 0, none⟩) (k + 1) cap) xs) (hk : xs.length = k + 1) : Nms W base (.slice (some ⟨g, 0, none⟩) k cap) xs.dropLast := by
  have hl : xs.dropLast.length = k := by simp [hk]
  unfold Nms at *
  rw [hl]
  refine ⟨by simp [hk], ?_⟩
  rcases h.2 with ⟨h0, _⟩ | ⟨g', cap', cur, h0, hb, hg, hn, hm, hs, ht⟩
  · cases h0
  · simp only [Value.slice.injEq, Option.some.injEq, Addr.mk.injEq] at h0
    obtain ⟨⟨e1, _, _⟩, _, e2⟩ := h0
    subst e1 e2
    refine .inr ⟨g, cap, cur, rfl, hb, hg, by omega, hm, hs, ?_⟩
    have e : (xs.map sv).take k = xs.dropLast.map sv := by rw [List.dropLast_eq_take, hk, List.map_take]; rfl
    rw [← e, ← ht, hk, List.take_take]
    congr 1
    omega
set_option maxHeartbeats 1000000 in
set_option maxRecDepth 100000 in
theorem step_any (base : Nat) (v : Value) (xs : List Str) (p : Str) (W : World) (hrow : Nms W base v xs) (hlen : xs.length ≤ 100000) (hbase : base ≤ W.heap.size) :
    Calls Try.prog 58 #[v, .string (B p)] W fun e W' => ∃ v', e = .returned v' ∧ Nms W' base v' (stepS xs p) ∧ W.grownBy W' v.ownBlock := by
  have hT := toL p
  by_cases h1 : p = [] ∨ p = [46]
  · have hs : stepS xs p = xs := by unfold stepS; rw [if_pos h1]
    rw [hs]
    have HR := hid_in hrow
    clear hrow hs
    generalize B p = s at hT ⊢
    rcases h1 with rfl | rfl
    · go_enter Try.func58, Try.ntmps58
      go_wp2_with fail
      all_goals
        go_ret
        exact ⟨v, rfl, HR.out, ⟨rfl, rfl, rfl, Nat.le_refl _, fun _ _ _ => rfl⟩⟩
    · go_enter Try.func58, Try.ntmps58
      go_wp2_with fail
      all_goals
        go_ret
        exact ⟨v, rfl, HR.out, ⟨rfl, rfl, rfl, Nat.le_refl _, fun _ _ _ => rfl⟩⟩
  · by_cases h2 : p = [46, 46]
    · have hs : stepS xs p = xs.dropLast := by unfold stepS; rw [if_neg h1, if_pos h2]
      rw [hs]
      clear h1 hs
      subst h2
      generalize B [46, 46] = s at hT ⊢
      rcases hrow.2 with ⟨rfl, h0⟩ | ⟨g, cap, cur, rfl, hb, hg, hn, hm, hcs, ht⟩
      · have hx : xs = [] := List.eq_nil_of_length_eq_zero h0
        subst hx
        clear hrow h0
        go_enter Try.func58, Try.ntmps58
        go_wp2_with fail
        all_goals
          go_ret
          exact ⟨_, rfl, World.ownsRow_nil _ _ _ _, ⟨rfl, rfl, rfl, Nat.le_refl _, fun _ _ _ => rfl⟩⟩
      · cases hk : xs.length with
        | zero =>
          have hx : xs = [] := List.eq_nil_of_length_eq_zero hk
          subst hx
          have HR := hid_in hrow
          have hcap : cap ≤ 9223372036854775807 := by unfold maxLen at hm; omega
          clear hrow hg ht hcs hk
          go_enter Try.func58, Try.ntmps58
          go_wp2_with fail
          all_goals
            go_ret
            exact ⟨_, rfl, HR.out, ⟨rfl, rfl, rfl, Nat.le_refl _, fun _ _ _ => rfl⟩⟩
        | succ k =>
          rw [hk] at hn hlen
          have HR := hid_in (Nms.back (k := k) (show Nms W base (.slice (some ⟨g, 0, none⟩) (k + 1) cap) xs by rw [← hk]; exact hrow) hk)
          have hcap : cap ≤ 9223372036854775807 := by unfold maxLen at hm; omega
          have c1 : (k : Int) ≤ cap := by omega
          have hmax : max (k : Int) 0 = k := by omega
          clear hrow hg ht hcs hk
          go_enter Try.func58, Try.ntmps58
          go_wp2_with fail
          all_goals
            go_ret
            exact ⟨_, rfl, HR.out, ⟨rfl, rfl, rfl, Nat.le_refl _, fun _ _ _ => rfl⟩⟩
    · have hs : stepS xs p = xs ++ [p] := by unfold stepS; rw [if_neg h1, if_neg h2]
      rw [hs]
      obtain ⟨i0, hi, hz0, hz1, hz2⟩ := info_parts info9
      have e0 : (s0 p).toList.isEmpty = false := by rw [s0, toL]; cases p <;> simp_all
      have e1 : ((s0 p).toList == [46]) = false := by rw [s0, toL, beq_eq_false_iff_ne]; exact fun e => h1 (.inr e)
      have e2 : ((s0 p).toList == [46, 46]) = false := by rw [s0, toL, beq_eq_false_iff_ne]; exact h2
      have e3 : ((s0 p).toList = [46]) = False := by rw [s0, toL]; simp only [eq_iff_iff, iff_false]; exact fun e => h1 (.inr e)
      have e4 : ((s0 p).toList = [46, 46]) = False := by rw [s0, toL]; simp only [eq_iff_iff, iff_false]; exact h2
      have e5 : ((s0 p).toList = []) = False := by rw [s0, toL]; simp only [eq_iff_iff, iff_false]; exact fun e => h1 (.inl e)
      have HS : Hid ((xs ++ [p]).map sv = xs.map sv ++ [.string (s0 p)] ∧ (xs ++ [p]).length = xs.length + 1) := ⟨by simp [sv, s0], by simp⟩
      have hml : xs.length + 1 ≤ maxLen := by unfold maxLen; omega
      have hrow2 : W.ownsRow base 9 1 v xs.length (xs.map sv) := hrow
      obtain ⟨k, hk⟩ : ∃ k, Hid (k = xs.length) := ⟨_, rfl⟩
      rw [← hk.out] at hrow2 hlen hml
      obtain ⟨us, hus⟩ : ∃ us, Hid (us = xs.map sv) := ⟨_, rfl⟩
      rw [← hus.out] at hrow2
      have HR := hid_in hrow2
      clear hT h1 h2 hs hrow hrow2
      show Calls Try.prog 58 #[v, .string (s0 p)] W fun e W' => ∃ v', e = .returned v' ∧ Nms W' base v' (xs ++ [p]) ∧ W.grownBy W' v.ownBlock
      generalize s0 p = s at e0 e1 e2 e3 e4 e5 HS ⊢
      go_enter Try.func58, Try.ntmps58
      go_wp2_with (first | (at_builtin; refine wpList_append_own _ rfl _ _ 40 rfl base 9 i0 (.string ByteArray.empty) 1 16 Try.underlying40 hi hz0 hz1 hz2 rfl (by decide) v k us rfl (HR.out.alloc _) ⟨W.heap.size, 0, none⟩ 1 1 [.string s] rfl rfl (cell_one_new _ _ _) (by simp [Value.oneCell']) hml (by omega) (by simp; omega) ?_; intro v' w1 hown' hgrow _; have HO := hid_in hown'; have HG := hid_in hgrow; clear hown' hgrow))
      go_ret
      refine ⟨_, rfl, ?_, grown_tmp HG.out⟩
      unfold Nms
      rw [HS.out.1, HS.out.2, ← hk.out, ← hus.out]
      exact HO.out
end Go.Proofs.Ytjlhjpooggkkoaa.Vp
namespace Go.Proofs.Ytjlhjpooggkkoaa.Vp
open Go.RowKit Go.Shelf
attribute [local go_sem] Oper.semAt_some
/-- the names of a text's pieces -/
def namesS (ps : List Str) : List Str := ps.foldl stepS []
def long (p : Str) : Bool := decide (16 < p.length)
/-- the path that a text means, and the error -/
def parseS (s : Str) : List Str × Int :=
  if 256 < s.length then ([], 2) else if isTextS s = false then ([], 40) else
  if (piecesS (s.drop 1)).any long then ([], 41) else if 8 < (namesS (piecesS (s.drop 1))).length then ([], 42) else (namesS (piecesS (s.drop 1)), 0)
theorem names_snoc (pre : List Str) (p : Str) : namesS (pre ++ [p]) = stepS (namesS pre) p := by simp [namesS]
theorem step_len (xs : List Str) (p : Str) : (stepS xs p).length ≤ xs.length + 1 := by
  unfold stepS; split
  · omega
  · split <;> simp <;> omega
theorem names_len (ps : List Str) : (namesS ps).length ≤ ps.length := by
  have : ∀ (qs xs : List Str), (qs.foldl stepS xs).length ≤ xs.length + qs.length := by
    intro qs
    induction qs with
    | nil => intro xs; simp
    | cons q qs ih => intro xs; rw [List.foldl_cons]; have := ih (stepS xs q); have := step_len xs q; simp; omega
  have := this ps []
  simpa [namesS] using this
theorem pieces_len (x : Str) : (piecesS x).length ≤ x.length + 1 := by
  induction x with
  | nil => simp [piecesS]
  | cons c r ih =>
    unfold piecesS
    split
    · simp; omega
    · split
      · simp
      · rename_i h; rw [h] at ih; simp at ih ⊢; omega
set_option maxHeartbeats 1000000 in
set_option maxRecDepth 100000 in
theorem parse_long (s : Str) (hs : 256 < s.length) (hs2 : s.length ≤ 9223372036854775807) (w : World) : Calls Try.prog 50 #[.string (B s)] w fun e W' => ∃ v, e = .returned (.tuple #[v, .int .i64 2]) ∧ Nms W' w.heap.size v [] ∧ Below w.heap.size w W' := by
  have hsz : (B s).size = s.length := B_size s
  generalize B s = t at hsz ⊢
  generalize s.length = n at *
  refine (callsIn_wide (n := 4)).1 ?_
  refine callsIn_of_wp_marks Try.func50 rfl trivial ?_ rfl
  simp only [Try.ntmps50, List.size_toArray, List.length_cons, List.length_nil, Nat.reduceAdd, Nat.reduceSub, Array.replicate_succ, Array.replicate_zero, List.push_toArray, List.append_toArray, List.nil_append, List.cons_append]
  gi_wp2
  have b0 := (Boxed.new w 40 (.slice none 0 0)).alloc (.cells #[.int .i64 2] 25)
  have b1 := Boxed.new (w.alloc (.cells #[.slice none 0 0] 40)) 25 (.int .i64 2)
  rw [World.size_alloc] at b1
  have hB : Below w.heap.size w ((w.alloc (.cells #[.slice none 0 0] 40)).alloc (.cells #[.int .i64 2] 25)) := ((Below.refl _ w).alloc (Nat.le_refl _) _).alloc (by simp) _
  generalize (w.alloc (.cells #[.slice none 0 0] 40)).alloc (.cells #[.int .i64 2] 25) = W' at b0 b1 hB ⊢
  have c0 := b0.cell
  have c1 := b1.cell
  refine ⟨.tuple #[.slice none 0 0, .int .i64 2], ?_, ?_⟩
  · simp [results, Try.f50, go_sem, c0, c1]
  · exact ⟨_, rfl, World.ownsRow_nil _ _ _ _, hB⟩
set_option maxHeartbeats 1000000 in
set_option maxRecDepth 100000 in
theorem parse_path (s : Str) (hs : s.length ≤ 256) (ht : isTextS s = false) (w : World) : Calls Try.prog 50 #[.string (B s)] w fun e W' => ∃ v, e = .returned (.tuple #[v, .int .i64 40]) ∧ Nms W' w.heap.size v [] ∧ Below w.heap.size w W' := by
  have hsz : (B s).size = s.length := B_size s
  have hI := isText_any s (by omega)
  rw [ht] at hI
  have HI := hid_in hI
  clear hI ht
  generalize B s = t at hsz HI ⊢
  generalize s.length = n at *
  refine (callsIn_wide (n := 4)).1 ?_
  refine callsIn_of_wp_marks Try.func50 rfl trivial ?_ rfl
  simp only [Try.ntmps50, List.size_toArray, List.length_cons, List.length_nil, Nat.reduceAdd, Nat.reduceSub, Array.replicate_succ, Array.replicate_zero, List.push_toArray, List.append_toArray, List.nil_append, List.cons_append]
  gi_wp2_with (refine ⟨trivial, ?_⟩; gi_at_call 56; refine (callsIn_wide.2 (HI.out _)).mono ?_; rintro e w' ⟨rfl, hw⟩; subst hw)
  have b0 := (Boxed.new w 40 (.slice none 0 0)).alloc (.cells #[.int .i64 40] 25)
  have b1 := Boxed.new (w.alloc (.cells #[.slice none 0 0] 40)) 25 (.int .i64 40)
  rw [World.size_alloc] at b1
  have hB : Below w.heap.size w ((w.alloc (.cells #[.slice none 0 0] 40)).alloc (.cells #[.int .i64 40] 25)) := ((Below.refl _ w).alloc (Nat.le_refl _) _).alloc (by simp) _
  generalize (w.alloc (.cells #[.slice none 0 0] 40)).alloc (.cells #[.int .i64 40] 25) = W' at b0 b1 hB ⊢
  have c0 := b0.cell
  have c1 := b1.cell
  refine ⟨.tuple #[.slice none 0 0, .int .i64 40], ?_, ?_⟩
  · simp [results, Try.f50, go_sem, c0, c1]
  · exact ⟨_, rfl, World.ownsRow_nil _ _ _ _, hB⟩
theorem box_own {X Y : World} {row : Option Nat} {b : Nat} {t : TypeId} {v : Value} (h : Boxed X b t v) (hg : X.grownBy Y row) (hrow : ∀ r, row = some r → ∃ o : Obj, X.heap[r]? = some o ∧ o.isCells = false) : Boxed Y b t v :=
  h.kept hg fun e => by
    obtain ⟨o, ho, hc⟩ := hrow b e.symm
    rw [show X.heap[b]? = _ from h] at ho; cases ho; cases hc
theorem row_own {X Y : World} {row : Option Nat} {base : Nat} {v : Value} {xs : List Str} (h : Nms X base v xs) (hg : X.grownBy Y row) (hrow : ∀ r, row = some r → ∃ o : Obj, X.heap[r]? = some o ∧ o.isCells = false) : Nms Y base v xs := by
  refine World.ownsRow.kept h hg ?_
  rcases h.2 with ⟨rfl, _⟩ | ⟨g, cap, cur, rfl, _, hgb, _⟩
  · exact .inl rfl
  · refine .inr fun e => ?_
    obtain ⟨o, ho, hc⟩ := hrow g (by simpa [Value.ownBlock] using e.symm)
    rw [hgb] at ho; cases ho; cases hc
theorem Nms.shape {W : World} {base : Nat} {v : Value} {xs : List Str} (h : Nms W base v xs) : ∃ p c, v = .slice p xs.length c := by
  rcases h.2 with ⟨rfl, h0⟩ | ⟨g, cap, cur, rfl, _⟩
  · exact ⟨none, 0, by rw [h0]⟩
  · exact ⟨_, _, rfl⟩
theorem Nms.row_ge {W : World} {base : Nat} {v : Value} {xs : List Str} (h : Nms W base v xs) (k : Nat) (e : v.ownBlock = some k) : base ≤ k ∧ ∃ o, W.heap[k]? = some o ∧ o.isCells = true := by
  rcases h.2 with ⟨rfl, h0⟩ | ⟨g, cap, cur, rfl, hb, hg, _⟩
  · simp [Value.ownBlock] at e
  · obtain rfl : g = k := by simpa [Value.ownBlock] using e
    exact ⟨hb, _, hg, rfl⟩
/-- between two rounds -/
def PI (w : World) (pre : List Str) (W : World) : Prop :=
  (∃ v, Boxed W (w.heap.size + 1 + 1) 40 v ∧ Nms W w.heap.size v (namesS pre)) ∧ pre.any long = false ∧ Boxed W w.heap.size 40 (.slice none 0 0) ∧ Boxed W (w.heap.size + 1) 25 (.int .i64 0) ∧ Below w.heap.size w W
/-- a round has left -/
def PX (w : World) (pre : List Str) (W : World) : Prop :=
  pre.any long = true ∧ Boxed W w.heap.size 40 (.slice none 0 0) ∧ Boxed W (w.heap.size + 1) 25 (.int .i64 41) ∧ Below w.heap.size w W
theorem PI_own (w : World) (b : Nat) (hb : w.heap.size ≤ b) : OwnFrom b (PI w) := by
  rintro s X Y row ⟨⟨v, hv, hr⟩, hl, h0, h1, hB⟩ hg hrow
  have hrow' := fun r e => (hrow r e).2
  exact ⟨⟨v, box_own hv hg hrow', row_own hr hg hrow'⟩, hl, box_own h0 hg hrow', box_own h1 hg hrow', hB.grown hg (by have := h0.lt; omega) (fun k e => Nat.le_trans hb (hrow k e).1)⟩
theorem PX_own (w : World) (b : Nat) (hb : w.heap.size ≤ b) (c : Code) : OwnFrom b (fun pre W => c = .ret ∧ PX w pre W) := by
  rintro s X Y row ⟨hc, hl, h0, h1, hB⟩ hg hrow
  have hrow' := fun r e => (hrow r e).2
  exact ⟨hc, hl, box_own h0 hg hrow', box_own h1 hg hrow', hB.grown hg (by have := h0.lt; omega) (fun k e => Nat.le_trans hb (hrow k e).1)⟩
set_option maxHeartbeats 2000000 in
set_option maxRecDepth 100000 in
theorem parse_main (s : Str) (hs : s.length ≤ 256) (ht : isTextS s = true) (w : World) : Calls Try.prog 50 #[.string (B s)] w fun e W' => ∃ v, e = .returned (.tuple #[v, .int .i64 (parseS s).2]) ∧ Nms W' w.heap.size v (parseS s).1 ∧ Below w.heap.size w W' := by
  have hsz : (B s).size = s.length := B_size s
  have hne : 1 ≤ s.length := by cases s; cases ht; simp
  have hI := isText_any s (by omega)
  rw [ht] at hI
  have HI := hid_in hI
  have hex : (B s).extract 1 s.length = B (s.drop 1) := by rw [extract_B]; simp
  have HE := hid_in hex
  obtain ⟨r, hr⟩ : ∃ r, r = s.drop 1 := ⟨_, rfl⟩
  rw [← hr] at HE
  have hrl : r.length ≤ 255 := by rw [hr]; simp; omega
  have HP : Hid (parseS s = if (piecesS r).any long then ([], 41) else if 8 < (namesS (piecesS r)).length then ([], 42) else (namesS (piecesS r), 0)) := by
    show _ = _
    unfold parseS
    rw [if_neg (by omega), if_neg (by rw [ht]; simp), ← hr]
  clear hI ht hex hr
  generalize B s = t at hsz HI HE ⊢
  generalize parseS s = R at HP ⊢
  generalize s.length = n at *
  clear s
  have H1 := hid_in (pieces_len r)
  have H2 := hid_in hrl
  clear hrl
  refine (callsIn_wide (n := 4)).1 ?_
  refine callsIn_of_wp_marks Try.func50 rfl trivial ?_ rfl
  simp only [Try.ntmps50, List.size_toArray, List.length_cons, List.length_nil, Nat.reduceAdd, Nat.reduceSub, Array.replicate_succ, Array.replicate_zero, List.push_toArray, List.append_toArray, List.nil_append, List.cons_append]
  gi_wp2_with (first
    | (refine ⟨trivial, ?_⟩; gi_at_call 56; refine (callsIn_wide.2 (HI.out _)).mono ?_; rintro e w' ⟨rfl, hw⟩; subst hw)
    | (refine ⟨trivial, ?_⟩; gi_at_call 57; rw [HE.out]; refine (pieces_in r _).mono ?_; rintro e w' ⟨rfl, hw⟩; subst hw))
  have b0 := Boxed.new w 40 (.slice none 0 0)
  have b1 := Boxed.new (w.alloc (.cells #[.slice none 0 0] 40)) 25 (.int .i64 0)
  have b2 := Boxed.new ((w.alloc (.cells #[.slice none 0 0] 40)).alloc (.cells #[.int .i64 0] 25)) 40 (.slice none 0 0)
  have b3 := Boxed.new (((w.alloc (.cells #[.slice none 0 0] 40)).alloc (.cells #[.int .i64 0] 25)).alloc (.cells #[.slice none 0 0] 40)) 9 (.string (B r))
  simp only [World.size_alloc] at b1 b2 b3
  have hB0 : Below w.heap.size w ((((w.alloc (.cells #[.slice none 0 0] 40)).alloc (.cells #[.int .i64 0] 25)).alloc (.cells #[.slice none 0 0] 40)).alloc (.cells #[.string (B r)] 9)) := ((((Below.refl _ w).alloc (Nat.le_refl _) _).alloc (by simp) _).alloc (by simp; omega) _).alloc (by simp; omega) _
  have hI0 : PI w [] ((((w.alloc (.cells #[.slice none 0 0] 40)).alloc (.cells #[.int .i64 0] 25)).alloc (.cells #[.slice none 0 0] 40)).alloc (.cells #[.string (B r)] 9)) :=
    ⟨⟨_, b2.alloc _, World.ownsRow_nil _ _ _ _⟩, rfl, ((b0.alloc _).alloc _).alloc _, (b1.alloc _).alloc _, hB0⟩
  refine wpIn_rangeFunc_ownG rfl (by omega) (gf := 60) (lb := #[.pointer (some ⟨w.heap.size + 1 + 1 + 1, 0, none⟩)]) rfl trivial (enters_of Try.func60 (by kernel_rfl) rfl)
    (pieces_stops 3 (by omega) (w.heap.size + 1 + 1 + 1) r (by have := H2.out; omega) _ (by simp) b3.cell) (fun _ _ => trivial) (fun _ _ _ _ _ _ _ _ => trivial) (Below.refl _ _) (fun _ => rfl)
    (PI w) (fun c pre W => c = .ret ∧ PX w pre W) (PI_own w _ (by simp; omega)) (PX_own w _ (by simp; omega)) hI0
    (fun x => { tmps := #[Value.string t, undef, Value.pointer (some ⟨w.heap.size, 0, none⟩), Value.pointer (some ⟨w.heap.size + 1, 0, none⟩), Value.pointer (some ⟨w.heap.size + 1 + 1, 0, none⟩), Value.string (B x), Value.string t,
          Value.int IntKind.i64 n, Value.bool (decide (256 < (n : Int))), Value.string t, Value.bool true, Value.bool false, Value.string t, Value.string (B r),
          Value.func (Fn.func 60) #[] #[Value.pointer (some ⟨w.heap.size + 1 + 1 + 1, 0, none⟩)], Value.string (B x), undef, undef, undef, undef, undef, undef, undef, undef, undef, undef], defers := [] }) ?assign ?body ?done ?stop
  case assign =>
    intro l x W K hK
    gi_wp2
    exact hK
  case body =>
    clear hI0 hB0 b0 b1 b2 b3
    rintro l pre x W ⟨⟨v, hv, hrow⟩, hl, h0, h1, hB⟩ hlt
    have hxs : (B x).size = x.length := B_size x
    have HX : Hid (long x = decide (16 < x.length)) := rfl
    have HS := hid_in (step_any w.heap.size v (namesS pre) x W hrow (by have := names_len pre; have := H1.out; have := H2.out; omega) hB.size)
    have HRO := hid_in hrow
    have HL := hid_in hl
    have HB := hid_in hB
    have Hlt := hid_in hlt
    have c0 := h0.cell
    have f0 := h0.frozen
    have c1 := h1.cell
    have f1 := h1.frozen
    have hc := hv.cell
    have HV := hid_in hv
    have HB0 := hid_in h0
    have HB1 := hid_in h1
    clear hrow hl hB hlt hv h0 h1
    generalize B x = bx at hxs HS ⊢
    generalize hm : x.length = m at hxs HX
    clear hm
    gi_wp2_with (refine ⟨trivial, ?_⟩; gi_at_call 58; refine (CallsIn.inRound l (callsIn_wide.2 HS.out)).mono ?_; rintro e w' ⟨v', rfl, hown, hgrow⟩; obtain ⟨p', k', hv'⟩ := hown.shape; have HV1 := hid_in (HV.out.kept hgrow (HV.out.not_row (by decide) HRO.out)); have hc1 := HV1.out.cell; have hf1 := HV1.out.frozen; have HOW := hid_in hown; have HGR := hid_in hgrow; clear hown hgrow; subst hv')
    · have h16 : 16 < m := by have h : (16 : Int) < (m : Int) := by assumption
                              omega
      refine ⟨((KeepsOthers.setCell _ _ _).trans (KeepsOthers.setCell _ _ _)).from _, rfl, ?_, (HB0.out.set _).other (by omega) _, (HB1.out.other (by omega) _).set _, (HB.out.setCell (p := ⟨w.heap.size, 0, none⟩) (Nat.le_refl _) _).setCell (p := ⟨w.heap.size + 1, 0, none⟩) (by simp) _⟩
      rw [List.any_append, List.any_cons, HX.out, decide_eq_true h16]; simp
    · have h16 : ¬ 16 < m := by have h : (m : Int) ≤ 16 := by assumption
                                omega
      have hko : KeepsOthers W w' := KeepsOthers.of_grownBy HGR.out fun j o ej hj => by
        obtain ⟨_, o2, h2, h3⟩ := HRO.out.row_ge j ej
        rw [h2] at hj; cases hj; exact h3
      have hbel : Below w.heap.size w w' := HB.out.grown HGR.out HB.out.size fun k e => (HRO.out.row_ge k e).1
      refine ⟨(hko.trans (KeepsOthers.setCell _ _ _)).from _, trivial, ⟨_, HV1.out.set _, ?_⟩, ?_, ?_, ?_, hbel.setCell (p := ⟨w.heap.size + 1 + 1, 0, none⟩) (by simp; omega) _⟩
      · rw [names_snoc]
        exact World.ownsRow.kept HOW.out (grownBy_setCell' w' _ _) (.inr (HV1.out.not_row (by decide) HOW.out).symm)
      · rw [List.any_append, List.any_cons, HX.out, decide_eq_false h16, HL.out]; rfl
      · exact (HB0.out.kept HGR.out (HB0.out.not_row (by decide) HRO.out)).other (by omega) _
      · exact (HB1.out.kept HGR.out (HB1.out.not_row (by decide) HRO.out)).other (by omega) _
  case done =>
    clear hI0 hB0 b0 b1 b2 b3
    rintro D ys W hD rfl ⟨⟨v, hv, hrow⟩, hl, h0, h1, hB⟩ hK
    have HR := HP.out
    rw [if_neg (by rw [hl]; simp)] at HR
    have hlen : (namesS (piecesS r)).length ≤ 256 := by have := names_len (piecesS r); have := H1.out; have := H2.out; omega
    have HRO := hid_in hrow
    obtain ⟨p', k', hv'⟩ := hrow.shape
    have HHR := hid_in HR
    have HL := hid_in hl
    have HB := hid_in hB
    have c0 := h0.cell
    have f0 := h0.frozen
    have c1 := h1.cell
    have f1 := h1.frozen
    have hc := hv.cell
    have HV := hid_in hv
    have HB0 := hid_in h0
    have HB1 := hid_in h1
    have HD := hid_in hD
    have HK := hid_in hK
    clear hrow hl hB hv h0 h1 HR HP hD hK
    subst hv'
    obtain ⟨ns, hns⟩ : ∃ ns, Hid (ns = namesS (piecesS r)) := ⟨_, rfl⟩
    rw [← hns.out] at hc hlen HRO HV HHR
    generalize hk : ns.length = k at hc hlen HV HRO HHR
    have Hk := hid_in hk
    clear hk
    gi_wp2
    · have h8 : 8 < k := by have h : (8 : Int) < (k : Int) := by assumption
                            omega
      have HR2 : R = ([], 42) := by have := HHR.out; rw [if_pos h8] at this; exact this
      have hK2 := (((KeepsOthers.setCell W ⟨w.heap.size, 0, none⟩ (.slice none 0 0)).trans (KeepsOthers.setCell _ ⟨w.heap.size + 1, 0, none⟩ (.int .i64 42)))).same D _ HK.out rfl
      have B0 := ((HB0.out.set (.slice none 0 0)).other (B' := w.heap.size + 1) (by omega) (.int .i64 42))
      have B1 := ((HB1.out.other (B' := w.heap.size) (by omega) (.slice none 0 0)).set (.int .i64 42))
      have BB := (HB.out.setCell (p := ⟨w.heap.size, 0, none⟩) (Nat.le_refl _) (.slice none 0 0)).setCell (p := ⟨w.heap.size + 1, 0, none⟩) (by simp) (.int .i64 42)
      generalize (W.setCell ⟨w.heap.size, 0, none⟩ (.slice none 0 0)).setCell ⟨w.heap.size + 1, 0, none⟩ (.int .i64 42) = W2 at hK2 B0 B1 BB ⊢
      refine ⟨by simp, .inl ⟨_, _, rfl, run_takeDeferred hK2, ?_⟩⟩
      have g0 := cell_kept B0.cell (grownBy_putObj' _ D (.deferred none)) (fun r e => by cases e; exact ⟨_, hK2, rfl⟩)
      have g1 := cell_kept B1.cell (grownBy_putObj' _ D (.deferred none)) (fun r e => by cases e; exact ⟨_, hK2, rfl⟩)
      refine ⟨.tuple #[.slice none 0 0, .int .i64 42], ?_, _, by rw [HR2], by rw [HR2]; exact World.ownsRow_nil _ _ _ _, BB.trans (belowK_b (w := w) (Nat.le_refl _) W2 D _ _ (by have := HD.out; simp at this; omega) hK2 rfl rfl)⟩
      simp [results, Try.f50, go_sem, g0, g1]
    · have h8 : ¬ 8 < k := by have h : (k : Int) ≤ 8 := by assumption
                              omega
      have HR2 : R = (ns, 0) := by have := HHR.out; rw [if_neg h8] at this; exact this
      have hK2 := (((KeepsOthers.setCell W ⟨w.heap.size, 0, none⟩ (.slice p' k k')).trans (KeepsOthers.setCell _ ⟨w.heap.size + 1, 0, none⟩ (.int .i64 0)))).same D _ HK.out rfl
      have B0 := ((HB0.out.set (.slice p' k k')).other (B' := w.heap.size + 1) (by omega) (.int .i64 0))
      have B1 := ((HB1.out.other (B' := w.heap.size) (by omega) (.slice p' k k')).set (.int .i64 0))
      have BB := (HB.out.setCell (p := ⟨w.heap.size, 0, none⟩) (Nat.le_refl _) (.slice p' k k')).setCell (p := ⟨w.heap.size + 1, 0, none⟩) (by simp) (.int .i64 0)
      have R1 : Nms (W.setCell ⟨w.heap.size, 0, none⟩ (.slice p' k k')) w.heap.size (.slice p' k k') ns := World.ownsRow.kept HRO.out (grownBy_setCell' _ _ _) (.inr (HB0.out.not_row (by decide) HRO.out).symm)
      have R2 : Nms ((W.setCell ⟨w.heap.size, 0, none⟩ (.slice p' k k')).setCell ⟨w.heap.size + 1, 0, none⟩ (.int .i64 0)) w.heap.size (.slice p' k k') ns := World.ownsRow.kept R1 (grownBy_setCell' _ _ _) (.inr ((HB1.out.other (B' := w.heap.size) (by omega) (.slice p' k k')).not_row (by decide) R1).symm)
      generalize (W.setCell ⟨w.heap.size, 0, none⟩ (.slice p' k k')).setCell ⟨w.heap.size + 1, 0, none⟩ (.int .i64 0) = W2 at hK2 B0 B1 BB R2 ⊢
      refine ⟨by simp, .inl ⟨_, _, rfl, run_takeDeferred hK2, ?_⟩⟩
      have g0 := cell_kept B0.cell (grownBy_putObj' _ D (.deferred none)) (fun r e => by cases e; exact ⟨_, hK2, rfl⟩)
      have g1 := cell_kept B1.cell (grownBy_putObj' _ D (.deferred none)) (fun r e => by cases e; exact ⟨_, hK2, rfl⟩)
      refine ⟨.tuple #[.slice p' k k', .int .i64 0], ?_, _, by rw [HR2], by rw [HR2]; exact ownsRow_putObj R2 _ hK2 rfl, BB.trans (belowK_b (w := w) (Nat.le_refl _) W2 D _ _ (by have := HD.out; simp at this; omega) hK2 rfl rfl)⟩
      simp [results, Try.f50, go_sem, g0, g1]
  case stop =>
    clear hI0 hB0 b0 b1 b2 b3
    rintro D c pre W hD hpre ⟨rfl, hX, h0, h1, hB⟩ hK
    have HR : R = ([], 41) := by
      rw [HP.out, if_pos]
      rw [List.any_eq_true] at hX ⊢
      obtain ⟨x, hx, hx2⟩ := hX
      exact ⟨x, hpre.subset hx, hx2⟩
    have HHR := hid_in HR
    clear HR HP
    gi_wp2
    refine ⟨by simp, .inl ⟨_, _, rfl, run_takeDeferred hK, ?_⟩⟩
    have g0 := cell_kept h0.cell (grownBy_putObj' _ D (.deferred none)) (fun r e => by cases e; exact ⟨_, hK, rfl⟩)
    have g1 := cell_kept h1.cell (grownBy_putObj' _ D (.deferred none)) (fun r e => by cases e; exact ⟨_, hK, rfl⟩)
    refine ⟨.tuple #[.slice none 0 0, .int .i64 41], ?_, _, by rw [HHR.out], by rw [HHR.out]; exact World.ownsRow_nil _ _ _ _, hB.trans (belowK_b (w := w) (Nat.le_refl _) W D _ _ (by simp at hD; omega) hK rfl rfl)⟩
    simp [results, Try.f50, go_sem, g0, g1]
/-- **Parse**: what the document says. -/
theorem parse_any (s : Str) (hs : s.length ≤ 9223372036854775807) (w : World) : Calls Try.prog 50 #[.string (B s)] w fun e W' => ∃ v, e = .returned (.tuple #[v, .int .i64 (parseS s).2]) ∧ Nms W' w.heap.size v (parseS s).1 ∧ Below w.heap.size w W' := by
  by_cases h1 : 256 < s.length
  · have e : parseS s = ([], 2) := by unfold parseS; rw [if_pos h1]
    rw [e]; exact parse_long s h1 hs w
  · cases ht : isTextS s
    · have e : parseS s = ([], 40) := by unfold parseS; rw [if_neg h1, if_pos ht]
      rw [e]; exact parse_path s (by omega) ht w
    · exact parse_main s (by omega) ht w
end Go.Proofs.Ytjlhjpooggkkoaa.Vp
namespace Go.Proofs.Ytjlhjpooggkkoaa.Vp
open Go.RowKit Go.Shelf
/-- the slice of this address and capacity reads as these names -/
structure Rd (w : World) (p : Option Addr) (xs : List Str) (cap : Nat) : Prop where
  le : xs.length ≤ cap
  big : cap ≤ 9223372036854775807
  nil : p = none → xs = [] ∧ cap = 0
  cells : ∃ b o, (xs ≠ [] → p = some ⟨b, o, none⟩ ∧ b < w.heap.size) ∧ ∀ (j : Nat) x, xs[j]? = some x → w.cell? ⟨b, o + j, none⟩ = some (sv x)
theorem Rd.below {w w' : World} {p : Option Addr} {xs : List Str} {cap : Nat} (h : Rd w p xs cap) (hb : Below w.heap.size w w') : Rd w' p xs cap := by
  obtain ⟨b, o, h1, h2⟩ := h.cells
  refine ⟨h.le, h.big, h.nil, b, o, fun hne => ⟨(h1 hne).1, Nat.lt_of_lt_of_le (h1 hne).2 hb.size⟩, fun j x hx => ?_⟩
  have hne : xs ≠ [] := by rintro rfl; simp at hx
  rw [hb.cell (p := ⟨b, o + j, none⟩) (h1 hne).2]
  exact h2 j x hx
theorem Rd.take {w : World} {p : Option Addr} {xs : List Str} {cap : Nat} (h : Rd w p xs cap) (n : Nat) (hn : n ≤ xs.length) : Rd w p (xs.take n) cap := by
  obtain ⟨b, o, h1, h2⟩ := h.cells
  refine ⟨by rw [List.length_take]; have := h.le; omega, h.big, fun e => ⟨by rw [(h.nil e).1]; simp, (h.nil e).2⟩, b, o, fun hne => h1 (by rintro rfl; simp at hne), fun j x hx => h2 j x ?_⟩
  rw [List.getElem?_take] at hx
  split at hx
  · exact hx
  · cases hx
theorem Nms.rd {W : World} {base : Nat} {v : Value} {xs : List Str} (h : Nms W base v xs) : ∃ p cap, v = .slice p xs.length cap ∧ Rd W p xs cap := by
  rcases h.2 with ⟨rfl, h0⟩ | ⟨g, cap, cur, rfl, hb, hg, hn, hm, hs, ht⟩
  · have hx : xs = [] := List.eq_nil_of_length_eq_zero h0
    subst hx
    exact ⟨none, 0, rfl, by simp, by omega, fun _ => ⟨rfl, rfl⟩, 0, 0, fun h => absurd rfl h, fun j x hx => by simp at hx⟩
  · refine ⟨_, _, rfl, hn, by unfold maxLen at hm; omega, (fun e => by cases e), g, 0, fun _ => ⟨rfl, (Array.getElem?_eq_some_iff.1 hg).1⟩, fun j x hx => ?_⟩
    have hc : W.cell? ⟨g, 0 + j, none⟩ = cur[j]? := by rw [Nat.zero_add]; rw [cell_of_row W g j _ _ (0, 0) hg]
    have hj : j < xs.length := (List.getElem?_eq_some_iff.1 hx).1
    have ht2 : (cur.toList.take (xs.length * 1))[j]? = (xs.map sv)[j]? := by rw [ht]
    rw [Nat.mul_one, List.getElem?_take, if_pos hj, List.getElem?_map, hx, Array.getElem?_toList] at ht2
    rw [hc, ht2]; rfl
end Go.Proofs.Ytjlhjpooggkkoaa.Vp
namespace Go.Proofs.Ytjlhjpooggkkoaa.Vp
open Go.RowKit
/-- the value reads as these names -/
def Val (w : World) (v : Value) (xs : List Str) : Prop := ∃ p cap, v = .slice p xs.length cap ∧ Rd w p xs cap
theorem Rd.val {w : World} {p : Option Addr} {xs : List Str} {cap : Nat} (h : Rd w p xs cap) : Val w (.slice p xs.length cap) xs := ⟨p, cap, rfl, h⟩
theorem Nms.val {W : World} {base : Nat} {v : Value} {xs : List Str} (h : Nms W base v xs) : Val W v xs := h.rd
theorem Rd.none (w : World) : Rd w none [] 0 := ⟨by simp, by omega, fun _ => ⟨rfl, rfl⟩, 0, 0, fun h => absurd rfl h, fun j x hx => by simp at hx⟩
theorem Val.none (w : World) : Val w (.slice none 0 0) [] := ⟨_, _, rfl, Rd.none w⟩
theorem Val.below {w w' : World} {v : Value} {xs : List Str} (h : Val w v xs) (hb : Below w.heap.size w w') : Val w' v xs := by
  obtain ⟨p, cap, rfl, hr⟩ := h; exact ⟨p, cap, rfl, hr.below hb⟩
end Go.Proofs.Ytjlhjpooggkkoaa.Vp
namespace Go.Proofs.Ytjlhjpooggkkoaa.Vp
open Go.RowKit
theorem pieces_stroke (p y : Str) (h : ∀ c ∈ p, c ≠ 47) : piecesS (p ++ 47 :: y) = p :: piecesS y := by
  induction p with
  | nil => simp [piecesS]
  | cons c r ih =>
    have e : piecesS (c :: (r ++ 47 :: y)) = match piecesS (r ++ 47 :: y) with | [] => [[c]] | p :: ps => (c :: p) :: ps := by
      conv => lhs; unfold piecesS
      rw [if_neg (h c (by simp))]
      rfl
    rw [List.cons_append, e, ih (fun d hd => h d (by simp [hd]))]
theorem drop_stroke {l : Str} {f i : Nat} (hf : f ≤ i) (hi : l[i]? = some 47) : l.drop f = (l.take i).drop f ++ 47 :: l.drop (i + 1) := by
  obtain ⟨hlt, he⟩ := List.getElem?_eq_some_iff.1 hi
  have h1 : l = l.take i ++ 47 :: l.drop (i + 1) := by
    conv => lhs; rw [← List.take_append_drop i l, List.drop_eq_getElem_cons hlt, he]
  conv => lhs; rw [h1, List.drop_append_of_le_length (by simp; omega)]
/-- behind the pieces that were read -/
def RA (l : Str) (pre : List Str) (f i : Nat) : Prop := (∀ d ∈ (l.take i).drop f, d ≠ 47) ∧ piecesS (l.drop 1) = pre ++ piecesS (l.drop f) ∧ pre.any long = false
theorem RA.stroke {l : Str} {pre : List Str} {f i : Nat} (h : RA l pre f i) (hf : f ≤ i) (hi : l[i]? = some 47) : piecesS (l.drop 1) = (pre ++ [(l.take i).drop f]) ++ piecesS (l.drop (i + 1)) := by
  rw [h.2.1, drop_stroke hf hi, pieces_stroke _ _ h.1]; simp
theorem any_snoc {pre : List Str} {p : Str} (h : pre.any long = false) (hp : p.length ≤ 16) : (pre ++ [p]).any long = false := by
  rw [List.any_append, h]; simp [long]; omega
theorem RA.next {l : Str} {pre : List Str} {f i : Nat} (h : RA l pre f i) (hf : f ≤ i) (hi : l[i]? = some 47) (hp : ((l.take i).drop f).length ≤ 16) : RA l (pre ++ [(l.take i).drop f]) (i + 1) (i + 1) := by
  refine ⟨fun d hd => ?_, h.stroke hf hi, any_snoc h.2.2 hp⟩
  rw [List.drop_of_length_le (by simp; omega)] at hd
  cases hd
theorem RA.le {l : Str} {pre : List Str} {f i : Nat} (h : RA l pre f i) : pre.length ≤ l.length + 1 := by
  have h1 := pieces_len (l.drop 1)
  rw [h.2.1, List.length_append, List.length_drop] at h1
  omega
theorem Nms.grown {W W' : World} {base : Nat} {v : Value} {xs : List Str} {row : Option Nat} (h : Nms W base v xs) (hg : W.grownBy W' row) (hne : ∀ k, v.ownBlock = some k → row ≠ some k) : Nms W' base v xs := by
  refine World.ownsRow.kept h hg ?_
  rcases h.2 with ⟨rfl, _⟩ | ⟨g, cap, cur, rfl, _, hgb, _⟩
  · exact .inl rfl
  · exact .inr (fun e => hne g (by simp [Value.ownBlock]) (by simpa [Value.ownBlock] using e.symm))
end Go.Proofs.Ytjlhjpooggkkoaa.Vp
