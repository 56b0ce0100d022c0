/-
  One piece more: the walk of step. The walk of Parse.
-/
import Derived.Test.YtngehkmdanhgpaaGreatQ00
namespace Go.Proofs.YtngehkmdanhgpaaGreat.Vp
open Go.RowKit Go.Shelf
def sv (x : Str) : Value := .string (B x)
/-- the names behind one more piece -/
def stepS (xs : List Str) (p : Str) : List Str := if p = [] ∨ p = [46] then xs else if p = [46, 46] then xs.dropLast else xs ++ [p]
/-- a slice of the call's own that holds these names -/
abbrev Nms (W : World) (base : Nat) (v : Value) (xs : List Str) : Prop := W.ownsRow base 9 1 v xs.length (xs.map sv)
def s0 (p : Str) : ByteArray := B p
theorem info9 : (Tryz.prog.info? 9).map (fun i => (i.zero, i.size, i.bytes)) = some (some (.string ByteArray.empty), 1, 16) := by kernel_rfl
theorem grown_tmp {W w1 : World} {o : Obj} {row : Option Nat} (h : (W.alloc o).grownBy w1 row) : W.grownBy w1 row :=
  ⟨h.os, h.tape, h.output, Nat.le_trans (by simp) h.size, fun k hk hne => (h.block k (by simp; omega) hne).trans (Below.heap_alloc W o k hk)⟩
theorem Nms.back {W : World} {base : Nat} {g k cap : Nat} {xs : List Str} (h : Nms W base (.slice (some ⟨g, 0, none⟩) (k + 1) cap) xs) (hk : xs.length = k + 1) : Nms W base (.slice (some ⟨g, 0, none⟩) k cap) xs.dropLast := by
  have hl : xs.dropLast.length = k := by simp [hk]
  unfold Nms at *
  rw [hl]
  refine ⟨by simp [hk], ?_⟩
  rcases h.2 with ⟨h0, _⟩ | ⟨g', cap', cur, h0, hb, hg, hn, hm, hs, ht⟩
  · cases h0
  · simp only [Value.slice.injEq, Option.some.injEq, Addr.mk.injEq] at h0
    obtain ⟨⟨e1, _, _⟩, _, e2⟩ := h0
    subst e1 e2
    refine .inr ⟨g, cap, cur, rfl, hb, hg, by omega, hm, hs, ?_⟩
    have e : (xs.map sv).take k = xs.dropLast.map sv := by rw [List.dropLast_eq_take, hk, List.map_take]; rfl
    rw [← e, ← ht, hk, List.take_take]
    congr 1
    omega
set_option maxHeartbeats 1000000 in
set_option maxRecDepth 100000 in
theorem step_any (base : Nat) (v : Value) (xs : List Str) (p : Str) (W : World) (hrow : Nms W base v xs) (hlen : xs.length ≤ 100000) (hbase : base ≤ W.heap.size) :
    Calls Tryz.prog 86 #[v, .string (B p)] W fun e W' => ∃ v', e = .returned v' ∧ Nms W' base v' (stepS xs p) ∧ W.grownBy W' v.ownBlock := by
  have hT := toL p
  by_cases h1 : p = [] ∨ p = [46]
  · have hs : stepS xs p = xs := by unfold stepS; rw [if_pos h1]
    rw [hs]
    have HR := hid_in hrow
    clear hrow hs
    generalize B p = s at hT ⊢
    rcases h1 with rfl | rfl
    · go_enter Tryz.func86, Tryz.ntmps86
      go_wp2_with fail
      all_goals
        go_ret
        exact ⟨v, rfl, HR.out, ⟨rfl, rfl, rfl, Nat.le_refl _, fun _ _ _ => rfl⟩⟩
    · go_enter Tryz.func86, Tryz.ntmps86
      go_wp2_with fail
      all_goals
        go_ret
        exact ⟨v, rfl, HR.out, ⟨rfl, rfl, rfl, Nat.le_refl _, fun _ _ _ => rfl⟩⟩
  · by_cases h2 : p = [46, 46]
    · have hs : stepS xs p = xs.dropLast := by unfold stepS; rw [if_neg h1, if_pos h2]
      rw [hs]
      clear h1 hs
      subst h2
      generalize B [46, 46] = s at hT ⊢
      rcases hrow.2 with ⟨rfl, h0⟩ | ⟨g, cap, cur, rfl, hb, hg, hn, hm, hcs, ht⟩
      · have hx : xs = [] := List.eq_nil_of_length_eq_zero h0
        subst hx
        clear hrow h0
        go_enter Tryz.func86, Tryz.ntmps86
        go_wp2_with fail
        all_goals
          go_ret
          exact ⟨_, rfl, World.ownsRow_nil _ _ _ _, ⟨rfl, rfl, rfl, Nat.le_refl _, fun _ _ _ => rfl⟩⟩
      · cases hk : xs.length with
        | zero =>
          have hx : xs = [] := List.eq_nil_of_length_eq_zero hk
          subst hx
          have HR := hid_in hrow
          have hcap : cap ≤ 9223372036854775807 := by unfold maxLen at hm; omega
          clear hrow hg ht hcs hk
          go_enter Tryz.func86, Tryz.ntmps86
          go_wp2_with fail
          all_goals
            go_ret
            exact ⟨_, rfl, HR.out, ⟨rfl, rfl, rfl, Nat.le_refl _, fun _ _ _ => rfl⟩⟩
        | succ k =>
          rw [hk] at hn hlen
          have HR := hid_in (Nms.back (k := k) (show Nms W base (.slice (some ⟨g, 0, none⟩) (k + 1) cap) xs by rw [← hk]; exact hrow) hk)
          have hcap : cap ≤ 9223372036854775807 := by unfold maxLen at hm; omega
          have c1 : (k : Int) ≤ cap := by omega
          have hmax : max (k : Int) 0 = k := by omega
          clear hrow hg ht hcs hk
          go_enter Tryz.func86, Tryz.ntmps86
          go_wp2_with fail
          all_goals
            go_ret
            exact ⟨_, rfl, HR.out, ⟨rfl, rfl, rfl, Nat.le_refl _, fun _ _ _ => rfl⟩⟩
    · have hs : stepS xs p = xs ++ [p] := by unfold stepS; rw [if_neg h1, if_neg h2]
      rw [hs]
      obtain ⟨i0, hi, hz0, hz1, hz2⟩ := info_parts info9
      have e0 : (s0 p).toList.isEmpty = false := by rw [s0, toL]; cases p <;> simp_all
      have e1 : ((s0 p).toList == [46]) = false := by rw [s0, toL, beq_eq_false_iff_ne]; exact fun e => h1 (.inr e)
      have e2 : ((s0 p).toList == [46, 46]) = false := by rw [s0, toL, beq_eq_false_iff_ne]; exact h2
      have e3 : ((s0 p).toList = [46]) = False := by rw [s0, toL]; simp only [eq_iff_iff, iff_false]; exact fun e => h1 (.inr e)
      have e4 : ((s0 p).toList = [46, 46]) = False := by rw [s0, toL]; simp only [eq_iff_iff, iff_false]; exact h2
      have e5 : ((s0 p).toList = []) = False := by rw [s0, toL]; simp only [eq_iff_iff, iff_false]; exact fun e => h1 (.inl e)
      have HS : Hid ((xs ++ [p]).map sv = xs.map sv ++ [.string (s0 p)] ∧ (xs ++ [p]).length = xs.length + 1) := ⟨by simp [sv, s0], by simp⟩
      have hml : xs.length + 1 ≤ maxLen := by unfold maxLen; omega
      have hrow2 : W.ownsRow base 9 1 v xs.length (xs.map sv) := hrow
      obtain ⟨k, hk⟩ : ∃ k, Hid (k = xs.length) := ⟨_, rfl⟩
      rw [← hk.out] at hrow2 hlen hml
      obtain ⟨us, hus⟩ : ∃ us, Hid (us = xs.map sv) := ⟨_, rfl⟩
      rw [← hus.out] at hrow2
      have HR := hid_in hrow2
      clear hT h1 h2 hs hrow hrow2
      show Calls Tryz.prog 86 #[v, .string (s0 p)] W fun e W' => ∃ v', e = .returned v' ∧ Nms W' base v' (xs ++ [p]) ∧ W.grownBy W' v.ownBlock
      generalize s0 p = s at e0 e1 e2 e3 e4 e5 HS ⊢
      go_enter Tryz.func86, Tryz.ntmps86
      go_wp2_with (first | (at_builtin; refine wpList_append_own _ rfl _ _ 35 rfl base 9 i0 (.string ByteArray.empty) 1 16 Tryz.underlying35 hi hz0 hz1 hz2 rfl (by decide) v k us rfl (HR.out.alloc _) ⟨W.heap.size, 0, none⟩ 1 1 [.string s] rfl rfl (cell_one_new _ _ _) (by simp [Value.oneCell']) hml (by omega) (by simp; omega) ?_; intro v' w1 hown' hgrow _; have HO := hid_in hown'; have HG := hid_in hgrow; clear hown' hgrow))
      go_ret
      refine ⟨_, rfl, ?_, grown_tmp HG.out⟩
      unfold Nms
      rw [HS.out.1, HS.out.2, ← hk.out, ← hus.out]
      exact HO.out
end Go.Proofs.YtngehkmdanhgpaaGreat.Vp
namespace Go.Proofs.YtngehkmdanhgpaaGreat.Vp
open Go.RowKit Go.Shelf
attribute [local go_sem] Oper.semAt_some
/-- the names of a text's pieces -/
def namesS (ps : List Str) : List Str := ps.foldl stepS []
def long (p : Str) : Bool := decide (16 < p.length)
/-- the path that a text means, and the error -/
def parseS (s : Str) : List Str × Int :=
  if 256 < s.length then ([], 2) else if isTextS s = false then ([], 40) else
  if (piecesS (s.drop 1)).any long then ([], 41) else if 8 < (namesS (piecesS (s.drop 1))).length then ([], 42) else (namesS (piecesS (s.drop 1)), 0)
theorem names_snoc (pre : List Str) (p : Str) : namesS (pre ++ [p]) = stepS (namesS pre) p := by simp [namesS]
theorem step_len (xs : List Str) (p : Str) : (stepS xs p).length ≤ xs.length + 1 := by
  unfold stepS; split
  · omega
  · split <;> simp <;> omega
theorem names_len (ps : List Str) : (namesS ps).length ≤ ps.length := by
  have : ∀ (qs xs : List Str), (qs.foldl stepS xs).length ≤ xs.length + qs.length := by
    intro qs
    induction qs with
    | nil => intro xs; simp
    | cons q qs ih => intro xs; rw [List.foldl_cons]; have := ih (stepS xs q); have := step_len xs q; simp; omega
  have := this ps []
  simpa [namesS] using this
theorem pieces_len (x : Str) : (piecesS x).length ≤ x.length + 1 := by
  induction x with
  | nil => simp [piecesS]
  | cons c r ih =>
    unfold piecesS
    split
    · simp; omega
    · split
      · simp
      · rename_i h; rw [h] at ih; simp at ih ⊢; omega
set_option maxHeartbeats 1000000 in
set_option maxRecDepth 100000 in
theorem parse_long (s : Str) (hs : 256 < s.length) (hs2 : s.length ≤ 9223372036854775807) (w : World) : Calls Tryz.prog 47 #[.string (B s)] w fun e W' => ∃ v, e = .returned (.tuple #[v, .int .i64 2]) ∧ Nms W' w.heap.size v [] ∧ Below w.heap.size w W' := by
  have hsz : (B s).size = s.length := B_size s
  generalize B s = t at hsz ⊢
  generalize s.length = n at *
  refine (callsIn_wide (n := 4)).1 ?_
  refine callsIn_of_wp_marks Tryz.func47 rfl trivial ?_ rfl
  simp only [Tryz.ntmps47, List.size_toArray, List.length_cons, List.length_nil, Nat.reduceAdd, Nat.reduceSub, Array.replicate_succ, Array.replicate_zero, List.push_toArray, List.append_toArray, List.nil_append, List.cons_append]
  gi_wp2
  have b0 := (Boxed.new w 35 (.slice none 0 0)).alloc (.cells #[.int .i64 2] 27)
  have b1 := Boxed.new (w.alloc (.cells #[.slice none 0 0] 35)) 27 (.int .i64 2)
  rw [World.size_alloc] at b1
  have hB : Below w.heap.size w ((w.alloc (.cells #[.slice none 0 0] 35)).alloc (.cells #[.int .i64 2] 27)) := ((Below.refl _ w).alloc (Nat.le_refl _) _).alloc (by simp) _
  generalize (w.alloc (.cells #[.slice none 0 0] 35)).alloc (.cells #[.int .i64 2] 27) = W' at b0 b1 hB ⊢
  have c0 := b0.cell
  have c1 := b1.cell
  refine ⟨.tuple #[.slice none 0 0, .int .i64 2], ?_, ?_⟩
  · simp [results, Tryz.f47, go_sem, c0, c1]
  · exact ⟨_, rfl, World.ownsRow_nil _ _ _ _, hB⟩
set_option maxHeartbeats 1000000 in
set_option maxRecDepth 100000 in
theorem parse_path (s : Str) (hs : s.length ≤ 256) (ht : isTextS s = false) (w : World) : Calls Tryz.prog 47 #[.string (B s)] w fun e W' => ∃ v, e = .returned (.tuple #[v, .int .i64 40]) ∧ Nms W' w.heap.size v [] ∧ Below w.heap.size w W' := by
  have hsz : (B s).size = s.length := B_size s
  have hI := isText_any s (by omega)
  rw [ht] at hI
  have HI := hid_in hI
  clear hI ht
  generalize B s = t at hsz HI ⊢
  generalize s.length = n at *
  refine (callsIn_wide (n := 4)).1 ?_
  refine callsIn_of_wp_marks Tryz.func47 rfl trivial ?_ rfl
  simp only [Tryz.ntmps47, List.size_toArray, List.length_cons, List.length_nil, Nat.reduceAdd, Nat.reduceSub, Array.replicate_succ, Array.replicate_zero, List.push_toArray, List.append_toArray, List.nil_append, List.cons_append]
  gi_wp2_with (refine ⟨trivial, ?_⟩; gi_at_call 84; refine (callsIn_wide.2 (HI.out _)).mono ?_; rintro e w' ⟨rfl, hw⟩; subst hw)
  have b0 := (Boxed.new w 35 (.slice none 0 0)).alloc (.cells #[.int .i64 40] 27)
  have b1 := Boxed.new (w.alloc (.cells #[.slice none 0 0] 35)) 27 (.int .i64 40)
  rw [World.size_alloc] at b1
  have hB : Below w.heap.size w ((w.alloc (.cells #[.slice none 0 0] 35)).alloc (.cells #[.int .i64 40] 27)) := ((Below.refl _ w).alloc (Nat.le_refl _) _).alloc (by simp) _
  generalize (w.alloc (.cells #[.slice none 0 0] 35)).alloc (.cells #[.int .i64 40] 27) = W' at b0 b1 hB ⊢
  have c0 := b0.cell
  have c1 := b1.cell
  refine ⟨.tuple #[.slice none 0 0, .int .i64 40], ?_, ?_⟩
  · simp [results, Tryz.f47, go_sem, c0, c1]
  · exact ⟨_, rfl, World.ownsRow_nil _ _ _ _, hB⟩
theorem box_own {X Y : World} {row : Option Nat} {b : Nat} {t : TypeId} {v : Value} (h : Boxed X b t v) (hg : X.grownBy Y row) (hrow : ∀ r, row = some r → ∃ o : Obj, X.heap[r]? = some o ∧ o.isCells = false) : Boxed Y b t v :=
  h.kept hg fun e => by
    obtain ⟨o, ho, hc⟩ := hrow b e.symm
    rw [show X.heap[b]? = _ from h] at ho; cases ho; cases hc
theorem row_own {X Y : World} {row : Option Nat} {base : Nat} {v : Value} {xs : List Str} (h : Nms X base v xs) (hg : X.grownBy Y row) (hrow : ∀ r, row = some r → ∃ o : Obj, X.heap[r]? = some o ∧ o.isCells = false) : Nms Y base v xs := by
  refine World.ownsRow.kept h hg ?_
  rcases h.2 with ⟨rfl, _⟩ | ⟨g, cap, cur, rfl, _, hgb, _⟩
  · exact .inl rfl
  · refine .inr fun e => ?_
    obtain ⟨o, ho, hc⟩ := hrow g (by simpa [Value.ownBlock] using e.symm)
    rw [hgb] at ho; cases ho; cases hc
theorem Nms.shape {W : World} {base : Nat} {v : Value} {xs : List Str} (h : Nms W base v xs) : ∃ p c, v = .slice p xs.length c := by
  rcases h.2 with ⟨rfl, h0⟩ | ⟨g, cap, cur, rfl, _⟩
  · exact ⟨none, 0, by rw [h0]⟩
  · exact ⟨_, _, rfl⟩
theorem Nms.row_ge {W : World} {base : Nat} {v : Value} {xs : List Str} (h : Nms W base v xs) (k : Nat) (e : v.ownBlock = some k) : base ≤ k ∧ ∃ o, W.heap[k]? = some o ∧ o.isCells = true := by
  rcases h.2 with ⟨rfl, h0⟩ | ⟨g, cap, cur, rfl, hb, hg, _⟩
  · simp [Value.ownBlock] at e
  · obtain rfl : g = k := by simpa [Value.ownBlock] using e
    exact ⟨hb, _, hg, rfl⟩
/-- between two rounds -/
def PI (w : World) (pre : List Str) (W : World) : Prop :=
  (∃ v, Boxed W (w.heap.size + 1 + 1) 35 v ∧ Nms W w.heap.size v (namesS pre)) ∧ pre.any long = false ∧ Boxed W w.heap.size 35 (.slice none 0 0) ∧ Boxed W (w.heap.size + 1) 27 (.int .i64 0) ∧ Below w.heap.size w W
/-- a round has left -/
def PX (w : World) (pre : List Str) (W : World) : Prop :=
  pre.any long = true ∧ Boxed W w.heap.size 35 (.slice none 0 0) ∧ Boxed W (w.heap.size + 1) 27 (.int .i64 41) ∧ Below w.heap.size w W
theorem PI_own (w : World) (b : Nat) (hb : w.heap.size ≤ b) : OwnFrom b (PI w) := by
  rintro s X Y row ⟨⟨v, hv, hr⟩, hl, h0, h1, hB⟩ hg hrow
  have hrow' := fun r e => (hrow r e).2
  exact ⟨⟨v, box_own hv hg hrow', row_own hr hg hrow'⟩, hl, box_own h0 hg hrow', box_own h1 hg hrow', hB.grown hg (by have := h0.lt; omega) (fun k e => Nat.le_trans hb (hrow k e).1)⟩
theorem PX_own (w : World) (b : Nat) (hb : w.heap.size ≤ b) (c : Code) : OwnFrom b (fun pre W => c = .ret ∧ PX w pre W) := by
  rintro s X Y row ⟨hc, hl, h0, h1, hB⟩ hg hrow
  have hrow' := fun r e => (hrow r e).2
  exact ⟨hc, hl, box_own h0 hg hrow', box_own h1 hg hrow', hB.grown hg (by have := h0.lt; omega) (fun k e => Nat.le_trans hb (hrow k e).1)⟩
set_option maxHeartbeats 2000000 in
set_option maxRecDepth 100000 in
theorem parse_main (s : Str) (hs : s.length ≤ 256) (ht : isTextS s = true) (w : World) : Calls Tryz.prog 47 #[.string (B s)] w fun e W' => ∃ v, e = .returned (.tuple #[v, .int .i64 (parseS s).2]) ∧ Nms W' w.heap.size v (parseS s).1 ∧ Below w.heap.size w W' := by
  have hsz : (B s).size = s.length := B_size s
  have hne : 1 ≤ s.length := by cases s; cases ht; simp
  have hI := isText_any s (by omega)
  rw [ht] at hI
  have HI := hid_in hI
  have hex : (B s).extract 1 s.length = B (s.drop 1) := by rw [extract_B]; simp
  have HE := hid_in hex
  obtain ⟨r, hr⟩ : ∃ r, r = s.drop 1 := ⟨_, rfl⟩
  rw [← hr] at HE
  have hrl : r.length ≤ 255 := by rw [hr]; simp; omega
  have HP : Hid (parseS s = if (piecesS r).any long then ([], 41) else if 8 < (namesS (piecesS r)).length then ([], 42) else (namesS (piecesS r), 0)) := by
    show _ = _
    unfold parseS
    rw [if_neg (by omega), if_neg (by rw [ht]; simp), ← hr]
  clear hI ht hex hr
  generalize B s = t at hsz HI HE ⊢
  generalize parseS s = R at HP ⊢
  generalize s.length = n at *
  clear s
  have H1 := hid_in (pieces_len r)
  have H2 := hid_in hrl
  clear hrl
  refine (callsIn_wide (n := 4)).1 ?_
  refine callsIn_of_wp_marks Tryz.func47 rfl trivial ?_ rfl
  simp only [Tryz.ntmps47, List.size_toArray, List.length_cons, List.length_nil, Nat.reduceAdd, Nat.reduceSub, Array.replicate_succ, Array.replicate_zero, List.push_toArray, List.append_toArray, List.nil_append, List.cons_append]
  gi_wp2_with (first
    | (refine ⟨trivial, ?_⟩; gi_at_call 84; refine (callsIn_wide.2 (HI.out _)).mono ?_; rintro e w' ⟨rfl, hw⟩; subst hw)
    | (refine ⟨trivial, ?_⟩; gi_at_call 85; rw [HE.out]; refine (pieces_in r _).mono ?_; rintro e w' ⟨rfl, hw⟩; subst hw))
  have b0 := Boxed.new w 35 (.slice none 0 0)
  have b1 := Boxed.new (w.alloc (.cells #[.slice none 0 0] 35)) 27 (.int .i64 0)
  have b2 := Boxed.new ((w.alloc (.cells #[.slice none 0 0] 35)).alloc (.cells #[.int .i64 0] 27)) 35 (.slice none 0 0)
  have b3 := Boxed.new (((w.alloc (.cells #[.slice none 0 0] 35)).alloc (.cells #[.int .i64 0] 27)).alloc (.cells #[.slice none 0 0] 35)) 9 (.string (B r))
  simp only [World.size_alloc] at b1 b2 b3
  have hB0 : Below w.heap.size w ((((w.alloc (.cells #[.slice none 0 0] 35)).alloc (.cells #[.int .i64 0] 27)).alloc (.cells #[.slice none 0 0] 35)).alloc (.cells #[.string (B r)] 9)) := ((((Below.refl _ w).alloc (Nat.le_refl _) _).alloc (by simp) _).alloc (by simp; omega) _).alloc (by simp; omega) _
  have hI0 : PI w [] ((((w.alloc (.cells #[.slice none 0 0] 35)).alloc (.cells #[.int .i64 0] 27)).alloc (.cells #[.slice none 0 0] 35)).alloc (.cells #[.string (B r)] 9)) :=
    ⟨⟨_, b2.alloc _, World.ownsRow_nil _ _ _ _⟩, rfl, ((b0.alloc _).alloc _).alloc _, (b1.alloc _).alloc _, hB0⟩
  refine wpIn_rangeFunc_ownG rfl (by omega) (gf := 116) (lb := #[.pointer (some ⟨w.heap.size + 1 + 1 + 1, 0, none⟩)]) rfl trivial (enters_of Tryz.func116 (by kernel_rfl) rfl)
    (pieces_stops 3 (by omega) (w.heap.size + 1 + 1 + 1) r (by have := H2.out; omega) _ (by simp) b3.cell) (fun _ _ => trivial) (fun _ _ _ _ _ _ _ _ => trivial) (Below.refl _ _) (fun _ => rfl)
    (PI w) (fun c pre W => c = .ret ∧ PX w pre W) (PI_own w _ (by simp; omega)) (PX_own w _ (by simp; omega)) hI0
    (fun x => { tmps := #[Value.string t, undef, Value.pointer (some ⟨w.heap.size, 0, none⟩), Value.pointer (some ⟨w.heap.size + 1, 0, none⟩), Value.pointer (some ⟨w.heap.size + 1 + 1, 0, none⟩), Value.string (B x), Value.string t,
          Value.int IntKind.i64 n, Value.bool (decide (256 < (n : Int))), Value.string t, Value.bool true, Value.bool false, Value.string t, Value.string (B r),
          Value.func (Fn.func 116) #[] #[Value.pointer (some ⟨w.heap.size + 1 + 1 + 1, 0, none⟩)], Value.string (B x), undef, undef, undef, undef, undef, undef, undef, undef, undef, undef], defers := [] }) ?assign ?body ?done ?stop
  case assign =>
    intro l x W K hK
    gi_wp2
    exact hK
  case body =>
    clear hI0 hB0 b0 b1 b2 b3
    rintro l pre x W ⟨⟨v, hv, hrow⟩, hl, h0, h1, hB⟩ hlt
    have hxs : (B x).size = x.length := B_size x
    have HX : Hid (long x = decide (16 < x.length)) := rfl
    have HS := hid_in (step_any w.heap.size v (namesS pre) x W hrow (by have := names_len pre; have := H1.out; have := H2.out; omega) hB.size)
    have HRO := hid_in hrow
    have HL := hid_in hl
    have HB := hid_in hB
    have Hlt := hid_in hlt
    have c0 := h0.cell
    have f0 := h0.frozen
    have c1 := h1.cell
    have f1 := h1.frozen
    have hc := hv.cell
    have HV := hid_in hv
    have HB0 := hid_in h0
    have HB1 := hid_in h1
    clear hrow hl hB hlt hv h0 h1
    generalize B x = bx at hxs HS ⊢
    generalize hm : x.length = m at hxs HX
    clear hm
    gi_wp2_with (refine ⟨trivial, ?_⟩; gi_at_call 86; refine (CallsIn.inRound l (callsIn_wide.2 HS.out)).mono ?_; rintro e w' ⟨v', rfl, hown, hgrow⟩; obtain ⟨p', k', hv'⟩ := hown.shape; have HV1 := hid_in (HV.out.kept hgrow (HV.out.not_row (by decide) HRO.out)); have hc1 := HV1.out.cell; have hf1 := HV1.out.frozen; have HOW := hid_in hown; have HGR := hid_in hgrow; clear hown hgrow; subst hv')
    · have h16 : 16 < m := by have h : (16 : Int) < (m : Int) := by assumption
                              omega
      refine ⟨((KeepsOthers.setCell _ _ _).trans (KeepsOthers.setCell _ _ _)).from _, rfl, ?_, (HB0.out.set _).other (by omega) _, (HB1.out.other (by omega) _).set _, (HB.out.setCell (p := ⟨w.heap.size, 0, none⟩) (Nat.le_refl _) _).setCell (p := ⟨w.heap.size + 1, 0, none⟩) (by simp) _⟩
      rw [List.any_append, List.any_cons, HX.out, decide_eq_true h16]; simp
    · have h16 : ¬ 16 < m := by have h : (m : Int) ≤ 16 := by assumption
                                omega
      have hko : KeepsOthers W w' := KeepsOthers.of_grownBy HGR.out fun j o ej hj => by
        obtain ⟨_, o2, h2, h3⟩ := HRO.out.row_ge j ej
        rw [h2] at hj; cases hj; exact h3
      have hbel : Below w.heap.size w w' := HB.out.grown HGR.out HB.out.size fun k e => (HRO.out.row_ge k e).1
      refine ⟨(hko.trans (KeepsOthers.setCell _ _ _)).from _, trivial, ⟨_, HV1.out.set _, ?_⟩, ?_, ?_, ?_, hbel.setCell (p := ⟨w.heap.size + 1 + 1, 0, none⟩) (by simp; omega) _⟩
      · rw [names_snoc]
        exact World.ownsRow.kept HOW.out (grownBy_setCell' w' _ _) (.inr (HV1.out.not_row (by decide) HOW.out).symm)
      · rw [List.any_append, List.any_cons, HX.out, decide_eq_false h16, HL.out]; rfl
      · exact (HB0.out.kept HGR.out (HB0.out.not_row (by decide) HRO.out)).other (by omega) _
      · exact (HB1.out.kept HGR.out (HB1.out.not_row (by decide) HRO.out)).other (by omega) _
  case done =>
    clear hI0 hB0 b0 b1 b2 b3
    rintro D ys W hD rfl ⟨⟨v, hv, hrow⟩, hl, h0, h1, hB⟩ hK
    have HR := HP.out
    rw [if_neg (by rw [hl]; simp)] at HR
    have hlen : (namesS (piecesS r)).length ≤ 256 := by have := names_len (piecesS r); have := H1.out; have := H2.out; omega
    have HRO := hid_in hrow
    obtain ⟨p', k', hv'⟩ := hrow.shape
    have HHR := hid_in HR
    have HL := hid_in hl
    have HB := hid_in hB
    have c0 := h0.cell
    have f0 := h0.frozen
    have c1 := h1.cell
    have f1 := h1.frozen
    have hc := hv.cell
    have HV := hid_in hv
    have HB0 := hid_in h0
    have HB1 := hid_in h1
    have HD := hid_in hD
    have HK := hid_in hK
    clear hrow hl hB hv h0 h1 HR HP hD hK
    subst hv'
    obtain ⟨ns, hns⟩ : ∃ ns, Hid (ns = namesS (piecesS r)) := ⟨_, rfl⟩
    rw [← hns.out] at hc hlen HRO HV HHR
    generalize hk : ns.length = k at hc hlen HV HRO HHR
    have Hk := hid_in hk
    clear hk
    gi_wp2
    · have h8 : 8 < k := by have h : (8 : Int) < (k : Int) := by assumption
                            omega
      have HR2 : R = ([], 42) := by have := HHR.out; rw [if_pos h8] at this; exact this
      have hK2 := (((KeepsOthers.setCell W ⟨w.heap.size, 0, none⟩ (.slice none 0 0)).trans (KeepsOthers.setCell _ ⟨w.heap.size + 1, 0, none⟩ (.int .i64 42)))).same D _ HK.out rfl
      have B0 := ((HB0.out.set (.slice none 0 0)).other (B' := w.heap.size + 1) (by omega) (.int .i64 42))
      have B1 := ((HB1.out.other (B' := w.heap.size) (by omega) (.slice none 0 0)).set (.int .i64 42))
      have BB := (HB.out.setCell (p := ⟨w.heap.size, 0, none⟩) (Nat.le_refl _) (.slice none 0 0)).setCell (p := ⟨w.heap.size + 1, 0, none⟩) (by simp) (.int .i64 42)
      generalize (W.setCell ⟨w.heap.size, 0, none⟩ (.slice none 0 0)).setCell ⟨w.heap.size + 1, 0, none⟩ (.int .i64 42) = W2 at hK2 B0 B1 BB ⊢
      refine ⟨by simp, .inl ⟨_, _, rfl, run_takeDeferred hK2, ?_⟩⟩
      have g0 := cell_kept B0.cell (grownBy_putObj' _ D (.deferred none)) (fun r e => by cases e; exact ⟨_, hK2, rfl⟩)
      have g1 := cell_kept B1.cell (grownBy_putObj' _ D (.deferred none)) (fun r e => by cases e; exact ⟨_, hK2, rfl⟩)
      refine ⟨.tuple #[.slice none 0 0, .int .i64 42], ?_, _, by rw [HR2], by rw [HR2]; exact World.ownsRow_nil _ _ _ _, BB.trans (belowK_b (w := w) (Nat.le_refl _) W2 D _ _ (by have := HD.out; simp at this; omega) hK2 rfl rfl)⟩
      simp [results, Tryz.f47, go_sem, g0, g1]
    · have h8 : ¬ 8 < k := by have h : (k : Int) ≤ 8 := by assumption
                              omega
      have HR2 : R = (ns, 0) := by have := HHR.out; rw [if_neg h8] at this; exact this
      have hK2 := (((KeepsOthers.setCell W ⟨w.heap.size, 0, none⟩ (.slice p' k k')).trans (KeepsOthers.setCell _ ⟨w.heap.size + 1, 0, none⟩ (.int .i64 0)))).same D _ HK.out rfl
      have B0 := ((HB0.out.set (.slice p' k k')).other (B' := w.heap.size + 1) (by omega) (.int .i64 0))
      have B1 := ((HB1.out.other (B' := w.heap.size) (by omega) (.slice p' k k')).set (.int .i64 0))
      have BB := (HB.out.setCell (p := ⟨w.heap.size, 0, none⟩) (Nat.le_refl _) (.slice p' k k')).setCell (p := ⟨w.heap.size + 1, 0, none⟩) (by simp) (.int .i64 0)
      have R1 : Nms (W.setCell ⟨w.heap.size, 0, none⟩ (.slice p' k k')) w.heap.size (.slice p' k k') ns := World.ownsRow.kept HRO.out (grownBy_setCell' _ _ _) (.inr (HB0.out.not_row (by decide) HRO.out).symm)
      have R2 : Nms ((W.setCell ⟨w.heap.size, 0, none⟩ (.slice p' k k')).setCell ⟨w.heap.size + 1, 0, none⟩ (.int .i64 0)) w.heap.size (.slice p' k k') ns := World.ownsRow.kept R1 (grownBy_setCell' _ _ _) (.inr ((HB1.out.other (B' := w.heap.size) (by omega) (.slice p' k k')).not_row (by decide) R1).symm)
      generalize (W.setCell ⟨w.heap.size, 0, none⟩ (.slice p' k k')).setCell ⟨w.heap.size + 1, 0, none⟩ (.int .i64 0) = W2 at hK2 B0 B1 BB R2 ⊢
      refine ⟨by simp, .inl ⟨_, _, rfl, run_takeDeferred hK2, ?_⟩⟩
      have g0 := cell_kept B0.cell (grownBy_putObj' _ D (.deferred none)) (fun r e => by cases e; exact ⟨_, hK2, rfl⟩)
      have g1 := cell_kept B1.cell (grownBy_putObj' _ D (.deferred none)) (fun r e => by cases e; exact ⟨_, hK2, rfl⟩)
      refine ⟨.tuple #[.slice p' k k', .int .i64 0], ?_, _, by rw [HR2], by rw [HR2]; exact ownsRow_putObj R2 _ hK2 rfl, BB.trans (belowK_b (w := w) (Nat.le_refl _) W2 D _ _ (by have := HD.out; simp at this; omega) hK2 rfl rfl)⟩
      simp [results, Tryz.f47, go_sem, g0, g1]
  case stop =>
    clear hI0 hB0 b0 b1 b2 b3
    rintro D c pre W hD hpre ⟨rfl, hX, h0, h1, hB⟩ hK
    have HR : R = ([], 41) := by
      rw [HP.out, if_pos]
      rw [List.any_eq_true] at hX ⊢
      obtain ⟨x, hx, hx2⟩ := hX
      exact ⟨x, hpre.subset hx, hx2⟩
    have HHR := hid_in HR
    clear HR HP
    gi_wp2
    refine ⟨by simp, .inl ⟨_, _, rfl, run_takeDeferred hK, ?_⟩⟩
    have g0 := cell_kept h0.cell (grownBy_putObj' _ D (.deferred none)) (fun r e => by cases e; exact ⟨_, hK, rfl⟩)
    have g1 := cell_kept h1.cell (grownBy_putObj' _ D (.deferred none)) (fun r e => by cases e; exact ⟨_, hK, rfl⟩)
    refine ⟨.tuple #[.slice none 0 0, .int .i64 41], ?_, _, by rw [HHR.out], by rw [HHR.out]; exact World.ownsRow_nil _ _ _ _, hB.trans (belowK_b (w := w) (Nat.le_refl _) W D _ _ (by simp at hD; omega) hK rfl rfl)⟩
    simp [results, Tryz.f47, go_sem, g0, g1]
/-- **Parse**: what the document says. -/
theorem parse_any (s : Str) (hs : s.length ≤ 9223372036854775807) (w : World) : Calls Tryz.prog 47 #[.string (B s)] w fun e W' => ∃ v, e = .returned (.tuple #[v, .int .i64 (parseS s).2]) ∧ Nms W' w.heap.size v (parseS s).1 ∧ Below w.heap.size w W' := by
  by_cases h1 : 256 < s.length
  · have e : parseS s = ([], 2) := by unfold parseS; rw [if_pos h1]
    rw [e]; exact parse_long s h1 hs w
  · cases ht : isTextS s
    · have e : parseS s = ([], 40) := by unfold parseS; rw [if_neg h1, if_pos ht]
      rw [e]; exact parse_path s (by omega) ht w
    · exact parse_main s (by omega) ht w
end Go.Proofs.YtngehkmdanhgpaaGreat.Vp
