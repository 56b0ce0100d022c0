/-
  The walk of the reference's Parse.
-/
import Derived.Test.YtngehkmdanhgpaaGreatQ00
import Derived.Test.YtngehkmdanhgpaaGreatQ01
import Derived.Test.YtngehkmdanhgpaaGreatQ02
import Derived.Test.YtngehkmdanhgpaaGreatQ03
import Derived.Test.YtngehkmdanhgpaaGreatQ04
namespace Go.Proofs.YtngehkmdanhgpaaGreat.Vp
open Go.RowKit
theorem pieces_plain (p : Str) (h : ∀ c ∈ p, c ≠ 47) : piecesS p = [p] := by
  induction p with
  | nil => rfl
  | cons c r ih =>
    unfold piecesS
    rw [if_neg (h c (by simp)), ih (fun d hd => h d (by simp [hd]))]
theorem pieces_stroke (p y : Str) (h : ∀ c ∈ p, c ≠ 47) : piecesS (p ++ 47 :: y) = p :: piecesS y := by
  induction p with
  | nil => simp [piecesS]
  | cons c r ih =>
    have e : piecesS (c :: (r ++ 47 :: y)) = match piecesS (r ++ 47 :: y) with | [] => [[c]] | p :: ps => (c :: p) :: ps := by
      conv => lhs; unfold piecesS
      rw [if_neg (h c (by simp))]
      rfl
    rw [List.cons_append, e, ih (fun d hd => h d (by simp [hd]))]
theorem u8ne {d : UInt8} (h : d ≠ 47) : ((d.toNat : Int) != 47) = true := by
  rw [bne_iff_ne]
  intro e
  have h2 : d.toNat = 47 := by omega
  exact h (UInt8.toNat.inj h2)
theorem drop_stroke {l : Str} {f i : Nat} (hf : f ≤ i) (hi : l[i]? = some 47) : l.drop f = (l.take i).drop f ++ 47 :: l.drop (i + 1) := by
  obtain ⟨hlt, he⟩ := List.getElem?_eq_some_iff.1 hi
  have h1 : l = l.take i ++ 47 :: l.drop (i + 1) := by
    conv => lhs; rw [← List.take_append_drop i l, List.drop_eq_getElem_cons hlt, he]
  conv => lhs; rw [h1, List.drop_append_of_le_length (by simp; omega)]
theorem no_snoc {l : Str} {f i : Nat} {c : UInt8} (hf : f ≤ i) (hi : l[i]? = some c) (h : ∀ d ∈ (l.take i).drop f, d ≠ 47) (hc : c ≠ 47) : ∀ d ∈ (l.take (i + 1)).drop f, d ≠ 47 := by
  obtain ⟨hlt, _⟩ := List.getElem?_eq_some_iff.1 hi
  intro d hd
  rw [List.take_add_one, hi, List.drop_append_of_le_length (by simp; omega)] at hd
  simp only [Option.toList_some, List.mem_append, List.mem_singleton] at hd
  rcases hd with hd | rfl
  · exact h d hd
  · exact hc
/-- behind the pieces that were read -/
def RA (l : Str) (pre : List Str) (f i : Nat) : Prop := (∀ d ∈ (l.take i).drop f, d ≠ 47) ∧ piecesS (l.drop 1) = pre ++ piecesS (l.drop f) ∧ pre.any long = false
theorem RA.start (l : Str) : RA l [] 1 1 := ⟨(fun d hd => by rw [List.drop_of_length_le (by simp; omega)] at hd; cases hd), rfl, rfl⟩
theorem RA.stroke {l : Str} {pre : List Str} {f i : Nat} (h : RA l pre f i) (hf : f ≤ i) (hi : l[i]? = some 47) : piecesS (l.drop 1) = (pre ++ [(l.take i).drop f]) ++ piecesS (l.drop (i + 1)) := by
  rw [h.2.1, drop_stroke hf hi, pieces_stroke _ _ h.1]; simp
theorem RA.last {l : Str} {pre : List Str} {f i : Nat} (h : RA l pre f i) (hi : l.length ≤ i) : piecesS (l.drop 1) = pre ++ [(l.take i).drop f] := by
  have h1 := h.1
  rw [List.take_of_length_le hi] at h1 ⊢
  rw [h.2.1, pieces_plain _ h1]
theorem any_snoc {pre : List Str} {p : Str} (h : pre.any long = false) (hp : p.length ≤ 16) : (pre ++ [p]).any long = false := by
  rw [List.any_append, h]; simp [long]; omega
theorem RA.next {l : Str} {pre : List Str} {f i : Nat} (h : RA l pre f i) (hf : f ≤ i) (hi : l[i]? = some 47) (hp : ((l.take i).drop f).length ≤ 16) : RA l (pre ++ [(l.take i).drop f]) (i + 1) (i + 1) := by
  refine ⟨fun d hd => ?_, h.stroke hf hi, any_snoc h.2.2 hp⟩
  rw [List.drop_of_length_le (by simp; omega)] at hd
  cases hd
theorem RA.le {l : Str} {pre : List Str} {f i : Nat} (h : RA l pre f i) : pre.length ≤ l.length + 1 := by
  have h1 := pieces_len (l.drop 1)
  rw [h.2.1, List.length_append, List.length_drop] at h1
  omega
theorem long_any {q pre tail : List Str} {p : Str} (h : q = pre ++ p :: tail) (hp : 16 < p.length) : q.any long = true := by
  rw [h, List.any_append, List.any_cons]; simp [long, hp]
theorem row_empty (W : World) (base : Nat) (hb : base ≤ W.heap.size) : (W.alloc (.cells #[] 9)).ownsRow base 9 1 (.slice (some ⟨W.heap.size, 0, none⟩) 0 0) 0 [] :=
  ⟨rfl, .inr ⟨W.heap.size, 0, #[], rfl, hb, World.alloc_heap_new W _, by omega, by unfold maxLen; omega, rfl, rfl⟩⟩
theorem rd_news {W : World} {g cap : Nat} {xs : List Str} (h : Rd W (some ⟨g, 0, none⟩) xs cap) (o : Obj) : ∀ (j : Nat) u, (xs.map sv)[j]? = some u → (W.alloc o).cell? ((⟨g, 0, none⟩ : Addr).add j) = some u := by
  intro j u hu
  obtain ⟨b, o', h1, h2⟩ := h.cells
  rw [List.getElem?_map] at hu
  cases hx : xs[j]? with
  | none => rw [hx] at hu; cases hu
  | some x =>
    rw [hx] at hu; cases hu
    obtain ⟨he, hlt⟩ := h1 (by rintro rfl; simp at hx)
    cases he
    have h3 := h2 j x hx
    rw [show (⟨g, 0, none⟩ : Addr).add j = ⟨g, 0 + j, none⟩ by by_cases h0 : j = 0 <;> simp [Addr.add, h0]]
    rw [Below.cell (Below.alloc (Below.refl W.heap.size W) (Nat.le_refl _) o) (p := ⟨g, 0 + j, none⟩) hlt]
    exact h3
theorem news_one {xs : List Str} : ∀ u ∈ xs.map sv, u.oneCell' = true := by
  intro u hu
  simp only [List.mem_map] at hu
  obtain ⟨x, _, rfl⟩ := hu
  rfl
theorem Nms.grown {W W' : World} {base : Nat} {v : Value} {xs : List Str} {row : Option Nat} (h : Nms W base v xs) (hg : W.grownBy W' row) (hne : ∀ k, v.ownBlock = some k → row ≠ some k) : Nms W' base v xs := by
  refine World.ownsRow.kept h hg ?_
  rcases h.2 with ⟨rfl, _⟩ | ⟨g, cap, cur, rfl, _, hgb, _⟩
  · exact .inl rfl
  · exact .inr (fun e => hne g (by simp [Value.ownBlock]) (by simpa [Value.ownBlock] using e.symm))
set_option maxHeartbeats 4000000 in
set_option maxRecDepth 100000 in
theorem rparse_main (l : Str) (c : UInt8) (r : Str) (hcr : Hid (l = c :: r)) (h47 : Hid (c = 47)) (hs : l.length ≤ 256) (hok : Hid (l.all okByte = true)) (w : World) : Calls Tryz.prog 46 #[.string (B l)] w fun e W' => ∃ v, e = .returned (.tuple #[v, .int .i64 (parseS l).2]) ∧ Nms W' w.heap.size v (parseS l).1 ∧ Below w.heap.size w W' := by
  have hsz : (B l).size = l.length := B_size l
  have hne : 1 ≤ l.length := by rw [hcr.out]; simp
  have HP : Hid (parseS l = if (piecesS (l.drop 1)).any long then ([], 41) else if 8 < (namesS (piecesS (l.drop 1))).length then ([], 42) else (namesS (piecesS (l.drop 1)), 0)) := by
    show _ = _
    have ht : isTextS l = true := by
      have := hok.out
      rw [hcr.out] at this ⊢
      have e : isTextS (c :: r) = ((c == 47) && (c :: r).all okByte) := rfl
      rw [e, this, h47.out]; rfl
    unfold parseS
    rw [if_neg (by omega), if_neg (by rw [ht]; simp)]
  have i0 := index_str (B l) 0 47 (by rw [bl_B, hcr.out, h47.out]; rfl) 0 rfl
  have HIX := hid_in (fun (j : Nat) (d : UInt8) (hj : l[j]? = some d) => index_str (B l) j d (by rw [bl_B]; exact hj))
  have HEX := hid_in (fun (a b : Nat) => extract_B l a b)
  have i0' : ∀ w, (Instr.index 9 (.string (B l)) (.int .i64 0)).run Tryz.prog w = .ok (.int .u8 47) w := i0
  clear i0
  generalize B l = t at hsz HIX HEX i0' ⊢
  generalize parseS l = R at HP ⊢
  generalize hn : l.length = n at *
  have Hn := hid_in hn
  clear hn
  have hn0 : ((n : Int) == 0) = false := by rw [beq_eq_false_iff_ne]; omega
  obtain ⟨i9, hi9, hz0, hz1, hz2⟩ := info_parts info9
  go_enter Tryz.func46, Tryz.ntmps46
  go_wp2_with fail
  go_loopw [4] (fun vi w' => w' = w ∧ ∃ i : Nat, i ≤ n ∧ vi = .int .i64 (i : Int)) (fun vi _ => n - (intOf vi).toNat)
  case atStart => exact ⟨rfl, 0, by omega, rfl⟩
  case round =>
    obtain ⟨hw, i, hi, rfl⟩ := hrel
    obtain rfl := hw.symm
    by_cases hlt : i < n
    · obtain ⟨d, hd⟩ : ∃ d, l[i]? = some d := ⟨_, List.getElem?_eq_getElem (by rw [Hn.out]; exact hlt)⟩
      have ix := HIX.out i d hd (i : Int) rfl
      have hokd : okByte d = true := by
        have := hok.out
        rw [List.all_eq_true] at this
        exact this d (List.mem_of_getElem? hd)
      have HOK := hid_in hokd
      clear hd hokd
      by_cases h47d : d = 47
      · subst h47d
        have ix2 : ∀ w, (Instr.index 9 (.string t) (.int .i64 (i : Int))).run Tryz.prog w = .ok (.int .u8 47) w := ix
        clear ix
        go_wp2_with fail
        go_roundw
        case rel =>
          go_light
          exact ⟨trivial, i + 1, by omega, by go_num⟩
        case measure => simp [intOf]; omega
      · have hdn : ((d.toNat : Int) != 47) = true := u8ne h47d
        have hpl : decide (plainN d.toNat) = true := by
          have := HOK.out
          unfold okByte plain at this
          simpa [h47d] using this
        have HPL := hid_in hpl
        clear hpl h47d
        go_wp2_with (go_at_call 83; refine (plain_any _ _).mono ?_; rw [HPL.out]; rintro e w' ⟨rfl, hw⟩; obtain rfl := hw.symm)
        go_roundw
        case rel =>
          go_light
          exact ⟨trivial, i + 1, by omega, by go_num⟩
        case measure => simp [intOf]; omega
    · have hin : i = n := by omega
      subst hin
      clear hi hlt
      go_wp2_with fail
      go_loopw [5, 6, 7] (fun v5 v6 v7 W => ∃ (j f : Nat) (pre : List Str), v7 = .int .i64 (j : Int) ∧ v6 = .int .i64 (f : Int) ∧ Hid (Nms W w.heap.size v5 (namesS pre)) ∧ Hid (Below w.heap.size w W) ∧ f ≤ j ∧ 1 ≤ f ∧ ((j ≤ i ∧ Hid (RA l pre f j)) ∨ (j = i + 1 ∧ Hid (piecesS (l.drop 1) = pre ∧ pre.any long = false)))) (fun _ _ v7 _ => i + 1 - (intOf v7).toNat)
      case atStart => exact ⟨1, 1, [], rfl, rfl, World.ownsRow_nil _ _ _ _, Below.refl _ _, by omega, by omega, .inl ⟨by omega, RA.start l⟩⟩
      case round =>
        obtain ⟨j, f, pre, rfl, rfl, hrow, hbel, hfj, hf1, hst⟩ := hrel
        obtain ⟨p5, k5, hv5⟩ := hrow.out.shape
        subst hv5
        rcases hst with ⟨hji, hra⟩ | ⟨hje, hq⟩
        · have hlp : pre.length ≤ 257 := by have := hra.out.le; rw [Hn.out] at this; omega
          have hln : (namesS pre).length ≤ 257 := by have := names_len pre; omega
          clear hlp
          by_cases hgo : ∃ d, l[j]? = some d ∧ d ≠ 47
          · obtain ⟨d, hd, hd47⟩ := hgo
            have hjn : j < i := by have := (List.getElem?_eq_some_iff.1 hd).1; rw [Hn.out] at this; exact this
            have ix := HIX.out j d hd (j : Int) rfl
            have hdn : ((d.toNat : Int) != 47) = true := u8ne hd47
            have hnx : Hid (RA l pre f (j + 1)) := ⟨no_snoc hfj hd hra.out.1 hd47, hra.out.2⟩
            clear hd hd47
            generalize (namesS pre).length = k at *
            go_wp2_with fail
            go_roundw
            case rel =>
              go_light
              exact ⟨j + 1, f, pre, by go_num, rfl, hrow, hbel, by omega, hf1, .inl ⟨by omega, hnx⟩⟩
            case measure => simp [intOf]; omega
          · have hstop : (j < i ∧ l[j]? = some 47) ∨ j = i := by
              by_cases h : j < i
              · left
                refine ⟨h, ?_⟩
                have hl : j < l.length := by rw [Hn.out]; exact h
                rw [List.getElem?_eq_getElem hl]
                by_cases h2 : l[j] = 47
                · rw [h2]
                · exact absurd ⟨l[j], List.getElem?_eq_getElem hl, h2⟩ hgo
              · right; omega
            clear hgo
            have hex : t.extract f j = B ((l.take j).drop f) := HEX.out f j
            have hpl : (B ((l.take j).drop f)).size = ((l.take j).drop f).length := B_size _
            have hpt := toL ((l.take j).drop f)
            have HL : Hid (∀ tail, piecesS (l.drop 1) = pre ++ ((l.take j).drop f) :: tail → 16 < ((l.take j).drop f).length → R = ([], 41)) := by
              intro tail he hlg
              rw [HP.out, if_pos (long_any he hlg)]
            rcases hstop with ⟨hjn, h47j⟩ | hje
            · have ix := HIX.out j 47 h47j (j : Int) rfl
              have ix2 : ∀ w, (Instr.index 9 (.string t) (.int .i64 (j : Int))).run Tryz.prog w = .ok (.int .u8 47) w := ix
              have hst2 := hid_in (hra.out.stroke hfj h47j)
              have hnx : Hid (((l.take j).drop f).length ≤ 16 → RA l (pre ++ [(l.take j).drop f]) (j + 1) (j + 1)) := fun h => hra.out.next hfj h47j h
              clear ix h47j
              generalize hpg : (l.take j).drop f = pc at *
              clear hpg
              generalize hspg : B pc = sp at *
              have HSP := hid_in hspg.symm
              clear hspg
              by_cases hlong : 16 < pc.length
              · have HR := hid_in (HL.out _ (hst2.out.trans (by rw [List.append_assoc]; rfl)) hlong)
                clear HL hst2
                generalize pc.length = pl at *
                generalize (namesS pre).length = k at *
                go_wp2_with fail
                go_ret2
                exact ⟨_, by rw [HR.out]; rfl, by rw [HR.out]; exact World.ownsRow_nil _ _ _ _, hbel.out⟩
              have hsh : pc.length ≤ 16 := by omega
              clear hlong HL
              have HNX := hid_in (hnx.out hsh)
              clear hnx hst2
              by_cases h1 : pc = [] ∨ pc = [46]
              · have hsn : Hid (namesS (pre ++ [pc]) = namesS pre) := by show _ = _; rw [names_snoc]; unfold stepS; rw [if_pos h1]
                have hrow2 : Hid (Nms wr w.heap.size (.slice p5 (namesS pre).length k5) (namesS (pre ++ [pc]))) := by show Nms _ _ _ _; rw [hsn.out]; exact hrow.out
                rcases h1 with rfl | rfl
                all_goals
                  simp only [List.length_nil, List.length_cons] at hpl
                  generalize (namesS pre).length = k at *
                  go_wp2_with fail
                  go_roundw
                  case rel =>
                    go_light
                    exact ⟨j + 1, j + 1, pre ++ [_], by go_num, by go_num, hrow2, hbel, by omega, by omega, .inl ⟨by omega, HNX⟩⟩
                  case measure => simp [intOf]; omega
              by_cases h2 : pc = [46, 46]
              · have hsn : Hid (namesS (pre ++ [pc]) = (namesS pre).dropLast) := by show _ = _; rw [names_snoc]; unfold stepS; rw [if_neg h1, if_pos h2]
                subst h2
                simp only [List.length_nil, List.length_cons] at hpl
                cases hk : (namesS pre).length with
                | zero =>
                  have hrow2 : Hid (Nms wr w.heap.size (.slice p5 0 k5) (namesS (pre ++ [[46, 46]]))) := by
                    show Nms _ _ _ _
                    rw [hsn.out, List.eq_nil_of_length_eq_zero hk]
                    have := hrow.out
                    rw [List.eq_nil_of_length_eq_zero hk] at this
                    exact this
                  rw [hk] at hrow
                  clear hk
                  go_wp2_with fail
                  go_roundw
                  case rel =>
                    go_light
                    exact ⟨j + 1, j + 1, pre ++ [_], by go_num, by go_num, hrow2, hbel, by omega, by omega, .inl ⟨by omega, HNX⟩⟩
                  case measure => simp [intOf]; omega
                | succ k =>
                  have hbk : Hid (Nms wr w.heap.size (.slice p5 (k + 1) k5) (namesS pre)) := by show Nms _ _ _ _; rw [← hk]; exact hrow.out
                  have hd : (namesS pre).dropLast.length = k := by simp [hk]
                  obtain ⟨g, cap, hv⟩ : ∃ g cap, (Value.slice p5 (k + 1) k5) = .slice (some ⟨g, 0, none⟩) (k + 1) cap := by
                    have := hbk.out
                    unfold Nms at this
                    rw [hk] at this
                    exact ownsRow_succ this
                  simp only [Value.slice.injEq, true_and] at hv
                  obtain ⟨rfl, rfl⟩ := hv
                  have hrd := (Nms.back hbk.out hk).rd
                  obtain ⟨pp, cc, hpp, hrdd⟩ := hrd
                  rw [hd] at hpp
                  simp only [Value.slice.injEq, true_and] at hpp
                  obtain ⟨rfl, rfl⟩ := hpp
                  have HRD := hid_in hrdd
                  have hkc : (k : Int) ≤ k5 := by have := hrdd.le; rw [hd] at this; omega
                  have hk5 := hrdd.big
                  have Hd := hid_in hd
                  rw [hk] at hln
                  have HK := hid_in hk
                  clear hrdd hd hrow hk
                  go_wp2_with (first | (at_builtin; refine wpList_append_own _ rfl _ _ 35 rfl w.heap.size 9 i9 (.string ByteArray.empty) 1 16 Tryz.underlying35 hi9 hz0 hz1 hz2 rfl (by decide) (.slice (some ⟨wr.heap.size, 0, none⟩) 0 0) 0 [] rfl (row_empty _ _ hbel.out.size) ⟨g, 0, none⟩ k k5 (((namesS pre).dropLast).map sv) rfl (by rw [List.length_map, Hd.out, Nat.mul_one]) (rd_news HRD.out _) news_one (by unfold maxLen; omega) (by omega) (by have := hbel.out.size; simp; omega) ?_; intro v' w1 hown' hgrow _; have HO := hid_in hown'; have HG := hid_in hgrow; clear hown' hgrow))
                  have hrow2 : Hid (Nms w1 w.heap.size v' (namesS (pre ++ [[46, 46]]))) := by
                    show Nms _ _ _ _
                    unfold Nms
                    rw [hsn.out, Hd.out]
                    have := HO.out
                    rw [Nat.zero_add, List.nil_append] at this
                    exact this
                  have hbel2 : Hid (Below w.heap.size w w1) := (hbel.out.alloc hbel.out.size _).grown HG.out (by have := hbel.out.size; simp; omega) (fun k e => by simp [Value.ownBlock] at e; have := hbel.out.size; omega)
                  go_roundw
                  case rel =>
                    go_light
                    exact ⟨j + 1, j + 1, pre ++ [_], by go_num, by go_num, hrow2, hbel2, by omega, by omega, .inl ⟨by omega, HNX⟩⟩
                  case measure => simp [intOf]; omega
              have hsn : Hid (namesS (pre ++ [pc]) = namesS pre ++ [pc]) := by show _ = _; rw [names_snoc]; unfold stepS; rw [if_neg h1, if_neg h2]
              have e0 : sp.toList.isEmpty = false := by rw [hpt]; cases pc <;> simp_all
              have e1 : (sp.toList == [46]) = false := by rw [hpt, beq_eq_false_iff_ne]; exact fun e => h1 (.inr e)
              have e2 : (sp.toList == [46, 46]) = false := by rw [hpt, beq_eq_false_iff_ne]; exact h2
              have e3 : (sp.toList = [46]) = False := by rw [hpt]; simp only [eq_iff_iff, iff_false]; exact fun e => h1 (.inr e)
              have e4 : (sp.toList = [46, 46]) = False := by rw [hpt]; simp only [eq_iff_iff, iff_false]; exact h2
              have e5 : (sp.toList = []) = False := by rw [hpt]; simp only [eq_iff_iff, iff_false]; exact fun e => h1 (.inl e)
              have hml : (namesS pre).length + 1 ≤ maxLen := by unfold maxLen; omega
              have HRO : Hid (wr.ownsRow w.heap.size 9 1 (.slice p5 (namesS pre).length k5) (namesS pre).length ((namesS pre).map sv)) := hrow.out
              have HSL : Hid ((namesS pre ++ [pc]).map sv = (namesS pre).map sv ++ [.string (sp)] ∧ (namesS pre ++ [pc]).length = (namesS pre).length + 1) := ⟨by rw [HSP.out]; simp [sv], by simp⟩
              have HGE := hid_in (fun k e => (hrow.out.row_ge k e).1)
              obtain ⟨us, hus⟩ : ∃ us, Hid (us = (namesS pre).map sv) := ⟨_, rfl⟩
              rw [← hus.out] at HRO
              clear hpt h1 h2 hrow
              generalize hpl2 : pc.length = pl at hpl hsh
              generalize hkk : (namesS pre).length = k at HRO hln hml HSL HGE
              have Hkk := hid_in hkk
              clear hkk hpl2
              go_wp2_with (first | (at_builtin; refine wpList_append_own _ rfl _ _ 35 rfl w.heap.size 9 i9 (.string ByteArray.empty) 1 16 Tryz.underlying35 hi9 hz0 hz1 hz2 rfl (by decide) (.slice p5 k k5) k us rfl (HRO.out.alloc _) ⟨wr.heap.size, 0, none⟩ 1 1 [.string sp] rfl rfl (cell_one_new _ _ _) (by simp [Value.oneCell']) hml (by omega) (by have := hbel.out.size; simp; omega) ?_; intro v' w1 hown' hgrow _; have HO := hid_in hown'; have HG := hid_in hgrow; clear hown' hgrow))
              have hrow2 : Hid (Nms w1 w.heap.size v' (namesS (pre ++ [pc]))) := by
                show Nms _ _ _ _
                unfold Nms
                rw [hsn.out, HSL.out.1, HSL.out.2, ← hus.out]
                exact HO.out
              have hbel2 : Hid (Below w.heap.size w w1) := (hbel.out.alloc hbel.out.size _).grown HG.out (by have := hbel.out.size; simp; omega) HGE.out
              go_roundw
              case rel =>
                go_light
                exact ⟨j + 1, j + 1, pre ++ [pc], by go_num, by go_num, hrow2, hbel2, by omega, by omega, .inl ⟨by omega, HNX⟩⟩
              case measure => simp [intOf]; omega
            · subst hje
              have hst2 := hid_in (hra.out.last (by rw [Hn.out]; omega))
              have hany := hid_in hra.out.2.2
              generalize hpg : (l.take j).drop f = pc at *
              clear hpg
              generalize hspg : B pc = sp at *
              have HSP := hid_in hspg.symm
              clear hspg
              by_cases hlong : 16 < pc.length
              · have HR := hid_in (HL.out _ hst2.out hlong)
                clear HL hst2
                generalize pc.length = pl at *
                generalize (namesS pre).length = k at *
                go_wp2_with fail
                go_ret2
                exact ⟨_, by rw [HR.out]; rfl, by rw [HR.out]; exact World.ownsRow_nil _ _ _ _, hbel.out⟩
              have hsh : pc.length ≤ 16 := by omega
              clear hlong HL
              have HAN := hid_in (any_snoc (p := pc) hany.out hsh)
              clear hany
              by_cases h1 : pc = [] ∨ pc = [46]
              · have hsn : Hid (namesS (pre ++ [pc]) = namesS pre) := by show _ = _; rw [names_snoc]; unfold stepS; rw [if_pos h1]
                have hrow2 : Hid (Nms wr w.heap.size (.slice p5 (namesS pre).length k5) (namesS (pre ++ [pc]))) := by show Nms _ _ _ _; rw [hsn.out]; exact hrow.out
                rcases h1 with rfl | rfl
                all_goals
                  simp only [List.length_nil, List.length_cons] at hpl
                  generalize (namesS pre).length = k at *
                  go_wp2_with fail
                  go_roundw
                  case rel =>
                    go_light
                    exact ⟨j + 1, j + 1, pre ++ [_], by go_num, by go_num, hrow2, hbel, by omega, by omega, .inr ⟨rfl, hst2.out, HAN.out⟩⟩
                  case measure => simp [intOf]
              by_cases h2 : pc = [46, 46]
              · have hsn : Hid (namesS (pre ++ [pc]) = (namesS pre).dropLast) := by show _ = _; rw [names_snoc]; unfold stepS; rw [if_neg h1, if_pos h2]
                subst h2
                simp only [List.length_nil, List.length_cons] at hpl
                cases hk : (namesS pre).length with
                | zero =>
                  have hrow2 : Hid (Nms wr w.heap.size (.slice p5 0 k5) (namesS (pre ++ [[46, 46]]))) := by
                    show Nms _ _ _ _
                    rw [hsn.out, List.eq_nil_of_length_eq_zero hk]
                    have := hrow.out
                    rw [List.eq_nil_of_length_eq_zero hk] at this
                    exact this
                  rw [hk] at hrow
                  clear hk
                  go_wp2_with fail
                  go_roundw
                  case rel =>
                    go_light
                    exact ⟨j + 1, j + 1, pre ++ [_], by go_num, by go_num, hrow2, hbel, by omega, by omega, .inr ⟨rfl, hst2.out, HAN.out⟩⟩
                  case measure => simp [intOf]
                | succ k =>
                  have hbk : Hid (Nms wr w.heap.size (.slice p5 (k + 1) k5) (namesS pre)) := by show Nms _ _ _ _; rw [← hk]; exact hrow.out
                  have hd : (namesS pre).dropLast.length = k := by simp [hk]
                  obtain ⟨g, cap, hv⟩ : ∃ g cap, (Value.slice p5 (k + 1) k5) = .slice (some ⟨g, 0, none⟩) (k + 1) cap := by
                    have := hbk.out
                    unfold Nms at this
                    rw [hk] at this
                    exact ownsRow_succ this
                  simp only [Value.slice.injEq, true_and] at hv
                  obtain ⟨rfl, rfl⟩ := hv
                  have hrd := (Nms.back hbk.out hk).rd
                  obtain ⟨pp, cc, hpp, hrdd⟩ := hrd
                  rw [hd] at hpp
                  simp only [Value.slice.injEq, true_and] at hpp
                  obtain ⟨rfl, rfl⟩ := hpp
                  have HRD := hid_in hrdd
                  have hkc : (k : Int) ≤ k5 := by have := hrdd.le; rw [hd] at this; omega
                  have hk5 := hrdd.big
                  have Hd := hid_in hd
                  rw [hk] at hln
                  have HK := hid_in hk
                  clear hrdd hd hrow hk
                  go_wp2_with (first | (at_builtin; refine wpList_append_own _ rfl _ _ 35 rfl w.heap.size 9 i9 (.string ByteArray.empty) 1 16 Tryz.underlying35 hi9 hz0 hz1 hz2 rfl (by decide) (.slice (some ⟨wr.heap.size, 0, none⟩) 0 0) 0 [] rfl (row_empty _ _ hbel.out.size) ⟨g, 0, none⟩ k k5 (((namesS pre).dropLast).map sv) rfl (by rw [List.length_map, Hd.out, Nat.mul_one]) (rd_news HRD.out _) news_one (by unfold maxLen; omega) (by omega) (by have := hbel.out.size; simp; omega) ?_; intro v' w1 hown' hgrow _; have HO := hid_in hown'; have HG := hid_in hgrow; clear hown' hgrow))
                  have hrow2 : Hid (Nms w1 w.heap.size v' (namesS (pre ++ [[46, 46]]))) := by
                    show Nms _ _ _ _
                    unfold Nms
                    rw [hsn.out, Hd.out]
                    have := HO.out
                    rw [Nat.zero_add, List.nil_append] at this
                    exact this
                  have hbel2 : Hid (Below w.heap.size w w1) := (hbel.out.alloc hbel.out.size _).grown HG.out (by have := hbel.out.size; simp; omega) (fun k e => by simp [Value.ownBlock] at e; have := hbel.out.size; omega)
                  go_roundw
                  case rel =>
                    go_light
                    exact ⟨j + 1, j + 1, pre ++ [_], by go_num, by go_num, hrow2, hbel2, by omega, by omega, .inr ⟨rfl, hst2.out, HAN.out⟩⟩
                  case measure => simp [intOf]
              have hsn : Hid (namesS (pre ++ [pc]) = namesS pre ++ [pc]) := by show _ = _; rw [names_snoc]; unfold stepS; rw [if_neg h1, if_neg h2]
              have e0 : sp.toList.isEmpty = false := by rw [hpt]; cases pc <;> simp_all
              have e1 : (sp.toList == [46]) = false := by rw [hpt, beq_eq_false_iff_ne]; exact fun e => h1 (.inr e)
              have e2 : (sp.toList == [46, 46]) = false := by rw [hpt, beq_eq_false_iff_ne]; exact h2
              have e3 : (sp.toList = [46]) = False := by rw [hpt]; simp only [eq_iff_iff, iff_false]; exact fun e => h1 (.inr e)
              have e4 : (sp.toList = [46, 46]) = False := by rw [hpt]; simp only [eq_iff_iff, iff_false]; exact h2
              have e5 : (sp.toList = []) = False := by rw [hpt]; simp only [eq_iff_iff, iff_false]; exact fun e => h1 (.inl e)
              have hml : (namesS pre).length + 1 ≤ maxLen := by unfold maxLen; omega
              have HRO : Hid (wr.ownsRow w.heap.size 9 1 (.slice p5 (namesS pre).length k5) (namesS pre).length ((namesS pre).map sv)) := hrow.out
              have HSL : Hid ((namesS pre ++ [pc]).map sv = (namesS pre).map sv ++ [.string (sp)] ∧ (namesS pre ++ [pc]).length = (namesS pre).length + 1) := ⟨by rw [HSP.out]; simp [sv], by simp⟩
              have HGE := hid_in (fun k e => (hrow.out.row_ge k e).1)
              obtain ⟨us, hus⟩ : ∃ us, Hid (us = (namesS pre).map sv) := ⟨_, rfl⟩
              rw [← hus.out] at HRO
              clear hpt h1 h2 hrow
              generalize hpl2 : pc.length = pl at hpl hsh
              generalize hkk : (namesS pre).length = k at HRO hln hml HSL HGE
              have Hkk := hid_in hkk
              clear hkk hpl2
              go_wp2_with (first | (at_builtin; refine wpList_append_own _ rfl _ _ 35 rfl w.heap.size 9 i9 (.string ByteArray.empty) 1 16 Tryz.underlying35 hi9 hz0 hz1 hz2 rfl (by decide) (.slice p5 k k5) k us rfl (HRO.out.alloc _) ⟨wr.heap.size, 0, none⟩ 1 1 [.string sp] rfl rfl (cell_one_new _ _ _) (by simp [Value.oneCell']) hml (by omega) (by have := hbel.out.size; simp; omega) ?_; intro v' w1 hown' hgrow _; have HO := hid_in hown'; have HG := hid_in hgrow; clear hown' hgrow))
              have hrow2 : Hid (Nms w1 w.heap.size v' (namesS (pre ++ [pc]))) := by
                show Nms _ _ _ _
                unfold Nms
                rw [hsn.out, HSL.out.1, HSL.out.2, ← hus.out]
                exact HO.out
              have hbel2 : Hid (Below w.heap.size w w1) := (hbel.out.alloc hbel.out.size _).grown HG.out (by have := hbel.out.size; simp; omega) HGE.out
              go_roundw
              case rel =>
                go_light
                exact ⟨j + 1, j + 1, pre ++ [pc], by go_num, by go_num, hrow2, hbel2, by omega, by omega, .inr ⟨rfl, hst2.out, HAN.out⟩⟩
              case measure => simp [intOf]
        · subst hje
          have HR : R = if 8 < (namesS pre).length then ([], 42) else (namesS pre, 0) := by
            rw [HP.out, hq.out.1, if_neg (by rw [hq.out.2]; simp)]
          have HHR := hid_in HR
          have hln : (namesS pre).length ≤ 257 := by
            have h1 := names_len pre
            have h2 := pieces_len (l.drop 1)
            have h3 := Hn.out
            rw [hq.out.1, List.length_drop] at h2
            omega
          clear HR HP
          by_cases h8 : 8 < (namesS pre).length
          · have HR2 := hid_in (HHR.out.trans (if_pos h8))
            clear HHR
            generalize (namesS pre).length = k at *
            go_wp2_with fail
            go_ret2
            exact ⟨_, by rw [HR2.out]; rfl, by rw [HR2.out]; exact World.ownsRow_nil _ _ _ _, hbel.out⟩
          · have HR2 := hid_in (HHR.out.trans (if_neg h8))
            clear HHR
            generalize (namesS pre).length = k at *
            go_wp2_with fail
            go_ret2
            exact ⟨_, by rw [HR2.out]; rfl, by rw [HR2.out]; exact hrow.out, hbel.out⟩
set_option maxHeartbeats 1000000 in
set_option maxRecDepth 100000 in
theorem rparse_long (s : Str) (hs : 256 < s.length) (hs2 : s.length ≤ 9223372036854775807) (w : World) : Calls Tryz.prog 46 #[.string (B s)] w fun e W' => ∃ v, e = .returned (.tuple #[v, .int .i64 2]) ∧ Nms W' w.heap.size v [] ∧ Below w.heap.size w W' := by
  have hsz : (B s).size = s.length := B_size s
  generalize B s = t at hsz ⊢
  generalize s.length = n at *
  go_enter Tryz.func46, Tryz.ntmps46
  go_wp2_with fail
  go_ret2
  exact ⟨_, rfl, World.ownsRow_nil _ _ _ _, Below.refl _ _⟩
set_option maxHeartbeats 1000000 in
set_option maxRecDepth 100000 in
theorem rparse_none (w : World) : Calls Tryz.prog 46 #[.string (B [])] w fun e W' => ∃ v, e = .returned (.tuple #[v, .int .i64 40]) ∧ Nms W' w.heap.size v [] ∧ Below w.heap.size w W' := by
  have hsz : (B []).size = 0 := B_size []
  generalize B [] = t at hsz ⊢
  go_enter Tryz.func46, Tryz.ntmps46
  go_wp2_with fail
  go_ret2
  exact ⟨_, rfl, World.ownsRow_nil _ _ _ _, Below.refl _ _⟩
set_option maxHeartbeats 1000000 in
set_option maxRecDepth 100000 in
theorem rparse_first (c : UInt8) (r : Str) (hc : c ≠ 47) (hs : (c :: r).length ≤ 256) (w : World) : Calls Tryz.prog 46 #[.string (B (c :: r))] w fun e W' => ∃ v, e = .returned (.tuple #[v, .int .i64 40]) ∧ Nms W' w.heap.size v [] ∧ Below w.heap.size w W' := by
  have hsz : (B (c :: r)).size = (c :: r).length := B_size _
  have i0 := index_str (B (c :: r)) 0 c (by rw [bl_B]; rfl) 0 rfl
  have hdn := u8ne hc
  have h1 : 1 ≤ (c :: r).length := by simp
  generalize B (c :: r) = t at hsz i0 ⊢
  generalize (c :: r).length = n at *
  have hn0 : ((n : Int) == 0) = false := by rw [beq_eq_false_iff_ne]; omega
  clear hc
  go_enter Tryz.func46, Tryz.ntmps46
  go_wp2_with fail
  go_ret2
  exact ⟨_, rfl, World.ownsRow_nil _ _ _ _, Below.refl _ _⟩
set_option maxHeartbeats 1000000 in
set_option maxRecDepth 100000 in
theorem rparse_byte (l : Str) (c : UInt8) (r : Str) (hcr : Hid (l = c :: r)) (h47 : Hid (c = 47)) (hs : l.length ≤ 256) (hok : Hid (l.all okByte = false)) (w : World) : Calls Tryz.prog 46 #[.string (B l)] w fun e W' => ∃ v, e = .returned (.tuple #[v, .int .i64 40]) ∧ Nms W' w.heap.size v [] ∧ Below w.heap.size w W' := by
  have hsz : (B l).size = l.length := B_size l
  have hne : 1 ≤ l.length := by rw [hcr.out]; simp
  have i0 := index_str (B l) 0 47 (by rw [bl_B, hcr.out, h47.out]; rfl) 0 rfl
  have HIX := hid_in (fun (j : Nat) (d : UInt8) (hj : l[j]? = some d) => index_str (B l) j d (by rw [bl_B]; exact hj))
  have i0' : ∀ w, (Instr.index 9 (.string (B l)) (.int .i64 0)).run Tryz.prog w = .ok (.int .u8 47) w := i0
  clear i0
  generalize B l = t at hsz HIX i0' ⊢
  generalize hn : l.length = n at *
  have Hn := hid_in hn
  clear hn
  have hn0 : ((n : Int) == 0) = false := by rw [beq_eq_false_iff_ne]; omega
  go_enter Tryz.func46, Tryz.ntmps46
  go_wp2_with fail
  go_loopw [4] (fun vi w' => w' = w ∧ ∃ i : Nat, i ≤ n ∧ vi = .int .i64 (i : Int) ∧ Hid ((l.take i).all okByte = true)) (fun vi _ => n - (intOf vi).toNat)
  case atStart => exact ⟨rfl, 0, by omega, rfl, rfl⟩
  case round =>
    obtain ⟨hw, i, hi, rfl, hall⟩ := hrel
    obtain rfl := hw.symm
    by_cases hlt : i < n
    · obtain ⟨d, hd⟩ : ∃ d, l[i]? = some d := ⟨_, List.getElem?_eq_getElem (by rw [Hn.out]; exact hlt)⟩
      have ix := HIX.out i d hd (i : Int) rfl
      have Hd := hid_in hd
      clear hd
      by_cases h47d : d = 47
      · subst h47d
        have ix2 : ∀ w, (Instr.index 9 (.string t) (.int .i64 (i : Int))).run Tryz.prog w = .ok (.int .u8 47) w := ix
        clear ix
        have hsn : Hid ((l.take (i + 1)).all okByte = true) := all_snoc Hd.out hall.out (by decide)
        go_wp2_with fail
        go_roundw
        case rel =>
          go_light
          exact ⟨trivial, i + 1, by omega, by go_num, hsn⟩
        case measure => simp [intOf]; omega
      · have hdn : ((d.toNat : Int) != 47) = true := u8ne h47d
        have Hd7 := hid_in h47d
        clear h47d
        cases hpl : decide (plainN d.toNat)
        · have HPL := hid_in hpl
          clear hpl
          go_wp2_with (go_at_call 83; refine (plain_any _ _).mono ?_; rw [HPL.out]; rintro e w' ⟨rfl, hw⟩; obtain rfl := hw.symm)
          go_ret2
          exact ⟨_, rfl, World.ownsRow_nil _ _ _ _, Below.refl _ _⟩
        · have HPL := hid_in hpl
          clear hpl
          have hsn : Hid ((l.take (i + 1)).all okByte = true) := all_snoc Hd.out hall.out (by unfold okByte plain; rw [HPL.out]; rfl)
          go_wp2_with (go_at_call 83; refine (plain_any _ _).mono ?_; rw [HPL.out]; rintro e w' ⟨rfl, hw⟩; obtain rfl := hw.symm)
          go_roundw
          case rel =>
            go_light
            exact ⟨trivial, i + 1, by omega, by go_num, hsn⟩
          case measure => simp [intOf]; omega
    · exfalso
      have h1 := hall.out
      rw [List.take_of_length_le (by rw [Hn.out]; omega), hok.out] at h1
      cases h1
/-- **the reference's Parse** says the same. -/
theorem rparse_any (s : Str) (hs : s.length ≤ 9223372036854775807) (w : World) : Calls Tryz.prog 46 #[.string (B s)] w fun e W' => ∃ v, e = .returned (.tuple #[v, .int .i64 (parseS s).2]) ∧ Nms W' w.heap.size v (parseS s).1 ∧ Below w.heap.size w W' := by
  by_cases h1 : 256 < s.length
  · have e : parseS s = ([], 2) := by unfold parseS; rw [if_pos h1]
    rw [e]; exact rparse_long s h1 hs w
  · have bad : isTextS s = false → parseS s = ([], 40) := fun ht => by unfold parseS; rw [if_neg h1, if_pos ht]
    cases s with
    | nil => rw [bad rfl]; exact rparse_none w
    | cons c r =>
      by_cases hc : c = 47
      · cases hok : (c :: r).all okByte
        · have ht : isTextS (c :: r) = false := by
            have e : isTextS (c :: r) = ((c == 47) && (c :: r).all okByte) := rfl
            rw [e, hok, Bool.and_false]
          rw [bad ht]
          exact rparse_byte _ c r rfl hc (by omega) hok w
        · exact rparse_main _ c r rfl hc (by omega) hok w
      · have ht : isTextS (c :: r) = false := by
          have e : isTextS (c :: r) = ((c == 47) && (c :: r).all okByte) := rfl
          rw [e, beq_eq_false_iff_ne.2 hc, Bool.false_and]
        rw [bad ht]
        exact rparse_first c r hc (by omega) w
end Go.Proofs.YtngehkmdanhgpaaGreat.Vp
