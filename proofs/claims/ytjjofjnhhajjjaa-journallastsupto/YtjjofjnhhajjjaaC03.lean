/-
  The walk of (*wire.In).Text. Append of a string's bytes, and where the row then lies; the walks of (*wire.Out).Text and Flag. The walk of the reference's Fold. The walk of (*wire.In).Digest, where nothing was wrong yet. What was written is read back; what was cut off is short. Plain numbers, no program in it. The walks of the reference's In: bad, Left, Flag. The walk of the reference's Flag.
-/
import Derived.Lib.AppendStr
import Derived.Laws.CopyOwn
import Derived.Deep.RegionLaw
import Derived.Deep.DrawnRows
import Derived.Test.YtjjofjnhhajjjaaC00
import Derived.Test.YtjjofjnhhajjjaaC01
import Derived.Test.YtjjofjnhhajjjaaC02
namespace Go.Proofs.Ytjjofjnhhajjjaa.Nd
open Go.RowKit
theorem conv_none (C : Nat) (w : World) (p : Option Addr) : (convert 54 9 (.slice p 0 C)).run Try.prog w = .ok (.string ByteArray.empty) w := by
  rcases p with _ | ⟨b', o', m'⟩
  · exact run_convert_bytes_nil w 54 5 Try.underlying54 Try.underlying5 0 C 9 Try.underlying9
  · rw [run_convert_bytes_string w 54 9 5 _ _ _ Try.underlying54 Try.underlying5 Try.underlying9]
    rw [run_bytesToString w _ 0 C [] (by simp [loadCells, loadCellsFrom, Sem.run_pure])]
    rfl
namespace Wire
/-- a text that is read: what it is, what is left, what is wrong -/
def rtext (most : Int) (bs : List Nat) : List Nat × List Nat × Nat :=
  if (rnum bs).2.2 ≠ 0 then ([], (rnum bs).2.1, (rnum bs).2.2) else if most.toNat < (rnum bs).1 then ([], [], 2) else if (rnum bs).2.1.length < (rnum bs).1 then ([], [], 20) else ((rnum bs).2.1.take (rnum bs).1, (rnum bs).2.1.drop (rnum bs).1, 0)
end Wire
theorem rnumF_err : ∀ (f k acc : Nat) (bs : List Nat), (Wire.rnumF f k acc bs).2.2 ≠ 0 → (Wire.rnumF f k acc bs).1 = 0 ∧ (Wire.rnumF f k acc bs).2.1 = []
  | 0, _, _, _, _ => ⟨rfl, rfl⟩
  | _ + 1, _, _, [], _ => ⟨rfl, rfl⟩
  | f + 1, k, acc, c :: r, h => by
    simp only [Wire.rnumF] at h ⊢
    split at h
    · rename_i hb
      rw [if_pos hb]
      exact ⟨rfl, rfl⟩
    · rename_i hb
      rw [if_neg hb]
      split at h
      · exact absurd rfl h
      · rename_i hc
        rw [if_neg hc]
        exact rnumF_err f _ _ r h
set_option maxRecDepth 20000 in
set_option maxHeartbeats 400000 in
theorem itext_bad {B : Nat} (w : World) (g e : Nat) (bs : List Nat) (most : Int) (hm1 : -9223372036854775808 ≤ most) (hm2 : most ≤ 9223372036854775807) (he : e ≠ 0) (hi : InIs B w g bs e) :
    Calls Try.prog 65 #[.pointer (some ⟨g, 0, none⟩), .int .i64 most] w fun r w' => r = .returned (.string ByteArray.empty) ∧ w' = w := by
  have HI := hid_in hi
  clear hi
  have hcv := conv_none 0 w none
  go_enter Try.func65, Try.ntmps65
  go_wp2_with fail
  refine (inum_bad _ g e bs he HI.out).mono ?_
  rintro e1 w1 ⟨rfl, rfl⟩
  rcases (show most < 0 ∨ 0 ≤ most by omega) with h0 | h0
  · go_wp2_with fail
    refine (take_bad _ g e 0 bs he HI.out).mono ?_
    rintro e2 w2 ⟨rfl, rfl⟩
    go_wp2
    go_ret
    exact ⟨rfl, rfl⟩
  · go_wp2_with fail
    refine (take_bad _ g e 0 bs he HI.out).mono ?_
    rintro e2 w2 ⟨rfl, rfl⟩
    go_wp2
    go_ret
    exact ⟨rfl, rfl⟩
set_option maxRecDepth 20000 in
set_option maxHeartbeats 1000000 in
theorem itext_any {B : Nat} (w : World) (g : Nat) (bs : List Nat) (most : Int) (hm1 : -9223372036854775808 ≤ most) (hm2 : most ≤ 9223372036854775807) (hlt : ∀ x ∈ bs, x < 256) (hi : InIs B w g bs 0) :
    Calls Try.prog 65 #[.pointer (some ⟨g, 0, none⟩), .int .i64 most] w fun r w' => r = .returned (.string (str (Wire.rtext most bs).1)) ∧ InIs B w' g (Wire.rtext most bs).2.1 (Wire.rtext most bs).2.2 ∧ w.grownBy w' (some g) ∧ w'.heap.size = w.heap.size := by
  have HI := hid_in (inum_any w g bs hlt hi)
  have hn64 := rnum_lt bs
  obtain ⟨n, r, e, HN⟩ : ∃ n r e, Hid (Wire.rnum bs = (n, r, e)) := ⟨_, _, _, rfl⟩
  have HE : Hid (e ≠ 0 → n = 0 ∧ r = []) := by
    have := rnumF_err 10 0 0 bs
    show _ → _
    intro h
    have h1 : (Wire.rnum bs).2.2 ≠ 0 := by rw [HN.out]; exact h
    have h2 := this h1
    have h3 : (Wire.rnum bs).1 = 0 ∧ (Wire.rnum bs).2.1 = [] := h2
    rw [HN.out] at h3
    exact h3
  have HT : Hid (Wire.rtext most bs = if e ≠ 0 then ([], r, e) else if most.toNat < n then ([], [], 2) else if r.length < n then ([], [], 20) else (r.take n, r.drop n, 0)) := by
    show _ = _
    unfold Wire.rtext
    rw [HN.out]
  obtain ⟨T, HTT⟩ : ∃ T, Hid (Wire.rtext most bs = T) := ⟨_, rfl⟩
  rw [HN.out] at HI hn64
  have HT2 : Hid (T = if e ≠ 0 then ([], r, e) else if most.toNat < n then ([], [], 2) else if r.length < n then ([], [], 20) else (r.take n, r.drop n, 0)) := HTT.out.symm.trans HT.out
  rw [HTT.out]
  clear hi hlt HN HT HTT
  simp only at hn64
  go_enter Try.func65, Try.ntmps65
  go_wp2_with fail
  refine HI.out.mono ?_
  rintro e1 w1 ⟨rfl, h1, h2, h3⟩
  have H1 := hid_in h1
  have H2 := hid_in h2
  have H3 := hid_in h3
  clear h1 h2 h3 HI
  by_cases he : e = 0
  · subst he
    rcases (show most < 0 ∨ 0 ≤ most by omega) with h0 | h0
    · by_cases hlong : 0 < n
      · have HV : Hid (T = ([], [], 2)) := by
          refine HT2.out.trans ?_
          rw [if_neg (by simp), if_pos (by omega)]
        obtain ⟨p2, cap2, b2, off2, hrow, _, _, _⟩ := H1.out.ex
        have HFF := hid_in (fail_any (B := B) w1 g 2 _ _ hrow)
        have k1 : (0 : Int) < (n : Int) := by omega
        clear hrow
        go_wp2_with fail
        refine HFF.out.mono ?_
        rintro e w2 ⟨rfl, h1, h2, h3⟩
        have H4 := hid_in h1
        have H5 := hid_in h2
        have H6 := hid_in h3
        clear h1 h2 h3
        go_wp2
        go_ret
        rw [HV.out]
        exact ⟨rfl, H4.out, grownBy_trans H2.out H5.out, H6.out.trans H3.out⟩
      · have k1 : ¬ ((0 : Int) < (n : Int)) := by omega
        have k2 : (n : Int) ≤ (0 : Int) := by omega
        by_cases hz : n = 0
        · subst hz
          have HV : Hid (T = ([], r, 0)) := by
            refine HT2.out.trans ?_
            rw [if_neg (by simp), if_neg (by omega), if_neg (by omega)]
            simp
          go_wp2_with fail
          refine (take_zero _ g r H1.out).mono ?_
          rintro e w2 ⟨p3, cap3, rfl, h1, h2, h3⟩
          have H4 := hid_in h1
          have H5 := hid_in h2
          have H6 := hid_in h3
          have hcv := conv_none cap3 w2 p3
          clear h1 h2 h3
          go_wp2
          go_ret
          rw [HV.out]
          exact ⟨rfl, H4.out, grownBy_trans H2.out H5.out, H6.out.trans H3.out⟩
        · by_cases hs : r.length < n
          · have HV : Hid (T = ([], [], 20)) := by
              refine HT2.out.trans ?_
              rw [if_neg (by simp), if_neg (by omega), if_pos hs]
            go_wp2_with fail
            refine (take_short _ g n r hs H1.out).mono ?_
            rintro e w2 ⟨rfl, h1, h2, h3⟩
            have H4 := hid_in h1
            have H5 := hid_in h2
            have H6 := hid_in h3
            have hcv := conv_none 0 w2 none
            clear h1 h2 h3
            go_wp2
            go_ret
            rw [HV.out]
            exact ⟨rfl, H4.out, grownBy_trans H2.out H5.out, H6.out.trans H3.out⟩
          · have HV : Hid (T = (r.take n, r.drop n, 0)) := by
              refine HT2.out.trans ?_
              rw [if_neg (by simp), if_neg (by omega), if_neg hs]
            have hl : (r.take n).length = n := by rw [List.length_take]; omega
            go_wp2_with fail
            refine (take_some _ g n r (by omega) (by omega) H1.out).mono ?_
            rintro e w2 ⟨b3, off3, cap3, rfl, hsl, h1, h2, h3⟩
            have H4 := hid_in h1
            have H5 := hid_in h2
            have H6 := hid_in h3
            have hcv := conv_sl hsl
            rw [hl] at hcv
            clear h1 h2 h3 hsl hl
            go_wp2
            go_ret
            rw [HV.out]
            exact ⟨rfl, H4.out, grownBy_trans H2.out H5.out, H6.out.trans H3.out⟩
    · obtain ⟨M, rfl⟩ := Int.eq_ofNat_of_zero_le h0
      clear h0
      by_cases hlong : M < n
      · have HV : Hid (T = ([], [], 2)) := by
          refine HT2.out.trans ?_
          rw [if_neg (by simp), if_pos (by omega)]
        obtain ⟨p2, cap2, b2, off2, hrow, _, _, _⟩ := H1.out.ex
        have HFF := hid_in (fail_any (B := B) w1 g 2 _ _ hrow)
        have k1 : (M : Int) < (n : Int) := by omega
        clear hrow
        go_wp2_with fail
        refine HFF.out.mono ?_
        rintro e w2 ⟨rfl, h1, h2, h3⟩
        have H4 := hid_in h1
        have H5 := hid_in h2
        have H6 := hid_in h3
        clear h1 h2 h3
        go_wp2
        go_ret
        rw [HV.out]
        exact ⟨rfl, H4.out, grownBy_trans H2.out H5.out, H6.out.trans H3.out⟩
      · have k1 : ¬ ((M : Int) < (n : Int)) := by omega
        have k2 : (n : Int) ≤ (M : Int) := by omega
        by_cases hz : n = 0
        · subst hz
          have HV : Hid (T = ([], r, 0)) := by
            refine HT2.out.trans ?_
            rw [if_neg (by simp), if_neg (by omega), if_neg (by omega)]
            simp
          go_wp2_with fail
          refine (take_zero _ g r H1.out).mono ?_
          rintro e w2 ⟨p3, cap3, rfl, h1, h2, h3⟩
          have H4 := hid_in h1
          have H5 := hid_in h2
          have H6 := hid_in h3
          have hcv := conv_none cap3 w2 p3
          clear h1 h2 h3
          go_wp2
          go_ret
          rw [HV.out]
          exact ⟨rfl, H4.out, grownBy_trans H2.out H5.out, H6.out.trans H3.out⟩
        · by_cases hs : r.length < n
          · have HV : Hid (T = ([], [], 20)) := by
              refine HT2.out.trans ?_
              rw [if_neg (by simp), if_neg (by omega), if_pos hs]
            go_wp2_with fail
            refine (take_short _ g n r hs H1.out).mono ?_
            rintro e w2 ⟨rfl, h1, h2, h3⟩
            have H4 := hid_in h1
            have H5 := hid_in h2
            have H6 := hid_in h3
            have hcv := conv_none 0 w2 none
            clear h1 h2 h3
            go_wp2
            go_ret
            rw [HV.out]
            exact ⟨rfl, H4.out, grownBy_trans H2.out H5.out, H6.out.trans H3.out⟩
          · have HV : Hid (T = (r.take n, r.drop n, 0)) := by
              refine HT2.out.trans ?_
              rw [if_neg (by simp), if_neg (by omega), if_neg hs]
            have hl : (r.take n).length = n := by rw [List.length_take]; omega
            go_wp2_with fail
            refine (take_some _ g n r (by omega) (by omega) H1.out).mono ?_
            rintro e w2 ⟨b3, off3, cap3, rfl, hsl, h1, h2, h3⟩
            have H4 := hid_in h1
            have H5 := hid_in h2
            have H6 := hid_in h3
            have hcv := conv_sl hsl
            rw [hl] at hcv
            clear h1 h2 h3 hsl hl
            go_wp2
            go_ret
            rw [HV.out]
            exact ⟨rfl, H4.out, grownBy_trans H2.out H5.out, H6.out.trans H3.out⟩
  · obtain ⟨rfl, rfl⟩ := HE.out he
    have HV : Hid (T = ([], [], e)) := by
      refine HT2.out.trans ?_
      rw [if_pos he]
    have hcv := conv_none 0 w1 none
    rcases (show most < 0 ∨ 0 ≤ most by omega) with h0 | h0
    · go_wp2_with fail
      refine (take_bad _ g e 0 [] he H1.out).mono ?_
      rintro e2 w2 ⟨rfl, rfl⟩
      go_wp2
      go_ret
      rw [HV.out]
      exact ⟨rfl, H1.out, H2.out, H3.out⟩
    · go_wp2_with fail
      refine (take_bad _ g e 0 [] he H1.out).mono ?_
      rintro e2 w2 ⟨rfl, rfl⟩
      go_wp2
      go_ret
      rw [HV.out]
      exact ⟨rfl, H1.out, H2.out, H3.out⟩
end Go.Proofs.Ytjjofjnhhajjjaa.Nd
namespace Go.Proofs.Ytjjofjnhhajjjaa.Nd
open Go.RowKit
theorem run_append_string_at {P : Program} (w : World) (base : Nat) (t u ty e : TypeId) (i : TypeInfo) (ht : P.underlying t = some (.slice e)) (hu : P.underlying u = some .string) (hi : P.info? e = some i) (hz : i.zero = some (.int .u8 0))
    (hsize : i.size = 1) (hby : i.bytes = 1) (v : Value) (n : Nat) (xs : List Value) (hown : w.ownsRow base e 1 v n xs) (s : ByteArray)
    (hbytes : n + s.size ≤ 140737488355328) (hbase : base ≤ w.heap.size) :
    ∃ v' w', (Builtin.append_ #[t, u] ty #[v, .string s]).run P w = .ok v' w' ∧ w'.ownsRow base e 1 v' (n + s.size) (xs ++ Lib.strCells s) ∧ w.grownBy w' v.ownBlock ∧ (v'.ownBlock = v.ownBlock ∨ v'.ownBlock = some w.heap.size) := by
  have h63 : n + s.size ≤ maxLen := by unfold maxLen; omega
  obtain ⟨v', w', hr, h2, h3, h4⟩ := Lib.run_append_own_string (P := P) w base t u ty e i ht hu hi hz hsize hby v n xs hown s h63 hbytes hbase
  refine ⟨v', w', hr, h2, h3, ?_⟩
  have hxl : xs.length = n := by simpa using hown.1
  rcases hown.2 with ⟨rfl, rfl⟩ | ⟨g, cap, cur, rfl, hbg, hg, hnc, hcm, hcs, htake⟩
  · by_cases hm : s.size = 0
    · left; rw [h4.2 ⟨rfl, hm⟩]
    · have hr' := run_append_nil_string (P := P) w t u ty e i (.int .u8 0) ht hu hi hz s (by omega) (by omega) (by rw [hby]; omega)
      rw [hr] at hr'
      injection hr' with hv _
      right; rw [hv]; rfl
  · by_cases hroom : n + s.size ≤ cap
    · have hcs' : cur.size = cap := by simpa using hcs
      have hr' := Lib.run_append_room_string (P := P) w t u ty e i ht hu hi hsize g n cap cur hg s hroom (by omega)
      rw [hr] at hr'
      injection hr' with hv _
      left; rw [hv]; rfl
    · have holds : ∀ j u, xs[j]? = some u → w.cell? ((⟨g, 0, none⟩ : Addr).add j) = some u := hown.cells (g := g) rfl
      have hr' := Lib.run_append_grow_string (P := P) w t u ty e i (.int .u8 0) ht hu hi hz ⟨g, 0, none⟩ n cap xs (by rw [hsize]; simpa using hxl) holds s (by omega) (by omega) (by rw [hby]; exact growslice_fits (by omega) (by omega))
      rw [hr] at hr'
      injection hr' with hv _
      right; rw [hv]; rfl
theorem wpList_append_string_at {P : Program} {w : World} {ops : Array Oper} {rest : List Oper} {o : Oper} {a : Act} {Q : Exit → Act → World → Prop} (hgd : o.guard = none) (sl x : Operand) (t u : TypeId)
    (ho : o.op = .call { callee := .builtin .append, args := #[sl, x], argTypes := #[t, u] })
    (base : Nat) (e : TypeId) (i : TypeInfo) (ht : P.underlying t = some (.slice e)) (hu : P.underlying u = some .string) (hi : P.info? e = some i) (hz : i.zero = some (.int .u8 0))
    (hsize : i.size = 1) (hby : i.bytes = 1)
    (v : Value) (n : Nat) (xs : List Value) (hs : a.eval sl = v) (hown : w.ownsRow base e 1 v n xs) (s : ByteArray) (hx : a.eval x = .string s)
    (hbytes : n + s.size ≤ 140737488355328) (hbase : base ≤ w.heap.size)
    (h : ∀ v' w', w'.ownsRow base e 1 v' (n + s.size) (xs ++ Lib.strCells s) → w.grownBy w' v.ownBlock → (v'.ownBlock = v.ownBlock ∨ v'.ownBlock = some w.heap.size) → wpList P ops Q rest (a.put o.dst v') w') : wpList P ops Q (o :: rest) a w := by
  refine wpList_plain hgd fun K hK => ?_
  obtain ⟨v', w', hr, h2, h3, h4⟩ := run_append_string_at (P := P) w base t u o.type e i ht hu hi hz hsize hby v n xs hown s hbytes hbase
  unfold Oper.wp execOp
  simp only [ho, resolve, invoke, builtin, Sem.run_bind, Sem.run_pure, Result.andThen_ok, List.map_toArray, List.map_cons, List.map_nil, hs, hx, hr]
  exact hK _ _ (h v' w' h2 h3 h4)
/-- a string's bytes, as numbers -/
def bytesS (s : ByteArray) : List Nat := s.data.toList.map (·.toNat)
theorem bytesS_length (s : ByteArray) : (bytesS s).length = s.size := by unfold bytesS; rw [List.length_map]; rfl
theorem bytesS_lt (s : ByteArray) : ∀ x ∈ bytesS s, x < 256 := by
  intro x hx
  simp only [bytesS, List.mem_map] at hx
  obtain ⟨b, _, rfl⟩ := hx
  exact UInt8.toNat_lt b
theorem strCells_bytes (s : ByteArray) : Lib.strCells s = (bytesS s).map u8v := by
  simp [Lib.strCells, bytesS, u8v]
/-- a row that a call owns, as a slice -/
theorem own_formV {w : World} {B n : Nat} {e : TypeId} {v : Value} {xs : List Value} (h : w.ownsRow B e 1 v n xs) : ∃ p cap g, v = .slice p n cap ∧ n ≤ cap ∧ cap ≤ 9223372036854775807 ∧ ((p = none ∧ n = 0 ∧ cap = 0) ∨ p = some ⟨g, 0, none⟩) ∧ ∀ j, j < n → w.cell? ⟨g, j, none⟩ = xs[j]? := by
  have h' := h
  obtain ⟨_, ⟨rfl, h0⟩ | ⟨g, cap, cur, rfl, hb, hg, h1, h2, h3, h4⟩⟩ := h
  · subst h0
    exact ⟨none, 0, 0, rfl, by omega, by omega, .inl ⟨rfl, rfl, rfl⟩, fun j hj => by omega⟩
  · unfold maxLen at h2
    exact ⟨_, cap, g, rfl, h1, by omega, .inr rfl, fun j hj => h'.cellAt j (by omega)⟩
/-- what an Out is behind an append to its row and a store of it -/
theorem out_more {w w1 w2 : World} {B g : Nat} {v v1 : Value} {xs ys : List Nat} (hy : ∀ y ∈ ys, y < 256) (ho : OutIs w B g v xs) (hown : w1.ownsRow B 5 1 v1 (xs.length + ys.length) (xs.map u8v ++ ys.map u8v)) (hg : Grew w w1 (fun k => some k = v.ownBlock)) (hm : Moved w v v1) (h2 : w2 = w1.setCell ⟨g, 0, none⟩ v1) :
    OutIs w2 B g v1 (xs ++ ys) ∧ Grew w w2 (OutS g v) := by
  have hr1 : Row w1 g [v] 112 := ho.row.grew hg (fun h => ho.apart h.symm)
  have hap : v1.ownBlock ≠ some g := by
    rcases hm with hm | ⟨q, hq, hs⟩
    · rw [hm]; exact ho.apart
    · rw [hq]; intro h; cases h; have := ho.row.lt; omega
  have hgs : w1.grownBy w2 (some g) := by rw [h2]; exact grownBy_setCell w1 ⟨g, 0, none⟩ _
  refine ⟨⟨?_, ?_, hap, Nat.le_trans ho.base (Nat.le_trans hg.size hgs.size), ?_⟩, ?_⟩
  · rw [h2]; exact hr1.set_same 0 v1
  · have : w2.ownsRow B 5 1 v1 (xs.length + ys.length) (xs.map u8v ++ ys.map u8v) := hown.kept hgs (.inr hap)
    rw [List.length_append, List.map_append]
    exact this
  · intro x hx
    rcases List.mem_append.1 hx with hx | hx
    · exact ho.lt x hx
    · exact hy x hx
  · refine (hg.mono (fun q hq => Or.inr hq)).trans (Grew.of_grown hgs) (fun q _ hq => ?_)
    cases hq
    exact Or.inl rfl
theorem out_trans {w w1 w2 : World} {g : Nat} {v v1 : Value} (h1 : Grew w w1 (OutS g v)) (hm : Moved w v v1) (h2 : Grew w1 w2 (OutS g v1)) : Grew w w2 (OutS g v) := by
  refine h1.trans h2 (fun q hq hs => ?_)
  rcases hs with rfl | hs
  · exact Or.inl rfl
  · rcases hm with h | ⟨q', h, hq'⟩
    · exact Or.inr (hs.trans h)
    · rw [h] at hs; cases hs; omega
set_option maxHeartbeats 1000000 in
set_option maxRecDepth 100000 in
theorem otext_any (w : World) (B g : Nat) (v : Value) (xs : List Nat) (s : ByteArray) (ho : OutIs w B g v xs) (hl : xs.length + 10 + s.size ≤ 140737488355328) :
    Calls Try.prog 76 #[.pointer (some ⟨g, 0, none⟩), .string s] w fun e w' => e = .returned (.tuple #[]) ∧ ∃ v', OutIs w' B g v' (xs ++ (Wire.num s.size ++ bytesS s)) ∧ Grew w w' (OutS g v) ∧ Moved w v v' := by
  obtain ⟨i5i, HI5, HE1, HE2, HE3⟩ := i5h
  have hnum := onum_any w B g v xs s.size (by omega) ho (by omega)
  have ks : (s.size : Int) ≤ 140737488355328 := by omega
  clear ho
  go_enter Try.func76, Try.ntmps76
  go_wp2_with fail
  refine hnum.mono ?_
  rintro e w1 ⟨rfl, v1, ho1, hg1, hm1⟩
  have c0 : w1.cell? ⟨g, 0, none⟩ = some v1 := ho1.row.cell 0
  have f0 := ho1.row.frozen 0
  have hown := ho1.own
  have hbase := ho1.base
  have HO := hid_in ho1
  have HG1 := hid_in hg1
  have HM1 := hid_in hm1
  have hnl := num_length s.size
  obtain ⟨ys, hys⟩ : ∃ ys, Hid (ys = xs ++ Wire.num s.size) := ⟨_, rfl⟩
  have hyl : ys.length ≤ xs.length + 10 := by rw [hys.out, List.length_append]; omega
  rw [← hys.out] at hown HO
  have hfit : ys.length + s.size ≤ 140737488355328 := by omega
  clear hnum ho1 hg1 hm1 hnl hyl
  go_wp2_with (at_builtin; refine wpList_append_string_at rfl _ _ 54 9 rfl B 5 i5i Try.underlying54 Try.underlying9 HI5.out HE3.out HE1.out HE2.out _ _ _ rfl hown s rfl hfit hbase ?_; intro v2 w2 hown2 hg2 hm2; have HG2 : Hid (w1.grownBy w2 v1.ownBlock) := hg2; have HM2 : Hid (Moved w1 v1 v2) := (Or.imp id (fun h => ⟨_, h, Nat.le_refl _⟩) hm2); clear hm2; obtain ⟨p2, c2, g2, rfl, _, _, _, _⟩ := own_formV hown2; have cg : w2.cell? ⟨g, 0, none⟩ = some v1 := (HO.out.row.grew (Grew.of_grown HG2.out) (fun h => HO.out.apart h.symm)).cell 0; have fg := (HO.out.row.grew (Grew.of_grown HG2.out) (fun h => HO.out.apart h.symm)).frozen 0)
  have hown2' : w2.ownsRow B 5 1 (.slice p2 (ys.length + s.size) c2) (ys.length + (bytesS s).length) (ys.map u8v ++ (bytesS s).map u8v) := by rw [bytesS_length, ← strCells_bytes]; exact hown2
  have hmore := out_more (bytesS_lt s) HO.out hown2' (Grew.of_grown HG2.out) HM2.out rfl
  go_end0
  refine ⟨rfl, _, ?_, out_trans HG1.out HM1.out hmore.2, HM1.out.trans HM2.out HG1.out.size⟩
  rw [← List.append_assoc, ← hys.out]
  exact hmore.1
end Go.Proofs.Ytjjofjnhhajjjaa.Nd
namespace Go.Proofs.Ytjjofjnhhajjjaa.Nd
open Go.RowKit
def facc (bs : List Nat) (i : Nat) : List Nat := bs.take i ++ List.replicate (32 - i) 0
def fold (bs : List Nat) : List Nat := facc bs (min bs.length 32)
end Go.Proofs.Ytjjofjnhhajjjaa.Nd
namespace Go.Proofs.Ytjjofjnhhajjjaa.Nd
open Go.RowKit
theorem Sl.grew {w w' : World} {p : Option Addr} {bs : List Nat} {cap b off : Nat} {S : Nat → Prop} (h : Sl w p bs cap b off) (hg : Grew w w' S) (hn : 0 < bs.length → ¬ S b) : Sl w' p bs cap b off :=
  ⟨h.lt, h.cap1, h.cap2, h.at_, fun j hj => by
    have hc := h.src j hj
    have hlt := World.block_lt_of_cell? w _ hc
    have hb := hg.block b hlt (hn (by omega))
    have : w'.cell? ⟨b, off + j, none⟩ = w.cell? ⟨b, off + j, none⟩ := by
      simp only [World.cell?, hb]
    rw [this]; exact hc⟩
/-- a part of a slice of bytes from a place on -/
theorem Sl.rest {w : World} {p q : Option Addr} {bs : List Nat} {cap b off : Nat} (h : Sl w p bs cap b off) (n : Nat) (hn : n ≤ bs.length) (hq : n < bs.length → q = some ⟨b, off + n, none⟩) : Sl w q (bs.drop n) (cap - n) b (off + n) :=
  ⟨fun x hx => h.lt x (List.mem_of_mem_drop hx), by have := h.cap1; simp; omega, by have := h.cap2; omega, fun h0 => hq (by simp at h0; omega), fun j hj => by
    have hj' : n + j < bs.length := by simp at hj; omega
    rw [Nat.add_assoc, h.src (n + j) hj']
    simp⟩
end Go.Proofs.Ytjjofjnhhajjjaa.Nd
namespace Go.Proofs.Ytjjofjnhhajjjaa.Nd
open Go.RowKit
/-- the same, its bytes in a block below B -/
def InB (w : World) (g : Nat) (bs : List Nat) (e B : Nat) : Prop :=
  ∃ p cap b off, Row w g [.slice p bs.length cap, .int .i64 (e : Int)] 117 ∧ Sl w p bs cap b off ∧ (p = none → bs.length = 0 ∧ cap = 0) ∧ (0 < bs.length → b ≠ g ∧ b < B)
theorem InIs.toB {B : Nat} {w : World} {g e : Nat} {bs : List Nat} (h : InIs B w g bs e) : InB w g bs e B := h.ex
theorem InB.is {w : World} {g e B : Nat} {bs : List Nat} (h : InB w g bs e B) : InIs B w g bs e := ⟨h⟩
theorem InB.below {w w' : World} {g e B : Nat} {bs : List Nat} (h : InB w g bs e B) (hb : Below w.heap.size w w') : InB w' g bs e B := by
  obtain ⟨p, cap, b, off, hr, hsl, hno, hne⟩ := h
  exact ⟨p, cap, b, off, hr.below hb hr.lt, hsl.below hb, hno, hne⟩
/-- a block from B on is changed -/
theorem InB.grown {w w' : World} {g e B k : Nat} {bs : List Nat} (h : InB w g bs e B) (hg : w.grownBy w' (some k)) (hk : B ≤ k) (hgk : g ≠ k) : InB w' g bs e B := by
  obtain ⟨p, cap, b, off, hr, hsl, hno, hne⟩ := h
  exact ⟨p, cap, b, off, hr.grown hg (by simpa using hgk), hsl.grown hg (fun h0 => by have := (hne h0).2; simp; omega), hno, hne⟩
end Go.Proofs.Ytjjofjnhhajjjaa.Nd
namespace Go.Proofs.Ytjjofjnhhajjjaa.Nd
open Go.RowKit
end Go.Proofs.Ytjjofjnhhajjjaa.Nd
namespace Go.Proofs.Ytjjofjnhhajjjaa.Nd
open Go.RowKit
theorem rnumF_numF : ∀ (f k n acc : Nat) (r : List Nat), k + f = 9 → n * 128 ^ k < 18446744073709551616 → (0 < k → 0 < n) → Wire.rnumF (f + 1) k acc (Wire.numF f n ++ r) = (acc + n * 128 ^ k, r, 0)
  | 0, k, n, acc, r, hk, hn, h0 => by
    have hk9 : k = 9 := by omega
    subst hk9
    have e9 : (128 : Nat) ^ 9 = 9223372036854775808 := by decide
    rw [e9] at hn
    have hn1 : n ≤ 1 := by omega
    have hn0 := h0 (by omega)
    simp only [Wire.numF, List.singleton_append, Wire.rnumF]
    rw [if_neg (by omega), if_pos (by omega)]
  | f + 1, k, n, acc, r, hk, hn, h0 => by
    by_cases hl : n < 128
    · simp only [Wire.numF, if_pos hl, List.singleton_append, Wire.rnumF]
      rw [if_neg (by omega)]
    · simp only [Wire.numF, if_neg hl, List.cons_append]
      rw [show f + 1 + 1 = (f + 1) + 1 from rfl]
      conv => lhs; unfold Wire.rnumF
      rw [if_neg (by omega), if_neg (by omega)]
      have hm : n = n % 128 + 128 * (n / 128) := (Nat.mod_add_div n 128).symm
      have e1 : (128 : Nat) ^ (k + 1) = 128 ^ k * 128 := Nat.pow_succ ..
      have hd : n / 128 * 128 ^ (k + 1) ≤ n * 128 ^ k := by
        rw [e1, Nat.mul_comm (128 ^ k) 128, ← Nat.mul_assoc]
        exact Nat.mul_le_mul_right _ (Nat.div_mul_le_self n 128)
      rw [rnumF_numF f (k + 1) (n / 128) _ r (by omega) (by omega) (fun _ => by omega)]
      have e2 : (n % 128 + 128) % 128 = n % 128 := by omega
      have e3 : acc + n % 128 * 128 ^ k + n / 128 * 128 ^ (k + 1) = acc + n * 128 ^ k := by
        rw [e1, Nat.mul_comm (128 ^ k) 128, ← Nat.mul_assoc, Nat.add_assoc, ← Nat.add_mul]
        congr 2
        omega
      rw [e2, e3]
theorem rnum_num (n : Nat) (r : List Nat) (hn : n < 18446744073709551616) : Wire.rnum (Wire.num n ++ r) = (n, r, 0) := by
  have := rnumF_numF 9 0 n 0 r rfl (by simpa using hn) (by omega)
  simpa [Wire.rnum, Wire.num] using this
theorem str_bytesS (S : ByteArray) : str (bytesS S) = S := by
  unfold str bytesS
  rw [List.map_map]
  have : (UInt8.ofNat ∘ fun x : UInt8 => x.toNat) = id := by funext x; simp
  rw [this, List.map_id]
end Go.Proofs.Ytjjofjnhhajjjaa.Nd
namespace Go.Proofs.Ytjjofjnhhajjjaa.Nd
open Go.RowKit
/-- the reference's In at block g reads the bytes bs, and stands at k; what was wrong is e -/
structure RIs (B : Nat) (w : World) (g : Nat) (t : TypeId) (bs : List Nat) (k e : Nat) : Prop where
  ex : ∃ p cap b off, Row w g [.slice p bs.length cap, .int .i64 (k : Int), .int .i64 (e : Int)] t ∧ Sl w p bs cap b off ∧ (0 < bs.length → b ≠ g ∧ b < B)
  le : k ≤ bs.length
theorem RIs.len {B : Nat} {w : World} {g : Nat} {t : TypeId} {bs : List Nat} {k e : Nat} (h : RIs B w g t bs k e) : bs.length ≤ 9223372036854775807 := by
  obtain ⟨p, cap, b, off, hr, hsl, hne⟩ := h.ex
  have := hsl.cap1
  have := hsl.cap2
  omega
end Go.Proofs.Ytjjofjnhhajjjaa.Nd
namespace Go.Proofs.Ytjjofjnhhajjjaa.Nd
open Go.RowKit
theorem RIs.drew {B : Nat} {w : World} {g : Nat} {t : TypeId} {bs : List Nat} {k e : Nat} (h : RIs B w g t bs k e) : RIs B w.drew g t bs k e := by
  obtain ⟨p, cap, b, off, hr, hsl, hne⟩ := h.ex
  exact ⟨⟨p, cap, b, off, hr.drew, ⟨hsl.lt, hsl.cap1, hsl.cap2, hsl.at_, hsl.src⟩, hne⟩, h.le⟩
end Go.Proofs.Ytjjofjnhhajjjaa.Nd
