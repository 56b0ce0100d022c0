/-
  need: over a list of any length. put, PutAll: over a list of any length. The walk of readItems.
-/
import Derived.Laws.Tables
import Derived.Test.YtamaejlbojbbeaaGreatDoorQ00
import Derived.Test.YtamaejlbojbbeaaGreatDoorQ01
import Derived.Test.YtamaejlbojbbeaaGreatDoorQ02
import Derived.Test.YtamaejlbojbbeaaGreatDoorQ03
import Derived.Test.YtamaejlbojbbeaaGreatDoorQ04
import Derived.Test.YtamaejlbojbbeaaGreatDoorQ05
import Derived.Test.YtamaejlbojbbeaaGreatDoorQ06
import Derived.Test.YtamaejlbojbbeaaGreatDoorQ07
import Derived.Test.YtamaejlbojbbeaaGreatDoorQ08
import Derived.Test.YtamaejlbojbbeaaGreatDoorQ09
namespace Go.Proofs.YtamaejlbojbbeaaGreatDoor.Sb
open Go.RowKit
/-- how many bytes of the first blobs are new to a store -/
def needI (M : List Nat → Option (List Nat)) (L : List (List Nat)) : Nat → Int
  | 0 => 0
  | i + 1 => needI M L i + (if Sha.sum (L.getD i []) ∈ (L.take i).map Sha.sum ∨ (M (Sha.sum (L.getD i []))).isSome = true then 0 else ((L.getD i []).length : Int))
theorem needI_le (M : List Nat → Option (List Nat)) (L : List (List Nat)) (hl : ∀ b ∈ L, b.length ≤ 4096) (i : Nat) : 0 ≤ needI M L i ∧ needI M L i ≤ 4096 * i := by
  induction i with
  | zero => simp [needI]
  | succ i ih =>
    have hg : (L.getD i []).length ≤ 4096 := by
      by_cases hi : i < L.length
      · rw [List.getD_eq_getElem?_getD, List.getElem?_eq_getElem hi]; exact hl _ (List.getElem_mem hi)
      · rw [List.getD_eq_getElem?_getD, List.getElem?_eq_none (Nat.le_of_not_lt hi)]; simp
    unfold needI
    split <;> constructor <;> omega
theorem fills_range {w : World} {b : Nat} {vs : List Value} {k : Nat} {t : TypeId} {xs : List (List Value)} (h : Nd.Fills vs k xs) (hr : Row w b vs t) {i : Nat} {us : List Value} (hi : xs[i]? = some us) : w.rangeAt b (i * k) us := fun j v hv => by
  rw [hr.cell]; exact h i us hi j v hv
theorem range_below {w w' : World} {B b o : Nat} {cs : List Value} (h : w.rangeAt b o cs) (hb : Below B w w') (hlt : b < B) : w'.rangeAt b o cs := Nd.rangeAt_below h hb hlt
/-- the counted digests -/
def Cnt (W : World) (cm : Nat) (M : List Nat → Option (List Nat)) (D : List (List Nat)) : Prop := ∃ V k, MapOk W cm V k ∧ (∀ d, (V d).isSome = true ↔ d ∈ D ∧ M d = none) ∧ ∀ d x, V d = some x → x = .agg #[]
theorem Cnt.look {W : World} {cm : Nat} {M : List Nat → Option (List Nat)} {D : List (List Nat)} (h : Cnt W cm M D) (d : List Nat) (hd : d.length = 32) (t : Bool) (ht : t = true ↔ d ∈ D ∧ M d = none) : (Instr.lookup 150 (.map (some cm)) (dv d) true).run Tryz.prog W = .ok (.tuple #[.agg #[], .bool t]) W := by
  obtain ⟨V, k, hV, h1, h2⟩ := h
  have hl := hV.look 150 151 Tryz.underlying150 (.agg #[]) (zero100 _) d hd
  have e1 : (V d).getD (.agg #[]) = .agg #[] := by
    cases hv : V d with
    | none => rfl
    | some x => rw [h2 d x hv]; rfl
  have e2 : (V d).isSome = t := by rw [Bool.eq_iff_iff, h1, ht]
  rw [e1, e2] at hl
  exact hl
theorem Cnt.below {W W' : World} {cm : Nat} {M : List Nat → Option (List Nat)} {D : List (List Nat)} (h : Cnt W cm M D) (hb : Below W.heap.size W W') : Cnt W' cm M D := by
  obtain ⟨V, k, hV, h1, h2⟩ := h
  exact ⟨V, k, hV.of_block (hb.block _ hV.lt), h1, h2⟩
theorem Cnt.lt {W : World} {cm : Nat} {M : List Nat → Option (List Nat)} {D : List (List Nat)} (h : Cnt W cm M D) : cm < W.heap.size := by
  obtain ⟨V, k, hV, _⟩ := h; exact hV.lt
theorem Cnt.same {W : World} {cm : Nat} {M : List Nat → Option (List Nat)} {D : List (List Nat)} (h : Cnt W cm M D) (d : List Nat) (hd : d ∈ D ∨ (M d).isSome = true) : Cnt W cm M (D ++ [d]) := by
  obtain ⟨V, k, hV, h1, h2⟩ := h
  refine ⟨V, k, hV, fun x => ?_, h2⟩
  rw [h1]
  constructor
  · rintro ⟨a, b⟩; exact ⟨List.mem_append_left _ a, b⟩
  · rintro ⟨a, b⟩
    refine ⟨?_, b⟩
    rcases List.mem_append.1 a with a | a
    · exact a
    · simp at a
      subst a
      rcases hd with hd | hd
      · exact hd
      · rw [b] at hd; cases hd
theorem Cnt.add {W : World} {cm : Nat} {M : List Nat → Option (List Nat)} {D : List (List Nat)} (h : Cnt W cm M D) (d : List Nat) (hd : d.length = 32) (hM : M d = none) : ∃ W', (Instr.mapUpdate 150 (.map (some cm)) (dv d) (.agg #[])).run Tryz.prog W = .ok () W' ∧ Cnt W' cm M (D ++ [d]) ∧ W.grownBy W' (some cm) ∧ W'.heap.size = W.heap.size := by
  obtain ⟨V, k, hV, h1, h2⟩ := h
  obtain ⟨W', hr, hV', hg, hs⟩ := hV.store 150 151 Tryz.underlying150 d hd (.agg #[])
  refine ⟨W', hr, ⟨_, _, hV', fun x => ?_, fun x y => ?_⟩, hg, hs⟩
  · unfold upd
    split
    · rename_i hx; subst hx; simp [hM]
    · rename_i hx; rw [h1]; simp [hx]
  · unfold upd
    split
    · intro h; exact (Option.some.inj h).symm
    · exact h2 x y
theorem Cnt.new (w : World) (M : List Nat → Option (List Nat)) : Cnt (w.alloc (.map #[] 0)) w.heap.size M [] := ⟨_, _, MapOk.new w, fun d => by simp, fun d x h => by cases h⟩
set_option maxHeartbeats 2000000 in
set_option maxRecDepth 100000 in
theorem need_all {w : World} {g m n : Nat} {M : List Nat → Option (List Nat)} {q u : Int} (h : St w g m M n q u) (L : List (List Nat)) (v : Value) (hBL : BL w v L) (hl : ∀ b ∈ L, b.length ≤ 4096) (hn : L.length ≤ 4194304) (db : Nat) (ds : List Value) (hr : Row w db ds 30) (hf : Nd.Fills ds 32 (sumsC L)) :
    Calls Tryz.prog 117 #[.pointer (some ⟨g, 0, none⟩), v, .slice (some ⟨db, 0, none⟩) L.length L.length] w fun e w' => e = .returned (.int .i64 (needI M L L.length)) ∧ Below w.heap.size w w' := by
  have hm1 : ∀ w', (Instr.makeMap 150 none).run Tryz.prog w' = .ok (.map (some w'.heap.size)) (w'.alloc (.map #[] 0)) := fun w' => run_makeMap 150 w'
  obtain ⟨Z, hz, hzl⟩ := zero39
  obtain ⟨p, cap, b, o, rfl, h1, h2, h3, h4⟩ := hBL
  have H3 := hid_in h3
  have H4 := hid_in h4
  have HL := hid_in hl
  have HST := hid_in h
  have HR := hid_in hr
  have HF := hid_in hf
  have HZL := hid_in hzl
  have HZ := hid_in hz
  clear h hl h3 h4 hr hf hzl
  go_enter Tryz.func117, Tryz.ntmps117
  go_wp2_with fail
  go_loopw [16, 7] (fun vi vt W => ∃ i : Nat, i ≤ L.length ∧ vi = .int .i64 (i : Int) ∧ vt = .int .i64 (needI M L i) ∧ Hid (Below w.heap.size w W) ∧ Hid (Cnt W w.heap.size M ((L.take i).map Sha.sum))) (fun vi _ _ => L.length - (intOf vi).toNat)
  case atStart =>
    exact ⟨0, by omega, rfl, rfl, ((Below.refl _ _).alloc (Nat.le_refl _) _), Cnt.new w M⟩
  case round =>
    obtain ⟨i, hi, rfl, rfl, hbw, hcnt⟩ := hrel
    by_cases hlt : i < L.length
    · have hg : L[i]? = some L[i] := List.getElem?_eq_getElem hlt
      have hxl := HL.out _ (List.getElem_mem hlt)
      obtain ⟨hp, hb⟩ := H3.out (by intro h; simp [h] at hlt)
      obtain ⟨pi, ci, bi, oi, hc, _, _⟩ := H4.out i _ hg
      have hcl := World.block_lt_of_cell? w _ hc
      obtain ⟨V, HV⟩ : ∃ V, Hid (V = (Sha.sum L[i]).map u8v) := ⟨_, hid_in rfl⟩
      have hvl : V.length = 32 := by rw [HV.out, List.length_map, sum_length]
      have hv1 : ∀ v ∈ V, v.oneCell' = true := by rw [HV.out]; exact one_u8 _
      have HRG := hid_in (range_below (fills_range HF.out HR.out (i := i) (us := V) (by rw [HV.out]; simp [sumsC, hg])) hbw.out HR.out.lt)
      have HV2 := HV
      have HVD : Hid (dv (Sha.sum L[i]) = .agg V.toArray) := by show _ = _; rw [HV.out]; rfl
      have HST1 : Hid (needI M L (i + 1) = needI M L i + (if Sha.sum L[i] ∈ (L.take i).map Sha.sum ∨ (M (Sha.sum L[i])).isSome = true then 0 else (L[i].length : Int))) := by
        show _ = _
        rw [needI, List.getD_eq_getElem?_getD, hg]; rfl
      have HTK : Hid ((L.take (i + 1)).map Sha.sum = (L.take i).map Sha.sum ++ [Sha.sum L[i]]) := by show _ = _; rw [take_succ_get hg, List.map_append]; rfl
      have hnb := needI_le M L HL.out i
      have HD : Hid ((Sha.sum L[i]).length = 32) := sum_length _
      have HV1 := hid_in hv1
      have HVL := hid_in hvl
      have HC := hid_in hc
      clear hv1 hvl hg hc HV
      subst hp
      generalize L[i] = x at *
      generalize Sha.sum x = d at *
      generalize (L.take i).map Sha.sum = D at *
      generalize needI M L i = T at *
      generalize x.length = xn at *
      have HCL := hid_in hcl
      have HBW := hid_in hbw.out
      have HCN := hid_in hcnt.out
      have hwl := hcnt.out.lt
      have hlr := HR.out.lt
      clear hbw hcnt HR HF
      have HS5 : Hid (∀ w5, Below wr.heap.size wr w5 → ∀ t : Bool, (t = true ↔ d ∈ D ∧ M d = none) → (Instr.lookup 150 (.map (some w.heap.size)) (.agg V.toArray) true).run Tryz.prog w5 = .ok (.tuple #[.agg #[], .bool t]) w5) := by
        intro w5 hb5 t ht
        rw [← HVD.out]
        exact (HCN.out.below hb5).look d HD.out t ht
      by_cases hin : d ∈ D ∧ M d = none
      · have HT : Hid (needI M L (i + 1) = T) := by show _ = _; rw [HST1.out, if_pos (Or.inl hin.1)]; omega
        have HIN := hid_in hin
        clear hin HST1
        go_wp2_with (first | (refine wpList_load_mid rfl 30 _ rfl db _ rfl V _ HRG.out Tryz.underlying30 rfl (by rw [info39, HVL.out]) ?_) | (refine wpList_store_new rfl _ _ rfl Z V HZL HVL HV1 rfl rfl ?_; intro w5 hr5 hb5; have hl5 := HS5.out w5 hb5 true (by simp [HIN.out.1, HIN.out.2]); have HB5 := hid_in hb5; clear hb5) | (refine wpList_load_Row rfl 30 _ rfl wr.heap.size rfl 30 _ hr5 _ Tryz.underlying30 rfl 32 info39 HVL.out ?_))
        go_roundw
        case rel =>
          go_light
          refine ⟨i + 1, by omega, by go_num, by rw [HT.out], ?_, ?_⟩
          · exact (HBW.out.trans (HB5.out.mono HBW.out.size)).alloc (Nat.le_trans HBW.out.size HB5.out.size) _
          · rw [HTK.out]
            exact ((HCN.out.below HB5.out).below ((Below.refl _ _).alloc (Nat.le_refl _) _)).same d (Or.inl HIN.out.1)
        case measure => simp [intOf]; omega
      · cases hM : M d with
        | some y =>
          have HT : Hid (needI M L (i + 1) = T) := by show _ = _; rw [HST1.out, if_pos (Or.inr (by rw [hM]; rfl))]; omega
          have HM := hid_in hM
          clear hin HST1 hM
          go_wp2_with (first | (refine wpList_load_mid rfl 30 _ rfl db _ rfl V _ HRG.out Tryz.underlying30 rfl (by rw [info39, HVL.out]) ?_) | (refine wpList_store_new rfl _ _ rfl Z V HZL HVL HV1 rfl rfl ?_; intro w5 hr5 hb5; have hl5 := HS5.out w5 hb5 false (by simp [HM.out]); have HB5 := hid_in hb5; clear hb5) | (refine wpList_load_Row rfl 30 _ rfl wr.heap.size rfl 30 _ hr5 _ Tryz.underlying30 rfl 32 info39 HVL.out ?_) | (refine wpList_load_RowG (by rfl) 30 _ rfl wr.heap.size rfl 30 _ (hr5.alloc _) _ Tryz.underlying30 rfl 32 info39 HVL.out ?_) | (go_at_call 162; refine (has_any (((HST.out.below HBW.out).below HB5.out).alloc _) d HD.out V HV2).mono ?_; rw [HM.out]; rintro e w8 ⟨rfl, hb8⟩; have HB8 := hid_in hb8; clear hb8))
          go_roundw
          case rel =>
            go_light
            have hb8 : Below wr.heap.size wr w8 := (HB5.out.alloc HB5.out.size _).trans (HB8.out.mono (by simp; have := HB5.out.size; omega))
            refine ⟨i + 1, by omega, by go_num, by rw [HT.out], HBW.out.trans (hb8.mono HBW.out.size), ?_⟩
            rw [HTK.out]
            exact (HCN.out.below hb8).same d (Or.inr (by rw [HM.out]; rfl))
          case measure => simp [intOf]; omega
        | none =>
          have hnd : d ∉ D := fun h => hin ⟨h, hM⟩
          have HT : Hid (needI M L (i + 1) = T + (xn : Int)) := by show _ = _; rw [HST1.out, if_neg (by rintro (h | h); exact hnd h; rw [hM] at h; cases h)]
          have HM := hid_in hM
          have HND := hid_in hnd
          clear hin HST1 hM hnd
          have hxi : (xn : Int) ≤ 4096 := by omega
          go_wp2_with (first | (refine wpList_load_mid rfl 30 _ rfl db _ rfl V _ HRG.out Tryz.underlying30 rfl (by rw [info39, HVL.out]) ?_) | (refine wpList_store_new rfl _ _ rfl Z V HZL HVL HV1 rfl rfl ?_; intro w5 hr5 hb5; have hl5 := HS5.out w5 hb5 false (by simp [HND.out]); have HB5 := hid_in hb5; clear hb5) | (refine wpList_load_Row rfl 30 _ rfl wr.heap.size rfl 30 _ hr5 _ Tryz.underlying30 rfl 32 info39 HVL.out ?_) | (refine wpList_load_RowG (by rfl) 30 _ rfl wr.heap.size rfl 30 _ (hr5.alloc _) _ Tryz.underlying30 rfl 32 info39 HVL.out ?_) | (go_at_call 162; refine (has_any (((HST.out.below HBW.out).below HB5.out).alloc _) d HD.out V HV2).mono ?_; rw [HM.out]; rintro e w8 ⟨rfl, hb8⟩; have hb78 : Below wr.heap.size wr w8 := (HB5.out.alloc HB5.out.size _).trans (hb8.mono (by simp; have := HB5.out.size; omega)); have hr8 := hr5.below (((Below.refl _ _).alloc (Nat.le_refl _) _).trans (hb8.mono (by simp))) hr5.lt; obtain ⟨w9, hup, hC9, hg9, hs9⟩ := (HCN.out.below hb78).add d HD.out HM.out; rw [HVD.out] at hup; have hb09 : Below w.heap.size w w9 := below_of_grown (HBW.out.trans (hb78.mono HBW.out.size)) hg9 (Nat.le_trans HBW.out.size hb78.size) (Nat.le_refl _); have c09 := (hb09.cell HCL.out).trans HC.out; have HB9 := hid_in hb09; have HC9 := hid_in hC9; clear hb8 hb78 hC9 hg9 hs9 hb09 hl5 hr5) | (refine wpList_load_Row rfl 30 _ rfl wr.heap.size rfl 30 _ hr8 _ Tryz.underlying30 rfl 32 info39 HVL.out ?_))
          go_roundw
          case rel =>
            go_light
            refine ⟨i + 1, by omega, by go_num, by rw [HT.out], HB9.out, ?_⟩
            rw [HTK.out]
            exact HC9.out
          case measure => simp [intOf]; omega
    · obtain rfl : i = L.length := by omega
      go_wp2_with fail
      go_ret
      exact ⟨rfl, hbw.out⟩
end Go.Proofs.YtamaejlbojbbeaaGreatDoor.Sb
namespace Go.Proofs.YtamaejlbojbbeaaGreatDoor.Sb
open Go.RowKit
attribute [local go_sem ↓] run_load39 quiet_load39 wp_load39 Go.wp_at_zero Go.wp_at_succ
attribute [local go_sem] Is39_drewN rowOf_drewN Is39_drew rowOf_drew ptrB_pointer
/-- what a store has behind the first blobs of a list -/
def layI (M : List Nat → Option (List Nat)) (L : List (List Nat)) : Nat → List Nat → Option (List Nat)
  | 0 => M
  | i + 1 => updM (layI M L i) (Sha.sum (L.getD i [])) (L.getD i [])
/-- how many blobs it has -/
def cntI (M : List Nat → Option (List Nat)) (n : Nat) (L : List (List Nat)) : Nat → Nat
  | 0 => n
  | i + 1 => if (layI M L i (Sha.sum (L.getD i []))).isSome then cntI M n L i else cntI M n L i + 1
theorem St.off {w : World} {g m n : Nat} {M : List Nat → Option (List Nat)} {q u : Int} (h : St w g m M n q u) {b k : Nat} {p : Option Addr} {l c : Nat} (hc : w.cell? ⟨b, k, none⟩ = some (.slice p l c)) : b ≠ g ∧ b ≠ m := by
  constructor
  · rintro rfl
    rw [h.row.cell] at hc
    have hlt : k < 3 := by
      have := (List.getElem?_eq_some_iff.1 hc).1
      simpa using this
    rcases (show k = 0 ∨ k = 1 ∨ k = 2 by omega) with rfl | rfl | rfl <;> simp at hc
  · rintro rfl
    obtain ⟨V, ⟨es, c, hb, _⟩, _⟩ := h.map
    simp [World.cell?, hb] at hc
set_option maxHeartbeats 1000000 in
set_option maxRecDepth 100000 in
theorem put_all_full {w : World} {g m n : Nat} {M : List Nat → Option (List Nat)} {q u : Int} (h : St w g m M n q u) (htab : Tab w) (L : List (List Nat)) (v : Value) (hBL : BL w v L) (hl : ∀ b ∈ L, b.length ≤ 4096) (hn : L.length ≤ 4194304) (hu0 : 0 ≤ u) (huq : u ≤ q) (hq : q ≤ 9223372036854775807)
    (N : Int) (HN : Hid (N = needI M L L.length)) (hfull : q - u < N) :
    Calls Tryz.prog 59 #[.pointer (some ⟨g, 0, none⟩), v] w fun e w' => e = .returned (.tuple #[.slice none 0 0, .int .i64 3]) ∧ Below w.heap.size w w' := by
  have hc := hid_in (contains_all L v w hBL false (by constructor; (intro h; cases h); (rintro ⟨b, hb, h⟩; have := hl b hb; omega)))
  have HSUM := hid_in (sums_all L v w htab hBL hl hn)
  have HNEED : Hid (∀ w1, Below w.heap.size w w1 → (∃ vs, Row w1 w.heap.size vs 30 ∧ vs.length = L.length * 32 ∧ Nd.Fills vs 32 (sumsC L)) → Calls Tryz.prog 117 #[.pointer (some ⟨g, 0, none⟩), v, .slice (some ⟨w.heap.size, 0, none⟩) L.length L.length] w1 fun e w' => e = .returned (.int .i64 N) ∧ Below w1.heap.size w1 w' ∧ w'.cell? ⟨g, 1, none⟩ = some (.int .i64 q) ∧ w'.cell? ⟨g, 2, none⟩ = some (.int .i64 u)) := by
    intro w1 hb1 ⟨vs, hr1, _, hf1⟩
    refine (need_all (h.below hb1) L v (hBL.below hb1) hl hn w.heap.size vs hr1 hf1).mono ?_
    rintro e w2 ⟨rfl, hb2⟩
    have h2 := (h.below hb1).below hb2
    exact ⟨by rw [HN.out], hb2, h2.row.cell 1, h2.row.cell 2⟩
  obtain ⟨p, cap, b, o, rfl, _, _, _, _⟩ := hBL
  clear h htab hl HN
  go_enter Tryz.func59, Tryz.ntmps59
  go_wp2_with (first | (go_at_call 114; refine hc.out.mono ?_; rintro e w1 ⟨rfl, hw⟩; obtain rfl := hw.symm) | (go_at_call 116; refine HSUM.out.mono ?_; rintro e w1 ⟨rfl, hr1, hb1⟩; have HR1 := hid_in hr1; clear hr1) | (go_at_call 117; refine (HNEED.out _ hb1 HR1.out).mono ?_; rintro e w2 ⟨rfl, hb2, c1, c2⟩))
  go_quiet (fail)
  go_wp2
  go_ret2
  exact ⟨rfl, below_drewN (hb1.trans (hb2.mono hb1.size)) _⟩
set_option maxHeartbeats 2000000 in
set_option maxRecDepth 100000 in
theorem put_all_ok {w : World} {g m n : Nat} {M : List Nat → Option (List Nat)} {q u : Int} (h : St w g m M n q u) (htab : Tab w) (L : List (List Nat)) (v : Value) (hBL : BL w v L) (hl : ∀ b ∈ L, b.length ≤ 4096) (hn : L.length ≤ 4194304) (hu0 : 0 ≤ u) (huq : u ≤ q) (hq : q ≤ 9223372036854775807)
    (N : Int) (HN : Hid (N = needI M L L.length)) (hfull : N ≤ q - u) :
    Calls Tryz.prog 59 #[.pointer (some ⟨g, 0, none⟩), v] w fun e w' => (∃ z, e = .returned (.tuple #[z, .int .i64 0])) ∧ St w' g m (layI M L L.length) (cntI M n L L.length) q (u + N) ∧ Kp g m w w' := by
  have hN0 : 0 ≤ N := by rw [HN.out]; exact (needI_le M L hl _).1
  have hc := hid_in (contains_all L v w hBL false (by constructor; (intro h; cases h); (rintro ⟨b, hb, h⟩; have := hl b hb; omega)))
  have HSUM := hid_in (sums_all L v w htab hBL hl hn)
  have HNEED : Hid (∀ w1, Below w.heap.size w w1 → (∃ vs, Row w1 w.heap.size vs 30 ∧ vs.length = L.length * 32 ∧ Nd.Fills vs 32 (sumsC L)) → Calls Tryz.prog 117 #[.pointer (some ⟨g, 0, none⟩), v, .slice (some ⟨w.heap.size, 0, none⟩) L.length L.length] w1 fun e w' => e = .returned (.int .i64 N) ∧ Below w1.heap.size w1 w' ∧ w'.cell? ⟨g, 1, none⟩ = some (.int .i64 q) ∧ w'.cell? ⟨g, 2, none⟩ = some (.int .i64 u)) := by
    intro w1 hb1 ⟨vs, hr1, _, hf1⟩
    refine (need_all (h.below hb1) L v (hBL.below hb1) hl hn w.heap.size vs hr1 hf1).mono ?_
    rintro e w2 ⟨rfl, hb2⟩
    have h2 := (h.below hb1).below hb2
    exact ⟨by rw [HN.out], hb2, h2.row.cell 1, h2.row.cell 2⟩
  obtain ⟨p, cap, b, o, rfl, h1, h2, h3, h4⟩ := hBL
  obtain ⟨Z, hz, hzl⟩ := zero39
  have HZL := hid_in hzl
  have HST := hid_in h
  have H3 := hid_in h3
  have H4 := hid_in h4
  have HL := hid_in hl
  clear h htab hl HN h3 h4 hzl
  go_enter Tryz.func59, Tryz.ntmps59
  go_wp2_with (first | (go_at_call 114; refine hc.out.mono ?_; rintro e w1 ⟨rfl, hw⟩; obtain rfl := hw.symm) | (go_at_call 116; refine HSUM.out.mono ?_; rintro e w1 ⟨rfl, hr1, hb1⟩; have HR1 := hid_in hr1; clear hr1) | (go_at_call 117; refine (HNEED.out _ hb1 HR1.out).mono ?_; rintro e w2 ⟨rfl, hb2, c1, c2⟩))
  go_quiet (fail)
  obtain ⟨W, HW⟩ : ∃ W, Hid (w2.drewN nq = W) := ⟨_, hid_in rfl⟩
  have HBW : Hid (Below w.heap.size w W) := by show Below _ _ _; rw [← HW.out]; exact below_drewN (hb1.trans (hb2.mono hb1.size)) _
  have HRW : Hid (∃ vs, Row W w.heap.size vs 30 ∧ Nd.Fills vs 32 (sumsC L)) := by
    obtain ⟨vs, hr, _, hf⟩ := HR1.out
    exact ⟨vs, by rw [← HW.out]; exact (hr.below hb2 hr.lt).drewN _, hf⟩
  go_wp2
  refine wp_world HW.out ?_
  clear hc HSUM HNEED HW HR1 hb1 hb2 c1 c2
  have HLT := hid_in (show w.heap.size ≠ g ∧ w.heap.size ≠ m by have := HST.out.glt; have := HST.out.mlt; omega)
  go_loopw [33] (fun vi W' => ∃ i : Nat, i ≤ L.length ∧ vi = .int .i64 (i : Int) ∧ Hid (St W' g m (layI M L i) (cntI M n L i) q u) ∧ Hid (Kp g m w W') ∧ Hid (∃ vs, Row W' w.heap.size vs 30 ∧ Nd.Fills vs 32 (sumsC L))) (fun vi _ => L.length - (intOf vi).toNat)
  case atStart => exact ⟨0, by omega, rfl, HST.out.below HBW.out, Kp.of_below HBW.out, HRW.out⟩
  case round =>
    obtain ⟨i, hi, rfl, hst, hkp, hrow⟩ := hrel
    by_cases hlt : i < L.length
    · have hg : L[i]? = some L[i] := List.getElem?_eq_getElem hlt
      have hxl := HL.out _ (List.getElem_mem hlt)
      obtain ⟨hp, hb⟩ := H3.out (by intro h; simp [h] at hlt)
      obtain ⟨pi, ci, bi, oi, hc, hs, hn0⟩ := H4.out i _ hg
      have hoff := HST.out.off hc
      have HCW := hid_in (hkp.out.cell hc hoff.1 hoff.2)
      have HSL := hid_in (hs.kp hkp.out (fun h0 => hs.off_st HST.out h0))
      obtain ⟨V, HV⟩ : ∃ V, Hid (V = (Sha.sum L[i]).map u8v) := ⟨_, hid_in rfl⟩
      have hvl : V.length = 32 := by rw [HV.out, List.length_map, sum_length]
      have hv1 : ∀ v ∈ V, v.oneCell' = true := by rw [HV.out]; exact one_u8 _
      obtain ⟨vs, hr, hf⟩ := hrow.out
      have HRG := hid_in (fills_range hf hr (i := i) (us := V) (by rw [HV.out]; simp [sumsC, hg]))
      have HRR := hid_in hr
      have HF := hid_in hf
      have HNB := hid_in hn0
      have HL1 : Hid (layI M L (i + 1) = updM (layI M L i) (Sha.sum L[i]) L[i]) := by show _ = _; rw [layI, List.getD_eq_getElem?_getD, hg]; rfl
      have HC1 : Hid (cntI M n L (i + 1) = if (layI M L i (Sha.sum L[i])).isSome then cntI M n L i else cntI M n L i + 1) := by show _ = _; rw [cntI, List.getD_eq_getElem?_getD, hg]; rfl
      have HV1 := hid_in hv1
      have HVL := hid_in hvl
      have HD : Hid ((Sha.sum L[i]).length = 32) := sum_length _
      have HXL := hid_in hxl
      have hlr := hr.lt
      clear hv1 hvl hg hc hs hn0 hr hf hrow hoff hxl
      subst hp
      generalize L[i] = x at *
      go_upto_region 12 with (first | (refine wpList_load_mid rfl 30 _ rfl w.heap.size _ rfl V _ HRG.out Tryz.underlying30 rfl (by rw [info39, HVL.out]) ?_) | (refine wpList_store_new rfl _ _ rfl Z V HZL HVL HV1 rfl rfl ?_; intro w5 hr5 hb5))
      have hI : Is39 w5 wr.heap.size := ⟨V, hr5, HVL.out⟩
      have hR := rowOf_row hr5
      have c07 := (hb5.cell (World.block_lt_of_cell? wr _ HCW.out)).trans HCW.out
      have HLAY := hid_in (lay_any ((hst.out.below hb5).drewN 1) (Sha.sum x) HD.out V HV x pi ci bi oi ((HSL.out.below hb5).below (below_drewN (Below.refl _ _) 1)) HNB.out (by have := HXL.out; omega))
      rw [← HC1.out, ← HL1.out] at HLAY
      have HK5 := hid_in (hkp.out.trans (Kp.of_below hb5))
      have HR5 := hid_in (HRR.out.below hb5 HRR.out.lt)
      clear hr5 hb5 HCW HSL HNB HL1 HC1 HRR hst hkp
      generalize x.length = xn at *
      go_region_with (first | (go_at_call 118; refine HLAY.out.mono ?_; rintro e w8 ⟨rfl, hst8, hk8⟩; have HST8 := hid_in hst8; have HK8 := hid_in hk8; clear hst8 hk8))
      all_goals
        go_wp2
        go_roundw
        case rel =>
          go_light
          exact ⟨i + 1, by omega, by go_num, HST8.out, HK5.out.trans ((Kp.of_below (below_drewN (Below.refl _ _) 1)).trans HK8.out), vs, HK8.out.row (HR5.out.drewN 1) HLT.out.1 HLT.out.2, HF.out⟩
        case measure => simp [intOf]; omega
    · obtain rfl : i = L.length := by omega
      have c2 : wr.cell? ⟨g, 2, none⟩ = some (.int .i64 u) := hst.out.row.cell 2
      have f2 : wr.frozen? ⟨g, 2, none⟩ = false := hst.out.row.frozen 2
      go_wp2_with fail
      go_ret2
      exact ⟨⟨_, rfl⟩, hst.out.setU _, hkp.out.trans (Kp.of_g (grownBy_setCell wr ⟨g, 2, none⟩ (.int .i64 (u + N))))⟩
end Go.Proofs.YtamaejlbojbbeaaGreatDoor.Sb
namespace Go.Proofs.YtamaejlbojbbeaaGreatDoor.Nd
open Go.RowKit
set_option maxRecDepth 20000 in
theorem list32 {α : Type} (D : List α) (h : D.length = 32) : ∃ d0 d1 d2 d3 d4 d5 d6 d7 d8 d9 d10 d11 d12 d13 d14 d15 d16 d17 d18 d19 d20 d21 d22 d23 d24 d25 d26 d27 d28 d29 d30 d31 : α, D = [d0, d1, d2, d3, d4, d5, d6, d7, d8, d9, d10, d11, d12, d13, d14, d15, d16, d17, d18, d19, d20, d21, d22, d23, d24, d25, d26, d27, d28, d29, d30, d31] := by
  obtain ⟨d0, D0, rfl⟩ : ∃ x r, D = x :: r := List.exists_cons_of_length_pos (by omega)
  obtain ⟨d1, D1, rfl⟩ : ∃ x r, D0 = x :: r := List.exists_cons_of_length_pos (by simp at h; omega)
  obtain ⟨d2, D2, rfl⟩ : ∃ x r, D1 = x :: r := List.exists_cons_of_length_pos (by simp at h; omega)
  obtain ⟨d3, D3, rfl⟩ : ∃ x r, D2 = x :: r := List.exists_cons_of_length_pos (by simp at h; omega)
  obtain ⟨d4, D4, rfl⟩ : ∃ x r, D3 = x :: r := List.exists_cons_of_length_pos (by simp at h; omega)
  obtain ⟨d5, D5, rfl⟩ : ∃ x r, D4 = x :: r := List.exists_cons_of_length_pos (by simp at h; omega)
  obtain ⟨d6, D6, rfl⟩ : ∃ x r, D5 = x :: r := List.exists_cons_of_length_pos (by simp at h; omega)
  obtain ⟨d7, D7, rfl⟩ : ∃ x r, D6 = x :: r := List.exists_cons_of_length_pos (by simp at h; omega)
  obtain ⟨d8, D8, rfl⟩ : ∃ x r, D7 = x :: r := List.exists_cons_of_length_pos (by simp at h; omega)
  obtain ⟨d9, D9, rfl⟩ : ∃ x r, D8 = x :: r := List.exists_cons_of_length_pos (by simp at h; omega)
  obtain ⟨d10, D10, rfl⟩ : ∃ x r, D9 = x :: r := List.exists_cons_of_length_pos (by simp at h; omega)
  obtain ⟨d11, D11, rfl⟩ : ∃ x r, D10 = x :: r := List.exists_cons_of_length_pos (by simp at h; omega)
  obtain ⟨d12, D12, rfl⟩ : ∃ x r, D11 = x :: r := List.exists_cons_of_length_pos (by simp at h; omega)
  obtain ⟨d13, D13, rfl⟩ : ∃ x r, D12 = x :: r := List.exists_cons_of_length_pos (by simp at h; omega)
  obtain ⟨d14, D14, rfl⟩ : ∃ x r, D13 = x :: r := List.exists_cons_of_length_pos (by simp at h; omega)
  obtain ⟨d15, D15, rfl⟩ : ∃ x r, D14 = x :: r := List.exists_cons_of_length_pos (by simp at h; omega)
  obtain ⟨d16, D16, rfl⟩ : ∃ x r, D15 = x :: r := List.exists_cons_of_length_pos (by simp at h; omega)
  obtain ⟨d17, D17, rfl⟩ : ∃ x r, D16 = x :: r := List.exists_cons_of_length_pos (by simp at h; omega)
  obtain ⟨d18, D18, rfl⟩ : ∃ x r, D17 = x :: r := List.exists_cons_of_length_pos (by simp at h; omega)
  obtain ⟨d19, D19, rfl⟩ : ∃ x r, D18 = x :: r := List.exists_cons_of_length_pos (by simp at h; omega)
  obtain ⟨d20, D20, rfl⟩ : ∃ x r, D19 = x :: r := List.exists_cons_of_length_pos (by simp at h; omega)
  obtain ⟨d21, D21, rfl⟩ : ∃ x r, D20 = x :: r := List.exists_cons_of_length_pos (by simp at h; omega)
  obtain ⟨d22, D22, rfl⟩ : ∃ x r, D21 = x :: r := List.exists_cons_of_length_pos (by simp at h; omega)
  obtain ⟨d23, D23, rfl⟩ : ∃ x r, D22 = x :: r := List.exists_cons_of_length_pos (by simp at h; omega)
  obtain ⟨d24, D24, rfl⟩ : ∃ x r, D23 = x :: r := List.exists_cons_of_length_pos (by simp at h; omega)
  obtain ⟨d25, D25, rfl⟩ : ∃ x r, D24 = x :: r := List.exists_cons_of_length_pos (by simp at h; omega)
  obtain ⟨d26, D26, rfl⟩ : ∃ x r, D25 = x :: r := List.exists_cons_of_length_pos (by simp at h; omega)
  obtain ⟨d27, D27, rfl⟩ : ∃ x r, D26 = x :: r := List.exists_cons_of_length_pos (by simp at h; omega)
  obtain ⟨d28, D28, rfl⟩ : ∃ x r, D27 = x :: r := List.exists_cons_of_length_pos (by simp at h; omega)
  obtain ⟨d29, D29, rfl⟩ : ∃ x r, D28 = x :: r := List.exists_cons_of_length_pos (by simp at h; omega)
  obtain ⟨d30, D30, rfl⟩ : ∃ x r, D29 = x :: r := List.exists_cons_of_length_pos (by simp at h; omega)
  obtain ⟨d31, D31, rfl⟩ : ∃ x r, D30 = x :: r := List.exists_cons_of_length_pos (by simp at h; omega)
  obtain rfl : D31 = [] := by simpa using h
  exact ⟨d0, d1, d2, d3, d4, d5, d6, d7, d8, d9, d10, d11, d12, d13, d14, d15, d16, d17, d18, d19, d20, d21, d22, d23, d24, d25, d26, d27, d28, d29, d30, d31, rfl⟩
theorem build_item (nm : ByteArray) (k : Int) (D : List Value) (hD : D.length = 32) (w : World) : (Instr.build 114 #[(0, .string nm), (1, .int .i64 k), (2, .agg D.toArray)]).run Tryz.prog w = .ok (.agg (.string nm :: .int .i64 k :: D).toArray) w := by
  obtain ⟨d0, d1, d2, d3, d4, d5, d6, d7, d8, d9, d10, d11, d12, d13, d14, d15, d16, d17, d18, d19, d20, d21, d22, d23, d24, d25, d26, d27, d28, d29, d30, d31, rfl⟩ := list32 D hD
  exact run_build w 114 _ _ (by kernel_rfl)
/-- a value is built -/
theorem wpList_build {P : Program} {ops : Array Oper} {rest : List Oper} {op : Oper} {a : Act} {w : World} {Q : Exit → Act → World → Prop} (hgd : op.guard = none) (t : TypeId) (parts : Array (Nat × Operand)) (ho : op.op = .build t parts) (ps : Array (Nat × Value)) (hps : parts.map (fun (i, x) => (i, a.eval x)) = ps) (cells : Array Value) (hb : (Instr.build t ps).run P w = .ok (.agg cells) w)
    (h : wpList P ops Q rest (a.put op.dst (.agg cells)) w) : wpList P ops Q (op :: rest) a w := by
  refine wpList_plain hgd fun K hK => ?_
  unfold Oper.wp execOp
  simp only [ho, hps, Sem.run_bind, hb, Result.andThen_ok]
  exact hK _ _ h
theorem sItems_length (f : Nat → Nat) (c : Nat) (s : Sta) : (sItems f c s).1.length = c := by
  induction c with
  | zero => rfl
  | succ c ih => simp [sItems, ih]
theorem sItem_cells (f : Nat → Nat) (s : Sta) : (sItem f s).1.cells.length = 34 := It.cells_length _ (sDig_length _)
theorem sItems_each (f : Nat → Nat) (c : Nat) (s : Sta) : ∀ us ∈ (sItems f c s).1.map It.cells, us.length = 34 := by
  induction c with
  | zero => intro us h; simp [sItems] at h
  | succ c ih =>
    intro us h
    simp only [sItems, List.map_append, List.mem_append] at h
    rcases h with h | h
    · exact ih us h
    · simp at h; rw [h]; exact sItem_cells _ _
theorem info51h : ∃ i, Hid (Tryz.prog.info? 114 = some i) ∧ Hid (i.size = 34) ∧ Hid (i.bytes = 56) ∧ Hid (∃ z, i.zero = some z ∧ z.cells.size = 34) := by
  have h : (Tryz.prog.info? 114).map (fun i => (i.size, i.bytes, i.zero.map (·.cells.size))) = some (34, 56, some 34) := by kernel_rfl
  cases hi : Tryz.prog.info? 114 with
  | none => rw [hi] at h; cases h
  | some i =>
    rw [hi] at h
    simp only [Option.map_some, Option.some.injEq, Prod.mk.injEq] at h
    obtain ⟨h1, h2, h3⟩ := h
    cases hz : i.zero with
    | none => rw [hz] at h3; cases h3
    | some z =>
      rw [hz] at h3
      simp at h3
      exact ⟨i, rfl, h1, h2, z, hz, h3⟩
set_option maxHeartbeats 2000000 in
set_option maxRecDepth 100000 in
theorem readItems_any (w : World) (g B : Nat) (s : Sta) (c : Nat) (hc : c ≤ 100) (hi : In B w g s) (hB : B ≤ w.heap.size) : Calls Tryz.prog 171 #[.pointer (some ⟨g, 0, none⟩), .int .i64 (c : Int)] w fun e w' => ∃ q, e = .returned (.slice (some ⟨q, 0, none⟩) c c) ∧ Els w' (.slice (some ⟨q, 0, none⟩) c c) 34 ((sItems (cutN 3) c s).1.map It.cells) ∧ In B w' g (sItems (cutN 3) c s).2 ∧ Grew w w' (· = g) ∧ w.heap.size ≤ q := by
  obtain ⟨i51, hi51, hz1, hz2, hz3⟩ := info51h
  obtain ⟨z51, hz4, hz5⟩ := hz3.out
  have HZ4 := hid_in hz4
  have HI := hid_in hi
  have HGL := hid_in hi.blk
  have HBW := hid_in hB
  clear hi hz4 hz5 hz3 hB
  go_enter Tryz.func171, Tryz.ntmps171
  go_wp2_with (first | (refine wpList_make_full _ rfl _ _ 106 rfl _ 114 i51 z51 34 Tryz.underlying106 hi51.out HZ4.out hz1.out .i64 .i64 _ _ c rfl rfl rfl rfl (by rw [hz2.out]; omega) (by simp [maxLen]; omega) (Nat.le_refl _) ?_; intro w2 hown hg2; obtain ⟨vs0, hr0, hl0⟩ := made_row hown; have HR0 := hid_in hr0; have HL0 := hid_in hl0; have HG2 := hid_in hg2; clear hown hr0 hl0 hg2))
  go_loopw [11] (fun vi W => ∃ i : Nat, i ≤ c ∧ vi = .int .i64 (i : Int) ∧ Hid (∃ vs, Row W w.heap.size vs 114 ∧ vs.length = c * 34 ∧ Fills vs 34 ((sItems (cutN 3) i s).1.map It.cells)) ∧ Hid (In B W g (sItems (cutN 3) i s).2) ∧ Hid (Grew w W (· = g))) (fun vi _ => c - (intOf vi).toNat)
  case atStart =>
    exact ⟨0, by omega, rfl, ⟨vs0, HR0.out, HL0.out, fun i us h => by simp [sItems] at h⟩, (show InIs B w2 g s.1 s.2 from InIs.below HI.out ((Below.refl _ _).grown HG2.out (Nat.le_refl _) (fun k e => by cases e))), Grew.of_below _ ((Below.refl _ _).grown HG2.out (Nat.le_refl _) (fun k e => by cases e))⟩
  case round =>
    obtain ⟨i, hic, rfl, hrow, hin, hgw⟩ := hrel
    by_cases hlt : i < c
    · obtain ⟨vs, hr, hl, hf⟩ := hrow.out
      have HR := hid_in hr
      have HL := hid_in hl
      have HF := hid_in hf
      clear hrow hr hl hf
      obtain ⟨s0, HS0⟩ : ∃ s0, Hid ((sItems (cutN 3) i s).2 = s0) := ⟨_, rfl⟩
      rw [HS0.out] at hin
      have HT := hid_in (text_s wr g B s0 16 (by decide) hin.out)
      have HN := hid_in (fun W (h : In B W g (sText 16 s0).2) => number_s W g B (sText 16 s0).2 3 (by decide) h)
      have HD := hid_in (fun W (h : In B W g (sNum (sText 16 s0).2).2) (hB : B ≤ W.heap.size) => dig_s W g B (sNum (sText 16 s0).2).2 hB h)
      have HS1 : Hid ((sItems (cutN 3) (i + 1) s).1.map It.cells = (sItems (cutN 3) i s).1.map It.cells ++ [.string (str (sText 16 s0).1) :: .int .i64 (cutN 3 (sNum (sText 16 s0).2).1 : Int) :: dcells (sDig (sNum (sText 16 s0).2).2).1]) := by
        show _ = _
        simp only [sItems, HS0.out, List.map_append, List.map_cons, List.map_nil, sItem, It.cells, dcells]
      have HS2 : Hid ((sItems (cutN 3) (i + 1) s).2 = (sDig (sNum (sText 16 s0).2).2).2) := by show _ = _; simp only [sItems, HS0.out, sItem]
      have HPL : Hid (((sItems (cutN 3) i s).1.map It.cells).length = i) := by show _ = _; rw [List.length_map]; exact sItems_length _ i s
      have HDL : Hid ((dcells (sDig (sNum (sText 16 s0).2).2).1).length = 32) := dcells_length (sDig_length _)
      have HD1 : Hid (∀ v ∈ dcells (sDig (sNum (sText 16 s0).2).2).1, v.oneCell' = true) := one_u8 _
      generalize dcells (sDig (sNum (sText 16 s0).2).2).1 = D at *
      generalize (sDig (sNum (sText 16 s0).2).2).2 = s3 at *
      generalize cutN 3 (sNum (sText 16 s0).2).1 = N at *
      generalize (sNum (sText 16 s0).2).2 = s2 at *
      generalize str (sText 16 s0).1 = X at *
      generalize (sText 16 s0).2 = s1 at *
      have HD2 : Hid (∀ v ∈ Value.string X :: Value.int .i64 (N : Int) :: D, v.oneCell' = true) := by
        show ∀ _, _
        intro v hv
        simp only [List.mem_cons] at hv
        rcases hv with rfl | rfl | hv
        · rfl
        · rfl
        · exact HD1.out v hv
      have HDL2 : Hid ((Value.string X :: Value.int .i64 (N : Int) :: D).length = 34) := by show _ = _; simp [HDL.out]
      have hbl := fun W => build_item X (N : Int) D HDL.out W
      obtain ⟨E, HE⟩ : ∃ E, Hid (E = Value.string X :: Value.int .i64 (N : Int) :: D) := ⟨_, rfl⟩
      have HBL : Hid (∀ W, (Instr.build 114 #[(0, .string X), (1, .int .i64 (N : Int)), (2, .agg D.toArray)]).run Tryz.prog W = .ok (.agg E.toArray) W) := by show ∀ _, _; intro W; rw [HE.out]; exact hbl W
      rw [← HE.out] at HD2 HDL2 HS1
      clear hbl
      go_wp2_with (first | (go_at_call 168; refine HT.out.mono ?_; rintro e w3 ⟨rfl, h1, h2⟩; have H1 := hid_in h1; have H2 := hid_in h2; clear h1 h2) | (go_at_call 167; refine (HN.out _ H1.out).mono ?_; rintro e w4 ⟨rfl, h1, h2⟩; have H3 := hid_in h1; have H4 := hid_in (H2.out.trans h2 (fun q _ h => h)); clear h1 h2) | (go_at_call 200; refine (HD.out _ H3.out (Nat.le_trans HBW.out (Nat.le_trans hgw.out.size H4.out.size))).mono ?_; rintro e w5 ⟨rfl, h1, h2⟩; have H5 := hid_in h1; have H6 := hid_in (H4.out.trans h2 (fun q _ h => h)); clear h1 h2; have hr3 := HR.out.grew H6.out (by have := HGL.out; omega)) | (refine wpList_build rfl 114 _ rfl #[(0, .string X), (1, .int .i64 (N : Int)), (2, .agg D.toArray)] (by simp only [List.map_toArray, List.map_cons, List.map_nil]; rfl) E.toArray (HBL.out _) ?_) | (refine wpList_store_Row rfl 114 _ _ rfl w.heap.size _ E rfl rfl 114 vs hr3 34 info51 HDL2.out (by rw [HL.out]; omega) HD2.out ?_; intro w6 hr4 hg4 hs4; have HR4 := hid_in hr4; have HG4 := hid_in hg4; have HS4 := hid_in hs4; clear hr4 hg4 hs4 hr3))
      go_roundw
      case rel =>
        go_light
        refine ⟨i + 1, by omega, by go_num, ⟨_, HR4.out, ?_, ?_⟩, ?_, ?_⟩
        · rw [splice_length _ _ _ (by rw [HL.out, HDL2.out]; omega)]; exact HL.out
        · have h3 := HF.out.snoc (sItems_each _ i s) E HDL2.out (by rw [HPL.out, HL.out]; omega)
          rw [HPL.out] at h3
          show Fills _ 34 ((sItems (cutN 3) (i + 1) s).1.map It.cells)
          rw [HS1.out]
          exact h3
        · show InIs B w6 g (sItems (cutN 3) (i + 1) s).2.1 (sItems (cutN 3) (i + 1) s).2.2
          rw [HS2.out]
          exact ((InIs.toB H5.out).grown HG4.out HBW.out (by have := HGL.out; omega)).is
        · refine (hgw.out.trans H6.out (fun q _ h => h)).trans (Grew.of_grown HG4.out) (fun q hq h => ?_)
          simp at h
          omega
      case measure => simp [intOf]; omega
    · obtain rfl : i = c := by omega
      go_wp2_with fail
      go_ret
      obtain ⟨vs, hr, hl, hf⟩ := hrow.out
      exact ⟨_, rfl, hf.els hr (sItems_each _ _ _) (by rw [List.length_map]; exact sItems_length _ _ _) (by omega), hin.out, hgw.out, Nat.le_refl _⟩
end Go.Proofs.YtamaejlbojbbeaaGreatDoor.Nd
