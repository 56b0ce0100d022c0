/-
  The walk of the statement WireTorn.
-/
import Derived.Test.YtjaplfdcdokhfaaT4
namespace Go.Proofs.Ytjaplfdcdokhfaa
open Go.RowKit

def iv (n : Nat) : Value := .int .i64 (n : Int)
/-- what WireTorn has gathered behind k payloads -/
structure Torn (w1 w : World) (B : Nat) (PL : List (List Nat)) (k : Nat) (v5 v6 : Value) : Prop where
  len : ∀ i x, PL[i]? = some x → i < k → x.length ≤ 262144
  all : w.ownsRow B 5 1 v5 (Wire.upto PL k) ((Wire.frames (PL.take k)).map u8v)
  ends : w.ownsRow B 3 1 v6 k ((ends PL k).map iv)
  apart : ∀ q, v5.ownBlock = some q → v6.ownBlock ≠ some q
  bel : Below B w1 w
  base : B ≤ w.heap.size

set_option maxHeartbeats 1000000 in
set_option maxRecDepth 100000 in
theorem torn_any (ps : List Part) (pa : Option Addr) (ca pb po : Nat) (cut : Int) (w : World) (hps : Parts w pb po ps) (hpa : ca = 0 ∨ pa = some ⟨pb, po, none⟩) (hca : ps.length ≤ ca) (hn : ca ≤ 9223372036854775807) :
    Calls Try.prog 7 #[.slice pa ps.length ca, .int .i64 cut] w fun e w' => e = .returned (.bool true) ∧ Below w.heap.size w w' := by
  obtain ⟨i5i, HI5, HE1, HE2, HE3⟩ := i5h
  obtain ⟨i3i, HI3, HF1, HF2, HF3⟩ := i3h
  have HPA := hid_in hpa
  have HPS := hid_in hps
  have hpa' : 0 < ps.length → pa = some ⟨pb, po, none⟩ := fun h0 => by
    rcases hpa with h | h
    · omega
    · exact h
  have HPA' := hid_in hpa'
  obtain ⟨PL, HPL⟩ : ∃ PL, Hid (PL = ps.map (·.bs)) := ⟨_, rfl⟩
  have hPLl : PL.length = ps.length := by rw [HPL.out]; simp
  have HPLL := hid_in hPLl
  clear hpa hps hpa' hPLl
  go_enter Try.func7, Try.ntmps7
  go_wp2_with fail
  refine (awake_any w).mono ?_
  rintro e w1 ⟨rfl, hb1⟩
  go_wp2
  go_loopw [5, 6, 7] (fun v5 v6 v7 w' => ∃ k : Nat, k ≤ ps.length ∧ k ≤ 50 ∧ v7 = .int .i64 (k : Int) ∧ Torn w1 w' w1.heap.size PL k v5 v6) (fun _ _ v7 _ => ps.length - (intOf v7).toNat)
  case atStart =>
    refine ⟨0, by omega, by omega, rfl, ⟨fun i x _ h => by omega, ?_, World.ownsRow_nil _ _ _ _, fun q h => by simp [Value.ownBlock] at h, Below.refl _ _, Nat.le_refl _⟩⟩
    rw [Wire.upto_zero]
    exact World.ownsRow_nil _ _ _ _
  case round =>
    obtain ⟨k, hk, hk50, rfl, hT⟩ := hrel
    have HT := hid_in hT
    have hbwr : Below w.heap.size w wr := hb1.trans (hT.bel.mono hb1.size)
    clear hT
    by_cases hgo : k < ps.length ∧ k < 50
    · obtain ⟨hlt, h50⟩ := hgo
      obtain ⟨x, hx⟩ : ∃ x, ps[k]? = some x := ⟨_, List.getElem?_eq_getElem hlt⟩
      have hPx : PL[k]? = some x.bs := by rw [HPL.out]; simp [hx]
      have hpr := HPS.out.below hbwr
      have hxm := List.mem_of_getElem? hx
      have c0 : wr.cell? ⟨pb, po + k, none⟩ = some (.slice x.p x.bs.length x.cap) := hpr.at_ k x hx
      have hsl : Sl wr x.p x.bs x.cap x.b x.off := hpr.ok x hxm
      have hno := hpr.no x hxm
      have hplt := World.block_lt_of_cell? wr _ c0
      have HPX := hid_in hPx
      obtain ⟨p, bs, cp, b, off⟩ := x
      simp only at c0 hsl hno HPX hplt
      obtain rfl := HPA'.out (by omega)
      have k1 : (k : Int) < (ps.length : Int) := by omega
      have k2 : (k : Int) < 50 := by omega
      have hfr := frame_any bs p cp b off wr hsl hno
      have hbl := hsl.lt
      have kL : (bs.length : Int) ≤ 9223372036854775807 := by have := hsl.cap1; have := hsl.cap2; omega
      clear hx hpr hxm hsl hno hPx
      go_wp2_with fail
      refine hfr.mono ?_
      rintro e w2 ⟨hb2, ⟨hL, rfl⟩ | ⟨hL, v, rfl, hown⟩⟩
      · have c2 : w2.cell? ⟨pb, po + k, none⟩ = some (.slice p bs.length cp) := (hb2.cell hplt).trans c0
        have kb : (262144 : Int) < (bs.length : Int) := by omega
        have hbw2 : Below w.heap.size w w2 := hbwr.trans (hb2.mono hbwr.size)
        clear hfr c0
        go_wp2
        go_ret
        exact ⟨rfl, hbw2⟩
      · have hT := HT.out
        obtain ⟨F, HF⟩ : ∃ F, Hid (F = Wire.frame bs) := ⟨_, rfl⟩
        have hfl : F.length = bs.length + 8 := by rw [HF.out]; exact Wire.frame_length bs
        rw [← HF.out] at hown
        have HS : Hid (Wire.upto PL (k + 1) = Wire.upto PL k + (bs.length + 8)) := Wire.upto_succ HPX.out
        have HFR : Hid (Wire.frames (PL.take (k + 1)) = Wire.frames (PL.take k) ++ F) := by show _ = _; rw [HF.out]; exact frames_take_succ HPX.out
        have hul := upto_le PL k hT.len k (Nat.le_refl _) (by have := HPLL.out; omega)
        obtain ⟨g, cg, vs, rfl, hgB, hglt, hrg, hn1, hn2, hvl, hvt⟩ := own_row hown (by omega)
        have hall2 : w2.ownsRow w1.heap.size 5 1 u5 (Wire.upto PL k) ((Wire.frames (PL.take k)).map u8v) := own_below hT.all hb2
        have hends2 : w2.ownsRow w1.heap.size 3 1 u6 k ((ends PL k).map iv) := own_keep hT.ends (Grew.of_below (fun _ => False) hb2) (fun _ _ h => h)
        have hblt : ∀ q, u6.ownBlock = some q → q < wr.heap.size := fun q h => (hT.ends.lt q h).2
        have hbase2 : w1.heap.size ≤ w2.heap.size := Nat.le_trans hT.base hb2.size
        have hnews : ∀ j u, (F.map u8v)[j]? = some u → w2.cell? ((⟨g, 0, none⟩ : Addr).add j) = some u := by
          intro j u hu
          have hj : j < F.length := by simpa using (List.getElem?_eq_some_iff.1 hu).1
          rw [Addr.add_mid, Nat.zero_add, hrg.cell, ← List.getElem?_take_of_lt hj, hvt]
          exact hu
        have hl2 : (F.map u8v).length = F.length * 1 := by simp
        have hone : ∀ u ∈ F.map u8v, u.oneCell' = true := one_u8 _
        have hf63 : Wire.upto PL k + F.length ≤ maxLen := by unfold maxLen; omega
        have hfby : (Wire.upto PL k + F.length) * 1 ≤ 140737488355328 := by omega
        have hbw2 : Below w1.heap.size w1 w2 := hT.bel.trans (hb2.mono hT.base)
        have hlenU : ((Wire.frames (PL.take k)).map u8v).length = Wire.upto PL k := by simp [Wire.upto]
        have HFL := hid_in hfl
        have HAP := hid_in hT.apart
        have hmaxk : k + 1 ≤ 9223372036854775807 := by omega
        have hfitk : (k + 1) * 8 ≤ 140737488355328 := by omega
        have HLEN := hid_in hT.len
        have hf0 : 0 < F.length := by omega
        clear hfr c0 hown hrg hvt hT hfl hlenU
        go_wp2_with (first | (at_builtin; refine wpList_append_own_at _ rfl _ _ 25 rfl w1.heap.size 5 i5i (.int .u8 0) 1 1 Try.underlying25 HI5.out HE3.out HE1.out HE2.out rfl (by decide) _ _ _ rfl hall2 ⟨g, 0, none⟩ F.length cg (F.map u8v) rfl hl2 hnews hone hf63 hfby hbase2 ?_; intro v3 w3 hown3 hg3 hnil3 hm3; have HM3 := hid_in hm3; have HN3 := hid_in hnil3; clear hm3 hnil3; obtain ⟨q3, cq3, rfl, _, _⟩ := hown3.form (Nat.lt_of_lt_of_le hf0 (Nat.le_add_left _ _)); have HG3 : Hid (w2.grownBy w3 u5.ownBlock) := hg3; have hends3 : w3.ownsRow w1.heap.size 3 1 u6 k ((ends PL k).map iv) := own_keep hends2 (Grew.of_grown HG3.out) (fun q hq e => HAP.out q e.symm hq); have hbase3 : w1.heap.size ≤ w3.heap.size := Nat.le_trans hbase2 HG3.out.size) | (at_builtin; refine wpList_append_one_by rfl _ _ 68 rfl w1.heap.size 3 i3i (.int .i64 0) 8 Try.underlying68 HI3.out HF3.out HF1.out HF2.out rfl _ _ _ rfl hends3 3 _ rfl rfl hmaxk hfitk hbase3 ?_; intro v4 w4 hown4 hg4 hm4; have HM4 := hid_in hm4; clear hm4))
        have hm3 : (Value.slice (some ⟨q3, 0, none⟩) (Wire.upto PL k + F.length) cq3).ownBlock = u5.ownBlock ∨ (Value.slice (some ⟨q3, 0, none⟩) (Wire.upto PL k + F.length) cq3).ownBlock = some w2.heap.size := HM3.out
        have hq3 := hown3.lt q3 rfl
        have hne36 : ∀ q, u6.ownBlock = some q → q ≠ q3 := by
          intro q hq e
          subst e
          rcases hm3 with h | h
          · exact HAP.out q h.symm hq
          · have h1 := hblt q hq
            simp only [Value.ownBlock, Option.some.injEq] at h
            have h2 := hb2.size
            omega
        have hall4 : w4.ownsRow w1.heap.size 5 1 (.slice (some ⟨q3, 0, none⟩) (Wire.upto PL k + F.length) cq3) (Wire.upto PL k + F.length) ((Wire.frames (PL.take k)).map u8v ++ F.map u8v) :=
          own_keep hown3 hg4 (fun q hq e => by
            simp only [Value.ownBlock, Option.some.injEq] at hq
            exact hne36 q e.symm hq.symm)
        have hb3 : Below w1.heap.size w1 w3 := own_step hbw2 HG3.out hbase2 rfl hall2
        have hb4 : Below w1.heap.size w1 w4 := hg4.below hb3 hbase3 (fun q hq => (hends3.lt q hq.symm).1)
        have eU : Wire.upto PL k + F.length = Wire.upto PL (k + 1) := by rw [HS.out, HFL.out]
        have eE : [iv (Wire.upto PL (k + 1))] = [Value.int .i64 ((Wire.upto PL k : Int) + (F.length : Int))] := by rw [← eU]; simp [iv]
        refine ⟨⟨k + 1, by omega, by omega, by go_num, ⟨?_, ?_, ?_, ?_, hb4, Nat.le_trans hbase3 hg4.size⟩⟩, by simp [intOf]; omega⟩
        · intro i x hx hi
          by_cases hik : i < k
          · exact HLEN.out i x hx hik
          · obtain rfl : i = k := by omega
            rw [HPX.out] at hx
            cases hx
            exact hL
        · rw [HFR.out, List.map_append]
          rw [← eU]
          exact hall4
        · rw [ends_succ, List.map_append, List.map_cons, List.map_nil, eE]
          exact hown4
        · intro q hq
          simp only [Value.ownBlock, Option.some.injEq] at hq
          subst hq
          rcases HM4.out with h | ⟨q', h, hq'⟩
          · rw [h]; intro e; exact hne36 q3 e rfl
          · rw [h]; intro e; cases e; omega
    · have hT := HT.out
      have hbwo := hbwr
      have hkl : k ≤ PL.length := by have := HPLL.out; omega
      have hul := upto_le PL k hT.len k (Nat.le_refl _) hkl
      have hul2 : Wire.upto PL k ≤ 13107600 := by omega
      have hAl : (Wire.frames (PL.take k)).length = Wire.upto PL k := rfl
      have hPb : ∀ p ∈ PL, ∀ x ∈ p, x < 256 := by
        intro p hp x hx
        rw [HPL.out] at hp
        simp only [List.mem_map] at hp
        obtain ⟨y, hy, rfl⟩ := hp
        exact (HPS.out.ok y hy).lt x hx
      have hA := frames_lt (PL := PL.take k) (fun p hp => hPb p (List.mem_of_mem_take hp))
      obtain ⟨p5, c5, g5, rfl, h51, h52, h53, h54⟩ := own_form hT.all
      obtain ⟨p6, c6, g6, rfl, h61, h62, h63, h64⟩ := own_form hT.ends
      have HP6 := hid_in h63
      have HC6 : Hid (∀ n, n < k → wr.cell? ⟨g6, n, none⟩ = some (.int .i64 ((Wire.upto PL (n + 1) : Nat) : Int))) := fun n hn => by
        rw [h64 n hn, List.getElem?_map, ends_at PL k n hn]; rfl
      obtain ⟨K, hK, hKn⟩ := umod cut (Wire.upto PL k + 1) (by omega)
      rw [show ((Wire.upto PL k + 1 : Nat) : Int) = (Wire.upto PL k : Int) + 1 by omega] at hK
      have HSCN : Hid (∀ n, n ≤ k → Wire.upto PL n ≤ K → (n < k → K < Wire.upto PL (n + 1)) → Wire.scan ((Wire.frames (PL.take k)).take K) = ((PL.take k).take n, Wire.upto PL n)) := fun n h1 h2 h3 => by
        have h := Wire.scan_cut (PL.take k) K n (fun p hp => ⟨by
            obtain ⟨i, hi⟩ := List.getElem?_of_mem hp
            have hik : i < k := by have := (List.getElem?_eq_some_iff.1 hi).1; simp at this; omega
            rw [List.getElem?_take_of_lt hik] at hi
            exact hT.len i p hi hik, hPb p (List.mem_of_mem_take hp)⟩) (by simp; omega) (by rw [upto_take _ _ _ h1]; exact h2) (fun h => by
            have h' : n < k := by simp at h; omega
            rw [upto_take _ _ _ (by omega)]; exact h3 h')
        rw [upto_take _ _ _ h1] at h
        exact h
      have hslA : Sl wr p5 ((Wire.frames (PL.take k)).take K) c5 g5 0 :=
        ⟨fun x hx => hA x (List.mem_of_mem_take hx), by simp; omega, h52, fun h0 => by
          rcases h53 with ⟨_, h, _⟩ | h
          · simp at h0; omega
          · exact h, fun j hj => by
          have hj' : j < K ∧ j < Wire.upto PL k := by simp at hj; omega
          rw [Nat.zero_add, h54 j hj'.2]
          simp [hj'.1, show j < (Wire.frames (PL.take k)).length by omega]⟩
      have hAK : ((Wire.frames (PL.take k)).take K).length = K := by simp; omega
      have hscan := scan_any _ p5 c5 g5 0 wr hslA (by omega)
      rw [hAK] at hscan
      have hs1 := slice_pre25 p5 g5 0 (Wire.upto PL k) c5 K (by omega) (by
        rcases h53 with ⟨_, _, h2⟩ | h
        · exact .inl h2
        · exact .inr h)
      have kU : (Wire.upto PL k : Int) ≤ 13107600 := by omega
      have kK : (K : Int) ≤ (Wire.upto PL k : Int) := by omega
      clear hT hul hA hPb hslA hAK h53 h54 h63 h64 hAl
      have hgo' : k = ps.length ∨ (k < ps.length ∧ k = 50) := by omega
      rcases hgo' with hke | ⟨hklt, hk5⟩
      · have k1 : (ps.length : Int) ≤ (k : Int) := by omega
        clear hke hgo
        go_wp2
        obtain ⟨wo, hwo⟩ : ∃ wo : World, wo = wr := ⟨_, rfl⟩
        rw [← hwo]
        rw [← hwo] at hbwo HC6 hscan
        clear hwo hbwr HT
        go_loopw [11, 12] (fun v11 v12 w' => ∃ n : Nat, n ≤ k ∧ v11 = .int .i64 (n : Int) ∧ v12 = .int .i64 ((Wire.upto PL n : Nat) : Int) ∧ Wire.upto PL n ≤ K ∧ w' = wo) (fun v11 _ _ => k - (intOf v11).toNat)
        case atStart => exact ⟨0, by omega, rfl, by rw [Wire.upto_zero]; rfl, by rw [Wire.upto_zero]; omega, rfl⟩
        case round =>
          obtain ⟨n, hn, rfl, rfl, hu, hw⟩ := hrel
          have hw' := hw.symm
          subst hw'
          by_cases h1 : n < k
          · have c6 := HC6.out n h1
            rcases HP6.out with ⟨_, h, _⟩ | rfl
            · omega
            have kn : (n : Int) < (k : Int) := by omega
            by_cases h2 : Wire.upto PL (n + 1) ≤ K
            · have ku : ((Wire.upto PL (n + 1) : Nat) : Int) ≤ (K : Int) := by omega
              clear hscan
              go_wp2
              go_roundw
              case rel =>
                go_light
                exact ⟨n + 1, by omega, by go_num, rfl, h2, by trivial⟩
              case measure => simp [intOf]; omega
            · have ku : (K : Int) < ((Wire.upto PL (n + 1) : Nat) : Int) := by omega
              have hmax : n < k → K < Wire.upto PL (n + 1) := fun _ => by omega
              have hscn := HSCN.out n hn hu hmax
              rw [hscn] at hscan
              go_wp2_with fail
              refine hscan.mono ?_
              rintro e w2 ⟨v, qs, rfl, hheld, hqs, hb2⟩
              obtain ⟨pq, cq, ab, rfl, hparts, hpq⟩ := hheld.parts
              have hbw2 : Below w.heap.size w w2 := hbwo.trans (hb2.mono hbwo.size)
              have hs2 := slice_pre60 pa pb po ps.length ca n (by omega) HPA.out
              have hqn : qs.length ≤ 9223372036854775807 := by
                have h := congrArg List.length hqs
                simp only [List.length_map, List.length_take] at h
                omega
              have hli := lists_any qs (ps.take n) pq pa cq ca ab 0 pb po w2 hparts ((HPS.out.below hbw2).take n) hpq (fun h0 => HPA'.out (by simp at h0; omega)) (by
                rw [hqs]
                rw [List.take_take, Nat.min_eq_left hn, HPL.out, List.map_take]) hqn
              rw [show (ps.take n).length = n by simp; omega] at hli
              clear hscan hheld hqs hparts hpq hscn
              go_wp2_with fail
              refine hli.mono ?_
              rintro e w3 ⟨rfl, hb3⟩
              have hbw3 : Below w.heap.size w w3 := hbw2.trans (hb3.mono hbw2.size)
              clear hli
              go_wp2
              go_ret
              exact ⟨rfl, hbw3⟩

          · have kn : (k : Int) ≤ (n : Int) := by omega
            have hmax : n < k → K < Wire.upto PL (n + 1) := fun h => absurd h h1
            have hscn := HSCN.out n hn hu hmax
            rw [hscn] at hscan
            go_wp2_with fail
            refine hscan.mono ?_
            rintro e w2 ⟨v, qs, rfl, hheld, hqs, hb2⟩
            obtain ⟨pq, cq, ab, rfl, hparts, hpq⟩ := hheld.parts
            have hbw2 : Below w.heap.size w w2 := hbwo.trans (hb2.mono hbwo.size)
            have hs2 := slice_pre60 pa pb po ps.length ca n (by omega) HPA.out
            have hqn : qs.length ≤ 9223372036854775807 := by
              have h := congrArg List.length hqs
              simp only [List.length_map, List.length_take] at h
              omega
            have hli := lists_any qs (ps.take n) pq pa cq ca ab 0 pb po w2 hparts ((HPS.out.below hbw2).take n) hpq (fun h0 => HPA'.out (by simp at h0; omega)) (by
              rw [hqs]
              rw [List.take_take, Nat.min_eq_left hn, HPL.out, List.map_take]) hqn
            rw [show (ps.take n).length = n by simp; omega] at hli
            clear hscan hheld hqs hparts hpq hscn
            go_wp2_with fail
            refine hli.mono ?_
            rintro e w3 ⟨rfl, hb3⟩
            have hbw3 : Below w.heap.size w w3 := hbw2.trans (hb3.mono hbw2.size)
            clear hli
            go_wp2
            go_ret
            exact ⟨rfl, hbw3⟩

      · have k1 : (k : Int) < (ps.length : Int) := by omega
        have k2 : (50 : Int) ≤ (k : Int) := by omega
        clear hk5 hgo
        go_wp2
        obtain ⟨wo, hwo⟩ : ∃ wo : World, wo = wr := ⟨_, rfl⟩
        rw [← hwo]
        rw [← hwo] at hbwo HC6 hscan
        clear hwo hbwr HT
        go_loopw [11, 12] (fun v11 v12 w' => ∃ n : Nat, n ≤ k ∧ v11 = .int .i64 (n : Int) ∧ v12 = .int .i64 ((Wire.upto PL n : Nat) : Int) ∧ Wire.upto PL n ≤ K ∧ w' = wo) (fun v11 _ _ => k - (intOf v11).toNat)
        case atStart => exact ⟨0, by omega, rfl, by rw [Wire.upto_zero]; rfl, by rw [Wire.upto_zero]; omega, rfl⟩
        case round =>
          obtain ⟨n, hn, rfl, rfl, hu, hw⟩ := hrel
          have hw' := hw.symm
          subst hw'
          by_cases h1 : n < k
          · have c6 := HC6.out n h1
            rcases HP6.out with ⟨_, h, _⟩ | rfl
            · omega
            have kn : (n : Int) < (k : Int) := by omega
            by_cases h2 : Wire.upto PL (n + 1) ≤ K
            · have ku : ((Wire.upto PL (n + 1) : Nat) : Int) ≤ (K : Int) := by omega
              clear hscan
              go_wp2
              go_roundw
              case rel =>
                go_light
                exact ⟨n + 1, by omega, by go_num, rfl, h2, by trivial⟩
              case measure => simp [intOf]; omega
            · have ku : (K : Int) < ((Wire.upto PL (n + 1) : Nat) : Int) := by omega
              have hmax : n < k → K < Wire.upto PL (n + 1) := fun _ => by omega
              have hscn := HSCN.out n hn hu hmax
              rw [hscn] at hscan
              go_wp2_with fail
              refine hscan.mono ?_
              rintro e w2 ⟨v, qs, rfl, hheld, hqs, hb2⟩
              obtain ⟨pq, cq, ab, rfl, hparts, hpq⟩ := hheld.parts
              have hbw2 : Below w.heap.size w w2 := hbwo.trans (hb2.mono hbwo.size)
              have hs2 := slice_pre60 pa pb po ps.length ca n (by omega) HPA.out
              have hqn : qs.length ≤ 9223372036854775807 := by
                have h := congrArg List.length hqs
                simp only [List.length_map, List.length_take] at h
                omega
              have hli := lists_any qs (ps.take n) pq pa cq ca ab 0 pb po w2 hparts ((HPS.out.below hbw2).take n) hpq (fun h0 => HPA'.out (by simp at h0; omega)) (by
                rw [hqs]
                rw [List.take_take, Nat.min_eq_left hn, HPL.out, List.map_take]) hqn
              rw [show (ps.take n).length = n by simp; omega] at hli
              clear hscan hheld hqs hparts hpq hscn
              go_wp2_with fail
              refine hli.mono ?_
              rintro e w3 ⟨rfl, hb3⟩
              have hbw3 : Below w.heap.size w w3 := hbw2.trans (hb3.mono hbw2.size)
              clear hli
              go_wp2
              go_ret
              exact ⟨rfl, hbw3⟩

          · have kn : (k : Int) ≤ (n : Int) := by omega
            have hmax : n < k → K < Wire.upto PL (n + 1) := fun h => absurd h h1
            have hscn := HSCN.out n hn hu hmax
            rw [hscn] at hscan
            go_wp2_with fail
            refine hscan.mono ?_
            rintro e w2 ⟨v, qs, rfl, hheld, hqs, hb2⟩
            obtain ⟨pq, cq, ab, rfl, hparts, hpq⟩ := hheld.parts
            have hbw2 : Below w.heap.size w w2 := hbwo.trans (hb2.mono hbwo.size)
            have hs2 := slice_pre60 pa pb po ps.length ca n (by omega) HPA.out
            have hqn : qs.length ≤ 9223372036854775807 := by
              have h := congrArg List.length hqs
              simp only [List.length_map, List.length_take] at h
              omega
            have hli := lists_any qs (ps.take n) pq pa cq ca ab 0 pb po w2 hparts ((HPS.out.below hbw2).take n) hpq (fun h0 => HPA'.out (by simp at h0; omega)) (by
              rw [hqs]
              rw [List.take_take, Nat.min_eq_left hn, HPL.out, List.map_take]) hqn
            rw [show (ps.take n).length = n by simp; omega] at hli
            clear hscan hheld hqs hparts hpq hscn
            go_wp2_with fail
            refine hli.mono ?_
            rintro e w3 ⟨rfl, hb3⟩
            have hbw3 : Below w.heap.size w w3 := hbw2.trans (hb3.mono hbw2.size)
            clear hli
            go_wp2
            go_ret
            exact ⟨rfl, hbw3⟩

end Go.Proofs.Ytjaplfdcdokhfaa
