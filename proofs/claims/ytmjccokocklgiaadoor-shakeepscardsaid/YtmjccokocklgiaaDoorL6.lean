/-
  The walk of the statement ShaKeeps.
-/
import Derived.Test.YtmjccokocklgiaaDoorN1
namespace Go.Proofs.YtmjccokocklgiaaDoor
open Go.RowKit

theorem str_app (a b : List Nat) : str a ++ str b = str (a ++ b) := by
  unfold str
  rw [List.map_append]
  simp [ByteArray.ext_iff]

/-- a row that a call owns, as a block that is known whole -/
theorem own_row {w : World} {B n : Nat} {v : Value} {xs : List Value} (h : w.ownsRow B 5 1 v n xs) (hn : 0 < n) : ∃ g cap vs, v = .slice (some ⟨g, 0, none⟩) n cap ∧ B ≤ g ∧ g < w.heap.size ∧ Row w g vs 5 ∧ n ≤ cap ∧ cap ≤ 9223372036854775807 ∧ vs.length = cap ∧ vs.take n = xs := by
  obtain ⟨_, ⟨_, h0⟩ | ⟨g, cap, cur, hv, hb, hg, h1, h2, h3, h4⟩⟩ := h
  · omega
  · have hr : Row w g cur.toList 5 := by unfold Row; rw [hg]
    unfold maxLen at h2
    exact ⟨g, cap, cur.toList, hv, hb, hr.lt, hr, h1, by omega, by simpa using h3, by simpa using h4⟩
theorem row_sl {w : World} {g n cap : Nat} {vs : List Value} {xs : List Nat} (hr : Row w g vs 5) (ht : vs.take n = xs.map u8v) (hn : xs.length ≤ n) (hlt : ∀ x ∈ xs, x < 256) (h1 : xs.length ≤ cap) (h2 : cap ≤ 9223372036854775807) : Sl w (some ⟨g, 0, none⟩) xs cap g 0 :=
  ⟨hlt, h1, h2, fun _ => rfl, fun j hj => by
    rw [Nat.zero_add, hr.cell]
    have e : vs[j]? = (vs.take n)[j]? := by rw [List.getElem?_take_of_lt (by omega)]
    rw [e, ht]
    simp [hj]⟩
theorem hsum_V (g : Nat) (m : List Nat) (V : List Value) (hV : Hid (V = (Sha.sum m).map u8v)) (w : World) (htab : Tab w) (hfed : Fed w g m) (hsz : m.length < 1152921504606846000) :
    Calls Tryd.prog 14 #[.pointer (some ⟨g, 0, none⟩)] w fun e w' => e = .returned (.agg V.toArray) ∧ Below w.heap.size w w' := by
  rw [hV.out]; exact hsum_any g m w htab hfed hsz
theorem fed_below {w w' : World} {g : Nat} {m : List Nat} (h : Fed w g m) (hb : Below w.heap.size w w') : Fed w' g m := by
  obtain ⟨s, bl, hrow, r⟩ := h
  exact ⟨s, bl, hrow.below hb hrow.lt, r⟩
theorem fed_grown {w w' : World} {g : Nat} {m : List Nat} {row : Option Nat} (h : Fed w g m) (hb : w.grownBy w' row) (hne : some g ≠ row) : Fed w' g m := by
  obtain ⟨s, bl, hrow, r⟩ := h
  exact ⟨s, bl, hrow.grown hb hne, r⟩
theorem fed_lt {w : World} {g : Nat} {m : List Nat} (h : Fed w g m) : g < w.heap.size := by
  obtain ⟨s, bl, hrow, r⟩ := h
  exact hrow.lt
theorem Sl.grown {w w' : World} {p : Option Addr} {bs : List Nat} {cap b off : Nat} {row : Option Nat} (h : Sl w p bs cap b off) (hb : w.grownBy w' row) (hne : 0 < bs.length → some b ≠ row) : Sl w' p bs cap b off :=
  ⟨h.lt, h.cap1, h.cap2, h.at_, fun j hj => hb.cell (h.src j hj) (hne (by omega))⟩
theorem Sl.blk {w : World} {p : Option Addr} {bs : List Nat} {cap b off : Nat} (h : Sl w p bs cap b off) (h0 : 0 < bs.length) : b < w.heap.size := World.block_lt_of_cell? w _ (h.src 0 h0)

set_option maxHeartbeats 300000 in
set_option maxRecDepth 100000 in
theorem keeps_any (bs : List Nat) (p : Option Addr) (cap b off c : Nat) (_hc : c < 256) (w : World) (htab : Tab w) (hsl : Sl w p bs cap b off) (hpn : p = none → bs.length = 0 ∧ cap = 0) (hre : bs.length ≤ 140737488351232) :
    Calls Tryd.prog 8 #[.slice p bs.length cap, .int .u8 (c : Int)] w fun e w' => e = .returned (.bool true) ∧ Below w.heap.size w w' := by
  obtain ⟨i5i, hi5, he5⟩ := Option.map_eq_some_iff.1 i5
  simp only [Prod.mk.injEq] at he5
  obtain ⟨e1, e2, e3⟩ := he5
  have HI5 : Hid (Tryd.prog.info? 5 = some i5i) := hi5
  have HE1 : Hid (i5i.size = 1) := e1
  have HE2 : Hid (i5i.bytes = 1) := e2
  have HE3 : Hid (i5i.zero = some (.int .u8 0)) := e3
  clear hi5 e1 e2 e3
  have hpos := htab.pos
  have hpn0 := True.intro
  obtain ⟨V, HV⟩ : ∃ V, Hid (V = (Sha.sum bs).map u8v) := ⟨_, rfl⟩
  obtain ⟨V0, HV0⟩ : ∃ V, Hid (V = (Sha.sum []).map u8v) := ⟨_, rfl⟩
  go_enter Tryd.func8, Tryd.ntmps8
  go_wp2_with fail
  refine (awake_any w htab).mono ?_
  rintro e w1 ⟨rfl, hb1⟩
  have h1 := hsl.below hb1
  have htab1 := htab.below hb1 hpos
  have hpos1 := htab1.pos
  clear hsl htab
  have hown0 : (w1.alloc (.cells #[] 5)).ownsRow w1.heap.size 5 1 (.slice (some ⟨w1.heap.size, 0, none⟩) 0 0) 0 [] :=
    World.ownsRow_made (base := w1.heap.size) (e := 5) (size := 1) w1 #[] 0 (Nat.le_refl _) (by simp) rfl
  have hb0 : Below w1.heap.size w1 (w1.alloc (.cells #[] 5)) := (Below.refl _ _).alloc (Nat.le_refl _) _
  have hBs : w1.heap.size ≤ (w1.alloc (.cells #[] 5)).heap.size := by simp
  have hsrc0 : ∀ ad, p = some ad → ∀ j u, (bs.map u8v)[j]? = some u → (w1.alloc (.cells #[] 5)).cell? (ad.add j) = some u := by
    intro ad hpa j u hu
    have hj : j < bs.length := by simpa using (List.getElem?_eq_some_iff.1 hu).1
    obtain rfl : ad = ⟨b, off, none⟩ := by have := h1.at_ (by omega); rw [hpa] at this; exact Option.some.inj this
    have hcc := h1.src j hj
    rw [Addr.add_mid, hb0.cell (World.block_lt_of_cell? w1 _ hcc), hcc]
    simp [hj] at hu
    rw [← hu]
    simp [hj]
  have hfit0 : 0 + bs.length ≤ 140737488355328 := by omega
  have hfit1 : bs.length + 2 ≤ 140737488355328 := by omega
  have hl0 : (bs.map u8v).length = bs.length := by simp
  have h79 : ∀ u ∈ [Value.int .u8 7, Value.int .u8 9], u.oneCell' = true := by decide
  go_wp2_with (first | (at_builtin; refine wpList_append_any rfl _ _ 22 rfl w1.heap.size 5 i5i (.int .u8 0) Tryd.underlying22 HI5.out HE3.out HE1.out HE2.out rfl _ 0 [] rfl hown0 p bs.length cap (bs.map u8v) rfl hl0 hpn hsrc0 (one_u8 bs) hfit0 hBs ?_; intro v1 w2 hown1 hg1; have hbb1 := own_step hb0 hg1 hBs rfl hown0; have hs1 : w1.heap.size ≤ w2.heap.size := Nat.le_trans hBs hg1.size; rw [Nat.zero_add, List.nil_append] at hown1) | (at_builtin; refine wpList_append_lit rfl _ _ 22 rfl w1.heap.size 5 i5i (.int .u8 0) Tryd.underlying22 HI5.out HE3.out HE1.out HE2.out rfl _ _ _ rfl hown1 5 [.int .u8 7, .int .u8 9] h79 2 rfl rfl hfit1 hs1 ?_; intro v2 w3 hown2 hb2 hs2))
  have hb3 : Below w1.heap.size w1 w3 := hb2 _ hbb1
  have hbw3 : Below w.heap.size w w3 := hb1.trans (hb3.mono hb1.size)
  have e79 : bs.map u8v ++ [.int .u8 7, .int .u8 9] = (bs ++ [7, 9]).map u8v := by simp [u8v]
  rw [e79] at hown2
  obtain ⟨g, cg, vs, rfl, hgB, hglt, hrg, hn1, hn2, hvl, hvt⟩ := own_row hown2 (by omega)
  have h3 := h1.below hb3
  have htab3 := htab1.below hb3 hpos1
  have hb_ne : 0 < bs.length → b ≠ g := fun h0 => by have := h1.blk h0; omega
  have hlt79 : ∀ x ∈ bs ++ [7, 9], x < 256 := by
    intro x hx
    rcases List.mem_append.1 hx with hx | hx
    · exact h1.lt x hx
    · simp at hx; omega
  clear hown0 hb0 hBs hsrc0 hfit0 hfit1 hl0 h79 hown1 hg1 hbb1 hs1 hown2 hb2 hs2 e79 HI5 HE1 HE2 HE3 hpn0
  refine (new_fed w3).mono ?_
  rintro e w4 ⟨rfl, hfed4, hb4, hs4⟩
  have HS4 : Hid (w4.heap.size = w3.heap.size + 1) := hs4
  have hg4 := hs4
  obtain ⟨hh, hhe⟩ : ∃ hh, hh = w3.heap.size := ⟨_, rfl⟩
  rw [← hhe] at hfed4 ⊢
  have hhg : hh ≠ g := by omega
  have hh0 : hh ≠ 0 := by omega
  have hb4' : Below w3.heap.size w3 w4 := hb4
  have hrg4 := hrg.below hb4' hglt
  have h4 := h3.below hb4'
  have htab4 := htab3.below hb4' htab3.pos
  have hbw4 : Below w.heap.size w w4 := hbw3.trans (hb4'.mono hbw3.size)
  have hsl4 := slice_to g 0 (bs.length + 2) cg bs.length (by omega)
  have hroom4 : Sl w4 (some ⟨g, 0, none⟩) bs cg g 0 := row_sl (n := bs.length) hrg4 (by rw [show vs.take bs.length = (vs.take (bs.length + 2)).take bs.length by rw [List.take_take, Nat.min_eq_left (by omega)], hvt]; simp) (Nat.le_refl _) h4.lt (by omega) hn2
  have hwr := write_any hh [] bs h4.lt (some ⟨g, 0, none⟩) g 0 cg w4 htab4 hh0 hfed4 (by omega) hn2 (by simp; omega) (fun _ => ⟨rfl, hhg.symm⟩) hroom4.src
  have HHE : Hid (hh = w3.heap.size) := hhe
  have hge : hh ≥ w.heap.size := by have := hbw3.size; omega
  clear hs4 hg4 hb4 hfed4 hroom4 hhe
  go_wp2_with fail
  refine hwr.mono ?_
  rintro e w5 ⟨rfl, hfed5, hg5⟩
  rw [List.nil_append] at hfed5
  have hhlt5 := fed_lt hfed5
  have hrg5 := hrg4.grown hg5 (by simp; omega)
  have h5 := h4.grown hg5 (fun h0 => by have := h3.blk h0; have := HHE.out; simp; omega)
  have htab5 := htab4.grown hg5 (by simp; omega)
  have hbw5 : Below w.heap.size w w5 := below_of_grown hbw4 hg5 hbw4.size (by omega)
  have hroom5 : Sl w5 (some ⟨g, 0, none⟩) (bs ++ [7, 9]) cg g 0 := row_sl (n := bs.length + 2) hrg5 hvt (by simp) hlt79 (by simp; omega) hn2
  have hc1 := conv_sl hroom5
  have hc2 := conv_sl h5
  have e2 : (bs ++ [7, 9] : List Nat).length = bs.length + 2 := by simp
  rw [e2] at hc1
  obtain ⟨R, HR⟩ : ∃ R : ByteArray, Hid (R = str (bs ++ [7, 9])) := ⟨str (bs ++ [7, 9]), rfl⟩
  obtain ⟨S, HSS⟩ : ∃ S : ByteArray, Hid (S = str bs) := ⟨_, rfl⟩
  rw [← HR.out] at hc1
  rw [← HSS.out] at hc2
  have hadd : S ++ { data := #[7, 9] } = R := by
    rw [HSS.out, HR.out, ← str_app]; rfl
  have hszS : S.size = bs.length := by rw [HSS.out]; simp [str, ByteArray.size]
  have hszB : ((S.size : Nat) : Int) + 2 ≤ 9223372036854775807 := by omega
  have hrr : (R.toList == R.toList) = true := by simp
  clear hwr hsl4 hroom5
  clear e2
  have hV := sum_eq V bs HV
  have hV0 := sum_eq V0 [] HV0
  have HVE : Hid (∀ w, (Op.equalIn 10000 25 (.agg V.toArray) (.agg V.toArray)).run Tryd.prog w = .ok true w) := hV
  have HVE0 : Hid (∀ w, (Op.equalIn 10000 25 (.agg V0.toArray) (.agg V0.toArray)).run Tryd.prog w = .ok true w) := hV0
  clear hV hV0
  go_wp2
  clear hc1 hc2 hadd hszS hszB hrr
  go_loopw [7] (fun v w' => ∃ (i : Nat) (us : List Value), i ≤ bs.length + 2 ∧ v = .int .i64 (i : Int) ∧ Row w' g us 5 ∧ us.length = cg ∧ w5.grownBy w' (some g)) (fun v _ => bs.length + 2 - (intOf v).toNat)
  case atStart => exact ⟨0, vs, by omega, rfl, hrg5, hvl, grownBy_refl _ _⟩
  case round =>
    obtain ⟨i, us, hi, rfl, hru, hul, hgu⟩ := hrel
    have HGU : Hid (w5.grownBy wr (some g)) := hgu
    by_cases hlt : i < bs.length + 2
    · obtain ⟨u, hu⟩ : ∃ u, us[i]? = some u := ⟨_, List.getElem?_eq_getElem (by omega)⟩
      have c1 : wr.cell? ⟨g, i, none⟩ = some u := by rw [hru.cell]; exact hu
      have f1 := hru.frozen i
      have k1 : (i : Int) < (bs.length : Int) + 2 := by omega
      clear hu
      go_wp2
      go_roundw
      case rel =>
        go_light
        refine ⟨i + 1, us.set i (.int .u8 (c : Int)), by omega, by go_num, hru.set_same i _, by simpa using hul, grownBy_trans HGU.out (grownBy_setCell wr ⟨g, i, none⟩ _)⟩
      case measure => simp [intOf]; omega
    · have k1 : (bs.length : Int) + 2 ≤ (i : Int) := by omega
      have hfed6 := fed_grown hfed5 hgu (by simp; omega)
      have h6 := h5.grown hgu (fun h0 => by have := hb_ne h0; simp; omega)
      have htab6 := htab5.grown hgu (by simp; omega)
      have hbw6 : Below w.heap.size w wr := below_of_grown hbw5 hgu hbw5.size (by have := hb1.size; omega)
      have HFED : Hid (Fed wr hh bs) := hfed6
      clear hfed6 hfed5 h5 htab5 hbw5 hgu hru hrg5
      go_wp2_with fail
      refine (write_nil p bs.length cap wr).mono ?_
      rintro e wz ⟨rfl, rfl⟩
      go_wp2_with fail
      refine (hsum_V hh bs V HV wz htab6 HFED.out (by omega)).mono ?_
      rintro e w7 ⟨rfl, hb7⟩
      have h7 := h6.below hb7
      have htab7 := htab6.below hb7 htab6.pos
      have hbw7 : Below w.heap.size w w7 := hbw6.trans (hb7.mono hbw6.size)
      go_wp2_with fail
      refine (rsum_V bs V HV h7.lt p b off cap w7 hre hpn h7.at_ h7.src).mono ?_
      rintro e w8 ⟨rfl, hb8⟩
      have htab8 := htab7.below hb8 htab7.pos
      have hbw8 : Below w.heap.size w w8 := hbw7.trans (hb8.mono hbw7.size)
      have hV := HVE.out w8
      clear h6 h7 htab6 htab7
      go_wp2_with fail
      refine (len_nil w8).mono ?_
      rintro e wy ⟨rfl, rfl⟩
      go_wp2_with fail
      refine (hsum_nil V0 HV0 wy htab8).mono ?_
      rintro e w9 ⟨rfl, hb9⟩
      have hbw9 : Below w.heap.size w w9 := hbw8.trans (hb9.mono hbw8.size)
      go_wp2_with fail
      refine (rsum_V [] V0 HV0 (fun _ h => by cases h) none 0 0 0 w9 (by decide) (fun _ => ⟨rfl, rfl⟩) (fun h => by simp at h) (fun j h => by simp at h)).mono ?_
      rintro e w10 ⟨rfl, hb10⟩
      have hV0 := HVE0.out w10
      go_wp2
      go_ret
      exact ⟨rfl, hbw9.trans (hb10.mono hbw9.size)⟩
end Go.Proofs.YtmjccokocklgiaaDoor
