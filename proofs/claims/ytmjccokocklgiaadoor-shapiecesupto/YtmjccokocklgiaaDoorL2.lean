/-
  The walk of the statement ShaPieces.
-/
import Derived.Test.YtmjccokocklgiaaDoorL6
namespace Go.Proofs.YtmjccokocklgiaaDoor
open Go.RowKit

/-- a slice of bytes among several: where it lies, its bytes -/
structure Part where
  p : Option Addr
  bs : List Nat
  cap : Nat
  b : Nat
  off : Nat
/-- slices of bytes that lie one behind the other -/
structure Parts (w : World) (pb po : Nat) (ps : List Part) : Prop where
  at_ : ∀ i x, ps[i]? = some x → w.cell? ⟨pb, po + i, none⟩ = some (.slice x.p x.bs.length x.cap)
  ok : ∀ x ∈ ps, Sl w x.p x.bs x.cap x.b x.off
  no : ∀ x ∈ ps, x.p = none → x.bs.length = 0 ∧ x.cap = 0
theorem Parts.below {w w' : World} {pb po : Nat} {ps : List Part} (h : Parts w pb po ps) (hb : Below w.heap.size w w') : Parts w' pb po ps :=
  ⟨fun i x hx => by rw [hb.cell (World.block_lt_of_cell? w _ (h.at_ i x hx))]; exact h.at_ i x hx, fun x hx => (h.ok x hx).below hb, h.no⟩
def bytesOf (ps : List Part) : List Nat := ps.flatMap (·.bs)
theorem bytesOf_succ {ps : List Part} {i : Nat} {x : Part} (h : ps[i]? = some x) : bytesOf (ps.take (i + 1)) = bytesOf (ps.take i) ++ x.bs := by
  obtain ⟨hi, rfl⟩ := List.getElem?_eq_some_iff.1 h
  unfold bytesOf
  rw [List.take_succ_eq_append_getElem hi, List.flatMap_append]
  show _ ++ (_ ++ []) = _
  rw [List.append_nil]
theorem bytesOf_lt {w : World} {pb po : Nat} {ps : List Part} (h : Parts w pb po ps) (i : Nat) : ∀ x ∈ bytesOf (ps.take i), x < 256 := by
  intro x hx
  simp only [bytesOf, List.mem_flatMap] at hx
  obtain ⟨y, hy, hx⟩ := hx
  exact (h.ok y (List.mem_of_mem_take hy)).lt x hx
theorem bytesOf_le (ps : List Part) (i : Nat) : (bytesOf (ps.take i)).length ≤ (bytesOf ps).length := by
  conv => rhs; rw [← List.take_append_drop i ps]
  unfold bytesOf
  rw [List.flatMap_append, List.length_append]
  omega
theorem own_sl {w : World} {B : Nat} {v : Value} {xs : List Nat} (hlt : ∀ x ∈ xs, x < 256) (h : w.ownsRow B 5 1 v xs.length (xs.map u8v)) : ∃ p cap b, v = .slice p xs.length cap ∧ Sl w p xs cap b 0 ∧ (p = none → xs.length = 0 ∧ cap = 0) := by
  by_cases h0 : 0 < xs.length
  · obtain ⟨g, cap, vs, hv, hb, hglt, hr, h1, h2, h3, h4⟩ := own_row h h0
    exact ⟨_, cap, g, hv, row_sl hr h4 (Nat.le_refl _) hlt h1 h2, fun h => by cases h⟩
  · have hx : xs = [] := List.eq_nil_of_length_eq_zero (by omega)
    subst hx
    obtain ⟨_, ⟨rfl, _⟩ | ⟨g, cap, cur, rfl, hb, hg, h1, h2, h3, h4⟩⟩ := h
    · exact ⟨none, 0, 0, rfl, ⟨hlt, by simp, by omega, fun h => by simp at h, fun j hj => by simp at hj⟩, fun _ => ⟨rfl, rfl⟩⟩
    · exact ⟨_, cap, g, rfl, ⟨hlt, by simp, by unfold maxLen at h2; omega, fun h => by simp at h, fun j hj => by simp at hj⟩, fun h => by cases h⟩
theorem own_below {w w' : World} {B : Nat} {v : Value} {n : Nat} {xs : List Value} (h : w.ownsRow B 5 1 v n xs) (hb : Below w.heap.size w w') : w'.ownsRow B 5 1 v n xs := by
  refine h.kept (grown_of_below (row := none) hb) ?_
  cases v.ownBlock <;> simp
theorem neq_V (V : List Value) (bs : List Nat) (h : Hid (V = (Sha.sum bs).map u8v)) : Hid (∀ w, (Op.equalIn 10000 25 (.agg V.toArray) (.agg V.toArray)).run Tryd.prog w = .ok true w) := fun w => sum_eq V bs h w

set_option maxHeartbeats 1000000 in
set_option maxRecDepth 100000 in
theorem pieces_any (ps : List Part) (pa : Option Addr) (pb po cap : Nat) (w : World) (htab : Tab w) (hps : Parts w pb po ps) (hpa : 0 < ps.length → pa = some ⟨pb, po, none⟩) (hn : ps.length ≤ 9223372036854775807) (htot : (bytesOf ps).length ≤ 1048576) :
    Calls Tryd.prog 4 #[.slice pa ps.length cap] w fun e w' => e = .returned (.bool true) ∧ Below w.heap.size w w' := by
  obtain ⟨i5i, hi5, he5⟩ := Option.map_eq_some_iff.1 i5
  simp only [Prod.mk.injEq] at he5
  obtain ⟨e1, e2, e3⟩ := he5
  have HI5 : Hid (Tryd.prog.info? 5 = some i5i) := hi5
  have HE1 : Hid (i5i.size = 1) := e1
  have HE2 : Hid (i5i.bytes = 1) := e2
  have HE3 : Hid (i5i.zero = some (.int .u8 0)) := e3
  clear hi5 e1 e2 e3
  have hpos := htab.pos
  obtain ⟨V0, HV0⟩ : ∃ V : List Value, Hid (V = (Sha.sum []).map u8v) := ⟨(Sha.sum []).map u8v, rfl⟩
  have HQ0 := neq_V V0 [] HV0
  go_enter Tryd.func4, Tryd.ntmps4
  go_wp2_with fail
  refine (awake_any w htab).mono ?_
  rintro e w1 ⟨rfl, hb1⟩
  have htab1 := htab.below hb1 hpos
  go_wp2_with fail
  refine (new_fed w1).mono ?_
  rintro e w2 ⟨rfl, hfed2, hb2, hs2⟩
  obtain ⟨hh, hhe⟩ : ∃ hh, hh = w1.heap.size := ⟨_, rfl⟩
  rw [← hhe] at hfed2 ⊢
  have hge : w.heap.size ≤ hh := by have := hb1.size; omega
  have hh0 : hh ≠ 0 := by omega
  have HS2 : Hid (w2.heap.size = hh + 1) := by show _ = _; omega
  have hbw2 : Below w.heap.size w w2 := hb1.trans (hb2.mono hb1.size)
  have htab2 := htab1.below hb2 htab1.pos
  clear hhe hb2 hs2 htab1 hb1
  have HFED2 : Hid (Fed w2 hh []) := hfed2
  clear hfed2
  go_wp2_with fail
  refine (len_fed hh [] w2 HFED2.out).mono ?_
  rintro e wz ⟨rfl, rfl⟩
  go_wp2_with fail
  refine (hsum_V hh [] V0 HV0 wz htab2 HFED2.out (by decide)).mono ?_
  rintro e w3 ⟨rfl, hb3⟩
  have HFED3 : Hid (Fed w3 hh []) := fed_below HFED2.out hb3
  have htab3 := htab2.below hb3 htab2.pos
  have hbw3 : Below w.heap.size w w3 := hbw2.trans (hb3.mono hbw2.size)
  have HS3 : Hid (hh + 1 ≤ w3.heap.size) := by show _ ≤ _; have := hb3.size; have := HS2.out; omega
  clear hb3 HFED2 HS2 hbw2 htab2
  go_wp2_with fail
  refine (rsum_V [] V0 HV0 (fun _ h => by cases h) none 0 0 0 w3 (by decide) (fun _ => ⟨rfl, rfl⟩) (fun h => by simp at h) (fun j h => by simp at h)).mono ?_
  rintro e w4 ⟨rfl, hb4⟩
  have HFED4 : Hid (Fed w4 hh []) := fed_below HFED3.out hb4
  have hbw4 : Below w.heap.size w w4 := hbw3.trans (hb4.mono hbw3.size)
  have HS4 : Hid (hh + 1 ≤ w4.heap.size) := Nat.le_trans HS3.out hb4.size
  have hq := HQ0.out w4
  clear hb4 HFED3 HS3 hbw3 htab3
  go_wp2
  clear hq
  have HPS : Hid (Parts w pb po ps) := hps
  have HTAB : Hid (Tab w) := htab
  have HPA : Hid (0 < ps.length → pa = some ⟨pb, po, none⟩) := hpa
  clear hps htab hpa HQ0 HV0
  go_loopw [4, 5] (fun va vi w' => ∃ k : Nat, k ≤ ps.length ∧ vi = .int .i64 (k : Int) ∧ Fed w' hh (bytesOf (ps.take k)) ∧ w'.ownsRow (hh + 1) 5 1 va (bytesOf (ps.take k)).length ((bytesOf (ps.take k)).map u8v) ∧ Below w.heap.size w w' ∧ hh + 1 ≤ w'.heap.size) (fun _ vi _ => ps.length - (intOf vi).toNat)
  case atStart => exact ⟨0, by omega, rfl, HFED4.out, World.ownsRow_nil _ _ _ _, hbw4, HS4.out⟩
  case round =>
    clear hbw4 HFED4 HS4
    obtain ⟨k, hk, rfl, hfed, hown, hbw, hsz⟩ := hrel
    have HFED : Hid (Fed wr hh (bytesOf (ps.take k))) := hfed
    have HOWN : Hid (wr.ownsRow (hh + 1) 5 1 u4 (bytesOf (ps.take k)).length ((bytesOf (ps.take k)).map u8v)) := hown
    have HTOT := bytesOf_le ps k
    have HML := bytesOf_lt HPS.out k
    by_cases hlt : k < ps.length
    · by_cases h50 : k < 50
      · obtain ⟨x, hx⟩ : ∃ x, ps[k]? = some x := ⟨_, List.getElem?_eq_getElem hlt⟩
        have hxm := List.mem_of_getElem? hx
        have hpsr := HPS.out.below hbw
        have c0 := hpsr.at_ k x hx
        have hsl := hpsr.ok x hxm
        have hno := hpsr.no x hxm
        have hblk : 0 < x.bs.length → x.b < w.heap.size := fun h0 => (HPS.out.ok x hxm).blk h0
        have hplt := World.block_lt_of_cell? w _ (HPS.out.at_ k x hx)
        have HB : Hid (bytesOf (ps.take (k + 1)) = bytesOf (ps.take k) ++ x.bs) := bytesOf_succ hx
        have HTOT1 := bytesOf_le ps (k + 1)
        have HML1 := bytesOf_lt HPS.out (k + 1)
        have htabr := HTAB.out.below hbw hpos
        obtain rfl := HPA.out (by omega)
        obtain ⟨p, bs, cp, b, off⟩ := x
        simp only at c0 hsl hno hblk HB hplt
        clear hx hxm hpsr hfed hown
        generalize bytesOf (ps.take k) = m at HFED HOWN HB HTOT HML
        obtain ⟨m1, HM1⟩ : ∃ m1, Hid (bytesOf (ps.take (k + 1)) = m1) := ⟨_, rfl⟩
        rw [HM1.out] at HTOT1 HML1
        have HB : Hid (m1 = m ++ bs) := HM1.out.symm.trans HB.out
        have hml : m1.length = m.length + bs.length := by rw [HB.out, List.length_append]
        have HMLE : Hid (m1.length = m.length + bs.length) := hml
        have k1 : (k : Int) < (ps.length : Int) := by omega
        have k2 : (k : Int) < 50 := by omega
        have hwr := write_any hh m bs hsl.lt p b off cp wr htabr hh0 HFED.out hsl.cap1 hsl.cap2 (by omega) (fun h0 => ⟨hsl.at_ h0, by have := hblk h0; omega⟩) hsl.src
        have HSL : Hid (Sl wr p bs cp b off) := hsl
        clear hml hsl HFED
        go_wp2_with fail
        refine hwr.mono ?_
        rintro e w5 ⟨rfl, hfed5, hg5⟩
        clear hwr
        have htab5 := htabr.grown hg5 (by simp; omega)
        have hsl5 := HSL.out.grown hg5 (fun h0 => by have := hblk h0; simp; omega)
        have hbw5 : Below w.heap.size w w5 := below_of_grown hbw hg5 hbw.size hge
        have c5 : w5.cell? ⟨pb, po + k, none⟩ = some (.slice p bs.length cp) := hg5.cell c0 (by simp; omega)
        have hsz5 : hh + 1 ≤ w5.heap.size := fed_lt hfed5
        have hown5 : w5.ownsRow (hh + 1) 5 1 u4 m.length (m.map u8v) := HOWN.out.kept hg5 (by
          rcases hb : u4.ownBlock with _ | q
          · exact .inl rfl
          · right; have := (HOWN.out.lt q hb).1; simp; omega)
        rw [← HB.out] at hfed5
        have HFED5 : Hid (Fed w5 hh m1) := hfed5
        have hsrc5 : ∀ ad, p = some ad → ∀ j u, (bs.map u8v)[j]? = some u → w5.cell? (ad.add j) = some u := by
          intro ad hpa j u hu
          have hj : j < bs.length := by simpa using (List.getElem?_eq_some_iff.1 hu).1
          obtain rfl : ad = ⟨b, off, none⟩ := by have := hsl5.at_ (by omega); rw [hpa] at this; exact Option.some.inj this
          rw [Addr.add_mid, hsl5.src j hj]
          simp [hj] at hu
          rw [← hu]
          simp [hj]
        have hfit5 : m.length + bs.length ≤ 140737488355328 := by have := HMLE.out; omega
        have hl5 : (bs.map u8v).length = bs.length := by simp
        clear hfed5 c0 htabr hbw HSL hsl5 hsz HOWN hg5
        go_wp2_with (at_builtin; refine wpList_append_any rfl _ _ 22 rfl (hh + 1) 5 i5i (.int .u8 0) Tryd.underlying22 HI5.out HE3.out HE1.out HE2.out rfl _ _ _ rfl hown5 p bs.length cp (bs.map u8v) rfl hl5 hno hsrc5 (one_u8 bs) hfit5 hsz5 ?_; intro v6 w6 hown6 hg6)
        have hg6 : w5.grownBy w6 u4.ownBlock := hg6
        rw [← List.map_append, ← HB.out, ← HMLE.out] at hown6
        have hfed6 := fed_grown HFED5.out hg6 (by
          rcases hb : u4.ownBlock with _ | q
          · simp
          · have := (hown5.lt q hb).1; simp; omega)
        have hbw6 : Below w.heap.size w w6 := hbw5.grown hg6 hbw5.size (fun q hq => by have := (hown5.lt q hq).1; omega)
        have htab6 := HTAB.out.below hbw6 hpos
        have hsz6 : hh + 1 ≤ w6.heap.size := fed_lt hfed6
        obtain ⟨V, HV⟩ : ∃ V : List Value, Hid (V = (Sha.sum m1).map u8v) := ⟨(Sha.sum m1).map u8v, rfl⟩
        have HQ := neq_V V m1 HV
        obtain ⟨p6, cap6, b6, rfl, hsl6, hno6⟩ := own_sl HML1 hown6
        have HOWN6 : Hid (w6.ownsRow (hh + 1) 5 1 (.slice p6 m1.length cap6) m1.length (m1.map u8v)) := hown6
        clear hown6 hown5 hg6 hbw5 htab5 HFED5 hsz5 hsrc5 hfit5 hl5 c5 hno hblk hplt
        refine (len_fed hh m1 w6 hfed6).mono ?_
        rintro e wz ⟨rfl, rfl⟩
        go_wp2_with fail
        refine (hsum_V hh m1 V HV wz htab6 hfed6 (by omega)).mono ?_
        rintro e w7 ⟨rfl, hb7⟩
        have hfed7 := fed_below hfed6 hb7
        have htab7 := htab6.below hb7 htab6.pos
        have hsl7 := hsl6.below hb7
        have hbw7 : Below w.heap.size w w7 := hbw6.trans (hb7.mono hbw6.size)
        have HOWN7 : Hid (w7.ownsRow (hh + 1) 5 1 (.slice p6 m1.length cap6) m1.length (m1.map u8v)) := own_below HOWN6.out hb7
        clear hfed6 htab6 hsl6 hbw6 HOWN6 hb7
        go_wp2_with fail
        refine (rsum_V m1 V HV hsl7.lt p6 b6 0 cap6 w7 (by omega) hno6 hsl7.at_ hsl7.src).mono ?_
        rintro e w8 ⟨rfl, hb8⟩
        have hfed8 := fed_below hfed7 hb8
        have htab8 := htab7.below hb8 htab7.pos
        have hsl8 := hsl7.below hb8
        have hbw8 : Below w.heap.size w w8 := hbw7.trans (hb8.mono hbw7.size)
        have HOWN8 : Hid (w8.ownsRow (hh + 1) 5 1 (.slice p6 m1.length cap6) m1.length (m1.map u8v)) := own_below HOWN7.out hb8
        have hq8 := HQ.out w8
        clear hfed7 htab7 hsl7 hbw7 HOWN7 hb8
        go_wp2_with fail
        refine (hsum_V hh m1 V HV w8 htab8 hfed8 (by omega)).mono ?_
        rintro e w9 ⟨rfl, hb9⟩
        have hfed9 := fed_below hfed8 hb9
        have htab9 := htab8.below hb9 htab8.pos
        have hsl9 := hsl8.below hb9
        have hbw9 : Below w.heap.size w w9 := hbw8.trans (hb9.mono hbw8.size)
        have HOWN9 : Hid (w9.ownsRow (hh + 1) 5 1 (.slice p6 m1.length cap6) m1.length (m1.map u8v)) := own_below HOWN8.out hb9
        clear hfed8 htab8 hsl8 hbw8 HOWN8 hb9 hq8
        go_wp2_with fail
        refine (sum_V m1 V HV hsl9.lt p6 b6 0 cap6 w9 htab9 hsl9.cap1 hsl9.cap2 (by omega) hsl9.at_ hsl9.src).mono ?_
        rintro e w10 ⟨rfl, hb10⟩
        have HFED10 : Hid (Fed w10 hh m1) := fed_below hfed9 hb10
        have hbw10 : Below w.heap.size w w10 := hbw9.trans (hb10.mono hbw9.size)
        have HOWN10 : Hid (w10.ownsRow (hh + 1) 5 1 (.slice p6 m1.length cap6) m1.length (m1.map u8v)) := own_below HOWN9.out hb10
        have hq10 := HQ.out w10
        clear hfed9 htab9 hsl9 hbw9 HOWN9 hb10
        go_wp2
        go_roundw
        case rel =>
          go_light
          exact ⟨k + 1, by omega, by go_num, by rw [HM1.out]; exact HFED10.out, by rw [HM1.out]; exact HOWN10.out, hbw10, fed_lt HFED10.out⟩
        case measure => simp [intOf]; omega
      · have k2 : (50 : Int) ≤ (k : Int) := by omega
        have k1 : (k : Int) < (ps.length : Int) := by omega
        clear hfed hown
        go_wp2
        go_ret
        exact ⟨rfl, hbw⟩
    · have k1 : (ps.length : Int) ≤ (k : Int) := by omega
      clear hfed hown
      go_wp2
      go_ret
      exact ⟨rfl, hbw⟩
end Go.Proofs.YtmjccokocklgiaaDoor
