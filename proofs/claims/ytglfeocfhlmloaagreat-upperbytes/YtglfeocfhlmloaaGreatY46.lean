/-
  The walk of the reference's Decode.
-/
import Derived.Deep.CutRange
import Derived.Laws.CopyOwn
import Derived.Shelf.SlMaps.Clone
import Derived.Deep.RegionLaw
import Derived.Deep.DrawnRows
import Derived.Laws.Tables
import Derived.Test.YtglfeocfhlmloaaGreatY00
import Derived.Test.YtglfeocfhlmloaaGreatY01
import Derived.Test.YtglfeocfhlmloaaGreatY02
import Derived.Test.YtglfeocfhlmloaaGreatY03
import Derived.Test.YtglfeocfhlmloaaGreatY04
import Derived.Test.YtglfeocfhlmloaaGreatY05
import Derived.Test.YtglfeocfhlmloaaGreatY06
import Derived.Test.YtglfeocfhlmloaaGreatY07
import Derived.Test.YtglfeocfhlmloaaGreatY08
import Derived.Test.YtglfeocfhlmloaaGreatY09
import Derived.Test.YtglfeocfhlmloaaGreatY10
import Derived.Test.YtglfeocfhlmloaaGreatY11
import Derived.Test.YtglfeocfhlmloaaGreatY12
import Derived.Test.YtglfeocfhlmloaaGreatY13
import Derived.Test.YtglfeocfhlmloaaGreatY14
import Derived.Test.YtglfeocfhlmloaaGreatY15
import Derived.Test.YtglfeocfhlmloaaGreatY16
import Derived.Test.YtglfeocfhlmloaaGreatY17
import Derived.Test.YtglfeocfhlmloaaGreatY18
import Derived.Test.YtglfeocfhlmloaaGreatY19
import Derived.Test.YtglfeocfhlmloaaGreatY20
import Derived.Test.YtglfeocfhlmloaaGreatY21
import Derived.Test.YtglfeocfhlmloaaGreatY22
import Derived.Test.YtglfeocfhlmloaaGreatY23
import Derived.Test.YtglfeocfhlmloaaGreatY24
import Derived.Test.YtglfeocfhlmloaaGreatY25
import Derived.Test.YtglfeocfhlmloaaGreatY26
import Derived.Test.YtglfeocfhlmloaaGreatY27
import Derived.Test.YtglfeocfhlmloaaGreatY28
import Derived.Test.YtglfeocfhlmloaaGreatY29
import Derived.Test.YtglfeocfhlmloaaGreatY30
import Derived.Test.YtglfeocfhlmloaaGreatY31
import Derived.Test.YtglfeocfhlmloaaGreatY32
import Derived.Test.YtglfeocfhlmloaaGreatY33
import Derived.Test.YtglfeocfhlmloaaGreatY34
import Derived.Test.YtglfeocfhlmloaaGreatY35
import Derived.Test.YtglfeocfhlmloaaGreatY36
import Derived.Test.YtglfeocfhlmloaaGreatY37
import Derived.Test.YtglfeocfhlmloaaGreatY38
import Derived.Test.YtglfeocfhlmloaaGreatY39
import Derived.Test.YtglfeocfhlmloaaGreatY40
import Derived.Test.YtglfeocfhlmloaaGreatY41
import Derived.Test.YtglfeocfhlmloaaGreatY42
import Derived.Test.YtglfeocfhlmloaaGreatY43
import Derived.Test.YtglfeocfhlmloaaGreatY44
import Derived.Test.YtglfeocfhlmloaaGreatY45
namespace Go.Proofs.YtglfeocfhlmloaaGreat.Up
open Go.RowKit
open Vp (Str B bl Val cmpL parseS showS withinS IsPath checkS)
open Nd (take_put Row wp_world post_Row grownBy_setCell below_of_grown bytesS u8v Sl RI Grew Sta sNum sText sFlag str)
/-- what was there stays, but for one block -/
def Kp (a : World) (ig : Nat) (W : World) : Prop := ∀ b, b < a.heap.size → b ≠ ig → W.heap[b]? = a.heap[b]?
theorem Kp.refl (a : World) (ig : Nat) : Kp a ig a := fun _ _ _ => rfl
theorem Kp.grown {a w w' : World} {ig g : Nat} (h : Kp a ig w) (hs : a.heap.size ≤ w.heap.size) (hg : w.grownBy w' (some g)) (hn : g = ig ∨ a.heap.size ≤ g) : Kp a ig w' := fun b hb hi => by
  rw [hg.block b (by omega) (fun e => by obtain rfl := Option.some.inj e; omega)]
  exact h b hb hi
theorem ri_row {B : Nat} {w : World} {g : Nat} {s : Sta} (h : RI B w g s) : ∃ vs, Row w g vs 71 ∧ w.cell? ⟨g, 2, none⟩ = some (.int .i64 (s.2 : Int)) := by
  obtain ⟨bs, k, h, _⟩ := h
  obtain ⟨p, cap, b, off, hr, _⟩ := h.ex
  exact ⟨_, hr, hr.cell 2⟩
theorem RU.lt {w : World} {r : Nat} {N Z : Int} {es : List Ent} (h : RU w r N Z es) : r < w.heap.size := by
  obtain ⟨v, h1, _⟩ := h.ex
  exact h1.lt
theorem RU.kp {a W : World} {r B ig : Nat} {N Z : Int} {es : List Ent} {s : Sta} (h : RU a r N Z es) (hi : RI B a ig s) (k : Kp a ig W) : RU W r N Z es := by
  obtain ⟨vs, hrow, _⟩ := ri_row hi
  unfold Row at hrow
  obtain ⟨v, h1, h2⟩ := h.ex
  refine ⟨v, ?_, ?_⟩
  · have hl := h1.lt
    unfold Row at h1 ⊢
    rw [k r hl (fun e => by rw [e, hrow] at h1; cases h1)]
    exact h1
  · obtain ⟨h0, ⟨rfl, h3⟩ | ⟨b, cap, cur, rfl, hB, hh, hn, hm, hs, ht⟩⟩ := h2
    · exact ⟨h0, .inl ⟨rfl, h3⟩⟩
    · exact ⟨h0, .inr ⟨b, cap, cur, rfl, hB, by rw [k b (Array.getElem?_eq_some_iff.1 hh).1 (fun e => by rw [e, hrow] at hh; cases hh)]; exact hh, hn, hm, hs, ht⟩⟩
/-- within a round -/
structure DX (w a : World) (bx : Nat) (cs : List Value) (t : Sta) (W : World) : Prop where
  inn : RI w.heap.size W w.heap.size t
  kp : Kp a w.heap.size W
  bel : Below w.heap.size w W
  row : Row W bx cs 42
  size : a.heap.size ≤ W.heap.size
theorem DX.grew {w a W W' : World} {bx : Nat} {cs : List Value} {t t' : Sta} (h : DX w a bx cs t W) (hn : some bx ≠ some w.heap.size) (hi : RI w.heap.size W' w.heap.size t') (hg : Grew W W' (· = w.heap.size)) : DX w a bx cs t' W' :=
  ⟨hi, h.kp.grown h.size (grew_by hg) (.inl rfl), below_of_grown h.bel (grew_by hg) h.bel.size (Nat.le_refl _), h.row.grown (grew_by hg) hn, Nat.le_trans h.size hg.size⟩
theorem DX.set {w a W : World} {bx : Nat} {cs : List Value} {t : Sta} (h : DX w a bx cs t W) (hl : w.heap.size < bx) (hw : w.heap.size ≤ bx) (ha : a.heap.size ≤ bx) (j : Nat) (v : Value) : DX w a bx (cs.set j v) t (W.setCell ⟨bx, j, none⟩ v) := by
  have hg : W.grownBy (W.setCell ⟨bx, j, none⟩ v) (some bx) := grownBy_setCell W ⟨bx, j, none⟩ v
  have hb : Below bx W (W.setCell ⟨bx, j, none⟩ v) := below_of_grown (Below.refl _ _) hg (Nat.le_of_lt h.row.lt) (Nat.le_refl _)
  exact ⟨h.inn.belowM hb hl hw, h.kp.grown h.size hg (.inr ha), below_of_grown h.bel hg h.bel.size hw, h.row.set_same j v, Nat.le_trans h.size hg.size⟩
/-- between two rounds -/
structure DS (w : World) (r N Z n : Nat) (R : Option (List Ent × Sta)) (i : Nat) (es : List Ent) (t : Sta) (W : World) : Prop where
  ru : RU W r (N : Int) (Z : Int) es
  inn : RI w.heap.size W w.heap.size t
  bel : Below w.heap.size w W
  srt : Srt es
  ok : t.2 = 0
  lt : w.heap.size < r
  rest : rdL (n - i) es t = R
def RDecP (w : World) (bs : List Nat) (e : Ending) (w' : World) : Prop := ((rdU bs = none ∧ e = .returned (.tuple #[.pointer none, .bool false])) ∨ (∃ (N Z : Nat) (es : List Ent) (r : Nat), rdU bs = some (N, Z, es) ∧ e = .returned (.tuple #[.pointer (some ⟨r, 0, none⟩), .bool true]) ∧ RU w' r (N : Int) (Z : Int) es)) ∧ Below w.heap.size w w'
theorem tol_inj {a b : ByteArray} (h : a.toList = b.toList) : a = b := by
  have h2 : a.data.toList = b.data.toList := by rw [← Lib.toList_data, ← Lib.toList_data]; exact h
  cases a
  cases b
  simp only at h2
  rw [Array.toList_inj.1 h2]
theorem st_inj {a b : List Nat} (ha : ∀ x ∈ a, x < 256) (hb : ∀ x ∈ b, x < 256) (h : str a = str b) : a = b := by
  have h2 : a.map UInt8.ofNat = b.map UInt8.ofNat := by simpa [Nd.str] using h
  have h3 := congrArg (List.map UInt8.toNat) h2
  rw [List.map_map, List.map_map] at h3
  have key : ∀ l : List Nat, (∀ x ∈ l, x < 256) → l.map (UInt8.toNat ∘ UInt8.ofNat) = l := by
    intro l hl
    conv => rhs; rw [← List.map_id l]
    refine List.map_congr_left fun x hx => ?_
    have := hl x hx
    simp only [Function.comp_def, id, UInt8.toNat_ofNat']
    omega
  rw [key a ha, key b hb] at h3
  exact h3
/-- the reference's Encode's answer as bytes that are read -/
theorem renc_sl {w : World} {r N Z : Nat} {es : List Ent} (h : RU w r (N : Int) (Z : Int) es) (hN : N ≤ 128) (hZ : Z ≤ 8192) (hT : Srt es) :
    Calls Tryz.prog 10 #[.pointer (some ⟨r, 0, none⟩)] w fun e w' => ∃ p cap b, e = .returned (.slice p (encA N Z es).length cap) ∧ Sl w' p (encA N Z es) cap b 0 ∧ Below w.heap.size w w' := by
  refine (rencode_any h hN hZ (fun e he => okF hT.tree he) hT.tree.len).mono ?_
  rintro e w' ⟨v, rfl, ho, hb⟩
  obtain ⟨p, cap, b, rfl, hs, hno⟩ := Nd.own_sl (encA_lt hN hZ hT.tree hT.ord) ho
  exact ⟨p, cap, b, rfl, hs, hb⟩
theorem ino_parts {t : Sta} (hk : ¬ 3 < (sNum (sText 256 t).2).1) : (sIno t).1 = ⟨str (sText 256 t).1, (((sNum (sText 256 t).2).1 : Nat) : Int), (sFlag (sNum (sText 256 t).2).2).1, str (sText 1024 (sFlag (sNum (sText 256 t).2).2).2).1⟩ ∧ (sIno t).2 = (sText 1024 (sFlag (sNum (sText 256 t).2).2).2).2 := by
  unfold sIno
  refine ⟨?_, rfl⟩
  simp only
  rw [Nat.min_eq_left (by omega)]
set_option maxHeartbeats 16000000 in
set_option maxRecDepth 100000 in
theorem rdecode_any {w : World} {p : Option Addr} {bs : List Nat} {cap b off : Nat} (hs : Sl w p bs cap b off) :
    Calls Tryz.prog 12 #[.slice p bs.length cap] w fun e w' => RDecP w bs e w' := by
  obtain ⟨w1, HW1⟩ : ∃ w1, Hid (w.alloc (.cells #[.slice p bs.length cap, .int .i64 0, .int .i64 0] 71) = w1) := ⟨_, hid_in rfl⟩
  have HB1 : Hid (Below w.heap.size w w1) := hid_in (by rw [← HW1.out]; exact (Below.refl _ _).alloc (Nat.le_refl _) _)
  have HI1 : Hid (RI w.heap.size w1 w.heap.size (bs, 0)) := hid_in ⟨bs, 0, ⟨⟨p, cap, b, off, by rw [← HW1.out]; exact Row.new w [.slice p bs.length cap, .int .i64 0, .int .i64 0] 71, hs.below HB1.out, fun h => ⟨by have := hs.blk h; omega, hs.blk h⟩⟩, by omega⟩, rfl⟩
  have HU : Hid (rdU bs = if (sNum (sNum (sNum (bs, 0)).2).2).2.2 ≠ 0 ∨ 128 < (sNum (bs, 0)).1 ∨ 8192 < (sNum (sNum (bs, 0)).2).1 ∨ 1024 < (sNum (sNum (sNum (bs, 0)).2).2).1 then none else rdE bs (sNum (bs, 0)).1 (sNum (sNum (bs, 0)).2).1 (rdL (sNum (sNum (sNum (bs, 0)).2).2).1 [] (sNum (sNum (sNum (bs, 0)).2).2).2)) := hid_in rfl
  have HT1 := hid_in (fun W s (k : RI w.heap.size W w.heap.size s) => Nd.rtext_s W w.heap.size w.heap.size s 256 (by omega) k)
  have HT2 := hid_in (fun W s (k : RI w.heap.size W w.heap.size s) => Nd.rtext_s W w.heap.size w.heap.size s 1024 (by omega) k)
  simp only [show ((256 : Nat) : Int) = 256 from rfl] at HT1
  simp only [show ((1024 : Nat) : Int) = 1024 from rfl] at HT2
  have HCB := hid_in (fun W (k : Below w.heap.size w W) => Nd.conv_sl (hs.below k))
  obtain ⟨SB, HSB⟩ : ∃ S, Hid (str bs = S) := ⟨_, hid_in rfl⟩
  rw [HSB.out] at HCB
  have HBLT := hid_in hs.lt
  generalize bs.length = bl at *
  clear hs
  go_enter Tryz.func12, Tryz.ntmps12
  go_upto_region 2 with fail
  refine wp_world HW1.out ?_
  clear HW1
  go_upto_region 5 with (first | (go_at_call 32; refine (Nd.rnum_s _ _ _ _ HI3.out).mono ?_; rintro e w4 ⟨rfl, hi4, hg4⟩; have HI4 := hid_in hi4; have HB4 := hid_in (below_of_grown HB3.out (grew_by hg4) HB3.out.size (Nat.le_refl _)); clear hi4 hg4) | (go_at_call 32; refine (Nd.rnum_s _ _ _ _ HI2.out).mono ?_; rintro e w3 ⟨rfl, hi3, hg3⟩; have HI3 := hid_in hi3; have HB3 := hid_in (below_of_grown HB2.out (grew_by hg3) HB2.out.size (Nat.le_refl _)); clear hi3 hg3) | (go_at_call 32; refine (Nd.rnum_s _ _ _ _ HI1.out).mono ?_; rintro e w2 ⟨rfl, hi2, hg2⟩; have HI2 := hid_in hi2; have HB2 := hid_in (below_of_grown HB1.out (grew_by hg2) HB1.out.size (Nat.le_refl _)); clear hi2 hg2))
  obtain ⟨-, -, e4⟩ := ri_row HI4.out
  clear HI1 HI2 HI3 HB1 HB2 HB3
  generalize (sNum (bs, 0)).1 = N at *
  generalize (sNum (sNum (bs, 0)).2).1 = Z at *
  generalize (sNum (sNum (sNum (bs, 0)).2).2).1 = n at *
  generalize (sNum (sNum (sNum (bs, 0)).2).2).2 = t4 at *
  by_cases h1 : t4.2 = 0
  · rw [h1] at e4
    by_cases h2 : N ≤ 128
    · have k1 : ¬ 128 < (N : Int) := by omega
      by_cases h3 : Z ≤ 8192
      · have k2 : ¬ 8192 < (Z : Int) := by omega
        by_cases h4 : n ≤ 1024
        · have k3 : ¬ 1024 < (n : Int) := by omega
          have k4 : (N : Int) ≤ 128 := by omega
          have k5 : (Z : Int) ≤ 8192 := by omega
          have k6 : (n : Int) ≤ 1024 := by omega
          rw [if_neg (by omega)] at HU
          have HN9 := hid_in h2
          have HZ9 := hid_in h3
          have HT0 := hid_in h1
          clear h1 h2 h3 h4
          go_upto_region 8 with fail
          obtain ⟨w5, HW5⟩ : ∃ w5, Hid (w4.alloc (.cells #[.int .i64 (N : Int), .int .i64 (Z : Int), .slice none 0 0] 52) = w5) := ⟨_, hid_in rfl⟩
          have HB5' : Hid (Below w4.heap.size w4 w5) := hid_in (by rw [← HW5.out]; exact (Below.refl _ _).alloc (Nat.le_refl _) _)
          have HR5 : Hid (RU w5 w4.heap.size (N : Int) (Z : Int) []) := hid_in ⟨_, by rw [← HW5.out]; exact Row.new w4 [.int .i64 (N : Int), .int .i64 (Z : Int), .slice none 0 0] 52, FO.nil _ _⟩
          have HI5 := hid_in (HI4.out.belowM HB5'.out HI4.out.blk (Nat.le_of_lt HI4.out.blk))
          have HB5 := hid_in (HB4.out.trans (HB5'.out.mono HB4.out.size))
          have HIB : Hid (w.heap.size < w4.heap.size) := hid_in HI4.out.blk
          refine wp_world HW5.out ?_
          clear HW5 HB5' HI4 HB4 e4
          generalize w4.heap.size = r at *
          obtain ⟨R, HR⟩ : ∃ R, Hid (rdL n [] t4 = R) := ⟨_, hid_in rfl⟩
          rw [HR.out] at HU
          go_wp2_with fail
          go_loopg [9] n (fun gk vi W => ∃ (i : Nat) (es : List Ent) (t : Sta), gk + i = n ∧ vi = .int .i64 (i : Int) ∧ Hid (DS w r N Z n R i es t W))
          case atStart => exact ⟨0, [], t4, by omega, rfl, HR5.out, HI5.out, HB5.out, Srt.nil, HT0.out, HIB.out, HR.out⟩
          case round =>
            clear HR5 HI5 HB5 HR HIB HT0
            obtain ⟨i, es, t, hgk, rfl, hd⟩ := hrel
            by_cases hlt : i < n
            · have hl2 : (i : Int) < (n : Int) := by omega
              have hst : rdL (n - i) es t = if 3 < (sNum (sText 256 t).2).1 ∨ (sIno t).2.2 ≠ 0 ∨ putEA es (sIno t).1.path (sIno t).1.kind (sIno t).1.opq (sIno t).1.data ≠ 0 then none else rdL (n - (i + 1)) (putO es (sIno t).1.path (sIno t).1.kind (sIno t).1.opq (sIno t).1.data) (sIno t).2 := by
                rw [show n - i = (n - (i + 1)) + 1 by omega]
                rfl
              rw [hd.out.rest] at hst
              have HST := hid_in hst
              have HGK := hid_in hgk
              have HLT := hid_in hlt
              have HSRT := hid_in hd.out.srt
              have HRL := hid_in hd.out.lt
              have HRU := hid_in hd.out.ru
              have HIN := hid_in hd.out.inn
              have HXS := hid_in (text_size 256 t)
              have HPT := hid_in (fun (hk : ¬ 3 < (sNum (sText 256 t).2).1) => ino_parts hk)
              obtain ⟨w2, HW2⟩ : ∃ w2, Hid (wr.alloc (.cells #[.string ⟨#[]⟩, .int .i64 0, .bool false, .string ⟨#[]⟩] 42) = w2) := ⟨_, hid_in rfl⟩
              have HBW : Hid (Below wr.heap.size wr w2) := hid_in (by rw [← HW2.out]; exact (Below.refl _ _).alloc (Nat.le_refl _) _)
              have HD2 : Hid (DX w wr wr.heap.size [.string ⟨#[]⟩, .int .i64 0, .bool false, .string ⟨#[]⟩] t w2) := hid_in ⟨HIN.out.belowM HBW.out HIN.out.blk (Nat.le_of_lt HIN.out.blk), fun b hb _ => HBW.out.block b hb, hd.out.bel.trans (HBW.out.mono hd.out.bel.size), by rw [← HW2.out]; exact Row.new wr [.string ⟨#[]⟩, .int .i64 0, .bool false, .string ⟨#[]⟩] 42, HBW.out.size⟩
              have HLT2 : Hid (w.heap.size < wr.heap.size) := hid_in HIN.out.blk
              clear hst hd hgk hlt
              go_upto_region 12 with fail
              refine wp_world HW2.out ?_
              clear HW2 HBW
              generalize hbx : wr.heap.size = bx at *
              have HBXL : Hid (wr.heap.size ≤ bx) := hid_in (by rw [hbx]; exact Nat.le_refl _)
              have HNE : Hid (some bx ≠ some w.heap.size) := hid_in (by intro e; have := Option.some.inj e; have := HLT2.out; omega)
              have HWB : Hid (w.heap.size ≤ bx) := hid_in (Nat.le_of_lt HLT2.out)
              clear hbx
              go_upto_region 13 with (go_at_call 33; refine (HT1.out _ _ HD2.out.inn).mono ?_; rintro e w3 ⟨rfl, hi3, hg3⟩; have HD3 := hid_in (HD2.out.grew HNE.out hi3 hg3); have c3 := HD3.out.row.cell 0; have z3 := HD3.out.row.frozen 0; simp only [List.getElem?_cons_zero] at c3; clear hi3 hg3)
              obtain ⟨u3, HU3⟩ : ∃ u, Hid (w3.setCell ⟨bx, 0, none⟩ (.string (str (sText 256 t).1)) = u) := ⟨_, hid_in rfl⟩
              have HE3 := hid_in (HD3.out.set HLT2.out HWB.out HBXL.out 0 (.string (str (sText 256 t).1)))
              rw [HU3.out] at HE3
              simp only [List.set_cons_zero] at HE3
              refine wp_world HU3.out ?_
              clear HU3
              go_upto_region 14 with (go_at_call 32; refine (Nd.rnum_s _ _ _ _ HE3.out.inn).mono ?_; rintro e w4 ⟨rfl, hi4, hg4⟩; have HD4 := hid_in (HE3.out.grew HNE.out hi4 hg4); clear hi4 hg4)
              generalize hx1 : str (sText 256 t).1 = x1 at *
              generalize hkn : (sNum (sText 256 t).2).1 = kn at *
              by_cases h3 : 3 < kn
              · have g3 : 3 < (kn : Int) := by omega
                have HRN : Hid (R = none) := hid_in (HST.out.trans (if_pos (.inl h3)))
                clear h3 hx1 hkn
                go_wp2_with fail
                go_ret2
                exact ⟨.inl ⟨by rw [HU.out, HRN.out]; rfl, rfl⟩, HD4.out.bel⟩
              · have g3 : ¬ 3 < (kn : Int) := by omega
                have g4 : (kn : Int) ≤ 3 := by omega
                have c4 := HD4.out.row.cell 1
                have z4 := HD4.out.row.frozen 1
                simp only [List.getElem?_cons_succ, List.getElem?_cons_zero] at c4
                obtain ⟨p1, p2⟩ := HPT.out h3
                rw [p1, p2] at HST
                clear HPT p1 p2
                generalize (sNum (sText 256 t).2).2 = s4 at *
                go_upto_region 17 with fail
                obtain ⟨u4, HU4⟩ : ∃ u, Hid (w4.setCell ⟨bx, 1, none⟩ (.int .i64 (kn : Int)) = u) := ⟨_, hid_in rfl⟩
                have HE4 := hid_in (HD4.out.set HLT2.out HWB.out HBXL.out 1 (.int .i64 (kn : Int)))
                rw [HU4.out] at HE4
                simp only [List.set_cons_zero, List.set_cons_succ] at HE4
                refine wp_world HU4.out ?_
                clear HU4
                go_upto_region 18 with (go_at_call 34; refine (Nd.rflag_s _ _ _ _ HE4.out.inn).mono ?_; rintro e w5 ⟨rfl, hi5, hg5⟩; have HD5 := hid_in (HE4.out.grew HNE.out hi5 hg5); have c5 := HD5.out.row.cell 2; have z5 := HD5.out.row.frozen 2; simp only [List.getElem?_cons_succ, List.getElem?_cons_zero] at c5; clear hi5 hg5)
                obtain ⟨u5, HU5⟩ : ∃ u, Hid (w5.setCell ⟨bx, 2, none⟩ (.bool (sFlag s4).1) = u) := ⟨_, hid_in rfl⟩
                have HE5 := hid_in (HD5.out.set HLT2.out HWB.out HBXL.out 2 (.bool (sFlag s4).1))
                rw [HU5.out] at HE5
                simp only [List.set_cons_zero, List.set_cons_succ] at HE5
                refine wp_world HU5.out ?_
                clear HU5
                go_upto_region 19 with (go_at_call 33; refine (HT2.out _ _ HE5.out.inn).mono ?_; rintro e w6 ⟨rfl, hi6, hg6⟩; have HD6 := hid_in (HE5.out.grew HNE.out hi6 hg6); have c6 := HD6.out.row.cell 3; have z6 := HD6.out.row.frozen 3; simp only [List.getElem?_cons_succ, List.getElem?_cons_zero] at c6; clear hi6 hg6)
                obtain ⟨u6, HU6⟩ : ∃ u, Hid (w6.setCell ⟨bx, 3, none⟩ (.string (str (sText 1024 (sFlag s4).2).1)) = u) := ⟨_, hid_in rfl⟩
                have HE6 := hid_in (HD6.out.set HLT2.out HWB.out HBXL.out 3 (.string (str (sText 1024 (sFlag s4).2).1)))
                rw [HU6.out] at HE6
                simp only [List.set_cons_zero, List.set_cons_succ] at HE6
                refine wp_world HU6.out ?_
                clear HU6
                generalize str (sText 1024 (sFlag s4).2).1 = x4 at *
                generalize (sText 1024 (sFlag s4).2).2 = t6 at *
                generalize (sFlag s4).1 = x3 at *
                obtain ⟨-, -, e6⟩ := ri_row HE6.out.inn
                have a0 := HE6.out.row.cell 0
                have a1 := HE6.out.row.cell 1
                have a2 := HE6.out.row.cell 2
                have a3 := HE6.out.row.cell 3
                simp only [List.getElem?_cons_succ, List.getElem?_cons_zero] at a0 a1 a2 a3
                have HRU6 := hid_in (HRU.out.kp HIN.out HE6.out.kp)
                have HPU := hid_in (rput_any HRU6.out HSRT.out.tree x1 (kn : Int) x3 x4 (by have := HXS.out; omega))
                by_cases h6 : t6.2 = 0
                · rw [h6] at e6
                  have HB6 := hid_in HE6.out.bel
                  by_cases h7 : putEA es x1 (kn : Int) x3 x4 = 0
                  · have HGO : Hid (R = rdL (n - (i + 1)) (putO es x1 (kn : Int) x3 x4) t6) := hid_in (HST.out.trans (if_neg (by rintro (q | q | q); (exact h3 q); (exact q h6); (exact q h7))))
                    unfold PutP at HPU
                    rw [h7] at HPU
                    have HT6 := hid_in h6
                    clear h3 hx1 hkn h6 h7
                    go_wp2_with (go_at_call 20; refine HPU.out.mono ?_; rintro e w8 ⟨rfl, hr8, hg8⟩; have HR8 := hid_in hr8; have HG8 := hid_in hg8; clear hr8 hg8)
                    go_roundg (n - (i + 1))
                    case measure => have := HGK.out; have := HLT.out; omega
                    case rel => exact ⟨i + 1, putO es x1 (kn : Int) x3 x4, t6, by have := HLT.out; omega, by go_num, ⟨HR8.out, HE6.out.inn.belowM (below_of_grown (Below.refl _ _) HG8.out (Nat.le_of_lt HRU6.out.lt) (Nat.le_refl _)) HRL.out (Nat.le_of_lt HRL.out), below_of_grown HB6.out HG8.out HB6.out.size (Nat.le_of_lt HRL.out), HSRT.out.put _ _ _ _, HT6.out, HRL.out, HGO.out.symm⟩⟩
                  · have HRN : Hid (R = none) := hid_in (HST.out.trans (if_pos (.inr (.inr h7))))
                    have g7 : (putEA es x1 (kn : Int) x3 x4 != 0) = true := by simpa using h7
                    unfold PutP at HPU
                    generalize putEA es x1 (kn : Int) x3 x4 = E at *
                    clear h3 hx1 hkn h6 h7 HST
                    go_wp2_with (go_at_call 20; refine HPU.out.mono ?_; rintro e w8 ⟨rfl, hr8, hg8⟩; have HB8 := hid_in (below_of_grown HB6.out hg8 HB6.out.size (Nat.le_of_lt HRL.out)); clear hr8 hg8)
                    go_ret2
                    exact ⟨.inl ⟨by rw [HU.out, HRN.out]; rfl, rfl⟩, HB8.out⟩
                · have HRN : Hid (R = none) := hid_in (HST.out.trans (if_pos (.inr (.inl h6))))
                  have g6 : ((t6.2 : Int) != 0) = true := by simp; omega
                  clear h3 hx1 hkn h6
                  go_wp2_with fail
                  go_ret2
                  exact ⟨.inl ⟨by rw [HU.out, HRN.out]; rfl, rfl⟩, HE6.out.bel⟩
            · obtain rfl : i = n := by omega
              have hfin : R = some (es, t) := by
                have h := hd.out.rest
                rw [Nat.sub_self] at h
                exact h.symm
              rw [hfin] at HU
              obtain ⟨tl, te⟩ := t
              obtain rfl : te = 0 := hd.out.ok
              have HU2 : Hid (rdU bs = if (0 : Nat) ≠ 0 ∨ tl.length ≠ 0 ∨ encA N Z es ≠ bs then none else some (N, Z, es)) := hid_in HU.out
              have HSRT := hid_in hd.out.srt
              have HRU := hid_in hd.out.ru
              have HBL := hid_in hd.out.bel
              obtain ⟨vi, hvi, e5⟩ := ri_row hd.out.inn
              have HVI := hid_in hvi
              simp only at e5
              have H35 := hid_in (fun m => (Nd.rleft_t (wr.drewN m) w.heap.size w.heap.size tl 0 (hd.out.inn.belowM (Nd.below_drewN (Below.refl _ _) m) hd.out.inn.blk (Nat.le_of_lt hd.out.inn.blk))).mono (fun r w' (h : _ ∧ _) => (⟨h.1, 1, h.2⟩ : _ ∧ ∃ k, w' = (wr.drewN m).drewN k)))
              have HLF := hid_in (Nd.rleft_t wr.drew w.heap.size w.heap.size tl 0 (hd.out.inn.belowM (Below.refl _ _).drew hd.out.inn.blk (Nat.le_of_lt hd.out.inn.blk)))
              clear HU hfin hd hgk hlt HT1 HT2 hvi
              by_cases h1 : tl.length = 0
              · have HBD : Hid (Below wr.heap.size wr wr.drew) := hid_in (Below.refl _ _).drew
                have HCP : Hid (∀ W, Below wr.heap.size wr W → W.cell? ⟨w.heap.size, 2, none⟩ = some (.int .i64 0) ∧ (convert 23 9 (.slice p bl cap)).run Tryz.prog W = .ok (.string SB) W) := hid_in (fun W k => ⟨by rw [k.cell (p := ⟨w.heap.size, 2, none⟩) HVI.out.lt]; exact e5, HCB.out W (HBL.out.trans (k.mono HBL.out.size))⟩)
                have HEN := hid_in (fun W (k : Below wr.heap.size wr W) => renc_sl (HRU.out.below k) HN9.out HZ9.out HSRT.out)
                have HCV := hid_in (fun (W : World) (q : Option Addr) (c b : Nat) (k : Sl W q (encA N Z es) c b 0) => Nd.conv_sl k)
                have HZLT := hid_in (encA_lt HN9.out HZ9.out HSRT.out.tree HSRT.out.ord)
                rw [h1] at HLF
                generalize hlen : (encA N Z es).length = zl at *
                clear hlen H35
                by_cases h2 : encA N Z es = bs
                · rw [if_neg (by rintro (q | q | q); (exact q rfl); (exact q h1); (exact q h2))] at HU2
                  rw [h2, HSB.out] at HCV
                  rw [h2] at HEN
                  clear h1 h2
                  go_upto_region 21 with fail
                  refine wp_region_held_drew (S := fun W => W.cell? ⟨w.heap.size, 2, none⟩ = some (.int .i64 0) ∧ (convert 23 9 (.slice p bl cap)).run Tryz.prog W = .ok (.string SB) W) (by kernel_rfl) (HCP.out _ HBD.out) (fun hHeld => ?_)
                  refine take_put (i := 0) (d := 77) (v := ?_) rfl rfl (by kernel_rfl) (by kernel_rfl) (by kernel_rfl) (fun _ _ _ h => h) (Or.inl ⟨by kernel_rfl, ?_⟩) hHeld ?_
                  rotate_left
                  · (intro w hSw; (try dsimp only at hSw); go_simp; (try with_reducible rfl))
                  simp only [Act.put, List.setIfInBounds_toArray, List.set_cons_zero, List.set_cons_succ]
                  refine take_put (i := 1) (d := 78) (v := ?_) rfl rfl (by kernel_rfl) (by kernel_rfl) (by kernel_rfl) (fun _ _ _ h => h) (Or.inl ⟨by kernel_rfl, ?_⟩) hHeld ?_
                  rotate_left
                  · (intro w hSw; (try dsimp only at hSw); go_simp; (try with_reducible rfl))
                  simp only [Act.put, List.setIfInBounds_toArray, List.set_cons_zero, List.set_cons_succ]
                  refine take_put (i := 2) (d := 79) (v := ?_) rfl rfl (by kernel_rfl) (by kernel_rfl) (by kernel_rfl) (fun _ _ _ h => h) (Or.inl ⟨by kernel_rfl, ?_⟩) hHeld ?_
                  rotate_left
                  · (intro w hSw; (try dsimp only at hSw); go_simp; (try with_reducible rfl))
                  simp only [Act.put, List.setIfInBounds_toArray, List.set_cons_zero, List.set_cons_succ]
                  refine take_put (i := 3) (d := 80) (v := ?_) rfl rfl (by kernel_rfl) (by kernel_rfl) (by kernel_rfl) (fun _ _ _ h => h) (Or.inl ⟨by kernel_rfl, ?_⟩) hHeld ?_
                  rotate_left
                  · (intro w hSw; (try dsimp only at hSw); go_simp; (try with_reducible rfl))
                  simp only [Act.put, List.setIfInBounds_toArray, List.set_cons_zero, List.set_cons_succ]
                  refine take_put (i := 4) (d := 81) (v := .bool false) rfl rfl (by kernel_rfl) (by kernel_rfl) (by kernel_rfl) (fun _ _ _ h => h) (Or.inl ⟨by kernel_rfl, fun w hSw => ?_⟩) hHeld ?_
                  · (go_simp)
                  simp only [Act.put, List.setIfInBounds_toArray, List.set_cons_zero, List.set_cons_succ]
                  refine take_put (i := 5) (d := 82) (v := ?_) rfl rfl (by kernel_rfl) (by kernel_rfl) (by kernel_rfl) (fun _ _ _ h => h) (Or.inl ⟨by kernel_rfl, ?_⟩) hHeld ?_
                  rotate_left
                  · (intro w hSw; (try dsimp only at hSw); go_simp; (try with_reducible rfl))
                  simp only [Act.put, List.setIfInBounds_toArray, List.set_cons_zero, List.set_cons_succ]
                  refine take_put (i := 6) (d := 83) (v := ?_) rfl rfl (by kernel_rfl) (by kernel_rfl) (by kernel_rfl) (fun _ _ _ h => h) (Or.inl ⟨by kernel_rfl, ?_⟩) hHeld ?_
                  rotate_left
                  · (intro w hSw; (try dsimp only at hSw); go_simp; (try with_reducible rfl))
                  simp only [Act.put, List.setIfInBounds_toArray, List.set_cons_zero, List.set_cons_succ]
                  refine wpAnyH_ready (rs := [7]) (by kernel_rfl) (by simp) ?_
                  refine AllReadyH.cons rfl (fun K hK => ?_) AllReadyH.nil
                  rw [if_pos (by rfl)]
                  go_simp
                  refine (HLF.out).mono ?_
                  rintro e w6 ⟨rfl, hw6⟩
                  have HB6 : Hid (Below wr.heap.size wr w6) := hid_in (by rw [hw6]; exact HBD.out.drew)
                  clear hw6
                  go_simp
                  refine hK.out _ _ (HCP.out _ HB6.out) (fun hHeld => ?_)
                  clear hK K
                  refine take_put (i := 8) (d := 85) (v := .bool false) rfl rfl (by kernel_rfl) (by kernel_rfl) (by kernel_rfl) (fun _ _ _ h => h) (Or.inl ⟨by kernel_rfl, fun w hSw => ?_⟩) hHeld ?_
                  · (go_simp)
                  simp only [Act.put, List.setIfInBounds_toArray, List.set_cons_zero, List.set_cons_succ]
                  refine take_put (i := 9) (d := 86) (v := .bool false) rfl rfl (by kernel_rfl) (by kernel_rfl) (by kernel_rfl) (fun _ _ _ h => h) (Or.inl ⟨by kernel_rfl, fun w hSw => ?_⟩) hHeld ?_
                  · (go_simp)
                  simp only [Act.put, List.setIfInBounds_toArray, List.set_cons_zero, List.set_cons_succ]
                  refine take_put (i := 10) (d := 87) (v := ?_) rfl rfl (by kernel_rfl) (by kernel_rfl) (by kernel_rfl) (fun _ _ _ h => h) (Or.inl ⟨by kernel_rfl, ?_⟩) hHeld ?_
                  rotate_left
                  · (intro w hSw; (try dsimp only at hSw); go_simp; (try with_reducible rfl))
                  simp only [Act.put, List.setIfInBounds_toArray, List.set_cons_zero, List.set_cons_succ]
                  refine take_put (i := 11) (d := 88) (v := ?_) rfl rfl (by kernel_rfl) (by kernel_rfl) (by kernel_rfl) (fun _ _ _ h => h) (Or.inl ⟨by kernel_rfl, ?_⟩) hHeld ?_
                  rotate_left
                  · (intro w hSw; (try dsimp only at hSw); go_simp; (try with_reducible rfl))
                  simp only [Act.put, List.setIfInBounds_toArray, List.set_cons_zero, List.set_cons_succ]
                  refine take_put (i := 14) (d := 91) (v := ?_) rfl rfl (by kernel_rfl) (by kernel_rfl) (by kernel_rfl) (fun _ _ _ h => h) (Or.inl ⟨by kernel_rfl, ?_⟩) hHeld ?_
                  rotate_left
                  · (intro w hSw; (try dsimp only at hSw); go_simp; (try with_reducible rfl))
                  simp only [Act.put, List.setIfInBounds_toArray, List.set_cons_zero, List.set_cons_succ]
                  refine take_put (i := 15) (d := 92) (v := .string SB) rfl rfl (by kernel_rfl) (by kernel_rfl) (by kernel_rfl) (fun _ _ _ h => h) (Or.inl ⟨by kernel_rfl, fun w hSw => ?_⟩) hHeld ?_
                  · (go_simp)
                  simp only [Act.put, List.setIfInBounds_toArray, List.set_cons_zero, List.set_cons_succ]
                  refine wpAnyH_ready (rs := [12]) (by kernel_rfl) (by simp) ?_
                  refine AllReadyH.cons rfl (fun K hK => ?_) AllReadyH.nil
                  rw [if_pos (by rfl)]
                  go_simp
                  refine (HEN.out _ HB6.out).mono ?_
                  rintro e w7 ⟨p7, c7, b7, rfl, hs7, hb7⟩
                  have HB7 := hid_in (HB6.out.trans (hb7.mono HB6.out.size))
                  have cv7 := HCV.out _ _ _ _ hs7
                  clear hs7 hb7
                  go_simp
                  refine hK.out _ _ (HCP.out _ HB7.out) (fun hHeld => ?_)
                  clear hK K
                  refine wpAnyH_ready (rs := [13]) (by kernel_rfl) (by simp) ?_
                  refine AllReadyH.cons rfl (fun K hK => ?_) AllReadyH.nil
                  rw [if_pos (by rfl)]
                  go_simp
                  refine hK.out _ _ (HCP.out _ HB7.out) (fun hHeld => ?_)
                  clear hK K
                  refine take_put (i := 16) (d := 93) (v := .bool false) rfl rfl (by kernel_rfl) (by kernel_rfl) (by kernel_rfl) (fun _ _ _ h => h) (Or.inl ⟨by kernel_rfl, fun w hSw => ?_⟩) hHeld ?_
                  · (go_simp)
                  simp only [Act.put, List.setIfInBounds_toArray, List.set_cons_zero, List.set_cons_succ]
                  refine take_put (i := 17) (d := 94) (v := .bool false) rfl rfl (by kernel_rfl) (by kernel_rfl) (by kernel_rfl) (fun _ _ _ h => h) (Or.inl ⟨by kernel_rfl, fun w hSw => ?_⟩) hHeld ?_
                  · (go_simp)
                  simp only [Act.put, List.setIfInBounds_toArray, List.set_cons_zero, List.set_cons_succ]
                  refine wpAnyH_done (by kernel_rfl) ?_ _
                  go_wp2_with fail
                  go_ret2
                  exact ⟨.inr ⟨N, Z, es, r, HU2.out, rfl, HRU.out.below HB7.out⟩, HBL.out.trans (HB7.out.mono HBL.out.size)⟩
                · rw [if_pos (.inr (.inr h2))] at HU2
                  have hne : ¬ (str (encA N Z es)).toList = SB.toList := fun e => h2 (st_inj HZLT.out HBLT.out (by rw [HSB.out]; exact tol_inj e))
                  have hne2 : ((str (encA N Z es)).toList == SB.toList) = false := by simpa using hne
                  generalize str (encA N Z es) = SZ at *
                  generalize encA N Z es = Zb at *
                  clear h1 h2
                  go_upto_region 21 with fail
                  refine wp_region_held_drew (S := fun W => W.cell? ⟨w.heap.size, 2, none⟩ = some (.int .i64 0) ∧ (convert 23 9 (.slice p bl cap)).run Tryz.prog W = .ok (.string SB) W) (by kernel_rfl) (HCP.out _ HBD.out) (fun hHeld => ?_)
                  refine take_put (i := 0) (d := 77) (v := ?_) rfl rfl (by kernel_rfl) (by kernel_rfl) (by kernel_rfl) (fun _ _ _ h => h) (Or.inl ⟨by kernel_rfl, ?_⟩) hHeld ?_
                  rotate_left
                  · (intro w hSw; (try dsimp only at hSw); go_simp; (try with_reducible rfl))
                  simp only [Act.put, List.setIfInBounds_toArray, List.set_cons_zero, List.set_cons_succ]
                  refine take_put (i := 1) (d := 78) (v := ?_) rfl rfl (by kernel_rfl) (by kernel_rfl) (by kernel_rfl) (fun _ _ _ h => h) (Or.inl ⟨by kernel_rfl, ?_⟩) hHeld ?_
                  rotate_left
                  · (intro w hSw; (try dsimp only at hSw); go_simp; (try with_reducible rfl))
                  simp only [Act.put, List.setIfInBounds_toArray, List.set_cons_zero, List.set_cons_succ]
                  refine take_put (i := 2) (d := 79) (v := ?_) rfl rfl (by kernel_rfl) (by kernel_rfl) (by kernel_rfl) (fun _ _ _ h => h) (Or.inl ⟨by kernel_rfl, ?_⟩) hHeld ?_
                  rotate_left
                  · (intro w hSw; (try dsimp only at hSw); go_simp; (try with_reducible rfl))
                  simp only [Act.put, List.setIfInBounds_toArray, List.set_cons_zero, List.set_cons_succ]
                  refine take_put (i := 3) (d := 80) (v := ?_) rfl rfl (by kernel_rfl) (by kernel_rfl) (by kernel_rfl) (fun _ _ _ h => h) (Or.inl ⟨by kernel_rfl, ?_⟩) hHeld ?_
                  rotate_left
                  · (intro w hSw; (try dsimp only at hSw); go_simp; (try with_reducible rfl))
                  simp only [Act.put, List.setIfInBounds_toArray, List.set_cons_zero, List.set_cons_succ]
                  refine take_put (i := 4) (d := 81) (v := .bool false) rfl rfl (by kernel_rfl) (by kernel_rfl) (by kernel_rfl) (fun _ _ _ h => h) (Or.inl ⟨by kernel_rfl, fun w hSw => ?_⟩) hHeld ?_
                  · (go_simp)
                  simp only [Act.put, List.setIfInBounds_toArray, List.set_cons_zero, List.set_cons_succ]
                  refine take_put (i := 5) (d := 82) (v := ?_) rfl rfl (by kernel_rfl) (by kernel_rfl) (by kernel_rfl) (fun _ _ _ h => h) (Or.inl ⟨by kernel_rfl, ?_⟩) hHeld ?_
                  rotate_left
                  · (intro w hSw; (try dsimp only at hSw); go_simp; (try with_reducible rfl))
                  simp only [Act.put, List.setIfInBounds_toArray, List.set_cons_zero, List.set_cons_succ]
                  refine take_put (i := 6) (d := 83) (v := ?_) rfl rfl (by kernel_rfl) (by kernel_rfl) (by kernel_rfl) (fun _ _ _ h => h) (Or.inl ⟨by kernel_rfl, ?_⟩) hHeld ?_
                  rotate_left
                  · (intro w hSw; (try dsimp only at hSw); go_simp; (try with_reducible rfl))
                  simp only [Act.put, List.setIfInBounds_toArray, List.set_cons_zero, List.set_cons_succ]
                  refine wpAnyH_ready (rs := [7]) (by kernel_rfl) (by simp) ?_
                  refine AllReadyH.cons rfl (fun K hK => ?_) AllReadyH.nil
                  rw [if_pos (by rfl)]
                  go_simp
                  refine (HLF.out).mono ?_
                  rintro e w6 ⟨rfl, hw6⟩
                  have HB6 : Hid (Below wr.heap.size wr w6) := hid_in (by rw [hw6]; exact HBD.out.drew)
                  clear hw6
                  go_simp
                  refine hK.out _ _ (HCP.out _ HB6.out) (fun hHeld => ?_)
                  clear hK K
                  refine take_put (i := 8) (d := 85) (v := .bool false) rfl rfl (by kernel_rfl) (by kernel_rfl) (by kernel_rfl) (fun _ _ _ h => h) (Or.inl ⟨by kernel_rfl, fun w hSw => ?_⟩) hHeld ?_
                  · (go_simp)
                  simp only [Act.put, List.setIfInBounds_toArray, List.set_cons_zero, List.set_cons_succ]
                  refine take_put (i := 9) (d := 86) (v := .bool false) rfl rfl (by kernel_rfl) (by kernel_rfl) (by kernel_rfl) (fun _ _ _ h => h) (Or.inl ⟨by kernel_rfl, fun w hSw => ?_⟩) hHeld ?_
                  · (go_simp)
                  simp only [Act.put, List.setIfInBounds_toArray, List.set_cons_zero, List.set_cons_succ]
                  refine take_put (i := 10) (d := 87) (v := ?_) rfl rfl (by kernel_rfl) (by kernel_rfl) (by kernel_rfl) (fun _ _ _ h => h) (Or.inl ⟨by kernel_rfl, ?_⟩) hHeld ?_
                  rotate_left
                  · (intro w hSw; (try dsimp only at hSw); go_simp; (try with_reducible rfl))
                  simp only [Act.put, List.setIfInBounds_toArray, List.set_cons_zero, List.set_cons_succ]
                  refine take_put (i := 11) (d := 88) (v := ?_) rfl rfl (by kernel_rfl) (by kernel_rfl) (by kernel_rfl) (fun _ _ _ h => h) (Or.inl ⟨by kernel_rfl, ?_⟩) hHeld ?_
                  rotate_left
                  · (intro w hSw; (try dsimp only at hSw); go_simp; (try with_reducible rfl))
                  simp only [Act.put, List.setIfInBounds_toArray, List.set_cons_zero, List.set_cons_succ]
                  refine take_put (i := 14) (d := 91) (v := ?_) rfl rfl (by kernel_rfl) (by kernel_rfl) (by kernel_rfl) (fun _ _ _ h => h) (Or.inl ⟨by kernel_rfl, ?_⟩) hHeld ?_
                  rotate_left
                  · (intro w hSw; (try dsimp only at hSw); go_simp; (try with_reducible rfl))
                  simp only [Act.put, List.setIfInBounds_toArray, List.set_cons_zero, List.set_cons_succ]
                  refine take_put (i := 15) (d := 92) (v := .string SB) rfl rfl (by kernel_rfl) (by kernel_rfl) (by kernel_rfl) (fun _ _ _ h => h) (Or.inl ⟨by kernel_rfl, fun w hSw => ?_⟩) hHeld ?_
                  · (go_simp)
                  simp only [Act.put, List.setIfInBounds_toArray, List.set_cons_zero, List.set_cons_succ]
                  refine wpAnyH_ready (rs := [12]) (by kernel_rfl) (by simp) ?_
                  refine AllReadyH.cons rfl (fun K hK => ?_) AllReadyH.nil
                  rw [if_pos (by rfl)]
                  go_simp
                  refine (HEN.out _ HB6.out).mono ?_
                  rintro e w7 ⟨p7, c7, b7, rfl, hs7, hb7⟩
                  have HB7 := hid_in (HB6.out.trans (hb7.mono HB6.out.size))
                  have cv7 := HCV.out _ _ _ _ hs7
                  clear hs7 hb7
                  go_simp
                  refine hK.out _ _ (HCP.out _ HB7.out) (fun hHeld => ?_)
                  clear hK K
                  refine wpAnyH_ready (rs := [13]) (by kernel_rfl) (by simp) ?_
                  refine AllReadyH.cons rfl (fun K hK => ?_) AllReadyH.nil
                  rw [if_pos (by rfl)]
                  go_simp
                  refine hK.out _ _ (HCP.out _ HB7.out) (fun hHeld => ?_)
                  clear hK K
                  refine take_put (i := 16) (d := 93) (v := .bool true) rfl rfl (by kernel_rfl) (by kernel_rfl) (by kernel_rfl) (fun _ _ _ h => h) (Or.inl ⟨by kernel_rfl, fun w hSw => ?_⟩) hHeld ?_
                  · (go_simp)
                  simp only [Act.put, List.setIfInBounds_toArray, List.set_cons_zero, List.set_cons_succ]
                  refine take_put (i := 17) (d := 94) (v := .bool true) rfl rfl (by kernel_rfl) (by kernel_rfl) (by kernel_rfl) (fun _ _ _ h => h) (Or.inl ⟨by kernel_rfl, fun w hSw => ?_⟩) hHeld ?_
                  · (go_simp)
                  simp only [Act.put, List.setIfInBounds_toArray, List.set_cons_zero, List.set_cons_succ]
                  refine wpAnyH_done (by kernel_rfl) ?_ _
                  go_wp2_with fail
                  go_ret2
                  exact ⟨.inl ⟨HU2.out, rfl⟩, HBL.out.trans (HB7.out.mono HBL.out.size)⟩
              · have g1 : ((tl.length : Int) != 0) = true := by rw [bne_iff_ne]; omega
                rw [if_pos (.inr (.inl h1))] at HU2
                clear h1 HLF
                generalize tl.length = L at *
                go_wp2_with fail
                go_quiet (first | (go_at_call 35; refine Calls.quiet_of (H35.out _)))
                go_wp2_with fail
                go_ret2
                exact ⟨.inl ⟨HU2.out, rfl⟩, Nd.below_drewN HBL.out _⟩
        · have k3 : 1024 < (n : Int) := by omega
          rw [if_pos (.inr (.inr (.inr (by omega))))] at HU
          clear h1 h2 h3 h4
          go_wp2_with fail
          go_ret2
          exact ⟨.inl ⟨HU.out, rfl⟩, HB4.out⟩
      · have k2 : 8192 < (Z : Int) := by omega
        rw [if_pos (.inr (.inr (.inl (by omega))))] at HU
        clear h1 h2 h3
        go_wp2_with fail
        go_ret2
        exact ⟨.inl ⟨HU.out, rfl⟩, HB4.out⟩
    · have k1 : 128 < (N : Int) := by omega
      rw [if_pos (.inr (.inl (by omega)))] at HU
      clear h1 h2
      go_wp2_with fail
      go_ret2
      exact ⟨.inl ⟨HU.out, rfl⟩, HB4.out⟩
  · have k1 : ((t4.2 : Int) != 0) = true := by simp; omega
    rw [if_pos (.inl h1)] at HU
    clear h1
    generalize t4.2 = e0 at *
    go_wp2_with fail
    go_ret2
    exact ⟨.inl ⟨HU.out, rfl⟩, HB4.out⟩
end Go.Proofs.YtglfeocfhlmloaaGreat.Up
