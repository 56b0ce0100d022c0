/-
  The walk of PlainBack. Files that come in.
-/
import Derived.Lib.SlBytesConst
import Derived.Laws.Tables
import Derived.Deep.RegionLaw
import Derived.Deep.DrawnRows
import Derived.Lib.AppendZeros
import Derived.Laws.CopyOwn
import Derived.Shelf.Strings.Repeat
import Derived.Test.YtngehkmdanhgpaaGreatRows
import Derived.ProofKit
import Derived.OpenShut
import Derived.ShutString
import Derived.ChangeOld
import Derived.Deep.DeepHandedRow
import Derived.Deep.Slices
import Derived.SizedLaws
import Derived.Lib.LaidTab
import Derived.Test.YtngehkmdanhgpaaGreatS00
import Derived.Test.YtngehkmdanhgpaaGreatS01
import Derived.Test.YtngehkmdanhgpaaGreatS02
import Derived.Test.YtngehkmdanhgpaaGreatS03
import Derived.Test.YtngehkmdanhgpaaGreatS04
import Derived.Test.YtngehkmdanhgpaaGreatS05
import Derived.Test.YtngehkmdanhgpaaGreatS06
import Derived.Test.YtngehkmdanhgpaaGreatS07
import Derived.Test.YtngehkmdanhgpaaGreatS08
import Derived.Test.YtngehkmdanhgpaaGreatS09
import Derived.Test.YtngehkmdanhgpaaGreatS10
import Derived.Test.YtngehkmdanhgpaaGreatS11
import Derived.Test.YtngehkmdanhgpaaGreatS12
import Derived.Test.YtngehkmdanhgpaaGreatS13
import Derived.Test.YtngehkmdanhgpaaGreatS14
import Derived.Test.YtngehkmdanhgpaaGreatS15
import Derived.Test.YtngehkmdanhgpaaGreatS16
import Derived.Test.YtngehkmdanhgpaaGreatS17
import Derived.Test.YtngehkmdanhgpaaGreatS18
import Derived.Test.YtngehkmdanhgpaaGreatS19
import Derived.Test.YtngehkmdanhgpaaGreatS20
import Derived.Test.YtngehkmdanhgpaaGreatS21
import Derived.Test.YtngehkmdanhgpaaGreatS22
import Derived.Test.YtngehkmdanhgpaaGreatS23
import Derived.Test.YtngehkmdanhgpaaGreatS24
import Derived.Test.YtngehkmdanhgpaaGreatS25
import Derived.Test.YtngehkmdanhgpaaGreatS26
import Derived.Test.YtngehkmdanhgpaaGreatS27
import Derived.Test.YtngehkmdanhgpaaGreatS28
import Derived.Test.YtngehkmdanhgpaaGreatS29
import Derived.Test.YtngehkmdanhgpaaGreatS30
import Derived.Test.YtngehkmdanhgpaaGreatS31
import Derived.Test.YtngehkmdanhgpaaGreatS32
import Derived.Test.YtngehkmdanhgpaaGreatS33
import Derived.Test.YtngehkmdanhgpaaGreatS34
import Derived.Test.YtngehkmdanhgpaaGreatS35
import Derived.Test.YtngehkmdanhgpaaGreatS36
import Derived.Test.YtngehkmdanhgpaaGreatS37
import Derived.Test.YtngehkmdanhgpaaGreatS38
import Derived.Test.YtngehkmdanhgpaaGreatS39
import Derived.Test.YtngehkmdanhgpaaGreatS40
namespace Go.Proofs.YtngehkmdanhgpaaGreat.Pl
open Go.RowKit
open Vp (Str B bl Val cmpL parseS showS splitS withinS IsPath)
open Nd (Row wp_world post_Row post_Row2 grownBy_setCell below_of_grown Opn checkS numsOk namedS pathsS perr)
open Rf (Fil Fls fcells)
theorem w_new {fs : List Fil} {p : Option Addr} {n c : Nat} {w : World} (h : Fls w (.slice p n c) fs) (hn : fs.length ≤ 100) (hp : ∀ f ∈ fs, f.path.size ≤ 9223372036854775807) :
    Calls Tryz.prog 10 #[.slice p n c] w fun e w' => Below w.heap.size w w' ∧ ((∃ k, k ≠ 0 ∧ e = .returned (.tuple #[.pointer none, .int .i64 k])) ∨ (∃ g m A, e = .returned (.tuple #[.pointer (some ⟨g, 0, none⟩), .int .i64 0]) ∧ FsA w' g m A ∧ w.heap.size ≤ m ∧ Tree A ∧ A.length ≤ 101)) := by
  refine (new_any fs _ w h (by omega) hp).mono ?_
  rintro e w' ⟨hb, ⟨hne, rfl⟩ | ⟨he, g, m, L, rfl, hF, hg, hm, hL⟩⟩
  · exact ⟨hb, .inl ⟨_, hne, rfl⟩⟩
  · refine ⟨hb, .inr ⟨g, m, newA fs, rfl, ⟨L, hF, hL⟩, hm, tree_new he, ?_⟩⟩
    simp only [newA, List.length_cons, List.length_map]
    omega
set_option maxHeartbeats 4000000 in
set_option maxRecDepth 100000 in
theorem back_any (fs : List Fil) (v : Value) (pa pb : ByteArray) (w : World) (hf : Fls w v fs) (hps : ∀ f ∈ fs, f.path.size ≤ 9223372036854775807) (ha : pa.size ≤ 9223372036854775807) (hb : pb.size ≤ 9223372036854775807) :
    Calls Tryz.prog 6 #[v, .string pa, .string pb] w fun e w' => e = .returned (.bool true) ∧ Below w.heap.size w w' := by
  obtain ⟨p0, c0, rfl⟩ := hf.form
  have HAW := hid_in (awake_any w)
  have HFI := hid_in (fun W (k : Below w.heap.size w W) => fits_any W _ fs (hf.below k))
  have HNW := hid_in (fun W (k : Below w.heap.size w W) (hn : fs.length ≤ 100) => w_new (hf.below k) hn hps)
  have HLS := hid_in (fun W g m A (k : FsA W g m A) (hn : A.length ≤ 101) => w_list k (by omega))
  have HST := hid_in (fun W g m A p (k : FsA W g m A) (hn : A.length ≤ 101) (hp : p.size ≤ 9223372036854775807) => w_stat k (by omega) p hp)
  have HRN := hid_in (fun W g m A p t (k : FsA W g m A) (hn : A.length ≤ 101) (hp : p.size ≤ 9223372036854775807) (ht : t.size ≤ 9223372036854775807) => w_rename k (by omega) p t hp ht)
  have HA := hid_in ha
  have HB := hid_in hb
  clear hf hps ha hb
  generalize fs.length = N at *
  go_enter Tryz.func6, Tryz.ntmps6
  go_upto_region 3 with (go_at_call 8; refine HAW.out.mono ?_; rintro e w1 ⟨rfl, hb1⟩; have HB1 := hid_in hb1; clear hb1)
  go_upto_region 5 with (go_at_call 9; refine (HFI.out _ HB1.out).mono ?_; rintro e w2 ⟨⟨t, rfl, ht⟩, hb2⟩; have HB2 := hid_in (HB1.out.trans (hb2.mono HB1.out.size)); clear hb2; have HT := hid_in ht; clear ht; rcases t with _ | _; (focus (go_wp2_with fail; go_ret; exact ⟨rfl, HB2.out⟩)))
  have hN : N ≤ 100 := by first | exact HT.out rfl | exact HT.out trivial | exact HT.out
  have HN := hid_in hN
  clear HT hN
  go_upto_region 8 with (go_at_call 10; refine (HNW.out _ HB2.out HN.out).mono ?_; rintro e w3 ⟨hb3, ⟨k, hk, rfl⟩ | ⟨g, m, A, rfl, hF, hm, hT, hl⟩⟩; (focus (have HB3 := hid_in (HB2.out.trans (hb3.mono HB2.out.size)); clear hb3; go_wp2_with fail; go_ret; exact ⟨rfl, HB3.out⟩)); have HB3 := hid_in (HB2.out.trans (hb3.mono HB2.out.size)); have HF3 := hid_in hF; have HM := hid_in (Nat.le_trans HB2.out.size hm); have HTR := hid_in hT; have HL := hid_in hl; clear hb3 hF hm hT hl)
  clear HAW HFI HNW
  go_upto_region 9 with (go_at_call 16; refine (HLS.out _ _ _ _ HF3.out HL.out).mono ?_; rintro e w4 ⟨p4, c4, g4, rfl, hw4, hl4, hF4, hb4⟩; have HW4 := hid_in hw4; have HLI4 := hid_in hl4; have HF4 := hid_in hF4; have HB4 := hid_in (HB3.out.trans (hb4.mono HB3.out.size)); have HK4 := hid_in hb4; clear hw4 hl4 hF4 hb4)
  go_upto_region 10 with (first | (go_at_call 14; refine (HST.out _ _ _ _ _ HF4.out HL.out HB.out).mono ?_; rintro e w5 ⟨c5, b5, s5, vp5, vc5, rfl, hc5, hF5, hg5⟩; have HC5 := hid_in hc5; have HF5 := hid_in hF5; have HW5 := hid_in (fls_map HF4.out hg5 HW4.out); have HB5 := hid_in (HB4.out.grown hg5 HB4.out.size (fun k e => by obtain rfl := Option.some.inj e; exact HM.out)); clear hc5 hF5 hg5) | (refine Nd.wpList_store_new rfl rfl 37 5 _ _ rfl _ [Value.int .i64 c5, .bool b5, .int .i64 s5, .string ⟨#[]⟩, .slice vp5 0 vc5] info37 rfl (hid_in rfl) (store37 _ _ _ _ _ _ _) rfl rfl ?_; intro w6 hr6 hb6 hs6; have HR6 := hid_in hr6; have HF6 := hid_in (HF5.out.below hb6); have HB6 := hid_in (HB5.out.trans (hb6.mono HB5.out.size)); have HW6 := hid_in (HW5.out.below hb6); clear hr6 hb6 hs6))
  go_upto_region 11 with (first | (go_at_call 14; refine (HRN.out _ _ _ _ _ _ HF6.out HL.out HA.out HB.out).mono ?_; rintro e w7 ⟨c7, b7, s7, vp7, vc7, A7, rfl, hc7, hM7, hN7, hF7, hg7⟩; have HC7 := hid_in hc7; have HM7 := hid_in hM7; have HN7 := hid_in hN7; have HF7 := hid_in hF7; have HW7 := hid_in (fls_map HF6.out hg7 HW6.out); have HR67 := hid_in (row_stays HR6.out HF6.out hg7); have HB7 := hid_in (HB6.out.grown hg7 HB6.out.size (fun k e => by obtain rfl := Option.some.inj e; exact HM.out)); clear hc7 hM7 hN7 hF7 hg7) | (refine Nd.wpList_store_new rfl rfl 37 5 _ _ rfl _ [Value.int .i64 c7, .bool b7, .int .i64 s7, .string ⟨#[]⟩, .slice vp7 0 vc7] info37 rfl (hid_in rfl) (store37 _ _ _ _ _ _ _) rfl rfl ?_; intro w8 hr8 hb8 hs8; have HR8 := hid_in hr8; have HF8 := hid_in (HF7.out.below hb8); have HB8 := hid_in (HB7.out.trans (hb8.mono HB7.out.size)); have HW8 := hid_in (HW7.out.below hb8); have HR68 := hid_in (HR67.out.below hb8 HR67.out.lt); clear hr8 hb8 hs8))
  have m0 : w8.cell? ⟨w7.heap.size, 0, none⟩ = some (.int .i64 c7) := HR8.out.cell 0
  have n0 : w8.cell? ⟨w5.heap.size, 0, none⟩ = some (.int .i64 c5) := HR68.out.cell 0
  by_cases h7 : c7 = 0
  · subst h7
    have hM := HM7.out rfl
    obtain ⟨⟨ea, eb⟩, er⟩ := HC7.out.1 rfl
    obtain ⟨hA1, hA8⟩ := HF3.out.one
    have hA7 := HF8.out.one.1
    have HLE := hid_in (Nat.le_trans (len_moved hA1 hM) HL.out)
    by_cases h5 : c5 = 0
    · subst h5
      have HLL := hid_in (fun gs (k : Lists A7 gs) => lists_le HTR.out hA1 hA7 hM HLI4.out k)
      clear hM ea eb er hA1 hA8 hA7
      go_wp2_with (go_at_call 16; refine (HLS.out _ _ _ _ HF8.out HLE.out).mono ?_; rintro e w9 ⟨p9, c9, g9, rfl, hw9, hl9, hF9, hb9⟩; have HW9 := hid_in hw9; have HLI9 := hid_in hl9; have HF9 := hid_in hF9; have HB9 := hid_in (HB8.out.trans (hb9.mono HB8.out.size)); have HK9 := hid_in hb9; clear hw9 hl9 hF9 hb9; have j9 : (g9.length : Int) ≤ (g4.length : Int) := Int.ofNat_le.2 (HLL.out _ HLI9.out))
      go_ret
      exact ⟨by simp, HB9.out⟩
    · have hq : entAt A (nmsOf pb) = none := by
        cases hc : entAt A (nmsOf pb) with
        | none => rfl
        | some e => exact absurd (HC5.out.2 ⟨eb, by unfold stE; rw [HTR.out.find hc]⟩) h5
      obtain ⟨k1, k2, k3, k4, k5⟩ := back_ok HTR.out hA1 hA8 er hq hM
      have HLL := hid_in (fun gs (k : Lists A7 gs) => lists_eq HTR.out k2 hA1 hA7 k4 HLI4.out k)
      have HK1 : Hid (¬ stE A7 (nmsOf pa) = 0) := hid_in (fun h => by
        have := findA_at h
        rw [k1] at this
        cases this)
      have HK3 := hid_in k3
      have HEA := hid_in ea
      have HEB := hid_in eb
      have HP := hid_in (fun A'' gs (h1 : (A''.map (·.names)).Nodup) (h2 : Moved A7 (nmsOf pb) (nmsOf pa) A'') (h3 : Lists A'' gs) => HLI4.out.one hA1 h3 (k5 A'' h1 h2))
      have HLM := hid_in (fun A'' (h : Moved A7 (nmsOf pb) (nmsOf pa) A'') => Nat.le_trans (len_moved hA7 h) HLE.out)
      clear k1 k2 k3 k4 k5 hq hM ea eb er hA1 hA8 hA7
      have hfd := fun c b s p n q W => field37 c s b ⟨#[]⟩ p n q W
      go_upto_region 15 with fail
      go_upto_region 17 with (first | (go_at_call 16; refine (HLS.out _ _ _ _ HF8.out HLE.out).mono ?_; rintro e w9 ⟨p9, c9, g9, rfl, hw9, hl9, hF9, hb9⟩; have HW9 := hid_in hw9; have HLI9 := hid_in hl9; have HF9 := hid_in hF9; have HB9 := hid_in (HB8.out.trans (hb9.mono HB8.out.size)); have HK9 := hid_in hb9; clear hw9 hl9 hF9 hb9; have HJ9 := hid_in (HLL.out _ HLI9.out); have hj9 : (g9.length : Int) = (g4.length : Int) := congrArg Nat.cast HJ9.out) | (go_at_call 14; refine (HST.out _ _ _ _ _ HF9.out HLE.out HA.out).mono ?_; rintro e w10 ⟨c10, b10, s10, vp10, vc10, rfl, hc10, hF10, hg10⟩; have h10 : ¬ c10 = 0 := fun h => HK1.out (hc10.1 h).2; have HF10 := hid_in hF10; have HW10 := hid_in (fls_map HF9.out hg10 (HW8.out.below HK9.out)); have HB10 := hid_in (HB9.out.grown hg10 HB9.out.size (fun k e => by obtain rfl := Option.some.inj e; exact HM.out)); clear hc10 hF10 hg10))
      go_upto_region 18 with (first | (go_at_call 14; refine (HRN.out _ _ _ _ _ _ HF10.out HLE.out HB.out HA.out).mono ?_; rintro e w11 ⟨c11, b11, s11, vp11, vc11, A11, rfl, hc11, hM11, hN11, hF11, hg11⟩; obtain rfl := hc11.2 ⟨⟨HEB.out, HEA.out⟩, HK3.out⟩; have HM11 := hid_in (hM11 rfl); have HF11 := hid_in hF11; have HW11 := hid_in (fls_map HF10.out hg11 HW10.out); have HB11 := hid_in (HB10.out.grown hg11 HB10.out.size (fun k e => by obtain rfl := Option.some.inj e; exact HM.out)); clear hc11 hM11 hN11 hF11 hg11) | (refine Nd.wpList_store_new rfl rfl 37 5 _ _ rfl _ [Value.int .i64 0, .bool b11, .int .i64 s11, .string ⟨#[]⟩, .slice vp11 0 vc11] info37 rfl (hid_in rfl) (store37 _ _ _ _ _ _ _) rfl rfl ?_; intro w12 hr12 hb12 hs12; have HR12 := hid_in hr12; have HF12 := hid_in (HF11.out.below hb12); have HB12 := hid_in (HB11.out.trans (hb12.mono HB11.out.size)); have HW12 := hid_in (HW11.out.below hb12); clear hr12 hb12 hs12))
      have q0 : w12.cell? ⟨w11.heap.size, 0, none⟩ = some (.int .i64 0) := HR12.out.cell 0
      have HL12 := hid_in (HLM.out _ HM11.out)
      go_wp2_with (first | (go_at_call 16; refine (HLS.out _ _ _ _ HF12.out HL12.out).mono ?_; rintro e w13 ⟨p13, c13, g13, rfl, hw13, hl13, hF13, hb13⟩; have HW13 := hid_in hw13; have HB13 := hid_in (HB12.out.trans (hb13.mono HB12.out.size)); have HK13 := hid_in hb13; obtain rfl := HP.out _ _ HF12.out.one.1 HM11.out hl13; clear hw13 hl13 hF13 hb13) | (go_at_call 12; refine (Rf.files_same _ _ _ _ HW13.out (HW12.out.below HK13.out)).mono ?_; rintro e w14 ⟨rfl, hb14⟩; have HB14 := hid_in (HB13.out.trans (hb14.mono HB13.out.size)); clear hb14))
      go_ret
      exact ⟨rfl, HB14.out⟩
  · have hE := HN7.out h7
    have HLE : Hid (A7.length ≤ 101) := hid_in (by rw [hE]; exact HL.out)
    have HLL := hid_in (fun gs (k : Lists A7 gs) => HLI4.out.one HF3.out.one.1 k (by rw [hE]))
    clear hE
    go_wp2_with (first | (go_at_call 16; refine (HLS.out _ _ _ _ HF8.out HLE.out).mono ?_; rintro e w9 ⟨p9, c9, g9, rfl, hw9, hl9, hF9, hb9⟩; have HW9 := hid_in hw9; have HLI9 := hid_in hl9; have HF9 := hid_in hF9; have HB9 := hid_in (HB8.out.trans (hb9.mono HB8.out.size)); have HK9 := hid_in hb9; clear hw9 hl9 hF9 hb9; obtain rfl := HLL.out _ HLI9.out) | (go_at_call 12; refine (Rf.files_same _ _ _ _ HW9.out (HW8.out.below HK9.out)).mono ?_; rintro e w10 ⟨rfl, hb10⟩; have HB10 := hid_in (HB9.out.trans (hb10.mono HB9.out.size)); clear hb10))
    go_ret
    exact ⟨rfl, HB10.out⟩
end Go.Proofs.YtngehkmdanhgpaaGreat.Pl
namespace Go.Proofs.YtngehkmdanhgpaaGreat.Pl
open Go.ChangeShapes Go.WideShapes Go.ChangeAt Go.RowKit Go.Deep
open Rf (Fil Fls fcells)
theorem flat_of {W : World} {b o : Nat} {fs : List Fil} (h : ∀ (i : Nat) f, fs[i]? = some f → W.rangeAt b (o + i * 3) f.cells) : ∀ j u, (fcells fs)[j]? = some u → W.cell? ⟨b, o + j, none⟩ = some u := fun j u hj => by
  have hl : j < fs.length * 3 := by rw [← Rf.fcells_len]; exact (List.getElem?_eq_some_iff.1 hj).1
  have hi : j / 3 < fs.length := by omega
  have hf := List.getElem?_eq_getElem hi
  have hr : j % 3 < (fs[j / 3]).cells.length := by show _ < 3; omega
  have h2 := Rf.fcells_at hf (j % 3) _ (List.getElem?_eq_getElem hr)
  have e : j / 3 * 3 + j % 3 = j := by omega
  rw [e, hj] at h2
  have h3 := h (j / 3) _ hf (j % 3) u (by rw [List.getElem?_eq_getElem hr, ← Option.some.inj h2])
  rwa [Nat.add_assoc, e] at h3
theorem cells9 : Tryz.prog.cellsOf 9 = 1 := by kernel_rfl
theorem cells4 : Tryz.prog.cellsOf 4 = 1 := by kernel_rfl
theorem cells48 : Tryz.prog.cellsOf 48 = 3 := by kernel_rfl
set_option maxRecDepth 100000 in
theorem file_in {H : Type} {enc : TypeId × Value → H} {W : World} {fuel : Nat} {a : Addr} {cs : List Value} {d : DataW H} {p : List MemPlace} (hc : W.cells? 0 a 3 = some cs) (h : DataW.trod enc Tryz.prog W 0 (fun _ => true) true fuel 48 cs = some (d, p)) :
    ∃ f : Fil, W.cell? (a.add 0) = some (.string f.path) ∧ W.cell? (a.add 1) = some (.bool f.dir) ∧ W.cell? (a.add 2) = some (.string f.data) ∧ f.path.size ≤ 9223372036854775807 := by
  obtain ⟨_, hlen, hcell⟩ := World.cells?_some hc
  obtain ⟨xs, k, _, hxy, _, hxl, hf⟩ := DataW.trod_struct Tryz.underlying48 h
  have hxl' : xs.length = 3 := hxl
  match xs, hxl', cs, hlen with
  | [y0, y1, y2], _, [v0, v1, v2], _ =>
    have g0 := hf 0 _ rfl
    have g1 := hf 1 _ rfl
    have g2 := hf 2 _ rfl
    obtain ⟨P, e0, x0, hs⟩ := DataW.trod_string Tryz.underlying9 g0
    obtain ⟨b, e1, x1⟩ := DataW.trod_bool Tryz.underlying4 g1
    obtain ⟨D, e2, x2, _⟩ := DataW.trod_string Tryz.underlying9 g2
    simp [cells9, cells4] at e0 e1 e2
    subst e0 e1 e2
    refine ⟨⟨P, b, D⟩, ?_, ?_, ?_, ?_⟩
    · simpa using hcell 0 (by omega)
    · simpa using hcell 1 (by omega)
    · simpa using hcell 2 (by omega)
    · unfold maxLen at hs; omega
theorem files_in {H : Type} {enc : TypeId × Value → H} {W : World} {a : Option Addr} {len cap : Nat} {d : DataW H} {p : List MemPlace} (h : DataW.Trod enc Tryz.prog W 0 (fun _ => true) true 22 (.slice a len cap) d p) :
    ∃ fs : List Fil, Fls W (.slice a len cap) fs ∧ ∀ f ∈ fs, f.path.size ≤ 9223372036854775807 := by
  obtain ⟨fuel, hf⟩ := h
  rcases open_slice Tryz.underlying22 hf with ⟨hcs, hx⟩ | ⟨x, l, c, m, n, D, Pl, hcs, _, hl, hm, hmm, hx, hr⟩
  · simp [Value.cells] at hcs
    obtain ⟨rfl, rfl, rfl⟩ := hcs
    exact ⟨[], ⟨none, 0, 0, 0, rfl, by simp, by omega, fun h => absurd rfl h, fun i f hi => by simp [fcells] at hi, fun _ => ⟨rfl, rfl⟩⟩, fun f hf => by cases hf⟩
  · simp [Value.cells] at hcs
    obtain ⟨rfl, rfl, rfl⟩ := hcs
    simp only [if_true] at hmm
    subst hmm
    rw [cells48] at hr
    have each : ∀ r, r < len → ∃ f : Fil, W.cell? ((x.add (r * 3)).add 0) = some (.string f.path) ∧ W.cell? ((x.add (r * 3)).add 1) = some (.bool f.dir) ∧ W.cell? ((x.add (r * 3)).add 2) = some (.string f.data) ∧ f.path.size ≤ 9223372036854775807 := by
      intro r hlt
      obtain ⟨cs', h1, h2⟩ := hr r (by omega)
      exact file_in h1 h2
    haveI : Inhabited Fil := ⟨⟨⟨#[]⟩, false, ⟨#[]⟩⟩⟩
    obtain ⟨y, hy⟩ := choose_lt each
    have hcap : m ≤ 9223372036854775807 := by unfold maxLen at hm; omega
    obtain ⟨b, o, hpx⟩ : ∃ b o, 0 < len → x = ⟨b, o, none⟩ ∧ b < W.heap.size := by
      by_cases h0 : 0 < len
      · have hc := (hy 0 h0).1
        obtain ⟨b', o', sp⟩ := x
        have hspot : sp = none := by simpa [Addr.add] using World.cell?_spot hc
        subst hspot
        rw [Addr.add_mid, Addr.add_mid] at hc
        exact ⟨b', o', fun _ => ⟨rfl, World.block_lt_of_cell? W _ hc⟩⟩
      · exact ⟨0, 0, fun h => absurd h h0⟩
    refine ⟨(List.range len).map y, ⟨some x, m, b, o, by simp, by simpa using hl, hcap, fun h => ?_, flat_of fun j f hj => ?_, fun e => by cases e⟩, fun f hf => ?_⟩
    · have h0 : 0 < len := by
        rcases Nat.eq_zero_or_pos len with h1 | h1
        · subst h1; exact absurd rfl h
        · exact h1
      exact ⟨by rw [(hpx h0).1], (hpx h0).2⟩
    · have hi : j < len := by have := (List.getElem?_eq_some_iff.1 hj).1; simpa using this
      simp [hi] at hj
      subst hj
      obtain ⟨h0, h1, h2, _⟩ := hy j hi
      rw [(hpx (by omega)).1, Addr.add_mid, Addr.add_mid] at h0 h1 h2
      intro i v hv
      match i with
      | 0 => simp [Fil.cells] at hv; subst hv; simpa using h0
      | 1 => simp [Fil.cells] at hv; subst hv; exact h1
      | 2 => simp [Fil.cells] at hv; subst hv; exact h2
      | i + 3 => simp [Fil.cells] at hv
    · obtain ⟨r, hr2, rfl⟩ := List.mem_map.1 hf
      exact (hy r (by simpa using hr2)).2.2.2
end Go.Proofs.YtngehkmdanhgpaaGreat.Pl
