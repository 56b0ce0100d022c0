/-
  Inodes of two lists that read as the same inodes. Encode and Below by what is there; Decode.
-/
import Derived.Deep.CutRange
import Derived.Laws.CopyOwn
import Derived.Shelf.SlMaps.Clone
import Derived.Deep.RegionLaw
import Derived.Deep.DrawnRows
import Derived.Laws.Tables
import Derived.Test.YtglfeocfhlmloaaGreatY00
import Derived.Test.YtglfeocfhlmloaaGreatY01
import Derived.Test.YtglfeocfhlmloaaGreatY02
import Derived.Test.YtglfeocfhlmloaaGreatY03
import Derived.Test.YtglfeocfhlmloaaGreatY04
import Derived.Test.YtglfeocfhlmloaaGreatY05
import Derived.Test.YtglfeocfhlmloaaGreatY06
import Derived.Test.YtglfeocfhlmloaaGreatY07
import Derived.Test.YtglfeocfhlmloaaGreatY08
import Derived.Test.YtglfeocfhlmloaaGreatY09
import Derived.Test.YtglfeocfhlmloaaGreatY10
import Derived.Test.YtglfeocfhlmloaaGreatY11
import Derived.Test.YtglfeocfhlmloaaGreatY12
import Derived.Test.YtglfeocfhlmloaaGreatY13
import Derived.Test.YtglfeocfhlmloaaGreatY14
import Derived.Test.YtglfeocfhlmloaaGreatY15
import Derived.Test.YtglfeocfhlmloaaGreatY16
import Derived.Test.YtglfeocfhlmloaaGreatY17
import Derived.Test.YtglfeocfhlmloaaGreatY18
import Derived.Test.YtglfeocfhlmloaaGreatY19
import Derived.Test.YtglfeocfhlmloaaGreatY20
import Derived.Test.YtglfeocfhlmloaaGreatY21
import Derived.Test.YtglfeocfhlmloaaGreatY22
import Derived.Test.YtglfeocfhlmloaaGreatY23
import Derived.Test.YtglfeocfhlmloaaGreatY24
import Derived.Test.YtglfeocfhlmloaaGreatY25
import Derived.Test.YtglfeocfhlmloaaGreatY26
import Derived.Test.YtglfeocfhlmloaaGreatY27
import Derived.Test.YtglfeocfhlmloaaGreatY28
import Derived.Test.YtglfeocfhlmloaaGreatY29
import Derived.Test.YtglfeocfhlmloaaGreatY30
import Derived.Test.YtglfeocfhlmloaaGreatY31
import Derived.Test.YtglfeocfhlmloaaGreatY32
import Derived.Test.YtglfeocfhlmloaaGreatY33
import Derived.Test.YtglfeocfhlmloaaGreatY34
import Derived.Test.YtglfeocfhlmloaaGreatY35
import Derived.Test.YtglfeocfhlmloaaGreatY36
import Derived.Test.YtglfeocfhlmloaaGreatY37
import Derived.Test.YtglfeocfhlmloaaGreatY38
namespace Go.Proofs.YtglfeocfhlmloaaGreat.Up
open Go.RowKit
open Nd (take_put)
theorem Fls.range {w : World} {b o : Nat} {fs : List Fil} (h : ∀ j u, (fcells fs)[j]? = some u → w.cell? ⟨b, o + j, none⟩ = some u) (i : Nat) (f : Fil) (hi : fs[i]? = some f) : w.rangeAt b (o + i * 4) f.cells := fun j u hj => by
  rw [Nat.add_assoc]
  exact h _ _ (fcells_at hi j u hj)
theorem eq36 (f : Fil) (w : World) : (Op.equalIn 10000 42 (.agg f.cells.toArray) (.agg f.cells.toArray)).run Tryz.prog w = .ok true w := by
  have hst : Tryz.prog.stoodInHeld 42 = false := by kernel_rfl
  have p0 : (part 9 f.cells.toArray 0).run Tryz.prog w = .ok (.string f.path) w := by kernel_rfl
  have p1 : (part 3 f.cells.toArray 1).run Tryz.prog w = .ok (.int .i64 f.kind) w := by kernel_rfl
  have p2 : (part 4 f.cells.toArray 2).run Tryz.prog w = .ok (.bool f.opq) w := by kernel_rfl
  have p3 : (part 9 f.cells.toArray 3).run Tryz.prog w = .ok (.string f.data) w := by kernel_rfl
  have e9 : ∀ s : ByteArray, (Op.equalIn 9999 9 (.string s) (.string s)).run Tryz.prog w = .ok true w := fun s => by
    show (Op.equalIn (9998 + 1) 9 (.string s) (.string s)).run Tryz.prog w = .ok true w
    rw [Op.equalIn]
    simp [Sem.run_bind, run_underlying Tryz.underlying9, Result.andThen, Sem.run_pure]
    exact (Nd.ba_beq s s).2 rfl
  have e4 : ∀ s : Bool, (Op.equalIn 9999 4 (.bool s) (.bool s)).run Tryz.prog w = .ok true w := fun s => by
    show (Op.equalIn (9998 + 1) 4 (.bool s) (.bool s)).run Tryz.prog w = .ok true w
    rw [Op.equalIn]
    simp [Sem.run_bind, run_underlying Tryz.underlying4, Result.andThen, Sem.run_pure]
  have e3 : ∀ s : Int, (Op.equalIn 9999 3 (.int .i64 s) (.int .i64 s)).run Tryz.prog w = .ok true w := fun s => by
    show (Op.equalIn (9998 + 1) 3 (.int .i64 s) (.int .i64 s)).run Tryz.prog w = .ok true w
    rw [Op.equalIn]
    simp [Sem.run_bind, run_underlying Tryz.underlying3, Result.andThen, Sem.run_pure]
  show (Op.equalIn (9999 + 1) 42 (.agg f.cells.toArray) (.agg f.cells.toArray)).run Tryz.prog w = .ok true w
  rw [Op.equalIn]
  simp only [Sem.run_bind, run_underlying Tryz.underlying42, Result.andThen_ok]
  simp [hst, p0, p1, p2, p3, e9, e4, e3, Result.andThen, Sem.run_bind, Sem.run_pure]
set_option maxHeartbeats 2000000 in
set_option maxRecDepth 100000 in
theorem inodes_same (fs : List Fil) (va vb : Value) (w : World) (ha : Fls w va fs) (hb : Fls w vb fs) :
    Calls Tryz.prog 36 #[va, vb] w fun e w' => e = .returned (.bool true) ∧ Below w.heap.size w w' := by
  obtain ⟨p1, c1, b1, o1, rfl, h11, h12, h13, h14', _⟩ := ha
  have h14 := Fls.range h14'
  obtain ⟨p2, c2, b2, o2, rfl, h21, h22, h23, h24', _⟩ := hb
  have h24 := Fls.range h24'
  have HEL : Hid (∀ (i : Nat) f, fs[i]? = some f → p1 = some ⟨b1, o1, none⟩ ∧ p2 = some ⟨b2, o2, none⟩ ∧ ∀ W, Below w.heap.size w W → W.rangeAt b1 (o1 + i * 4) f.cells ∧ W.rangeAt b2 (o2 + i * 4) f.cells) := hid_in (fun i f hi => by
    have hne : fs ≠ [] := by rintro rfl; simp at hi
    exact ⟨(h13 hne).1, (h23 hne).1, fun W hW => ⟨Nd.rangeAt_below (h14 i f hi) hW (h13 hne).2, Nd.rangeAt_below (h24 i f hi) hW (h23 hne).2⟩⟩)
  obtain ⟨N, HN⟩ : ∃ N, Hid (fs.length = N) := ⟨_, hid_in rfl⟩
  rw [HN.out]
  have HNL : Hid (N ≤ 9223372036854775807) := hid_in (by rw [← HN.out]; omega)
  clear h11 h12 h13 h14 h14' h21 h22 h23 h24 h24'
  go_enter Tryz.func36, Tryz.ntmps36
  go_upto_region 4 with fail
  go_loopw [5] (fun vi W => ∃ i : Nat, i ≤ N ∧ vi = .int .i64 (i : Int) ∧ Hid (Below w.heap.size w W)) (fun vi _ => N - (intOf vi).toNat)
  case atStart => exact ⟨0, by omega, rfl, hid_in (Below.refl _ _)⟩
  case round =>
    obtain ⟨i, hi, rfl, hbw⟩ := hrel
    by_cases hlt : i < N
    · obtain ⟨f, hf⟩ : ∃ f, fs[i]? = some f := ⟨_, List.getElem?_eq_getElem (by rw [HN.out]; exact hlt)⟩
      obtain ⟨rfl, rfl, hW⟩ := HEL.out i f hf
      obtain ⟨X, HX⟩ : ∃ X, Hid (X = f.cells) := ⟨_, hid_in rfl⟩
      have HXL : Hid (X.length = 4) := hid_in (by rw [HX.out]; rfl)
      have heq : ∀ W, (Op.equalIn 10000 42 (.agg X.toArray) (.agg X.toArray)).run Tryz.prog W = .ok true W := fun W => by rw [HX.out]; exact eq36 f W
      have HBD : Hid (Below w.heap.size w wr.drew) := hid_in (hbw.out.trans ((below_drew wr).mono hbw.out.size))
      have HK : Hid (wr.drew.rangeAt b1 (o1 + i * 4) X ∧ wr.drew.rangeAt b2 (o2 + i * 4) X) := hid_in (by rw [HX.out]; exact hW _ HBD.out)
      have hlt2 : (i : Int) < (N : Int) := by omega
      have HIL := hid_in hlt
      have hN : (N : Int) ≤ 9223372036854775807 := by have := HNL.out; omega
      clear hW hf hi hlt
      go_upto_region 6 with fail
      refine wp_region_held_drew (S := fun W' => W'.rangeAt b1 (o1 + i * 4) X ∧ W'.rangeAt b2 (o2 + i * 4) X) (by kernel_rfl) HK.out (fun hHeld => ?_)
      refine take_put (i := 0) (d := 17) (v := ?_) rfl rfl (by kernel_rfl) (by kernel_rfl) (by kernel_rfl) (fun _ _ _ h => h) (Or.inl ⟨by kernel_rfl, ?_⟩) hHeld ?_
      rotate_left
      · (intro w hSw; (try dsimp only at hSw); go_simp; (try with_reducible rfl))
      simp only [Act.put, List.setIfInBounds_toArray, List.set_cons_zero, List.set_cons_succ]
      refine take_put (i := 1) (d := 18) (v := ?_) rfl rfl (by kernel_rfl) (by kernel_rfl) (by kernel_rfl) (fun _ _ _ h => h) (Or.inl ⟨by kernel_rfl, ?_⟩) hHeld ?_
      rotate_left
      · (intro w hSw; (try dsimp only at hSw); go_simp; (try with_reducible rfl))
      simp only [Act.put, List.setIfInBounds_toArray, List.set_cons_zero, List.set_cons_succ]
      refine take_put (i := 2) (d := 19) (v := ?_) rfl rfl (by kernel_rfl) (by kernel_rfl) (by kernel_rfl) (fun _ _ _ h => h) (Or.inl ⟨by kernel_rfl, ?_⟩) hHeld ?_
      rotate_left
      · (intro w hSw; (try dsimp only at hSw); go_simp; (try with_reducible rfl))
      simp only [Act.put, List.setIfInBounds_toArray, List.set_cons_zero, List.set_cons_succ]
      refine take_put (i := 3) (d := 20) (v := .agg X.toArray) rfl rfl (by kernel_rfl) (by kernel_rfl) (by kernel_rfl) (fun _ _ _ h => h) (yieldsIf_load_mid (by rfl) 42 _ rfl _ _ rfl X _ (fun w hSw => hSw.1) Tryz.underlying42 rfl (by rw [info36, HXL.out])) hHeld ?_
      simp only [Act.put, List.setIfInBounds_toArray, List.set_cons_zero, List.set_cons_succ]
      refine take_put (i := 4) (d := 21) (v := ?_) rfl rfl (by kernel_rfl) (by kernel_rfl) (by kernel_rfl) (fun _ _ _ h => h) (Or.inl ⟨by kernel_rfl, ?_⟩) hHeld ?_
      rotate_left
      · (intro w hSw; (try dsimp only at hSw); go_simp; (try with_reducible rfl))
      simp only [Act.put, List.setIfInBounds_toArray, List.set_cons_zero, List.set_cons_succ]
      refine take_put (i := 5) (d := 22) (v := ?_) rfl rfl (by kernel_rfl) (by kernel_rfl) (by kernel_rfl) (fun _ _ _ h => h) (Or.inl ⟨by kernel_rfl, ?_⟩) hHeld ?_
      rotate_left
      · (intro w hSw; (try dsimp only at hSw); go_simp; (try with_reducible rfl))
      simp only [Act.put, List.setIfInBounds_toArray, List.set_cons_zero, List.set_cons_succ]
      refine take_put (i := 6) (d := 23) (v := ?_) rfl rfl (by kernel_rfl) (by kernel_rfl) (by kernel_rfl) (fun _ _ _ h => h) (Or.inl ⟨by kernel_rfl, ?_⟩) hHeld ?_
      rotate_left
      · (intro w hSw; (try dsimp only at hSw); go_simp; (try with_reducible rfl))
      simp only [Act.put, List.setIfInBounds_toArray, List.set_cons_zero, List.set_cons_succ]
      refine take_put (i := 7) (d := 24) (v := .agg X.toArray) rfl rfl (by kernel_rfl) (by kernel_rfl) (by kernel_rfl) (fun _ _ _ h => h) (yieldsIf_load_mid (by rfl) 42 _ rfl _ _ rfl X _ (fun w hSw => hSw.2) Tryz.underlying42 rfl (by rw [info36, HXL.out])) hHeld ?_
      simp only [Act.put, List.setIfInBounds_toArray, List.set_cons_zero, List.set_cons_succ]
      refine take_put (i := 8) (d := 25) (v := .bool false) rfl rfl (by kernel_rfl) (by kernel_rfl) (by kernel_rfl) (fun _ _ _ h => h) (Or.inl ⟨by kernel_rfl, fun w hSw => ?_⟩) hHeld ?_
      · (go_simp)
      simp only [Act.put, List.setIfInBounds_toArray, List.set_cons_zero, List.set_cons_succ]
      refine wpAnyH_done (by kernel_rfl) ?_ _
      clear heq HK
      go_wp2
      go_roundw
      case rel => exact ⟨i + 1, by have := HIL.out; omega, by go_num, HBD⟩
      case measure => have := HIL.out; simp [intOf]; omega
    · obtain rfl : N = i := by omega
      clear hi hlt
      go_wp2
      go_ret
      exact ⟨rfl, hbw.out⟩
end Go.Proofs.YtglfeocfhlmloaaGreat.Up
namespace Go.Proofs.YtglfeocfhlmloaaGreat.Up
open Go.RowKit
open Vp (Str B bl Val cmpL parseS showS withinS IsPath checkS)
open Nd (Row wp_world post_Row post_Row2 grownBy_setCell below_of_grown In Sta sNum sText sFlag Grew str Sl)
theorem fil_ent {s : Spot} (h : s.path = B (showS s.names)) : s.fil = s.ent.fil := by
  unfold Spot.fil Ent.fil Spot.ent
  rw [h]
theorem belowB_all {L : List Spot} (h : ∀ s ∈ L, s.names ≠ []) : L.filter (belowB []) = L := by
  refine List.filter_eq_self.2 fun s hs => ?_
  unfold belowB
  have h1 := List.length_pos_iff.2 (h s hs)
  simp [withinS, h1]
theorem ordered_ent {w : World} {g m : Nat} {N Z : Int} {L sp : List Spot} (hF : Fs w g m N Z L) (hT : TreeA (L.map Spot.ent)) (h : Ordered L sp) : OrdA (L.map Spot.ent) (sp.map Spot.ent) ∧ sp.map Spot.fil = (sp.map Spot.ent).map Ent.fil := by
  have hne : ∀ s ∈ L, s.names ≠ [] := fun s hs => (hT.good s.ent (List.mem_map.2 ⟨s, hs, rfl⟩)).2.1
  obtain ⟨h1, h2⟩ := h
  rw [belowB_all hne] at h1
  refine ⟨⟨h1.map _, ?_⟩, ?_⟩
  · rw [List.pairwise_map]
    exact h2
  · rw [List.map_map]
    refine List.map_congr_left fun s hs => ?_
    exact fil_ent (hF.map.good s (h1.mem_iff.1 hs)).1
theorem fil_enc {A es : List Ent} (hT : TreeA A) (ho : OrdA A es) : ∀ f ∈ es.map Ent.fil, f.path.size ≤ 200 ∧ f.kind ≤ 3 ∧ f.data.size ≤ 1024 := fun f hf => by
  obtain ⟨e, he, rfl⟩ := List.mem_map.1 hf
  obtain ⟨h1, ⟨_, h2⟩, h3⟩ := okF hT (ho.1.mem_iff.1 he)
  exact ⟨h1, h2, h3⟩
/-- the bytes of an upper branch -/
def encA (N Z : Nat) (es : List Ent) : List Nat := encU N Z es.length (es.map Ent.fil)
theorem encA_lt {A es : List Ent} {N Z : Nat} (hN : N ≤ 128) (hZ : Z ≤ 8192) (hT : TreeA A) (ho : OrdA A es) : ∀ x ∈ encA N Z es, x < 256 := enc_lt hN hZ (by have := ho.1.length_eq; have := hT.len; omega) (fil_enc hT ho)
theorem enc_ent {w : World} {g m : Nat} {N Z : Nat} {A : List Ent} (h : FsA w g m (N : Int) (Z : Int) A) (hN : N ≤ 128) (hZ : Z ≤ 8192) (hT : TreeA A) :
    Calls Tryz.prog 9 #[.pointer (some ⟨g, 0, none⟩)] w fun e w' => ∃ es p cap b, OrdA A es ∧ e = .returned (.slice p (encA N Z es).length cap) ∧ Sl w' p (encA N Z es) cap b 0 ∧ (p = none → (encA N Z es).length = 0 ∧ cap = 0) ∧ Below w.heap.size w w' := by
  obtain ⟨L, h1, rfl⟩ := h
  have hlen := hT.len
  rw [List.length_map] at hlen
  refine (encode_any h1 hN hZ (by omega) (fun s hs => kind_ok (hT.good s.ent (List.mem_map.2 ⟨s, hs, rfl⟩)).2.2)).mono ?_
  rintro e w' ⟨v, sp, rfl, hor, hown, hb⟩
  obtain ⟨ho, hf⟩ := ordered_ent h1 hT hor
  have hl : L.length = (sp.map Spot.ent).length := by
    have := ho.1.length_eq
    rw [List.length_map, List.length_map] at this
    rw [List.length_map]
    exact this.symm
  rw [hf, hl] at hown
  obtain ⟨p, cap, b, rfl, hsl, hno⟩ := Nd.own_sl (encA_lt hN hZ hT ho) hown
  exact ⟨_, p, cap, b, ho, rfl, hsl, hno, hb⟩
theorem list_ent {w : World} {g m : Nat} {N Z : Int} {A : List Ent} (h : FsA w g m N Z A) (hT : TreeA A) :
    Calls Tryz.prog 22 #[.pointer (some ⟨g, 0, none⟩), .slice none 0 0] w fun e w' => ∃ v es, OrdA A es ∧ e = .returned v ∧ Fls w' v (es.map Ent.fil) ∧ Below w.heap.size w w' := by
  obtain ⟨L, h1, rfl⟩ := h
  have hlen := hT.len
  rw [List.length_map] at hlen
  refine (list_o h1 (by omega)).mono ?_
  rintro e w' ⟨sp, lb, vs, rfl, hf, hor, _, hb⟩
  obtain ⟨ho, hff⟩ := ordered_ent h1 hT hor
  rw [hff] at hf
  exact ⟨_, _, ho, rfl, hf.out, hb⟩
/-- what Decode answers -/
def DecP (w : World) (bs : List Nat) (e : Ending) (w' : World) : Prop := ((e = .returned (.tuple #[.pointer none, .int .i64 21]) ∧ ∀ N Z A es, readU (bs, 0) = some (N, Z, A) → OrdA A es → encA N Z es ≠ bs) ∨ (∃ (N Z : Nat) (A es : List Ent) (g m : Nat), readU (bs, 0) = some (N, Z, A) ∧ OrdA A es ∧ encA N Z es = bs ∧ e = .returned (.tuple #[.pointer (some ⟨g, 0, none⟩), .int .i64 0]) ∧ FsA w' g m N Z A)) ∧ Below w.heap.size w w'
theorem below_in {w w1 w2 : World} {g : Nat} (hb : Below w.heap.size w w1) (hg : w.heap.size ≤ g) (h : Grew w1 w2 (· = g)) : Below w.heap.size w w2 :=
  hb.grown (grew_by h) hb.size (fun k e => by obtain rfl := Option.some.inj e; exact hg)
set_option maxHeartbeats 2000000 in
set_option maxRecDepth 100000 in
theorem decode_any {w : World} {p : Option Addr} {bs : List Nat} {cap b off : Nat} (hs : Sl w p bs cap b off) (hno : p = none → bs.length = 0 ∧ cap = 0) (hl : bs.length ≤ 140737488355328) :
    Calls Tryz.prog 11 #[.slice p bs.length cap] w fun e w' => DecP w bs e w' := by
  have HR := hid_in (Nd.read_any bs p cap b off w hs hno hl)
  have HS := hid_in hs
  obtain ⟨n, HN⟩ : ∃ n, Hid (bs.length = n) := ⟨_, hid_in rfl⟩
  rw [HN.out] at HR ⊢
  clear hs hno hl
  go_enter Tryz.func11, Tryz.ntmps11
  go_upto_region 2 with (first | (go_at_call 30; (refine HR.out.mono ?_; rintro e w1 ⟨g1, rfl, hi1, hg1, hb1⟩; have HI1 : Hid (In w1.heap.size w1 g1 (bs, 0)) := hid_in hi1; have HG1 := hid_in hg1; have HB1 := hid_in hb1; clear hi1 hg1 hb1)) | (go_at_call 29; (refine (readR_any w1 g1 _ (bs, 0) (Nat.le_refl _) HI1.out).mono ?_; rintro e w2 ⟨hcase, hgr⟩; have HB2 := hid_in (below_in HB1.out HG1.out hgr); have HS2 := hid_in (HS.out.below HB2.out); clear hgr; rcases hcase with ⟨hnone, k, hk, rfl⟩ | ⟨N, Z, A, g, m, hsome, rfl, hF, -, -⟩)))
  · have HNO := hid_in hnone
    clear hnone HR HS HS2 HI1 HG1
    go_wp2
    go_ret2
    refine ⟨.inl ⟨rfl, fun N Z A es h _ => ?_⟩, HB2.out⟩
    rw [HNO.out] at h
    cases h
  · obtain ⟨hT, hN, hZ⟩ := tree_read hsome
    have HSO := hid_in hsome
    have HF := hid_in hF
    have HT := hid_in hT
    have HQ := hid_in (And.intro hN hZ)
    clear hsome hF hT hN hZ HR HS HI1 HG1
    have HE := hid_in (enc_ent HF.out HQ.out.1 HQ.out.2 HT.out)
    have HEQ := hid_in (fun W (X : List Nat) (q : Option Addr) (c b' : Nat) (h1 : Sl W q X c b' 0) (h2 : Sl W p bs cap b off) => equal_any h1 h2)
    rw [HN.out] at HEQ
    go_wp2_with (first | (go_at_call 9; refine HE.out.mono ?_; rintro e w3 ⟨es, p3, c3, b3, ho3, rfl, hs3, -, hb3⟩; have HO3 := hid_in ho3; have HS3 := hid_in hs3; have HF3 := hid_in (HF.out.below hb3); have HB3 := hid_in (HB2.out.trans (hb3.mono HB2.out.size)); have HS23 := hid_in (HS2.out.below hb3); clear ho3 hs3 hb3) | (go_at_call 31; refine (HEQ.out _ _ _ _ _ HS3.out HS23.out).mono ?_; rintro e w4 ⟨rfl, hb4⟩; have HF4 := hid_in (HF3.out.below hb4); have HB4 := hid_in (HB3.out.trans (hb4.mono HB3.out.size)); clear hb4; by_cases hx : encA N Z es = bs; (focus (rw [decide_eq_true hx]; go_wp2_with fail; go_ret2; exact ⟨.inr ⟨N, Z, A, es, g, m, HSO.out, HO3.out, hx, rfl, HF4.out⟩, HB4.out⟩)); rw [decide_eq_false hx]))
    go_ret2
    refine ⟨.inl ⟨rfl, fun N' Z' A' es' h1 h2 h3 => ?_⟩, HB4.out⟩
    rw [HSO.out] at h1
    have h4 := Option.some.inj h1
    obtain rfl := (Prod.mk.inj h4).1
    obtain rfl := (Prod.mk.inj (Prod.mk.inj h4).2).1
    obtain rfl := (Prod.mk.inj (Prod.mk.inj h4).2).2
    rw [ordA_one HT.out.nd h2 HO3.out] at h3
    exact hx h3
end Go.Proofs.YtglfeocfhlmloaaGreat.Up
