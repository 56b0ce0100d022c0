/-
  Encode and Below by what is there; Decode.
-/
import Derived.Deep.CutRange
import Derived.Laws.CopyOwn
import Derived.Deep.RegionLaw
import Derived.Deep.DrawnRows
import Derived.Laws.Tables
import Derived.Test.YtglfeocfhlmloaaV00
import Derived.Test.YtglfeocfhlmloaaV01
import Derived.Test.YtglfeocfhlmloaaV02
import Derived.Test.YtglfeocfhlmloaaV03
import Derived.Test.YtglfeocfhlmloaaV04
import Derived.Test.YtglfeocfhlmloaaV05
import Derived.Test.YtglfeocfhlmloaaV06
import Derived.Test.YtglfeocfhlmloaaV07
import Derived.Test.YtglfeocfhlmloaaV08
import Derived.Test.YtglfeocfhlmloaaV09
import Derived.Test.YtglfeocfhlmloaaV10
import Derived.Test.YtglfeocfhlmloaaV11
import Derived.Test.YtglfeocfhlmloaaV12
import Derived.Test.YtglfeocfhlmloaaV13
import Derived.Test.YtglfeocfhlmloaaV14
import Derived.Test.YtglfeocfhlmloaaV15
import Derived.Test.YtglfeocfhlmloaaV16
import Derived.Test.YtglfeocfhlmloaaV17
import Derived.Test.YtglfeocfhlmloaaV18
import Derived.Test.YtglfeocfhlmloaaV19
import Derived.Test.YtglfeocfhlmloaaV20
import Derived.Test.YtglfeocfhlmloaaV21
import Derived.Test.YtglfeocfhlmloaaV22
import Derived.Test.YtglfeocfhlmloaaV23
import Derived.Test.YtglfeocfhlmloaaV24
import Derived.Test.YtglfeocfhlmloaaV25
import Derived.Test.YtglfeocfhlmloaaV26
import Derived.Test.YtglfeocfhlmloaaV27
import Derived.Test.YtglfeocfhlmloaaV28
import Derived.Test.YtglfeocfhlmloaaV29
import Derived.Test.YtglfeocfhlmloaaV30
import Derived.Test.YtglfeocfhlmloaaV31
import Derived.Test.YtglfeocfhlmloaaV32
import Derived.Test.YtglfeocfhlmloaaV33
import Derived.Test.YtglfeocfhlmloaaV34
namespace Go.Proofs.Ytglfeocfhlmloaa.Up
open Go.RowKit
open Vp (Str B bl Val cmpL parseS showS withinS IsPath checkS)
open Nd (Row wp_world post_Row post_Row2 grownBy_setCell below_of_grown In Sta sNum sText sFlag Grew str Sl)
theorem fil_ent {s : Spot} (h : s.path = B (showS s.names)) : s.fil = s.ent.fil := by
  unfold Spot.fil Ent.fil Spot.ent
  rw [h]
theorem belowB_all {L : List Spot} (h : ∀ s ∈ L, s.names ≠ []) : L.filter (belowB []) = L := by
  refine List.filter_eq_self.2 fun s hs => ?_
  unfold belowB
  have h1 := List.length_pos_iff.2 (h s hs)
  simp [withinS, h1]
theorem ordered_ent {w : World} {g m : Nat} {N Z : Int} {L sp : List Spot} (hF : Fs w g m N Z L) (hT : TreeA (L.map Spot.ent)) (h : Ordered L sp) : OrdA (L.map Spot.ent) (sp.map Spot.ent) ∧ sp.map Spot.fil = (sp.map Spot.ent).map Ent.fil := by
  have hne : ∀ s ∈ L, s.names ≠ [] := fun s hs => (hT.good s.ent (List.mem_map.2 ⟨s, hs, rfl⟩)).2.1
  obtain ⟨h1, h2⟩ := h
  rw [belowB_all hne] at h1
  refine ⟨⟨h1.map _, ?_⟩, ?_⟩
  · rw [List.pairwise_map]
    exact h2
  · rw [List.map_map]
    refine List.map_congr_left fun s hs => ?_
    exact fil_ent (hF.map.good s (h1.mem_iff.1 hs)).1
theorem fil_enc {A es : List Ent} (hT : TreeA A) (ho : OrdA A es) : ∀ f ∈ es.map Ent.fil, f.path.size ≤ 200 ∧ f.kind ≤ 3 ∧ f.data.size ≤ 1024 := fun f hf => by
  obtain ⟨e, he, rfl⟩ := List.mem_map.1 hf
  obtain ⟨h1, ⟨_, h2⟩, h3⟩ := okF hT (ho.1.mem_iff.1 he)
  exact ⟨h1, h2, h3⟩
/-- the bytes of an upper branch -/
def encA (N Z : Nat) (es : List Ent) : List Nat := encU N Z es.length (es.map Ent.fil)
theorem encA_lt {A es : List Ent} {N Z : Nat} (hN : N ≤ 128) (hZ : Z ≤ 8192) (hT : TreeA A) (ho : OrdA A es) : ∀ x ∈ encA N Z es, x < 256 := enc_lt hN hZ (by have := ho.1.length_eq; have := hT.len; omega) (fil_enc hT ho)
theorem encA_len {A es : List Ent} {N Z : Nat} (_ : N ≤ 128) (_ : Z ≤ 8192) (hT : TreeA A) (ho : OrdA A es) : (encA N Z es).length ≤ 2000000 := by
  unfold encA encU
  have h1 := encs_len (es.map Ent.fil) (fun f hf => (fil_enc hT ho f hf).1) (fun f hf => (fil_enc hT ho f hf).2.2)
  have h2 := Nd.num_length N
  have h3 := Nd.num_length Z
  have h4 := Nd.num_length es.length
  have h5 := ho.1.length_eq
  have h6 := hT.len
  rw [List.length_map] at h1
  simp only [List.length_append]
  omega
theorem num_pos (n : Nat) : 0 < (Nd.Wire.num n).length := by
  unfold Nd.Wire.num Nd.Wire.numF
  split <;> simp
theorem encA_pos (N Z : Nat) (es : List Ent) : 0 < (encA N Z es).length := by
  unfold encA encU
  have := num_pos N
  simp only [List.length_append]
  omega
theorem enc_ent {w : World} {g m : Nat} {N Z : Nat} {A : List Ent} (h : FsA w g m (N : Int) (Z : Int) A) (hN : N ≤ 128) (hZ : Z ≤ 8192) (hT : TreeA A) :
    Calls Try.prog 18 #[.pointer (some ⟨g, 0, none⟩)] w fun e w' => ∃ es p cap b, OrdA A es ∧ e = .returned (.slice p (encA N Z es).length cap) ∧ Sl w' p (encA N Z es) cap b 0 ∧ (p = none → (encA N Z es).length = 0 ∧ cap = 0) ∧ Below w.heap.size w w' := by
  obtain ⟨L, h1, rfl⟩ := h
  have hlen := hT.len
  rw [List.length_map] at hlen
  refine (encode_any h1 hN hZ (by omega) (fun s hs => kind_ok (hT.good s.ent (List.mem_map.2 ⟨s, hs, rfl⟩)).2.2)).mono ?_
  rintro e w' ⟨v, sp, rfl, hor, hown, hb⟩
  obtain ⟨ho, hf⟩ := ordered_ent h1 hT hor
  have hl : L.length = (sp.map Spot.ent).length := by
    have := ho.1.length_eq
    rw [List.length_map, List.length_map] at this
    rw [List.length_map]
    exact this.symm
  rw [hf, hl] at hown
  obtain ⟨p, cap, b, rfl, hsl, hno⟩ := Nd.own_sl (encA_lt hN hZ hT ho) hown
  exact ⟨_, p, cap, b, ho, rfl, hsl, hno, hb⟩
theorem list_ent {w : World} {g m : Nat} {N Z : Int} {A : List Ent} (h : FsA w g m N Z A) (hT : TreeA A) :
    Calls Try.prog 16 #[.pointer (some ⟨g, 0, none⟩), .slice none 0 0] w fun e w' => ∃ v es, OrdA A es ∧ e = .returned v ∧ Fls w' v (es.map Ent.fil) ∧ Below w.heap.size w w' := by
  obtain ⟨L, h1, rfl⟩ := h
  have hlen := hT.len
  rw [List.length_map] at hlen
  refine (list_o h1 (by omega)).mono ?_
  rintro e w' ⟨sp, lb, vs, rfl, hf, hor, _, hb⟩
  obtain ⟨ho, hff⟩ := ordered_ent h1 hT hor
  rw [hff] at hf
  exact ⟨_, _, ho, rfl, hf.out, hb⟩
/-- what Decode answers -/
def DecP (w : World) (bs : List Nat) (e : Ending) (w' : World) : Prop := ((e = .returned (.tuple #[.pointer none, .int .i64 21]) ∧ ∀ N Z A es, readU (bs, 0) = some (N, Z, A) → OrdA A es → encA N Z es ≠ bs) ∨ (∃ (N Z : Nat) (A es : List Ent) (g m : Nat), readU (bs, 0) = some (N, Z, A) ∧ OrdA A es ∧ encA N Z es = bs ∧ e = .returned (.tuple #[.pointer (some ⟨g, 0, none⟩), .int .i64 0]) ∧ FsA w' g m N Z A)) ∧ Below w.heap.size w w'
theorem below_in {w w1 w2 : World} {g : Nat} (hb : Below w.heap.size w w1) (hg : w.heap.size ≤ g) (h : Grew w1 w2 (· = g)) : Below w.heap.size w w2 :=
  hb.grown (grew_by h) hb.size (fun k e => by obtain rfl := Option.some.inj e; exact hg)
set_option maxHeartbeats 2000000 in
set_option maxRecDepth 100000 in
theorem decode_any {w : World} {p : Option Addr} {bs : List Nat} {cap b off : Nat} (hs : Sl w p bs cap b off) (hno : p = none → bs.length = 0 ∧ cap = 0) (hl : bs.length ≤ 140737488355328) :
    Calls Try.prog 28 #[.slice p bs.length cap] w fun e w' => DecP w bs e w' := by
  have HR := hid_in (Nd.read_any bs p cap b off w hs hno hl)
  have HS := hid_in hs
  obtain ⟨n, HN⟩ : ∃ n, Hid (bs.length = n) := ⟨_, hid_in rfl⟩
  rw [HN.out] at HR ⊢
  clear hs hno hl
  go_enter Try.func28, Try.ntmps28
  go_upto_region 2 with (first | (go_at_call 51; (refine HR.out.mono ?_; rintro e w1 ⟨g1, rfl, hi1, hg1, hb1⟩; have HI1 : Hid (In w1.heap.size w1 g1 (bs, 0)) := hid_in hi1; have HG1 := hid_in hg1; have HB1 := hid_in hb1; clear hi1 hg1 hb1)) | (go_at_call 50; (refine (readR_any w1 g1 _ (bs, 0) (Nat.le_refl _) HI1.out).mono ?_; rintro e w2 ⟨hcase, hgr⟩; have HB2 := hid_in (below_in HB1.out HG1.out hgr); have HS2 := hid_in (HS.out.below HB2.out); clear hgr; rcases hcase with ⟨hnone, k, hk, rfl⟩ | ⟨N, Z, A, g, m, hsome, rfl, hF, -, -⟩)))
  · have HNO := hid_in hnone
    clear hnone HR HS HS2 HI1 HG1
    go_wp2
    go_ret2
    refine ⟨.inl ⟨rfl, fun N Z A es h _ => ?_⟩, HB2.out⟩
    rw [HNO.out] at h
    cases h
  · obtain ⟨hT, hN, hZ⟩ := tree_read hsome
    have HSO := hid_in hsome
    have HF := hid_in hF
    have HT := hid_in hT
    have HQ := hid_in (And.intro hN hZ)
    clear hsome hF hT hN hZ HR HS HI1 HG1
    have HE := hid_in (enc_ent HF.out HQ.out.1 HQ.out.2 HT.out)
    have HEQ := hid_in (fun W (X : List Nat) (q : Option Addr) (c b' : Nat) (h1 : Sl W q X c b' 0) (h2 : Sl W p bs cap b off) => equal_any h1 h2)
    rw [HN.out] at HEQ
    go_wp2_with (first | (go_at_call 18; refine HE.out.mono ?_; rintro e w3 ⟨es, p3, c3, b3, ho3, rfl, hs3, -, hb3⟩; have HO3 := hid_in ho3; have HS3 := hid_in hs3; have HF3 := hid_in (HF.out.below hb3); have HB3 := hid_in (HB2.out.trans (hb3.mono HB2.out.size)); have HS23 := hid_in (HS2.out.below hb3); clear ho3 hs3 hb3) | (go_at_call 52; refine (HEQ.out _ _ _ _ _ HS3.out HS23.out).mono ?_; rintro e w4 ⟨rfl, hb4⟩; have HF4 := hid_in (HF3.out.below hb4); have HB4 := hid_in (HB3.out.trans (hb4.mono HB3.out.size)); clear hb4; by_cases hx : encA N Z es = bs; (focus (rw [decide_eq_true hx]; go_wp2_with fail; go_ret2; exact ⟨.inr ⟨N, Z, A, es, g, m, HSO.out, HO3.out, hx, rfl, HF4.out⟩, HB4.out⟩)); rw [decide_eq_false hx]))
    go_ret2
    refine ⟨.inl ⟨rfl, fun N' Z' A' es' h1 h2 h3 => ?_⟩, HB4.out⟩
    rw [HSO.out] at h1
    have h4 := Option.some.inj h1
    obtain rfl := (Prod.mk.inj h4).1
    obtain rfl := (Prod.mk.inj (Prod.mk.inj h4).2).1
    obtain rfl := (Prod.mk.inj (Prod.mk.inj h4).2).2
    rw [ordA_one HT.out.nd h2 HO3.out] at h3
    exact hx h3
end Go.Proofs.Ytglfeocfhlmloaa.Up
