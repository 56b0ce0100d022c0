/-
  What is encoded, as a text; what stays.
-/
import Derived.Laws.CopyOwn
import Derived.Deep.RegionLaw
import Derived.Deep.DrawnRows
import Derived.Laws.Tables
import Derived.Deep.CutRange
import Derived.Test.YtglfeocfhlmloaaU00
import Derived.Test.YtglfeocfhlmloaaU01
import Derived.Test.YtglfeocfhlmloaaU02
import Derived.Test.YtglfeocfhlmloaaU03
import Derived.Test.YtglfeocfhlmloaaU04
import Derived.Test.YtglfeocfhlmloaaU05
import Derived.Test.YtglfeocfhlmloaaU06
import Derived.Test.YtglfeocfhlmloaaU07
import Derived.Test.YtglfeocfhlmloaaU08
import Derived.Test.YtglfeocfhlmloaaU09
import Derived.Test.YtglfeocfhlmloaaU10
import Derived.Test.YtglfeocfhlmloaaU11
import Derived.Test.YtglfeocfhlmloaaU12
import Derived.Test.YtglfeocfhlmloaaU13
import Derived.Test.YtglfeocfhlmloaaU14
import Derived.Test.YtglfeocfhlmloaaU15
import Derived.Test.YtglfeocfhlmloaaU16
import Derived.Test.YtglfeocfhlmloaaU17
import Derived.Test.YtglfeocfhlmloaaU18
import Derived.Test.YtglfeocfhlmloaaU19
import Derived.Test.YtglfeocfhlmloaaU20
import Derived.Test.YtglfeocfhlmloaaU21
import Derived.Test.YtglfeocfhlmloaaU22
import Derived.Test.YtglfeocfhlmloaaU23
import Derived.Test.YtglfeocfhlmloaaU24
import Derived.Test.YtglfeocfhlmloaaU25
import Derived.Test.YtglfeocfhlmloaaU26
import Derived.Test.YtglfeocfhlmloaaU27
namespace Go.Proofs.Ytglfeocfhlmloaa.Up
open Go.RowKit
open Vp (Str B bl Val cmpL parseS showS withinS IsPath checkS)
open Nd (Row wp_world post_Row2 grownBy_setCell below_of_grown Sl u8v)
/-- rows of cells stay -/
def CK (w w' : World) : Prop := ∀ (b : Nat) (cs : Array Value) (t : TypeId) (fr : Nat × Nat), w.heap[b]? = some (.cells cs t fr) → w'.heap[b]? = some (.cells cs t fr)
theorem CK.trans {a b c : World} (h : CK a b) (k : CK b c) : CK a c := fun x cs t fr e => k x cs t fr (h x cs t fr e)
theorem ck_below {w w' : World} (h : Below w.heap.size w w') : CK w w' := fun b cs t fr e => by
  rw [h.block b (Array.getElem?_eq_some_iff.1 e).1, e]
theorem ck_map {w w' : World} {m : Nat} {L : List Spot} (h : MapP w m L) (hg : w.grownBy w' (some m)) : CK w w' := fun b cs t fr e => by
  obtain ⟨es, clock, hb, _⟩ := h.ex
  rw [hg.block b (Array.getElem?_eq_some_iff.1 e).1 (fun e2 => ?_), e]
  obtain rfl := Option.some.inj e2
  rw [hb] at e
  cases e
theorem ck_cell {w w' : World} (h : CK w w') {b j : Nat} {v : Value} (hc : w.cell? ⟨b, j, none⟩ = some v) : w'.cell? ⟨b, j, none⟩ = some v := by
  have h5 : w'.heap[b]? = w.heap[b]? := by
    unfold World.cell? at hc
    cases ho : w.heap[b]? with
    | none => simp [ho] at hc
    | some o =>
      cases o with
      | cells cs t fr => exact h b cs t fr ho
      | _ => simp [ho] at hc
  unfold World.cell? at hc ⊢
  rw [h5]
  exact hc
theorem sl_ck {w w' : World} {p : Option Addr} {bs : List Nat} {cap b off : Nat} (h : Sl w p bs cap b off) (k : CK w w') : Sl w' p bs cap b off := by
  obtain ⟨h1, h2, h3, h4, h5⟩ := h
  exact ⟨h1, h2, h3, h4, fun j hj => ck_cell k (h5 j hj)⟩
/-- the order is one -/
theorem ordered_one {L sp sp' : List Spot} (h : (L.map (·.names)).Nodup) (a : Ordered L sp) (b : Ordered L sp') : sp = sp' := by
  have hpp : sp.Perm sp' := a.1.trans b.1.symm
  refine List.Perm.eq_of_pairwise (le := fun s t => ¬ cmpL t.names s.names < 0) (fun x y hx hy h1 h2 => ?_) a.2 b.2 hpp
  have hn : x.names = y.names := by
    have t1 := Vp.cmpL_is.turn x.names y.names
    have t2 := Vp.cmpL_is.three x.names y.names
    exact (Vp.cmpL_is.zero _ _).1 (by omega)
  have m1 := (List.mem_filter.1 (a.1.mem_iff.1 hx)).1
  have m2 := (List.mem_filter.1 (b.1.mem_iff.1 hy)).1
  obtain ⟨i, hi⟩ := List.getElem?_of_mem m1
  obtain ⟨j, hj⟩ := List.getElem?_of_mem m2
  have e := names_at h hi hj hn
  rw [e, hj] at hi
  exact (Option.some.inj hi).symm
/-- inodes that may be -/
def OkL (L : List Spot) : Prop := ∀ s ∈ L, s.data.size ≤ 1024 ∧ 0 ≤ s.kind ∧ s.kind ≤ 3
/-- what Encode answers is one text -/
theorem enc_text {L : List Spot} (h : (L.map (·.names)).Nodup) (N Z : Nat) : ∃ X : List Nat, ∀ sp, Ordered L sp → encU N Z L.length (sp.map Spot.fil) = X := by
  by_cases hs : ∃ sp, Ordered L sp
  · obtain ⟨sp, hsp⟩ := hs
    exact ⟨_, fun sp' hsp' => by rw [ordered_one h hsp' hsp]⟩
  · exact ⟨[], fun sp hsp => absurd ⟨sp, hsp⟩ hs⟩
theorem encI_lt (f : Fil) (h1 : f.path.size ≤ 200) (h2 : f.kind ≤ 3) (h3 : f.data.size ≤ 1024) : ∀ x ∈ encI f, x < 256 := by
  intro x hx
  unfold encI at hx
  simp only [List.mem_append, List.mem_singleton] at hx
  rcases hx with (((hx | hx) | hx) | hx) | (hx | hx)
  · exact Nd.num_lt _ (by omega) x hx
  · exact Nd.bytesS_lt _ x hx
  · exact Nd.num_lt _ (by omega) x hx
  · rw [hx]; split <;> omega
  · exact Nd.num_lt _ (by omega) x hx
  · exact Nd.bytesS_lt _ x hx
theorem enc_lt {N Z k : Nat} {fs : List Fil} (hN : N ≤ 128) (hZ : Z ≤ 8192) (hk : k ≤ 100000) (h : ∀ f ∈ fs, f.path.size ≤ 200 ∧ f.kind ≤ 3 ∧ f.data.size ≤ 1024) : ∀ x ∈ encU N Z k fs, x < 256 := by
  intro x hx
  unfold encU at hx
  simp only [List.mem_append, List.mem_flatMap] at hx
  rcases hx with ((hx | hx) | hx) | ⟨f, hf, hx⟩
  · exact Nd.num_lt _ (by omega) x hx
  · exact Nd.num_lt _ (by omega) x hx
  · exact Nd.num_lt _ (by omega) x hx
  · obtain ⟨h1, h2, h3⟩ := h f hf
    exact encI_lt f h1 h2 h3 x hx
/-- Encode, its answer as bytes that are read -/
theorem enc_sl {w : World} {g m : Nat} {N Z : Nat} {L : List Spot} (h : Fs w g m (N : Int) (Z : Int) L) (hN : N ≤ 128) (hZ : Z ≤ 8192) (hn : L.length ≤ 100000) (hok : OkL L) {X : List Nat} (hX : ∀ sp, Ordered L sp → encU N Z L.length (sp.map Spot.fil) = X) :
    Calls Try.prog 18 #[.pointer (some ⟨g, 0, none⟩)] w fun e w' => ∃ p cap b, e = .returned (.slice p X.length cap) ∧ Sl w' p X cap b 0 ∧ Below w.heap.size w w' := by
  have hgd := fun s (hs : s ∈ L) => h.map.good s hs
  refine (encode_any h hN hZ hn hok).mono ?_
  rintro e w' ⟨v, sp, rfl, hor, hown, hb⟩
  have hlt := enc_lt (fs := sp.map Spot.fil) hN hZ hn (fun f hf => by
    obtain ⟨s, hs, rfl⟩ := List.mem_map.1 hf
    have hm := (List.mem_filter.1 (hor.1.mem_iff.1 hs)).1
    obtain ⟨h1, h2⟩ := hgd s hm
    obtain ⟨h3, h4, h5⟩ := hok s hm
    refine ⟨?_, h5, h3⟩
    show s.path.size ≤ 200
    rw [h1]
    have h6 := Vp.show_len s.names
    have h7 := h2.lens
    have h8 : (B (showS s.names)).size = (showS s.names).length := by simp [B, ByteArray.size]
    omega)
  rw [hX sp hor] at hown hlt
  obtain ⟨p, cap, b, rfl, hsl, _⟩ := Nd.own_sl hlt hown
  exact ⟨p, cap, b, rfl, hsl, hb⟩
theorem putP_ok {L : List Spot} {v : Value} {ns : List Str} {t : ByteArray} {k : Int} {q : Bool} {d : ByteArray} (h : OkL L) (h1 : d.size ≤ 1024) (h2 : 0 ≤ k) (h3 : k ≤ 3) : OkL (putP L ⟨v, ns, t, k, q, d⟩) := fun s hs => by
  rcases putP_mem hs with rfl | hs
  · exact ⟨h1, h2, h3⟩
  · exact h s hs
theorem putP_len : ∀ (L : List Spot) (s : Spot), (putP L s).length ≤ L.length + 1
  | [], s => by simp [putP]
  | a :: r, s => by
    simp only [putP]
    split
    · simp
    · have := putP_len r s
      simp only [List.length_cons]
      omega
theorem kind_ok {k : Int} {q : Bool} {d : ByteArray} (h : formE k q d = 0) : d.size ≤ 1024 ∧ 0 ≤ k ∧ k ≤ 3 := by
  refine ⟨form_small h, ?_⟩
  unfold formE at h
  split at h
  · rename_i h1; exact absurd h h1
  · rename_i h1
    have h1 : kindE k q d = 0 := Classical.byContradiction h1
    unfold kindE at h1
    split at h1
    · omega
    split at h1
    · omega
    split at h1
    · omega
    · cases h1
theorem putE_form {L : List Spot} {p : ByteArray} {k : Int} {q : Bool} {d : ByteArray} (h0 : putE L p k q d = 0) : formE k q d = 0 := by
  unfold putE at h0
  split at h0
  · rename_i h1; exact absurd h0 h1
  split at h0
  · cases h0
  split at h0
  · rename_i h1; exact absurd h0 h1
  · rename_i h1; exact Classical.byContradiction h1
end Go.Proofs.Ytglfeocfhlmloaa.Up
