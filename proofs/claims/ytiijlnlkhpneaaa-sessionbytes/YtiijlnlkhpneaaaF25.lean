/-
  What stays of other tables; a table's own bytes, decoded. A script that comes in, with what its numbers may be.
-/
import Derived.Deep.CutRange
import Derived.OwnWalk
import Derived.Laws.CopyOwn
import Derived.Laws.Tables
import Derived.Deep.RegionLaw
import Derived.Deep.DrawnRows
import Derived.Test.YtiijlnlkhpneaaaF00
import Derived.Test.YtiijlnlkhpneaaaF01
import Derived.Test.YtiijlnlkhpneaaaF02
import Derived.Test.YtiijlnlkhpneaaaF03
import Derived.Test.YtiijlnlkhpneaaaF04
import Derived.Test.YtiijlnlkhpneaaaF05
import Derived.Test.YtiijlnlkhpneaaaF06
import Derived.Test.YtiijlnlkhpneaaaF07
import Derived.Test.YtiijlnlkhpneaaaF08
import Derived.Test.YtiijlnlkhpneaaaF09
import Derived.Test.YtiijlnlkhpneaaaF10
import Derived.Test.YtiijlnlkhpneaaaF11
import Derived.Test.YtiijlnlkhpneaaaF12
import Derived.Test.YtiijlnlkhpneaaaF13
import Derived.Test.YtiijlnlkhpneaaaF14
import Derived.Test.YtiijlnlkhpneaaaF15
import Derived.Test.YtiijlnlkhpneaaaF16
import Derived.Test.YtiijlnlkhpneaaaF17
import Derived.Test.YtiijlnlkhpneaaaF18
import Derived.Test.YtiijlnlkhpneaaaF19
import Derived.Test.YtiijlnlkhpneaaaF20
import Derived.Test.YtiijlnlkhpneaaaF21
import Derived.Test.YtiijlnlkhpneaaaF22
import Derived.Test.YtiijlnlkhpneaaaF23
import Derived.Test.YtiijlnlkhpneaaaF24
namespace Go.Proofs.Ytiijlnlkhpneaaa.Se
open Go.RowKit
open Nd (Row Sl Grew below_of_grown i64r)
theorem Tab.oth {w W : World} {g r b : Nat} {room : Int} {T : List Seat} (h : Tab w b room T) (ho : Oth2 w g r W) (h1 : b ≠ g) (h2 : b ≠ r) (h3 : rowOf w r ≠ some b) : Tab W b room T := by
  refine ⟨?_, h.len⟩
  have hr := h.row
  unfold Row at hr ⊢
  rw [(ho b h.lt h1 h2 h3).1]
  exact hr
theorem RT.row_ge {w : World} {B r b : Nat} {room : Int} {X : List Seat} (h : RT w B r room X) (hb : rowOf w r = some b) : B ≤ b := by
  obtain ⟨v, h1, h2⟩ := h.ex
  have c1 := h1.cell 1
  simp only [List.getElem?_cons_succ, List.getElem?_cons_zero] at c1
  unfold rowOf at hb
  rw [c1] at hb
  obtain ⟨_, ⟨rfl, h0⟩ | ⟨g, cap, cur, rfl, hB, hh, hn, hm, hs, ht⟩⟩ := h2
  · cases hb
  · simp only at hb
    obtain rfl := Option.some.inj hb
    exact hB
theorem RT.oth {w W : World} {g r B q : Nat} {room : Int} {X : List Seat} (h : RT w B q room X) (ho : Oth2 w g r W) (hg : g < B) (hr : r < B) (hrow : ∀ b, rowOf w r = some b → b < B) : RT W B q room X := by
  have keep : ∀ b, B ≤ b → b < w.heap.size → W.heap[b]? = w.heap[b]? := fun b h1 h2 => (ho b h2 (by omega) (by omega) (fun e => by have := hrow b e; omega)).1
  obtain ⟨v, h1, h2⟩ := h.ex
  refine ⟨⟨v, ?_, ?_⟩, h.ge⟩
  · have hl := h1.lt
    unfold Row at h1 ⊢
    rw [keep q h.ge hl]
    exact h1
  · obtain ⟨h0, ⟨rfl, h3⟩ | ⟨b, cap, cur, rfl, hB, hh, hn, hm, hs, ht⟩⟩ := h2
    · exact ⟨h0, .inl ⟨rfl, h3⟩⟩
    · exact ⟨h0, .inr ⟨b, cap, cur, rfl, hB, by rw [keep b hB (Array.getElem?_eq_some_iff.1 hh).1]; exact hh, hn, hm, hs, ht⟩⟩
theorem rowOf_below {w W : World} {r : Nat} (hb : Below w.heap.size w W) (hr : r < w.heap.size) : rowOf W r = rowOf w r := by
  unfold rowOf
  rw [hb.cell (p := ⟨r, 1, none⟩) hr]
/-- a table's own bytes are taken -/
theorem dec_enc {w : World} {p : Option Addr} {cap b off rm : Nat} {T : List Seat} (hk : Ok (rm : Int) T) (h9 : rm ≤ 8192) (hs : Sl w p (encT (rm : Int) (T.filter seated)) cap b off) (hno : p = none → (encT (rm : Int) (T.filter seated)).length = 0 ∧ cap = 0) :
    Calls Try.prog 20 #[.slice p (encT (rm : Int) (T.filter seated)).length cap] w fun e w' => ∃ u, e = .returned (.tuple #[.pointer (some ⟨u, 0, none⟩), .int .i64 0]) ∧ Tab w' u (rm : Int) T ∧ w.heap.size ≤ u ∧ Below w.heap.size w w' := by
  have hr := readT_enc h9 hk.right hk.at_ hk.sum
  refine (decode_any hs hno (by have := encT_len (rm := rm) (filter_le8 hk.right) (enc1_of hk.right hk.at_); omega)).mono ?_
  rintro e w' ⟨⟨rfl, hn⟩ | ⟨rm', T', u, rfl, h1, _, h3, h4⟩, hb⟩
  · exact absurd rfl (hn rm T hr)
  · rw [hr] at h1
    have h5 := Option.some.inj h1
    obtain rfl := (Prod.mk.inj h5).1
    obtain rfl := (Prod.mk.inj h5).2
    exact ⟨u, rfl, h3, h4, hb⟩
/-- all the tables ahead of the second script -/
structure BK (a : World) (B1 g r u c B2 q : Nat) (room : Int) (T : List Seat) (W : World) : Prop where
  ft : Tab W g room T
  fr : RT W B1 r room (T.filter seated)
  fu : Tab W u room T
  fc : Tab W c room T
  fq : RT W B2 q room (T.filter seated)
  bel : Below a.heap.size a W
  ag : a.heap.size ≤ g
  gB : g < B1
  low : ∀ b, rowOf W r = some b → b < u
  gu : g < u
  ru : r < u
  uc : u < c
  cB : c < B2
theorem BK.below {a : World} {B1 g r u c B2 q : Nat} {room : Int} {T : List Seat} {W W' : World} (h : BK a B1 g r u c B2 q room T W) (hb : Below W.heap.size W W') : BK a B1 g r u c B2 q room T W' :=
  ⟨h.ft.below hb h.ft.lt, h.fr.below hb, h.fu.below hb h.fu.lt, h.fc.below hb h.fc.lt, h.fq.below hb, h.bel.trans (hb.mono h.bel.size), h.ag, h.gB, fun b e => h.low b (by rw [← rowOf_below hb h.fr.lt]; exact e), h.gu, h.ru, h.uc, h.cB⟩
/-- .. and behind the first of its two plays -/
structure BL (a : World) (g u c B2 q : Nat) (room : Int) (T T2 : List Seat) (W : World) : Prop where
  ft : Tab W g room T2
  fu : Tab W u room T
  fc : Tab W c room T
  fq : RT W B2 q room (T.filter seated)
  bel : Below a.heap.size a W
  au : a.heap.size ≤ u
  gu : g < u
  uc : u < c
  cB : c < B2
theorem BK.play {a : World} {B1 g r u c B2 q : Nat} {room : Int} {T T2 : List Seat} {W W' : World} (h : BK a B1 g r u c B2 q room T W) (hp : PS W a B1 g r room T2 T2 W') : BL a g u c B2 q room T T2 W' := by
  have e1 := h.gu; have e2 := h.ru; have e3 := h.uc; have e4 := h.cB; have e5 := h.ag
  have hl : ∀ b, u ≤ b → rowOf W r ≠ some b := fun b hb e => by have := h.low b e; omega
  exact ⟨hp.tab, h.fu.oth hp.oth (by omega) (by omega) (hl u (Nat.le_refl _)), h.fc.oth hp.oth (by omega) (by omega) (hl c (by omega)), h.fq.oth hp.oth (by omega) (by omega) (fun b e => by have := h.low b e; omega), hp.bel, by omega, e1, e3, e4⟩
theorem BL.ps {a : World} {g u c B2 q : Nat} {room : Int} {T T2 : List Seat} {W : World} (h : BL a g u c B2 q room T T2 W) : PS W a B2 u q room T T W := ⟨h.fu, h.fq, h.bel, Oth2.refl _ _ _, Nat.le_refl _⟩
/-- .. and behind both -/
structure BM (a : World) (g u c : Nat) (room : Int) (T T2 : List Seat) (W : World) : Prop where
  ft : Tab W g room T2
  fu : Tab W u room T2
  fc : Tab W c room T
  bel : Below a.heap.size a W
theorem BL.play {a : World} {g u c B2 q : Nat} {room : Int} {T T2 : List Seat} {W W' : World} (h : BL a g u c B2 q room T T2 W) (hp : PS W a B2 u q room T2 T2 W') : BM a g u c room T T2 W' := by
  have e1 := h.gu; have e3 := h.uc; have e4 := h.cB; have e5 := h.fq.ge
  have hl : ∀ b, b < B2 → rowOf W q ≠ some b := fun b hb e => by have := h.fq.row_ge e; omega
  exact ⟨h.ft.oth hp.oth (by omega) (by omega) (hl g (by omega)), hp.tab, h.fc.oth hp.oth (by omega) (by omega) (hl c e4), hp.bel⟩
theorem BM.below {a : World} {g u c : Nat} {room : Int} {T T2 : List Seat} {W W' : World} (h : BM a g u c room T T2 W) (hb : Below W.heap.size W W') : BM a g u c room T T2 W' :=
  ⟨h.ft.below hb h.ft.lt, h.fu.below hb h.fu.lt, h.fc.below hb h.fc.lt, h.bel.trans (hb.mono h.bel.size)⟩
/-- between two rounds of the last loop -/
structure BN (a : World) (c B p : Nat) (room : Int) (T : List Seat) (P : List Seat) (W : World) : Prop where
  fc : Tab W c room T
  fp : RT W B p room (P.filter seated)
  bel : Below a.heap.size a W
  aB : a.heap.size ≤ B
theorem BN.below {a : World} {c B p : Nat} {room : Int} {T P : List Seat} {W W' : World} (h : BN a c B p room T P W) (hb : Below W.heap.size W W') : BN a c B p room T P W' :=
  ⟨h.fc.below hb h.fc.lt, h.fp.below hb, h.bel.trans (hb.mono h.bel.size), h.aB⟩
end Go.Proofs.Ytiijlnlkhpneaaa.Se
namespace Go.Proofs.Ytiijlnlkhpneaaa.Se
open Go.ChangeShapes Go.WideShapes Go.ChangeAt Go.RowKit Go.Deep
/-- an act that comes in -/
def ActOk (s : Act1) : Prop := s.reply.size ≤ 9223372036854775807 ∧ -9223372036854775808 ≤ s.at_ ∧ s.at_ ≤ 9223372036854775807
set_option maxRecDepth 100000 in
theorem act_at2 {H : Type} {enc : TypeId × Value → H} {W : World} {fuel : Nat} {cs : List Value} {d : DataW H} {p : List MemPlace} (hf : DataW.trod enc Try.prog W 0 (fun _ => true) true fuel 44 cs = some (d, p)) :
    ∃ s : Act1, cs = s.cells ∧ ActOk s := by
  obtain ⟨zs, n2, _, _, hl2, hzl, hg2⟩ := DataW.trod_struct Try.underlying44 hf
  have hzl' : zs.length = 5 := hzl
  rw [cells44] at hl2
  match zs, hzl', cs, hl2 with
  | [z0, z1, z2, z3, z4], _, [v0, v1, v2, v3, v4], _ =>
    have k0 := hg2 0 _ rfl
    have k1 := hg2 1 _ rfl
    have k2 := hg2 2 _ rfl
    have k3 := hg2 3 _ rfl
    have k4 := hg2 4 _ rfl
    obtain ⟨Q, f0, _, _⟩ := DataW.trod_bool Try.underlying4 k0
    obtain ⟨K1, f1, _, _⟩ := DataW.trod_int Try.underlying3 k1
    obtain ⟨K2, f2, _, _⟩ := DataW.trod_int Try.underlying2 k2
    obtain ⟨K3, f3, _, g3⟩ := DataW.trod_int Try.underlying2 k3
    obtain ⟨X, f4, _, hX⟩ := DataW.trod_string Try.underlying9 k4
    simp [cells3, cells4, cells9, cells2] at f0 f1 f2 f3 f4
    subst f0 f1 f2 f3 f4
    unfold maxLen at hX
    have g4 : (decide (IntKind.i64.min ≤ K3) && decide (K3 ≤ IntKind.i64.max)) = true := g3
    simp only [Bool.and_eq_true, decide_eq_true_eq] at g4
    have m1 : IntKind.i64.min = -9223372036854775808 := by decide
    have m2 : IntKind.i64.max = 9223372036854775807 := by decide
    rw [m1, m2] at g4
    exact ⟨⟨Q, K1, K2, K3, X⟩, rfl, by simp only; omega, g4.1, g4.2⟩
/-- a script that comes in -/
theorem acts_in2 {H : Type} {enc : TypeId × Value → H} {W : World} {a : Option Addr} {len cap : Nat} {d : DataW H} {p : List MemPlace} (h : DataW.Trod enc Try.prog W 0 (fun _ => true) true 22 (.slice a len cap) d p) :
    ∃ ss : List Act1, Acts W (.slice a len cap) ss ∧ ∀ x ∈ ss, ActOk x := by
  obtain ⟨fuel, hf⟩ := h
  rcases open_slice Try.underlying22 hf with ⟨hcs, hx⟩ | ⟨x, l, c, m, n, D, Pl, hcs, _, hl, hm, hmm, hx, hr⟩
  · simp [Value.cells] at hcs
    obtain ⟨rfl, rfl, rfl⟩ := hcs
    exact ⟨[], ⟨none, 0, 0, 0, rfl, by simp, by omega, fun h => absurd rfl h, fun i f hi => by simp at hi⟩, fun f hf => by cases hf⟩
  · simp [Value.cells] at hcs
    obtain ⟨rfl, rfl, rfl⟩ := hcs
    simp only [if_true] at hmm
    subst hmm
    rw [cells44] at hr
    have each : ∀ r, r < len → ∃ f : Act1, ActOk f ∧ ∀ (j : Nat) u, f.cells[j]? = some u → W.cell? ((x.add (r * 5)).add j) = some u := by
      intro r hlt
      obtain ⟨cs', h1, h2⟩ := hr r (by omega)
      obtain ⟨_, hlen, hcell⟩ := World.cells?_some h1
      obtain ⟨o, rfl, ho⟩ := act_at2 h2
      refine ⟨o, ho, fun j u hj => ?_⟩
      have hj5 : j < 5 := by have := (List.getElem?_eq_some_iff.1 hj).1; exact this
      have := hcell j hj5
      rw [this]
      exact hj
    haveI : Inhabited Act1 := ⟨⟨false, 0, 0, 0, ⟨#[]⟩⟩⟩
    obtain ⟨y, hy⟩ := choose_lt each
    have hcap : m ≤ 9223372036854775807 := by unfold maxLen at hm; omega
    obtain ⟨b, o, hpx⟩ : ∃ b o, 0 < len → x = ⟨b, o, none⟩ ∧ b < W.heap.size := by
      by_cases h0 : 0 < len
      · have hc := (hy 0 h0).2 0 _ rfl
        obtain ⟨b', o', sp⟩ := x
        have hspot : sp = none := by simpa [Addr.add] using World.cell?_spot hc
        subst hspot
        rw [Addr.add_mid, Addr.add_mid] at hc
        exact ⟨b', o', fun _ => ⟨rfl, World.block_lt_of_cell? W _ hc⟩⟩
      · exact ⟨0, 0, fun h => absurd h h0⟩
    refine ⟨(List.range len).map y, ⟨some x, m, b, o, by simp, by simpa using hl, hcap, fun h => ?_, fun j f hj => ?_⟩, fun f hf => ?_⟩
    · have h0 : 0 < len := by
        rcases Nat.eq_zero_or_pos len with h1 | h1
        · subst h1; exact absurd rfl h
        · exact h1
      exact ⟨by rw [(hpx h0).1], (hpx h0).2⟩
    · have hi : j < len := by have := (List.getElem?_eq_some_iff.1 hj).1; simpa using this
      simp [hi] at hj
      subst hj
      intro i u hu
      have := (hy j hi).2 i u hu
      rw [(hpx (by omega)).1, Addr.add_mid, Addr.add_mid] at this
      exact this
    · obtain ⟨r, hr2, rfl⟩ := List.mem_map.1 hf
      exact (hy r (by simpa using hr2)).1
end Go.Proofs.Ytiijlnlkhpneaaa.Se
