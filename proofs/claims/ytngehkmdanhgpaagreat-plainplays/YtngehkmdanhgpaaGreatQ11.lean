/-
  Paths in a map by their texts: what a file system of layer 11 is in memory; look-up, store, delete. A path is put into the map, or taken out of it.
-/
import Derived.Maps.OwnSet
import Derived.Maps.RangeRun
import Derived.Lib.SlBytesConst
import Derived.Laws.CopyOwn
import Derived.Deep.RegionLaw
import Derived.Deep.DrawnRows
import Derived.Lib.AppendZeros
import Derived.Laws.Tables
import Derived.Test.YtngehkmdanhgpaaGreatQ00
import Derived.Test.YtngehkmdanhgpaaGreatQ01
import Derived.Test.YtngehkmdanhgpaaGreatQ02
import Derived.Test.YtngehkmdanhgpaaGreatQ03
import Derived.Test.YtngehkmdanhgpaaGreatQ04
import Derived.Test.YtngehkmdanhgpaaGreatQ05
import Derived.Test.YtngehkmdanhgpaaGreatQ06
import Derived.Test.YtngehkmdanhgpaaGreatQ07
import Derived.Test.YtngehkmdanhgpaaGreatQ08
import Derived.Test.YtngehkmdanhgpaaGreatQ09
import Derived.Test.YtngehkmdanhgpaaGreatQ10
namespace Go.Proofs.YtngehkmdanhgpaaGreat.Pl
open Go.RowKit
open Go.ChangeMaps (setBlock heap_setBlock_same heap_setBlock_other)
open Vp (Str B bl Val cmpL parseS showS splitS withinS IsPath)
open Nd (Row)
theorem hid_in {p : Prop} (h : p) : Hid p := h
/-- what is asked of a kind of key -/
structure KeyOf {α : Type} (kt : TypeId) (kv : α → Value) (G : α → Prop) : Prop where
  inj : ∀ {a b : α}, kv a = kv b → a = b
  check : ∀ (em : Bool) (d : α), G d → ∀ w, (Instr.checkKey em 10000 kt (kv d)).run Tryz.prog w = .ok () w
  find : ∀ (d : α), G d → ∀ (w : World) (es : List MapEntry), (∀ e ∈ es, ∃ d : α, G d ∧ e.key = kv d) →
    ((Instr.findKey kt (kv d) es).run Tryz.prog w = .ok none w ∧ ∀ e ∈ es, e.key ≠ kv d) ∨
    ∃ j e, (Instr.findKey kt (kv d) es).run Tryz.prog w = .ok (some (j, e.val)) w ∧ es[j]? = some e ∧ e.key = kv d
  stays : ∀ (d : α), G d → ∀ w, (Instr.keyThatStays (kv d) (kv d)).run Tryz.prog w = .ok (kv d) w
/-- a text as a key -/
theorem now_str (d : ByteArray) : ∀ (es : List MapEntry) (i : Nat), (∀ e ∈ es, ∃ x : ByteArray, True ∧ e.key = .string x) →
    (Instr.findNow .string (.string d) es i = some none ∧ ∀ e ∈ es, e.key ≠ .string d) ∨
    ∃ j e, Instr.findNow .string (.string d) es i = some (some (i + j, e.val)) ∧ es[j]? = some e ∧ e.key = .string d
  | [], i, _ => .inl ⟨rfl, by simp⟩
  | e :: es, i, h => by
    obtain ⟨x, -, hk⟩ := h e (by simp)
    by_cases hc : d = x
    · refine .inr ⟨0, e, ?_, by simp, by rw [hk, hc]⟩
      have hb : (d == x) = true := (MapKept.bytes_beq d x).2 hc
      simp only [Instr.findNow, hk, Instr.sameNow, hb, Nat.add_zero]
    · have hstep : Instr.findNow .string (.string d) (e :: es) i = Instr.findNow .string (.string d) es (i + 1) := by
        have hb : (d == x) = false := by
          rw [Bool.eq_false_iff]
          exact fun hh => hc ((MapKept.bytes_beq d x).1 hh)
        simp only [Instr.findNow, hk, Instr.sameNow, hb]
      rw [hstep]
      rcases now_str d es (i + 1) (fun y hy => h y (by simp [hy])) with ⟨h1, h2⟩ | ⟨j, e2, h1, h2, h3⟩
      · refine .inl ⟨h1, fun y hy => ?_⟩
        rcases List.mem_cons.1 hy with rfl | hy
        · rw [hk]; exact fun hh => hc (by injection hh with hh; exact hh.symm)
        · exact h2 y hy
      · exact .inr ⟨j + 1, e2, by rw [h1, show i + 1 + j = i + (j + 1) by omega], by simpa using h2, h3⟩
theorem keyText : KeyOf 9 Value.string (fun _ => True) where
  inj h := by injection h
  check em d _ w := by
    have h : ∀ n : Nat, (Instr.checkKey em (n + 1) 9 (.string d)).run Tryz.prog w = .ok () w := by
      intro n
      simp only [Instr.checkKey, Sem.run_bind, run_underlying Tryz.underlying9, Result.andThen_ok, Sem.run_pure]
    exact h 9999
  find d _ w es h := by
    have hs : ∀ r, Instr.findNow .string (.string d) es 0 = some r → (Instr.findKey 9 (.string d) es).run Tryz.prog w = .ok r w := by
      intro r hr
      simp only [Instr.findKey, Sem.run_bind, run_underlying Tryz.underlying9, Result.andThen_ok, hr, Sem.run_pure]
    rcases now_str d es 0 h with ⟨h1, h2⟩ | ⟨j, e, h1, h2, h3⟩
    · exact .inl ⟨hs _ h1, h2⟩
    · exact .inr ⟨j, e, hs _ (by rw [h1, Nat.zero_add]), h2, h3⟩
  stays d _ w := by
    have h : Instr.sameBits 10000 (.string d) (.string d) = true := by
      show Instr.sameBits (9999 + 1) (.string d) (.string d) = true
      simp only [Instr.sameBits]
      exact (MapKept.bytes_beq d d).2 rfl
    simp only [Instr.keyThatStays, h, if_true, Sem.run_pure]
/-- a path in memory: the value of its names, its names, its text, whether it is a directory, its data -/
structure Spot where
  v : Value
  names : List Str
  path : ByteArray
  dir : Bool
  data : ByteArray
def Spot.cells (s : Spot) : List Value := [s.v, .string s.path, .bool s.dir, .string s.data]
def Spot.val (s : Spot) : Value := .agg #[s.v, .string s.path, .bool s.dir, .string s.data]
/-- what is at a path -/
structure Ent where
  names : List Str
  dir : Bool
  data : ByteArray
  deriving DecidableEq
def Spot.ent (s : Spot) : Ent := ⟨s.names, s.dir, s.data⟩
/-- a path -/
def Gp (xs : List Str) : Prop := IsPath xs ∧ xs.length ≤ 8
theorem Gp.lens {xs : List Str} (h : Gp xs) : Lib.lens xs + xs.length ≤ 136 := by
  obtain ⟨h1, h2⟩ := h
  have : Lib.lens xs ≤ 16 * xs.length := by
    clear h2
    induction xs with
    | nil => simp [Lib.lens]
    | cons x r ih =>
      have := (Vp.name_facts (h1 x (by simp))).2.2.2.1
      have := ih (fun y hy => h1 y (by simp [hy]))
      simp only [Lib.lens, List.map_cons, List.sum_cons, List.length_cons] at *
      omega
  omega
theorem Gp.parse {xs : List Str} (h : Gp xs) : parseS (showS xs) = (xs, 0) := by
  have h1 := Vp.show_len xs
  have h2 := h.lens
  rw [Vp.parse_show h.1 (by omega), if_neg (by have := h.2; omega)]
theorem Gp.inj {xs ys : List Str} (h : Gp xs) (k : Gp ys) (e : showS xs = showS ys) : xs = ys := by
  have h1 := h.parse
  rw [e, k.parse] at h1
  exact (Prod.mk.inj h1).1.symm
theorem B_inj {x y : Str} (h : B x = B y) : x = y := by
  have := congrArg bl h
  simpa [B, bl] using this
theorem Gp.injB {xs ys : List Str} (h : Gp xs) (k : Gp ys) (e : B (showS xs) = B (showS ys)) : xs = ys := h.inj k (B_inj e)
theorem Gp.nil : Gp [] := ⟨fun x hx => by simp at hx, by simp⟩
theorem Gp.take {xs : List Str} (h : Gp xs) (i : Nat) : Gp (xs.take i) := ⟨fun x hx => h.1 x (List.mem_of_mem_take hx), by have := h.2; simp; omega⟩
theorem Gp.dropLast {xs : List Str} (h : Gp xs) : Gp xs.dropLast := ⟨fun x hx => h.1 x (List.dropLast_subset xs hx), by have := h.2; simp; omega⟩
theorem gp_parse (s : Str) : Gp (parseS s).1 := Vp.parse_path_ok s
/-- names stay where rows of cells stay -/
theorem val_kept {w w' : World} {v : Value} {xs : List Str} (h : Val w v xs) (hs : w.heap.size ≤ w'.heap.size) (hk : ∀ (b : Nat) (cs : Array Value) (t : TypeId) (fr : Nat × Nat), w.heap[b]? = some (.cells cs t fr) → w'.heap[b]? = w.heap[b]?) : Val w' v xs := by
  obtain ⟨p, cap, rfl, h1⟩ := h
  refine ⟨p, cap, rfl, h1.le, h1.big, h1.nil, ?_⟩
  obtain ⟨b, o, h2, h3⟩ := h1.cells
  refine ⟨b, o, fun hne => ⟨(h2 hne).1, Nat.lt_of_lt_of_le (h2 hne).2 hs⟩, fun j x hx => ?_⟩
  have h4 := h3 j x hx
  have h5 : w'.heap[b]? = w.heap[b]? := by
    unfold World.cell? at h4
    cases ho : w.heap[b]? with
    | none => simp [ho] at h4
    | some o =>
      cases o with
      | cells cs t fr => rw [← ho]; exact hk b cs t fr ho
      | _ => simp [ho] at h4
  unfold World.cell? at h4 ⊢
  rw [h5]
  exact h4
/-- names stay where rows of names stay -/
theorem nm_kept {w w' : World} {v : Value} {xs : List Str} (h : Rf.Nm w v xs) (hk : ∀ (b : Nat) (cs : Array Value) (fr : Nat × Nat), w.heap[b]? = some (.cells cs 9 fr) → w'.heap[b]? = some (.cells cs 9 fr)) : Rf.Nm w' v xs := by
  refine ⟨h.1, ?_⟩
  rcases h.2 with h | ⟨g', cap, cur, h1, h2, h3, h4⟩
  · exact .inl h
  · exact .inr ⟨g', cap, cur, h1, h2, hk _ _ _ h3, h4⟩
/-- block m is the map of these paths -/
structure MapP (w : World) (m : Nat) (L : List Spot) : Prop where
  ex : ∃ es clock, w.heap[m]? = some (.map es clock) ∧ es.toList.map (fun e => (e.key, e.val)) = L.map (fun s => (Value.string s.path, s.val)) ∧ (∀ e ∈ es.toList, e.born < clock) ∧ (es.toList.map (·.born)).Nodup
  good : ∀ s ∈ L, s.path = B (showS s.names) ∧ Gp s.names
  nms : ∀ s ∈ L, Rf.Nm w s.v s.names
  one : (L.map (·.names)).Nodup
theorem MapP.lt {w : World} {m : Nat} {L : List Spot} (h : MapP w m L) : m < w.heap.size := by
  obtain ⟨es, clock, hb, _⟩ := h.ex
  exact (Array.getElem?_eq_some_iff.1 hb).1
/-- a file system of layer 11: block g leads to the map m -/
structure Fs (w : World) (g m : Nat) (L : List Spot) : Prop where
  row : Row w g [.map (some m)] 60
  map : MapP w m L
theorem Fs.ne {w : World} {g m : Nat} {L : List Spot} (h : Fs w g m L) : g ≠ m := by
  rintro rfl
  obtain ⟨es, clock, hb, _⟩ := h.map.ex
  have := h.row
  unfold Row at this
  rw [hb] at this
  cases this
/-- it stays where no old block is turned -/
theorem MapP.grown {w w' : World} {m : Nat} {L : List Spot} {row : Option Nat} (h : MapP w m L) (hg : w.grownBy w' row) (hr : ∀ k, row = some k → k ≠ m ∧ ∀ cs fr, w.heap[k]? ≠ some (.cells cs 9 fr)) : MapP w' m L := by
  obtain ⟨es, clock, hb, h1⟩ := h.ex
  refine ⟨⟨es, clock, ?_, h1⟩, h.good, fun s hs => nm_kept (h.nms s hs) fun b cs fr e => ?_, h.one⟩
  · rw [hg.block m h.lt (fun e => (hr m e.symm).1 rfl), hb]
  · rw [hg.block b (Array.getElem?_eq_some_iff.1 e).1 (fun e2 => (hr b e2.symm).2 cs fr e)]
    exact e
theorem grown_of_below {w w' : World} (h : Below w.heap.size w w') : w.grownBy w' none := ⟨h.os, h.tape, h.output, h.size, fun k hk _ => h.block k hk⟩
theorem Fs.grown {w w' : World} {g m : Nat} {L : List Spot} {row : Option Nat} (h : Fs w g m L) (hg : w.grownBy w' row) (hr : ∀ k, row = some k → k ≠ m ∧ k ≠ g ∧ ∀ cs fr, w.heap[k]? ≠ some (.cells cs 9 fr)) : Fs w' g m L :=
  ⟨h.row.grown hg (fun e => (hr g e.symm).2.1 rfl), h.map.grown hg (fun k e => ⟨(hr k e).1, (hr k e).2.2⟩)⟩
/-- a cell is written in a row that holds no names -/
theorem Fs.set {w : World} {g m b : Nat} {L : List Spot} {vs : List Value} {t : TypeId} (h : Fs w g m L) (hr : Row w b vs t) (h9 : t ≠ 9) (hg : b ≠ g) (j : Nat) (v : Value) : Fs (w.setCell ⟨b, j, none⟩ v) g m L := by
  refine h.grown (Nd.grownBy_setCell w ⟨b, j, none⟩ v) fun k e => ?_
  obtain rfl := Option.some.inj e
  refine ⟨?_, hg, fun cs fr e2 => ?_⟩
  · rintro rfl
    obtain ⟨es, clock, hb, _⟩ := h.map.ex
    unfold Row at hr
    rw [hb] at hr
    cases hr
  · unfold Row at hr
    rw [hr] at e2
    cases e2
    exact h9 rfl
theorem Fs.below {w w' : World} {g m : Nat} {L : List Spot} (h : Fs w g m L) (hb : Below w.heap.size w w') : Fs w' g m L := h.grown (grown_of_below hb) (fun k e => by cases e)
/-- the place of a path -/
def spotAt (L : List Spot) (xs : List Str) : Option Spot := L.find? (fun s => decide (s.names = xs))
def entAt (A : List Ent) (xs : List Str) : Option Ent := A.find? (fun e => decide (e.names = xs))
theorem spotAt_ent (L : List Spot) (xs : List Str) : (spotAt L xs).map Spot.ent = entAt (L.map Spot.ent) xs := by
  unfold spotAt entAt
  rw [List.find?_map]
  rfl
theorem names_at {L : List Spot} (h : (L.map (·.names)).Nodup) {i j : Nat} {a b : Spot} (hi : L[i]? = some a) (hj : L[j]? = some b) (e : a.names = b.names) : i = j := by
  have h1 := List.pairwise_iff_getElem.1 h
  obtain ⟨hil, rfl⟩ := List.getElem?_eq_some_iff.1 hi
  obtain ⟨hjl, rfl⟩ := List.getElem?_eq_some_iff.1 hj
  rcases Nat.lt_trichotomy i j with h7 | h7 | h7
  · exact absurd (by rw [List.getElem_map, List.getElem_map]; exact e) (h1 i j (by simpa using hil) (by simpa using hjl) h7)
  · exact h7
  · exact absurd (by rw [List.getElem_map, List.getElem_map]; exact e.symm) (h1 j i (by simpa using hjl) (by simpa using hil) h7)
/-- a path is looked for -/
theorem MapP.find {w : World} {m : Nat} {L : List Spot} (h : MapP w m L) {es : Array MapEntry} (he : es.toList.map (fun e => (e.key, e.val)) = L.map (fun s => (Value.string s.path, s.val))) (xs : List Str) (hx : Gp xs) :
    ((Instr.findKey 9 (.string (B (showS xs))) es.toList).run Tryz.prog w = .ok none w ∧ spotAt L xs = none) ∨
    ∃ j s e, (Instr.findKey 9 (.string (B (showS xs))) es.toList).run Tryz.prog w = .ok (some (j, s.val)) w ∧ es.toList[j]? = some e ∧ e.key = .string (B (showS xs)) ∧ e.val = s.val ∧ L[j]? = some s ∧ spotAt L xs = some s ∧ s.names = xs := by
  have hkey : ∀ e ∈ es.toList, ∃ d : ByteArray, True ∧ e.key = .string d := by
    intro e hm
    have : (e.key, e.val) ∈ L.map (fun s => (Value.string s.path, s.val)) := by rw [← he]; exact List.mem_map.2 ⟨e, hm, rfl⟩
    obtain ⟨s, _, hs⟩ := List.mem_map.1 this
    exact ⟨s.path, trivial, (Prod.mk.inj hs).1.symm⟩
  have hat : ∀ (j : Nat) (e : MapEntry), es.toList[j]? = some e → ∃ s, L[j]? = some s ∧ e.key = .string s.path ∧ e.val = s.val := by
    intro j e hj
    have := congrArg (fun l => l[j]?) he
    simp only [List.getElem?_map, hj, Option.map_some] at this
    cases hL : L[j]? with
    | none => rw [hL] at this; cases this
    | some s =>
      rw [hL] at this
      simp only [Option.map_some, Option.some.injEq, Prod.mk.injEq] at this
      exact ⟨s, rfl, this.1, this.2⟩
  rcases keyText.find (B (showS xs)) trivial w es.toList hkey with ⟨h1, h2⟩ | ⟨j, e, h1, h2, h3⟩
  · refine .inl ⟨h1, ?_⟩
    unfold spotAt
    rw [List.find?_eq_none]
    intro s hs hn
    obtain ⟨i, hi⟩ := List.getElem?_of_mem hs
    have hil : i < es.toList.length := by
      have := congrArg List.length he
      simp only [List.length_map] at this
      rw [this]
      exact (List.getElem?_eq_some_iff.1 hi).1
    obtain ⟨s2, e1, e2, _⟩ := hat i _ (List.getElem?_eq_getElem hil)
    rw [hi] at e1
    obtain rfl := Option.some.inj e1
    refine h2 _ (List.getElem_mem hil) ?_
    rw [e2, (h.good s hs).1, of_decide_eq_true hn]
  · obtain ⟨s, e1, e2, e3⟩ := hat j e h2
    have hs := List.mem_of_getElem? e1
    have hn : s.names = xs := by
      refine (h.good s hs).2.injB hx ?_
      rw [← (h.good s hs).1]
      rw [e2] at h3
      injection h3
    refine .inr ⟨j, s, e, by rw [h1, e3], h2, h3, e3, e1, ?_, hn⟩
    unfold spotAt
    cases hf : L.find? (fun s => decide (s.names = xs)) with
    | none => exact absurd (decide_eq_true hn) (List.find?_eq_none.1 hf s hs)
    | some s2 =>
      have h5 := List.mem_of_find?_eq_some hf
      have h6 : s2.names = xs := by simpa using List.find?_some hf
      obtain ⟨i, hi⟩ := List.getElem?_of_mem h5
      have hij : i = j := names_at h.one hi e1 (by rw [h6, hn])
      subst hij
      rw [hi] at e1
      exact e1
/-- a spot of nothing -/
def Spot.zero : Spot := ⟨.slice none 0 0, [], ⟨#[]⟩, false, ⟨#[]⟩⟩
theorem Fs.look2 {w : World} {m : Nat} {L : List Spot} (h : MapP w m L) (xs : List Str) (hx : Gp xs) :
    (Instr.lookup 58 (.map (some m)) (.string (B (showS xs))) true).run Tryz.prog w = .ok (.tuple #[((spotAt L xs).getD Spot.zero).val, .bool (spotAt L xs).isSome]) w := by
  obtain ⟨es, clock, hb, he, _⟩ := h.ex
  have ht : Tryz.prog.underlying 58 = some (.map 9 63) := Tryz.underlying58
  rcases h.find he xs hx with ⟨h1, h2⟩ | ⟨j, s, e, h1, _, _, _, _, h2, _⟩
  · simp [Instr.lookup, run_underlying ht, MapKept.run_getObj_map hb, keyText.check _ (B (showS xs)) trivial, h1, h2, Result.andThen]
    try rfl
  · simp [Instr.lookup, run_underlying ht, MapKept.run_getObj_map hb, keyText.check _ (B (showS xs)) trivial, h1, h2, Result.andThen]
theorem Fs.look1 {w : World} {m : Nat} {L : List Spot} (h : MapP w m L) (xs : List Str) (hx : Gp xs) :
    (Instr.lookup 58 (.map (some m)) (.string (B (showS xs))) false).run Tryz.prog w = .ok ((spotAt L xs).getD Spot.zero).val w := by
  obtain ⟨es, clock, hb, he, _⟩ := h.ex
  have ht : Tryz.prog.underlying 58 = some (.map 9 63) := Tryz.underlying58
  rcases h.find he xs hx with ⟨h1, h2⟩ | ⟨j, s, e, h1, _, _, _, _, h2, _⟩
  · simp [Instr.lookup, run_underlying ht, MapKept.run_getObj_map hb, keyText.check _ (B (showS xs)) trivial, h1, h2, Result.andThen]
    try rfl
  · simp [Instr.lookup, run_underlying ht, MapKept.run_getObj_map hb, keyText.check _ (B (showS xs)) trivial, h1, h2, Result.andThen]
end Go.Proofs.YtngehkmdanhgpaaGreat.Pl
namespace Go.Proofs.YtngehkmdanhgpaaGreat.Pl
open Go.RowKit
open Go.ChangeMaps (setBlock heap_setBlock_same heap_setBlock_other)
open Vp (Str B bl Val cmpL parseS showS splitS withinS IsPath)
open Nd (Row)
/-- one is put in the place of what has its names, or behind all -/
def putP : List Spot → Spot → List Spot
  | [], s => [s]
  | t :: r, s => if t.names = s.names then s :: r else t :: putP r s
def putA : List Ent → Ent → List Ent
  | [], s => [s]
  | t :: r, s => if t.names = s.names then s :: r else t :: putA r s
theorem putP_ent : ∀ (L : List Spot) (s : Spot), (putP L s).map Spot.ent = putA (L.map Spot.ent) s.ent
  | [], s => rfl
  | t :: r, s => by
    simp only [putP, List.map_cons, putA]
    by_cases h : t.names = s.names
    · rw [if_pos h, if_pos (by exact h)]; rfl
    · rw [if_neg h, if_neg (by exact h), List.map_cons, putP_ent r s]
theorem putP_new : ∀ (L : List Spot) (s : Spot), spotAt L s.names = none → putP L s = L ++ [s]
  | [], s, _ => rfl
  | t :: r, s, h => by
    unfold spotAt at h
    rw [List.find?_eq_none] at h
    have h1 := h t (by simp)
    simp only [decide_eq_true_eq] at h1
    simp only [putP, if_neg h1, List.cons_append]
    rw [putP_new r s (by unfold spotAt; rw [List.find?_eq_none]; exact fun x hx => h x (by simp [hx]))]
theorem putP_set : ∀ (L : List Spot) (s t : Spot) (j : Nat), (L.map (·.names)).Nodup → L[j]? = some t → t.names = s.names → putP L s = L.set j s
  | [], s, t, j, _, h, _ => by simp at h
  | a :: r, s, t, 0, _, h, hn => by
    simp only [List.getElem?_cons_zero, Option.some.injEq] at h
    subst h
    simp [putP, hn]
  | a :: r, s, t, j + 1, hd, h, hn => by
    simp only [List.getElem?_cons_succ] at h
    simp only [List.map_cons, List.nodup_cons] at hd
    have h1 : a.names ≠ s.names := fun e => hd.1 (by rw [e, ← hn]; exact List.mem_map.2 ⟨t, List.mem_of_getElem? h, rfl⟩)
    simp only [putP, if_neg h1, List.set_cons_succ]
    rw [putP_set r s t j hd.2 h hn]
theorem putP_names : ∀ (L : List Spot) (s : Spot), (putP L s).map (·.names) = if s.names ∈ L.map (·.names) then L.map (·.names) else L.map (·.names) ++ [s.names]
  | [], s => by simp [putP]
  | t :: r, s => by
    simp only [putP]
    by_cases h : t.names = s.names
    · simp [h]
    · have h2 : ¬ s.names = t.names := fun e => h e.symm
      rw [if_neg h, List.map_cons, putP_names r s]
      simp only [List.map_cons, List.mem_cons, h2, false_or]
      split <;> simp
theorem putP_mem {L : List Spot} {s t : Spot} (h : t ∈ putP L s) : t = s ∨ t ∈ L := by
  induction L with
  | nil => simp [putP] at h; exact .inl h
  | cons a r ih =>
    simp only [putP] at h
    split at h
    · rcases List.mem_cons.1 h with rfl | h
      · exact .inl rfl
      · exact .inr (by simp [h])
    · rcases List.mem_cons.1 h with rfl | h
      · exact .inr (by simp)
      · rcases ih h with h | h
        · exact .inl h
        · exact .inr (by simp [h])
theorem grown_block {w : World} {m : Nat} {es : Array MapEntry} {clock : Nat} (hb : w.heap[m]? = some (.map es clock)) (o : Obj) : w.grownBy (setBlock w m o) (some m) ∧ (setBlock w m o).heap.size = w.heap.size := ⟨⟨rfl, rfl, rfl, by simp [setBlock], fun i _ hi => heap_setBlock_other hb _ (fun e => hi (by rw [e]))⟩, by simp [setBlock]⟩
theorem nm_map {w w' : World} {m : Nat} {es : Array MapEntry} {clock : Nat} (hb : w.heap[m]? = some (.map es clock)) (hg : w.grownBy w' (some m)) {v : Value} {xs : List Str} (h : Rf.Nm w v xs) : Rf.Nm w' v xs :=
  nm_kept h fun b cs fr e => by
    rw [hg.block b (Array.getElem?_eq_some_iff.1 e).1 (fun e2 => by
      obtain rfl := Option.some.inj e2
      rw [hb] at e
      cases e)]
    exact e
theorem MapP.put {w : World} {m : Nat} {L : List Spot} (h : MapP w m L) (s : Spot) (hp : s.path = B (showS s.names)) (hx : Gp s.names) (hv : Rf.Nm w s.v s.names) :
    ∃ w', (Instr.mapUpdate 58 (.map (some m)) (.string s.path) s.val).run Tryz.prog w = .ok () w' ∧ MapP w' m (putP L s) ∧ w.grownBy w' (some m) ∧ w'.heap.size = w.heap.size := by
  obtain ⟨es, clock, hb, he, hst, hnd⟩ := h.ex
  have ht : Tryz.prog.underlying 58 = some (.map 9 63) := Tryz.underlying58
  have hgr := fun o => grown_block hb o
  have hN : ((putP L s).map (·.names)).Nodup := by
    rw [putP_names]
    split
    · exact h.one
    · rename_i hn
      rw [List.nodup_append]
      refine ⟨h.one, by simp, fun a ha b hb2 => ?_⟩
      simp only [List.mem_singleton] at hb2
      rintro rfl
      exact hn (hb2 ▸ ha)
  have hG : ∀ t ∈ putP L s, t.path = B (showS t.names) ∧ Gp t.names := fun t ht2 => by
    rcases putP_mem ht2 with rfl | ht2
    · exact ⟨hp, hx⟩
    · exact h.good t ht2
  have hV : ∀ w', w.grownBy w' (some m) → ∀ t ∈ putP L s, Rf.Nm w' t.v t.names := fun w' hg t ht2 => by
    rcases putP_mem ht2 with rfl | ht2
    · exact nm_map hb hg hv
    · exact nm_map hb hg (h.nms t ht2)
  have hfind := h.find he s.names hx
  rw [← hp] at hfind
  rcases hfind with ⟨h1, h2⟩ | ⟨j, t, e0, h1, h2, h3, h4, h5, _, h6⟩
  · refine ⟨setBlock w m (.map (es.push ⟨.string s.path, s.val, clock⟩) (clock + 1)), ?_, ⟨⟨_, _, heap_setBlock_same hb _, ?_, ?_, ?_⟩, hG, hV _ (hgr _).1, hN⟩, hgr _⟩
    · simp [Instr.mapUpdate, run_underlying ht, MapKept.run_getObj_map hb, keyText.check _ s.path trivial, h1, MapKept.run_setObj_map _ hb, Result.andThen, setBlock]
    · rw [Array.toList_push, List.map_append, he, putP_new L s h2]; simp
    · intro e hm
      rw [Array.toList_push] at hm
      rcases List.mem_append.1 hm with hm | hm
      · exact Nat.lt_succ_of_lt (hst e hm)
      · obtain rfl := List.mem_singleton.1 hm
        exact Nat.lt_succ_self _
    · rw [Array.toList_push, List.map_append, List.nodup_append]
      refine ⟨hnd, by simp, fun a ha b hb2 => ?_⟩
      simp only [List.map_cons, List.map_nil, List.mem_singleton] at hb2
      obtain ⟨e, hm, rfl⟩ := List.mem_map.1 ha
      have := hst e hm
      omega
  · have hj : es[j]? = some e0 := by simpa using h2
    have hjs : j < es.size := (Array.getElem?_eq_some_iff.1 hj).1
    have hset : es.modify j (fun e => { e with key := .string s.path, val := s.val }) = es.set j { e0 with key := .string s.path, val := s.val } hjs := by
      apply Array.ext
      · simp
      · intro i h1 h2
        obtain ⟨_, rfl⟩ := Array.getElem?_eq_some_iff.1 hj
        rw [Array.getElem_modify, Array.getElem_set]
        by_cases hc : j = i
        · subst hc; simp
        · simp [hc]
    have hborn : (es.toList.set j { e0 with key := Value.string s.path, val := s.val }).map (·.born) = es.toList.map (·.born) := by
      rw [List.map_set]
      refine List.ext_getElem? fun i => ?_
      rw [List.getElem?_set]
      split
      · rename_i hji
        subst hji
        rw [List.getElem?_map, h2]
        simp [hjs]
      · rfl
    refine ⟨setBlock w m (.map (es.modify j (fun e => { e with key := .string s.path, val := s.val })) clock), ?_, ⟨⟨_, _, heap_setBlock_same hb _, ?_, ?_, ?_⟩, hG, hV _ (hgr _).1, hN⟩, hgr _⟩
    · simp [Instr.mapUpdate, run_underlying ht, MapKept.run_getObj_map hb, keyText.check _ s.path trivial, h1, hj, h3, keyText.stays s.path trivial, MapKept.run_setObj_map _ hb, Result.andThen, setBlock]
    · rw [hset, Array.toList_set, List.map_set, he, putP_set L s t j h.one h5 h6, List.map_set]
    · intro e hm
      rw [hset, Array.toList_set] at hm
      have : e.born ∈ es.toList.map (·.born) := by rw [← hborn]; exact List.mem_map.2 ⟨e, hm, rfl⟩
      obtain ⟨e2, hm2, h7⟩ := List.mem_map.1 this
      have := hst e2 hm2
      omega
    · rw [hset, Array.toList_set, hborn]; exact hnd
/-- all but one -/
def cutP (L : List Spot) (xs : List Str) : List Spot := L.filter (fun s => decide (s.names ≠ xs))
def cutA (A : List Ent) (xs : List Str) : List Ent := A.filter (fun s => decide (s.names ≠ xs))
theorem cutP_ent (L : List Spot) (xs : List Str) : (cutP L xs).map Spot.ent = cutA (L.map Spot.ent) xs := by
  unfold cutP cutA
  rw [List.filter_map]
  rfl
theorem cutP_erase : ∀ (L : List Spot) (t : Spot) (j : Nat), (L.map (·.names)).Nodup → L[j]? = some t → cutP L t.names = L.eraseIdx j
  | [], t, j, _, h => by simp at h
  | a :: r, t, 0, hd, h => by
    simp only [List.getElem?_cons_zero, Option.some.injEq] at h
    subst h
    simp only [List.map_cons, List.nodup_cons] at hd
    simp only [cutP, List.filter_cons, List.eraseIdx_cons_zero]
    rw [if_neg (by simp), List.filter_eq_self]
    intro x hx
    simp only [decide_eq_true_eq]
    exact fun e => hd.1 (by rw [← e]; exact List.mem_map.2 ⟨x, hx, rfl⟩)
  | a :: r, t, j + 1, hd, h => by
    simp only [List.getElem?_cons_succ] at h
    simp only [List.map_cons, List.nodup_cons] at hd
    have h1 : a.names ≠ t.names := fun e => hd.1 (by rw [e]; exact List.mem_map.2 ⟨t, List.mem_of_getElem? h, rfl⟩)
    have ih := cutP_erase r t j hd.2 h
    unfold cutP at ih ⊢
    rw [List.filter_cons, if_pos (by simpa using h1), List.eraseIdx_cons_succ, ih]
theorem map_erase {α β : Type} (f : α → β) : ∀ (l : List α) (j : Nat), (l.eraseIdx j).map f = (l.map f).eraseIdx j
  | [], j => by simp
  | a :: r, 0 => by simp
  | a :: r, j + 1 => by simp [map_erase f r j]
theorem MapP.cut {w : World} {m : Nat} {L : List Spot} (h : MapP w m L) (xs : List Str) (hx : Gp xs) (ty : TypeId) :
    ∃ w', (Builtin.delete_ #[58, 9] ty #[.map (some m), .string (B (showS xs))]).run Tryz.prog w = .ok (.tuple #[]) w' ∧ MapP w' m (cutP L xs) ∧ w.grownBy w' (some m) ∧ w'.heap.size = w.heap.size := by
  obtain ⟨es, clock, hb, he, hst, hnd⟩ := h.ex
  have ht : Tryz.prog.underlying 58 = some (.map 9 63) := Tryz.underlying58
  have hgr := fun o => grown_block hb o
  have hsub : (cutP L xs).Sublist L := List.filter_sublist
  have hN : ((cutP L xs).map (·.names)).Nodup := List.Sublist.nodup (hsub.map _) h.one
  rcases h.find he xs hx with ⟨h1, h2⟩ | ⟨j, t, e0, h1, h2, h3, h4, h5, _, h6⟩
  · have hc : cutP L xs = L := by
      unfold cutP
      rw [List.filter_eq_self]
      intro s hs
      unfold spotAt at h2
      have := List.find?_eq_none.1 h2 s hs
      simpa using this
    rw [hc]
    refine ⟨setBlock w m (.map es clock), ?_, ⟨⟨es, clock, heap_setBlock_same hb _, he, hst, hnd⟩, h.good, fun s hs => nm_map hb (hgr _).1 (h.nms s hs), h.one⟩, hgr _⟩
    simp [Builtin.delete_, run_underlying ht, MapKept.run_getObj_map hb, keyText.check _ (B (showS xs)) trivial, h1, MapKept.run_setObj_map _ hb, Result.andThen, setBlock]
  · have hj : es[j]? = some e0 := by simpa using h2
    have hjs : j < es.size := (Array.getElem?_eq_some_iff.1 hj).1
    have hsb : (es.eraseIdxIfInBounds j).toList = es.toList.eraseIdx j := by
      unfold Array.eraseIdxIfInBounds
      rw [dif_pos hjs]
      simp
    have hsl : (es.toList.eraseIdx j).Sublist es.toList := List.eraseIdx_sublist _ _
    refine ⟨setBlock w m (.map (es.eraseIdxIfInBounds j) clock), ?_, ⟨⟨_, _, heap_setBlock_same hb _, ?_, ?_, ?_⟩, fun s hs => h.good s (hsub.subset hs), fun s hs => nm_map hb (hgr _).1 (h.nms s (hsub.subset hs)), hN⟩, hgr _⟩
    · simp [Builtin.delete_, run_underlying ht, MapKept.run_getObj_map hb, keyText.check _ (B (showS xs)) trivial, h1, MapKept.run_setObj_map _ hb, Result.andThen, setBlock]
    · rw [hsb, ← h6, cutP_erase L t j h.one h5, map_erase, map_erase, he]
    · intro e hm
      rw [hsb] at hm
      exact hst e (hsl.subset hm)
    · rw [hsb]
      exact List.Sublist.nodup (hsl.map _) hnd
end Go.Proofs.YtngehkmdanhgpaaGreat.Pl
