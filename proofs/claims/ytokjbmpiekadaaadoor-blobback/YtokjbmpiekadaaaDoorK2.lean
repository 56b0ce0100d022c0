/-
  A store of blobs as it lies in the world; small calls: Bytes, Count, find, Has.
-/
import Derived.Test.YtokjbmpiekadaaaDoorK1
import Derived.Test.YtokjbmpiekadaaaDoorW8
import Derived.Deep.Light
import Derived.Laws.BytesArg
namespace Go.Proofs.YtokjbmpiekadaaaDoor
open Go.RowKit

theorem hid_in {p : Prop} (h : p) : Hid p := h
/-- bytes as a string -/
def str (l : List Nat) : ByteArray := ⟨(l.map UInt8.ofNat).toArray⟩
theorem str_inj {a b : List Nat} (ha : ∀ x ∈ a, x < 256) (hb : ∀ x ∈ b, x < 256) (h : str a = str b) : a = b := by
  have h2 : a.map UInt8.ofNat = b.map UInt8.ofNat := by simpa [str] using h
  have h3 := congrArg (List.map UInt8.toNat) h2
  rw [List.map_map, List.map_map] at h3
  have key : ∀ l : List Nat, (∀ x ∈ l, x < 256) → l.map (UInt8.toNat ∘ UInt8.ofNat) = l := by
    intro l hl
    conv => rhs; rw [← List.map_id l]
    refine List.map_congr_left fun x hx => ?_
    have := hl x hx
    simp only [Function.comp_def, id, UInt8.toNat_ofNat']
    omega
  rw [key a ha, key b hb] at h3
  exact h3
theorem conv_sl {w : World} {p : Option Addr} {bs : List Nat} {cap b off : Nat} (h : Sl w p bs cap b off) : (convert 30 9 (.slice p bs.length cap)).run Tryd.prog w = .ok (.string (str bs)) w := by
  by_cases h0 : 0 < bs.length
  · obtain rfl := h.at_ h0
    rw [run_convert_bytes_arg w 30 5 Tryd.underlying30 Tryd.underlying5 b off bs.length cap (bs.map fun (n : Nat) => (n : Int)) (by simp) (fun i hi => by rw [h.src i hi]; simp [u8v, hi]) 9 Tryd.underlying9]
    congr 2
    simp [strOfNums, str, Function.comp_def]
  · obtain rfl : bs = [] := List.eq_nil_of_length_eq_zero (by omega)
    rcases p with _ | ⟨b', o', m'⟩
    · exact run_convert_bytes_nil w 30 5 Tryd.underlying30 Tryd.underlying5 0 cap 9 Tryd.underlying9
    · rw [run_convert_bytes_string w 30 9 5 _ _ _ Tryd.underlying30 Tryd.underlying5 Tryd.underlying9]
      rw [List.length_nil, run_bytesToString w _ 0 cap [] (by simp [loadCells, loadCellsFrom, Sem.run_pure])]
      rfl

/-- of what was there nothing has turned but blocks g and m -/
structure Kp (g m : Nat) (w w' : World) : Prop where
  os : w'.os = w.os
  tape : w'.tape = w.tape
  output : w'.output = w.output
  size : w.heap.size ≤ w'.heap.size
  block : ∀ k, k < w.heap.size → k ≠ g → k ≠ m → w'.heap[k]? = w.heap[k]?
theorem Kp.refl (g m : Nat) (w : World) : Kp g m w w := ⟨rfl, rfl, rfl, Nat.le_refl _, fun _ _ _ _ => rfl⟩
theorem Kp.trans {g m : Nat} {a b c : World} (h : Kp g m a b) (k : Kp g m b c) : Kp g m a c :=
  ⟨k.os.trans h.os, k.tape.trans h.tape, k.output.trans h.output, Nat.le_trans h.size k.size, fun i hi h1 h2 => (k.block i (Nat.lt_of_lt_of_le hi h.size) h1 h2).trans (h.block i hi h1 h2)⟩
theorem Kp.of_below {g m : Nat} {w w' : World} (h : Below w.heap.size w w') : Kp g m w w' := ⟨h.os, h.tape, h.output, h.size, fun k hk _ _ => h.block k hk⟩
theorem Kp.of_g {g m : Nat} {w w' : World} (h : w.grownBy w' (some g)) : Kp g m w w' := ⟨h.os, h.tape, h.output, h.size, fun k hk h1 _ => h.block k hk (fun e => h1 (Option.some.inj e))⟩
theorem Kp.of_m {g m : Nat} {w w' : World} (h : w.grownBy w' (some m)) : Kp g m w w' := ⟨h.os, h.tape, h.output, h.size, fun k hk _ h1 => h.block k hk (fun e => h1 (Option.some.inj e))⟩
theorem Kp.below {g m B : Nat} {w w' : World} (h : Kp g m w w') (hB : B ≤ w.heap.size) (hg : B ≤ g) (hm : B ≤ m) : Below B w w' := ⟨h.os, h.tape, h.output, h.size, fun k hk => h.block k (by omega) (by omega) (by omega)⟩
theorem Kp.cell {g m : Nat} {w w' : World} (h : Kp g m w w') {a : Addr} {v : Value} (hc : w.cell? a = some v) (h1 : a.block ≠ g) (h2 : a.block ≠ m) : w'.cell? a = some v :=
  (World.cell?_of_block (h.block a.block (World.block_lt_of_cell? w a hc) h1 h2)).trans hc
theorem Kp.row {g m b : Nat} {w w' : World} {vs : List Value} {t : TypeId} (h : Kp g m w w') (hr : Row w b vs t) (h1 : b ≠ g) (h2 : b ≠ m) : Row w' b vs t := hr.of_block (h.block b hr.lt h1 h2)

theorem Sl.kp {g m : Nat} {w w' : World} {p : Option Addr} {bs : List Nat} {cap b off : Nat} (h : Sl w p bs cap b off) (k : Kp g m w w') (hb : 0 < bs.length → b ≠ g ∧ b ≠ m) : Sl w' p bs cap b off :=
  ⟨h.lt, h.cap1, h.cap2, h.at_, fun j hj => k.cell (h.src j hj) (hb (by omega)).1 (hb (by omega)).2⟩
/-- block b is a row of bytes -/
def T5 (w : World) (b : Nat) : Prop := ∃ cs fr, w.heap[b]? = some (.cells cs 5 fr)
theorem T5.of_block {w w' : World} {b : Nat} (h : T5 w b) (k : w'.heap[b]? = w.heap[b]?) : T5 w' b := by
  obtain ⟨cs, fr, h⟩ := h
  exact ⟨cs, fr, by rw [k, h]⟩
/-- a value that reads as bytes that lie neither in g nor in m, in a row of bytes -/
def Bs (w : World) (g m : Nat) (v : Value) (bs : List Nat) : Prop := ∃ p cap b off, v = .slice p bs.length cap ∧ Sl w p bs cap b off ∧ (p = none → bs.length = 0 ∧ cap = 0) ∧ (0 < bs.length → b ≠ g ∧ b ≠ m ∧ T5 w b)
theorem Bs.kp {g m : Nat} {w w' : World} {v : Value} {bs : List Nat} (h : Bs w g m v bs) (k : Kp g m w w') : Bs w' g m v bs := by
  obtain ⟨p, cap, b, off, h1, h2, h3, h4⟩ := h
  refine ⟨p, cap, b, off, h1, h2.kp k (fun h => ⟨(h4 h).1, (h4 h).2.1⟩), h3, fun h => ⟨(h4 h).1, (h4 h).2.1, (h4 h).2.2.of_block (k.block b ?_ (h4 h).1 (h4 h).2.1)⟩⟩
  have := World.block_lt_of_cell? w _ (h2.src 0 h)
  simpa using this

/-- a store: its own block, its map, its blobs by their digests, how many, its quota, its bytes -/
structure St (w : World) (g m : Nat) (M : List Nat → Option (List Nat)) (n : Nat) (q u : Int) : Prop where
  row : Row w g [.map (some m), .int .i64 q, .int .i64 u] 59
  map : ∃ V, MapOk w m V n ∧ (∀ d bs, M d = some bs → ∃ v, V d = some v ∧ Bs w g m v bs) ∧ (∀ d, M d = none → V d = none)
theorem St.ne {w : World} {g m n : Nat} {M : List Nat → Option (List Nat)} {q u : Int} (h : St w g m M n q u) : g ≠ m := by
  intro e
  obtain ⟨V, ⟨es, c, hb, _⟩, _⟩ := h.map
  have := h.row
  unfold Row at this
  rw [e, hb] at this
  cases this
theorem St.below {w w' : World} {g m n : Nat} {M : List Nat → Option (List Nat)} {q u : Int} (h : St w g m M n q u) (k : Below w.heap.size w w') : St w' g m M n q u := by
  refine ⟨h.row.below k h.row.lt, ?_⟩
  obtain ⟨V, hV, h1, h2⟩ := h.map
  refine ⟨V, hV.of_block (k.block m hV.lt), fun d bs hd => ?_, h2⟩
  obtain ⟨v, hv, hb⟩ := h1 d bs hd
  exact ⟨v, hv, hb.kp (Kp.of_below k)⟩
/-- another block is written: one of digests -/
theorem St.grown39 {w w' : World} {g m n : Nat} {M : List Nat → Option (List Nat)} {q u : Int} (h : St w g m M n q u) {k : Nat} {Z : List Value} (hk : Row w k Z 39) (hg : w.grownBy w' (some k)) : St w' g m M n q u := by
  have hgk : g ≠ k := by
    rintro rfl
    have h1 := h.row
    unfold Row at h1 hk
    rw [hk] at h1
    simp at h1
  obtain ⟨V, hV, h1, h2⟩ := h.map
  have hmk : m ≠ k := by
    rintro rfl
    obtain ⟨es, c, hb, _⟩ := hV
    unfold Row at hk
    rw [hk] at hb
    cases hb
  refine ⟨h.row.grown hg (fun e => hgk (Option.some.inj e)), V, hV.of_block (hg.block m hV.lt (fun e => hmk (Option.some.inj e))), fun d bs hd => ?_, h2⟩
  obtain ⟨v, hv, p, cap, b, off, e1, e2, e3, e4⟩ := h1 d bs hd
  have hbk : 0 < bs.length → some b ≠ some k := by
    rintro h0 hbk
    obtain rfl := Option.some.inj hbk
    obtain ⟨_, _, cs, fr, h5⟩ := e4 h0
    unfold Row at hk
    rw [hk] at h5
    simp at h5
  refine ⟨v, hv, p, cap, b, off, e1, ⟨e2.lt, e2.cap1, e2.cap2, e2.at_, fun j hj => hg.cell (e2.src j hj) (hbk (by omega))⟩, e3, fun h0 => ⟨(e4 h0).1, (e4 h0).2.1, (e4 h0).2.2.of_block (hg.block b ?_ (hbk h0))⟩⟩
  have := World.block_lt_of_cell? w _ (e2.src 0 h0)
  simpa using this
theorem St.glt {w : World} {g m n : Nat} {M : List Nat → Option (List Nat)} {q u : Int} (h : St w g m M n q u) : g < w.heap.size := h.row.lt
theorem St.mlt {w : World} {g m n : Nat} {M : List Nat → Option (List Nat)} {q u : Int} (h : St w g m M n q u) : m < w.heap.size := by
  obtain ⟨V, hV, _⟩ := h.map; exact hV.lt

theorem bytes_any {w : World} {g m n : Nat} {M : List Nat → Option (List Nat)} {q u : Int} (h : St w g m M n q u) : Calls Tryd.prog 23 #[.pointer (some ⟨g, 0, none⟩)] w fun e w' => e = .returned (.int .i64 u) ∧ w' = w := by
  have c2 : w.cell? ⟨g, 2, none⟩ = some (.int .i64 u) := h.row.cell 2
  clear h
  go_enter Tryd.func23, Tryd.ntmps23
  go_wp2
  go_ret
  exact ⟨rfl, rfl⟩
theorem count_any {w : World} {g m n : Nat} {M : List Nat → Option (List Nat)} {q u : Int} (h : St w g m M n q u) : Calls Tryd.prog 20 #[.pointer (some ⟨g, 0, none⟩)] w fun e w' => e = .returned (.int .i64 (n : Int)) ∧ w' = w := by
  have c0 : w.cell? ⟨g, 0, none⟩ = some (.map (some m)) := h.row.cell 0
  obtain ⟨V, hV, h1, h2⟩ := h.map
  have hl := fun ty => hV.len 57 30 Tryd.underlying57 ty
  clear h hV h1 h2
  go_enter Tryd.func20, Tryd.ntmps20
  go_wp2
  go_ret
  exact ⟨rfl, rfl⟩
end Go.Proofs.YtokjbmpiekadaaaDoor
