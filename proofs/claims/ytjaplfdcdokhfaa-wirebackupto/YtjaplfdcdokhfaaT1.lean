/-
  The walk of wire.Scan.
-/
import Derived.Test.YtjaplfdcdokhfaaS7
import Derived.Test.YtjaplfdcdokhfaaT0
namespace Go.Proofs.Ytjaplfdcdokhfaa
open Go.RowKit

theorem i25 : (Try.prog.info? 25).map (fun i => (i.size, i.bytes, i.zero)) = some (1, 24, some (.slice none 0 0)) := by kernel_rfl
theorem i25h : ∃ i, Hid (Try.prog.info? 25 = some i) ∧ Hid (i.size = 1) ∧ Hid (i.bytes = 24) ∧ Hid (i.zero = some (.slice none 0 0)) := by
  obtain ⟨i, hi, he⟩ := Option.map_eq_some_iff.1 i25
  simp only [Prod.mk.injEq] at he
  obtain ⟨e1, e2, e3⟩ := he
  exact ⟨i, hi, e1, e2, e3⟩
theorem next_err' (b : List Nat) (h : (Wire.next b).2.2 ≠ 0) : (Wire.next b).2.1 = 0 ∧ (Wire.next b).1 = [] := by
  unfold Wire.next at *
  split
  · exact ⟨rfl, rfl⟩
  · split
    · exact ⟨rfl, rfl⟩
    · split
      · exact ⟨rfl, rfl⟩
      · split
        · exact ⟨rfl, rfl⟩
        · simp_all
/-- append of one value of whatever size in bytes, that was just laid into a block of its own; where the row then lies -/
theorem wpList_append_one_by {P : Program} {w : World} {ops : Array Oper} {rest : List Oper} {o : Oper} {a : Act} {Q : Exit → Act → World → Prop} (hgd : o.guard = none) (s x : Operand) (t : TypeId)
    (ho : o.op = .call { callee := .builtin .append, args := #[s, x], argTypes := #[t, t] })
    (base : Nat) (e : TypeId) (i : TypeInfo) (z : Value) (bytes : Nat) (ht : P.underlying t = some (.slice e)) (hi : P.info? e = some i) (hz : i.zero = some z)
    (hsize : i.size = 1) (hby : i.bytes = bytes) (hzs : z.cells.size = 1)
    (v : Value) (n : Nat) (xs : List Value) (hs : a.eval s = v) (hown : w.ownsRow base e 1 v n xs) (e' : TypeId) (u : Value) (hu : u.oneCell' = true)
    (hx : a.eval x = .slice (some ⟨w.heap.size, 0, none⟩) 1 1) (hmax : n + 1 ≤ 9223372036854775807) (hbytes : (n + 1) * bytes ≤ 140737488355328) (hbase : base ≤ w.heap.size)
    (h : ∀ v' w', w'.ownsRow base e 1 v' (n + 1) (xs ++ [u]) → Grew w w' (fun k => some k = v.ownBlock) → (v'.ownBlock = v.ownBlock ∨ ∃ q, v'.ownBlock = some q ∧ w.heap.size ≤ q) → wpList P ops Q rest (a.put o.dst v') w') : wpList P ops Q (o :: rest) a (w.alloc (.cells #[u] e')) := by
  have hs1 : base ≤ (w.alloc (.cells #[u] e')).heap.size := by rw [World.size_alloc]; omega
  refine wpList_append_own_at _ hgd s x t ho base e i z 1 bytes ht hi hz hsize hby hzs (by decide) v n xs hs (hown.alloc _) ⟨w.heap.size, 0, none⟩ 1 1 [u] hx rfl ?_ (fun v hv => by simp at hv; subst hv; exact hu) (by unfold maxLen; omega) hbytes hs1 ?_
  · intro j u' hj
    have h0 : j = 0 := by have := (List.getElem?_eq_some_iff.1 hj).1; simp at this; omega
    subst h0
    rw [Addr.add_mid, (Row.newAt w w.heap.size [u] e' rfl).cell]
    exact hj
  · intro v' w' h2 h3 _ h5
    refine h v' w' h2 ?_ ?_
    · exact (Grew.of_below _ ((Below.refl w.heap.size w).alloc (Nat.le_refl _) _)).trans (Grew.of_grown h3) (fun q _ hq => hq)
    · rcases h5 with h5 | h5
      · exact .inl h5
      · exact .inr ⟨_, h5, by rw [World.size_alloc]; omega⟩
theorem own_sl2 {w : World} {B : Nat} {v : Value} {xs : List Nat} (hlt : ∀ x ∈ xs, x < 256) (h : w.ownsRow B 5 1 v xs.length (xs.map u8v)) : ∃ p cap b, v = .slice p xs.length cap ∧ Sl w p xs cap b 0 ∧ (p = none → xs.length = 0 ∧ cap = 0) ∧ (0 < xs.length → B ≤ b) := by
  by_cases h0 : 0 < xs.length
  · obtain ⟨g, cap, vs, hv, hb, hglt, hr, h1, h2, h3, h4⟩ := own_row h h0
    exact ⟨_, cap, g, hv, row_sl hr h4 (Nat.le_refl _) hlt h1 h2, fun h => (by cases h), fun _ => hb⟩
  · obtain ⟨p, cap, b, h1, h2, h3⟩ := own_sl hlt h
    exact ⟨p, cap, b, h1, h2, h3, fun h => absurd h h0⟩
theorem Sl.grew {w w' : World} {p : Option Addr} {bs : List Nat} {cap b off : Nat} {S : Nat → Prop} (h : Sl w p bs cap b off) (hg : Grew w w' S) (hn : 0 < bs.length → ¬ S b) : Sl w' p bs cap b off :=
  ⟨h.lt, h.cap1, h.cap2, h.at_, fun j hj => by
    have hc := h.src j hj
    have hlt := World.block_lt_of_cell? w _ hc
    have hb := hg.block b hlt (hn (by omega))
    have : w'.cell? ⟨b, off + j, none⟩ = w.cell? ⟨b, off + j, none⟩ := by
      simp only [World.cell?, hb]
    rw [this]; exact hc⟩
theorem slice_from (p : Option Addr) (b o L C n : Nat) (h1 : n ≤ L) (h2 : L ≤ C) (hp : 0 < L → p = some ⟨b, o, none⟩) : ∃ q, (n < L → q = some ⟨b, o + n, none⟩) ∧ ∀ w, (Instr.slice 25 (.slice p L C) (some (.int .i64 (n : Int))) none none).run Try.prog w = .ok (.slice q (L - n) (C - n)) w := by
  have ht : Try.prog.underlying 25 = some (.slice (Try.prog.elem 25)) := by kernel_rfl
  have he : Try.prog.elem 25 = 5 := by kernel_rfl
  by_cases h0 : 0 < L
  · obtain rfl := hp h0
    refine ⟨some (if C = n then ⟨b, o, none⟩ else ⟨b, o + n, none⟩), fun h => by rw [if_neg (by omega)], fun w => ?_⟩
    have hsz : (sizeOf 5).run Try.prog w = .ok 1 w := by kernel_rfl
    rw [run_slice_l w 25 (some ⟨b, o, none⟩) L C ht .i64 (n : Int) (by omega) (by omega), he, hsz]
    simp [sliced, Addr.add_mid]
    split <;> rfl
  · obtain rfl : L = 0 := by omega
    obtain rfl : n = 0 := by omega
    cases p with
    | none =>
      refine ⟨none, fun h => by omega, fun w => ?_⟩
      have hsz : (sizeOf 5).run Try.prog w = .ok 1 w := by kernel_rfl
      rw [run_slice_l w 25 none 0 C ht .i64 ((0 : Nat) : Int) (by omega) (by omega), he, hsz]
      simp [sliced]
    | some a =>
      refine ⟨some (if C = 0 then a else a.add 0), fun h => by omega, fun w => ?_⟩
      have hsz : (sizeOf 5).run Try.prog w = .ok 1 w := by kernel_rfl
      rw [run_slice_l w 25 (some a) 0 C ht .i64 ((0 : Nat) : Int) (by omega) (by omega), he, hsz]
      simp [sliced]
      split <;> rfl
/-- a part of a slice of bytes from a place on -/
theorem Sl.rest {w : World} {p q : Option Addr} {bs : List Nat} {cap b off : Nat} (h : Sl w p bs cap b off) (n : Nat) (hn : n ≤ bs.length) (hq : n < bs.length → q = some ⟨b, off + n, none⟩) : Sl w q (bs.drop n) (cap - n) b (off + n) :=
  ⟨fun x hx => h.lt x (List.mem_of_mem_drop hx), by have := h.cap1; simp; omega, by have := h.cap2; omega, fun h0 => hq (by simp at h0; omega), fun j hj => by
    have hj' : n + j < bs.length := by simp at hj; omega
    rw [Nat.add_assoc, h.src (n + j) hj']
    simp⟩
end Go.Proofs.Ytjaplfdcdokhfaa
