/-
  What a hash has taken: its cells, and what they mean.
-/
import Derived.Test.YtokjbmpiekadaaaDoorW5
namespace Go.Proofs.YtokjbmpiekadaaaDoor
open Go.RowKit

theorem hc_length (s : Sha.St) (bl : List Nat) (T : Nat) (hl : bl.length = 64) : (hcells s bl T).length = 73 := by simp [hcells, Sha.St.list, hl]
theorem hc_total (s : Sha.St) (bl : List Nat) (T : Nat) (hl : bl.length = 64) : (hcells s bl T)[72]? = some (.int .i64 (T : Int)) := by
  unfold hcells
  rw [List.getElem?_append_right (by simp [Sha.St.list]), List.getElem?_append_right (by simp [Sha.St.list, hl])]
  simp [Sha.St.list, hl]
theorem hc_set_total (s : Sha.St) (bl : List Nat) (T T' : Nat) (hl : bl.length = 64) : (hcells s bl T).set 72 (.int .i64 (T' : Int)) = hcells s bl T' := by
  unfold hcells
  rw [List.set_append_right _ _ (by simp [Sha.St.list]), List.set_append_right _ _ (by simp [Sha.St.list, hl])]
  simp [Sha.St.list, hl]
theorem hc_set_state (s r : Sha.St) (bl : List Nat) (T : Nat) : ((((((((hcells s bl T).set 0 (u32v r.a)).set 1 (u32v r.b)).set 2 (u32v r.c)).set 3 (u32v r.d)).set 4 (u32v r.e)).set 5 (u32v r.f)).set 6 (u32v r.g)).set 7 (u32v r.h) = hcells r bl T := rfl
theorem hc_range {w : World} {g : Nat} {s : Sha.St} {bl : List Nat} {T : Nat} {t : TypeId} (h : Row w g (hcells s bl T) t) : w.rangeAt g 8 (bl.map u8v) := by
  intro j v hv
  have hj : j < bl.length := by simpa using (List.getElem?_eq_some_iff.1 hv).1
  rw [h.cell]
  unfold hcells
  rw [List.getElem?_append_right (by simp [Sha.St.list]), show 8 + j - (List.map u32v s.list).length = j by simp [Sha.St.list], List.getElem?_append_left (by simpa using hj)]
  exact hv
theorem hc_splice (s : Sha.St) (bl : List Nat) (T f : Nat) (cs : List Nat) (hl : bl.length = 64) (hf : f + cs.length ≤ 64) : splice (hcells s bl T) (8 + f) (cs.map u8v) = hcells s (splice bl f cs) T := by
  unfold splice hcells
  have e1 : (List.map u32v s.list).length = 8 := by simp [Sha.St.list]
  rw [List.take_append, List.drop_append, List.take_append, List.drop_append]
  simp only [e1, List.length_map, List.map_append, List.map_take, List.map_drop, hl]
  rw [List.take_of_length_le (by rw [e1]; omega), show 8 + f - 8 = f by omega, show 8 + f + cs.length - 8 = f + cs.length by omega,
    show List.drop (8 + f + cs.length) (List.map u32v s.list) = [] from List.drop_eq_nil_of_le (by rw [e1]; omega), show f - 64 = 0 by omega, show f + cs.length - 64 = 0 by omega]
  simp

/-- the hash at block g has taken the bytes m; its count says T -/
def FedT (w : World) (g : Nat) (m : List Nat) (T : Nat) : Prop :=
  ∃ s bl, Row w g (hcells s bl T) 105 ∧ s = Sha.run m (m.length / 64) ∧ bl.length = 64 ∧ (∀ x ∈ bl, x < 256) ∧ bl.take (m.length % 64) = m.drop (64 * (m.length / 64)) ∧ Ok s
def Fed (w : World) (g : Nat) (m : List Nat) : Prop := FedT w g m m.length

theorem H0_ok : Ok Sha.H0 := by refine ⟨?_, ?_, ?_, ?_, ?_, ?_, ?_, ?_⟩ <;> decide
theorem fed_new {w : World} {g : Nat} (h : Row w g (hcells Sha.H0 (List.replicate 64 0) 0) 105) : Fed w g [] :=
  ⟨Sha.H0, List.replicate 64 0, h, rfl, rfl, by intro x hx; simp only [List.mem_replicate] at hx; omega, rfl, H0_ok⟩
theorem run_append (m x : List Nat) : ∀ q, 64 * q ≤ m.length → Sha.run (m ++ x) q = Sha.run m q
  | 0, _ => rfl
  | q + 1, h => by
    simp only [Sha.run]
    rw [run_append m x q (by omega), List.drop_append_of_le_length (by omega), List.take_append_of_le_length (by rw [List.length_drop]; omega)]
theorem run_ok (m : List Nat) : ∀ q, Ok (Sha.run m q)
  | 0 => H0_ok
  | _ + 1 => plus_ok _ _
theorem splice_bytes {bl cs : List Nat} {f : Nat} (h1 : ∀ x ∈ bl, x < 256) (h2 : ∀ x ∈ cs, x < 256) : ∀ x ∈ splice bl f cs, x < 256 := by
  intro x hx
  unfold splice at hx
  simp only [List.mem_append] at hx
  rcases hx with hx | hx | hx
  · exact h1 x (List.mem_of_mem_take hx)
  · exact h2 x hx
  · exact h1 x (List.mem_of_mem_drop hx)
/-- some bytes more that do not fill the block -/
theorem feed_part (m bl cs : List Nat) (hl : bl.length = 64) (hb : bl.take (m.length % 64) = m.drop (64 * (m.length / 64))) (hn : m.length % 64 + cs.length < 64) :
    Sha.run (m ++ cs) ((m ++ cs).length / 64) = Sha.run m (m.length / 64) ∧ (splice bl (m.length % 64) cs).take ((m ++ cs).length % 64) = (m ++ cs).drop (64 * ((m ++ cs).length / 64)) := by
  have e1 : (m ++ cs).length / 64 = m.length / 64 := by simp only [List.length_append]; omega
  have e2 : (m ++ cs).length % 64 = m.length % 64 + cs.length := by simp only [List.length_append]; omega
  rw [e1, e2]
  refine ⟨run_append m cs _ (by omega), ?_⟩
  rw [List.drop_append_of_le_length (by omega), ← hb]
  unfold splice
  have e3 : (bl.take (m.length % 64)).length = m.length % 64 := by simp; omega
  rw [List.take_append, e3, List.take_of_length_le (by omega), show m.length % 64 + cs.length - m.length % 64 = cs.length by omega, List.take_append_of_le_length (Nat.le_refl _), List.take_of_length_le (Nat.le_refl _)]
/-- bytes that fill the block -/
theorem feed_full (m bl cs : List Nat) (hl : bl.length = 64) (hb : bl.take (m.length % 64) = m.drop (64 * (m.length / 64))) (hn : m.length % 64 + cs.length = 64) :
    Sha.run (m ++ cs) ((m ++ cs).length / 64) = Sha.comp (Sha.run m (m.length / 64)) (splice bl (m.length % 64) cs) ∧ (m ++ cs).length % 64 = 0 ∧ (m ++ cs).drop (64 * ((m ++ cs).length / 64)) = [] := by
  have e1 : (m ++ cs).length / 64 = m.length / 64 + 1 := by simp only [List.length_append]; omega
  have e2 : (m ++ cs).length % 64 = 0 := by simp only [List.length_append]; omega
  refine ⟨?_, e2, List.drop_eq_nil_of_le (by rw [e1]; simp only [List.length_append]; omega)⟩
  rw [e1]
  simp only [Sha.run]
  rw [run_append m cs _ (by omega), List.drop_append_of_le_length (by omega), ← hb]
  congr 1
  unfold splice
  have e3 : (bl.take (m.length % 64)).length = m.length % 64 := by simp; omega
  rw [List.drop_eq_nil_of_le (by omega), List.append_nil, List.take_of_length_le (by simp only [List.length_append, e3]; omega)]

theorem wpList_copy_Row {P : Program} {w : World} {ops : Array Oper} {rest : List Oper} {o : Oper} {a : Act} {Q : Exit → Act → World → Prop} (hgd : o.guard = none) (d s : Operand) (dT sT : TypeId)
    (ho : o.op = .call { callee := .builtin .copy, args := #[d, s], argTypes := #[dT, sT] }) (elem : TypeId) (hu : P.underlying dT = some (.slice elem)) (hsz : (P.info? elem).map (·.size) = some 1)
    (g off dLen dCap : Nat) (b o2 sLen sCap : Nat) (hd : a.eval d = .slice (some ⟨g, off, none⟩) dLen dCap) (hs : a.eval s = .slice (some ⟨b, o2, none⟩) sLen sCap)
    (cur : List Value) (t : TypeId) (hg : Row w g cur t) (cs : List Value) (n : Nat) (hn : cs.length = n) (hmin : n = Nat.min sLen dLen)
    (hsrc : ∀ j v, cs[j]? = some v → w.cell? ⟨b, o2 + j, none⟩ = some v) (hfit : off + n ≤ cur.length) (h1 : ∀ v ∈ cs, v.oneCell' = true)
    (h : ∀ w', Row w' g (splice cur off cs) t → w.grownBy w' (some g) → w'.heap.size = w.heap.size → wpList P ops Q rest (a.put o.dst (.int .i64 (n : Int))) w') : wpList P ops Q (o :: rest) a w := by
  refine wpList_copy_own hgd d s dT sT ho elem hu hsz g off dLen dCap ⟨b, o2, none⟩ sLen sCap hd hs cur.toArray t hg cs (by omega) (fun j v hv => by rw [Addr.add_mid]; exact hsrc j v hv) (by simpa [hn] using hfit) h1 ?_
  have hw := h (w.setRow g (splice cur off cs).toArray) (setRow_heap w g _ _ t _ hg) ⟨rfl, rfl, rfl, by simp [World.setRow], fun k _ hne => setRow_other w g k _ (fun e => hne (by rw [e]))⟩ (by simp [World.setRow])
  rw [← hn] at hw
  exact hw
end Go.Proofs.YtokjbmpiekadaaaDoor
