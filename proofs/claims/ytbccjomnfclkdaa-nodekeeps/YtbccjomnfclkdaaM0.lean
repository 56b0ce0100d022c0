/-
  Plain facts on a right node's bytes, and what comes in with a Raw in later worlds.
-/
import Derived.Test.YtbccjomnfclkdaaN23
import Derived.Test.YtbccjomnfclkdaaN16
import Derived.Test.YtbccjomnfclkdaaN14
import Derived.Test.YtbccjomnfclkdaaN11
import Derived.Laws.BitsAllLaws
namespace Go.Proofs.Ytbccjomnfclkdaa
open Go.RowKit
theorem num_small (n : Nat) (h : n < 128) : Wire.num n = [n] := by
  unfold Wire.num
  rw [Wire.numF]
  simp [h]
theorem num_two (n : Nat) (h : n < 16384) : (Wire.num n).length ≤ 2 := by
  unfold Wire.num
  rw [Wire.numF]
  split
  · simp
  · rw [Wire.numF]
    rw [if_pos (by omega)]
    simp
theorem app_lt {a b : List Nat} (ha : ∀ x ∈ a, x < 256) (hb : ∀ x ∈ b, x < 256) : ∀ x ∈ a ++ b, x < 256 := by
  intro x hx
  rcases List.mem_append.1 hx with h | h
  · exact ha x h
  · exact hb x h
theorem kind_cases {x : It} (h : itemOk x = true) : x.kind = 2 ∨ x.kind = 3 := by
  unfold itemOk at h
  simp only [Bool.and_eq_true, Bool.or_eq_true, beq_iff_eq] at h
  exact h.1
theorem name_len {x : It} (h : itemOk x = true) : x.name.size ≤ 16 := by
  unfold itemOk at h
  simp only [Bool.and_eq_true] at h
  have h2 := h.2
  unfold isNameS at h2
  simp only [Bool.and_eq_true, decide_eq_true_eq] at h2
  rw [← bl_length]
  exact h2.1.2
theorem itemsOk_mem {l : List It} (h : itemsOk l) {x : It} (hx : x ∈ l) : itemOk x = true := by
  obtain ⟨i, hi, rfl⟩ := List.getElem_of_mem hx
  exact (h.2 i hi _ (List.getElem?_eq_getElem hi)).1
theorem flat_len {α : Type} (f : α → List Nat) (c : Nat) : ∀ (l : List α), (∀ x ∈ l, (f x).length ≤ c) → (l.flatMap f).length ≤ l.length * c
  | [], _ => by simp
  | x :: r, h => by
    have h1 := flat_len f c r (fun y hy => h y (by simp [hy]))
    have h2 := h x (by simp)
    simp only [List.flatMap_cons, List.length_append, List.length_cons, Nat.add_mul, Nat.one_mul]
    omega
theorem enc_lt {n : Nd} (hr : right n) (hok : n.ok) : ∀ x ∈ enc n, x < 256 := by
  rcases hr with ⟨hk, hd1, hd2, hs, hp, hi⟩ | ⟨hk, hd, hs0, hs1, hp, hi⟩ | ⟨hk, hd, hs, hp, hi⟩
  · rw [enc_1 hk]
    exact app_lt (num_lt 1 (by decide)) (app_lt (num_lt _ (by omega)) (bytesS_lt _))
  · rw [enc_2 hk]
    refine app_lt (app_lt (num_lt 2 (by decide)) (num_lt _ (by omega))) ?_
    intro x hx
    obtain ⟨d, hd, hx⟩ := List.mem_flatten.1 hx
    exact (hok.parts d hd).2 x hx
  · rw [enc_3 hk]
    refine app_lt (app_lt (num_lt 3 (by decide)) (num_lt _ (by have := hi.1; omega))) ?_
    intro x hx
    obtain ⟨y, hy, hx⟩ := List.mem_flatMap.1 hx
    have h1 := itemsOk_mem hi hy
    have h2 := name_len h1
    have h3 : y.kind.toNat < 18446744073709551616 := by rcases kind_cases h1 with h | h <;> rw [h] <;> decide
    exact app_lt (app_lt (app_lt (num_lt y.name.size (by omega)) (bytesS_lt y.name)) (num_lt y.kind.toNat h3)) (hok.items y hy).sum.2 x hx
theorem enc_pos {n : Nd} (hr : right n) : 0 < (enc n).length := by
  rcases hr with ⟨hk, _⟩ | ⟨hk, _⟩ | ⟨hk, _⟩
  · rw [enc_1 hk, num_small 1 (by decide)]; simp
  · rw [enc_2 hk, num_small 2 (by decide)]; simp
  · rw [enc_3 hk, num_small 3 (by decide)]; simp
theorem enc_len {n : Nd} (hr : right n) (hok : n.ok) : (enc n).length ≤ 4096 := by
  rcases hr with ⟨hk, hd1, hd2, hs, hp, hi⟩ | ⟨hk, hd, hs0, hs1, hp, hi⟩ | ⟨hk, hd, hs, hp, hi⟩
  · rw [enc_1 hk, num_small 1 (by decide), num_small _ (by omega)]
    simp only [List.length_append, List.length_cons, List.length_nil, bytesS_length]
    omega
  · rw [enc_2 hk, num_small 2 (by decide)]
    have h1 := num_two n.size.toNat (by omega)
    have h2 := flat_len (fun d : List Nat => d) 32 n.parts (fun d hd => by rw [(hok.parts d hd).1]; exact Nat.le_refl _)
    have h3 : n.parts.length ≤ 16 := by rw [hp]; unfold pieces; omega
    have h4 : n.parts.length * 32 ≤ 16 * 32 := Nat.mul_le_mul_right _ h3
    rw [List.flatMap_id'] at h2
    simp only [List.length_append, List.length_cons, List.length_nil]
    omega
  · rw [enc_3 hk, num_small 3 (by decide), num_small _ (by have := hi.1; omega)]
    have h2 := flat_len It.bytes 50 n.items (fun x hx => by
      have h1 := itemsOk_mem hi hx
      have h2 := name_len h1
      unfold It.bytes
      rw [num_small x.name.size (by omega), num_small x.kind.toNat (by rcases kind_cases h1 with h | h <;> rw [h] <;> decide)]
      simp only [List.length_append, List.length_cons, List.length_nil, bytesS_length, (hok.items x hx).sum.1]
      omega)
    have h3 := hi.1
    have h4 : n.items.length * 50 ≤ 64 * 50 := Nat.mul_le_mul_right _ h3
    simp only [List.length_append, List.length_cons, List.length_nil]
    omega
theorem Bss.below {w w' : World} {v : Value} {ps : List (List Nat)} (h : Bss w v ps) (hb : Below w.heap.size w w') : Bss w' v ps := by
  obtain ⟨p, cap, b, o, rfl, h1, h2, h3, hat⟩ := h
  refine ⟨p, cap, b, o, rfl, h1, h2, fun hne => ⟨(h3 hne).1, Nat.lt_of_lt_of_le (h3 hne).2 hb.size⟩, fun i bs hi => ?_⟩
  obtain ⟨q, c, b', o', hc, hs⟩ := hat i bs hi
  exact ⟨q, c, b', o', (hb.cell (p := ⟨b, o + i, none⟩) (World.block_lt_of_cell? w _ hc)).trans hc, hs.below hb⟩
theorem Strs.below {w w' : World} {v : Value} {ns : List ByteArray} (h : Strs w v ns) (hb : Below w.heap.size w w') : Strs w' v ns := by
  obtain ⟨p, cap, b, o, rfl, h1, h2, h3, hat⟩ := h
  exact ⟨p, cap, b, o, rfl, h1, h2, fun hne => ⟨(h3 hne).1, Nat.lt_of_lt_of_le (h3 hne).2 hb.size⟩, fun i s hi => (hb.cell (p := ⟨b, o + i, none⟩) (World.block_lt_of_cell? w _ (hat i s hi))).trans (hat i s hi)⟩
theorem Ints.below {w w' : World} {v : Value} {ks : List Int} (h : Ints w v ks) (hb : Below w.heap.size w w') : Ints w' v ks := by
  obtain ⟨p, cap, b, o, rfl, h1, h2, h3, hat⟩ := h
  exact ⟨p, cap, b, o, rfl, h1, h2, fun hne => ⟨(h3 hne).1, Nat.lt_of_lt_of_le (h3 hne).2 hb.size⟩, fun i s hi => (hb.cell (p := ⟨b, o + i, none⟩) (World.block_lt_of_cell? w _ (hat i s hi))).trans (hat i s hi)⟩
/-- a Raw in a block of its own -/
theorem raw_row (w : World) (k s : Int) (d : ByteArray) (vP vN vK vS : Value) : ∃ w2, Hid (w.alloc (.cells #[.int .i64 k, .string d, .int .i64 s, vP, vN, vK, vS] 26) = w2) ∧ Hid (Row w2 w.heap.size [.int .i64 k, .string d, .int .i64 s, vP, vN, vK, vS] 26) ∧ Hid (Below w.heap.size w w2) ∧ Hid (w2.heap.size = w.heap.size + 1) :=
  ⟨_, rfl, Row.new w [.int .i64 k, .string d, .int .i64 s, vP, vN, vK, vS] 26, (Below.refl _ _).alloc (Nat.le_refl _) _, by show _ = _; simp⟩
/-- the node that a Raw means, whatever was done before -/
def NodeC (w : World) (raw : Value) (n : Nd) : Prop := ∀ W, Below w.heap.size w W → Calls Try.prog 10 #[raw] W fun e w' => (∃ pp cp pi ci, e = .returned (.agg #[.int .i64 n.kind, .string n.data, .int .i64 n.size, .slice pp n.parts.length cp, .slice pi n.items.length ci]) ∧ IsN w' (.agg #[.int .i64 n.kind, .string n.data, .int .i64 n.size, .slice pp n.parts.length cp, .slice pi n.items.length ci]) n ∧ Fresh W.heap.size (.agg #[.int .i64 n.kind, .string n.data, .int .i64 n.size, .slice pp n.parts.length cp, .slice pi n.items.length ci])) ∧ Below W.heap.size W w'
theorem node_c {w : World} {k s : Int} {d : ByteArray} {vP vN vK vS : Value} {ps : List (List Nat)} {ns : List ByteArray} {ks : List Int} {ss : List (List Nat)} (hP : Bss w vP ps) (hN : Strs w vN ns) (hK : Ints w vK ks) (hS : Bss w vS ss) (hki : i64 k) (hsi : i64 s) (hkk : ∀ x ∈ ks, i64 x) (lP : ps.length ≤ 1048576) (lN : ns.length ≤ 1048576) :
    NodeC w (.agg #[.int .i64 k, .string d, .int .i64 s, vP, vN, vK, vS]) (toNode k d s ps ns ks ss) := by
  intro W hW
  refine (node_any W k s d vP vN vK vS ps ns ks ss (hP.below hW) (hN.below hW) (hK.below hW) (hS.below hW) hki hsi hkk lP lN).mono ?_
  rintro e w' ⟨v, rfl, hn, hf, hb⟩
  obtain ⟨pp, cp, pi, ci, rfl⟩ := hn.form
  exact ⟨⟨pp, cp, pi, ci, rfl, hn, hf⟩, hb⟩
theorem toNode_short {k s : Int} {d : ByteArray} {ps : List (List Nat)} {ns : List ByteArray} {ks : List Int} {ss : List (List Nat)} (hd : d.size ≤ 9223372036854775807) (hn : ∀ x ∈ ns, x.size ≤ 9223372036854775807) : (toNode k d s ps ns ks ss).short := by
  refine ⟨hd, fun x hx => ?_⟩
  obtain ⟨i, _, rfl⟩ := List.mem_map.1 hx
  unfold itemAt
  simp only [List.getD]
  cases h : ns[i]? with
  | none => exact (by decide : (ByteArray.empty).size ≤ 9223372036854775807)
  | some b => exact hn b (List.mem_of_getElem? h)
theorem dec_c (bs : List Nat) (p : Option Addr) (cap b off : Nat) (w : World) (hsl : Sl w p bs cap b off) (hno : p = none → bs.length = 0 ∧ cap = 0) (hre : bs.length ≤ 140737488355328) :
    Calls Try.prog 15 #[.slice p bs.length cap] w fun e w' => (∃ (z : Nd) (k : Int) (pp : Option Addr) (cp : Nat) (pi : Option Addr) (ci : Nat), e = .returned (.tuple #[.agg #[.int .i64 z.kind, .string z.data, .int .i64 z.size, .slice pp z.parts.length cp, .slice pi z.items.length ci], .int .i64 k]) ∧ IsN w' (.agg #[.int .i64 z.kind, .string z.data, .int .i64 z.size, .slice pp z.parts.length cp, .slice pi z.items.length ci]) z ∧ Fresh w.heap.size (.agg #[.int .i64 z.kind, .string z.data, .int .i64 z.size, .slice pp z.parts.length cp, .slice pi z.items.length ci]) ∧ ((k = 0 ∧ Means bs z) ∨ (k = 21 ∧ z = zeroN ∧ ∀ n, ¬ Means bs n))) ∧ Below w.heap.size w w' := by
  refine (decode_any bs p cap b off w hsl hno hre).mono ?_
  rintro e w' ⟨⟨v, k, rfl, hf, h⟩, hb⟩
  rcases h with ⟨rfl, z, h1, h2⟩ | ⟨rfl, h1, h2⟩
  · obtain ⟨pp, cp, pi, ci, rfl⟩ := h2.form
    exact ⟨⟨z, 0, pp, cp, pi, ci, rfl, h2, hf, .inl ⟨rfl, h1⟩⟩, hb⟩
  · obtain ⟨pp, cp, pi, ci, rfl⟩ := h2.form
    exact ⟨⟨zeroN, 21, pp, cp, pi, ci, rfl, h2, hf, .inr ⟨rfl, rfl, h1⟩⟩, hb⟩
theorem same_no (w : World) (va vb : Value) (a b : Nd) (ha : IsN w va a) (hb : IsN w vb b) (h : ¬ a = b) : Calls Try.prog 17 #[va, vb] w fun e w' => e = .returned (.bool false) ∧ Below w.heap.size w w' := by
  refine (same_any w va vb a b ha hb).mono ?_
  rintro e w' ⟨hs, hb⟩
  rcases hs.cases with ⟨_, k⟩ | ⟨k, _⟩
  · exact absurd k h
  · exact ⟨k, hb⟩
theorem same_yes (w : World) (va vb : Value) (a b : Nd) (ha : IsN w va a) (hb : IsN w vb b) (h : a = b) : Calls Try.prog 17 #[va, vb] w fun e w' => e = .returned (.bool true) ∧ Below w.heap.size w w' := by
  refine (same_any w va vb a b ha hb).mono ?_
  rintro e w' ⟨hs, hb⟩
  rcases hs.cases with ⟨k, _⟩ | ⟨_, k⟩
  · exact ⟨k, hb⟩
  · exact absurd h k
end Go.Proofs.Ytbccjomnfclkdaa
