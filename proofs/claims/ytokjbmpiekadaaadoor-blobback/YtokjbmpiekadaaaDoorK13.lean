/-
  Put: what it answers, and the store behind it.
-/
import Derived.Test.YtokjbmpiekadaaaDoorK12
namespace Go.Proofs.YtokjbmpiekadaaaDoor
open Go.RowKit

theorem zeros_hid : ∃ Z : List Value, Hid (Z = (List.replicate 32 0).map u8v) := ⟨_, rfl⟩
theorem Sl.pre {w : World} {p : Option Addr} {bs : List Nat} {cap b off : Nat} (h : Sl w p bs cap b off) (Z : List Value) (v : Value) : Sl (Go.Proofs.YtokjbmpiekadaaaDoor.pre w Z v) p bs cap b off := h.below (pre_below w Z v)
/-- a digest is stored into a block that was just laid -/
theorem wpList_store_new {ops : Array Oper} {rest : List Oper} {op : Oper} {a : Act} {w : World} {Q : Exit → Act → World → Prop} (hgd : op.guard = none) (x y : Operand) (ho : op.op = .store 39 x y) (Z V : List Value) (hZ : Hid (Z.length = 32)) (hV : Hid (V.length = 32)) (h1 : Hid (∀ v ∈ V, v.oneCell' = true))
    (hx : a.eval x = .pointer (some ⟨w.heap.size, 0, none⟩)) (hy : a.eval y = .agg V.toArray) (h : ∀ w', Row w' w.heap.size V 39 → Below w.heap.size w w' → wpList Tryd.prog ops Q rest (a.put op.dst undef) w') : wpList Tryd.prog ops Q (op :: rest) a (w.alloc (.cells Z.toArray 39)) := by
  refine wpList_store_Row hgd 39 x y ho w.heap.size 0 V hx hy 39 Z (Row.newAt w _ Z 39 rfl) 32 info39 hV.out (by rw [hZ.out]; decide) h1.out ?_
  intro w' hr hg hs
  rw [splice_all _ _ (by rw [hV.out, hZ.out])] at hr
  exact h w' hr (below_of_grown ((Below.refl _ _).alloc (Nat.le_refl _) _) hg (by simp) (Nat.le_refl _))
theorem Put_long (w : World) (g : Nat) (p : Option Addr) (len cap : Nat) (Z : List Value) (HZ : Hid (Z = (List.replicate 32 0).map u8v)) (hl : 4096 < len) :
    Calls Tryd.prog 15 #[.pointer (some ⟨g, 0, none⟩), .slice p len cap] w fun e w' => e = .returned (.tuple #[.agg Z.toArray, .int .i64 2]) ∧ Below w.heap.size w w' := by
  refine Put_err w g p len cap Z HZ 2 (by decide) ?_
  refine (put_long _ g (w.heap.size + 1) p len cap (pre_cell w Z _) hl).mono ?_
  rintro e w' ⟨rfl, rfl⟩
  exact ⟨rfl, Below.refl _ _⟩
theorem Put_full {w : World} {g m n : Nat} {M : List Nat → Option (List Nat)} {q u : Int} (h : St w g m M n q u) (htab : Tab w) (bs : List Nat) (p : Option Addr) (b off cap : Nat)
    (hs : Sl w p bs cap b off) (hl : bs.length ≤ 4096) (hu0 : 0 ≤ u) (huq : u ≤ q) (hq : q ≤ 9223372036854775807)
    (hfull : q - u < if (M (Sha.sum bs)).isSome then 0 else (bs.length : Int)) (Z : List Value) (HZ : Hid (Z = (List.replicate 32 0).map u8v)) :
    Calls Tryd.prog 15 #[.pointer (some ⟨g, 0, none⟩), .slice p bs.length cap] w fun e w' => e = .returned (.tuple #[.agg Z.toArray, .int .i64 3]) ∧ Below w.heap.size w w' := by
  refine Put_err w g p bs.length cap Z HZ 3 (by decide) ?_
  exact put_full (h.below (pre_below w Z _)) (htab.below (pre_below w Z _) htab.pos) bs _ rfl (w.heap.size + 1) p b off cap (hs.pre Z _) (pre_cell w Z _) hl hu0 huq hq _ rfl hfull
theorem Put_ok {w : World} {g m n : Nat} {M : List Nat → Option (List Nat)} {q u : Int} (h : St w g m M n q u) (htab : Tab w) (bs : List Nat) (V : List Value) (HV : Hid (V = (Sha.sum bs).map u8v)) (p : Option Addr) (b off cap : Nat)
    (hs : Sl w p bs cap b off) (hpn : p = none → bs.length = 0 ∧ cap = 0) (hl : bs.length ≤ 4096) (hu0 : 0 ≤ u) (huq : u ≤ q) (hq : q ≤ 9223372036854775807)
    (N : Int) (HN : Hid (N = if (M (Sha.sum bs)).isSome then 0 else (bs.length : Int))) (hfull : N ≤ q - u) (n' : Nat) (HN' : Hid (n' = if (M (Sha.sum bs)).isSome then n else n + 1)) :
    Calls Tryd.prog 15 #[.pointer (some ⟨g, 0, none⟩), .slice p bs.length cap] w fun e w' => e = .returned (.tuple #[.agg V.toArray, .int .i64 0]) ∧ St w' g m (updM M (Sha.sum bs) bs) n' q (u + N) ∧ Kp g m w w' := by
  obtain ⟨Z, HZ⟩ := zeros_hid
  have hN0 : 0 ≤ N := by rw [HN.out]; split <;> omega
  have hP := put_ok (h.below (pre_below w Z (.slice p bs.length cap))) (htab.below (pre_below w Z _) htab.pos) bs V HV (w.heap.size + 1) p b off cap (hs.pre Z _) hpn (pre_cell w Z _) hl hu0 huq hq N HN hfull hN0 n' HN'
  have hgl := h.glt
  have hml := h.mlt
  refine (Put_fine w g p bs.length cap Z V HZ (by show V.length = 32; rw [HV.out, List.length_map, sum_length]) (by show ∀ v ∈ V, _; rw [HV.out]; exact one_u8 _) (fun w1 => St w1 g m (updM M (Sha.sum bs) bs) n' q (u + N) ∧ Kp g m (pre w Z (.slice p bs.length cap)) w1 ∧ Row w1 w.heap.size Z 39) ?_).mono ?_
  · refine hP.mono ?_
    rintro e w1 ⟨rfl, hr, hst, hk⟩
    have hz := hk.row (pre_row w Z _) (by omega) (by omega)
    exact ⟨rfl, hr, hz, hst, hk, hz⟩
  · rintro e w' ⟨rfl, w1, ⟨hst, hk, hz⟩, hg⟩
    have k1 : Kp g m w w1 := (Kp.of_below (pre_below w Z _)).trans hk
    exact ⟨rfl, hst.grown39 hz hg, hg.os.trans k1.os, hg.tape.trans k1.tape, hg.output.trans k1.output, Nat.le_trans k1.size hg.size, fun k hk1 h1 h2 => (hg.block k (Nat.lt_of_lt_of_le hk1 k1.size) (by simp; omega)).trans (k1.block k hk1 h1 h2)⟩
end Go.Proofs.YtokjbmpiekadaaaDoor
