/-
  The iterator over a text's pieces, and what it hands to a loop.
-/
import Derived.Test.YtodfdinocnhaoaaA2
import Derived.RangeFuncNested
import Derived.RangeFuncBound
import Derived.RangeFuncCalls
import Derived.RangeFuncLeaves
import Derived.RangeFuncBox
import Derived.Shelf.Abstract
import Derived.OwnWalkIn
import Derived.TacticsInMore
import Derived.LoopNIn
import Derived.LoopIn
import Derived.Maps.AppendAt
namespace Go.Proofs.Ytodfdinocnhaoaa
open Go.RowKit Go.Shelf
attribute [local go_sem] Oper.semAt_some

theorem grown_drewN (W : World) (m : Nat) : W.grownBy (W.drewN m) none :=
  ⟨(below_drewN (Below.refl 0 W) m).os, (below_drewN (Below.refl 0 W) m).tape, (below_drewN (Below.refl 0 W) m).output, (below_drewN (Below.refl 0 W) m).size, fun k _ _ => by simp⟩

def leftOf (v : Value) : Value → Nat
  | .bool true => (match v with | .string s => (bl s).length | _ => 0) + 1
  | _ => 0
def strOf : Value → Str
  | .string s => bl s
  | _ => []

set_option maxHeartbeats 1000000 in
theorem pieces_in (x : Str) (w : World) : CallsIn Fence.wide 3 Try.prog 24 #[.string (B x)] w fun e w' => e = .returned (.func (.func 33) #[] #[.pointer (some ⟨w.heap.size, 0, none⟩)]) ∧ w' = w.alloc (.cells #[.string (B x)] 9) := by
  refine callsIn_of_wp Try.func24 rfl trivial ?_ rfl
  simp only [Try.ntmps24, List.size_toArray, List.length_cons, List.length_nil, Nat.reduceAdd, Nat.reduceSub, Array.replicate_succ, Array.replicate_zero, List.push_toArray, List.append_toArray, List.nil_append, List.cons_append]
  gi_wp2
  go_ret
  exact ⟨rfl, rfl⟩

set_option maxRecDepth 100000 in
set_option maxHeartbeats 1000000 in
theorem pieces1_in (n : Nat) (hn : 1 ≤ n) (l Bn : Nat) (x : Str) (hx : x.length ≤ 4294967296) (J Jx : List Str → World → Prop)
    (hJd : ∀ s W m, J s W → J s (World.drewN W m))
    (hY : ∀ pre p W, J pre W → pre.length < (piecesS x).length → YieldAt Fence.wide (n - 1) Try.prog l #[.string (B p)] W fun e W' =>
      (e = .returned (.bool true) ∧ J (pre ++ [p]) W' ∧ True) ∨ (e = .returned (.bool false) ∧ Jx (pre ++ [p]) W'))
    (W : World) (hBn : W.cell? ⟨Bn, 0, none⟩ = some (.string (B x))) (h0 : J [] W) :
    CallsIn Fence.wide n Try.prog 33 #[.func (.yield l) #[] #[], .pointer (some ⟨Bn, 0, none⟩)] W fun e W' => (∃ v, e = .returned v) ∧
      ((∃ ys, ys = piecesS x ∧ J ys W') ∨ (∃ pre, pre <+: piecesS x ∧ Jx pre W')) := by
  refine callsIn_of_wp Try.func33 rfl trivial ?_ rfl
  simp only [Try.ntmps33, List.size_toArray, List.length_cons, List.length_nil, Nat.reduceAdd, Nat.reduceSub, Array.replicate_succ, Array.replicate_zero, List.push_toArray, List.append_toArray, List.nil_append, List.cons_append]
  have HY := hid_in hY
  have HJd := hid_in hJd
  clear hY hJd
  gi_wp2
  gi_loopw [3, 4] (fun v3 v4 wr => (∃ (pre : List Str) (y : Str), v3 = .string (B y) ∧ v4 = .bool true ∧ y.length ≤ 4294967296 ∧ Hid (piecesS x = pre ++ piecesS y) ∧ J pre wr) ∨ (v4 = .bool false ∧ J (piecesS x) wr))
    (fun v3 v4 _ => leftOf v3 v4)
  case atStart =>
    exact .inl ⟨[], x, rfl, rfl, hx, rfl, h0⟩
  case round =>
    rcases hrel with ⟨pre, y, rfl, rfl, hy, hp, hJs⟩ | ⟨rfl, hJs⟩
    · have hC := hid_in (cut_any y hy)
      have HP := hid_in (pieces_cut y)
      have HL := hid_in (cut_short y)
      generalize cutS y = t at hC HP HL
      obtain ⟨c, r, b⟩ := t
      simp only at HP
      gi_wp2_with (refine ⟨trivial, ?_⟩; gi_at_call 34; refine (callsIn_wide.2 (hC.out _)).mono ?_; rintro e w' ⟨rfl, m, hw⟩; obtain rfl := hw)
      have hpre : (pre ++ [c]) <+: piecesS x := by
        rw [hp.out, HP.out]
        cases b
        · exact ⟨[], by simp⟩
        · exact ⟨piecesS r, by simp⟩
      obtain ⟨fn, tmps, assign, body, hy2, hR⟩ := HY.out pre c (wr.drewN m) (HJd.out _ _ _ hJs) (by have := hpre.length_le; simp at this; omega)
      have HPRE := hid_in hpre
      clear hpre
      rw [hy2]
      gi_wp2
      refine hR.mono ?_
      rintro e W3 (⟨rfl, hJ3, _⟩ | ⟨rfl, hJx3⟩)
      · gi_wp2
        go_roundw
        case rel =>
          cases b
          · refine .inr ⟨rfl, ?_⟩
            rw [hp.out, HP.out]; exact hJ3
          · refine .inl ⟨pre ++ [c], r, rfl, rfl, ?_, ?_, hJ3⟩
            · have := HL.out rfl; omega
            · show _ = _
              rw [hp.out, HP.out]; simp
        case measure =>
          cases b
          · simp [leftOf]
          · have := HL.out rfl
            simp [leftOf, bl_B]; omega
      · gi_wp2
        refine bodyPost_ret (results_none rfl _ _ _) rfl ?_
        exact ⟨⟨_, rfl⟩, .inr ⟨pre ++ [c], HPRE.out, hJx3⟩⟩
    · gi_wp2
      go_end0
      exact ⟨⟨_, rfl⟩, .inl ⟨_, rfl, hJs⟩⟩

theorem pieces_stops (n : Nat) (hn : 1 ≤ n) (Bn : Nat) (x : Str) (hx : x.length ≤ 4294967296) (w : World) (hb : Bn < w.heap.size) (hc : w.cell? ⟨Bn, 0, none⟩ = some (.string (B x))) :
    SeqStopsK Fence.wide n Try.prog 33 #[.pointer (some ⟨Bn, 0, none⟩)] (fun p : Str => #[Value.string (B p)]) (fun _ _ => True) (fun ys => ys = piecesS x) (fun pre => pre <+: piecesS x) (piecesS x).length w := fun l J Jx W hW hJ _ hY h0 =>
  pieces1_in n hn l Bn x hx J Jx (fun s W m h => hJ s W _ none h (grown_drewN W m) (fun r e => by cases e)) hY W ((hW.cell (p := ⟨Bn, 0, none⟩) hb).trans hc) h0
end Go.Proofs.Ytodfdinocnhaoaa
