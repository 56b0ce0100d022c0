/-
  The walk of NodeReads.
-/
import Derived.Test.YtbccjomnfclkdaaN21
namespace Go.Proofs.Ytbccjomnfclkdaa
open Go.RowKit
/-- a node's value -/
def nval (n : Nd) (pp : Option Addr) (cp : Nat) (pi : Option Addr) (ci : Nat) : Value := .agg #[.int .i64 n.kind, .string n.data, .int .i64 n.size, .slice pp n.parts.length cp, .slice pi n.items.length ci]
set_option maxHeartbeats 4000000 in
set_option maxRecDepth 100000 in
theorem reads_core (bl : Nat) (p : Option Addr) (cap : Nat) (w : World) (n : Nd) (E : Int) (O : Bool) (hEO : (E = 0 ∧ O = true) ∨ (E = 21 ∧ O = false))
    (HDEC : Hid (∀ W, Below w.heap.size w W → Calls Try.prog 15 #[.slice p bl cap] W fun e w' => (∃ pp cp pi ci, e = .returned (.tuple #[.agg #[.int .i64 n.kind, .string n.data, .int .i64 n.size, .slice pp n.parts.length cp, .slice pi n.items.length ci], .int .i64 E]) ∧ IsN w' (nval n pp cp pi ci) n) ∧ Below W.heap.size W w'))
    (HREF : Hid (∀ W, Below w.heap.size w W → Calls Try.prog 16 #[.slice p bl cap] W fun e w' => (∃ pp cp pi ci, e = .returned (.tuple #[.agg #[.int .i64 n.kind, .string n.data, .int .i64 n.size, .slice pp n.parts.length cp, .slice pi n.items.length ci], .bool O]) ∧ IsN w' (nval n pp cp pi ci) n) ∧ Below W.heap.size W w')) :
    Calls Try.prog 4 #[.slice p bl cap] w fun e w' => e = .returned (.bool true) ∧ Below w.heap.size w w' := by
  obtain ⟨nk, nd, ns, np, ni⟩ := n
  simp only at HDEC HREF
  go_enter Try.func4, Try.ntmps4
  go_upto_region 4 with (first | (go_at_call 9; refine (awake_any w).mono ?_; rintro e w1 ⟨rfl, hb1⟩; have HB1 := hid_in hb1; clear hb1) | (go_at_call 15; refine (HDEC.out _ HB1.out).mono ?_; rintro e w2 ⟨⟨pp, cp, pi, ci, rfl, hn2⟩, hb2⟩; have HN2 := hid_in hn2; have HB2 := hid_in (HB1.out.trans (hb2.mono HB1.out.size)); clear hn2 hb2))
  obtain ⟨W2, HW2, HR2, HBW2, HS2⟩ := node_row w2 nk ns nd (.slice pp np.length cp) (.slice pi ni.length ci)
  refine wp_world HW2.out ?_
  clear HW2
  have HB3 : Hid (Below w.heap.size w W2) := HB2.out.trans (HBW2.out.mono HB2.out.size)
  go_upto_region 5 with (first | (go_at_call 16; refine (HREF.out _ HB3.out).mono ?_; rintro e w4 ⟨⟨pp4, cp4, pi4, ci4, rfl, hn4⟩, hb4⟩; have HN4 := hid_in hn4; have HB4 := hid_in hb4; clear hn4 hb4))
  obtain ⟨W4, HW4, HR4, HBW4, HS4⟩ := node_row w4 nk ns nd (.slice pp4 np.length cp4) (.slice pi4 ni.length ci4)
  refine wp_world HW4.out ?_
  clear HW4
  have hb24 : Below W2.heap.size W2 W4 := HB4.out.trans (HBW4.out.mono HB4.out.size)
  have HR24 := HR2.out.below hb24 HR2.out.lt
  have HNA := hid_in ((HN2.out.below HBW2.out).below hb24)
  have HNB := hid_in (HN4.out.below HBW4.out)
  have HB5 : Hid (Below w.heap.size w W4) := HB3.out.trans (hb24.mono HB3.out.size)
  have HSM := hid_in (same_any W4 _ _ _ _ HNA.out HNB.out)
  unfold nval at HSM
  simp only at HSM
  have a0 : W4.cell? ⟨w2.heap.size, 0, none⟩ = some (.int .i64 nk) := HR24.cell 0
  have a1 : W4.cell? ⟨w2.heap.size, 1, none⟩ = some (.string nd) := HR24.cell 1
  have a2 : W4.cell? ⟨w2.heap.size, 2, none⟩ = some (.int .i64 ns) := HR24.cell 2
  have a3 : W4.cell? ⟨w2.heap.size, 3, none⟩ = some (.slice pp np.length cp) := HR24.cell 3
  have a4 : W4.cell? ⟨w2.heap.size, 4, none⟩ = some (.slice pi ni.length ci) := HR24.cell 4
  have b0 : W4.cell? ⟨w4.heap.size, 0, none⟩ = some (.int .i64 nk) := HR4.out.cell 0
  have b1 : W4.cell? ⟨w4.heap.size, 1, none⟩ = some (.string nd) := HR4.out.cell 1
  have b2 : W4.cell? ⟨w4.heap.size, 2, none⟩ = some (.int .i64 ns) := HR4.out.cell 2
  have b3 : W4.cell? ⟨w4.heap.size, 3, none⟩ = some (.slice pp4 np.length cp4) := HR4.out.cell 3
  have b4 : W4.cell? ⟨w4.heap.size, 4, none⟩ = some (.slice pi4 ni.length ci4) := HR4.out.cell 4
  clear HR24 hb24 HNA HNB HR2 HR4 HBW2 HBW4 HN2 HN4 HB4 HB3 HB2 HB1 HS2 HS4 HDEC HREF
  rcases hEO with ⟨rfl, rfl⟩ | ⟨rfl, rfl⟩
  all_goals
    go_wp2_with fail
    refine HSM.out.mono ?_
    rintro e w5 ⟨hsays, hb5⟩
    have HB6 := hid_in (HB5.out.trans (hb5.mono HB5.out.size))
    clear hb5 HSM
    rcases hsays.cases with ⟨rfl, _⟩ | ⟨_, hP⟩
    · clear hsays
      go_wp2_with fail
      go_ret
      exact ⟨rfl, HB6.out⟩
    · exact absurd trivial hP
theorem reads_any (bs : List Nat) (p : Option Addr) (cap b off : Nat) (w : World) (hsl : Sl w p bs cap b off) (hno : p = none → bs.length = 0 ∧ cap = 0) (hre : bs.length ≤ 140737488355328) :
    Calls Try.prog 4 #[.slice p bs.length cap] w fun e w' => e = .returned (.bool true) ∧ Below w.heap.size w w' := by
  by_cases hM : ∃ n, Means bs n
  · obtain ⟨n, hn⟩ := hM
    refine reads_core bs.length p cap w n 0 true (.inl ⟨rfl, rfl⟩) (fun W hW => ?_) (fun W hW => ?_)
    · refine (decode_any bs p cap b off W (hsl.below hW) hno hre).mono ?_
      rintro e w' ⟨⟨v, k, rfl, _, h⟩, hb⟩
      rcases h with ⟨rfl, m, h1, h2⟩ | ⟨_, h1, _⟩
      · obtain rfl := hn.unique h1
        obtain ⟨pp, cp, pi, ci, rfl⟩ := h2.form
        exact ⟨⟨pp, cp, pi, ci, rfl, h2⟩, hb⟩
      · exact absurd hn (h1 _)
    · refine (rdecode_any bs p cap b off W (hsl.below hW)).mono ?_
      rintro e w' ⟨⟨v, k, rfl, h⟩, hb⟩
      rcases h with ⟨rfl, m, h1, h2⟩ | ⟨_, h1, _⟩
      · obtain rfl := hn.unique h1
        obtain ⟨pp, cp, pi, ci, rfl⟩ := h2.form
        exact ⟨⟨pp, cp, pi, ci, rfl, h2⟩, hb⟩
      · exact absurd hn (h1 _)
  · refine reads_core bs.length p cap w zeroN 21 false (.inr ⟨rfl, rfl⟩) (fun W hW => ?_) (fun W hW => ?_)
    · refine (decode_any bs p cap b off W (hsl.below hW) hno hre).mono ?_
      rintro e w' ⟨⟨v, k, rfl, _, h⟩, hb⟩
      rcases h with ⟨_, m, h1, _⟩ | ⟨rfl, _, h2⟩
      · exact absurd ⟨m, h1⟩ hM
      · obtain ⟨pp, cp, pi, ci, rfl⟩ := h2.form
        exact ⟨⟨pp, cp, pi, ci, rfl, h2⟩, hb⟩
    · refine (rdecode_any bs p cap b off W (hsl.below hW)).mono ?_
      rintro e w' ⟨⟨v, k, rfl, h⟩, hb⟩
      rcases h with ⟨_, m, h1, _⟩ | ⟨rfl, _, h2⟩
      · exact absurd ⟨m, h1⟩ hM
      · obtain ⟨pp, cp, pi, ci, rfl⟩ := h2.form
        exact ⟨⟨pp, cp, pi, ci, rfl, h2⟩, hb⟩
end Go.Proofs.Ytbccjomnfclkdaa
