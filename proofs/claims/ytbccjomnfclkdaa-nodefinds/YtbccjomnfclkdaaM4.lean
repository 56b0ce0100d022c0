/-
  The walk of NodeFinds.
-/
import Derived.Test.YtbccjomnfclkdaaN25
import Derived.Test.YtbccjomnfclkdaaN26
import Derived.Deep.CutRange
namespace Go.Proofs.Ytbccjomnfclkdaa
open Go.RowKit
/-- the first item of that name from the place c on -/
def FoundAt (l : List It) (nm : ByteArray) (c : Nat) (x : It) (ok : Bool) : Prop := (ok = true ∧ ∃ i : Nat, c ≤ i ∧ l[i]? = some x ∧ x.name = nm ∧ ∀ (k : Nat), c ≤ k → k < i → ∀ (y : It), l[k]? = some y → y.name ≠ nm) ∨ (ok = false ∧ x = zeroI ∧ ∀ (k : Nat), c ≤ k → ∀ (y : It), l[k]? = some y → y.name ≠ nm)
theorem FoundAt.step {l : List It} {nm : ByteArray} {c : Nat} {x y : It} {ok : Bool} (h : FoundAt l nm (c + 1) x ok) (hy : l[c]? = some y) : if y.name = nm then FoundAt l nm c y true else FoundAt l nm c x ok := by
  split
  · rename_i hn
    exact .inl ⟨rfl, c, Nat.le_refl _, hy, hn, fun k h1 h2 => by omega⟩
  · rename_i hn
    rcases h with ⟨h1, i, h2, h3, h4, h5⟩ | ⟨h1, h2, h3⟩
    · refine .inl ⟨h1, i, by omega, h3, h4, fun k k1 k2 z hz => ?_⟩
      by_cases hk : c + 1 ≤ k
      · exact h5 k hk k2 z hz
      · obtain rfl : k = c := by omega
        rw [hy] at hz
        cases hz
        exact hn
    · refine .inr ⟨h1, h2, fun k k1 z hz => ?_⟩
      by_cases hk : c + 1 ≤ k
      · exact h3 k hk z hz
      · obtain rfl : k = c := by omega
        rw [hy] at hz
        cases hz
        exact hn
theorem Found.unique {l : List It} {nm : ByteArray} {x y : It} {a b : Bool} (h : Found l nm x a) (k : FoundAt l nm 0 y b) : x = y ∧ a = b := by
  rcases h with ⟨rfl, i, h1, h2, h3⟩ | ⟨rfl, rfl, h1⟩ <;> rcases k with ⟨rfl, j, _, k1, k2, k3⟩ | ⟨rfl, rfl, k1⟩
  · have : i = j := by
      rcases Nat.lt_trichotomy i j with h | h | h
      · exact absurd h2 (k3 i (Nat.zero_le _) h x h1)
      · exact h
      · exact absurd k2 (h3 j h y k1)
    subst this
    rw [h1] at k1
    cases k1
    exact ⟨rfl, rfl⟩
  · exact absurd h2 (k1 i (Nat.zero_le _) x h1)
  · exact absurd k2 (h1 j y k1)
  · exact ⟨rfl, rfl⟩
theorem kids_ok {n : Nd} (h : n.ok) : ∀ x ∈ kidsOf n, x.ok := by
  intro x hx
  rcases List.mem_append.1 hx with hx | hx
  · obtain ⟨d, hd, rfl⟩ := List.mem_map.1 hx
    exact ⟨h.parts d hd, i64_1⟩
  · exact h.items x hx
theorem kids_c (f : Nat) (w : World) (v : Value) (n : Nd) (hf : Calls Try.prog f #[v] w fun e w' => ∃ u, e = .returned u ∧ w'.ownsRow w.heap.size 51 34 u (kidsOf n).length ((kidsOf n).map It.cells).flatten ∧ Below w.heap.size w w') (hok : n.ok) :
    Calls Try.prog f #[v] w fun e w' => (∃ u, e = .returned u ∧ Els w' u 34 ((kidsOf n).map It.cells)) ∧ Below w.heap.size w w' := by
  refine hf.mono ?_
  rintro e w' ⟨u, rfl, ho, hb⟩
  refine ⟨⟨u, rfl, own_els (xs := (kidsOf n).map It.cells) (by simpa using ho) (fun us hu => ?_)⟩, hb⟩
  obtain ⟨x, hx, rfl⟩ := List.mem_map.1 hu
  exact It.cells_length _ (kids_ok hok x hx).sum.1
theorem HN5_items {w : World} {n : Nd} {nk : Int} {nd : ByteArray} {ns : Int} {vp : Value} {pi : Option Addr} {ci : Nat} (h : IsN w (.agg #[.int .i64 nk, .string nd, .int .i64 ns, vp, .slice pi n.items.length ci]) n) : ∃ p cap b o, Value.slice pi n.items.length ci = .slice p n.items.length cap ∧ n.items.length ≤ cap ∧ cap ≤ 9223372036854775807 ∧ (n.items.map It.cells ≠ [] → p = some ⟨b, o, none⟩ ∧ b < w.heap.size) ∧ ∀ (i : Nat) us, (n.items.map It.cells)[i]? = some us → w.rangeAt b (o + i * 34) us := by
  obtain ⟨vp', vi', hv, _, hi⟩ := h.ex
  simp only [Value.agg.injEq, Array.mk.injEq, List.cons.injEq, and_true] at hv
  obtain ⟨_, _, _, _, rfl⟩ := hv
  obtain ⟨p, cap, b, o, h1, h2, h3⟩ := hi.ex
  rw [List.length_map] at h1 h2
  exact ⟨p, cap, b, o, h1, h2, h3⟩
theorem items_yes (w : World) (va vb : Value) (l : List It) (ha : Els w va 34 (l.map It.cells)) (hb : Els w vb 34 (l.map It.cells)) (ok : ∀ x ∈ l, x.ok) : Calls Try.prog 19 #[va, vb] w fun e w' => e = .returned (.bool true) ∧ Below w.heap.size w w' := by
  refine (items_any w va vb l l ha hb ok ok).mono ?_
  rintro e w' ⟨hs, m, rfl⟩
  rcases hs.cases with ⟨h, _⟩ | ⟨_, h⟩
  · exact ⟨h, below_drewN (Below.refl _ _) m⟩
  · exact absurd rfl h
set_option maxHeartbeats 8000000 in
set_option maxRecDepth 100000 in
theorem nfinds_any (w : World) (k s : Int) (d : ByteArray) (pP : Option Addr) (lP cP : Nat) (pN : Option Addr) (lN cN : Nat) (pK : Option Addr) (lK cK : Nat) (pS : Option Addr) (lS cS : Nat) (n : Nd) (l1 : n.parts.length ≤ 1048576) (l2 : n.items.length ≤ 1048576) (nm : ByteArray)
    (hC : NodeC w (.agg #[.int .i64 k, .string d, .int .i64 s, .slice pP lP cP, .slice pN lN cN, .slice pK lK cK, .slice pS lS cS]) n) :
    Calls Try.prog 6 #[.agg #[.int .i64 k, .string d, .int .i64 s, .slice pP lP cP, .slice pN lN cN, .slice pK lK cK, .slice pS lS cS], .string nm] w fun e w' => e = .returned (.bool true) ∧ Below w.heap.size w w' := by
  have HC := hid_in hC
  clear hC
  go_enter Try.func6, Try.ntmps6
  go_upto_region 1 with fail
  obtain ⟨W0, HW0, HR0, HB0, HS0⟩ := raw_row w k s d (.slice pP lP cP) (.slice pN lN cN) (.slice pK lK cK) (.slice pS lS cS)
  refine wp_world HW0.out ?_
  clear HW0
  go_upto_region 3 with (first | (go_at_call 9; refine (awake_any W0).mono ?_; rintro e w1 ⟨rfl, hb1⟩; have HB1 := hid_in hb1; clear hb1))
  have hr1 := HR0.out.below HB1.out HR0.out.lt
  have HBW1 : Hid (Below w.heap.size w w1) := HB0.out.trans (HB1.out.mono HB0.out.size)
  have r0 : w1.cell? ⟨w.heap.size, 0, none⟩ = some (.int .i64 k) := hr1.cell 0
  have r1 : w1.cell? ⟨w.heap.size, 1, none⟩ = some (.string d) := hr1.cell 1
  have r2 : w1.cell? ⟨w.heap.size, 2, none⟩ = some (.int .i64 s) := hr1.cell 2
  have r3 : w1.cell? ⟨w.heap.size, 3, none⟩ = some (.slice pP lP cP) := hr1.cell 3
  have r4 : w1.cell? ⟨w.heap.size, 4, none⟩ = some (.slice pN lN cN) := hr1.cell 4
  have r5 : w1.cell? ⟨w.heap.size, 5, none⟩ = some (.slice pK lK cK) := hr1.cell 5
  have r6 : w1.cell? ⟨w.heap.size, 6, none⟩ = some (.slice pS lS cS) := hr1.cell 6
  clear hr1
  obtain ⟨nk, nd, ns, np, ni⟩ := n
  simp only at l1 l2
  have HC1 := hid_in (HC.out w1 HBW1.out)
  clear HC
  simp only at HC1
  go_upto_region 4 with (first | (go_at_call 10; refine HC1.out.mono ?_; rintro e w2 ⟨⟨pp, cp, pi, ci, rfl, hn2, _⟩, hb2⟩; have HN2 := hid_in hn2; have HB2 := hid_in (HBW1.out.trans (hb2.mono HBW1.out.size)); clear hn2 hb2))
  obtain ⟨W2, HW2, HR2, HBW2, HS2⟩ := node_row w2 nk ns nd (.slice pp np.length cp) (.slice pi ni.length ci)
  refine wp_world HW2.out ?_
  clear HW2
  have HB3 : Hid (Below w.heap.size w W2) := HB2.out.trans (HBW2.out.mono HB2.out.size)
  have a0 : W2.cell? ⟨w2.heap.size, 0, none⟩ = some (.int .i64 nk) := HR2.out.cell 0
  have a1 : W2.cell? ⟨w2.heap.size, 1, none⟩ = some (.string nd) := HR2.out.cell 1
  have a2 : W2.cell? ⟨w2.heap.size, 2, none⟩ = some (.int .i64 ns) := HR2.out.cell 2
  have a3 : W2.cell? ⟨w2.heap.size, 3, none⟩ = some (.slice pp np.length cp) := HR2.out.cell 3
  have a4 : W2.cell? ⟨w2.heap.size, 4, none⟩ = some (.slice pi ni.length ci) := HR2.out.cell 4
  have HN3 := hid_in (HN2.out.below HBW2.out)
  have HFN := hid_in (find_any W2 _ _ nm HN3.out l2)
  clear r0 r1 r2 r3 r4 r5 r6 HC1 HN2
  go_upto_region 5 with (first | (go_at_call 18; refine HFN.out.mono ?_; rintro e w4 ⟨⟨x, ok, rfl, hxl, hfd⟩, hb4⟩; have HFD := hid_in hfd; have HXL := hid_in hxl; have HB4 := hid_in hb4; obtain ⟨X, HX⟩ : ∃ X, Hid (x.cells = X) := ⟨_, rfl⟩; have HXC : Hid (X.length = 34) := (by show _ = _; rw [← HX.out]; exact It.cells_length _ hxl); have HX1 : Hid (∀ v ∈ X, v.oneCell' = true) := (by intro v hv; rw [← HX.out] at hv; exact It.one _ v hv); rw [HX.out]; clear hfd hxl hb4) | (refine wpList_store_new rfl rfl 51 34 _ _ rfl _ X info51 rfl HXC HX1 rfl rfl ?_; intro w5 hr5 hb5 hs5; have HR5 := hid_in hr5; have HB5 := hid_in hb5; have HS5 := hid_in hs5; clear hr5 hb5 hs5))
  have HBZ := hid_in build_z
  have HZL : Hid (z34.length = 34) := rfl
  have HZ1 : Hid (∀ v ∈ z34, v.oneCell' = true) := It.one _
  clear a0 a1 a2 a3 a4 HFN
  have HZ0 : Hid (z34 = zeroI.cells) := rfl
  generalize z34 = Z at *
  go_upto_region 6 with (first | (refine wpList_build rfl 51 _ rfl #[] (by simp only [List.map_toArray, List.map_nil]) _ (HBZ.out _) ?_; simp only [Act.put, List.setIfInBounds_toArray, List.set_cons_zero, List.set_cons_succ]) | (refine wpList_store_new rfl rfl 51 34 _ _ rfl _ Z info51 rfl HZL HZ1 rfl rfl ?_; intro w6 hr6 hb6 hs6; have HR6 := hid_in hr6; have HB6 := hid_in hb6; have HS6 := hid_in hs6; clear hr6 hb6 hs6))
  have HBN5 : Hid (Below W2.heap.size W2 w5) := HB4.out.trans (HB5.out.mono HB4.out.size)
  have HN5 := hid_in (HN3.out.below HBN5.out)
  have HRN5 := hid_in (HR2.out.below HBN5.out HR2.out.lt)
  have HBW5 : Hid (Below w.heap.size w w5) := HB3.out.trans (HBN5.out.mono HB3.out.size)
  have hrn6 := HRN5.out.below HB6.out HRN5.out.lt
  have a4 : w6.cell? ⟨w2.heap.size, 4, none⟩ = some (.slice pi ni.length ci) := hrn6.cell 4
  have hwl : IntKind.i64.wrap ((ni.length : Int) - 1) = (ni.length : Int) - 1 := by rw [IntKind.wrap_i64]; omega
  clear hrn6 HN3 HR2 HB4 HB5 HBN5 HBZ
  go_wp2_with fail
  go_loopw [9, 10] (fun vf vi W => ∃ (c : Nat) (y : It) (f : Bool), vf = .bool f ∧ vi = .int .i64 ((c : Int) - 1) ∧ c ≤ ni.length ∧ Hid (FoundAt ni nm c y f) ∧ Hid (y.sum.length = 32) ∧ Hid (Row W w5.heap.size y.cells 51) ∧ Hid (Below w5.heap.size w5 W)) (fun _ vi _ => (intOf vi + 1).toNat)
  case atStart =>
    refine ⟨ni.length, zeroI, false, rfl, rfl, Nat.le_refl _, Or.inr ⟨rfl, rfl, fun k hk y hy => ?_⟩, rfl, ?_, HB6⟩
    · have := (List.getElem?_eq_some_iff.1 hy).1
      omega
    · show Row _ _ _ _
      rw [← HZ0.out]
      exact HR6.out
  case round =>
    obtain ⟨c, y, f, rfl, hvi, hc, hF, hyl, hRy, hBy⟩ := hrel
    clear HR6 HB6 HS6 a4 hwl
    have hrn := HRN5.out.below hBy.out HRN5.out.lt
    have a4 : wr.cell? ⟨w2.heap.size, 4, none⟩ = some (.slice pi ni.length ci) := hrn.cell 4
    rcases c with _ | c
    · obtain rfl : _ = Value.int .i64 (-1) := hvi.trans (by rfl)
      obtain ⟨hxy, hok⟩ := HFD.out.unique hF.out
      subst hok
      subst hxy
      rw [HX.out] at hRy
      have HBWr : Hid (Below w.heap.size w wr) := HBW5.out.trans (hBy.out.mono HBW5.out.size)
      have HRX := hid_in (HR5.out.below hBy.out HR5.out.lt)
      have HRN := hid_in hrn
      have HNr := hid_in (HN5.out.below hBy.out)
      have HEQ : Hid (∀ W, (Op.equalIn 10000 51 (.agg X.toArray) (.agg X.toArray)).run Try.prog W = .ok true W) := fun W => by
        have h := eqItem x x HXL.out HXL.out W
        rw [HX.out, itemEq_iff.2 rfl] at h
        exact h
      have heq := HEQ.out
      have HBD : Hid (Below wr.heap.size wr wr.drew) := below_drewN (Below.refl _ wr) 1
      have HKK : Hid (∀ W, Below wr.heap.size wr W → (fun W => W.rangeAt w4.heap.size 0 X ∧ W.rangeAt w5.heap.size 0 X ∧ W.cell? ⟨w2.heap.size, 0, none⟩ = some (.int .i64 nk) ∧ W.cell? ⟨w2.heap.size, 1, none⟩ = some (.string nd) ∧ W.cell? ⟨w2.heap.size, 2, none⟩ = some (.int .i64 ns) ∧ W.cell? ⟨w2.heap.size, 3, none⟩ = some (.slice pp np.length cp) ∧ W.cell? ⟨w2.heap.size, 4, none⟩ = some (.slice pi ni.length ci)) W) := fun W hW => by
        have h1 := HRX.out.below hW HRX.out.lt
        have h2 := hRy.out.below hW hRy.out.lt
        have h3 := HRN.out.below hW HRN.out.lt
        exact ⟨fun j v hv => by rw [Nat.zero_add, h1.cell]; exact hv, fun j v hv => by rw [Nat.zero_add, h2.cell]; exact hv, h3.cell 0, h3.cell 1, h3.cell 2, h3.cell 3, h3.cell 4⟩
      have HK1 := hid_in (fun W (hW : Below wr.heap.size wr W) => kids_c 20 W _ _ (kids_any W _ _ (HNr.out.below hW) l1 l2) HNr.out.ok)
      have HK2 := hid_in (fun W (hW : Below wr.heap.size wr W) => kids_c 21 W _ _ (rkids_any W _ _ (HNr.out.below hW) l1 l2) HNr.out.ok)
      have HKO := hid_in (kids_ok HNr.out.ok)
      clear hvi hc hF hyl hRy HRX HRN HNr HN5 HRN5 HFD hrn HR5
      go_upto_region 13 with fail
      clear a4
      refine wp_region_held_drew (S := (fun W => W.rangeAt w4.heap.size 0 X ∧ W.rangeAt w5.heap.size 0 X ∧ W.cell? ⟨w2.heap.size, 0, none⟩ = some (.int .i64 nk) ∧ W.cell? ⟨w2.heap.size, 1, none⟩ = some (.string nd) ∧ W.cell? ⟨w2.heap.size, 2, none⟩ = some (.int .i64 ns) ∧ W.cell? ⟨w2.heap.size, 3, none⟩ = some (.slice pp np.length cp) ∧ W.cell? ⟨w2.heap.size, 4, none⟩ = some (.slice pi ni.length ci))) (by kernel_rfl) (HKK.out _ HBD.out) (fun hHeld => ?_)
      refine take_put (i := 0) (d := 43) (v := ?_) rfl rfl (by kernel_rfl) (by kernel_rfl) (by kernel_rfl) (fun _ _ _ h => h) (Or.inl ⟨by kernel_rfl, ?_⟩) hHeld ?_
      rotate_left
      · (intro w hSw; (try dsimp only at hSw); go_simp; (try with_reducible rfl))
      simp only [Act.put, List.setIfInBounds_toArray, List.set_cons_zero, List.set_cons_succ]
      refine take_put (i := 1) (d := 44) (v := ?_) rfl rfl (by kernel_rfl) (by kernel_rfl) (by kernel_rfl) (fun _ _ _ h => h) (Or.inl ⟨by kernel_rfl, ?_⟩) hHeld ?_
      rotate_left
      · (intro w hSw; (try dsimp only at hSw); go_simp; (try with_reducible rfl))
      simp only [Act.put, List.setIfInBounds_toArray, List.set_cons_zero, List.set_cons_succ]
      refine take_put (i := 2) (d := 45) (v := ?_) rfl rfl (by kernel_rfl) (by kernel_rfl) (by kernel_rfl) (fun _ _ _ h => h) (Or.inl ⟨by kernel_rfl, ?_⟩) hHeld ?_
      rotate_left
      · (intro w hSw; (try dsimp only at hSw); go_simp; (try with_reducible rfl))
      simp only [Act.put, List.setIfInBounds_toArray, List.set_cons_zero, List.set_cons_succ]
      refine take_put (i := 3) (d := 46) (v := ?_) rfl rfl (by kernel_rfl) (by kernel_rfl) (by kernel_rfl) (fun _ _ _ h => h) (Or.inl ⟨by kernel_rfl, ?_⟩) hHeld ?_
      rotate_left
      · (intro w hSw; (try dsimp only at hSw); go_simp; (try with_reducible rfl))
      simp only [Act.put, List.setIfInBounds_toArray, List.set_cons_zero, List.set_cons_succ]
      refine take_put (i := 4) (d := 47) (v := .agg X.toArray) rfl rfl (by kernel_rfl) (by kernel_rfl) (by kernel_rfl) (fun _ _ _ h => h) (yieldsIf_load_mid (by rfl) 51 _ rfl _ _ rfl X _ (fun w' h => h.1) Try.underlying51 rfl (by rw [info51, HXC.out])) hHeld ?_
      simp only [Act.put, List.setIfInBounds_toArray, List.set_cons_zero, List.set_cons_succ]
      refine take_put (i := 5) (d := 48) (v := .agg X.toArray) rfl rfl (by kernel_rfl) (by kernel_rfl) (by kernel_rfl) (fun _ _ _ h => h) (yieldsIf_load_mid (by rfl) 51 _ rfl _ _ rfl X _ (fun w' h => h.2.1) Try.underlying51 rfl (by rw [info51, HXC.out])) hHeld ?_
      simp only [Act.put, List.setIfInBounds_toArray, List.set_cons_zero, List.set_cons_succ]
      refine take_put (i := 6) (d := 49) (v := ?_) rfl rfl (by kernel_rfl) (by kernel_rfl) (by kernel_rfl) (fun _ _ _ h => h) (Or.inl ⟨by kernel_rfl, ?_⟩) hHeld ?_
      rotate_left
      · (intro w hSw; (try dsimp only at hSw); go_simp; (try with_reducible rfl))
      simp only [Act.put, List.setIfInBounds_toArray, List.set_cons_zero, List.set_cons_succ]
      refine take_put (i := 7) (d := 50) (v := ?_) rfl rfl (by kernel_rfl) (by kernel_rfl) (by kernel_rfl) (fun _ _ _ h => h) (Or.inl ⟨by kernel_rfl, ?_⟩) hHeld ?_
      rotate_left
      · (intro w hSw; (try dsimp only at hSw); go_simp; (try with_reducible rfl))
      simp only [Act.put, List.setIfInBounds_toArray, List.set_cons_zero, List.set_cons_succ]
      refine take_put (i := 8) (d := 51) (v := ?_) rfl rfl (by kernel_rfl) (by kernel_rfl) (by kernel_rfl) (fun _ _ _ h => h) (Or.inl ⟨by kernel_rfl, ?_⟩) hHeld ?_
      rotate_left
      · (intro w hSw; (try dsimp only at hSw); go_simp; (try with_reducible rfl))
      simp only [Act.put, List.setIfInBounds_toArray, List.set_cons_zero, List.set_cons_succ]
      refine take_put (i := 9) (d := 52) (v := ?_) rfl rfl (by kernel_rfl) (by kernel_rfl) (by kernel_rfl) (fun _ _ _ h => h) (Or.inl ⟨by kernel_rfl, ?_⟩) hHeld ?_
      rotate_left
      · (intro w hSw; (try dsimp only at hSw); go_simp; (try with_reducible rfl))
      simp only [Act.put, List.setIfInBounds_toArray, List.set_cons_zero, List.set_cons_succ]
      refine take_put (i := 11) (d := 54) (v := ?_) rfl rfl (by kernel_rfl) (by kernel_rfl) (by kernel_rfl) (fun _ _ _ h => h) (Or.inl ⟨by kernel_rfl, ?_⟩) hHeld ?_
      rotate_left
      · (intro w hSw; (try dsimp only at hSw); go_simp; (try with_reducible rfl))
      simp only [Act.put, List.setIfInBounds_toArray, List.set_cons_zero, List.set_cons_succ]
      refine wpAnyH_ready (rs := [10]) (by kernel_rfl) (by simp) ?_
      refine AllReadyH.cons rfl (fun K hK => ?_) AllReadyH.nil
      rw [if_pos (by rfl)]
      go_simp
      refine (HK1.out _ HBD.out).mono ?_
      rintro e w7 ⟨⟨u1, rfl, helu1⟩, hb7⟩
      have HB7 : Hid (Below wr.heap.size wr w7) := HBD.out.trans (hb7.mono HBD.out.size)
      have HELu1 := hid_in helu1
      have hhb7 := hid_in hb7
      clear hb7 helu1
      go_simp
      refine hK.out _ _ (HKK.out _ HB7.out) (fun hHeld => ?_)
      clear hK K
      refine wpAnyH_ready (rs := [12]) (by kernel_rfl) (by simp) ?_
      refine AllReadyH.cons rfl (fun K hK => ?_) AllReadyH.nil
      rw [if_pos (by rfl)]
      go_simp
      refine (HK2.out _ HB7.out).mono ?_
      rintro e w8 ⟨⟨u2, rfl, helu2⟩, hb8⟩
      have HB8 : Hid (Below wr.heap.size wr w8) := HB7.out.trans (hb8.mono HB7.out.size)
      have HELu2 := hid_in helu2
      have hhb8 := hid_in hb8
      clear hb8 helu2
      go_simp
      refine hK.out _ _ (HKK.out _ HB8.out) (fun hHeld => ?_)
      clear hK K
      have HELa2 := hid_in (HELu1.out.below hhb8.out)
      have HELb2 := HELu2
      refine wpAnyH_ready (rs := [13]) (by kernel_rfl) (by simp) ?_
      refine AllReadyH.cons rfl (fun K hK => ?_) AllReadyH.nil
      rw [if_pos (by rfl)]
      go_simp
      refine (items_yes w8 u1 u2 _ HELa2.out HELb2.out HKO.out).mono ?_
      rintro e w9 ⟨rfl, hb9⟩
      have HB9 : Hid (Below wr.heap.size wr w9) := HB8.out.trans (hb9.mono HB8.out.size)
      clear hb9
      go_simp
      refine hK.out _ _ (HKK.out _ HB9.out) (fun hHeld => ?_)
      clear hK K
      refine take_put (i := 14) (d := 57) (v := ?_) rfl rfl (by kernel_rfl) (by kernel_rfl) (by kernel_rfl) (fun _ _ _ h => h) (Or.inl ⟨by kernel_rfl, ?_⟩) hHeld ?_
      rotate_left
      · (intro w hSw; (try dsimp only at hSw); go_simp; (try with_reducible rfl))
      simp only [Act.put, List.setIfInBounds_toArray, List.set_cons_zero, List.set_cons_succ]
      refine take_put (i := 15) (d := 4) (v := ?_) rfl rfl (by kernel_rfl) (by kernel_rfl) (by kernel_rfl) (fun _ _ _ h => h) (Or.inl ⟨by kernel_rfl, ?_⟩) hHeld ?_
      rotate_left
      · (intro w hSw; (try dsimp only at hSw); go_simp; (try with_reducible rfl))
      simp only [Act.put, List.setIfInBounds_toArray, List.set_cons_zero, List.set_cons_succ]
      refine wpAnyH_done (by kernel_rfl) ?_ _
      go_wp2_with fail
      go_ret
      exact ⟨rfl, HBWr.out.trans (HB9.out.mono HBWr.out.size)⟩
    · obtain ⟨y2, hy2⟩ : ∃ y2, ni[c]? = some y2 := ⟨_, List.getElem?_eq_getElem (by omega)⟩
      obtain rfl : _ = Value.int .i64 (c : Int) := hvi.trans (by congr 1; omega)
      obtain ⟨p', cap', bi, oi, hv, hc1, hc2, hpp, hat⟩ := HN5_items (n := ⟨nk, nd, ns, np, ni⟩) HN5.out
      simp only [Value.slice.injEq, true_and] at hv hc1 hpp hat
      obtain ⟨rfl, rfl⟩ := hv
      have hne : ni.map It.cells ≠ [] := by intro h; simp at h; rw [h] at hy2; simp at hy2
      obtain ⟨hq1, hq2⟩ := hpp hne
      subst hq1
      have HR : Hid (wr.rangeAt bi (oi + c * 34) y2.cells) := rangeAt_below (hat c y2.cells (by simp [hy2])) hBy.out hq2
      have n0 : wr.cell? ⟨bi, oi + c * 34, none⟩ = some (.string y2.name) := HR.out 0 _ rfl
      have hyo := HN5.out.ok.items y2 (List.mem_of_getElem? hy2)
      have HYS := hid_in hyo.sum.1
      have HEL : Hid (y2.cells.length = 34) := It.cells_length _ hyo.sum.1
      have HE1 : Hid (∀ v ∈ y2.cells, v.oneCell' = true) := It.one _
      have HST := hid_in (hF.out.step hy2)
      have hwk : IntKind.i64.wrap ((c : Int) - 1) = (c : Int) - 1 := by rw [IntKind.wrap_i64]; omega
      have HYL : Hid (y.cells.length = 34) := It.cells_length _ hyl.out
      have hrw := hRy.out
      have hcl : (c : Int) < (ni.length : Int) := by omega
      have hq := @toList_eq_iff y2.name nm
      obtain ⟨E, HE⟩ : ∃ E, Hid (y2.cells = E) := ⟨_, rfl⟩
      rw [HE.out] at HR HEL HE1
      clear hvi hF hpp hat hne hq2 hyo hrn
      by_cases hnm : y2.name = nm
      · rw [if_pos hnm] at HST
        rw [decide_eq_true hnm] at hq
        have HSP : Hid (splice y.cells 0 E = E) := splice_all _ _ (by rw [HEL.out, HYL.out])
        generalize y2.name = m2 at *
        clear hnm
        generalize y.cells = YC at *
        go_wp2_with (first | (refine wpList_load_mid rfl 51 _ rfl bi _ rfl E _ HR.out Try.underlying51 rfl (by rw [info51, HEL.out]) ?_; simp only [Act.put, List.setIfInBounds_toArray, List.set_cons_zero, List.set_cons_succ]) | (refine wpList_store_Row rfl 51 _ _ rfl w5.heap.size 0 E rfl rfl 51 YC hrw 34 info51 HEL.out (by rw [HYL.out]; decide) HE1.out ?_; intro w8 hr8 hg8 hs8; have HR8 := hid_in hr8; have HG8 := hid_in hg8; clear hr8 hg8 hs8))
        go_roundw
        case measure => simp [intOf]
        case rel =>
          go_light
          refine ⟨c, y2, true, rfl, by go_num, by omega, HST, HYS, ?_, hBy.out.grown HG8.out hBy.out.size (fun q hq => by cases hq; exact Nat.le_refl _)⟩
          show Row _ _ _ _
          rw [HE.out, ← HSP.out]
          exact HR8.out
      · rw [if_neg hnm] at HST
        rw [decide_eq_false hnm] at hq
        generalize y2.name = m2 at *
        clear hnm hrw
        go_wp2_with fail
        go_roundw
        case measure => simp [intOf]
        case rel =>
          go_light
          exact ⟨c, y, f, rfl, by go_num, by omega, HST, hyl, hRy, hBy⟩
end Go.Proofs.Ytbccjomnfclkdaa
