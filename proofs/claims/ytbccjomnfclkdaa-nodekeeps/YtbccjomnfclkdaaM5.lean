/-
  The walk of NodeKeeps.
-/
import Derived.Test.YtbccjomnfclkdaaN21k
import Derived.Test.YtbccjomnfclkdaaN25
import Derived.Deep.CutRange
namespace Go.Proofs.Ytbccjomnfclkdaa
open Go.RowKit
theorem wpList_app {ops : Array Oper} {rest : List Oper} {o : Oper} {a : Act} {w : World} {Q : Exit → Act → World → Prop} (B : Nat) (hgd : o.guard = none) (s x : Operand) (ho : o.op = .call { callee := .builtin .append, args := #[s, x], argTypes := #[33, 33] })
    (v : Value) (xs ys : List Nat) (hs : a.eval s = v) (hown : w.ownsRow B 5 1 v xs.length (xs.map u8v)) (p : Option Addr) (c b off : Nat) (n : Nat) (hx : a.eval x = .slice p n c) (hn : ys.length = n) (hsl : Sl w p ys c b off) (hno : p = none → ys.length = 0 ∧ c = 0) (hlen : xs.length + ys.length ≤ 140737488355328) (hB : B ≤ w.heap.size)
    (h : ∀ v' w', w'.ownsRow B 5 1 v' (xs ++ ys).length ((xs ++ ys).map u8v) → w.grownBy w' v.ownBlock → wpList Try.prog ops Q rest (a.put o.dst v') w') : wpList Try.prog ops Q (o :: rest) a w := by
  subst hn
  obtain ⟨i5i, HI5, HE1, HE2, HE3⟩ := i5h
  refine wpList_append_any hgd s x 33 ho B 5 i5i (.int .u8 0) Try.underlying33 HI5.out HE3.out HE1.out HE2.out rfl v xs.length (xs.map u8v) hs hown p ys.length c (ys.map u8v) hx (by simp) hno hsl.news (one_u8 ys) hlen hB ?_
  intro v' w' h1 h2
  refine h v' w' ?_ h2
  rw [List.length_append, List.map_append]
  exact h1
/-- bytes that the call itself gathers -/
structure RE (W0 W : World) (v : Value) (xs : List Nat) : Prop where
  own : W.ownsRow W0.heap.size 5 1 v xs.length (xs.map u8v)
  bel : Below W0.heap.size W0 W
theorem RE.below {W0 W W' : World} {v : Value} {xs : List Nat} (h : RE W0 W v xs) (hb : Below W.heap.size W W') : RE W0 W' v xs := ⟨own_belowK h.own hb, h.bel.trans (hb.mono h.bel.size)⟩
theorem RE.more {W0 W W' : World} {v v' : Value} {xs ys : List Nat} (h : RE W0 W v xs) (ho : W'.ownsRow W0.heap.size 5 1 v' (xs ++ ys).length ((xs ++ ys).map u8v)) (hg : W.grownBy W' v.ownBlock) : RE W0 W' v' (xs ++ ys) := ⟨ho, own_step h.bel hg h.bel.size rfl h.own⟩
theorem kids_ok {n : Nd} (h : n.ok) : ∀ x ∈ kidsOf n, x.ok := by
  intro x hx
  rcases List.mem_append.1 hx with hx | hx
  · obtain ⟨d, hd, rfl⟩ := List.mem_map.1 hx
    exact ⟨h.parts d hd, i64_1⟩
  · exact h.items x hx
theorem kids_each {n : Nd} (h : n.ok) : ∀ us ∈ (kidsOf n).map It.cells, us.length = 34 := by
  intro us hu
  obtain ⟨x, hx, rfl⟩ := List.mem_map.1 hu
  exact It.cells_length _ (kids_ok h x hx).sum.1
theorem rkids_c (w : World) (v : Value) (n : Nd) (h : IsN w v n) (lp : n.parts.length ≤ 1048576) (li : n.items.length ≤ 1048576) :
    Calls Try.prog 21 #[v] w fun e w' => (∃ u, e = .returned u ∧ Els w' u 34 ((kidsOf n).map It.cells)) ∧ Below w.heap.size w w' := by
  refine (rkids_any w v n h lp li).mono ?_
  rintro e w' ⟨u, rfl, ho, hb⟩
  exact ⟨⟨u, rfl, own_els (xs := (kidsOf n).map It.cells) (by simpa using ho) (kids_each h.ok)⟩, hb⟩
theorem items_yes (w : World) (va vb : Value) (l : List It) (ha : Els w va 34 (l.map It.cells)) (hb : Els w vb 34 (l.map It.cells)) (ok : ∀ x ∈ l, x.ok) : Calls Try.prog 19 #[va, vb] w fun e w' => e = .returned (.bool true) ∧ Below w.heap.size w w' := by
  refine (items_any w va vb l l ha hb ok ok).mono ?_
  rintro e w' ⟨hs, m, rfl⟩
  rcases hs.cases with ⟨h, _⟩ | ⟨_, h⟩
  · exact ⟨h, below_drewN (Below.refl _ _) m⟩
  · exact absurd rfl h
theorem Els.grew {w w' : World} {v : Value} {k : Nat} {xs : List (List Value)} {S : Nat → Prop} (h : Els w v k xs) (hg : Grew w w' S) (hn : ∀ q, v.ownBlock = some q → ¬ S q) : Els w' v k xs := by
  obtain ⟨p, cap, b, o, rfl, h1, h2, h3, h4⟩ := h.ex
  refine ⟨⟨p, cap, b, o, rfl, h1, h2, fun hne => ⟨(h3 hne).1, Nat.lt_of_lt_of_le (h3 hne).2 hg.size⟩, fun i us hi => ?_⟩, h.each⟩
  have hne : xs ≠ [] := by intro e; rw [e] at hi; simp at hi
  obtain ⟨rfl, hlt⟩ := h3 hne
  intro j u hu
  rw [World.cell?_of_block (a := ⟨b, o + i * k + j, none⟩) (hg.block b hlt (hn b rfl))]
  exact h4 i us hi j u hu
theorem IsN.grew {w w' : World} {v : Value} {n : Nd} {lo : Nat} {S : Nat → Prop} (h : IsN w v n) (hg : Grew w w' S) (hf : Fresh lo v) (hS : ∀ q, S q → q < lo) : IsN w' v n := by
  obtain ⟨vp, vi, e, hp, hi⟩ := h.ex
  obtain ⟨f1, f2⟩ := hf _ _ _ _ _ e
  exact ⟨⟨vp, vi, e, hp.grew hg (fun q hq hs => by have := f1 q hq; have := hS q hs; omega), hi.grew hg (fun q hq hs => by have := f2 q hq; have := hS q hs; omega)⟩, h.ok⟩
/-- what was changed since: the blocks g and gl, and what came later -/
structure KS (W2 W6 w8 : World) (g gl : Nat) (W : World) : Prop where
  bel : Below W2.heap.size W2 W
  g6 : Grew W6 W (· = g)
  g8 : Grew w8 W (fun q => q = g ∨ q = gl)
theorem KS.start {W2 W6 w8 : World} {g gl : Nat} (h2 : Below W2.heap.size W2 w8) (h6 : Below W6.heap.size W6 w8) : KS W2 W6 w8 g gl w8 := ⟨h2, Grew.of_below _ h6, Grew.refl _ _⟩
theorem KS.below {W2 W6 w8 W W' : World} {g gl : Nat} (h : KS W2 W6 w8 g gl W) (hb : Below W.heap.size W W') : KS W2 W6 w8 g gl W' := ⟨h.bel.trans (hb.mono h.bel.size), h.g6.trans (Grew.of_below (· = g) hb) (fun _ _ hq => hq), h.g8.trans (Grew.of_below (fun q => q = g ∨ q = gl) hb) (fun _ _ hq => hq)⟩
theorem KS.set {W2 W6 w8 W : World} {g gl : Nat} (h : KS W2 W6 w8 g gl W) (q i : Nat) (v : Value) (h2 : W2.heap.size ≤ q) (h6 : q = g ∨ W6.heap.size ≤ q) (h8 : (q = g ∨ q = gl) ∨ w8.heap.size ≤ q) : KS W2 W6 w8 g gl (W.setCell ⟨q, i, none⟩ v) := by
  have hs := grownBy_setCell W ⟨q, i, none⟩ v
  refine ⟨h.bel.grown hs h.bel.size (fun k e => by cases e; exact h2), h.g6.trans (Grew.of_grown hs) (fun k hk e => ?_), h.g8.trans (Grew.of_grown hs) (fun k hk e => ?_)⟩
  · simp only [Option.some.injEq] at e
    subst e
    rcases h6 with h6 | h6
    · exact h6
    · omega
  · simp only [Option.some.injEq] at e
    subst e
    rcases h8 with h8 | h8
    · exact h8
    · omega
theorem own_rowK {w : World} {B n : Nat} {v : Value} {xs : List Value} (h : w.ownsRow B 51 34 v n xs) (hn : 0 < n) : ∃ g cap vs, v = .slice (some ⟨g, 0, none⟩) n cap ∧ B ≤ g ∧ g < w.heap.size ∧ Row w g vs 51 ∧ n * 34 ≤ vs.length := by
  obtain ⟨h1, ⟨rfl, h0⟩ | ⟨g, cap, cur, rfl, hB, hh, hc, hm, hs, ht⟩⟩ := h
  · omega
  · refine ⟨g, cap, cur.toList, rfl, hB, (Array.getElem?_eq_some_iff.1 hh).1, by simpa [Row] using hh, ?_⟩
    rw [Array.length_toList, hs]
    exact Nat.mul_le_mul_right _ hc
theorem rdec_c (bs : List Nat) (p : Option Addr) (cap b off : Nat) (w : World) (hsl : Sl w p bs cap b off) (z : Nd) (hz : Means bs z ∨ (z = zeroN ∧ ∀ n, ¬ Means bs n)) :
    Calls Try.prog 16 #[.slice p bs.length cap] w fun e w' => (∃ (ok : Bool) (pp : Option Addr) (cp : Nat) (pi : Option Addr) (ci : Nat), e = .returned (.tuple #[.agg #[.int .i64 z.kind, .string z.data, .int .i64 z.size, .slice pp z.parts.length cp, .slice pi z.items.length ci], .bool ok]) ∧ IsN w' (.agg #[.int .i64 z.kind, .string z.data, .int .i64 z.size, .slice pp z.parts.length cp, .slice pi z.items.length ci]) z ∧ Fresh w.heap.size (.agg #[.int .i64 z.kind, .string z.data, .int .i64 z.size, .slice pp z.parts.length cp, .slice pi z.items.length ci])) ∧ Below w.heap.size w w' := by
  refine (rdecode_any bs p cap b off w hsl).mono ?_
  rintro e w' ⟨⟨v, k, rfl, hf, h⟩, hb⟩
  rcases h with ⟨rfl, m, h1, h2⟩ | ⟨rfl, h1, h2⟩
  · have hmz : m = z := by
      rcases hz with h | ⟨_, h⟩
      · exact h1.unique h
      · exact absurd h1 (h m)
    subst hmz
    obtain ⟨pp, cp, pi, ci, rfl⟩ := h2.form
    exact ⟨⟨true, pp, cp, pi, ci, rfl, h2, hf⟩, hb⟩
  · have hmz : z = zeroN := by
      rcases hz with h | ⟨h, _⟩
      · exact absurd h (h1 z)
      · exact h
    subst hmz
    obtain ⟨pp, cp, pi, ci, rfl⟩ := h2.form
    exact ⟨⟨false, pp, cp, pi, ci, rfl, h2, hf⟩, hb⟩
/-- what Encode answers, as a slice of bytes -/
theorem enc_form {w w' : World} {n : Nd} {u : Value} {k : Int} (h : (k = 0 ∧ right n ∧ w'.ownsRow w.heap.size 5 1 u (enc n).length ((enc n).map u8v)) ∨ (k = 21 ∧ ¬ right n ∧ u = .slice none 0 0)) (hok : n.ok) : ∃ p l c gc, u = .slice p l c ∧ l ≤ 4096 ∧ (0 < l → p = some ⟨gc, 0, none⟩ ∧ w.heap.size ≤ gc ∧ l ≤ c ∧ c ≤ 9223372036854775807 ∧ ∃ vs, Row w' gc vs 5 ∧ vs.length = c) := by
  rcases h with ⟨_, hr, ho⟩ | ⟨_, _, rfl⟩
  · obtain ⟨g, cap, vs, rfl, h1, h2, h3, h4, h5, h6, _⟩ := own_row ho (enc_pos hr)
    exact ⟨_, _, _, g, rfl, enc_len hr hok, fun _ => ⟨rfl, h1, h4, h5, vs, h3, h6⟩⟩
  · exact ⟨none, 0, 0, 0, rfl, by omega, fun h => by omega⟩
set_option maxHeartbeats 8000000 in
set_option maxRecDepth 100000 in
theorem nkeeps_any (w : World) (k s : Int) (d : ByteArray) (pP : Option Addr) (lP cP : Nat) (pN : Option Addr) (lN cN : Nat) (pK : Option Addr) (lK cK : Nat) (pS : Option Addr) (lS cS : Nat) (n : Nd) (hsh : n.short) (l1 : n.parts.length ≤ 1048576) (l2 : n.items.length ≤ 1048576)
    (hC : NodeC w (.agg #[.int .i64 k, .string d, .int .i64 s, .slice pP lP cP, .slice pN lN cN, .slice pK lK cK, .slice pS lS cS]) n)
    (bs : List Nat) (p : Option Addr) (cap b off : Nat) (hsl : Sl w p bs cap b off) (hno : p = none → bs.length = 0 ∧ cap = 0) (hre : bs.length ≤ 1048576) :
    Calls Try.prog 8 #[.agg #[.int .i64 k, .string d, .int .i64 s, .slice pP lP cP, .slice pN lN cN, .slice pK lK cK, .slice pS lS cS], .slice p bs.length cap] w fun e w' => e = .returned (.bool true) ∧ Below w.heap.size w w' := by
  have HC := hid_in hC
  have HSH := hid_in hsh
  have HSL := hid_in hsl
  have HNO := hid_in hno
  clear hC hsh hsl hno
  go_enter Try.func8, Try.ntmps8
  go_upto_region 1 with fail
  obtain ⟨W0, HW0, HR0, HB0, HS0⟩ := raw_row w k s d (.slice pP lP cP) (.slice pN lN cN) (.slice pK lK cK) (.slice pS lS cS)
  refine wp_world HW0.out ?_
  clear HW0
  go_upto_region 3 with (first | (go_at_call 9; refine (awake_any W0).mono ?_; rintro e w1 ⟨rfl, hb1⟩; have HB1 := hid_in hb1; clear hb1))
  have HRr1 := hid_in (HR0.out.below HB1.out HR0.out.lt)
  have HBW1 : Hid (Below w.heap.size w w1) := HB0.out.trans (HB1.out.mono HB0.out.size)
  have r0 : w1.cell? ⟨w.heap.size, 0, none⟩ = some (.int .i64 k) := HRr1.out.cell 0
  have r1 : w1.cell? ⟨w.heap.size, 1, none⟩ = some (.string d) := HRr1.out.cell 1
  have r2 : w1.cell? ⟨w.heap.size, 2, none⟩ = some (.int .i64 s) := HRr1.out.cell 2
  have r3 : w1.cell? ⟨w.heap.size, 3, none⟩ = some (.slice pP lP cP) := HRr1.out.cell 3
  have r4 : w1.cell? ⟨w.heap.size, 4, none⟩ = some (.slice pN lN cN) := HRr1.out.cell 4
  have r5 : w1.cell? ⟨w.heap.size, 5, none⟩ = some (.slice pK lK cK) := HRr1.out.cell 5
  have r6 : w1.cell? ⟨w.heap.size, 6, none⟩ = some (.slice pS lS cS) := HRr1.out.cell 6
  obtain ⟨nk, nd, ns, np, ni⟩ := n
  simp only at l1 l2
  have HC1 := hid_in (HC.out w1 HBW1.out)
  simp only at HC1
  go_upto_region 4 with (first | (go_at_call 10; refine HC1.out.mono ?_; rintro e w2 ⟨⟨pp, cp, pi, ci, rfl, hn2, _⟩, hb2⟩; have HN2 := hid_in hn2; have HB12 := hid_in hb2; clear hn2 hb2))
  have HB2 : Hid (Below w.heap.size w w2) := HBW1.out.trans (HB12.out.mono HBW1.out.size)
  obtain ⟨W2, HW2, HR2, HBW2, HS2⟩ := node_row w2 nk ns nd (.slice pp np.length cp) (.slice pi ni.length ci)
  refine wp_world HW2.out ?_
  clear HW2
  have HB3 : Hid (Below w.heap.size w W2) := HB2.out.trans (HBW2.out.mono HB2.out.size)
  have HRr2 := hid_in (HRr1.out.below (HB12.out.trans (HBW2.out.mono HB12.out.size)) HRr1.out.lt)
  have HN3 := hid_in (HN2.out.below HBW2.out)
  clear r0 r1 r2 r3 r4 r5 r6 HC1 HN2 HRr1 HB12 HB1 HB0 HR0 HS0
  have HRE0 : Hid (RE W2 (W2.alloc (.cells #[] 5)) (.slice (some ⟨W2.heap.size, 0, none⟩) 0 0) []) := ⟨World.ownsRow_lit W2 #[] 0 (Nat.le_refl _) (by simp [maxLen]) (by simp), (Below.refl _ _).alloc (Nat.le_refl _) _⟩
  have HSB0 := hid_in ((HSL.out.below HB3.out).below HRE0.out.bel)
  have HLT := hid_in HSL.out.lt
  go_upto_region 5 with (first | (at_builtin; refine wpList_app W2.heap.size rfl _ _ rfl _ bs [7] rfl HRE2.out.own _ _ _ _ 1 rfl rfl HSL7.out (fun h => by cases h) (by simp; omega) HRE2.out.bel.size ?_; intro v4 w4 ho4 hg4; have HRE4 := hid_in (HRE2.out.more ho4 hg4); clear ho4 hg4) | (at_builtin; refine wpList_app W2.heap.size rfl _ _ rfl _ [] bs rfl HRE0.out.own _ _ _ _ _ rfl rfl HSB0.out HNO.out (by simp; omega) HRE0.out.bel.size ?_; intro v3 w3 ho3 hg3; have HRE3 : Hid (RE W2 w3 v3 bs) := HRE0.out.more ho3 hg3; have HRE2 : Hid (RE W2 (w3.alloc (.cells #[.int .u8 7] 5)) v3 bs) := HRE3.out.below ((Below.refl _ _).alloc (Nat.le_refl _) _); have HSL7 : Hid (Sl (w3.alloc (.cells #[.int .u8 7] 5)) (some ⟨w3.heap.size, 0, none⟩) [7] 1 w3.heap.size 0) := sl_lit w3 [7] _ _ rfl (by simp) (by simp); clear ho3 hg3))
  have HBL := hid_in HRE4.out.bel
  obtain ⟨g, cg, vs, rfl, hgB, hglt, hrg, hn1, hn2, hvl, hvt⟩ := own_row HRE4.out.own (by simp)
  have hll : (bs ++ [7]).length = bs.length + 1 := by simp
  have HRG := hid_in hrg
  have HVL := hid_in hvl
  have HSD : Hid (Sl w4 (some ⟨g, 0, none⟩) bs cg g 0) := row_sl (n := bs.length) hrg (by rw [show bs.length = min bs.length (bs ++ [7]).length by simp, ← List.take_take, hvt]; simp) (Nat.le_refl _) HLT.out (by omega) hn2
  have HGB := hid_in (And.intro hgB hglt)
  have HCG := hid_in (And.intro hn1 hn2)
  rw [hll]
  have hst := slice_to g 0 (bs.length + 1) cg bs.length (by omega)
  have HD := hid_in (dec_c bs _ cg g 0 w4 HSD.out (fun h => by cases h) (by omega))
  clear hrg hvt hgB hglt HRE0 HSB0 HRE2 HRE3 HSL7 HRE4
  go_upto_region 6 with (first | (go_at_call 15; refine HD.out.mono ?_; rintro e w5 ⟨⟨z, k5, qp, dp, qi, di, rfl, hz, hf5, hd5⟩, hb5⟩; have HZ := hid_in hz; have HF5 := hid_in hf5; have HD5 := hid_in hd5; have HB45 := hid_in hb5; clear hz hf5 hd5 hb5))
  obtain ⟨W5, HW5, HR5, HBW5, HS5⟩ := node_row w5 z.kind z.size z.data (.slice qp z.parts.length dp) (.slice qi z.items.length di)
  refine wp_world HW5.out ?_
  clear HW5 hst HD
  have HB4W5 : Hid (Below w4.heap.size w4 W5) := HB45.out.trans (HBW5.out.mono HB45.out.size)
  have HB2W5 : Hid (Below W2.heap.size W2 W5) := HBL.out.trans (HB4W5.out.mono HBL.out.size)
  have HZ5 := hid_in (HZ.out.below HBW5.out)
  have HMZ : Hid (Means bs z ∨ (z = zeroN ∧ ∀ n, ¬ Means bs n)) := HD5.out.elim (fun h => .inl h.2) (fun h => .inr h.2)
  have HRD := hid_in (rdec_c bs p cap b off W5 (HSL.out.below (HB3.out.trans (HB2W5.out.mono HB3.out.size))) z HMZ.out)
  go_upto_region 7 with (first | (go_at_call 16; refine HRD.out.mono ?_; rintro e w6 ⟨⟨okr, ap, ep, ai, ei, rfl, hz6, hf6⟩, hb6⟩; have HZ6 := hid_in hz6; have HF6 := hid_in hf6; have HB56 := hid_in hb6; clear hz6 hf6 hb6))
  obtain ⟨W6, HW6, HR6, HBW6, HS6⟩ := node_row w6 z.kind z.size z.data (.slice ap z.parts.length ep) (.slice ai z.items.length ei)
  refine wp_world HW6.out ?_
  clear HW6 HRD
  have HB5W6 : Hid (Below W5.heap.size W5 W6) := HB56.out.trans (HBW6.out.mono HB56.out.size)
  have HB2W6 : Hid (Below W2.heap.size W2 W6) := HB2W5.out.trans (HB5W6.out.mono HB2W5.out.size)
  have HM6 := hid_in (HZ5.out.below HB5W6.out)
  have HV6 := hid_in (HZ6.out.below HBW6.out)
  have HRM6 := hid_in (HR5.out.below HB5W6.out HR5.out.lt)
  have HRG6 := hid_in ((HRG.out.below HB4W5.out HRG.out.lt).below HB5W6.out ((HRG.out.below HB4W5.out HRG.out.lt).lt))
  have HN6 := hid_in (HN3.out.below HB2W6.out)
  have HRN6 := hid_in (HR2.out.below HB2W6.out HR2.out.lt)
  have HSZ : Hid (W2.heap.size ≤ g ∧ g < w4.heap.size ∧ w4.heap.size ≤ w5.heap.size ∧ w5.heap.size < W5.heap.size ∧ W5.heap.size ≤ w6.heap.size ∧ w6.heap.size < W6.heap.size ∧ w2.heap.size < W2.heap.size) := ⟨HGB.out.1, HGB.out.2, HB45.out.size, by have := HS5.out; omega, HB56.out.size, by have := HS6.out; omega, by have := HS2.out; omega⟩
  clear HGB HB45 HB56 HS5 HS6 HBW5 HBW6 HZ HZ5 HZ6 HR5 HB4W5 HB2W5 HB5W6 HRG HSD HS2
  have HK := hid_in (kids_any W6 _ _ HN6.out l1 l2)
  have a0 : W6.cell? ⟨w2.heap.size, 0, none⟩ = some (.int .i64 nk) := HRN6.out.cell 0
  have a1 : W6.cell? ⟨w2.heap.size, 1, none⟩ = some (.string nd) := HRN6.out.cell 1
  have a2 : W6.cell? ⟨w2.heap.size, 2, none⟩ = some (.int .i64 ns) := HRN6.out.cell 2
  have a3 : W6.cell? ⟨w2.heap.size, 3, none⟩ = some (.slice pp np.length cp) := HRN6.out.cell 3
  have a4 : W6.cell? ⟨w2.heap.size, 4, none⟩ = some (.slice pi ni.length ci) := HRN6.out.cell 4
  go_upto_region 8 with (first | (go_at_call 20; refine HK.out.mono ?_; rintro e w7 ⟨ul, rfl, hol, hb7⟩; have HOL := hid_in hol; have HB67 := hid_in hb7; clear hol hb7))
  have hrn7 := HRN6.out.below HB67.out HRN6.out.lt
  clear a0 a1 a2 a3 a4 HK
  have HK := hid_in (kids_any w7 _ _ (HN6.out.below HB67.out) l1 l2)
  have a0 : w7.cell? ⟨w2.heap.size, 0, none⟩ = some (.int .i64 nk) := hrn7.cell 0
  have a1 : w7.cell? ⟨w2.heap.size, 1, none⟩ = some (.string nd) := hrn7.cell 1
  have a2 : w7.cell? ⟨w2.heap.size, 2, none⟩ = some (.int .i64 ns) := hrn7.cell 2
  have a3 : w7.cell? ⟨w2.heap.size, 3, none⟩ = some (.slice pp np.length cp) := hrn7.cell 3
  have a4 : w7.cell? ⟨w2.heap.size, 4, none⟩ = some (.slice pi ni.length ci) := hrn7.cell 4
  clear hrn7
  go_upto_region 9 with (first | (go_at_call 20; refine HK.out.mono ?_; rintro e w8 ⟨uk, rfl, hok8, hb8⟩; have HOK8 := hid_in hok8; have HB78 := hid_in hb8; clear hok8 hb8))
  clear a0 a1 a2 a3 a4 HK
  have HB68 : Hid (Below W6.heap.size W6 w8) := HB67.out.trans (HB78.out.mono HB67.out.size)
  have HB28 : Hid (Below W2.heap.size W2 w8) := HB2W6.out.trans (HB68.out.mono HB2W6.out.size)
  generalize hLk : (kidsOf ⟨nk, nd, ns, np, ni⟩).length = Lk at *
  have HLk : Hid (Lk ≤ 2097152) := by show _ ≤ _; rw [← hLk]; unfold kidsOf; simp only [List.length_append, List.length_map]; omega
  have HLE := hid_in hLk
  clear hLk
  obtain ⟨pl, gl, cl, hul, HGL⟩ : ∃ pl gl cl, ul = .slice pl Lk cl ∧ Hid ((Lk = 0 → gl = g) ∧ (0 < Lk → pl = some ⟨gl, 0, none⟩ ∧ W6.heap.size ≤ gl ∧ gl < w7.heap.size ∧ ∃ vs, Row w8 gl vs 51 ∧ Lk * 34 ≤ vs.length)) := by
    by_cases h0 : 0 < Lk
    · obtain ⟨q, c, vs, rfl, h1, h2, h3, h4⟩ := own_rowK HOL.out h0
      exact ⟨_, q, c, rfl, fun h => by omega, fun _ => ⟨rfl, h1, h2, vs, h3.below HB78.out h2, h4⟩⟩
    · obtain ⟨q, c, rfl⟩ := own_form HOL.out
      exact ⟨q, g, c, rfl, fun _ => rfl, fun h => absurd h h0⟩
  subst hul
  have HKS0 : Hid (KS W2 W6 w8 g gl w8) := KS.start HB28.out HB68.out
  have HRG8 := hid_in (HRG6.out.below HB68.out HRG6.out.lt)
  clear HRG6 HOL
  generalize hLr : bs.length + 1 = Lr at *
  have HLr : Hid (Lr ≤ cg ∧ Lr ≤ 1048577 ∧ vs.length = cg) := ⟨by have := HCG.out.1; omega, by omega, HVL.out⟩
  clear hll hLr hn1 hn2 hvl HCG
  go_wp2_with fail
  go_loopw [13] (fun vi W => ∃ i : Nat, vi = .int .i64 (i : Int) ∧ i ≤ Lr ∧ Hid (∃ vs, Row W g vs 5 ∧ vs.length = cg) ∧ Hid (KS W2 W6 w8 g gl W) ∧ Hid (Grew w8 W (· = g))) (fun vi _ => Lr - (intOf vi).toNat)
  case atStart => exact ⟨0, rfl, by omega, ⟨vs, HRG8.out, HLr.out.2.2⟩, HKS0, Grew.refl _ _⟩
  case round =>
    obtain ⟨i, rfl, hi, hRow, hKS, hGA⟩ := hrel
    clear HKS0 HRG8
    have hLr2 : (Lr : Int) ≤ 1048577 := by have := HLr.out; omega
    by_cases hlt : i < Lr
    · obtain ⟨vs2, hr2, hv2⟩ := hRow.out
      obtain ⟨u0, hu0⟩ : ∃ u0, vs2[i]? = some u0 := ⟨_, List.getElem?_eq_getElem (by have := HLr.out; omega)⟩
      have cg0 : wr.cell? ⟨g, i, none⟩ = some u0 := by rw [hr2.cell]; exact hu0
      have fg0 := hr2.frozen i
      have HR2n := hid_in (hr2.set_same i (.int .u8 238))
      have HKn := hid_in (hKS.out.set g i (.int .u8 238) HSZ.out.1 (Or.inl rfl) (Or.inl (Or.inl rfl)))
      have HGn : Hid (Grew w8 (wr.setCell ⟨g, i, none⟩ (.int .u8 238)) (· = g)) := hGA.out.trans (Grew.of_grown (grownBy_setCell wr ⟨g, i, none⟩ (.int .u8 238))) (fun q _ h => by simpa using h)
      have HV2 := hid_in hv2
      clear hr2 hu0 hv2
      go_wp2_with fail
      go_roundw
      case measure => simp [intOf]; omega
      case rel =>
        go_light
        exact ⟨i + 1, by go_num, by omega, ⟨_, HR2n.out, by rw [List.length_set]; exact HV2.out⟩, HKn, HGn⟩
    · obtain rfl : Lr = i := by omega
      have HKA := hKS
      clear hKS hRow hi
      have HROWL : Hid (0 < Lk → ∃ vs, Row wr gl vs 51 ∧ Lk * 34 ≤ vs.length) := fun h => by
        obtain ⟨_, h1, _, vs3, h3, h4⟩ := HGL.out.2 h
        exact ⟨vs3, h3.grew hGA.out (fun e => by have := HSZ.out; omega), h4⟩
      clear hGA
      go_wp2_with fail
      go_loopw [14] (fun vi W => ∃ i : Nat, vi = .int .i64 (i : Int) ∧ i ≤ Lk ∧ Hid (0 < Lk → ∃ vs, Row W gl vs 51 ∧ Lk * 34 ≤ vs.length) ∧ Hid (KS W2 W6 w8 g gl W)) (fun vi _ => Lk - (intOf vi).toNat)
      case atStart => exact ⟨0, rfl, by omega, HROWL, HKA⟩
      case round =>
        obtain ⟨i, rfl, hi, hRow, hKS⟩ := hrel
        clear HKA HROWL
        have hLk2 : (Lk : Int) ≤ 2097152 := by have := HLk.out; omega
        by_cases hlt : i < Lk
        · obtain ⟨vs2, hr2, hv2⟩ := hRow.out (by omega)
          obtain ⟨hpl, hg6, hg7, _⟩ := HGL.out.2 (by omega)
          subst hpl
          obtain ⟨u0, hu0⟩ : ∃ u0, vs2[i * 34]? = some u0 := ⟨_, List.getElem?_eq_getElem (by have : i * 34 < Lk * 34 := Nat.mul_lt_mul_of_pos_right hlt (by decide); omega)⟩
          have cg0 : wr.cell? ⟨gl, i * 34, none⟩ = some u0 := by rw [hr2.cell]; exact hu0
          have fg0 := hr2.frozen (i * 34)
          have HR2n := hid_in (hr2.set_same (i * 34) (.string ⟨#[115, 112, 111, 105, 108, 116]⟩))
          have HKn := hid_in (hKS.out.set gl (i * 34) (.string ⟨#[115, 112, 111, 105, 108, 116]⟩) (Nat.le_trans HB2W6.out.size hg6) (Or.inr hg6) (Or.inl (Or.inr rfl)))
          have HV2 := hid_in hv2
          clear hr2 hu0 hv2 hg6 hg7
          go_wp2_with fail
          go_roundw
          case measure => simp [intOf]; omega
          case rel =>
            go_light
            exact ⟨i + 1, by go_num, by omega, fun _ => ⟨_, HR2n.out, by rw [List.length_set]; exact HV2.out⟩, HKn⟩
        · obtain rfl : Lk = i := by omega
          have HKB := hKS
          clear hKS hRow hi
          have hrn := HR2.out.below HKB.out.bel HR2.out.lt
          have a0 : wr.cell? ⟨w2.heap.size, 0, none⟩ = some (.int .i64 nk) := hrn.cell 0
          have a1 : wr.cell? ⟨w2.heap.size, 1, none⟩ = some (.string nd) := hrn.cell 1
          have a2 : wr.cell? ⟨w2.heap.size, 2, none⟩ = some (.int .i64 ns) := hrn.cell 2
          have a3 : wr.cell? ⟨w2.heap.size, 3, none⟩ = some (.slice pp np.length cp) := hrn.cell 3
          have a4 : wr.cell? ⟨w2.heap.size, 4, none⟩ = some (.slice pi ni.length ci) := hrn.cell 4
          clear hrn
          have HE := hid_in (encode_any wr _ _ (HN3.out.below HKB.out.bel) HSH.out)
          go_upto_region 18 with (first | (go_at_call 11; refine HE.out.mono ?_; rintro e wC ⟨⟨uc, ke, rfl, hu⟩, hbc⟩; have HBC := hid_in hbc; have HU := hid_in hu; clear hbc hu))
          obtain ⟨pc, lc, cc, gc, hform, hlc, HGC⟩ := enc_form HU.out HN3.out.ok
          subst hform
          have HGC := hid_in HGC
          have HKC := hid_in (HKB.out.below HBC.out)
          have HB8B : Hid (w8.heap.size ≤ wr.heap.size) := HKB.out.g8.size
          clear a0 a1 a2 a3 a4 HE HU HKB
          generalize wr.heap.size = hb_ at *
          go_wp2_with fail
          go_loopw [17] (fun vi W => ∃ i : Nat, vi = .int .i64 (i : Int) ∧ i ≤ lc ∧ Hid (0 < lc → ∃ vs, Row W gc vs 5 ∧ vs.length = cc) ∧ Hid (KS W2 W6 w8 g gl W)) (fun vi _ => lc - (intOf vi).toNat)
          case atStart => exact ⟨0, rfl, by omega, fun h => (HGC.out h).2.2.2.2, HKC⟩
          case round =>
            obtain ⟨i, rfl, hi, hRow, hKS⟩ := hrel
            clear HKC
            by_cases hlt : i < lc
            · obtain ⟨vs2, hr2, hv2⟩ := hRow.out (by omega)
              obtain ⟨hpc, hgc, hcc1, hcc2, _⟩ := HGC.out (by omega)
              subst hpc
              obtain ⟨u0, hu0⟩ : ∃ u0, vs2[i]? = some u0 := ⟨_, List.getElem?_eq_getElem (by omega)⟩
              have cg0 : wr.cell? ⟨gc, i, none⟩ = some u0 := by rw [hr2.cell]; exact hu0
              have fg0 := hr2.frozen i
              have HR2n := hid_in (hr2.set_same i (.int .u8 238))
              have HKn := hid_in (hKS.out.set gc i (.int .u8 238) (by have := HB8B.out; have := HB28.out.size; omega) (Or.inr (by have := HB8B.out; have := HB68.out.size; omega)) (Or.inr (by have := HB8B.out; omega)))
              have HV2 := hid_in hv2
              clear hr2 hu0 hv2 hgc hcc1 hcc2
              go_wp2_with fail
              go_roundw
              case measure => simp [intOf]; omega
              case rel =>
                go_light
                exact ⟨i + 1, by go_num, by omega, fun _ => ⟨_, HR2n.out, by rw [List.length_set]; exact HV2.out⟩, HKn⟩
            · obtain rfl : lc = i := by omega
              have HKD := hKS
              clear hKS hRow hi
              have HBD : Hid (Below wr.heap.size wr wr.drew) := below_drewN (Below.refl _ wr) 1
              obtain ⟨zk, zd, zs, zp, zi⟩ := z
              have HKK : Hid (∀ W, Below wr.heap.size wr W → (fun W => W.cell? ⟨w5.heap.size, 0, none⟩ = some (.int .i64 zk) ∧ W.cell? ⟨w5.heap.size, 1, none⟩ = some (.string zd) ∧ W.cell? ⟨w5.heap.size, 2, none⟩ = some (.int .i64 zs) ∧ W.cell? ⟨w5.heap.size, 3, none⟩ = some (.slice qp zp.length dp) ∧ W.cell? ⟨w5.heap.size, 4, none⟩ = some (.slice qi zi.length di) ∧ W.cell? ⟨w6.heap.size, 0, none⟩ = some (.int .i64 zk) ∧ W.cell? ⟨w6.heap.size, 1, none⟩ = some (.string zd) ∧ W.cell? ⟨w6.heap.size, 2, none⟩ = some (.int .i64 zs) ∧ W.cell? ⟨w6.heap.size, 3, none⟩ = some (.slice ap zp.length ep) ∧ W.cell? ⟨w6.heap.size, 4, none⟩ = some (.slice ai zi.length ei) ∧ W.cell? ⟨w2.heap.size, 0, none⟩ = some (.int .i64 nk) ∧ W.cell? ⟨w2.heap.size, 1, none⟩ = some (.string nd) ∧ W.cell? ⟨w2.heap.size, 2, none⟩ = some (.int .i64 ns) ∧ W.cell? ⟨w2.heap.size, 3, none⟩ = some (.slice pp np.length cp) ∧ W.cell? ⟨w2.heap.size, 4, none⟩ = some (.slice pi ni.length ci) ∧ W.cell? ⟨w.heap.size, 0, none⟩ = some (.int .i64 k) ∧ W.cell? ⟨w.heap.size, 1, none⟩ = some (.string d) ∧ W.cell? ⟨w.heap.size, 2, none⟩ = some (.int .i64 s) ∧ W.cell? ⟨w.heap.size, 3, none⟩ = some (.slice pP lP cP) ∧ W.cell? ⟨w.heap.size, 4, none⟩ = some (.slice pN lN cN) ∧ W.cell? ⟨w.heap.size, 5, none⟩ = some (.slice pK lK cK) ∧ W.cell? ⟨w.heap.size, 6, none⟩ = some (.slice pS lS cS)) W) := fun W hW => by
                have hk := HKD.out.below hW
                have hm := HRM6.out.grew hk.g6 (fun h => by have := HSZ.out; omega)
                have hv := HR6.out.grew hk.g6 (fun h => by have := HSZ.out; omega)
                have hn := HR2.out.below hk.bel HR2.out.lt
                have hr := HRr2.out.below hk.bel HRr2.out.lt
                exact ⟨hm.cell 0, hm.cell 1, hm.cell 2, hm.cell 3, hm.cell 4, hv.cell 0, hv.cell 1, hv.cell 2, hv.cell 3, hv.cell 4, hn.cell 0, hn.cell 1, hn.cell 2, hn.cell 3, hn.cell 4, hr.cell 0, hr.cell 1, hr.cell 2, hr.cell 3, hr.cell 4, hr.cell 5, hr.cell 6⟩
              have HBWr : Hid (Below w.heap.size w wr) := HB3.out.trans (HKD.out.bel.mono HB3.out.size)
              have HMr : Hid (∀ W, Below wr.heap.size wr W → IsN W (.agg #[.int .i64 zk, .string zd, .int .i64 zs, .slice qp zp.length dp, .slice qi zi.length di]) ⟨zk, zd, zs, zp, zi⟩) := fun W hW => HM6.out.grew (HKD.out.below hW).g6 HF5.out (fun q hq => by have := HSZ.out; omega)
              have HVr : Hid (∀ W, Below wr.heap.size wr W → IsN W (.agg #[.int .i64 zk, .string zd, .int .i64 zs, .slice ap zp.length ep, .slice ai zi.length ei]) ⟨zk, zd, zs, zp, zi⟩) := fun W hW => HV6.out.grew (HKD.out.below hW).g6 HF6.out (fun q hq => by have := HSZ.out; omega)
              have HNr : Hid (∀ W, Below wr.heap.size wr W → IsN W (.agg #[.int .i64 nk, .string nd, .int .i64 ns, .slice pp np.length cp, .slice pi ni.length ci]) ⟨nk, nd, ns, np, ni⟩) := fun W hW => HN3.out.below (HKD.out.below hW).bel
              have HKr : Hid (∀ W, Below wr.heap.size wr W → Els W uk 34 ((kidsOf ⟨nk, nd, ns, np, ni⟩).map It.cells)) := fun W hW => by
                have h1 := own_grewK HOK8.out (HKD.out.below hW).g8 (fun q hq hs => by
                  have h2 := own_geK HOK8.out q hq
                  rcases hs with rfl | rfl
                  · have := HSZ.out; have := HB67.out.size; omega
                  · by_cases h0 : 0 < Lk
                    · have := (HGL.out.2 h0).2.2.1; omega
                    · have := HGL.out.1 (by omega); have := HSZ.out; have := HB67.out.size; omega)
                rw [← HLE.out] at h1
                exact own_els (xs := (kidsOf ⟨nk, nd, ns, np, ni⟩).map It.cells) (by simpa using h1) (kids_each HN3.out.ok)
              obtain ⟨pk, ck, huk⟩ := own_form HOK8.out
              subst huk
              have HS1 := hid_in (same_yes wr.drew _ _ _ _ (HMr.out _ HBD.out) (HVr.out _ HBD.out) rfl)
              have HKO := hid_in (kids_ok HN3.out.ok)
              have HRK := hid_in (fun W (hW : Below wr.heap.size wr W) => rkids_c W _ _ (HNr.out W hW) l1 l2)
              try simp only at HD5
              have HCN := hid_in (fun W (hW : Below wr.heap.size wr W) => HC.out W (HBWr.out.trans (hW.mono HBWr.out.size)))
              try simp only at HCN
              clear HM6 HV6 HN6 HRN6 HRM6 HR6 HRr2 HN3 HR2 HKD HGL HOK8 HF5 HF6 HC HSL HGC
              go_upto_region 22 with fail
              rcases HD5.out with ⟨rfl, hme⟩ | ⟨rfl, hzz, _⟩
              · have hkz : ¬ (zk = 0) := by rcases hme.1 with ⟨h, _⟩ | ⟨h, _⟩ | ⟨h, _⟩ <;> simp only at h <;> omega
                have hkz2 : (zk == 0) = false := by rw [beq_eq_false_iff_ne]; exact hkz
                clear hme HD5 HMZ
                refine wp_region_held_drew (S := (fun W => W.cell? ⟨w5.heap.size, 0, none⟩ = some (.int .i64 zk) ∧ W.cell? ⟨w5.heap.size, 1, none⟩ = some (.string zd) ∧ W.cell? ⟨w5.heap.size, 2, none⟩ = some (.int .i64 zs) ∧ W.cell? ⟨w5.heap.size, 3, none⟩ = some (.slice qp zp.length dp) ∧ W.cell? ⟨w5.heap.size, 4, none⟩ = some (.slice qi zi.length di) ∧ W.cell? ⟨w6.heap.size, 0, none⟩ = some (.int .i64 zk) ∧ W.cell? ⟨w6.heap.size, 1, none⟩ = some (.string zd) ∧ W.cell? ⟨w6.heap.size, 2, none⟩ = some (.int .i64 zs) ∧ W.cell? ⟨w6.heap.size, 3, none⟩ = some (.slice ap zp.length ep) ∧ W.cell? ⟨w6.heap.size, 4, none⟩ = some (.slice ai zi.length ei) ∧ W.cell? ⟨w2.heap.size, 0, none⟩ = some (.int .i64 nk) ∧ W.cell? ⟨w2.heap.size, 1, none⟩ = some (.string nd) ∧ W.cell? ⟨w2.heap.size, 2, none⟩ = some (.int .i64 ns) ∧ W.cell? ⟨w2.heap.size, 3, none⟩ = some (.slice pp np.length cp) ∧ W.cell? ⟨w2.heap.size, 4, none⟩ = some (.slice pi ni.length ci) ∧ W.cell? ⟨w.heap.size, 0, none⟩ = some (.int .i64 k) ∧ W.cell? ⟨w.heap.size, 1, none⟩ = some (.string d) ∧ W.cell? ⟨w.heap.size, 2, none⟩ = some (.int .i64 s) ∧ W.cell? ⟨w.heap.size, 3, none⟩ = some (.slice pP lP cP) ∧ W.cell? ⟨w.heap.size, 4, none⟩ = some (.slice pN lN cN) ∧ W.cell? ⟨w.heap.size, 5, none⟩ = some (.slice pK lK cK) ∧ W.cell? ⟨w.heap.size, 6, none⟩ = some (.slice pS lS cS))) (by kernel_rfl) (HKK.out _ HBD.out) (fun hHeld => ?_)
                refine take_put (i := 0) (d := 77) (v := ?_) rfl rfl (by kernel_rfl) (by kernel_rfl) (by kernel_rfl) (fun _ _ _ h => h) (Or.inl ⟨by kernel_rfl, ?_⟩) hHeld ?_
                rotate_left
                · (intro w hSw; (try dsimp only at hSw); go_simp; (try with_reducible rfl))
                simp only [Act.put, List.setIfInBounds_toArray, List.set_cons_zero, List.set_cons_succ]
                refine take_put (i := 1) (d := 78) (v := ?_) rfl rfl (by kernel_rfl) (by kernel_rfl) (by kernel_rfl) (fun _ _ _ h => h) (Or.inl ⟨by kernel_rfl, ?_⟩) hHeld ?_
                rotate_left
                · (intro w hSw; (try dsimp only at hSw); go_simp; (try with_reducible rfl))
                simp only [Act.put, List.setIfInBounds_toArray, List.set_cons_zero, List.set_cons_succ]
                refine wpAnyH_ready (rs := [2]) (by kernel_rfl) (by simp) ?_
                refine AllReadyH.cons rfl (fun K hK => ?_) AllReadyH.nil
                rw [if_pos (by rfl)]
                go_simp
                refine HS1.out.mono ?_
                rintro e x1 ⟨rfl, hx1⟩
                have HX1 : Hid (Below wr.heap.size wr x1) := HBD.out.trans (hx1.mono HBD.out.size)
                clear hx1
                go_simp
                refine hK.out _ _ (HKK.out _ HX1.out) (fun hHeld => ?_)
                clear hK K
                refine take_put (i := 3) (d := 80) (v := ?_) rfl rfl (by kernel_rfl) (by kernel_rfl) (by kernel_rfl) (fun _ _ _ h => h) (Or.inl ⟨by kernel_rfl, ?_⟩) hHeld ?_
                rotate_left
                · (intro w hSw; (try dsimp only at hSw); go_simp; (try with_reducible rfl))
                simp only [Act.put, List.setIfInBounds_toArray, List.set_cons_zero, List.set_cons_succ]
                refine take_put (i := 4) (d := 81) (v := ?_) rfl rfl (by kernel_rfl) (by kernel_rfl) (by kernel_rfl) (fun _ _ _ h => h) (Or.inl ⟨by kernel_rfl, ?_⟩) hHeld ?_
                rotate_left
                · (intro w hSw; (try dsimp only at hSw); go_simp; (try with_reducible rfl))
                simp only [Act.put, List.setIfInBounds_toArray, List.set_cons_zero, List.set_cons_succ]
                refine take_put (i := 5) (d := 82) (v := ?_) rfl rfl (by kernel_rfl) (by kernel_rfl) (by kernel_rfl) (fun _ _ _ h => h) (Or.inl ⟨by kernel_rfl, ?_⟩) hHeld ?_
                rotate_left
                · (intro w hSw; (try dsimp only at hSw); go_simp; (try with_reducible rfl))
                simp only [Act.put, List.setIfInBounds_toArray, List.set_cons_zero, List.set_cons_succ]
                refine take_put (i := 6) (d := 83) (v := ?_) rfl rfl (by kernel_rfl) (by kernel_rfl) (by kernel_rfl) (fun _ _ _ h => h) (Or.inl ⟨by kernel_rfl, ?_⟩) hHeld ?_
                rotate_left
                · (intro w hSw; (try dsimp only at hSw); go_simp; (try with_reducible rfl))
                simp only [Act.put, List.setIfInBounds_toArray, List.set_cons_zero, List.set_cons_succ]
                refine take_put (i := 7) (d := 84) (v := ?_) rfl rfl (by kernel_rfl) (by kernel_rfl) (by kernel_rfl) (fun _ _ _ h => h) (Or.inl ⟨by kernel_rfl, ?_⟩) hHeld ?_
                rotate_left
                · (intro w hSw; (try dsimp only at hSw); go_simp; (try with_reducible rfl))
                simp only [Act.put, List.setIfInBounds_toArray, List.set_cons_zero, List.set_cons_succ]
                refine take_put (i := 8) (d := 85) (v := .bool true) rfl rfl (by kernel_rfl) (by kernel_rfl) (by kernel_rfl) (fun _ _ _ h => h) (Or.inl ⟨by kernel_rfl, fun w hSw => ?_⟩) hHeld ?_
                · ((try dsimp only at hSw); go_simp)
                simp only [Act.put, List.setIfInBounds_toArray, List.set_cons_zero, List.set_cons_succ]
                refine take_put (i := 9) (d := 86) (v := .bool true) rfl rfl (by kernel_rfl) (by kernel_rfl) (by kernel_rfl) (fun _ _ _ h => h) (Or.inl ⟨by kernel_rfl, fun w hSw => ?_⟩) hHeld ?_
                · ((try dsimp only at hSw); go_simp)
                simp only [Act.put, List.setIfInBounds_toArray, List.set_cons_zero, List.set_cons_succ]
                refine take_put (i := 10) (d := 87) (v := .bool true) rfl rfl (by kernel_rfl) (by kernel_rfl) (by kernel_rfl) (fun _ _ _ h => h) (Or.inl ⟨by kernel_rfl, fun w hSw => ?_⟩) hHeld ?_
                · ((try dsimp only at hSw); go_simp)
                simp only [Act.put, List.setIfInBounds_toArray, List.set_cons_zero, List.set_cons_succ]
                refine take_put (i := 11) (d := 88) (v := ?_) rfl rfl (by kernel_rfl) (by kernel_rfl) (by kernel_rfl) (fun _ _ _ h => h) (Or.inl ⟨by kernel_rfl, ?_⟩) hHeld ?_
                rotate_left
                · (intro w hSw; (try dsimp only at hSw); go_simp; (try with_reducible rfl))
                simp only [Act.put, List.setIfInBounds_toArray, List.set_cons_zero, List.set_cons_succ]
                refine take_put (i := 12) (d := 89) (v := ?_) rfl rfl (by kernel_rfl) (by kernel_rfl) (by kernel_rfl) (fun _ _ _ h => h) (Or.inl ⟨by kernel_rfl, ?_⟩) hHeld ?_
                rotate_left
                · (intro w hSw; (try dsimp only at hSw); go_simp; (try with_reducible rfl))
                simp only [Act.put, List.setIfInBounds_toArray, List.set_cons_zero, List.set_cons_succ]
                refine take_put (i := 13) (d := 90) (v := ?_) rfl rfl (by kernel_rfl) (by kernel_rfl) (by kernel_rfl) (fun _ _ _ h => h) (Or.inl ⟨by kernel_rfl, ?_⟩) hHeld ?_
                rotate_left
                · (intro w hSw; (try dsimp only at hSw); go_simp; (try with_reducible rfl))
                simp only [Act.put, List.setIfInBounds_toArray, List.set_cons_zero, List.set_cons_succ]
                refine wpAnyH_ready (rs := [14]) (by kernel_rfl) (by simp) ?_
                refine AllReadyH.cons rfl (fun K hK => ?_) AllReadyH.nil
                rw [if_pos (by rfl)]
                go_simp
                refine (HCN.out _ HX1.out).mono ?_
                rintro e x2 ⟨⟨tp, fp, ti, fi, rfl, hx2n, _⟩, hx2⟩
                have HX2 : Hid (Below wr.heap.size wr x2) := HX1.out.trans (hx2.mono HX1.out.size)
                have HX2N := hid_in hx2n
                clear hx2 hx2n
                go_simp
                refine hK.out _ _ (HKK.out _ HX2.out) (fun hHeld => ?_)
                clear hK K
                refine wpAnyH_ready (rs := [15]) (by kernel_rfl) (by simp) ?_
                refine AllReadyH.cons rfl (fun K hK => ?_) AllReadyH.nil
                rw [if_pos (by rfl)]
                go_simp
                refine (same_yes x2 _ _ _ _ (HNr.out _ HX2.out) HX2N.out rfl).mono ?_
                rintro e x3 ⟨rfl, hx3⟩
                have HX3 : Hid (Below wr.heap.size wr x3) := HX2.out.trans (hx3.mono HX2.out.size)
                clear hx3
                go_simp
                refine hK.out _ _ (HKK.out _ HX3.out) (fun hHeld => ?_)
                clear hK K
                refine take_put (i := 16) (d := 93) (v := ?_) rfl rfl (by kernel_rfl) (by kernel_rfl) (by kernel_rfl) (fun _ _ _ h => h) (Or.inl ⟨by kernel_rfl, ?_⟩) hHeld ?_
                rotate_left
                · (intro w hSw; (try dsimp only at hSw); go_simp; (try with_reducible rfl))
                simp only [Act.put, List.setIfInBounds_toArray, List.set_cons_zero, List.set_cons_succ]
                refine take_put (i := 17) (d := 94) (v := ?_) rfl rfl (by kernel_rfl) (by kernel_rfl) (by kernel_rfl) (fun _ _ _ h => h) (Or.inl ⟨by kernel_rfl, ?_⟩) hHeld ?_
                rotate_left
                · (intro w hSw; (try dsimp only at hSw); go_simp; (try with_reducible rfl))
                simp only [Act.put, List.setIfInBounds_toArray, List.set_cons_zero, List.set_cons_succ]
                refine take_put (i := 18) (d := 95) (v := ?_) rfl rfl (by kernel_rfl) (by kernel_rfl) (by kernel_rfl) (fun _ _ _ h => h) (Or.inl ⟨by kernel_rfl, ?_⟩) hHeld ?_
                rotate_left
                · (intro w hSw; (try dsimp only at hSw); go_simp; (try with_reducible rfl))
                simp only [Act.put, List.setIfInBounds_toArray, List.set_cons_zero, List.set_cons_succ]
                refine take_put (i := 19) (d := 96) (v := ?_) rfl rfl (by kernel_rfl) (by kernel_rfl) (by kernel_rfl) (fun _ _ _ h => h) (Or.inl ⟨by kernel_rfl, ?_⟩) hHeld ?_
                rotate_left
                · (intro w hSw; (try dsimp only at hSw); go_simp; (try with_reducible rfl))
                simp only [Act.put, List.setIfInBounds_toArray, List.set_cons_zero, List.set_cons_succ]
                refine wpAnyH_ready (rs := [20]) (by kernel_rfl) (by simp) ?_
                refine AllReadyH.cons rfl (fun K hK => ?_) AllReadyH.nil
                rw [if_pos (by rfl)]
                go_simp
                refine (HRK.out _ HX3.out).mono ?_
                rintro e x4 ⟨⟨u4, rfl, hx4e⟩, hx4⟩
                have HX4 : Hid (Below wr.heap.size wr x4) := HX3.out.trans (hx4.mono HX3.out.size)
                have HX4E := hid_in hx4e
                clear hx4 hx4e
                go_simp
                refine hK.out _ _ (HKK.out _ HX4.out) (fun hHeld => ?_)
                clear hK K
                refine wpAnyH_ready (rs := [21]) (by kernel_rfl) (by simp) ?_
                refine AllReadyH.cons rfl (fun K hK => ?_) AllReadyH.nil
                rw [if_pos (by rfl)]
                go_simp
                refine (items_yes x4 _ u4 _ (HKr.out _ HX4.out) HX4E.out HKO.out).mono ?_
                rintro e x5 ⟨rfl, hx5⟩
                have HX5 : Hid (Below wr.heap.size wr x5) := HX4.out.trans (hx5.mono HX4.out.size)
                clear hx5
                go_simp
                refine hK.out _ _ (HKK.out _ HX5.out) (fun hHeld => ?_)
                clear hK K
                refine take_put (i := 22) (d := 99) (v := ?_) rfl rfl (by kernel_rfl) (by kernel_rfl) (by kernel_rfl) (fun _ _ _ h => h) (Or.inl ⟨by kernel_rfl, ?_⟩) hHeld ?_
                rotate_left
                · (intro w hSw; (try dsimp only at hSw); go_simp; (try with_reducible rfl))
                simp only [Act.put, List.setIfInBounds_toArray, List.set_cons_zero, List.set_cons_succ]
                refine take_put (i := 23) (d := 4) (v := ?_) rfl rfl (by kernel_rfl) (by kernel_rfl) (by kernel_rfl) (fun _ _ _ h => h) (Or.inl ⟨by kernel_rfl, ?_⟩) hHeld ?_
                rotate_left
                · (intro w hSw; (try dsimp only at hSw); go_simp; (try with_reducible rfl))
                simp only [Act.put, List.setIfInBounds_toArray, List.set_cons_zero, List.set_cons_succ]
                refine wpAnyH_done (by kernel_rfl) ?_ _
                go_wp2_with fail
                go_ret
                exact ⟨rfl, HBWr.out.trans (HX5.out.mono HBWr.out.size)⟩
              · have hkz : zk = 0 := congrArg Nd.kind hzz
                clear hzz HD5 HMZ
                subst hkz
                refine wp_region_held_drew (S := (fun W => W.cell? ⟨w5.heap.size, 0, none⟩ = some (.int .i64 0) ∧ W.cell? ⟨w5.heap.size, 1, none⟩ = some (.string zd) ∧ W.cell? ⟨w5.heap.size, 2, none⟩ = some (.int .i64 zs) ∧ W.cell? ⟨w5.heap.size, 3, none⟩ = some (.slice qp zp.length dp) ∧ W.cell? ⟨w5.heap.size, 4, none⟩ = some (.slice qi zi.length di) ∧ W.cell? ⟨w6.heap.size, 0, none⟩ = some (.int .i64 0) ∧ W.cell? ⟨w6.heap.size, 1, none⟩ = some (.string zd) ∧ W.cell? ⟨w6.heap.size, 2, none⟩ = some (.int .i64 zs) ∧ W.cell? ⟨w6.heap.size, 3, none⟩ = some (.slice ap zp.length ep) ∧ W.cell? ⟨w6.heap.size, 4, none⟩ = some (.slice ai zi.length ei) ∧ W.cell? ⟨w2.heap.size, 0, none⟩ = some (.int .i64 nk) ∧ W.cell? ⟨w2.heap.size, 1, none⟩ = some (.string nd) ∧ W.cell? ⟨w2.heap.size, 2, none⟩ = some (.int .i64 ns) ∧ W.cell? ⟨w2.heap.size, 3, none⟩ = some (.slice pp np.length cp) ∧ W.cell? ⟨w2.heap.size, 4, none⟩ = some (.slice pi ni.length ci) ∧ W.cell? ⟨w.heap.size, 0, none⟩ = some (.int .i64 k) ∧ W.cell? ⟨w.heap.size, 1, none⟩ = some (.string d) ∧ W.cell? ⟨w.heap.size, 2, none⟩ = some (.int .i64 s) ∧ W.cell? ⟨w.heap.size, 3, none⟩ = some (.slice pP lP cP) ∧ W.cell? ⟨w.heap.size, 4, none⟩ = some (.slice pN lN cN) ∧ W.cell? ⟨w.heap.size, 5, none⟩ = some (.slice pK lK cK) ∧ W.cell? ⟨w.heap.size, 6, none⟩ = some (.slice pS lS cS))) (by kernel_rfl) (HKK.out _ HBD.out) (fun hHeld => ?_)
                refine take_put (i := 0) (d := 77) (v := ?_) rfl rfl (by kernel_rfl) (by kernel_rfl) (by kernel_rfl) (fun _ _ _ h => h) (Or.inl ⟨by kernel_rfl, ?_⟩) hHeld ?_
                rotate_left
                · (intro w hSw; (try dsimp only at hSw); go_simp; (try with_reducible rfl))
                simp only [Act.put, List.setIfInBounds_toArray, List.set_cons_zero, List.set_cons_succ]
                refine take_put (i := 1) (d := 78) (v := ?_) rfl rfl (by kernel_rfl) (by kernel_rfl) (by kernel_rfl) (fun _ _ _ h => h) (Or.inl ⟨by kernel_rfl, ?_⟩) hHeld ?_
                rotate_left
                · (intro w hSw; (try dsimp only at hSw); go_simp; (try with_reducible rfl))
                simp only [Act.put, List.setIfInBounds_toArray, List.set_cons_zero, List.set_cons_succ]
                refine wpAnyH_ready (rs := [2]) (by kernel_rfl) (by simp) ?_
                refine AllReadyH.cons rfl (fun K hK => ?_) AllReadyH.nil
                rw [if_pos (by rfl)]
                go_simp
                refine HS1.out.mono ?_
                rintro e x1 ⟨rfl, hx1⟩
                have HX1 : Hid (Below wr.heap.size wr x1) := HBD.out.trans (hx1.mono HBD.out.size)
                clear hx1
                go_simp
                refine hK.out _ _ (HKK.out _ HX1.out) (fun hHeld => ?_)
                clear hK K
                refine take_put (i := 3) (d := 80) (v := ?_) rfl rfl (by kernel_rfl) (by kernel_rfl) (by kernel_rfl) (fun _ _ _ h => h) (Or.inl ⟨by kernel_rfl, ?_⟩) hHeld ?_
                rotate_left
                · (intro w hSw; (try dsimp only at hSw); go_simp; (try with_reducible rfl))
                simp only [Act.put, List.setIfInBounds_toArray, List.set_cons_zero, List.set_cons_succ]
                refine take_put (i := 4) (d := 81) (v := ?_) rfl rfl (by kernel_rfl) (by kernel_rfl) (by kernel_rfl) (fun _ _ _ h => h) (Or.inl ⟨by kernel_rfl, ?_⟩) hHeld ?_
                rotate_left
                · (intro w hSw; (try dsimp only at hSw); go_simp; (try with_reducible rfl))
                simp only [Act.put, List.setIfInBounds_toArray, List.set_cons_zero, List.set_cons_succ]
                refine take_put (i := 5) (d := 82) (v := ?_) rfl rfl (by kernel_rfl) (by kernel_rfl) (by kernel_rfl) (fun _ _ _ h => h) (Or.inl ⟨by kernel_rfl, ?_⟩) hHeld ?_
                rotate_left
                · (intro w hSw; (try dsimp only at hSw); go_simp; (try with_reducible rfl))
                simp only [Act.put, List.setIfInBounds_toArray, List.set_cons_zero, List.set_cons_succ]
                refine take_put (i := 6) (d := 83) (v := ?_) rfl rfl (by kernel_rfl) (by kernel_rfl) (by kernel_rfl) (fun _ _ _ h => h) (Or.inl ⟨by kernel_rfl, ?_⟩) hHeld ?_
                rotate_left
                · (intro w hSw; (try dsimp only at hSw); go_simp; (try with_reducible rfl))
                simp only [Act.put, List.setIfInBounds_toArray, List.set_cons_zero, List.set_cons_succ]
                refine take_put (i := 7) (d := 84) (v := ?_) rfl rfl (by kernel_rfl) (by kernel_rfl) (by kernel_rfl) (fun _ _ _ h => h) (Or.inl ⟨by kernel_rfl, ?_⟩) hHeld ?_
                rotate_left
                · (intro w hSw; (try dsimp only at hSw); go_simp; (try with_reducible rfl))
                simp only [Act.put, List.setIfInBounds_toArray, List.set_cons_zero, List.set_cons_succ]
                refine take_put (i := 8) (d := 85) (v := ?_) rfl rfl (by kernel_rfl) (by kernel_rfl) (by kernel_rfl) (fun _ _ _ h => h) (Or.inl ⟨by kernel_rfl, ?_⟩) hHeld ?_
                rotate_left
                · (intro w hSw; (try dsimp only at hSw); go_simp; (try with_reducible rfl))
                simp only [Act.put, List.setIfInBounds_toArray, List.set_cons_zero, List.set_cons_succ]
                refine take_put (i := 9) (d := 86) (v := ?_) rfl rfl (by kernel_rfl) (by kernel_rfl) (by kernel_rfl) (fun _ _ _ h => h) (Or.inl ⟨by kernel_rfl, ?_⟩) hHeld ?_
                rotate_left
                · (intro w hSw; (try dsimp only at hSw); go_simp; (try with_reducible rfl))
                simp only [Act.put, List.setIfInBounds_toArray, List.set_cons_zero, List.set_cons_succ]
                refine take_put (i := 10) (d := 87) (v := ?_) rfl rfl (by kernel_rfl) (by kernel_rfl) (by kernel_rfl) (fun _ _ _ h => h) (Or.inl ⟨by kernel_rfl, ?_⟩) hHeld ?_
                rotate_left
                · (intro w hSw; (try dsimp only at hSw); go_simp; (try with_reducible rfl))
                simp only [Act.put, List.setIfInBounds_toArray, List.set_cons_zero, List.set_cons_succ]
                refine take_put (i := 11) (d := 88) (v := ?_) rfl rfl (by kernel_rfl) (by kernel_rfl) (by kernel_rfl) (fun _ _ _ h => h) (Or.inl ⟨by kernel_rfl, ?_⟩) hHeld ?_
                rotate_left
                · (intro w hSw; (try dsimp only at hSw); go_simp; (try with_reducible rfl))
                simp only [Act.put, List.setIfInBounds_toArray, List.set_cons_zero, List.set_cons_succ]
                refine take_put (i := 12) (d := 89) (v := ?_) rfl rfl (by kernel_rfl) (by kernel_rfl) (by kernel_rfl) (fun _ _ _ h => h) (Or.inl ⟨by kernel_rfl, ?_⟩) hHeld ?_
                rotate_left
                · (intro w hSw; (try dsimp only at hSw); go_simp; (try with_reducible rfl))
                simp only [Act.put, List.setIfInBounds_toArray, List.set_cons_zero, List.set_cons_succ]
                refine take_put (i := 13) (d := 90) (v := ?_) rfl rfl (by kernel_rfl) (by kernel_rfl) (by kernel_rfl) (fun _ _ _ h => h) (Or.inl ⟨by kernel_rfl, ?_⟩) hHeld ?_
                rotate_left
                · (intro w hSw; (try dsimp only at hSw); go_simp; (try with_reducible rfl))
                simp only [Act.put, List.setIfInBounds_toArray, List.set_cons_zero, List.set_cons_succ]
                refine wpAnyH_ready (rs := [14]) (by kernel_rfl) (by simp) ?_
                refine AllReadyH.cons rfl (fun K hK => ?_) AllReadyH.nil
                rw [if_pos (by rfl)]
                go_simp
                refine (HCN.out _ HX1.out).mono ?_
                rintro e x2 ⟨⟨tp, fp, ti, fi, rfl, hx2n, _⟩, hx2⟩
                have HX2 : Hid (Below wr.heap.size wr x2) := HX1.out.trans (hx2.mono HX1.out.size)
                have HX2N := hid_in hx2n
                clear hx2 hx2n
                go_simp
                refine hK.out _ _ (HKK.out _ HX2.out) (fun hHeld => ?_)
                clear hK K
                refine wpAnyH_ready (rs := [15]) (by kernel_rfl) (by simp) ?_
                refine AllReadyH.cons rfl (fun K hK => ?_) AllReadyH.nil
                rw [if_pos (by rfl)]
                go_simp
                refine (same_yes x2 _ _ _ _ (HNr.out _ HX2.out) HX2N.out rfl).mono ?_
                rintro e x3 ⟨rfl, hx3⟩
                have HX3 : Hid (Below wr.heap.size wr x3) := HX2.out.trans (hx3.mono HX2.out.size)
                clear hx3
                go_simp
                refine hK.out _ _ (HKK.out _ HX3.out) (fun hHeld => ?_)
                clear hK K
                refine take_put (i := 16) (d := 93) (v := ?_) rfl rfl (by kernel_rfl) (by kernel_rfl) (by kernel_rfl) (fun _ _ _ h => h) (Or.inl ⟨by kernel_rfl, ?_⟩) hHeld ?_
                rotate_left
                · (intro w hSw; (try dsimp only at hSw); go_simp; (try with_reducible rfl))
                simp only [Act.put, List.setIfInBounds_toArray, List.set_cons_zero, List.set_cons_succ]
                refine take_put (i := 17) (d := 94) (v := ?_) rfl rfl (by kernel_rfl) (by kernel_rfl) (by kernel_rfl) (fun _ _ _ h => h) (Or.inl ⟨by kernel_rfl, ?_⟩) hHeld ?_
                rotate_left
                · (intro w hSw; (try dsimp only at hSw); go_simp; (try with_reducible rfl))
                simp only [Act.put, List.setIfInBounds_toArray, List.set_cons_zero, List.set_cons_succ]
                refine take_put (i := 18) (d := 95) (v := ?_) rfl rfl (by kernel_rfl) (by kernel_rfl) (by kernel_rfl) (fun _ _ _ h => h) (Or.inl ⟨by kernel_rfl, ?_⟩) hHeld ?_
                rotate_left
                · (intro w hSw; (try dsimp only at hSw); go_simp; (try with_reducible rfl))
                simp only [Act.put, List.setIfInBounds_toArray, List.set_cons_zero, List.set_cons_succ]
                refine take_put (i := 19) (d := 96) (v := ?_) rfl rfl (by kernel_rfl) (by kernel_rfl) (by kernel_rfl) (fun _ _ _ h => h) (Or.inl ⟨by kernel_rfl, ?_⟩) hHeld ?_
                rotate_left
                · (intro w hSw; (try dsimp only at hSw); go_simp; (try with_reducible rfl))
                simp only [Act.put, List.setIfInBounds_toArray, List.set_cons_zero, List.set_cons_succ]
                refine wpAnyH_ready (rs := [20]) (by kernel_rfl) (by simp) ?_
                refine AllReadyH.cons rfl (fun K hK => ?_) AllReadyH.nil
                rw [if_pos (by rfl)]
                go_simp
                refine (HRK.out _ HX3.out).mono ?_
                rintro e x4 ⟨⟨u4, rfl, hx4e⟩, hx4⟩
                have HX4 : Hid (Below wr.heap.size wr x4) := HX3.out.trans (hx4.mono HX3.out.size)
                have HX4E := hid_in hx4e
                clear hx4 hx4e
                go_simp
                refine hK.out _ _ (HKK.out _ HX4.out) (fun hHeld => ?_)
                clear hK K
                refine wpAnyH_ready (rs := [21]) (by kernel_rfl) (by simp) ?_
                refine AllReadyH.cons rfl (fun K hK => ?_) AllReadyH.nil
                rw [if_pos (by rfl)]
                go_simp
                refine (items_yes x4 _ u4 _ (HKr.out _ HX4.out) HX4E.out HKO.out).mono ?_
                rintro e x5 ⟨rfl, hx5⟩
                have HX5 : Hid (Below wr.heap.size wr x5) := HX4.out.trans (hx5.mono HX4.out.size)
                clear hx5
                go_simp
                refine hK.out _ _ (HKK.out _ HX5.out) (fun hHeld => ?_)
                clear hK K
                refine take_put (i := 22) (d := 99) (v := ?_) rfl rfl (by kernel_rfl) (by kernel_rfl) (by kernel_rfl) (fun _ _ _ h => h) (Or.inl ⟨by kernel_rfl, ?_⟩) hHeld ?_
                rotate_left
                · (intro w hSw; (try dsimp only at hSw); go_simp; (try with_reducible rfl))
                simp only [Act.put, List.setIfInBounds_toArray, List.set_cons_zero, List.set_cons_succ]
                refine take_put (i := 23) (d := 4) (v := ?_) rfl rfl (by kernel_rfl) (by kernel_rfl) (by kernel_rfl) (fun _ _ _ h => h) (Or.inl ⟨by kernel_rfl, ?_⟩) hHeld ?_
                rotate_left
                · (intro w hSw; (try dsimp only at hSw); go_simp; (try with_reducible rfl))
                simp only [Act.put, List.setIfInBounds_toArray, List.set_cons_zero, List.set_cons_succ]
                refine wpAnyH_done (by kernel_rfl) ?_ _
                go_wp2_with fail
                go_ret
                exact ⟨rfl, HBWr.out.trans (HX5.out.mono HBWr.out.size)⟩
end Go.Proofs.Ytbccjomnfclkdaa
