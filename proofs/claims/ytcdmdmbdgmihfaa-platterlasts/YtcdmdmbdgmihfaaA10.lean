/-
  A script that is read; fits; do.
-/
import Derived.Test.YtcdmdmbdgmihfaaA00
import Derived.Test.YtcdmdmbdgmihfaaA01
import Derived.Test.YtcdmdmbdgmihfaaA02
import Derived.Test.YtcdmdmbdgmihfaaA03
import Derived.Test.YtcdmdmbdgmihfaaA04
import Derived.Test.YtcdmdmbdgmihfaaA05
import Derived.Test.YtcdmdmbdgmihfaaA06
import Derived.Test.YtcdmdmbdgmihfaaA07
import Derived.Test.YtcdmdmbdgmihfaaA08
import Derived.Test.YtcdmdmbdgmihfaaA09
namespace Go.Proofs.Ytcdmdmbdgmihfaa.Pt
open Go.RowKit
open Nd (Row wp_world grownBy_setCell below_of_grown grownBy_trans grown_of_below grownBy_refl u8v Grew Moved Sl hid_in i5h str)
/-- a call, as it comes in -/
structure Cl1 where
  K : Int
  a : Int
  bv : Value
  n : Int
  kv : Value
  xs : List Nat
  ks : List Int
def Cl1.cells (c : Cl1) : List Value := [.int .i64 c.K, .int .i64 c.a, c.bv, .int .i64 c.n, c.kv]
/-- its bytes and its numbers lie in the world -/
structure Cl1.ok (w : World) (c : Cl1) : Prop where
  b : ∃ p cap b off, c.bv = .slice p c.xs.length cap ∧ Sl w p c.xs cap b off ∧ (p = none → c.xs.length = 0 ∧ cap = 0)
  k : ∃ p cap b o, c.kv = .slice p c.ks.length cap ∧ c.ks.length ≤ 9223372036854775807 ∧ (c.ks ≠ [] → p = some ⟨b, o, none⟩ ∧ b < w.heap.size) ∧ ∀ (i : Nat) k, c.ks[i]? = some k → w.cell? ⟨b, o + i, none⟩ = some (.int .i64 k)
  n : c.n ≤ 9223372036854775807
theorem Cl1.ok.below {w w' : World} {c : Cl1} (h : c.ok w) (hb : Below w.heap.size w w') : c.ok w' := by
  obtain ⟨⟨p, cap, b, off, h1, h2, h3⟩, ⟨q, kc, kb, ko, h4, h5, h6, h7⟩, h8⟩ := h
  refine ⟨⟨p, cap, b, off, h1, h2.below hb, h3⟩, ⟨q, kc, kb, ko, h4, h5, fun hne => ⟨(h6 hne).1, Nat.lt_of_lt_of_le (h6 hne).2 hb.size⟩, fun i k hk => ?_⟩, h8⟩
  have hne : c.ks ≠ [] := by intro e; rw [e] at hk; simp at hk
  rw [hb.cell (p := ⟨kb, ko + i, none⟩) (h6 hne).2]
  exact h7 i k hk
/-- numbers, whatever is turned of what is new -/
theorem Cl1.ok.kp {a w : World} {c : Cl1} (h : c.ok a) (hb : Below a.heap.size a w) (S : Nat → Prop) (hS : ∀ k, S k → a.heap.size ≤ k) : Kp w S c.kv c.ks := by
  obtain ⟨-, ⟨q, kc, kb, ko, h4, h5, h6, h7⟩, -⟩ := h
  refine ⟨q, kc, h4, h5, fun hne => ⟨kb, ko, (h6 hne).1, fun W hW i k hk => ?_⟩⟩
  have hlt := (h6 hne).2
  have e : W.cell? ⟨kb, ko + i, none⟩ = a.cell? ⟨kb, ko + i, none⟩ := by
    refine World.cell?_of_block ?_
    show W.heap[kb]? = a.heap[kb]?
    rw [hW.block kb (Nat.lt_of_lt_of_le hlt hb.size) (fun hs => by have := hS kb hs; omega), hb.block kb hlt]
  rw [e]
  exact h7 i k hk
theorem Cl1.ok.sl {a w : World} {c : Cl1} (h : c.ok a) (hb : Below a.heap.size a w) : ∃ p cap b off, c.bv = .slice p c.xs.length cap ∧ Sl w p c.xs cap b off ∧ (p = none → c.xs.length = 0 ∧ cap = 0) := (h.below hb).b
theorem Cl1.ok.cv {a w : World} {c : Cl1} {r : Nat} (h : c.ok a) (hb : Below a.heap.size a w) (hr : a.heap.size ≤ r) : Cv w r c.bv c.xs := by
  intro W hW
  obtain ⟨p, cap, b, off, h1, h2, -⟩ := h.sl (below_of_grown hb hW hb.size hr)
  rw [h1]
  exact Nd.conv_sl h2
/-- a value that reads as calls -/
def Cls (w : World) (v : Value) (ss : List Cl1) : Prop := ∃ p cap b o, v = .slice p ss.length cap ∧ ss.length ≤ cap ∧ cap ≤ 9223372036854775807 ∧ (ss ≠ [] → p = some ⟨b, o, none⟩ ∧ b < w.heap.size) ∧ (∀ (i : Nat) x, ss[i]? = some x → w.rangeAt b (o + i * 5) x.cells) ∧ ∀ x ∈ ss, x.ok w
theorem Cls.at_ {w : World} {v : Value} {ss : List Cl1} (h : Cls w v ss) : ∃ p c, v = .slice p ss.length c ∧ ss.length ≤ 9223372036854775807 ∧ (∀ x ∈ ss, x.ok w) ∧ (ss ≠ [] → ∃ b o, p = some ⟨b, o, none⟩ ∧ ∀ W, Below w.heap.size w W → ∀ (i : Nat) x, ss[i]? = some x → W.rangeAt b (o + i * 5) x.cells) := by
  obtain ⟨p, cap, b, o, h1, h2, h3, h4, h5, h6⟩ := h
  refine ⟨p, cap, h1, by omega, h6, fun hne => ⟨b, o, (h4 hne).1, fun W hb i x hi j u hj => ?_⟩⟩
  rw [hb.cell (p := ⟨b, _, none⟩) (h4 hne).2]
  exact h5 i x hi j u hj
theorem Cls.below {w w' : World} {v : Value} {ss : List Cl1} (h : Cls w v ss) (hb : Below w.heap.size w w') : Cls w' v ss := by
  obtain ⟨p, cap, b, o, h1, h2, h3, h4, h5, h6⟩ := h
  refine ⟨p, cap, b, o, h1, h2, h3, fun hn => ⟨(h4 hn).1, Nat.lt_of_lt_of_le (h4 hn).2 hb.size⟩, fun i x hi j u hj => ?_, fun x hx => (h6 x hx).below hb⟩
  have hne : ss ≠ [] := by rintro rfl; simp at hi
  rw [hb.cell (p := ⟨b, _, none⟩) (h4 hne).2]
  exact h5 i x hi j u hj
set_option maxHeartbeats 2000000 in
set_option maxRecDepth 100000 in
theorem fits_any (w : World) (v : Value) (ss : List Cl1) (h : Cls w v ss) :
    Calls Try.prog 8 #[v] w fun e w' => (∃ t, e = .returned (.bool t)) ∧ w' = w := by
  obtain ⟨p, c, rfl, hl, hok, hat⟩ := h.at_
  have HAT := hid_in hat
  have HOK := hid_in hok
  have hM : (ss.length : Int) ≤ 9223372036854775807 := by omega
  generalize hn : ss.length = n at *
  have HNN := hid_in hn
  clear h hat hl hn hok
  go_enter Try.func8, Try.ntmps8
  go_wp2
  go_loopw [4, 3] (fun vj vs W => W = w ∧ ∃ (j : Nat) (s : Int), j ≤ n ∧ vj = .int .i64 (j : Int) ∧ vs = .int .i64 s) (fun vj _ _ => n - (intOf vj).toNat)
  case atStart => exact ⟨rfl, 0, 0, by omega, rfl, rfl⟩
  case round =>
    obtain ⟨rfl, j, s, hj, rfl, rfl⟩ := hrel
    by_cases hlt : j < n
    · have hlo : j < ss.length := by rw [HNN.out]; exact hlt
      obtain ⟨b, o, rfl, hcs⟩ := HAT.out (by intro e; rw [e] at hlo; simp at hlo)
      have k2 := hcs wr (Below.refl _ _) j _ (List.getElem?_eq_getElem hlo) 2 _ rfl
      obtain ⟨⟨q, qc, qb, qo, e1, -, -⟩, -, -⟩ := HOK.out _ (List.getElem_mem hlo)
      rw [e1] at k2
      generalize (ss[j]).xs.length = xl at *
      have HL := hid_in hlt
      have hlt2 : (j : Int) < (n : Int) := by omega
      clear hj hlt hlo hcs e1
      go_wp2
      exact ⟨⟨trivial, j + 1, _, by have := HL.out; omega, by go_num, rfl⟩, by have := HL.out; simp [intOf]; omega⟩
    · obtain rfl : j = n := by omega
      clear hj hlt
      go_wp2
      go_ret
      exact ⟨⟨_, rfl⟩, rfl⟩
/-- a row of bytes while it is written over -/
def Fil (w4 : World) (q cap : Nat) (W : World) : Prop := ∃ vs, Row W q vs 5 ∧ vs.length = cap ∧ w4.grownBy W (some q)
theorem Fil.set {w4 W : World} {q cap : Nat} (h : Fil w4 q cap W) (j : Nat) (u : Value) : Fil w4 q cap (W.setCell ⟨q, j, none⟩ u) := by
  obtain ⟨vs, h1, h2, h3⟩ := h
  exact ⟨vs.set j u, h1.set_same j u, by rw [List.length_set]; exact h2, grownBy_trans h3 (grownBy_setCell _ _ _)⟩
theorem Fil.some {w4 W : World} {q cap : Nat} (h : Fil w4 q cap W) {j : Nat} (hj : j < cap) : ∃ u, W.cell? ⟨q, j, none⟩ = .some u ∧ W.frozen? ⟨q, j, none⟩ = false := by
  obtain ⟨vs, h1, h2, h3⟩ := h
  exact ⟨vs[j]'(by omega), by rw [h1.cell, List.getElem?_eq_getElem (by omega)], h1.frozen j⟩
theorem Fil.fin {w w3 w4 W : World} {q cap B g : Nat} {v0 v1 : Value} {d0 d : Dk} (h : Fil w4 q cap W) (hb : Below w.heap.size w w3) (hs : Stp w3 w4 B g v0 v1 d) (hp0 : PtV w B g v0 v1 d0) (hq1 : w.heap.size ≤ q) (hq2 : q < w3.heap.size) : Stp w W B g v0 v1 d := by
  obtain ⟨vs, -, -, h3⟩ := h
  obtain ⟨u0, u1, hp, hg, hsub⟩ := hs
  have hfs := fun k hk => (hp0.fs_lt k hk).2
  refine ⟨u0, u1, hp.keep (Grew.of_grown h3) (fun k hk e => ?_), ((Grew.of_below (FS g v0 v1) hb).trans hg (fun _ _ e => e)).trans (Grew.of_grown h3) (fun k hk e => ?_), fun k hk => ?_⟩
  · obtain rfl := Option.some.inj e
    rcases hsub _ hk with e | e
    · have := hfs _ e; omega
    · omega
  · obtain rfl := Option.some.inj e
    omega
  · rcases hsub _ hk with e | e
    · exact .inl e
    · exact .inr (Nat.le_trans hb.size e)
set_option maxHeartbeats 1000000 in
set_option maxRecDepth 100000 in
theorem do_1 {w : World} {B g : Nat} {v0 v1 : Value} {d : Dk} (h : PtV w B g v0 v1 d) (c : Cl1) (hK : (IntKind.u64.wrap c.K).tmod 6 = 1)  : Calls Try.prog 10 #[.pointer (some ⟨g, 0, none⟩), .agg #[.int .i64 c.K, .int .i64 c.a, c.bv, .int .i64 c.n, c.kv]] w fun e w' => e = .returned (.int .i64 (begE 1 c.a d)) ∧ Stp w w' B g v0 v1 (synD c.a d) := by
  have HH := hid_in h
  obtain ⟨w1, HW1⟩ : ∃ w1, Hid (w.alloc (.cells #[.int .i64 c.K, .int .i64 c.a, c.bv, .int .i64 c.n, c.kv] 37) = w1) := ⟨_, hid_in rfl⟩
  have HX1 : Hid (Row w1 w.heap.size [.int .i64 c.K, .int .i64 c.a, c.bv, .int .i64 c.n, c.kv] 37) := hid_in (by rw [← HW1.out]; exact Row.new w _ 37)
  have HB1 : Hid (Below w.heap.size w w1) := hid_in (by rw [← HW1.out]; exact (Below.refl _ _).alloc (Nat.le_refl _) _)
  obtain ⟨bx, HBX⟩ : ∃ bx, Hid (w.heap.size = bx) := ⟨_, hid_in rfl⟩
  have HP1 := hid_in (h.below HB1.out)
  have HC := hid_in (sync_any HP1.out c.a)
  generalize c.K = K at *
  generalize c.a = a at *
  generalize c.bv = bv at *
  generalize c.n = n at *
  generalize c.kv = kv at *
  clear h
  go_enter Try.func10, Try.ntmps10
  go_upto_region 1 with fail
  refine wp_world HW1.out ?_
  rw [HBX.out]
  rw [HBX.out] at HX1
  have k0 := HX1.out.cell 0
  have k1 := HX1.out.cell 1
  have k2 := HX1.out.cell 2
  have k3 := HX1.out.cell 3
  have k4 := HX1.out.cell 4
  simp only [List.getElem?_cons_succ, List.getElem?_cons_zero] at k0 k1 k2 k3 k4
  go_wp2_with (first | (go_at_call 18; refine HC.out.mono ?_; rintro e w2 ⟨rfl, hs2⟩; have HS2 := hid_in hs2; clear hs2))
  go_ret
  exact ⟨rfl, Stp.ahead HB1.out HS2.out⟩
set_option maxHeartbeats 1000000 in
set_option maxRecDepth 100000 in
theorem do_2 {w : World} {B g : Nat} {v0 v1 : Value} {d : Dk} (h : PtV w B g v0 v1 d) (c : Cl1) (hK : (IntKind.u64.wrap c.K).tmod 6 = 2)  : Calls Try.prog 10 #[.pointer (some ⟨g, 0, none⟩), .agg #[.int .i64 c.K, .int .i64 c.a, c.bv, .int .i64 c.n, c.kv]] w fun e w' => e = .returned (.int .i64 (begE 2 c.a d)) ∧ Stp w w' B g v0 v1 (wipD c.a d) := by
  have HH := hid_in h
  obtain ⟨w1, HW1⟩ : ∃ w1, Hid (w.alloc (.cells #[.int .i64 c.K, .int .i64 c.a, c.bv, .int .i64 c.n, c.kv] 37) = w1) := ⟨_, hid_in rfl⟩
  have HX1 : Hid (Row w1 w.heap.size [.int .i64 c.K, .int .i64 c.a, c.bv, .int .i64 c.n, c.kv] 37) := hid_in (by rw [← HW1.out]; exact Row.new w _ 37)
  have HB1 : Hid (Below w.heap.size w w1) := hid_in (by rw [← HW1.out]; exact (Below.refl _ _).alloc (Nat.le_refl _) _)
  obtain ⟨bx, HBX⟩ : ∃ bx, Hid (w.heap.size = bx) := ⟨_, hid_in rfl⟩
  have HP1 := hid_in (h.below HB1.out)
  have HC := hid_in (wipe_any HP1.out c.a)
  generalize c.K = K at *
  generalize c.a = a at *
  generalize c.bv = bv at *
  generalize c.n = n at *
  generalize c.kv = kv at *
  clear h
  go_enter Try.func10, Try.ntmps10
  go_upto_region 1 with fail
  refine wp_world HW1.out ?_
  rw [HBX.out]
  rw [HBX.out] at HX1
  have k0 := HX1.out.cell 0
  have k1 := HX1.out.cell 1
  have k2 := HX1.out.cell 2
  have k3 := HX1.out.cell 3
  have k4 := HX1.out.cell 4
  simp only [List.getElem?_cons_succ, List.getElem?_cons_zero] at k0 k1 k2 k3 k4
  go_wp2_with (first | (go_at_call 22; refine HC.out.mono ?_; rintro e w2 ⟨rfl, hs2⟩; have HS2 := hid_in hs2; clear hs2))
  go_ret
  exact ⟨rfl, Stp.ahead HB1.out HS2.out⟩
set_option maxHeartbeats 1000000 in
set_option maxRecDepth 100000 in
theorem do_3 {w : World} {B g : Nat} {v0 v1 : Value} {d : Dk} (h : PtV w B g v0 v1 d) (c : Cl1) (hK : (IntKind.u64.wrap c.K).tmod 6 = 3)  : Calls Try.prog 10 #[.pointer (some ⟨g, 0, none⟩), .agg #[.int .i64 c.K, .int .i64 c.a, c.bv, .int .i64 c.n, c.kv]] w fun e w' => e = .returned (.int .i64 (begE 3 (oth d) d)) ∧ Stp w w' B g v0 v1 (fliD d) := by
  have HH := hid_in h
  obtain ⟨w1, HW1⟩ : ∃ w1, Hid (w.alloc (.cells #[.int .i64 c.K, .int .i64 c.a, c.bv, .int .i64 c.n, c.kv] 37) = w1) := ⟨_, hid_in rfl⟩
  have HX1 : Hid (Row w1 w.heap.size [.int .i64 c.K, .int .i64 c.a, c.bv, .int .i64 c.n, c.kv] 37) := hid_in (by rw [← HW1.out]; exact Row.new w _ 37)
  have HB1 : Hid (Below w.heap.size w w1) := hid_in (by rw [← HW1.out]; exact (Below.refl _ _).alloc (Nat.le_refl _) _)
  obtain ⟨bx, HBX⟩ : ∃ bx, Hid (w.heap.size = bx) := ⟨_, hid_in rfl⟩
  have HP1 := hid_in (h.below HB1.out)
  have HC := hid_in (flip_any HP1.out)
  generalize c.K = K at *
  generalize c.a = a at *
  generalize c.bv = bv at *
  generalize c.n = n at *
  generalize c.kv = kv at *
  clear h
  go_enter Try.func10, Try.ntmps10
  go_upto_region 1 with fail
  refine wp_world HW1.out ?_
  rw [HBX.out]
  rw [HBX.out] at HX1
  have k0 := HX1.out.cell 0
  have k1 := HX1.out.cell 1
  have k2 := HX1.out.cell 2
  have k3 := HX1.out.cell 3
  have k4 := HX1.out.cell 4
  simp only [List.getElem?_cons_succ, List.getElem?_cons_zero] at k0 k1 k2 k3 k4
  go_wp2_with (first | (go_at_call 21; refine HC.out.mono ?_; rintro e w2 ⟨rfl, hs2⟩; have HS2 := hid_in hs2; clear hs2))
  go_ret
  exact ⟨rfl, Stp.ahead HB1.out HS2.out⟩
set_option maxHeartbeats 1000000 in
set_option maxRecDepth 100000 in
theorem do_4 {w : World} {B g : Nat} {v0 v1 : Value} {d : Dk} (h : PtV w B g v0 v1 d) (c : Cl1) (hK : (IntKind.u64.wrap c.K).tmod 6 = 4) (hn : c.n ≤ 9223372036854775807) : Calls Try.prog 10 #[.pointer (some ⟨g, 0, none⟩), .agg #[.int .i64 c.K, .int .i64 c.a, c.bv, .int .i64 c.n, c.kv]] w fun e w' => e = .returned (.int .i64 0) ∧ Stp w w' B g v0 v1 (armD c.n d) := by
  have HH := hid_in h
  obtain ⟨w1, HW1⟩ : ∃ w1, Hid (w.alloc (.cells #[.int .i64 c.K, .int .i64 c.a, c.bv, .int .i64 c.n, c.kv] 37) = w1) := ⟨_, hid_in rfl⟩
  have HX1 : Hid (Row w1 w.heap.size [.int .i64 c.K, .int .i64 c.a, c.bv, .int .i64 c.n, c.kv] 37) := hid_in (by rw [← HW1.out]; exact Row.new w _ 37)
  have HB1 : Hid (Below w.heap.size w w1) := hid_in (by rw [← HW1.out]; exact (Below.refl _ _).alloc (Nat.le_refl _) _)
  obtain ⟨bx, HBX⟩ : ∃ bx, Hid (w.heap.size = bx) := ⟨_, hid_in rfl⟩
  have HP1 := hid_in (h.below HB1.out)
  have HC := hid_in (arm_any HP1.out c.n hn)
  generalize c.K = K at *
  generalize c.a = a at *
  generalize c.bv = bv at *
  generalize c.n = n at *
  generalize c.kv = kv at *
  clear h hn
  go_enter Try.func10, Try.ntmps10
  go_upto_region 1 with fail
  refine wp_world HW1.out ?_
  rw [HBX.out]
  rw [HBX.out] at HX1
  have k0 := HX1.out.cell 0
  have k1 := HX1.out.cell 1
  have k2 := HX1.out.cell 2
  have k3 := HX1.out.cell 3
  have k4 := HX1.out.cell 4
  simp only [List.getElem?_cons_succ, List.getElem?_cons_zero] at k0 k1 k2 k3 k4
  go_wp2_with (first | (go_at_call 15; refine HC.out.mono ?_; rintro e w2 ⟨rfl, hs2⟩; have HS2 := hid_in hs2; clear hs2))
  go_ret
  exact ⟨rfl, Stp.ahead HB1.out HS2.out⟩
set_option maxHeartbeats 1000000 in
set_option maxRecDepth 100000 in
theorem do_5 {w : World} {B g : Nat} {v0 v1 : Value} {d : Dk} (h : PtV w B g v0 v1 d) (c : Cl1) (hK : (IntKind.u64.wrap c.K).tmod 6 = 5) (hks : Kp w (FS g v0 v1) c.kv c.ks) : Calls Try.prog 10 #[.pointer (some ⟨g, 0, none⟩), .agg #[.int .i64 c.K, .int .i64 c.a, c.bv, .int .i64 c.n, c.kv]] w fun e w' => e = .returned (.int .i64 0) ∧ Stp w w' B g v0 v1 (cutD c.ks d) := by
  have HH := hid_in h
  obtain ⟨w1, HW1⟩ : ∃ w1, Hid (w.alloc (.cells #[.int .i64 c.K, .int .i64 c.a, c.bv, .int .i64 c.n, c.kv] 37) = w1) := ⟨_, hid_in rfl⟩
  have HX1 : Hid (Row w1 w.heap.size [.int .i64 c.K, .int .i64 c.a, c.bv, .int .i64 c.n, c.kv] 37) := hid_in (by rw [← HW1.out]; exact Row.new w _ 37)
  have HB1 : Hid (Below w.heap.size w w1) := hid_in (by rw [← HW1.out]; exact (Below.refl _ _).alloc (Nat.le_refl _) _)
  obtain ⟨bx, HBX⟩ : ∃ bx, Hid (w.heap.size = bx) := ⟨_, hid_in rfl⟩
  have HP1 := hid_in (h.below HB1.out)
  have HC := hid_in (cut_any HP1.out c.kv c.ks (by
    obtain ⟨p, cap, h1, h2, h3⟩ := hks
    refine ⟨p, cap, h1, h2, fun hne => ?_⟩
    obtain ⟨b, o, h4, h5⟩ := h3 hne
    exact ⟨b, o, h4, fun W hW => h5 W ((Grew.of_below (FS g v0 v1) HB1.out).trans hW (fun _ _ e => e))⟩))
  clear hks
  generalize c.K = K at *
  generalize c.a = a at *
  generalize c.bv = bv at *
  generalize c.n = n at *
  generalize c.kv = kv at *
  clear h
  go_enter Try.func10, Try.ntmps10
  go_upto_region 1 with fail
  refine wp_world HW1.out ?_
  rw [HBX.out]
  rw [HBX.out] at HX1
  have k0 := HX1.out.cell 0
  have k1 := HX1.out.cell 1
  have k2 := HX1.out.cell 2
  have k3 := HX1.out.cell 3
  have k4 := HX1.out.cell 4
  simp only [List.getElem?_cons_succ, List.getElem?_cons_zero] at k0 k1 k2 k3 k4
  go_wp2_with (first | (go_at_call 19; refine HC.out.mono ?_; rintro e w2 ⟨rfl, hs2⟩; have HS2 := hid_in hs2; clear hs2))
  go_ret
  exact ⟨rfl, Stp.ahead HB1.out HS2.out⟩
set_option maxHeartbeats 1000000 in
set_option maxRecDepth 100000 in
theorem do_0 {w : World} {B g : Nat} {v0 v1 : Value} {d : Dk} (h : PtV w B g v0 v1 d) (c : Cl1) (hK : (IntKind.u64.wrap c.K).tmod 6 = 0) (hb : ∃ p cap b off, c.bv = .slice p c.xs.length cap ∧ Sl w p c.xs cap b off ∧ (p = none → c.xs.length = 0 ∧ cap = 0)) (hlx : (arOf c.a d).bs.length + c.xs.length ≤ 140737488355328) : Calls Try.prog 10 #[.pointer (some ⟨g, 0, none⟩), .agg #[.int .i64 c.K, .int .i64 c.a, c.bv, .int .i64 c.n, c.kv]] w fun e w' => e = .returned (.int .i64 (appE c.a d)) ∧ Stp w w' B g v0 v1 (appD c.a c.xs d) := by
  have HH := hid_in h
  obtain ⟨w1, HW1⟩ : ∃ w1, Hid (w.alloc (.cells #[.int .i64 c.K, .int .i64 c.a, c.bv, .int .i64 c.n, c.kv] 37) = w1) := ⟨_, hid_in rfl⟩
  have HX1 : Hid (Row w1 w.heap.size [.int .i64 c.K, .int .i64 c.a, c.bv, .int .i64 c.n, c.kv] 37) := hid_in (by rw [← HW1.out]; exact Row.new w _ 37)
  have HB1 : Hid (Below w.heap.size w w1) := hid_in (by rw [← HW1.out]; exact (Below.refl _ _).alloc (Nat.le_refl _) _)
  obtain ⟨bx, HBX⟩ : ∃ bx, Hid (w.heap.size = bx) := ⟨_, hid_in rfl⟩
  have HP1 := hid_in (h.below HB1.out)
  obtain ⟨p, cap, sb, so, hbv, hsl, hno⟩ := hb
  obtain ⟨i5i, HI5, HE1, HE2, HE3⟩ := i5h
  obtain ⟨w2, HW2⟩ : ∃ w2, Hid (w1.alloc (.cells #[] 5) = w2) := ⟨_, hid_in rfl⟩
  have HB2 : Hid (Below w1.heap.size w1 w2) := hid_in (by rw [← HW2.out]; exact (Below.refl _ _).alloc (Nat.le_refl _) _)
  have HB02 := hid_in (HB1.out.trans (HB2.out.mono HB1.out.size))
  have hown0 : (w1.alloc (.cells #[] 5)).ownsRow w1.heap.size 5 1 (.slice (some ⟨w1.heap.size, 0, none⟩) 0 0) 0 [] := Nd.own_empty w1
  have hsrc0 := (hsl.below ((HB1.out.trans (((Below.refl w1.heap.size w1).alloc (Nat.le_refl _) (.cells #[] 5)).mono HB1.out.size)))).news
  have hlt := hsl.lt
  have HLT := hid_in hlt
  have HLX := hid_in hlx
  obtain ⟨m, HM⟩ : ∃ m, Hid (c.xs.length = m) := ⟨_, hid_in rfl⟩
  have hl0 : (c.xs.map u8v).length = m := by rw [List.length_map]; exact HM.out
  have hone := Nd.one_u8 c.xs
  rw [HM.out] at hno
  have hf0 : 0 + m ≤ 140737488355328 := by have := HM.out; omega
  have hBs : w1.heap.size ≤ (w1.alloc (.cells #[] 5)).heap.size := by simp
  have HHA := hid_in (fun W (x : Below w.heap.size w W) p' cap' b' off' (hs : Sl W p' c.xs cap' b' off') hn => append_any (h.below x) c.a p' c.xs cap' b' off' hs hn hlx)
  rw [hbv, HM.out]
  rw [HM.out] at HHA
  rw [hbv, HM.out] at HX1 HW1
  have HXS := hid_in (rfl : c.xs = c.xs)
  generalize c.K = K at *
  generalize c.a = a at *
  generalize c.n = n at *
  generalize c.kv = kv at *
  clear h hlt hlx hsl hbv
  go_enter Try.func10, Try.ntmps10
  go_upto_region 1 with fail
  refine wp_world HW1.out ?_
  rw [HBX.out]
  rw [HBX.out] at HX1
  have k0 := HX1.out.cell 0
  have k1 := HX1.out.cell 1
  have k2 := HX1.out.cell 2
  have k3 := HX1.out.cell 3
  have k4 := HX1.out.cell 4
  simp only [List.getElem?_cons_succ, List.getElem?_cons_zero] at k0 k1 k2 k3 k4
  have k22 := (HX1.out.alloc (.cells #[] 5)).cell 2
  simp only [List.getElem?_cons_succ, List.getElem?_cons_zero] at k22
  go_upto_region 4 with (first | (at_builtin; refine Nd.wpList_append_any rfl _ _ 34 rfl w1.heap.size 5 i5i (.int .u8 0) Try.underlying34 HI5.out HE3.out HE1.out HE2.out rfl _ 0 [] rfl hown0 p m cap (c.xs.map u8v) rfl hl0 hno hsrc0 hone hf0 hBs ?_; intro v3 w3 hown3 hg3; have HO3 := hid_in hown3; have HG3 := hid_in hg3; clear hown3 hg3))
  rw [Nat.zero_add, List.nil_append] at HO3
  have HB3 : Hid (Below w1.heap.size w1 w3) := hid_in (Nd.own_step ((Below.refl w1.heap.size w1).alloc (Nat.le_refl _) (.cells #[] 5)) HG3.out hBs rfl hown0)
  have HB03 := hid_in (HB1.out.trans (HB3.out.mono HB1.out.size))
  have HX3 := hid_in (HX1.out.below HB3.out HX1.out.lt)
  have ho4 := HO3.out
  rw [← HM.out] at ho4
  obtain ⟨p4, c4, b4, hv4, hsl4, hno4⟩ := Nd.own_sl HLT.out ho4
  rw [HM.out] at hv4 hno4
  have HC := hid_in (HHA.out w3 HB03.out p4 c4 b4 0 hsl4 hno4)
  subst hv4
  clear k0 k1 k2 k22 k3 k4 ho4 hown0 hsrc0 hl0 hone hf0 hBs HHA
  have k1 := HX3.out.cell 1
  simp only [List.getElem?_cons_succ, List.getElem?_cons_zero] at k1
  go_upto_region 5 with (first | (go_at_call 17; refine HC.out.mono ?_; rintro e w4 ⟨rfl, hs4⟩; have HS4 := hid_in hs4; clear hs4))
  have HMC : Hid (m ≤ c4) := hid_in (by
    obtain ⟨p', c', e1, -, e3⟩ := own_some HO3.out
    cases e1
    exact e3)
  have HF : Hid (m = 0 ∨ ∃ q, p4 = some ⟨q, 0, none⟩ ∧ w.heap.size ≤ q ∧ q < w3.heap.size ∧ Fil w4 q c4 w4) := hid_in (by
    rcases Nat.eq_zero_or_pos m with h0 | h0
    · exact .inl h0
    · obtain ⟨q, cap', vs, e1, e2, e3, e4, e5, e6, e7, e8⟩ := Nd.own_row HO3.out h0
      cases e1
      have hq := Nat.le_trans HB1.out.size e2
      refine .inr ⟨q, rfl, hq, e3, vs, e4.grew HS4.out.grew (fun hf => ?_), e7, grownBy_refl _ _⟩
      have := (HH.out.fs_lt q hf).2
      omega)
  have HMB : Hid (m ≤ 140737488355328) := hid_in (by have := HM.out; have := HLX.out; omega)
  clear k1
  go_wp2_with fail
  go_loopw [7] (fun vi W => ∃ i : Nat, i ≤ m ∧ vi = .int .i64 (i : Int) ∧ Hid ((m = 0 ∧ W = w4) ∨ ∃ q, p4 = some ⟨q, 0, none⟩ ∧ w.heap.size ≤ q ∧ q < w3.heap.size ∧ Fil w4 q c4 W)) (fun vi _ => m - (intOf vi).toNat)
  case atStart =>
    refine ⟨0, by omega, rfl, hid_in ?_⟩
    rcases HF.out with h0 | h0
    · exact .inl ⟨h0, rfl⟩
    · exact .inr h0
  case round =>
    obtain ⟨i, hi, rfl, hst⟩ := hrel
    by_cases hlt : i < m
    · obtain ⟨q, hq, hq1, hq2, hf⟩ : ∃ q, p4 = some ⟨q, 0, none⟩ ∧ w.heap.size ≤ q ∧ q < w3.heap.size ∧ Fil w4 q c4 wr := by
        rcases hst.out with ⟨h0, -⟩ | h0
        · omega
        · exact h0
      subst hq
      obtain ⟨u, hu1, hu2⟩ := hf.some (j := i) (by have := HMC.out; omega)
      have HN : Hid ((m = 0 ∧ wr.setCell ⟨q, i, none⟩ (.int .u8 238) = w4) ∨ ∃ q', some (⟨q, 0, none⟩ : Addr) = some ⟨q', 0, none⟩ ∧ w.heap.size ≤ q' ∧ q' < w3.heap.size ∧ Fil w4 q' c4 (wr.setCell ⟨q, i, none⟩ (.int .u8 238))) := hid_in (.inr ⟨q, rfl, hq1, hq2, hf.set i _⟩)
      have HIM := hid_in hlt
      have hlt2 : (i : Int) < (m : Int) := by omega
      have hmb : (m : Int) ≤ 9223372036854775807 := by have := HMB.out; omega
      clear hst hf hlt hi hq1 hq2
      go_wp2_with fail
      exact ⟨⟨i + 1, by have := HIM.out; omega, by go_num, HN.out⟩, by have := HIM.out; simp [intOf]; omega⟩
    · obtain rfl : i = m := by omega
      have HE : Hid (Stp w wr B g v0 v1 (appD a c.xs d)) := hid_in (by
        rcases hst.out with ⟨h0, rfl⟩ | ⟨q, -, hq1, hq2, hf⟩
        · exact Stp.ahead HB03.out HS4.out
        · exact Fil.fin hf HB03.out HS4.out HH.out hq1 hq2)
      clear hst hi hlt
      go_wp2_with fail
      go_ret
      exact ⟨rfl, HE.out⟩
end Go.Proofs.Ytcdmdmbdgmihfaa.Pt
