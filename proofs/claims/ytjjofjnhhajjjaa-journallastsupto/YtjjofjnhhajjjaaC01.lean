/-
  Fields as bytes: what an Out is; the walks of its Num, Int and Bytes. The walks of (*wire.Out).Num, Int and Bytes. The walks of (*wire.Out).Int and Bytes, and wire.Read. The walks of (*wire.In).fail and take.
-/
import Derived.Maps.AppendAt
import Derived.Test.YtjjofjnhhajjjaaC00
namespace Go.Proofs.Ytjjofjnhhajjjaa.Nd
open Go.RowKit
/-- the world has grown; of its blocks only those in S may have turned -/
structure Grew (w w' : World) (S : Nat → Prop) : Prop where
  os : w'.os = w.os
  tape : w'.tape = w.tape
  output : w'.output = w.output
  size : w.heap.size ≤ w'.heap.size
  block : ∀ k, k < w.heap.size → ¬ S k → w'.heap[k]? = w.heap[k]?
theorem Grew.refl (w : World) (S : Nat → Prop) : Grew w w S := ⟨rfl, rfl, rfl, Nat.le_refl _, fun _ _ _ => rfl⟩
theorem Grew.trans {a b c : World} {S T : Nat → Prop} (h : Grew a b S) (k : Grew b c T) (hT : ∀ q, q < a.heap.size → T q → S q) : Grew a c S :=
  ⟨k.os.trans h.os, k.tape.trans h.tape, k.output.trans h.output, Nat.le_trans h.size k.size, fun q hq hS => (k.block q (Nat.lt_of_lt_of_le hq h.size) (fun hT' => hS (hT q hq hT'))).trans (h.block q hq hS)⟩
theorem Grew.mono {a b : World} {S T : Nat → Prop} (h : Grew a b S) (hT : ∀ q, S q → T q) : Grew a b T := ⟨h.os, h.tape, h.output, h.size, fun q hq hn => h.block q hq (fun hs => hn (hT q hs))⟩
theorem Grew.of_grown {w w' : World} {row : Option Nat} (h : w.grownBy w' row) : Grew w w' (fun k => some k = row) := ⟨h.os, h.tape, h.output, h.size, fun k hk hn => h.block k hk hn⟩
theorem Grew.of_below {w w' : World} (S : Nat → Prop) (h : Below w.heap.size w w') : Grew w w' S := ⟨h.os, h.tape, h.output, h.size, fun k hk _ => h.block k hk⟩
theorem Grew.below {a w w' : World} {S : Nat → Prop} {B : Nat} (h : Grew w w' S) (hb : Below B a w) (hB : B ≤ w.heap.size) (hS : ∀ k, S k → B ≤ k) : Below B a w' :=
  ⟨h.os.trans hb.os, h.tape.trans hb.tape, h.output.trans hb.output, Nat.le_trans hb.size h.size, fun k hk => (h.block k (by omega) (fun hs => by have := hS k hs; omega)).trans (hb.block k hk)⟩
theorem Row.grew {w w' : World} {b : Nat} {vs : List Value} {t : TypeId} {S : Nat → Prop} (h : Row w b vs t) (hg : Grew w w' S) (hn : ¬ S b) : Row w' b vs t := h.of_block (hg.block b h.lt hn)
/-- append of one value that was just laid into a block of its own; where the row then lies -/
theorem wpList_append_one_at {P : Program} {w : World} {ops : Array Oper} {rest : List Oper} {o : Oper} {a : Act} {Q : Exit → Act → World → Prop} (hgd : o.guard = none) (s x : Operand) (t : TypeId)
    (ho : o.op = .call { callee := .builtin .append, args := #[s, x], argTypes := #[t, t] })
    (base : Nat) (e : TypeId) (i : TypeInfo) (z : Value) (ht : P.underlying t = some (.slice e)) (hi : P.info? e = some i) (hz : i.zero = some z)
    (hsize : i.size = 1) (hby : i.bytes = 1) (hzs : z.cells.size = 1)
    (v : Value) (n : Nat) (xs : List Value) (hs : a.eval s = v) (hown : w.ownsRow base e 1 v n xs) (e' : TypeId) (u : Value) (hu : u.oneCell' = true)
    (hx : a.eval x = .slice (some ⟨w.heap.size, 0, none⟩) 1 1) (hbytes : n + 1 ≤ 140737488355328) (hbase : base ≤ w.heap.size)
    (h : ∀ v' w', w'.ownsRow base e 1 v' (n + 1) (xs ++ [u]) → Grew w w' (fun k => some k = v.ownBlock) → (v'.ownBlock = v.ownBlock ∨ ∃ q, v'.ownBlock = some q ∧ w.heap.size ≤ q) → wpList P ops Q rest (a.put o.dst v') w') : wpList P ops Q (o :: rest) a (w.alloc (.cells #[u] e')) := by
  have hs1 : base ≤ (w.alloc (.cells #[u] e')).heap.size := by rw [World.size_alloc]; omega
  refine wpList_append_own_at _ hgd s x t ho base e i z 1 1 ht hi hz hsize hby hzs (by decide) v n xs hs (hown.alloc _) ⟨w.heap.size, 0, none⟩ 1 1 [u] hx rfl ?_ (fun v hv => by simp at hv; subst hv; exact hu) (by unfold maxLen; omega) (by omega) hs1 ?_
  · intro j u' hj
    have h0 : j = 0 := by have := (List.getElem?_eq_some_iff.1 hj).1; simp at this; omega
    subst h0
    rw [Addr.add_mid, (Row.newAt w w.heap.size [u] e' rfl).cell]
    exact hj
  · intro v' w' h2 h3 _ h5
    refine h v' w' h2 ?_ ?_
    · exact (Grew.of_below _ ((Below.refl w.heap.size w).alloc (Nat.le_refl _) _)).trans (Grew.of_grown h3) (fun q _ hq => hq)
    · rcases h5 with h5 | h5
      · exact .inl h5
      · exact .inr ⟨_, h5, by rw [World.size_alloc]; omega⟩
/-- the Out at block g has made the bytes xs; its row is v -/
structure OutIs (w : World) (B g : Nat) (v : Value) (xs : List Nat) : Prop where
  row : Row w g [v] 112
  own : w.ownsRow B 5 1 v xs.length (xs.map u8v)
  apart : v.ownBlock ≠ some g
  base : B ≤ w.heap.size
  lt : ∀ x ∈ xs, x < 256
/-- where a row lies behind a call -/
def Moved (w : World) (v v' : Value) : Prop := v'.ownBlock = v.ownBlock ∨ ∃ q, v'.ownBlock = some q ∧ w.heap.size ≤ q
theorem Moved.refl (w : World) (v : Value) : Moved w v v := .inl rfl
theorem Moved.trans {a b : World} {u v x : Value} (h : Moved a u v) (k : Moved b v x) (hs : a.heap.size ≤ b.heap.size) : Moved a u x := by
  rcases k with k | ⟨q, k, hq⟩
  · rcases h with h | ⟨q, h, hq⟩
    · exact .inl (k.trans h)
    · exact .inr ⟨q, k.trans h, hq⟩
  · exact .inr ⟨q, k, by omega⟩
/-- what an Out's call may turn -/
def OutS (g : Nat) (v : Value) : Nat → Prop := fun k => k = g ∨ some k = v.ownBlock
namespace Wire
def numF : Nat → Nat → List Nat
  | 0, n => [n]
  | k + 1, n => if n < 128 then [n] else (n % 128 + 128) :: numF k (n / 128)
/-- a number's bytes -/
def num (n : Nat) : List Nat := numF 9 n
end Wire
theorem or128 (y : Nat) (h : y < 256) : bits .or .u8 (y : Int) 128 = ((y % 128 + 128 : Nat) : Int) := by
  have h1 := u8_or_nat y 128 h (by decide)
  have h2 : ∀ z : Fin 256, (z.1 ||| 128) = z.1 % 128 + 128 := by decide +kernel
  rw [h2 ⟨y, h⟩] at h1
  exact h1
end Go.Proofs.Ytjjofjnhhajjjaa.Nd
namespace Go.Proofs.Ytjjofjnhhajjjaa.Nd
open Go.RowKit
theorem numF_lt : ∀ (k n : Nat), n < 128 ^ (k + 1) → ∀ x ∈ Wire.numF k n, x < 256
  | 0, n, h, x, hx => by simp [Wire.numF] at hx; omega
  | k + 1, n, h, x, hx => by
    simp only [Wire.numF] at hx
    split at hx
    · simp at hx; omega
    · rcases List.mem_cons.1 hx with rfl | hx
      · omega
      · exact numF_lt k (n / 128) (by rw [Nat.div_lt_iff_lt_mul (by decide)]; rw [Nat.pow_succ] at h; exact h) x hx
theorem numF_length : ∀ (k n : Nat), (Wire.numF k n).length ≤ k + 1
  | 0, n => by simp [Wire.numF]
  | k + 1, n => by
    simp only [Wire.numF]
    split
    · simp
    · simp only [List.length_cons]; have := numF_length k (n / 128); omega
theorem num_lt (n : Nat) (h : n < 18446744073709551616) : ∀ x ∈ Wire.num n, x < 256 := numF_lt 9 n (by omega)
theorem num_length (n : Nat) : (Wire.num n).length ≤ 10 := numF_length 9 n
theorem out_step {w w1 w2 : World} {B g : Nat} {v v1 : Value} {xs : List Nat} {y : Nat} (hy : y < 256) (ho : OutIs w B g v xs) (hown : w1.ownsRow B 5 1 v1 (xs.length + 1) (xs.map u8v ++ [u8v y])) (hg : Grew w w1 (fun k => some k = v.ownBlock)) (hm : Moved w v v1) (h2 : w2 = w1.setCell ⟨g, 0, none⟩ v1) :
    OutIs w2 B g v1 (xs ++ [y]) ∧ Grew w w2 (OutS g v) := by
  have hr1 : Row w1 g [v] 112 := ho.row.grew hg (fun h => ho.apart h.symm)
  have hap : v1.ownBlock ≠ some g := by
    rcases hm with hm | ⟨q, hq, hs⟩
    · rw [hm]; exact ho.apart
    · rw [hq]; intro h; cases h; have := ho.row.lt; omega
  have hgs : w1.grownBy w2 (some g) := by rw [h2]; exact grownBy_setCell w1 ⟨g, 0, none⟩ _
  refine ⟨⟨?_, ?_, hap, Nat.le_trans ho.base (Nat.le_trans hg.size hgs.size), ?_⟩, ?_⟩
  · rw [h2]; exact hr1.set_same 0 v1
  · have : w2.ownsRow B 5 1 v1 (xs.length + 1) (xs.map u8v ++ [u8v y]) := hown.kept hgs (.inr hap)
    rw [List.length_append, List.map_append]
    exact this
  · intro x hx
    rcases List.mem_append.1 hx with hx | hx
    · exact ho.lt x hx
    · simp at hx; omega
  · refine (hg.mono (fun q hq => Or.inr hq)).trans (Grew.of_grown hgs) (fun q _ hq => ?_)
    cases hq
    exact Or.inl rfl
set_option maxHeartbeats 1000000 in
set_option maxRecDepth 100000 in
theorem onum_any (w : World) (B g : Nat) (v : Value) (xs : List Nat) (n : Nat) (hn : n < 18446744073709551616) (ho : OutIs w B g v xs) (hl : xs.length + 10 ≤ 140737488355328) :
    Calls Try.prog 88 #[.pointer (some ⟨g, 0, none⟩), .int .u64 (n : Int)] w fun e w' => e = .returned (.tuple #[]) ∧ ∃ v', OutIs w' B g v' (xs ++ Wire.num n) ∧ Grew w w' (OutS g v) ∧ Moved w v v' := by
  obtain ⟨i5i, HI5, HE1, HE2, HE3⟩ := i5h
  go_enter Try.func88, Try.ntmps88
  go_wp2_with fail
  go_loopw [1] (fun u w' => ∃ (k m : Nat) (pre : List Nat) (v' : Value), u = .int .u64 (m : Int) ∧ m < 128 ^ (k + 1) ∧ m < 18446744073709551616 ∧ pre.length + (k + 1) ≤ 10 ∧ pre ++ Wire.numF k m = Wire.num n ∧ OutIs w' B g v' (xs ++ pre) ∧ Grew w w' (OutS g v) ∧ Moved w v v') (fun u _ => (intOf u).toNat)
  case atStart => exact ⟨9, n, [], v, rfl, by omega, hn, by simp, rfl, by simpa using ho, Grew.refl _ _, Moved.refl _ _⟩
  case round =>
    obtain ⟨k, m, pre, v', rfl, hm, hm64, hpl, hpre, ho', hg, hmv⟩ := hrel
    obtain ⟨ys, hys⟩ : ∃ ys, Hid (ys = xs ++ pre) := ⟨_, rfl⟩
    have hyl : ys.length = xs.length + pre.length := by rw [hys.out, List.length_append]
    rw [← hys.out] at ho'
    have c0 : wr.cell? ⟨g, 0, none⟩ = some v' := ho'.row.cell 0
    have f0 := ho'.row.frozen 0
    have hown' := ho'.own
    have hbase := ho'.base
    have hfit : ys.length + 1 ≤ 140737488355328 := by omega
    clear hyl
    have HO : Hid (OutIs wr B g v' ys) := ho'
    have HG : Hid (Grew w wr (OutS g v)) := hg
    have HM : Hid (Moved w v v') := hmv
    have HP : Hid (pre ++ Wire.numF k m = Wire.num n) := hpre
    clear ho' hg hmv hpre ho
    by_cases h128 : 128 ≤ m
    · have hk0 : k ≠ 0 := by intro h; subst h; simp at hm; omega
      obtain ⟨k', rfl⟩ : ∃ k', k = k' + 1 := ⟨k - 1, by omega⟩
      clear hk0
      have k1 : (128 : Int) ≤ (m : Int) := by omega
      have ho1 := or128 (m % 256) (by omega)
      rw [show ((m % 256 : Nat) : Int) = (m : Int) % 256 by simp, show m % 256 % 128 = m % 128 by omega] at ho1
      have HM2 : Hid (m / 128 < 128 ^ (k' + 1)) := by show _ < _; rw [Nat.div_lt_iff_lt_mul (by decide)]; rw [Nat.pow_succ] at hm; exact hm
      clear hm
      go_wp2_with (at_builtin; refine wpList_append_one_at rfl _ _ 54 rfl B 5 i5i (.int .u8 0) Try.underlying54 HI5.out HE3.out HE1.out HE2.out rfl _ _ _ rfl hown' 5 _ rfl rfl hfit hbase ?_; intro v1 w1 hown1 hg1 hm1; have HM1 := hid_in hm1; clear hm1; obtain ⟨q1, cq1, rfl, _, _⟩ := hown1.form (Nat.succ_pos _); have cg : w1.cell? ⟨g, 0, none⟩ = some v' := (HO.out.row.grew hg1 (fun h => HO.out.apart h.symm)).cell 0; have fg := (HO.out.row.grew hg1 (fun h => HO.out.apart h.symm)).frozen 0)
      have hstep := out_step (y := m % 128 + 128) (by omega) HO.out hown1 hg1 HM1.out rfl
      go_roundw
      case rel =>
        go_light
        have e0 : (m : Int) / 128 = ((m / 128 : Nat) : Int) := by simp
        rw [e0]
        refine ⟨k', m / 128, pre ++ [m % 128 + 128], .slice (some ⟨q1, 0, none⟩) (ys.length + 1) cq1, rfl, HM2.out, by omega, by rw [List.length_append]; simp; omega, ?_, ?_, ?_, ?_⟩
        · rw [← HP.out, List.append_assoc]
          congr 1
          simp only [Wire.numF]
          rw [if_neg (by omega)]
          rfl
        · rw [← List.append_assoc, ← hys.out]; exact hstep.1
        · refine HG.out.trans hstep.2 (fun q hq hs => ?_)
          rcases hs with rfl | hs
          · exact Or.inl rfl
          · rcases HM.out with h | ⟨q', h, hq'⟩
            · exact Or.inr (hs.trans h)
            · rw [h] at hs; cases hs; omega
        · exact HM.out.trans HM1.out HG.out.size
      case measure => simp [intOf]; omega
    · have k1 : (m : Int) < 128 := by omega
      have HN : Hid (Wire.numF k m = [m]) := by
        show _ = _
        rcases k with _ | k
        · rfl
        · simp only [Wire.numF]; rw [if_pos (by omega)]
      clear hm
      go_wp2_with (at_builtin; refine wpList_append_one_at rfl _ _ 54 rfl B 5 i5i (.int .u8 0) Try.underlying54 HI5.out HE3.out HE1.out HE2.out rfl _ _ _ rfl hown' 5 _ rfl rfl hfit hbase ?_; intro v1 w1 hown1 hg1 hm1; have HM1 := hid_in hm1; clear hm1; obtain ⟨q1, cq1, rfl, _, _⟩ := hown1.form (Nat.succ_pos _); have cg : w1.cell? ⟨g, 0, none⟩ = some v' := (HO.out.row.grew hg1 (fun h => HO.out.apart h.symm)).cell 0; have fg := (HO.out.row.grew hg1 (fun h => HO.out.apart h.symm)).frozen 0)
      have hstep := out_step (y := m) (by omega) HO.out hown1 hg1 HM1.out rfl
      go_end0
      refine ⟨rfl, _, ?_, ?_, HM.out.trans HM1.out HG.out.size⟩
      · rw [← HP.out, HN.out, ← List.append_assoc, ← hys.out]; exact hstep.1
      · refine HG.out.trans hstep.2 (fun q hq hs => ?_)
        rcases hs with rfl | hs
        · exact Or.inl rfl
        · rcases HM.out with h | ⟨q', h, hq'⟩
          · exact Or.inr (hs.trans h)
          · rw [h] at hs; cases hs; omega
end Go.Proofs.Ytjjofjnhhajjjaa.Nd
namespace Go.Proofs.Ytjjofjnhhajjjaa.Nd
open Go.RowKit
namespace Wire
end Wire
theorem obytes_any (w : World) (B g : Nat) (v : Value) (xs : List Nat) (ho : OutIs w B g v xs) (hl : xs.length ≤ 140737488355328) :
    Calls Try.prog 77 #[.pointer (some ⟨g, 0, none⟩)] w fun e w' => ∃ v', e = .returned v' ∧ w'.ownsRow w.heap.size 5 1 v' xs.length (xs.map u8v) ∧ Below w.heap.size w w' := by
  obtain ⟨p, cap, b, rfl, hsl, hno⟩ := own_sl ho.lt ho.own
  have c0 : w.cell? ⟨g, 0, none⟩ = some (.slice p xs.length cap) := ho.row.cell 0
  have hc := clone_any xs p cap b 0 w hsl hno hl
  clear ho hsl
  go_enter Try.func77, Try.ntmps77
  go_wp2_with fail
  refine hc.mono ?_
  rintro e w1 ⟨v1, rfl, hown, hb⟩
  clear hc
  have HOWN := hid_in hown
  clear hown
  go_wp2
  go_ret
  exact ⟨_, rfl, HOWN.out, hb⟩
/-- the In at block g has still to read the bytes bs; what was wrong is e -/
structure InIs (B : Nat) (w : World) (g : Nat) (bs : List Nat) (e : Nat) : Prop where
  ex : ∃ p cap b off, Row w g [.slice p bs.length cap, .int .i64 (e : Int)] 117 ∧ Sl w p bs cap b off ∧ (p = none → bs.length = 0 ∧ cap = 0) ∧ (0 < bs.length → b ≠ g ∧ b < B)
theorem read_any (bs : List Nat) (p : Option Addr) (cap b off : Nat) (w : World) (hsl : Sl w p bs cap b off) (hno : p = none → bs.length = 0 ∧ cap = 0) (hre : bs.length ≤ 140737488355328) :
    Calls Try.prog 61 #[.slice p bs.length cap] w fun e w' => ∃ g, e = .returned (.pointer (some ⟨g, 0, none⟩)) ∧ InIs w'.heap.size w' g bs 0 ∧ w.heap.size ≤ g ∧ Below w.heap.size w w' := by
  have hc := clone_any bs p cap b off w hsl hno hre
  have hlt := hsl.lt
  clear hsl
  go_enter Try.func61, Try.ntmps61
  go_wp2_with fail
  refine hc.mono ?_
  rintro e w1 ⟨v1, rfl, hown, hb⟩
  obtain ⟨p1, cap1, b1, rfl, hsl1, hno1⟩ := own_sl hlt hown
  clear hown hc
  go_wp2
  go_ret
  have hb2 : Below w1.heap.size w1 (w1.alloc (.cells [.slice p1 bs.length cap1, .int .i64 0].toArray 117)) := (Below.refl _ _).alloc (Nat.le_refl _) _
  refine ⟨w1.heap.size, rfl, ⟨p1, cap1, b1, 0, Row.newAt w1 _ [.slice p1 bs.length cap1, .int .i64 0] 117 rfl, hsl1.below hb2, hno1, fun h0 => ?_⟩, hb.size, hb.alloc hb.size _⟩
  have := hsl1.blk h0
  exact ⟨by omega, by simp; omega⟩
end Go.Proofs.Ytjjofjnhhajjjaa.Nd
namespace Go.Proofs.Ytjjofjnhhajjjaa.Nd
open Go.RowKit
theorem fail_any {B : Nat} (w : World) (g e : Nat) (a b : Value) (hr : Row w g [a, b] 117) :
    Calls Try.prog 83 #[.pointer (some ⟨g, 0, none⟩), .int .i64 (e : Int)] w fun r w' => r = .returned (.tuple #[]) ∧ InIs B w' g [] e ∧ w.grownBy w' (some g) ∧ w'.heap.size = w.heap.size := by
  have c0 : w.cell? ⟨g, 0, none⟩ = some a := hr.cell 0
  have c1 : w.cell? ⟨g, 1, none⟩ = some b := hr.cell 1
  have f0 := hr.frozen 0
  have f1 := hr.frozen 1
  go_enter Try.func83, Try.ntmps83
  go_wp2
  go_end0
  refine ⟨rfl, ⟨none, 0, 0, 0, (hr.set_same 0 _).set_same 1 _, ⟨fun _ h => (by cases h), by simp, by omega, fun h => (by simp at h), fun j hj => (by simp at hj)⟩, fun _ => ⟨rfl, rfl⟩, fun h => (by simp at h)⟩, ?_, by simp [World.setCell]⟩
  exact grownBy_trans (grownBy_setCell w ⟨g, 0, none⟩ _) (grownBy_setCell _ ⟨g, 1, none⟩ _)
theorem take_bad {B : Nat} (w : World) (g e n : Nat) (bs : List Nat) (he : e ≠ 0) (hi : InIs B w g bs e) :
    Calls Try.prog 84 #[.pointer (some ⟨g, 0, none⟩), .int .i64 (n : Int)] w fun r w' => r = .returned (.tuple #[.slice none 0 0, .bool false]) ∧ w' = w := by
  obtain ⟨p, cap, b, off, hr, hsl, hno, hne⟩ := hi.ex
  have c1 : w.cell? ⟨g, 1, none⟩ = some (.int .i64 (e : Int)) := hr.cell 1
  have k1 : ¬ ((e : Int) = 0) := by omega
  clear hi hr hsl hno hne
  go_enter Try.func84, Try.ntmps84
  go_wp2
  go_ret2
  exact ⟨rfl, rfl⟩
set_option maxHeartbeats 400000 in
theorem take_short {B : Nat} (w : World) (g n : Nat) (bs : List Nat) (hn : bs.length < n) (hi : InIs B w g bs 0) :
    Calls Try.prog 84 #[.pointer (some ⟨g, 0, none⟩), .int .i64 (n : Int)] w fun r w' => r = .returned (.tuple #[.slice none 0 0, .bool false]) ∧ InIs B w' g [] 20 ∧ w.grownBy w' (some g) ∧ w'.heap.size = w.heap.size := by
  obtain ⟨p, cap, b, off, hr, hsl, hno, hne⟩ := hi.ex
  have c0 : w.cell? ⟨g, 0, none⟩ = some (.slice p bs.length cap) := hr.cell 0
  have c1 : w.cell? ⟨g, 1, none⟩ = some (.int .i64 0) := hr.cell 1
  have k1 : (bs.length : Int) < (n : Int) := by omega
  have hf := fail_any (B := B) w g 20 _ _ hr
  clear hi hr hsl hno hne
  go_enter Try.func84, Try.ntmps84
  go_wp2_with fail
  refine hf.mono ?_
  rintro e w1 ⟨rfl, h1, h2, h3⟩
  have H := hid_in h1
  have H3 := hid_in h3
  clear h1 h3 hf c0 c1
  go_wp2
  go_ret2
  exact ⟨rfl, H.out, h2, H3.out⟩
theorem slice_rest (b o L C n : Nat) (h1 : n ≤ L) (h2 : L ≤ C) : ∃ q, (n < L → q = some ⟨b, o + n, none⟩) ∧ (q ≠ none) ∧ ∀ w, (Instr.slice 54 (.slice (some ⟨b, o, none⟩) L C) (some (.int .i64 (n : Int))) none none).run Try.prog w = .ok (.slice q (L - n) (C - n)) w := by
  have ht : Try.prog.underlying 54 = some (.slice (Try.prog.elem 54)) := by kernel_rfl
  have he : Try.prog.elem 54 = 5 := by kernel_rfl
  refine ⟨some (if C = n then ⟨b, o, none⟩ else ⟨b, o + n, none⟩), fun h => by rw [if_neg (by omega)], by simp, fun w => ?_⟩
  have hsz : (sizeOf 5).run Try.prog w = .ok 1 w := by kernel_rfl
  rw [run_slice_l w 54 (some ⟨b, o, none⟩) L C ht .i64 (n : Int) (by omega) (by omega), he, hsz]
  simp [sliced, Addr.add_mid]
  split <;> rfl
set_option maxHeartbeats 400000 in
/-- some bytes that are there -/
theorem take_some {B : Nat} (w : World) (g n : Nat) (bs : List Nat) (h0 : 0 < n) (hn : n ≤ bs.length) (hi : InIs B w g bs 0) :
    Calls Try.prog 84 #[.pointer (some ⟨g, 0, none⟩), .int .i64 (n : Int)] w fun r w' => ∃ b off cap, r = .returned (.tuple #[.slice (some ⟨b, off, none⟩) n cap, .bool true]) ∧ Sl w' (some ⟨b, off, none⟩) (bs.take n) cap b off ∧ InIs B w' g (bs.drop n) 0 ∧ w.grownBy w' (some g) ∧ w'.heap.size = w.heap.size := by
  obtain ⟨p, cap, b, off, hr, hsl, hno, hne⟩ := hi.ex
  obtain rfl := hsl.at_ (by omega)
  have hbg := hne (by omega)
  have hc1 := hsl.cap1
  have hc2 := hsl.cap2
  have c0 : w.cell? ⟨g, 0, none⟩ = some (.slice (some ⟨b, off, none⟩) bs.length cap) := hr.cell 0
  have c1 : w.cell? ⟨g, 1, none⟩ = some (.int .i64 0) := hr.cell 1
  have f0 := hr.frozen 0
  have k1 : (n : Int) ≤ (bs.length : Int) := by omega
  have hs1 := slice_to b off bs.length cap n (by omega)
  obtain ⟨q, hq, hqn, hs2⟩ := slice_rest b off bs.length cap n hn hc1
  have HQ := hid_in hq
  have HQN := hid_in hqn
  have HR := hid_in hr
  have HSL := hid_in hsl
  clear hi hr hsl hno hne hq hqn
  go_enter Try.func84, Try.ntmps84
  go_wp2
  go_ret2
  have hg := grownBy_setCell w ⟨g, 0, none⟩ (.slice q (bs.length - n) (cap - n))
  have hslw := HSL.out.grown hg (fun _ => by simpa using hbg.1)
  have e1 : (bs.drop n).length = bs.length - n := by simp
  refine ⟨b, off, cap, rfl, ?_, ⟨q, cap - n, b, off + n, ?_, ?_, fun h => absurd h HQN.out, fun _ => hbg⟩, hg, by simp [World.setCell]⟩
  · have := hslw.part 0 n cap (by omega) (by omega) hc2
    simpa using this
  · rw [e1]; exact HR.out.set_same 0 _
  · have := hslw.part n (bs.length - n) (cap - n) (by omega) (by omega) (by omega)
    rw [List.take_of_length_le (by simp)] at this
    refine ⟨this.lt, this.cap1, this.cap2, fun h => ?_, this.src⟩
    exact HQ.out (by simp at h; omega)
end Go.Proofs.Ytjjofjnhhajjjaa.Nd
