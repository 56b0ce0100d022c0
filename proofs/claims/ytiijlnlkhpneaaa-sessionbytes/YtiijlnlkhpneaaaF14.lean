/-
  The walks of Int and Flag, written and read, of wire and of the reference. The walk of Node: the node that plain data mean. Plain facts on a right node's bytes, and what comes in with a Raw in later worlds. The walk of the reference's Encode. Int and Flag that are written and read, by states.
-/
import Derived.OwnWalk
import Derived.Laws.CopyOwn
import Derived.Laws.Tables
import Derived.Deep.RegionLaw
import Derived.Deep.DrawnRows
import Derived.Laws.BitsAllLaws
import Derived.Deep.CutRange
import Derived.Test.YtiijlnlkhpneaaaF00
import Derived.Test.YtiijlnlkhpneaaaF01
import Derived.Test.YtiijlnlkhpneaaaF02
import Derived.Test.YtiijlnlkhpneaaaF03
import Derived.Test.YtiijlnlkhpneaaaF04
import Derived.Test.YtiijlnlkhpneaaaF05
import Derived.Test.YtiijlnlkhpneaaaF06
import Derived.Test.YtiijlnlkhpneaaaF07
import Derived.Test.YtiijlnlkhpneaaaF08
import Derived.Test.YtiijlnlkhpneaaaF09
import Derived.Test.YtiijlnlkhpneaaaF13
namespace Go.Proofs.Ytiijlnlkhpneaaa.Nd
open Go.RowKit
namespace Wire
/-- a number with a sign, as one without -/
def zz (n : Int) : Nat := if 0 ≤ n then (2 * n).toNat else (-2 * n - 1).toNat
/-- a number with a sign, out of one without -/
def unzz (m : Nat) : Int := if m % 2 = 0 then ((m / 2 : Nat) : Int) else -((m / 2 : Nat) : Int) - 1
/-- a flag that is read: what it is, what is left, what is wrong -/
def rflag : List Nat → Bool × List Nat × Nat
  | [] => (false, [], 20)
  | c :: r => if 1 < c then (false, [], 21) else (decide (c = 1), r, 0)
end Wire
theorem not64 (x : Nat) (hx : x < 18446744073709551616) : bits .xor .u64 (if IntKind.u64.signed = true then -1 else IntKind.u64.max) (x : Int) = ((18446744073709551615 - x : Nat) : Int) := by
  have h : (if IntKind.u64.signed = true then -1 else IntKind.u64.max : Int) = ((18446744073709551615 : Nat) : Int) := by decide
  have hx' : 18446744073709551615 ^^^ x = 18446744073709551615 - x := by
    refine Nat.eq_of_testBit_eq fun i => ?_
    rw [Nat.testBit_xor, show (18446744073709551615 : Nat) = 2 ^ 64 - 1 from rfl, Nat.testBit_two_pow_sub_one, show 2 ^ 64 - 1 - x = 2 ^ 64 - (x + 1) by omega, Nat.testBit_two_pow_sub_succ (show x < 2 ^ 64 by omega)]
    by_cases h : i < 64
    · simp [h]
    · have : x.testBit i = false := Nat.testBit_lt_two_pow (Nat.lt_of_lt_of_le (show x < 2 ^ 64 by omega) (Nat.pow_le_pow_right (by omega) (by omega)))
      simp [h, this]
  rw [h, u64_xor_nat _ _ (by decide) hx, hx']
set_option maxHeartbeats 1000000 in
set_option maxRecDepth 100000 in
theorem oint_any (w : World) (B g : Nat) (v : Value) (xs : List Nat) (n : Int) (hn1 : -9223372036854775808 ≤ n) (hn2 : n ≤ 9223372036854775807) (ho : OutIs w B g v xs) (hl : xs.length + 10 ≤ 140737488355328) :
    Calls Try.prog 31 #[.pointer (some ⟨g, 0, none⟩), .int .i64 n] w fun e w' => e = .returned (.tuple #[]) ∧ ∃ v', OutIs w' B g v' (xs ++ Wire.num (Wire.zz n)) ∧ Grew w w' (OutS g v) ∧ Moved w v v' := by
  obtain ⟨z, HZ, hz⟩ : ∃ z, Hid (z = Wire.zz n) ∧ z < 18446744073709551616 := ⟨_, rfl, by unfold Wire.zz; split <;> omega⟩
  have hnum := onum_any w B g v xs z hz ho hl
  rw [← HZ.out]
  by_cases h0 : 0 ≤ n
  · have hz1 : Hid ((z : Int) = 2 * n) := by show _ = _; rw [HZ.out]; unfold Wire.zz; rw [if_pos h0]; omega
    obtain ⟨m, rfl⟩ := Int.eq_ofNat_of_zero_le h0
    clear ho
    go_enter Try.func31, Try.ntmps31
    go_wp2_with fail
    have e0 : ((m : Int) * 2) = (z : Int) := by have := hz1.out; omega
    rw [e0]
    refine hnum.mono ?_
    rintro e w' ⟨rfl, hh⟩
    have H := hid_in hh
    clear hh hnum
    go_wp2
    go_end0
    exact ⟨rfl, H.out⟩
  · have hz1 : Hid ((z : Int) = -2 * n - 1) := by show _ = _; rw [HZ.out]; unfold Wire.zz; rw [if_neg h0]; omega
    clear ho
    go_enter Try.func31, Try.ntmps31
    go_wp2_with fail
    have e0 : bits .xor .u64 IntKind.u64.max (IntKind.u64.wrap (IntKind.u64.wrap n * 2)) = (z : Int) := by
      have hy : IntKind.u64.wrap (IntKind.u64.wrap n * 2) = (((2 * n + 18446744073709551616).toNat : Nat) : Int) := by
        rw [IntKind.wrap_u64, IntKind.wrap_u64]; omega
      rw [hy]
      have h := not64 (2 * n + 18446744073709551616).toNat (by omega)
      have h' : bits .xor .u64 IntKind.u64.max (((2 * n + 18446744073709551616).toNat : Nat) : Int) = ((18446744073709551615 - (2 * n + 18446744073709551616).toNat : Nat) : Int) := h
      rw [h']
      have := hz1.out
      omega
    rw [e0]
    refine hnum.mono ?_
    rintro e w' ⟨rfl, hh⟩
    have H := hid_in hh
    clear hh hnum e0
    go_wp2
    go_end0
    exact ⟨rfl, H.out⟩
set_option maxHeartbeats 1000000 in
set_option maxRecDepth 100000 in
theorem oflag_any (w : World) (B g : Nat) (v : Value) (xs : List Nat) (fl : Bool) (ho : OutIs w B g v xs) (hl : xs.length + 1 ≤ 140737488355328) :
    Calls Try.prog 32 #[.pointer (some ⟨g, 0, none⟩), .bool fl] w fun e w' => e = .returned (.tuple #[]) ∧ ∃ v', OutIs w' B g v' (xs ++ [if fl then 1 else 0]) ∧ Grew w w' (OutS g v) ∧ Moved w v v' := by
  obtain ⟨i5i, HI5, HE1, HE2, HE3⟩ := i5h
  have c0 : w.cell? ⟨g, 0, none⟩ = some v := ho.row.cell 0
  have f0 := ho.row.frozen 0
  have hown := ho.own
  have hbase := ho.base
  have HO := hid_in ho
  clear ho
  cases fl
  · go_enter Try.func32, Try.ntmps32
    go_wp2_with (at_builtin; refine wpList_append_one_at rfl _ _ 50 rfl B 5 i5i (.int .u8 0) Try.underlying50 HI5.out HE3.out HE1.out HE2.out rfl _ _ _ rfl hown 5 _ rfl rfl hl hbase ?_; intro v1 w1 hown1 hg1 hm1; have HM1 := hid_in hm1; clear hm1; obtain ⟨q1, cq1, rfl, _, _⟩ := hown1.form (Nat.succ_pos _); have cg : w1.cell? ⟨g, 0, none⟩ = some v := (HO.out.row.grew hg1 (fun h => HO.out.apart h.symm)).cell 0; have fg := (HO.out.row.grew hg1 (fun h => HO.out.apart h.symm)).frozen 0)
    exact bodyPost_end (results_none Try.results32 _ _ _) rfl ⟨rfl, _, (out_step (y := 0) (by omega) HO.out hown1 hg1 HM1.out rfl).1, (out_step (y := 0) (by omega) HO.out hown1 hg1 HM1.out rfl).2, HM1.out⟩
  · go_enter Try.func32, Try.ntmps32
    go_wp2_with (at_builtin; refine wpList_append_one_at rfl _ _ 50 rfl B 5 i5i (.int .u8 0) Try.underlying50 HI5.out HE3.out HE1.out HE2.out rfl _ _ _ rfl hown 5 _ rfl rfl hl hbase ?_; intro v1 w1 hown1 hg1 hm1; have HM1 := hid_in hm1; clear hm1; obtain ⟨q1, cq1, rfl, _, _⟩ := hown1.form (Nat.succ_pos _); have cg : w1.cell? ⟨g, 0, none⟩ = some v := (HO.out.row.grew hg1 (fun h => HO.out.apart h.symm)).cell 0; have fg := (HO.out.row.grew hg1 (fun h => HO.out.apart h.symm)).frozen 0)
    exact bodyPost_ret (results_none Try.results32 _ _ _) rfl ⟨rfl, _, (out_step (y := 1) (by omega) HO.out hown1 hg1 HM1.out rfl).1, (out_step (y := 1) (by omega) HO.out hown1 hg1 HM1.out rfl).2, HM1.out⟩
theorem and_one64 (x : Nat) (hx : x < 18446744073709551616) : bits .and .u64 (x : Int) 1 = ((x % 2 : Nat) : Int) := by
  have := u64_and_nat x 1 hx (by decide)
  rw [Nat.and_one_is_mod] at this
  exact this
set_option maxHeartbeats 400000 in
theorem iint_of (w : World) (g m : Nat) (hm : m < 18446744073709551616) (R : World → Prop) (hn : Calls Try.prog 54 #[.pointer (some ⟨g, 0, none⟩)] w fun r w' => r = .returned (.int .u64 (m : Int)) ∧ R w') :
    Calls Try.prog 55 #[.pointer (some ⟨g, 0, none⟩)] w fun r w' => r = .returned (.int .i64 (Wire.unzz m)) ∧ R w' := by
  have ha := and_one64 m hm
  go_enter Try.func55, Try.ntmps55
  go_wp2_with fail
  refine hn.mono ?_
  rintro e w1 ⟨rfl, hR⟩
  have HR := hid_in hR
  clear hR hn
  by_cases h : m % 2 = 0
  · have HU : Hid (Wire.unzz m = ((m / 2 : Nat) : Int)) := by show _ = _; unfold Wire.unzz; rw [if_pos h]
    have ha' : bits .and .u64 (m : Int) 1 = 0 := by rw [ha, h]; rfl
    clear ha
    go_wp2
    go_ret
    rw [HU.out]
    exact ⟨by simp, HR.out⟩
  · have HU : Hid (Wire.unzz m = -((m / 2 : Nat) : Int) - 1) := by show _ = _; unfold Wire.unzz; rw [if_neg h]
    have ha' : bits .and .u64 (m : Int) 1 = 1 := by rw [ha, show m % 2 = 1 by omega]; rfl
    clear ha
    go_wp2
    go_ret
    rw [HU.out]
    exact ⟨by simp, HR.out⟩
theorem iflag_bad {B : Nat} (w : World) (g e : Nat) (bs : List Nat) (he : e ≠ 0) (hi : InIs B w g bs e) :
    Calls Try.prog 56 #[.pointer (some ⟨g, 0, none⟩)] w fun r w' => r = .returned (.bool false) ∧ w' = w := by
  have HI := hid_in hi
  clear hi
  go_enter Try.func56, Try.ntmps56
  go_wp2_with fail
  refine (take_bad _ g e 1 bs he HI.out).mono ?_
  rintro e w1 ⟨rfl, rfl⟩
  go_wp2
  go_ret
  exact ⟨rfl, rfl⟩
set_option maxHeartbeats 400000 in
theorem iflag_any {B : Nat} (w : World) (g : Nat) (bs : List Nat) (hlt : ∀ x ∈ bs, x < 256) (hi : InIs B w g bs 0) :
    Calls Try.prog 56 #[.pointer (some ⟨g, 0, none⟩)] w fun r w' => r = .returned (.bool (Wire.rflag bs).1) ∧ InIs B w' g (Wire.rflag bs).2.1 (Wire.rflag bs).2.2 ∧ w.grownBy w' (some g) ∧ w'.heap.size = w.heap.size := by
  have HI := hid_in hi
  clear hi
  go_enter Try.func56, Try.ntmps56
  rcases bs with _ | ⟨c, r⟩
  · go_wp2_with fail
    refine (take_short _ g 1 [] (by simp) HI.out).mono ?_
    rintro e w1 ⟨rfl, h1, h2, h3⟩
    have H1 := hid_in h1
    have H2 := hid_in h2
    have H3 := hid_in h3
    clear h1 h2 h3
    go_wp2
    go_ret
    exact ⟨rfl, H1.out, H2.out, H3.out⟩
  · have hc := hlt c (by simp)
    clear hlt
    go_wp2_with fail
    refine (take_some _ g 1 (c :: r) (by omega) (by simp) HI.out).mono ?_
    rintro e w1 ⟨b, off, cap, rfl, hsl, h1, h2, h3⟩
    have c0 : w1.cell? ⟨b, off, none⟩ = some (.int .u8 (c : Int)) := hsl.src 0 (by simp)
    have H1 : Hid (InIs B w1 g r 0) := h1
    have H2 := hid_in h2
    have H3 := hid_in h3
    have HF1 := hid_in (h1.ex)
    clear h1 h2 h3 hsl HI
    by_cases hbad : 1 < c
    · have k0 : ¬ ((c : Int) = 0) := by omega
      have k1 : ((c : Int) != 0) = true := by rw [bne_iff_ne]; omega
      have k2 : ((c : Int) != 1) = true := by rw [bne_iff_ne]; omega
      have HV : Hid (Wire.rflag (c :: r) = (false, [], 21)) := by show _ = _; unfold Wire.rflag; simp only; rw [if_pos hbad]
      obtain ⟨p2, cap2, b2, off2, hrow, _, _, _⟩ := HF1.out
      have HFF := hid_in (fail_any (B := B) w1 g 21 _ _ hrow)
      clear hrow HF1 hbad
      go_wp2_with fail
      refine HFF.out.mono ?_
      rintro e w2 ⟨rfl, h1, h2, h3⟩
      have H4 := hid_in h1
      have H5 := hid_in h2
      have H6 := hid_in h3
      clear h1 h2 h3
      go_wp2
      go_ret
      rw [HV.out]
      exact ⟨rfl, H4.out, grownBy_trans H2.out H5.out, H6.out.trans H3.out⟩
    · have HV : Hid (Wire.rflag (c :: r) = (decide (c = 1), r, 0)) := by show _ = _; unfold Wire.rflag; simp only; rw [if_neg hbad]
      obtain rfl | rfl : c = 0 ∨ c = 1 := by omega
      · clear hbad hc
        go_wp2
        go_ret
        rw [HV.out]
        exact ⟨rfl, H1.out, H2.out, H3.out⟩
      · clear hbad hc
        go_wp2
        go_ret
        rw [HV.out]
        exact ⟨rfl, H1.out, H2.out, H3.out⟩
set_option maxHeartbeats 400000 in
theorem rint_of (w : World) (g m : Nat) (hm : m < 18446744073709551616) (R : World → Prop) (hn : Calls Try.prog 42 #[.pointer (some ⟨g, 0, none⟩)] w fun r w' => r = .returned (.int .u64 (m : Int)) ∧ R w') :
    Calls Try.prog 43 #[.pointer (some ⟨g, 0, none⟩)] w fun r w' => r = .returned (.int .i64 (Wire.unzz m)) ∧ R w' := by
  go_enter Try.func43, Try.ntmps43
  go_wp2_with fail
  refine hn.mono ?_
  rintro e w1 ⟨rfl, hR⟩
  have HR := hid_in hR
  clear hR hn
  by_cases h : m % 2 = 0
  · have HU : Hid (Wire.unzz m = ((m / 2 : Nat) : Int)) := by show _ = _; unfold Wire.unzz; rw [if_pos h]
    have k1 : (m : Int) % 2 = 0 := by omega
    clear h
    go_wp2
    go_ret
    rw [HU.out]
    exact ⟨by simp, HR.out⟩
  · have HU : Hid (Wire.unzz m = -((m / 2 : Nat) : Int) - 1) := by show _ = _; unfold Wire.unzz; rw [if_neg h]
    have k1 : ¬ ((m : Int) % 2 = 0) := by omega
    clear h
    go_wp2
    go_ret
    rw [HU.out]
    exact ⟨by simp, HR.out⟩
end Go.Proofs.Ytiijlnlkhpneaaa.Nd
namespace Go.Proofs.Ytiijlnlkhpneaaa.Nd
open Go.RowKit
/-- a slice of slices of bytes -/
def Bss (w : World) (v : Value) (ps : List (List Nat)) : Prop := ∃ p cap b o, v = .slice p ps.length cap ∧ ps.length ≤ cap ∧ cap ≤ 9223372036854775807 ∧ (ps ≠ [] → p = some ⟨b, o, none⟩ ∧ b < w.heap.size) ∧ ∀ (i : Nat) bs, ps[i]? = some bs → ∃ q c b' o', w.cell? ⟨b, o + i, none⟩ = some (.slice q bs.length c) ∧ Sl w q bs c b' o'
/-- a slice of texts -/
def Strs (w : World) (v : Value) (ns : List ByteArray) : Prop := ∃ p cap b o, v = .slice p ns.length cap ∧ ns.length ≤ cap ∧ cap ≤ 9223372036854775807 ∧ (ns ≠ [] → p = some ⟨b, o, none⟩ ∧ b < w.heap.size) ∧ ∀ (i : Nat) s, ns[i]? = some s → w.cell? ⟨b, o + i, none⟩ = some (.string s)
/-- a slice of numbers -/
def Ints (w : World) (v : Value) (ks : List Int) : Prop := ∃ p cap b o, v = .slice p ks.length cap ∧ ks.length ≤ cap ∧ cap ≤ 9223372036854775807 ∧ (ks ≠ [] → p = some ⟨b, o, none⟩ ∧ b < w.heap.size) ∧ ∀ (i : Nat) k, ks[i]? = some k → w.cell? ⟨b, o + i, none⟩ = some (.int .i64 k)
theorem Bss.lt {w : World} {v : Value} {ps : List (List Nat)} (h : Bss w v ps) : ∀ bs ∈ ps, ∀ x ∈ bs, x < 256 := by
  obtain ⟨p, cap, b, o, _, _, _, _, hat⟩ := h
  intro bs hbs
  obtain ⟨i, hi, rfl⟩ := List.getElem_of_mem hbs
  obtain ⟨q, c, b', o', _, hs⟩ := hat i _ (List.getElem?_eq_getElem hi)
  exact hs.lt
end Go.Proofs.Ytiijlnlkhpneaaa.Nd
namespace Go.Proofs.Ytiijlnlkhpneaaa.Nd
open Go.RowKit
theorem app_lt {a b : List Nat} (ha : ∀ x ∈ a, x < 256) (hb : ∀ x ∈ b, x < 256) : ∀ x ∈ a ++ b, x < 256 := by
  intro x hx
  rcases List.mem_append.1 hx with h | h
  · exact ha x h
  · exact hb x h
theorem Bss.below {w w' : World} {v : Value} {ps : List (List Nat)} (h : Bss w v ps) (hb : Below w.heap.size w w') : Bss w' v ps := by
  obtain ⟨p, cap, b, o, rfl, h1, h2, h3, hat⟩ := h
  refine ⟨p, cap, b, o, rfl, h1, h2, fun hne => ⟨(h3 hne).1, Nat.lt_of_lt_of_le (h3 hne).2 hb.size⟩, fun i bs hi => ?_⟩
  obtain ⟨q, c, b', o', hc, hs⟩ := hat i bs hi
  exact ⟨q, c, b', o', (hb.cell (p := ⟨b, o + i, none⟩) (World.block_lt_of_cell? w _ hc)).trans hc, hs.below hb⟩
theorem Strs.below {w w' : World} {v : Value} {ns : List ByteArray} (h : Strs w v ns) (hb : Below w.heap.size w w') : Strs w' v ns := by
  obtain ⟨p, cap, b, o, rfl, h1, h2, h3, hat⟩ := h
  exact ⟨p, cap, b, o, rfl, h1, h2, fun hne => ⟨(h3 hne).1, Nat.lt_of_lt_of_le (h3 hne).2 hb.size⟩, fun i s hi => (hb.cell (p := ⟨b, o + i, none⟩) (World.block_lt_of_cell? w _ (hat i s hi))).trans (hat i s hi)⟩
theorem Ints.below {w w' : World} {v : Value} {ks : List Int} (h : Ints w v ks) (hb : Below w.heap.size w w') : Ints w' v ks := by
  obtain ⟨p, cap, b, o, rfl, h1, h2, h3, hat⟩ := h
  exact ⟨p, cap, b, o, rfl, h1, h2, fun hne => ⟨(h3 hne).1, Nat.lt_of_lt_of_le (h3 hne).2 hb.size⟩, fun i s hi => (hb.cell (p := ⟨b, o + i, none⟩) (World.block_lt_of_cell? w _ (hat i s hi))).trans (hat i s hi)⟩
end Go.Proofs.Ytiijlnlkhpneaaa.Nd
namespace Go.Proofs.Ytiijlnlkhpneaaa.Nd
open Go.RowKit
theorem wpList_app {ops : Array Oper} {rest : List Oper} {o : Oper} {a : Act} {w : World} {Q : Exit → Act → World → Prop} (B : Nat) (hgd : o.guard = none) (s x : Operand) (ho : o.op = .call { callee := .builtin .append, args := #[s, x], argTypes := #[50, 50] })
    (v : Value) (xs ys : List Nat) (hs : a.eval s = v) (hown : w.ownsRow B 5 1 v xs.length (xs.map u8v)) (p : Option Addr) (c b off : Nat) (n : Nat) (hx : a.eval x = .slice p n c) (hn : ys.length = n) (hsl : Sl w p ys c b off) (hno : p = none → ys.length = 0 ∧ c = 0) (hlen : xs.length + ys.length ≤ 140737488355328) (hB : B ≤ w.heap.size)
    (h : ∀ v' w', w'.ownsRow B 5 1 v' (xs ++ ys).length ((xs ++ ys).map u8v) → w.grownBy w' v.ownBlock → wpList Try.prog ops Q rest (a.put o.dst v') w') : wpList Try.prog ops Q (o :: rest) a w := by
  subst hn
  obtain ⟨i5i, HI5, HE1, HE2, HE3⟩ := i5h
  refine wpList_append_any hgd s x 50 ho B 5 i5i (.int .u8 0) Try.underlying50 HI5.out HE3.out HE1.out HE2.out rfl v xs.length (xs.map u8v) hs hown p ys.length c (ys.map u8v) hx (by simp) hno hsl.news (one_u8 ys) hlen hB ?_
  intro v' w' h1 h2
  refine h v' w' ?_ h2
  rw [List.length_append, List.map_append]
  exact h1
/-- bytes that the call itself gathers -/
structure RE (W0 W : World) (v : Value) (xs : List Nat) : Prop where
  own : W.ownsRow W0.heap.size 5 1 v xs.length (xs.map u8v)
  bel : Below W0.heap.size W0 W
theorem RE.below {W0 W W' : World} {v : Value} {xs : List Nat} (h : RE W0 W v xs) (hb : Below W.heap.size W W') : RE W0 W' v xs := ⟨own_belowK h.own hb, h.bel.trans (hb.mono h.bel.size)⟩
theorem RE.more {W0 W W' : World} {v v' : Value} {xs ys : List Nat} (h : RE W0 W v xs) (ho : W'.ownsRow W0.heap.size 5 1 v' (xs ++ ys).length ((xs ++ ys).map u8v)) (hg : W.grownBy W' v.ownBlock) : RE W0 W' v' (xs ++ ys) := ⟨ho, own_step h.bel hg h.bel.size rfl h.own⟩
theorem RE.row {W0 W : World} {v : Value} {xs : List Nat} (h : RE W0 W v xs) {g : Nat} {vs : List Value} {t : TypeId} (hr : Row W0 g vs t) : Row W g vs t := hr.below h.bel hr.lt
end Go.Proofs.Ytiijlnlkhpneaaa.Nd
namespace Go.Proofs.Ytiijlnlkhpneaaa.Nd
open Go.RowKit
def i64r (n : Int) : Prop := -9223372036854775808 ≤ n ∧ n ≤ 9223372036854775807
/-- a number with a sign that is read -/
def sInt (s : Sta) : Int × Sta := (Wire.unzz (sNum s).1, (sNum s).2)
def sFlag (s : Sta) : Bool × Sta := if s.2 = 0 then Wire.rflag s.1 else (false, s)
theorem sNum_lt (s : Sta) : (sNum s).1 < 18446744073709551616 := by
  unfold sNum
  split
  · exact rnum_lt s.1
  · show 0 < 18446744073709551616; decide
theorem int_s (w : World) (g B : Nat) (s : Sta) (hi : In B w g s) : Calls Try.prog 55 #[.pointer (some ⟨g, 0, none⟩)] w fun r w' => r = .returned (.int .i64 (sInt s).1) ∧ In B w' g (sInt s).2 ∧ Grew w w' (· = g) :=
  iint_of w g (sNum s).1 (sNum_lt s) (fun w' => In B w' g (sNum s).2 ∧ Grew w w' (· = g)) (num_s w g B s hi)
theorem rint_s (w : World) (g B : Nat) (s : Sta) (hi : RI B w g s) : Calls Try.prog 43 #[.pointer (some ⟨g, 0, none⟩)] w fun r w' => r = .returned (.int .i64 (sInt s).1) ∧ RI B w' g (sInt s).2 ∧ Grew w w' (· = g) :=
  rint_of w g (sNum s).1 (sNum_lt s) (fun w' => RI B w' g (sNum s).2 ∧ Grew w w' (· = g)) (rnum_s w g B s hi)
theorem flag_s (w : World) (g B : Nat) (s : Sta) (hi : In B w g s) : Calls Try.prog 56 #[.pointer (some ⟨g, 0, none⟩)] w fun r w' => r = .returned (.bool (sFlag s).1) ∧ In B w' g (sFlag s).2 ∧ Grew w w' (· = g) := by
  obtain ⟨bs, e⟩ := s
  unfold sFlag
  split
  · rename_i h
    obtain rfl : e = 0 := h
    refine (iflag_any w g bs hi.lt hi).mono ?_
    rintro r w' ⟨rfl, h1, h2, _⟩
    exact ⟨rfl, h1, grew_of_grownS h2⟩
  · rename_i h
    refine (iflag_bad w g e bs h hi).mono ?_
    rintro r w' ⟨rfl, rfl⟩
    exact ⟨rfl, hi, Grew.refl _ _⟩
end Go.Proofs.Ytiijlnlkhpneaaa.Nd
