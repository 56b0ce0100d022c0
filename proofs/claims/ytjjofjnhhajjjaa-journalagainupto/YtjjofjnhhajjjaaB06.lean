/-
  The walks of Int and Flag, written and read, of wire and of the reference. The walk of Node: the node that plain data mean. Plain facts on a right node's bytes, and what comes in with a Raw in later worlds. The walk of the reference's Encode. Int and Flag that are written and read, by states. Operations: what Check says of one; the walks of named, areNumbers and checkPaths. The walks of areFields and of Encode, the program's.
-/
import Derived.Laws.Tables
import Derived.Laws.CopyOwn
import Derived.OwnWalk
import Derived.Deep.RegionLaw
import Derived.Deep.DrawnRows
import Derived.Laws.StructEq
import Derived.Laws.BitsAllLaws
import Derived.Deep.CutRange
import Derived.Test.YtjjofjnhhajjjaaB00
import Derived.Test.YtjjofjnhhajjjaaB01
import Derived.Test.YtjjofjnhhajjjaaB02
import Derived.Test.YtjjofjnhhajjjaaB03
import Derived.Test.YtjjofjnhhajjjaaB04
import Derived.Test.YtjjofjnhhajjjaaB05
namespace Go.Proofs.Ytjjofjnhhajjjaa.Nd
open Go.RowKit
namespace Wire
/-- a number with a sign, as one without -/
def zz (n : Int) : Nat := if 0 ≤ n then (2 * n).toNat else (-2 * n - 1).toNat
/-- a number with a sign, out of one without -/
def unzz (m : Nat) : Int := if m % 2 = 0 then ((m / 2 : Nat) : Int) else -((m / 2 : Nat) : Int) - 1
end Wire
theorem not64 (x : Nat) (hx : x < 18446744073709551616) : bits .xor .u64 (if IntKind.u64.signed = true then -1 else IntKind.u64.max) (x : Int) = ((18446744073709551615 - x : Nat) : Int) := by
  have h : (if IntKind.u64.signed = true then -1 else IntKind.u64.max : Int) = ((18446744073709551615 : Nat) : Int) := by decide
  have hx' : 18446744073709551615 ^^^ x = 18446744073709551615 - x := by
    refine Nat.eq_of_testBit_eq fun i => ?_
    rw [Nat.testBit_xor, show (18446744073709551615 : Nat) = 2 ^ 64 - 1 from rfl, Nat.testBit_two_pow_sub_one, show 2 ^ 64 - 1 - x = 2 ^ 64 - (x + 1) by omega, Nat.testBit_two_pow_sub_succ (show x < 2 ^ 64 by omega)]
    by_cases h : i < 64
    · simp [h]
    · have : x.testBit i = false := Nat.testBit_lt_two_pow (Nat.lt_of_lt_of_le (show x < 2 ^ 64 by omega) (Nat.pow_le_pow_right (by omega) (by omega)))
      simp [h, this]
  rw [h, u64_xor_nat _ _ (by decide) hx, hx']
set_option maxHeartbeats 1000000 in
set_option maxRecDepth 100000 in
theorem oint_any (w : World) (B g : Nat) (v : Value) (xs : List Nat) (n : Int) (hn1 : -9223372036854775808 ≤ n) (hn2 : n ≤ 9223372036854775807) (ho : OutIs w B g v xs) (hl : xs.length + 10 ≤ 140737488355328) :
    Calls Try.prog 75 #[.pointer (some ⟨g, 0, none⟩), .int .i64 n] w fun e w' => e = .returned (.tuple #[]) ∧ ∃ v', OutIs w' B g v' (xs ++ Wire.num (Wire.zz n)) ∧ Grew w w' (OutS g v) ∧ Moved w v v' := by
  obtain ⟨z, HZ, hz⟩ : ∃ z, Hid (z = Wire.zz n) ∧ z < 18446744073709551616 := ⟨_, rfl, by unfold Wire.zz; split <;> omega⟩
  have hnum := onum_any w B g v xs z hz ho hl
  rw [← HZ.out]
  by_cases h0 : 0 ≤ n
  · have hz1 : Hid ((z : Int) = 2 * n) := by show _ = _; rw [HZ.out]; unfold Wire.zz; rw [if_pos h0]; omega
    obtain ⟨m, rfl⟩ := Int.eq_ofNat_of_zero_le h0
    clear ho
    go_enter Try.func75, Try.ntmps75
    go_wp2_with fail
    have e0 : ((m : Int) * 2) = (z : Int) := by have := hz1.out; omega
    rw [e0]
    refine hnum.mono ?_
    rintro e w' ⟨rfl, hh⟩
    have H := hid_in hh
    clear hh hnum
    go_wp2
    go_end0
    exact ⟨rfl, H.out⟩
  · have hz1 : Hid ((z : Int) = -2 * n - 1) := by show _ = _; rw [HZ.out]; unfold Wire.zz; rw [if_neg h0]; omega
    clear ho
    go_enter Try.func75, Try.ntmps75
    go_wp2_with fail
    have e0 : bits .xor .u64 IntKind.u64.max (IntKind.u64.wrap (IntKind.u64.wrap n * 2)) = (z : Int) := by
      have hy : IntKind.u64.wrap (IntKind.u64.wrap n * 2) = (((2 * n + 18446744073709551616).toNat : Nat) : Int) := by
        rw [IntKind.wrap_u64, IntKind.wrap_u64]; omega
      rw [hy]
      have h := not64 (2 * n + 18446744073709551616).toNat (by omega)
      have h' : bits .xor .u64 IntKind.u64.max (((2 * n + 18446744073709551616).toNat : Nat) : Int) = ((18446744073709551615 - (2 * n + 18446744073709551616).toNat : Nat) : Int) := h
      rw [h']
      have := hz1.out
      omega
    rw [e0]
    refine hnum.mono ?_
    rintro e w' ⟨rfl, hh⟩
    have H := hid_in hh
    clear hh hnum e0
    go_wp2
    go_end0
    exact ⟨rfl, H.out⟩
theorem and_one64 (x : Nat) (hx : x < 18446744073709551616) : bits .and .u64 (x : Int) 1 = ((x % 2 : Nat) : Int) := by
  have := u64_and_nat x 1 hx (by decide)
  rw [Nat.and_one_is_mod] at this
  exact this
set_option maxHeartbeats 400000 in
theorem iint_of (w : World) (g m : Nat) (hm : m < 18446744073709551616) (R : World → Prop) (hn : Calls Try.prog 79 #[.pointer (some ⟨g, 0, none⟩)] w fun r w' => r = .returned (.int .u64 (m : Int)) ∧ R w') :
    Calls Try.prog 80 #[.pointer (some ⟨g, 0, none⟩)] w fun r w' => r = .returned (.int .i64 (Wire.unzz m)) ∧ R w' := by
  have ha := and_one64 m hm
  go_enter Try.func80, Try.ntmps80
  go_wp2_with fail
  refine hn.mono ?_
  rintro e w1 ⟨rfl, hR⟩
  have HR := hid_in hR
  clear hR hn
  by_cases h : m % 2 = 0
  · have HU : Hid (Wire.unzz m = ((m / 2 : Nat) : Int)) := by show _ = _; unfold Wire.unzz; rw [if_pos h]
    have ha' : bits .and .u64 (m : Int) 1 = 0 := by rw [ha, h]; rfl
    clear ha
    go_wp2
    go_ret
    rw [HU.out]
    exact ⟨by simp, HR.out⟩
  · have HU : Hid (Wire.unzz m = -((m / 2 : Nat) : Int) - 1) := by show _ = _; unfold Wire.unzz; rw [if_neg h]
    have ha' : bits .and .u64 (m : Int) 1 = 1 := by rw [ha, show m % 2 = 1 by omega]; rfl
    clear ha
    go_wp2
    go_ret
    rw [HU.out]
    exact ⟨by simp, HR.out⟩
theorem unzz_zz (n : Int) (h1 : -9223372036854775808 ≤ n) (h2 : n ≤ 9223372036854775807) : Wire.unzz (Wire.zz n) = n := by
  unfold Wire.unzz Wire.zz
  split
  · rename_i h
    split
    · omega
    · omega
  · rename_i h
    split
    · omega
    · omega
theorem zz_lt (n : Int) (h1 : -9223372036854775808 ≤ n) (h2 : n ≤ 9223372036854775807) : Wire.zz n < 18446744073709551616 := by
  unfold Wire.zz
  split <;> omega
end Go.Proofs.Ytjjofjnhhajjjaa.Nd
namespace Go.Proofs.Ytjjofjnhhajjjaa.Nd
open Go.RowKit
/-- a slice of slices of bytes -/
def Bss (w : World) (v : Value) (ps : List (List Nat)) : Prop := ∃ p cap b o, v = .slice p ps.length cap ∧ ps.length ≤ cap ∧ cap ≤ 9223372036854775807 ∧ (ps ≠ [] → p = some ⟨b, o, none⟩ ∧ b < w.heap.size) ∧ ∀ (i : Nat) bs, ps[i]? = some bs → ∃ q c b' o', w.cell? ⟨b, o + i, none⟩ = some (.slice q bs.length c) ∧ Sl w q bs c b' o'
/-- a slice of texts -/
def Strs (w : World) (v : Value) (ns : List ByteArray) : Prop := ∃ p cap b o, v = .slice p ns.length cap ∧ ns.length ≤ cap ∧ cap ≤ 9223372036854775807 ∧ (ns ≠ [] → p = some ⟨b, o, none⟩ ∧ b < w.heap.size) ∧ ∀ (i : Nat) s, ns[i]? = some s → w.cell? ⟨b, o + i, none⟩ = some (.string s)
/-- a slice of numbers -/
def Ints (w : World) (v : Value) (ks : List Int) : Prop := ∃ p cap b o, v = .slice p ks.length cap ∧ ks.length ≤ cap ∧ cap ≤ 9223372036854775807 ∧ (ks ≠ [] → p = some ⟨b, o, none⟩ ∧ b < w.heap.size) ∧ ∀ (i : Nat) k, ks[i]? = some k → w.cell? ⟨b, o + i, none⟩ = some (.int .i64 k)
theorem Bss.lt {w : World} {v : Value} {ps : List (List Nat)} (h : Bss w v ps) : ∀ bs ∈ ps, ∀ x ∈ bs, x < 256 := by
  obtain ⟨p, cap, b, o, _, _, _, _, hat⟩ := h
  intro bs hbs
  obtain ⟨i, hi, rfl⟩ := List.getElem_of_mem hbs
  obtain ⟨q, c, b', o', _, hs⟩ := hat i _ (List.getElem?_eq_getElem hi)
  exact hs.lt
end Go.Proofs.Ytjjofjnhhajjjaa.Nd
namespace Go.Proofs.Ytjjofjnhhajjjaa.Nd
open Go.RowKit
theorem app_lt {a b : List Nat} (ha : ∀ x ∈ a, x < 256) (hb : ∀ x ∈ b, x < 256) : ∀ x ∈ a ++ b, x < 256 := by
  intro x hx
  rcases List.mem_append.1 hx with h | h
  · exact ha x h
  · exact hb x h
theorem Bss.below {w w' : World} {v : Value} {ps : List (List Nat)} (h : Bss w v ps) (hb : Below w.heap.size w w') : Bss w' v ps := by
  obtain ⟨p, cap, b, o, rfl, h1, h2, h3, hat⟩ := h
  refine ⟨p, cap, b, o, rfl, h1, h2, fun hne => ⟨(h3 hne).1, Nat.lt_of_lt_of_le (h3 hne).2 hb.size⟩, fun i bs hi => ?_⟩
  obtain ⟨q, c, b', o', hc, hs⟩ := hat i bs hi
  exact ⟨q, c, b', o', (hb.cell (p := ⟨b, o + i, none⟩) (World.block_lt_of_cell? w _ hc)).trans hc, hs.below hb⟩
theorem Strs.below {w w' : World} {v : Value} {ns : List ByteArray} (h : Strs w v ns) (hb : Below w.heap.size w w') : Strs w' v ns := by
  obtain ⟨p, cap, b, o, rfl, h1, h2, h3, hat⟩ := h
  exact ⟨p, cap, b, o, rfl, h1, h2, fun hne => ⟨(h3 hne).1, Nat.lt_of_lt_of_le (h3 hne).2 hb.size⟩, fun i s hi => (hb.cell (p := ⟨b, o + i, none⟩) (World.block_lt_of_cell? w _ (hat i s hi))).trans (hat i s hi)⟩
theorem Ints.below {w w' : World} {v : Value} {ks : List Int} (h : Ints w v ks) (hb : Below w.heap.size w w') : Ints w' v ks := by
  obtain ⟨p, cap, b, o, rfl, h1, h2, h3, hat⟩ := h
  exact ⟨p, cap, b, o, rfl, h1, h2, fun hne => ⟨(h3 hne).1, Nat.lt_of_lt_of_le (h3 hne).2 hb.size⟩, fun i s hi => (hb.cell (p := ⟨b, o + i, none⟩) (World.block_lt_of_cell? w _ (hat i s hi))).trans (hat i s hi)⟩
end Go.Proofs.Ytjjofjnhhajjjaa.Nd
namespace Go.Proofs.Ytjjofjnhhajjjaa.Nd
open Go.RowKit
/-- bytes that the call itself gathers -/
structure RE (W0 W : World) (v : Value) (xs : List Nat) : Prop where
  own : W.ownsRow W0.heap.size 5 1 v xs.length (xs.map u8v)
  bel : Below W0.heap.size W0 W
theorem RE.below {W0 W W' : World} {v : Value} {xs : List Nat} (h : RE W0 W v xs) (hb : Below W.heap.size W W') : RE W0 W' v xs := ⟨own_belowK h.own hb, h.bel.trans (hb.mono h.bel.size)⟩
theorem text_c (W : World) (s : ByteArray) (hn : s.size ≤ 1000) : Calls Try.prog 46 #[.string s] W fun e w' => ∃ p c b, e = .returned (.slice p (Wire.num s.size ++ bytesS s).length c) ∧ Sl w' p (Wire.num s.size ++ bytesS s) c b 0 ∧ (p = none → (Wire.num s.size ++ bytesS s).length = 0 ∧ c = 0) ∧ Below W.heap.size W w' := by
  refine (rwtext_any W s (by omega)).mono ?_
  rintro e w' ⟨v, rfl, ho, hb⟩
  obtain ⟨p, c, b, rfl, hs, hno⟩ := own_sl (app_lt (num_lt s.size (by omega)) (bytesS_lt s)) ho
  exact ⟨p, c, b, rfl, hs, hno, hb⟩
theorem RE.row {W0 W : World} {v : Value} {xs : List Nat} (h : RE W0 W v xs) {g : Nat} {vs : List Value} {t : TypeId} (hr : Row W0 g vs t) : Row W g vs t := hr.below h.bel hr.lt
end Go.Proofs.Ytjjofjnhhajjjaa.Nd
namespace Go.Proofs.Ytjjofjnhhajjjaa.Nd
open Go.RowKit
def i64r (n : Int) : Prop := -9223372036854775808 ≤ n ∧ n ≤ 9223372036854775807
theorem int_o (w : World) (B g : Nat) (xs : List Nat) (n : Int) (hn : i64r n) (hg : B ≤ g) (ho : OutB w B g xs) (hl : xs.length + 10 ≤ 140737488355328) :
    Calls Try.prog 75 #[.pointer (some ⟨g, 0, none⟩), .int .i64 n] w fun e w' => e = .returned (.tuple #[]) ∧ OutB w' B g (xs ++ Wire.num (Wire.zz n)) ∧ Below B w w' := by
  obtain ⟨v, hv⟩ := ho
  refine (oint_any w B g v xs n hn.1 hn.2 hv hl).mono ?_
  rintro e w' ⟨rfl, v', h1, h2, _⟩
  exact ⟨rfl, ⟨v', h1⟩, out_below hg hv h2⟩
/-- a number with a sign that is read -/
def sInt (s : Sta) : Int × Sta := (Wire.unzz (sNum s).1, (sNum s).2)
theorem sNum_lt (s : Sta) : (sNum s).1 < 18446744073709551616 := by
  unfold sNum
  split
  · exact rnum_lt s.1
  · show 0 < 18446744073709551616; decide
theorem int_s (w : World) (g B : Nat) (s : Sta) (hi : In B w g s) : Calls Try.prog 80 #[.pointer (some ⟨g, 0, none⟩)] w fun r w' => r = .returned (.int .i64 (sInt s).1) ∧ In B w' g (sInt s).2 ∧ Grew w w' (· = g) :=
  iint_of w g (sNum s).1 (sNum_lt s) (fun w' => In B w' g (sNum s).2 ∧ Grew w w' (· = g)) (num_s w g B s hi)
end Go.Proofs.Ytjjofjnhhajjjaa.Nd
namespace Go.Proofs.Ytjjofjnhhajjjaa.Nd
open Go.RowKit
/-- an operation -/
structure Opn where
  kind : Int
  path : ByteArray
  dest : ByteArray
  data : ByteArray
  at_ : Int
  size : Int
  deriving DecidableEq
def Opn.cells (o : Opn) : List Value := [.int .i64 o.kind, .string o.path, .string o.dest, .string o.data, .int .i64 o.at_, .int .i64 o.size]
def Opn.val (o : Opn) : Value := .agg #[.int .i64 o.kind, .string o.path, .string o.dest, .string o.data, .int .i64 o.at_, .int .i64 o.size]
/-- an operation in a block of its own -/
theorem op_row (w : World) (k a z : Int) (p t d : ByteArray) : ∃ w2, Hid (w.alloc (.cells #[.int .i64 k, .string p, .string t, .string d, .int .i64 a, .int .i64 z] 49) = w2) ∧ Hid (Row w2 w.heap.size [.int .i64 k, .string p, .string t, .string d, .int .i64 a, .int .i64 z] 49) ∧ Hid (Below w.heap.size w w2) ∧ Hid (w2.heap.size = w.heap.size + 1) :=
  ⟨_, rfl, Row.new w [.int .i64 k, .string p, .string t, .string d, .int .i64 a, .int .i64 z] 49, (Below.refl _ _).alloc (Nat.le_refl _) _, by show _ = _; simp⟩
theorem info23 : (Try.prog.info? 49).map (·.size) = some 6 := by kernel_rfl
end Go.Proofs.Ytjjofjnhhajjjaa.Nd
namespace Go.Proofs.Ytjjofjnhhajjjaa.Nd
open Go.RowKit
theorem Says.isNo' {e : Ending} {P : Prop} (h : Says e P) (hp : ¬ P) : e = .returned (.bool false) := by
  rcases h.cases with ⟨_, h2⟩ | ⟨h1, _⟩
  · exact absurd h2 hp
  · exact h1
theorem Says.isYes' {e : Ending} {P : Prop} (h : Says e P) (hp : P) : e = .returned (.bool true) := by
  rcases h.cases with ⟨h1, _⟩ | ⟨_, h2⟩
  · exact h1
  · exact absurd hp h2
def shortS (ns : List ByteArray) : Prop := ∀ s ∈ ns, s.size ≤ 1100
set_option maxHeartbeats 1000000 in
set_option maxRecDepth 100000 in
theorem areFields_any (w : World) (v : Value) (ns : List ByteArray) (h : Strs w v ns) (hsz : ∀ s ∈ ns, s.size ≤ 9223372036854775807) : Calls Try.prog 74 #[v] w fun e w' => Says e (shortS ns) ∧ w' = w := by
  obtain ⟨p, cap, b, o, rfl, h1, h2, h3, h4⟩ := h
  have H3 := hid_in h3
  have H4 := hid_in h4
  have HSZ := hid_in hsz
  clear h3 h4 hsz
  go_enter Try.func74, Try.ntmps74
  go_wp2_with fail
  go_loopw [7] (fun vk w' => ∃ j : Nat, vk = .int .i64 (j : Int) ∧ j ≤ ns.length ∧ (∀ i s, i < j → ns[i]? = some s → s.size ≤ 1100) ∧ w' = w) (fun vk _ => ns.length - (intOf vk).toNat)
  case atStart => exact ⟨0, rfl, by omega, fun i s h => by omega, rfl⟩
  case round =>
    obtain ⟨j, rfl, hj, hok, rfl⟩ := hrel
    have HOK := hid_in hok
    clear hok
    by_cases hl : j < ns.length
    · have k1 : (j : Int) < (ns.length : Int) := by omega
      obtain ⟨s, hs⟩ : ∃ s, ns[j]? = some s := ⟨_, List.getElem?_eq_getElem hl⟩
      have hne : ns ≠ [] := by rintro rfl; simp at hl
      obtain ⟨rfl, _⟩ := H3.out hne
      have c0 := H4.out j s hs
      have HS := hid_in hs
      have hz := HSZ.out s (List.mem_of_getElem? hs)
      clear hs hne
      by_cases hb : 1100 < s.size
      · have k2 : (1100 : Int) < (s.size : Int) := by omega
        go_wp2
        go_ret
        exact ⟨.no rfl (fun h => by have := h s (List.mem_of_getElem? HS.out); omega), rfl⟩
      · have k2 : ¬ ((1100 : Int) < (s.size : Int)) := by omega
        have HB := hid_in hb
        clear hb
        go_wp2
        refine ⟨⟨j + 1, by go_num, by omega, fun i x h5 h6 => ?_, trivial⟩, by simp [intOf]; omega⟩
        rcases (show i < j ∨ i = j by omega) with h | rfl
        · exact HOK.out i x h h6
        · obtain rfl : s = x := Option.some.inj (HS.out.symm.trans h6)
          have := HB.out
          omega
    · have k1 : ¬ ((j : Int) < (ns.length : Int)) := by omega
      go_wp2
      go_ret
      refine ⟨.yes rfl (fun s hs => ?_), rfl⟩
      obtain ⟨i, hi, rfl⟩ := List.getElem_of_mem hs
      exact HOK.out i _ (by omega) (List.getElem?_eq_getElem hi)
theorem strs3 (w : World) (p t d : ByteArray) : Strs (w.alloc (.cells #[.string p, .string t, .string d] 9)) (.slice (some ⟨w.heap.size, 0, none⟩) 3 3) [p, t, d] := by
  have hr := Row.new w [.string p, .string t, .string d] 9
  refine ⟨_, 3, w.heap.size, 0, rfl, by simp, by omega, fun _ => ⟨rfl, by simp⟩, fun i s hi => ?_⟩
  have hi3 : i < 3 := by have := (List.getElem?_eq_some_iff.1 hi).1; simpa using this
  rw [Nat.zero_add, hr.cell]
  rcases (show i = 0 ∨ i = 1 ∨ i = 2 by omega) with rfl | rfl | rfl <;> simp at hi ⊢ <;> exact hi
/-- the bytes of an operation -/
def encO (o : Opn) : List Nat := Wire.num (Wire.zz o.kind) ++ (Wire.num o.path.size ++ bytesS o.path) ++ (Wire.num o.dest.size ++ bytesS o.dest) ++ (Wire.num o.data.size ++ bytesS o.data) ++ Wire.num (Wire.zz o.at_) ++ Wire.num (Wire.zz o.size)
structure Opn.ok (o : Opn) : Prop where
  kind : i64r o.kind
  at_ : i64r o.at_
  size : i64r o.size
  path : o.path.size ≤ 9223372036854775807
  dest : o.dest.size ≤ 9223372036854775807
  data : o.data.size ≤ 9223372036854775807
def Opn.short (o : Opn) : Prop := o.path.size ≤ 1100 ∧ o.dest.size ≤ 1100 ∧ o.data.size ≤ 1100
theorem short3 (p t d : ByteArray) : shortS [p, t, d] ↔ p.size ≤ 1100 ∧ t.size ≤ 1100 ∧ d.size ≤ 1100 := by simp [shortS]
set_option maxHeartbeats 2000000 in
set_option maxRecDepth 100000 in
theorem encode_long (o : Opn) (hok : o.ok) (hl : ¬ o.short) (w : World) : Calls Try.prog 56 #[o.val] w fun e w' => e = .returned (.tuple #[.slice none 0 0, .int .i64 2]) ∧ Below w.heap.size w w' := by
  obtain ⟨k, p, t, d, a, z⟩ := o
  simp only [Opn.val]
  obtain ⟨W0, H0, HR0, HB0, HZ0⟩ := op_row w k a z p t d
  have c1 : W0.cell? ⟨w.heap.size, 1, none⟩ = some (.string p) := HR0.out.cell 1
  have c2 : W0.cell? ⟨w.heap.size, 2, none⟩ = some (.string t) := HR0.out.cell 2
  have c3 : W0.cell? ⟨w.heap.size, 3, none⟩ = some (.string d) := HR0.out.cell 3
  have HAF := hid_in (areFields_any _ _ _ (strs3 W0 p t d) (by have h1 := hok.path; have h2 := hok.dest; have h3 := hok.data; simp only at h1 h2 h3; simp [h1, h2, h3]))
  have HNO : Hid (¬ shortS [p, t, d]) := fun h => hl ((short3 p t d).1 h)
  clear hok hl
  go_enter Try.func56, Try.ntmps56
  go_upto_region 1 with fail
  refine wp_world H0.out ?_
  clear H0
  go_wp2_with (first | (go_at_call 74; refine HAF.out.mono ?_; rintro e w1 ⟨hs, hw1⟩; obtain rfl := hs.isNo' HNO.out; subst hw1; clear hs))
  go_ret2
  exact ⟨rfl, HB0.out.alloc HB0.out.size _⟩
end Go.Proofs.Ytjjofjnhhajjjaa.Nd
