/-
  Operations: what Check says of one; the walks of named, areNumbers and checkPaths. The walks of areFields and of Encode, the program's. The walk of op.Decode. The walk of the reference's Encode. An operation's bytes mean it alone. Plain numbers, no program in it. What the statements' proofs have in common: a slice of bytes that comes in, and how long it can be. The walk of op.Encode.
-/
import Derived.Laws.CopyOwn
import Derived.Deep.RegionLaw
import Derived.Deep.DrawnRows
import Derived.Test.YtjlhjpooggkkoaaRows
import Derived.OwnWalk
import Derived.Laws.Tables
import Derived.Deep.CutRange
import Derived.ProofKit
import Derived.OpenShut
import Derived.ShutString
import Derived.ChangeOld
import Derived.Deep.DeepHandedRow
import Derived.SizedLaws
import Derived.Lib.LaidTab
import Derived.Deep.Matrix
import Derived.Deep.Slices
import Derived.Test.YtjlhjpooggkkoaaR00
import Derived.Test.YtjlhjpooggkkoaaR01
import Derived.Test.YtjlhjpooggkkoaaR02
import Derived.Test.YtjlhjpooggkkoaaR03
import Derived.Test.YtjlhjpooggkkoaaR04
import Derived.Test.YtjlhjpooggkkoaaR05
namespace Go.Proofs.Ytjlhjpooggkkoaa.Nd
open Go.RowKit
/-- an operation -/
structure Opn where
  kind : Int
  path : ByteArray
  dest : ByteArray
  data : ByteArray
  at_ : Int
  size : Int
  deriving DecidableEq
def Opn.cells (o : Opn) : List Value := [.int .i64 o.kind, .string o.path, .string o.dest, .string o.data, .int .i64 o.at_, .int .i64 o.size]
def Opn.val (o : Opn) : Value := .agg #[.int .i64 o.kind, .string o.path, .string o.dest, .string o.data, .int .i64 o.at_, .int .i64 o.size]
/-- an operation in a block of its own -/
theorem op_row (w : World) (k a z : Int) (p t d : ByteArray) : ∃ w2, Hid (w.alloc (.cells #[.int .i64 k, .string p, .string t, .string d, .int .i64 a, .int .i64 z] 23) = w2) ∧ Hid (Row w2 w.heap.size [.int .i64 k, .string p, .string t, .string d, .int .i64 a, .int .i64 z] 23) ∧ Hid (Below w.heap.size w w2) ∧ Hid (w2.heap.size = w.heap.size + 1) :=
  ⟨_, rfl, Row.new w [.int .i64 k, .string p, .string t, .string d, .int .i64 a, .int .i64 z] 23, (Below.refl _ _).alloc (Nat.le_refl _) _, by show _ = _; simp⟩
/-- the fields that a kind names -/
def namedS (o : Opn) : Opn :=
  if o.kind = 8 then ⟨o.kind, o.path, ⟨#[]⟩, ⟨#[]⟩, o.at_, o.size⟩ else if o.kind = 4 then ⟨o.kind, o.path, ⟨#[]⟩, ⟨#[]⟩, 0, o.size⟩ else
  if o.kind = 7 then ⟨o.kind, o.path, o.dest, ⟨#[]⟩, 0, 0⟩ else if o.kind = 3 then ⟨o.kind, o.path, ⟨#[]⟩, o.data, o.at_, 0⟩ else
  if o.kind = 11 then ⟨o.kind, ⟨#[]⟩, ⟨#[]⟩, ⟨#[]⟩, o.at_, 0⟩ else ⟨o.kind, o.path, ⟨#[]⟩, ⟨#[]⟩, 0, 0⟩
theorem info23 : (Try.prog.info? 23).map (·.size) = some 6 := by kernel_rfl
theorem row_mid (w : World) (o1 o3 : Obj) (vs : List Value) (t : TypeId) : Row (((w.alloc o1).alloc (.cells vs.toArray t)).alloc o3) (w.heap.size + 1) vs t :=
  (Row.newAt (w.alloc o1) (w.heap.size + 1) vs t (by simp)).alloc o3
theorem bel3 (w : World) (o1 o2 o3 : Obj) : Below w.heap.size w (((w.alloc o1).alloc o2).alloc o3) :=
  (((Below.refl _ _).alloc (Nat.le_refl _) _).alloc (by simp) _).alloc (by simp; omega) _
set_option maxHeartbeats 2000000 in
set_option maxRecDepth 100000 in
theorem named_1 (p t d : ByteArray) (a z : Int) (w : World) : Calls Try.prog 25 #[.agg #[.int .i64 1, .string p, .string t, .string d, .int .i64 a, .int .i64 z]] w fun e w' => e = .returned (.agg #[.int .i64 1, .string p, .string ⟨#[]⟩, .string ⟨#[]⟩, .int .i64 0, .int .i64 0]) ∧ Below w.heap.size w w' := by
  go_enter Try.func25, Try.ntmps25
  go_wp2
  exact post_Row 2 23 rfl (w.heap.size + 1) rfl 23 [.int .i64 1, .string p, .string ⟨#[]⟩, .string ⟨#[]⟩, .int .i64 0, .int .i64 0] (row_mid w _ _ _ _) _ Try.underlying23 rfl 6 info23 rfl rfl ⟨rfl, by first | exact bel3 w _ _ _ | exact (bel3 w _ _ _).drew⟩
set_option maxHeartbeats 2000000 in
set_option maxRecDepth 100000 in
theorem named_2 (p t d : ByteArray) (a z : Int) (w : World) : Calls Try.prog 25 #[.agg #[.int .i64 2, .string p, .string t, .string d, .int .i64 a, .int .i64 z]] w fun e w' => e = .returned (.agg #[.int .i64 2, .string p, .string ⟨#[]⟩, .string ⟨#[]⟩, .int .i64 0, .int .i64 0]) ∧ Below w.heap.size w w' := by
  go_enter Try.func25, Try.ntmps25
  go_wp2
  exact post_Row 2 23 rfl (w.heap.size + 1) rfl 23 [.int .i64 2, .string p, .string ⟨#[]⟩, .string ⟨#[]⟩, .int .i64 0, .int .i64 0] (row_mid w _ _ _ _) _ Try.underlying23 rfl 6 info23 rfl rfl ⟨rfl, by first | exact bel3 w _ _ _ | exact (bel3 w _ _ _).drew⟩
set_option maxHeartbeats 2000000 in
set_option maxRecDepth 100000 in
theorem named_3 (p t d : ByteArray) (a z : Int) (w : World) : Calls Try.prog 25 #[.agg #[.int .i64 3, .string p, .string t, .string d, .int .i64 a, .int .i64 z]] w fun e w' => e = .returned (.agg #[.int .i64 3, .string p, .string ⟨#[]⟩, .string d, .int .i64 a, .int .i64 0]) ∧ Below w.heap.size w w' := by
  go_enter Try.func25, Try.ntmps25
  go_wp2
  go_region
  go_wp2
  exact post_Row 2 23 rfl (w.heap.size + 1) rfl 23 [.int .i64 3, .string p, .string ⟨#[]⟩, .string d, .int .i64 a, .int .i64 0] (row_mid w _ _ _ _) _ Try.underlying23 rfl 6 info23 rfl rfl ⟨rfl, by first | exact bel3 w _ _ _ | exact (bel3 w _ _ _).drew⟩
set_option maxHeartbeats 2000000 in
set_option maxRecDepth 100000 in
theorem named_4 (p t d : ByteArray) (a z : Int) (w : World) : Calls Try.prog 25 #[.agg #[.int .i64 4, .string p, .string t, .string d, .int .i64 a, .int .i64 z]] w fun e w' => e = .returned (.agg #[.int .i64 4, .string p, .string ⟨#[]⟩, .string ⟨#[]⟩, .int .i64 0, .int .i64 z]) ∧ Below w.heap.size w w' := by
  go_enter Try.func25, Try.ntmps25
  go_wp2
  exact post_Row 2 23 rfl (w.heap.size + 1) rfl 23 [.int .i64 4, .string p, .string ⟨#[]⟩, .string ⟨#[]⟩, .int .i64 0, .int .i64 z] (row_mid w _ _ _ _) _ Try.underlying23 rfl 6 info23 rfl rfl ⟨rfl, by first | exact bel3 w _ _ _ | exact (bel3 w _ _ _).drew⟩
set_option maxHeartbeats 2000000 in
set_option maxRecDepth 100000 in
theorem named_5 (p t d : ByteArray) (a z : Int) (w : World) : Calls Try.prog 25 #[.agg #[.int .i64 5, .string p, .string t, .string d, .int .i64 a, .int .i64 z]] w fun e w' => e = .returned (.agg #[.int .i64 5, .string p, .string ⟨#[]⟩, .string ⟨#[]⟩, .int .i64 0, .int .i64 0]) ∧ Below w.heap.size w w' := by
  go_enter Try.func25, Try.ntmps25
  go_wp2
  exact post_Row 2 23 rfl (w.heap.size + 1) rfl 23 [.int .i64 5, .string p, .string ⟨#[]⟩, .string ⟨#[]⟩, .int .i64 0, .int .i64 0] (row_mid w _ _ _ _) _ Try.underlying23 rfl 6 info23 rfl rfl ⟨rfl, by first | exact bel3 w _ _ _ | exact (bel3 w _ _ _).drew⟩
set_option maxHeartbeats 2000000 in
set_option maxRecDepth 100000 in
theorem named_6 (p t d : ByteArray) (a z : Int) (w : World) : Calls Try.prog 25 #[.agg #[.int .i64 6, .string p, .string t, .string d, .int .i64 a, .int .i64 z]] w fun e w' => e = .returned (.agg #[.int .i64 6, .string p, .string ⟨#[]⟩, .string ⟨#[]⟩, .int .i64 0, .int .i64 0]) ∧ Below w.heap.size w w' := by
  go_enter Try.func25, Try.ntmps25
  go_wp2
  exact post_Row 2 23 rfl (w.heap.size + 1) rfl 23 [.int .i64 6, .string p, .string ⟨#[]⟩, .string ⟨#[]⟩, .int .i64 0, .int .i64 0] (row_mid w _ _ _ _) _ Try.underlying23 rfl 6 info23 rfl rfl ⟨rfl, by first | exact bel3 w _ _ _ | exact (bel3 w _ _ _).drew⟩
set_option maxHeartbeats 2000000 in
set_option maxRecDepth 100000 in
theorem named_7 (p t d : ByteArray) (a z : Int) (w : World) : Calls Try.prog 25 #[.agg #[.int .i64 7, .string p, .string t, .string d, .int .i64 a, .int .i64 z]] w fun e w' => e = .returned (.agg #[.int .i64 7, .string p, .string t, .string ⟨#[]⟩, .int .i64 0, .int .i64 0]) ∧ Below w.heap.size w w' := by
  go_enter Try.func25, Try.ntmps25
  go_wp2
  go_region
  go_wp2
  exact post_Row 2 23 rfl (w.heap.size + 1) rfl 23 [.int .i64 7, .string p, .string t, .string ⟨#[]⟩, .int .i64 0, .int .i64 0] (row_mid w _ _ _ _) _ Try.underlying23 rfl 6 info23 rfl rfl ⟨rfl, by first | exact bel3 w _ _ _ | exact (bel3 w _ _ _).drew⟩
set_option maxHeartbeats 2000000 in
set_option maxRecDepth 100000 in
theorem named_8 (p t d : ByteArray) (a z : Int) (w : World) : Calls Try.prog 25 #[.agg #[.int .i64 8, .string p, .string t, .string d, .int .i64 a, .int .i64 z]] w fun e w' => e = .returned (.agg #[.int .i64 8, .string p, .string ⟨#[]⟩, .string ⟨#[]⟩, .int .i64 a, .int .i64 z]) ∧ Below w.heap.size w w' := by
  go_enter Try.func25, Try.ntmps25
  go_wp2
  exact post_Row 2 23 rfl (w.heap.size + 1) rfl 23 [.int .i64 8, .string p, .string ⟨#[]⟩, .string ⟨#[]⟩, .int .i64 a, .int .i64 z] (row_mid w _ _ _ _) _ Try.underlying23 rfl 6 info23 rfl rfl ⟨rfl, by first | exact bel3 w _ _ _ | exact (bel3 w _ _ _).drew⟩
set_option maxHeartbeats 2000000 in
set_option maxRecDepth 100000 in
theorem named_9 (p t d : ByteArray) (a z : Int) (w : World) : Calls Try.prog 25 #[.agg #[.int .i64 9, .string p, .string t, .string d, .int .i64 a, .int .i64 z]] w fun e w' => e = .returned (.agg #[.int .i64 9, .string p, .string ⟨#[]⟩, .string ⟨#[]⟩, .int .i64 0, .int .i64 0]) ∧ Below w.heap.size w w' := by
  go_enter Try.func25, Try.ntmps25
  go_wp2
  exact post_Row 2 23 rfl (w.heap.size + 1) rfl 23 [.int .i64 9, .string p, .string ⟨#[]⟩, .string ⟨#[]⟩, .int .i64 0, .int .i64 0] (row_mid w _ _ _ _) _ Try.underlying23 rfl 6 info23 rfl rfl ⟨rfl, by first | exact bel3 w _ _ _ | exact (bel3 w _ _ _).drew⟩
set_option maxHeartbeats 2000000 in
set_option maxRecDepth 100000 in
theorem named_10 (p t d : ByteArray) (a z : Int) (w : World) : Calls Try.prog 25 #[.agg #[.int .i64 10, .string p, .string t, .string d, .int .i64 a, .int .i64 z]] w fun e w' => e = .returned (.agg #[.int .i64 10, .string p, .string ⟨#[]⟩, .string ⟨#[]⟩, .int .i64 0, .int .i64 0]) ∧ Below w.heap.size w w' := by
  go_enter Try.func25, Try.ntmps25
  go_wp2
  exact post_Row 2 23 rfl (w.heap.size + 1) rfl 23 [.int .i64 10, .string p, .string ⟨#[]⟩, .string ⟨#[]⟩, .int .i64 0, .int .i64 0] (row_mid w _ _ _ _) _ Try.underlying23 rfl 6 info23 rfl rfl ⟨rfl, by first | exact bel3 w _ _ _ | exact (bel3 w _ _ _).drew⟩
set_option maxHeartbeats 2000000 in
set_option maxRecDepth 100000 in
theorem named_11 (p t d : ByteArray) (a z : Int) (w : World) : Calls Try.prog 25 #[.agg #[.int .i64 11, .string p, .string t, .string d, .int .i64 a, .int .i64 z]] w fun e w' => e = .returned (.agg #[.int .i64 11, .string ⟨#[]⟩, .string ⟨#[]⟩, .string ⟨#[]⟩, .int .i64 a, .int .i64 0]) ∧ Below w.heap.size w w' := by
  go_enter Try.func25, Try.ntmps25
  go_wp2
  exact post_Row 2 23 rfl (w.heap.size + 1) rfl 23 [.int .i64 11, .string ⟨#[]⟩, .string ⟨#[]⟩, .string ⟨#[]⟩, .int .i64 a, .int .i64 0] (row_mid w _ _ _ _) _ Try.underlying23 rfl 6 info23 rfl rfl ⟨rfl, by first | exact bel3 w _ _ _ | exact (bel3 w _ _ _).drew⟩
/-- whether the numbers may be -/
def numsOk (k a z : Int) : Prop := (k = 11 ∧ 1 ≤ a ∧ a ≤ 8) ∨ (k ≠ 11 ∧ 0 ≤ a ∧ 0 ≤ z)
theorem nums_split (k a z : Int) : (k = 11 ∧ a < 1) ∨ (k = 11 ∧ 8 < a) ∨ (k = 11 ∧ 1 ≤ a ∧ a ≤ 8) ∨ (k ≠ 11 ∧ a < 0) ∨ (k ≠ 11 ∧ 0 ≤ a ∧ z < 0) ∨ (k ≠ 11 ∧ 0 ≤ a ∧ 0 ≤ z) := by omega
set_option maxHeartbeats 1000000 in
set_option maxRecDepth 100000 in
theorem areNumbers_any (k : Int) (p t d : ByteArray) (a z : Int) (w : World) : Calls Try.prog 26 #[.agg #[.int .i64 k, .string p, .string t, .string d, .int .i64 a, .int .i64 z]] w fun e w' => Says e (numsOk k a z) ∧ Below w.heap.size w w' := by
  obtain ⟨W0, H0, HR0, HB0, HZ0⟩ := op_row w k a z p t d
  have c0 : W0.cell? ⟨w.heap.size, 0, none⟩ = some (.int .i64 k) := HR0.out.cell 0
  have c4 : W0.cell? ⟨w.heap.size, 4, none⟩ = some (.int .i64 a) := HR0.out.cell 4
  have c5 : W0.cell? ⟨w.heap.size, 5, none⟩ = some (.int .i64 z) := HR0.out.cell 5
  rcases nums_split k a z with ⟨rfl, h1⟩ | ⟨rfl, h1⟩ | ⟨rfl, h1, h2⟩ | ⟨h0, h1⟩ | ⟨h0, h1, h2⟩ | ⟨h0, h1, h2⟩
  · have HN : Hid (¬ numsOk 11 a z) := by show ¬ _; unfold numsOk; omega
    have k1 : ¬ (1 ≤ a) := by omega
    go_enter Try.func26, Try.ntmps26
    go_upto_region 1 with fail
    refine wp_world H0.out ?_
    clear H0
    go_wp2
    go_ret
    exact ⟨.no rfl HN.out, HB0.out⟩
  · have HN : Hid (¬ numsOk 11 a z) := by show ¬ _; unfold numsOk; omega
    have k1 : 1 ≤ a := by omega
    have k2 : ¬ (a ≤ 8) := by omega
    go_enter Try.func26, Try.ntmps26
    go_upto_region 1 with fail
    refine wp_world H0.out ?_
    clear H0
    go_wp2
    go_ret
    exact ⟨.no rfl HN.out, HB0.out⟩
  · have HN : Hid (numsOk 11 a z) := by show numsOk _ _ _; unfold numsOk; omega
    go_enter Try.func26, Try.ntmps26
    go_upto_region 1 with fail
    refine wp_world H0.out ?_
    clear H0
    go_wp2
    go_ret
    exact ⟨.yes rfl HN.out, HB0.out⟩
  · have HN : Hid (¬ numsOk k a z) := by show ¬ _; unfold numsOk; omega
    have k0 : (k == 11) = false := beq_eq_false_iff_ne.2 h0
    have k1 : ¬ (0 ≤ a) := by omega
    go_enter Try.func26, Try.ntmps26
    go_upto_region 1 with fail
    refine wp_world H0.out ?_
    clear H0
    go_wp2
    go_ret
    exact ⟨.no rfl HN.out, HB0.out⟩
  · have HN : Hid (¬ numsOk k a z) := by show ¬ _; unfold numsOk; omega
    have k0 : (k == 11) = false := beq_eq_false_iff_ne.2 h0
    have k1 : ¬ (0 ≤ z) := by omega
    go_enter Try.func26, Try.ntmps26
    go_upto_region 1 with fail
    refine wp_world H0.out ?_
    clear H0
    go_wp2
    go_ret
    exact ⟨.no rfl HN.out, HB0.out⟩
  · have HN : Hid (numsOk k a z) := by show numsOk _ _ _; unfold numsOk; omega
    have k0 : (k == 11) = false := beq_eq_false_iff_ne.2 h0
    go_enter Try.func26, Try.ntmps26
    go_upto_region 1 with fail
    refine wp_world H0.out ?_
    clear H0
    go_wp2
    go_ret
    exact ⟨.yes rfl HN.out, HB0.out⟩
/-- the error of a path's text -/
def perr (s : ByteArray) : Int := (Vp.parseS (Vp.bl s)).2
theorem B_bl (s : ByteArray) : Vp.B (Vp.bl s) = s := by simp [Vp.B, Vp.bl]
theorem parse_p (s : ByteArray) (hs : s.size ≤ 9223372036854775807) (w : World) : Calls Try.prog 50 #[.string s] w fun e w' => ∃ v, e = .returned (.tuple #[v, .int .i64 (perr s)]) ∧ Below w.heap.size w w' := by
  have h := Vp.parse_any (Vp.bl s) (by rw [Vp.bl_length]; exact hs) w
  rw [B_bl] at h
  refine h.mono ?_
  rintro e w' ⟨v, rfl, _, hb⟩
  exact ⟨v, rfl, hb⟩
/-- the error of an operation's paths -/
def pathsS (k : Int) (p t : ByteArray) : Int := if k = 11 then 0 else if perr p = 0 ∧ k = 7 then perr t else perr p
theorem paths_split (k : Int) (p : ByteArray) : k = 11 ∨ (k ≠ 11 ∧ perr p ≠ 0) ∨ (k ≠ 11 ∧ perr p = 0 ∧ k ≠ 7) ∨ (perr p = 0 ∧ k = 7) := by omega
set_option maxHeartbeats 1000000 in
set_option maxRecDepth 100000 in
theorem checkPaths_any (k : Int) (p t d : ByteArray) (a z : Int) (w : World) (hp : p.size ≤ 9223372036854775807) (ht : t.size ≤ 9223372036854775807) : Calls Try.prog 27 #[.agg #[.int .i64 k, .string p, .string t, .string d, .int .i64 a, .int .i64 z]] w fun e w' => e = .returned (.int .i64 (pathsS k p t)) ∧ Below w.heap.size w w' := by
  obtain ⟨W0, H0, HR0, HB0, HZ0⟩ := op_row w k a z p t d
  have c0 : W0.cell? ⟨w.heap.size, 0, none⟩ = some (.int .i64 k) := HR0.out.cell 0
  have c1 : W0.cell? ⟨w.heap.size, 1, none⟩ = some (.string p) := HR0.out.cell 1
  have HP := hid_in (fun W => parse_p p hp W)
  have HT := hid_in (fun W => parse_p t ht W)
  clear hp ht
  obtain ⟨ep, HEP⟩ : ∃ ep, Hid (perr p = ep) := ⟨_, rfl⟩
  obtain ⟨et, HET⟩ : ∃ et, Hid (perr t = et) := ⟨_, rfl⟩
  rcases paths_split k p with rfl | ⟨h0, h1⟩ | ⟨h0, h1, h2⟩ | ⟨h1, rfl⟩
  · have HV : Hid (pathsS 11 p t = 0) := by show _ = _; simp [pathsS]
    go_enter Try.func27, Try.ntmps27
    go_upto_region 1 with fail
    refine wp_world H0.out ?_
    clear H0
    go_wp2
    go_ret
    rw [HV.out]
    exact ⟨rfl, HB0.out⟩
  · have HV : Hid (pathsS k p t = ep) := by show _ = _; unfold pathsS; rw [if_neg h0, if_neg (fun h => h1 h.1)]; exact HEP.out
    have k0 : (k == 11) = false := beq_eq_false_iff_ne.2 h0
    have k1 : (ep == 0) = false := beq_eq_false_iff_ne.2 (by rw [← HEP.out]; exact h1)
    rw [HEP.out] at HP
    clear h1
    go_enter Try.func27, Try.ntmps27
    go_upto_region 1 with fail
    refine wp_world H0.out ?_
    clear H0
    go_wp2_with (first | (go_at_call 50; refine (HP.out _).mono ?_; rintro e w1 ⟨v1, rfl, hb1⟩; have HB1 := hid_in (HB0.out.trans (hb1.mono HB0.out.size)); clear hb1))
    go_ret
    rw [HV.out]
    exact ⟨rfl, HB1.out⟩
  · have HV : Hid (pathsS k p t = 0) := by show _ = _; simp [pathsS, h0, h1, h2]
    have k0 : (k == 11) = false := beq_eq_false_iff_ne.2 h0
    have k1 : (k == 7) = false := beq_eq_false_iff_ne.2 h2
    rw [h1] at HP
    clear h1 HEP
    go_enter Try.func27, Try.ntmps27
    go_upto_region 1 with fail
    refine wp_world H0.out ?_
    clear H0
    go_wp2_with (first | (go_at_call 50; refine (HP.out _).mono ?_; rintro e w1 ⟨v1, rfl, hb1⟩; have HB1 := hid_in (HB0.out.trans (hb1.mono HB0.out.size)); have c0' : w1.cell? ⟨w.heap.size, 0, none⟩ = some (.int .i64 k) := (HR0.out.below hb1 HR0.out.lt).cell 0; clear hb1))
    go_ret
    rw [HV.out]
    exact ⟨rfl, HB1.out⟩
  · have HV : Hid (pathsS 7 p t = et) := by show _ = _; simp [pathsS, h1, HET.out]
    rw [h1] at HP
    rw [HET.out] at HT
    clear h1 HEP
    go_enter Try.func27, Try.ntmps27
    go_upto_region 1 with fail
    refine wp_world H0.out ?_
    clear H0
    go_wp2_with (first | (go_at_call 50; refine (HP.out _).mono ?_; rintro e w1 ⟨v1, rfl, hb1⟩; have HB1 := hid_in (HB0.out.trans (hb1.mono HB0.out.size)); have c0' : w1.cell? ⟨w.heap.size, 0, none⟩ = some (.int .i64 7) := (HR0.out.below hb1 HR0.out.lt).cell 0; have c2' : w1.cell? ⟨w.heap.size, 2, none⟩ = some (.string t) := (HR0.out.below hb1 HR0.out.lt).cell 2; clear hb1 HP) | (go_at_call 50; have hx := HB1.out; refine (HT.out _).mono ?_; rintro e w2 ⟨v2, rfl, hb2⟩; have HB2 := hid_in (HB1.out.trans (hb2.mono HB1.out.size)); clear hb2 hx))
    go_ret
    rw [HV.out]
    exact ⟨rfl, HB2.out⟩
end Go.Proofs.Ytjlhjpooggkkoaa.Nd
namespace Go.Proofs.Ytjlhjpooggkkoaa.Nd
open Go.RowKit
theorem Says.isNo' {e : Ending} {P : Prop} (h : Says e P) (hp : ¬ P) : e = .returned (.bool false) := by
  rcases h.cases with ⟨_, h2⟩ | ⟨h1, _⟩
  · exact absurd h2 hp
  · exact h1
theorem Says.isYes' {e : Ending} {P : Prop} (h : Says e P) (hp : P) : e = .returned (.bool true) := by
  rcases h.cases with ⟨h1, _⟩ | ⟨_, h2⟩
  · exact h1
  · exact absurd hp h2
def shortS (ns : List ByteArray) : Prop := ∀ s ∈ ns, s.size ≤ 1100
set_option maxHeartbeats 1000000 in
set_option maxRecDepth 100000 in
theorem areFields_any (w : World) (v : Value) (ns : List ByteArray) (h : Strs w v ns) (hsz : ∀ s ∈ ns, s.size ≤ 9223372036854775807) : Calls Try.prog 29 #[v] w fun e w' => Says e (shortS ns) ∧ w' = w := by
  obtain ⟨p, cap, b, o, rfl, h1, h2, h3, h4⟩ := h
  have H3 := hid_in h3
  have H4 := hid_in h4
  have HSZ := hid_in hsz
  clear h3 h4 hsz
  go_enter Try.func29, Try.ntmps29
  go_wp2_with fail
  go_loopw [7] (fun vk w' => ∃ j : Nat, vk = .int .i64 (j : Int) ∧ j ≤ ns.length ∧ (∀ i s, i < j → ns[i]? = some s → s.size ≤ 1100) ∧ w' = w) (fun vk _ => ns.length - (intOf vk).toNat)
  case atStart => exact ⟨0, rfl, by omega, fun i s h => by omega, rfl⟩
  case round =>
    obtain ⟨j, rfl, hj, hok, rfl⟩ := hrel
    have HOK := hid_in hok
    clear hok
    by_cases hl : j < ns.length
    · have k1 : (j : Int) < (ns.length : Int) := by omega
      obtain ⟨s, hs⟩ : ∃ s, ns[j]? = some s := ⟨_, List.getElem?_eq_getElem hl⟩
      have hne : ns ≠ [] := by rintro rfl; simp at hl
      obtain ⟨rfl, _⟩ := H3.out hne
      have c0 := H4.out j s hs
      have HS := hid_in hs
      have hz := HSZ.out s (List.mem_of_getElem? hs)
      clear hs hne
      by_cases hb : 1100 < s.size
      · have k2 : (1100 : Int) < (s.size : Int) := by omega
        go_wp2
        go_ret
        exact ⟨.no rfl (fun h => by have := h s (List.mem_of_getElem? HS.out); omega), rfl⟩
      · have k2 : ¬ ((1100 : Int) < (s.size : Int)) := by omega
        have HB := hid_in hb
        clear hb
        go_wp2
        refine ⟨⟨j + 1, by go_num, by omega, fun i x h5 h6 => ?_, trivial⟩, by simp [intOf]; omega⟩
        rcases (show i < j ∨ i = j by omega) with h | rfl
        · exact HOK.out i x h h6
        · obtain rfl : s = x := Option.some.inj (HS.out.symm.trans h6)
          have := HB.out
          omega
    · have k1 : ¬ ((j : Int) < (ns.length : Int)) := by omega
      go_wp2
      go_ret
      refine ⟨.yes rfl (fun s hs => ?_), rfl⟩
      obtain ⟨i, hi, rfl⟩ := List.getElem_of_mem hs
      exact HOK.out i _ (by omega) (List.getElem?_eq_getElem hi)
theorem strs3 (w : World) (p t d : ByteArray) : Strs (w.alloc (.cells #[.string p, .string t, .string d] 9)) (.slice (some ⟨w.heap.size, 0, none⟩) 3 3) [p, t, d] := by
  have hr := Row.new w [.string p, .string t, .string d] 9
  refine ⟨_, 3, w.heap.size, 0, rfl, by simp, by omega, fun _ => ⟨rfl, by simp⟩, fun i s hi => ?_⟩
  have hi3 : i < 3 := by have := (List.getElem?_eq_some_iff.1 hi).1; simpa using this
  rw [Nat.zero_add, hr.cell]
  rcases (show i = 0 ∨ i = 1 ∨ i = 2 by omega) with rfl | rfl | rfl <;> simp at hi ⊢ <;> exact hi
/-- the bytes of an operation -/
def encO (o : Opn) : List Nat := Wire.num (Wire.zz o.kind) ++ (Wire.num o.path.size ++ bytesS o.path) ++ (Wire.num o.dest.size ++ bytesS o.dest) ++ (Wire.num o.data.size ++ bytesS o.data) ++ Wire.num (Wire.zz o.at_) ++ Wire.num (Wire.zz o.size)
structure Opn.ok (o : Opn) : Prop where
  kind : i64r o.kind
  at_ : i64r o.at_
  size : i64r o.size
  path : o.path.size ≤ 9223372036854775807
  dest : o.dest.size ≤ 9223372036854775807
  data : o.data.size ≤ 9223372036854775807
def Opn.short (o : Opn) : Prop := o.path.size ≤ 1100 ∧ o.dest.size ≤ 1100 ∧ o.data.size ≤ 1100
theorem short3 (p t d : ByteArray) : shortS [p, t, d] ↔ p.size ≤ 1100 ∧ t.size ≤ 1100 ∧ d.size ≤ 1100 := by simp [shortS]
end Go.Proofs.Ytjlhjpooggkkoaa.Nd
namespace Go.Proofs.Ytjlhjpooggkkoaa.Nd
open Go.RowKit
/-- under way: the In at g is in state s, the answer's block is as it was -/
structure PV (w : World) (g B : Nat) (vs : List Value) (t : TypeId) (s : Sta) (W : World) : Prop where
  inn : In B W g s
  z : Row W w.heap.size vs t
  below : Below w.heap.size w W
  lt : w.heap.size < g
theorem PV.step {w : World} {g B : Nat} {vs : List Value} {t : TypeId} {s s' : Sta} {W W' : World} (h : PV w g B vs t s W) (hi : In B W' g s') (hg : Grew W W' (· = g)) : PV w g B vs t s' W' :=
  ⟨hi, h.z.grew hg (by have := h.lt; omega), hg.below h.below h.below.size (fun k hk => by have := h.lt; omega), h.lt⟩
theorem PV.next {w : World} {g B : Nat} {vs : List Value} {t : TypeId} {s : Sta} {W W' : World} (h : PV w g B vs t s W) (hb : Below W.heap.size W W') : PV w g B vs t s W' :=
  ⟨InIs.below h.inn hb, h.z.below hb h.z.lt, h.below.trans (hb.mono h.below.size), h.lt⟩
theorem dec_ok {l : List Nat} {e : Nat} : (l, e) = (([] : List Nat), 0) ↔ e = 0 ∧ l.length = 0 := by
  simp [and_comm]
end Go.Proofs.Ytjlhjpooggkkoaa.Nd
namespace Go.Proofs.Ytjlhjpooggkkoaa.Nd
open Go.RowKit
theorem int_c (W : World) (n : Int) (hn : i64r n) : Calls Try.prog 33 #[.int .i64 n] W fun e w' => ∃ p c b, e = .returned (.slice p (Wire.num (Wire.zz n)).length c) ∧ Sl w' p (Wire.num (Wire.zz n)) c b 0 ∧ (p = none → (Wire.num (Wire.zz n)).length = 0 ∧ c = 0) ∧ w'.ownsRow W.heap.size 5 1 (.slice p (Wire.num (Wire.zz n)).length c) (Wire.num (Wire.zz n)).length ((Wire.num (Wire.zz n)).map u8v) ∧ Below W.heap.size W w' := by
  refine (rwint_any W n hn.1 hn.2).mono ?_
  rintro e w' ⟨v, rfl, ho, hb⟩
  obtain ⟨p, c, b, rfl, hs, hno⟩ := own_sl (num_lt _ (zz_lt n hn.1 hn.2)) ho
  exact ⟨p, c, b, rfl, hs, hno, ho, hb⟩
theorem text_cc (W : World) (s : ByteArray) (hn : s.size ≤ 1100) : Calls Try.prog 34 #[.string s] W fun e w' => ∃ p c b, e = .returned (.slice p (Wire.num s.size ++ bytesS s).length c) ∧ Sl w' p (Wire.num s.size ++ bytesS s) c b 0 ∧ (p = none → (Wire.num s.size ++ bytesS s).length = 0 ∧ c = 0) ∧ w'.ownsRow W.heap.size 5 1 (.slice p (Wire.num s.size ++ bytesS s).length c) (Wire.num s.size ++ bytesS s).length ((Wire.num s.size ++ bytesS s).map u8v) ∧ Below W.heap.size W w' := by
  refine (rwtext_any W s (by omega)).mono ?_
  rintro e w' ⟨v, rfl, ho, hb⟩
  obtain ⟨p, c, b, rfl, hs, hno⟩ := own_sl (app_lt (num_lt s.size (by omega)) (bytesS_lt s)) ho
  exact ⟨p, c, b, rfl, hs, hno, ho, hb⟩
end Go.Proofs.Ytjlhjpooggkkoaa.Nd
namespace Go.Proofs.Ytjlhjpooggkkoaa.Nd
open Go.RowKit
theorem zz_unzz (m : Nat) : Wire.zz (Wire.unzz m) = m := by
  unfold Wire.zz Wire.unzz
  by_cases h : m % 2 = 0
  · simp only [if_pos h]
    rw [if_pos (by omega)]
    omega
  · simp only [if_neg h]
    rw [if_neg (by omega)]
    omega
theorem unzz_ok (m : Nat) (h : m < 18446744073709551616) : i64r (Wire.unzz m) := by
  unfold i64r Wire.unzz
  split <;> omega
theorem sInt_int (n : Int) (hn : i64r n) (r : List Nat) : sInt (Wire.num (Wire.zz n) ++ r, 0) = (n, (r, 0)) := by
  unfold sInt
  rw [sNum_num _ r (zz_lt n hn.1 hn.2)]
  simp only [unzz_zz n hn.1 hn.2]
theorem sInt_inv {s : Sta} (hs : okS s) (h : (sInt s).2.2 = 0) : s.2 = 0 ∧ s.1 = Wire.num (Wire.zz (sInt s).1) ++ (sInt s).2.1 ∧ i64r (sInt s).1 := by
  obtain ⟨h1, h2, h3⟩ := sNum_inv hs h
  refine ⟨h1, ?_, unzz_ok _ h3⟩
  show s.1 = Wire.num (Wire.zz (Wire.unzz (sNum s).1)) ++ (sNum s).2.1
  rw [zz_unzz]
  exact h2
theorem sInt_ok {s : Sta} (h : okS s) : okS (sInt s).2 := sNum_ok h
theorem text_inv {m : Nat} {s : Sta} (hs : okS s) (h : (sText m s).2.2 = 0) : s.2 = 0 ∧ s.1 = (Wire.num (str (sText m s).1).size ++ bytesS (str (sText m s).1)) ++ (sText m s).2.1 ∧ (str (sText m s).1).size ≤ m := by
  obtain ⟨h1, h2⟩ := sText_inv hs h
  rw [bytesS_str (sText_bytes hs), str_size]
  exact ⟨h1, h2, sText_len m s⟩
end Go.Proofs.Ytjlhjpooggkkoaa.Nd
namespace Go.Proofs.Ytjlhjpooggkkoaa.Nd
open Go.ChangeShapes Go.WideShapes Go.ChangeAt Go.RowKit Go.Deep
theorem own : ownKnob Try.prog.godebug = none := by kernel_rfl
theorem laidOut : laidOutB Try.prog = true := by kernel_rfl
/-- what is told of a slice of bytes that came in -/
def IsRow (w : World) (a : Option Addr) (len cap : Nat) (zs : List Int) : Prop :=
  (a = none ∧ len = 0 ∧ cap = 0 ∧ zs = []) ∨
  ∃ x, a = some x ∧ len ≤ cap ∧ cap ≤ maxLen ∧ zs.length = cap ∧ (∀ i, i < zs.length → w.cell? (x.add i) = some (.int .u8 (zs.getD i 0))) ∧ ∀ n ∈ zs, (Lit.int .u8 n).wf = true
theorem sl_of {w : World} {a : Option Addr} {len cap : Nat} {zs : List Int} (h : IsRow w a len cap zs) : ∃ bs b off, bs.length = len ∧ Sl w a bs cap b off := by
  rcases h with ⟨rfl, rfl, rfl, rfl⟩ | ⟨x, rfl, h1, h2, h3, h4, h5⟩
  · exact ⟨[], 0, 0, rfl, ⟨by simp, by simp, by omega, fun h => by simp at h, fun j hj => by simp at hj⟩⟩
  · have h2' : cap ≤ 9223372036854775807 := by unfold maxLen at h2; omega
    have hl : ((zs.take len).map Int.toNat).length = len := by simp; omega
    have hb : ∀ y ∈ (zs.take len).map Int.toNat, y < 256 := by
      intro y hy
      simp only [List.mem_map] at hy
      obtain ⟨n, hn, rfl⟩ := hy
      have := bounds_u8 (h5 n (List.mem_of_mem_take hn))
      omega
    by_cases hp : 0 < zs.length
    · obtain ⟨b, off, rfl, hc⟩ := ints_at h4 hp
      refine ⟨_, b, off, hl, ⟨hb, by omega, h2', fun _ => rfl, fun j hj => ?_⟩⟩
      rw [hl] at hj
      rw [hc j (by omega)]
      have hz : j < zs.length := by omega
      have hbd := bounds_u8 (h5 zs[j] (List.getElem_mem hz))
      have e : (((zs.take len).map Int.toNat).getD j 0 : Nat) = (zs.getD j 0).toNat := by
        simp [hj, hz]
      unfold u8v
      rw [e]
      simp [hz]
      omega
    · refine ⟨_, 0, 0, hl, ⟨hb, by omega, h2', fun h => by omega, fun j hj => by omega⟩⟩
theorem slice_in {H : Type} {enc : TypeId × Value → H} {W : World} {a : Option Addr} {len cap : Nat} {d : DataW H} {p : List MemPlace} (h : DataW.Trod enc Try.prog W 0 (fun _ => true) true 32 (.slice a len cap) d p) : ∃ bs b off, bs.length = len ∧ Sl W a bs cap b off := by
  obtain ⟨fuel, hf⟩ := h
  rcases open_ints Try.underlying32 Try.underlying5 (by kernel_rfl) hf with ⟨hcs, _⟩ | ⟨x, l, c, zs, hcs, _, hl, hm, hz, _, hcell, hwz⟩
  · simp [Value.cells] at hcs
    obtain ⟨rfl, rfl, rfl⟩ := hcs
    exact sl_of (zs := []) (.inl ⟨rfl, rfl, rfl, rfl⟩)
  · simp [Value.cells] at hcs
    obtain ⟨rfl, rfl, rfl⟩ := hcs
    exact sl_of (.inr ⟨_, rfl, hl, hm, by simpa using hz, hcell, hwz⟩)
theorem bytes5 : Try.prog.bytesOf 5 = 1 := by kernel_rfl
theorem slice_in2 {H : Type} {enc : TypeId × Value → H} {W : World} {a : Option Addr} {len cap : Nat} {d : DataW H} {p : List MemPlace} (h : DataW.Trod enc Try.prog W 0 (fun _ => true) true 32 (.slice a len cap) d p) :
    (a = none → len = 0 ∧ cap = 0) ∧ ((d = .nil ∧ len = 0) ∨ ∃ es sp, d = .slice es sp ∧ es.length = len) := by
  obtain ⟨fuel, hf⟩ := h
  rcases open_ints Try.underlying32 Try.underlying5 (by kernel_rfl) hf with ⟨hcs, hx⟩ | ⟨x, l, c, zs, hcs, _, hl, hm, hz, hx, hcell, hwz⟩
  · simp [Value.cells] at hcs
    obtain ⟨rfl, rfl, rfl⟩ := hcs
    simp only [Prod.mk.injEq] at hx
    exact ⟨fun _ => ⟨rfl, rfl⟩, .inl ⟨hx.1, rfl⟩⟩
  · simp [Value.cells] at hcs
    obtain ⟨rfl, rfl, rfl⟩ := hcs
    simp only [Prod.mk.injEq] at hx
    refine ⟨fun h => (by cases h), .inr ⟨_, _, hx.1, ?_⟩⟩
    simp at hz
    simp [lits, hz]
    omega
theorem slice_reach {H : Type} {enc : TypeId × Value → H} {W : World} {a : Option Addr} {len cap : Nat} {d : DataW H} {p : List MemPlace} (h : DataW.Trod enc Try.prog W 0 (fun _ => true) true 32 (.slice a len cap) d p)
    {ts : List TypeId} {ds : List (DataW H)} (hsz : (DataW.weightsEach Try.prog ts ds).all (· ≤ reachBytes) = true) (j : Nat) (ht : ts[j]? = some 32) (hd : ds[j]? = some d) : len ≤ 140737488351232 := by
  obtain ⟨_, ⟨_, rfl⟩ | ⟨es, sp, rfl, rfl⟩⟩ := slice_in2 h
  · omega
  · have := sized_slice hsz ht hd Try.underlying32
    rw [bytes5] at this
    unfold reachBytes at this
    omega
theorem none_of_cell {W : World} {x : Addr} {len : Nat} (h : 0 < len → ∃ v, W.cell? x = some v) : ∃ b o, 0 < len → x = ⟨b, o, none⟩ := by
  by_cases h0 : 0 < len
  · obtain ⟨v, hc⟩ := h h0
    obtain ⟨b', o', sp⟩ := x
    have hspot : sp = none := by simpa using World.cell?_spot hc
    subst hspot
    exact ⟨b', o', fun _ => rfl⟩
  · exact ⟨0, 0, fun h => absurd h h0⟩
theorem cells9 : Try.prog.cellsOf 9 = 1 := by kernel_rfl
theorem cells3 : Try.prog.cellsOf 3 = 1 := by kernel_rfl
theorem add_zero' (x : Addr) : x.add 0 = x := by cases x; simp [Addr.add]
instance : Inhabited ByteArray := ⟨ByteArray.empty⟩
theorem cells4 : Try.prog.cellsOf 4 = 1 := by kernel_rfl
theorem cells40 : Try.prog.cellsOf 40 = 1 := by kernel_rfl
theorem cells25 : Try.prog.cellsOf 25 = 1 := by kernel_rfl
end Go.Proofs.Ytjlhjpooggkkoaa.Nd
namespace Go.Proofs.Ytjlhjpooggkkoaa.Nd
open Go.RowKit
set_option maxHeartbeats 4000000 in
set_option maxRecDepth 100000 in
theorem encode_ok (o : Opn) (hok : o.ok) (hs : o.short) (w : World) : Calls Try.prog 16 #[o.val] w fun e w' => (∃ u, e = .returned (.tuple #[u, .int .i64 0]) ∧ w'.ownsRow w.heap.size 5 1 u (encO o).length ((encO o).map u8v)) ∧ Below w.heap.size w w' := by
  obtain ⟨k, p, t, d, a, z⟩ := o
  simp only [Opn.val]
  obtain ⟨W0, H0, HR0, HB0, HZ0⟩ := op_row w k a z p t d
  have c1 : W0.cell? ⟨w.heap.size, 1, none⟩ = some (.string p) := HR0.out.cell 1
  have c2 : W0.cell? ⟨w.heap.size, 2, none⟩ = some (.string t) := HR0.out.cell 2
  have c3 : W0.cell? ⟨w.heap.size, 3, none⟩ = some (.string d) := HR0.out.cell 3
  have HAF := hid_in (areFields_any _ _ _ (strs3 W0 p t d) (by have h1 := hok.path; have h2 := hok.dest; have h3 := hok.data; simp only at h1 h2 h3; simp [h1, h2, h3]))
  have HYES : Hid (shortS [p, t, d]) := (short3 p t d).2 hs
  have HIk := hid_in hok.kind
  have HIa := hid_in hok.at_
  have HIz := hid_in hok.size
  simp only at HIk HIa HIz
  obtain ⟨z1, z2, z3⟩ := hs
  simp only at z1 z2 z3
  have y1 := num_length (Wire.zz k)
  have y2 := num_length p.size
  have y3 := num_length t.size
  have y4 := num_length d.size
  have y5 := num_length (Wire.zz a)
  have y6 := num_length (Wire.zz z)
  have HL0 : Hid (([] : List Nat).length + 10 ≤ 140737488355328) := by
    show _ ≤ _
    simp only [List.length_nil]
    omega
  have HL1 : Hid ((([] ++ Wire.num (Wire.zz k)) : List Nat).length + 10 + p.size ≤ 140737488355328) := by
    show _ ≤ _
    simp only [List.length_append, List.length_nil]
    omega
  have HL2 : Hid (((([] ++ Wire.num (Wire.zz k)) ++ (Wire.num p.size ++ bytesS p)) : List Nat).length + 10 + t.size ≤ 140737488355328) := by
    show _ ≤ _
    simp only [List.length_append, List.length_nil, bytesS_length]
    omega
  have HL3 : Hid ((((([] ++ Wire.num (Wire.zz k)) ++ (Wire.num p.size ++ bytesS p)) ++ (Wire.num t.size ++ bytesS t)) : List Nat).length + 10 + d.size ≤ 140737488355328) := by
    show _ ≤ _
    simp only [List.length_append, List.length_nil, bytesS_length]
    omega
  have HL4 : Hid (((((([] ++ Wire.num (Wire.zz k)) ++ (Wire.num p.size ++ bytesS p)) ++ (Wire.num t.size ++ bytesS t)) ++ (Wire.num d.size ++ bytesS d)) : List Nat).length + 10 ≤ 140737488355328) := by
    show _ ≤ _
    simp only [List.length_append, List.length_nil, bytesS_length]
    omega
  have HL5 : Hid ((((((([] ++ Wire.num (Wire.zz k)) ++ (Wire.num p.size ++ bytesS p)) ++ (Wire.num t.size ++ bytesS t)) ++ (Wire.num d.size ++ bytesS d)) ++ Wire.num (Wire.zz a)) : List Nat).length + 10 ≤ 140737488355328) := by
    show _ ≤ _
    simp only [List.length_append, List.length_nil, bytesS_length]
    omega
  have HL6 : Hid (((((((([] ++ Wire.num (Wire.zz k)) ++ (Wire.num p.size ++ bytesS p)) ++ (Wire.num t.size ++ bytesS t)) ++ (Wire.num d.size ++ bytesS d)) ++ Wire.num (Wire.zz a)) ++ Wire.num (Wire.zz z)) : List Nat).length ≤ 140737488355328) := by
    show _ ≤ _
    simp only [List.length_append, List.length_nil, bytesS_length]
    omega
  clear hok z1 z2 z3 y1 y2 y3 y4 y5 y6
  go_enter Try.func16, Try.ntmps16
  go_upto_region 1 with fail
  refine wp_world H0.out ?_
  clear H0
  go_upto_region 4 with (first | (go_at_call 29; refine HAF.out.mono ?_; rintro e w1 ⟨hs, hw1⟩; obtain rfl := hs.isYes' HYES.out; have HB1 : Hid (Below w.heap.size w w1) := (by rw [hw1]; exact HB0.out.alloc HB0.out.size _); have HR1 : Hid (Row w1 w.heap.size [.int .i64 k, .string p, .string t, .string d, .int .i64 a, .int .i64 z] 23) := (by rw [hw1]; exact HR0.out.alloc _); clear hs hw1 c1 c2 c3 HAF))
  have HSZ : Hid (w.heap.size < w1.heap.size) := HR1.out.lt
  obtain ⟨W2, HW2⟩ : ∃ W2, Hid (w1.alloc (.cells #[.slice none 0 0] 56) = W2) := ⟨_, rfl⟩
  have HO2 : Hid (OutB W2 w1.heap.size w1.heap.size []) := ⟨.slice none 0 0, by rw [← HW2.out]; exact out_new w1⟩
  have HB2 : Hid (Below w1.heap.size w1 W2) := by show Below _ _ _; rw [← HW2.out]; exact (Below.refl _ _).alloc (Nat.le_refl _) _
  refine wp_world HW2.out ?_
  clear HW2
  generalize w1.heap.size = B at *
  have HBE : Hid (∀ W, Below B w1 W → Row W w.heap.size [.int .i64 k, .string p, .string t, .string d, .int .i64 a, .int .i64 z] 23) := fun W hW => HR1.out.below hW HSZ.out
  have HBF : Hid (∀ W W', Below B w1 W → Below W.heap.size W W' → Below w.heap.size w W') := fun W W' h1 h2 => by
    have h3 : Below w.heap.size w W := HB1.out.trans (h1.mono (Nat.le_of_lt HSZ.out))
    exact h3.trans (h2.mono h3.size)
  have hr2 := HBE.out W2 HB2.out
  have c0_ : W2.cell? ⟨w.heap.size, 0, none⟩ = some (.int .i64 k) := hr2.cell 0
  clear hr2
  go_wp2_with (first | (go_at_call 30; refine (int_o _ B B _ k HIk.out (Nat.le_refl _) HO2.out HL0.out).mono ?_; rintro e w3 ⟨rfl, h1, h2⟩; have HO3 := hid_in h1; have HB3 := hid_in (HB2.out.trans h2); clear h1 h2 c0_ HO2; have hr3 := HBE.out w3 HB3.out; have c1_ : w3.cell? ⟨w.heap.size, 1, none⟩ = some (.string p) := hr3.cell 1; clear hr3) | (go_at_call 31; refine (text_o _ B B _ p (Nat.le_refl _) HO3.out HL1.out).mono ?_; rintro e w4 ⟨rfl, h1, h2⟩; have HO4 := hid_in h1; have HB4 := hid_in (HB3.out.trans h2); clear h1 h2 c1_ HO3; have hr4 := HBE.out w4 HB4.out; have c2_ : w4.cell? ⟨w.heap.size, 2, none⟩ = some (.string t) := hr4.cell 2; clear hr4) | (go_at_call 31; refine (text_o _ B B _ t (Nat.le_refl _) HO4.out HL2.out).mono ?_; rintro e w5 ⟨rfl, h1, h2⟩; have HO5 := hid_in h1; have HB5 := hid_in (HB4.out.trans h2); clear h1 h2 c2_ HO4; have hr5 := HBE.out w5 HB5.out; have c3_ : w5.cell? ⟨w.heap.size, 3, none⟩ = some (.string d) := hr5.cell 3; clear hr5) | (go_at_call 31; refine (text_o _ B B _ d (Nat.le_refl _) HO5.out HL3.out).mono ?_; rintro e w6 ⟨rfl, h1, h2⟩; have HO6 := hid_in h1; have HB6 := hid_in (HB5.out.trans h2); clear h1 h2 c3_ HO5; have hr6 := HBE.out w6 HB6.out; have c4_ : w6.cell? ⟨w.heap.size, 4, none⟩ = some (.int .i64 a) := hr6.cell 4; clear hr6) | (go_at_call 30; refine (int_o _ B B _ a HIa.out (Nat.le_refl _) HO6.out HL4.out).mono ?_; rintro e w7 ⟨rfl, h1, h2⟩; have HO7 := hid_in h1; have HB7 := hid_in (HB6.out.trans h2); clear h1 h2 c4_ HO6; have hr7 := HBE.out w7 HB7.out; have c5_ : w7.cell? ⟨w.heap.size, 5, none⟩ = some (.int .i64 z) := hr7.cell 5; clear hr7) | (go_at_call 30; refine (int_o _ B B _ z HIz.out (Nat.le_refl _) HO7.out HL5.out).mono ?_; rintro e w8 ⟨rfl, h1, h2⟩; have HO8 := hid_in h1; have HB8 := hid_in (HB7.out.trans h2); clear h1 h2 c5_ HO7) | (go_at_call 32; obtain ⟨v9, hv9⟩ := HO8.out; refine (obytes_any w8 B B v9 _ hv9 HL6.out).mono ?_; rintro e w9 ⟨u9, rfl, h1, h2⟩; have HW9 := hid_in h1; have HB9 := hid_in h2; have HE9 := hid_in HB8.out; clear h1 h2 hv9 HO8))
  go_ret2
  refine ⟨⟨_, rfl, ?_⟩, HBF.out _ _ HE9.out HB9.out⟩
  exact own_mono HW9.out (Nat.le_trans HB1.out.size HE9.out.size)
end Go.Proofs.Ytjlhjpooggkkoaa.Nd
