/-
  Operations: what Check says of one; the walks of named, areNumbers and checkPaths.
-/
import Derived.Lib.SlBytesConst
import Derived.Laws.CopyOwn
import Derived.Deep.RegionLaw
import Derived.Deep.DrawnRows
import Derived.Lib.AppendZeros
import Derived.Laws.Tables
import Derived.Test.YtngehkmdanhgpaaGreatR00
import Derived.Test.YtngehkmdanhgpaaGreatR01
import Derived.Test.YtngehkmdanhgpaaGreatR02
import Derived.Test.YtngehkmdanhgpaaGreatR03
import Derived.Test.YtngehkmdanhgpaaGreatR04
import Derived.Test.YtngehkmdanhgpaaGreatR05
import Derived.Test.YtngehkmdanhgpaaGreatR06
import Derived.Test.YtngehkmdanhgpaaGreatR07
import Derived.Test.YtngehkmdanhgpaaGreatR08
import Derived.Test.YtngehkmdanhgpaaGreatR35
namespace Go.Proofs.YtngehkmdanhgpaaGreat.Nd
open Go.RowKit
/-- an operation -/
structure Opn where
  kind : Int
  path : ByteArray
  dest : ByteArray
  data : ByteArray
  at_ : Int
  size : Int
  deriving DecidableEq
def Opn.cells (o : Opn) : List Value := [.int .i64 o.kind, .string o.path, .string o.dest, .string o.data, .int .i64 o.at_, .int .i64 o.size]
def Opn.val (o : Opn) : Value := .agg #[.int .i64 o.kind, .string o.path, .string o.dest, .string o.data, .int .i64 o.at_, .int .i64 o.size]
/-- an operation in a block of its own -/
theorem op_row (w : World) (k a z : Int) (p t d : ByteArray) : ∃ w2, Hid (w.alloc (.cells #[.int .i64 k, .string p, .string t, .string d, .int .i64 a, .int .i64 z] 40) = w2) ∧ Hid (Row w2 w.heap.size [.int .i64 k, .string p, .string t, .string d, .int .i64 a, .int .i64 z] 40) ∧ Hid (Below w.heap.size w w2) ∧ Hid (w2.heap.size = w.heap.size + 1) :=
  ⟨_, rfl, Row.new w [.int .i64 k, .string p, .string t, .string d, .int .i64 a, .int .i64 z] 40, (Below.refl _ _).alloc (Nat.le_refl _) _, by show _ = _; simp⟩
/-- the fields that a kind names -/
def namedS (o : Opn) : Opn :=
  if o.kind = 8 then ⟨o.kind, o.path, ⟨#[]⟩, ⟨#[]⟩, o.at_, o.size⟩ else if o.kind = 4 then ⟨o.kind, o.path, ⟨#[]⟩, ⟨#[]⟩, 0, o.size⟩ else
  if o.kind = 7 then ⟨o.kind, o.path, o.dest, ⟨#[]⟩, 0, 0⟩ else if o.kind = 3 then ⟨o.kind, o.path, ⟨#[]⟩, o.data, o.at_, 0⟩ else
  if o.kind = 11 then ⟨o.kind, ⟨#[]⟩, ⟨#[]⟩, ⟨#[]⟩, o.at_, 0⟩ else ⟨o.kind, o.path, ⟨#[]⟩, ⟨#[]⟩, 0, 0⟩
theorem info23 : (Tryz.prog.info? 40).map (·.size) = some 6 := by kernel_rfl
theorem row_mid (w : World) (o1 o3 : Obj) (vs : List Value) (t : TypeId) : Row (((w.alloc o1).alloc (.cells vs.toArray t)).alloc o3) (w.heap.size + 1) vs t :=
  (Row.newAt (w.alloc o1) (w.heap.size + 1) vs t (by simp)).alloc o3
theorem bel3 (w : World) (o1 o2 o3 : Obj) : Below w.heap.size w (((w.alloc o1).alloc o2).alloc o3) :=
  (((Below.refl _ _).alloc (Nat.le_refl _) _).alloc (by simp) _).alloc (by simp; omega) _
set_option maxHeartbeats 2000000 in
set_option maxRecDepth 100000 in
theorem named_1 (p t d : ByteArray) (a z : Int) (w : World) : Calls Tryz.prog 60 #[.agg #[.int .i64 1, .string p, .string t, .string d, .int .i64 a, .int .i64 z]] w fun e w' => e = .returned (.agg #[.int .i64 1, .string p, .string ⟨#[]⟩, .string ⟨#[]⟩, .int .i64 0, .int .i64 0]) ∧ Below w.heap.size w w' := by
  go_enter Tryz.func60, Tryz.ntmps60
  go_wp2
  exact post_Row 2 40 rfl (w.heap.size + 1) rfl 40 [.int .i64 1, .string p, .string ⟨#[]⟩, .string ⟨#[]⟩, .int .i64 0, .int .i64 0] (row_mid w _ _ _ _) _ Tryz.underlying40 rfl 6 info23 rfl rfl ⟨rfl, by first | exact bel3 w _ _ _ | exact (bel3 w _ _ _).drew⟩
set_option maxHeartbeats 2000000 in
set_option maxRecDepth 100000 in
theorem named_2 (p t d : ByteArray) (a z : Int) (w : World) : Calls Tryz.prog 60 #[.agg #[.int .i64 2, .string p, .string t, .string d, .int .i64 a, .int .i64 z]] w fun e w' => e = .returned (.agg #[.int .i64 2, .string p, .string ⟨#[]⟩, .string ⟨#[]⟩, .int .i64 0, .int .i64 0]) ∧ Below w.heap.size w w' := by
  go_enter Tryz.func60, Tryz.ntmps60
  go_wp2
  exact post_Row 2 40 rfl (w.heap.size + 1) rfl 40 [.int .i64 2, .string p, .string ⟨#[]⟩, .string ⟨#[]⟩, .int .i64 0, .int .i64 0] (row_mid w _ _ _ _) _ Tryz.underlying40 rfl 6 info23 rfl rfl ⟨rfl, by first | exact bel3 w _ _ _ | exact (bel3 w _ _ _).drew⟩
set_option maxHeartbeats 2000000 in
set_option maxRecDepth 100000 in
theorem named_3 (p t d : ByteArray) (a z : Int) (w : World) : Calls Tryz.prog 60 #[.agg #[.int .i64 3, .string p, .string t, .string d, .int .i64 a, .int .i64 z]] w fun e w' => e = .returned (.agg #[.int .i64 3, .string p, .string ⟨#[]⟩, .string d, .int .i64 a, .int .i64 0]) ∧ Below w.heap.size w w' := by
  go_enter Tryz.func60, Tryz.ntmps60
  go_wp2
  go_region
  go_wp2
  exact post_Row 2 40 rfl (w.heap.size + 1) rfl 40 [.int .i64 3, .string p, .string ⟨#[]⟩, .string d, .int .i64 a, .int .i64 0] (row_mid w _ _ _ _) _ Tryz.underlying40 rfl 6 info23 rfl rfl ⟨rfl, by first | exact bel3 w _ _ _ | exact (bel3 w _ _ _).drew⟩
set_option maxHeartbeats 2000000 in
set_option maxRecDepth 100000 in
theorem named_4 (p t d : ByteArray) (a z : Int) (w : World) : Calls Tryz.prog 60 #[.agg #[.int .i64 4, .string p, .string t, .string d, .int .i64 a, .int .i64 z]] w fun e w' => e = .returned (.agg #[.int .i64 4, .string p, .string ⟨#[]⟩, .string ⟨#[]⟩, .int .i64 0, .int .i64 z]) ∧ Below w.heap.size w w' := by
  go_enter Tryz.func60, Tryz.ntmps60
  go_wp2
  exact post_Row 2 40 rfl (w.heap.size + 1) rfl 40 [.int .i64 4, .string p, .string ⟨#[]⟩, .string ⟨#[]⟩, .int .i64 0, .int .i64 z] (row_mid w _ _ _ _) _ Tryz.underlying40 rfl 6 info23 rfl rfl ⟨rfl, by first | exact bel3 w _ _ _ | exact (bel3 w _ _ _).drew⟩
set_option maxHeartbeats 2000000 in
set_option maxRecDepth 100000 in
theorem named_5 (p t d : ByteArray) (a z : Int) (w : World) : Calls Tryz.prog 60 #[.agg #[.int .i64 5, .string p, .string t, .string d, .int .i64 a, .int .i64 z]] w fun e w' => e = .returned (.agg #[.int .i64 5, .string p, .string ⟨#[]⟩, .string ⟨#[]⟩, .int .i64 0, .int .i64 0]) ∧ Below w.heap.size w w' := by
  go_enter Tryz.func60, Tryz.ntmps60
  go_wp2
  exact post_Row 2 40 rfl (w.heap.size + 1) rfl 40 [.int .i64 5, .string p, .string ⟨#[]⟩, .string ⟨#[]⟩, .int .i64 0, .int .i64 0] (row_mid w _ _ _ _) _ Tryz.underlying40 rfl 6 info23 rfl rfl ⟨rfl, by first | exact bel3 w _ _ _ | exact (bel3 w _ _ _).drew⟩
set_option maxHeartbeats 2000000 in
set_option maxRecDepth 100000 in
theorem named_6 (p t d : ByteArray) (a z : Int) (w : World) : Calls Tryz.prog 60 #[.agg #[.int .i64 6, .string p, .string t, .string d, .int .i64 a, .int .i64 z]] w fun e w' => e = .returned (.agg #[.int .i64 6, .string p, .string ⟨#[]⟩, .string ⟨#[]⟩, .int .i64 0, .int .i64 0]) ∧ Below w.heap.size w w' := by
  go_enter Tryz.func60, Tryz.ntmps60
  go_wp2
  exact post_Row 2 40 rfl (w.heap.size + 1) rfl 40 [.int .i64 6, .string p, .string ⟨#[]⟩, .string ⟨#[]⟩, .int .i64 0, .int .i64 0] (row_mid w _ _ _ _) _ Tryz.underlying40 rfl 6 info23 rfl rfl ⟨rfl, by first | exact bel3 w _ _ _ | exact (bel3 w _ _ _).drew⟩
set_option maxHeartbeats 2000000 in
set_option maxRecDepth 100000 in
theorem named_7 (p t d : ByteArray) (a z : Int) (w : World) : Calls Tryz.prog 60 #[.agg #[.int .i64 7, .string p, .string t, .string d, .int .i64 a, .int .i64 z]] w fun e w' => e = .returned (.agg #[.int .i64 7, .string p, .string t, .string ⟨#[]⟩, .int .i64 0, .int .i64 0]) ∧ Below w.heap.size w w' := by
  go_enter Tryz.func60, Tryz.ntmps60
  go_wp2
  go_region
  go_wp2
  exact post_Row 2 40 rfl (w.heap.size + 1) rfl 40 [.int .i64 7, .string p, .string t, .string ⟨#[]⟩, .int .i64 0, .int .i64 0] (row_mid w _ _ _ _) _ Tryz.underlying40 rfl 6 info23 rfl rfl ⟨rfl, by first | exact bel3 w _ _ _ | exact (bel3 w _ _ _).drew⟩
set_option maxHeartbeats 2000000 in
set_option maxRecDepth 100000 in
theorem named_8 (p t d : ByteArray) (a z : Int) (w : World) : Calls Tryz.prog 60 #[.agg #[.int .i64 8, .string p, .string t, .string d, .int .i64 a, .int .i64 z]] w fun e w' => e = .returned (.agg #[.int .i64 8, .string p, .string ⟨#[]⟩, .string ⟨#[]⟩, .int .i64 a, .int .i64 z]) ∧ Below w.heap.size w w' := by
  go_enter Tryz.func60, Tryz.ntmps60
  go_wp2
  exact post_Row 2 40 rfl (w.heap.size + 1) rfl 40 [.int .i64 8, .string p, .string ⟨#[]⟩, .string ⟨#[]⟩, .int .i64 a, .int .i64 z] (row_mid w _ _ _ _) _ Tryz.underlying40 rfl 6 info23 rfl rfl ⟨rfl, by first | exact bel3 w _ _ _ | exact (bel3 w _ _ _).drew⟩
set_option maxHeartbeats 2000000 in
set_option maxRecDepth 100000 in
theorem named_9 (p t d : ByteArray) (a z : Int) (w : World) : Calls Tryz.prog 60 #[.agg #[.int .i64 9, .string p, .string t, .string d, .int .i64 a, .int .i64 z]] w fun e w' => e = .returned (.agg #[.int .i64 9, .string p, .string ⟨#[]⟩, .string ⟨#[]⟩, .int .i64 0, .int .i64 0]) ∧ Below w.heap.size w w' := by
  go_enter Tryz.func60, Tryz.ntmps60
  go_wp2
  exact post_Row 2 40 rfl (w.heap.size + 1) rfl 40 [.int .i64 9, .string p, .string ⟨#[]⟩, .string ⟨#[]⟩, .int .i64 0, .int .i64 0] (row_mid w _ _ _ _) _ Tryz.underlying40 rfl 6 info23 rfl rfl ⟨rfl, by first | exact bel3 w _ _ _ | exact (bel3 w _ _ _).drew⟩
set_option maxHeartbeats 2000000 in
set_option maxRecDepth 100000 in
theorem named_10 (p t d : ByteArray) (a z : Int) (w : World) : Calls Tryz.prog 60 #[.agg #[.int .i64 10, .string p, .string t, .string d, .int .i64 a, .int .i64 z]] w fun e w' => e = .returned (.agg #[.int .i64 10, .string p, .string ⟨#[]⟩, .string ⟨#[]⟩, .int .i64 0, .int .i64 0]) ∧ Below w.heap.size w w' := by
  go_enter Tryz.func60, Tryz.ntmps60
  go_wp2
  exact post_Row 2 40 rfl (w.heap.size + 1) rfl 40 [.int .i64 10, .string p, .string ⟨#[]⟩, .string ⟨#[]⟩, .int .i64 0, .int .i64 0] (row_mid w _ _ _ _) _ Tryz.underlying40 rfl 6 info23 rfl rfl ⟨rfl, by first | exact bel3 w _ _ _ | exact (bel3 w _ _ _).drew⟩
set_option maxHeartbeats 2000000 in
set_option maxRecDepth 100000 in
theorem named_11 (p t d : ByteArray) (a z : Int) (w : World) : Calls Tryz.prog 60 #[.agg #[.int .i64 11, .string p, .string t, .string d, .int .i64 a, .int .i64 z]] w fun e w' => e = .returned (.agg #[.int .i64 11, .string ⟨#[]⟩, .string ⟨#[]⟩, .string ⟨#[]⟩, .int .i64 a, .int .i64 0]) ∧ Below w.heap.size w w' := by
  go_enter Tryz.func60, Tryz.ntmps60
  go_wp2
  exact post_Row 2 40 rfl (w.heap.size + 1) rfl 40 [.int .i64 11, .string ⟨#[]⟩, .string ⟨#[]⟩, .string ⟨#[]⟩, .int .i64 a, .int .i64 0] (row_mid w _ _ _ _) _ Tryz.underlying40 rfl 6 info23 rfl rfl ⟨rfl, by first | exact bel3 w _ _ _ | exact (bel3 w _ _ _).drew⟩
/-- whether the numbers may be -/
def numsOk (k a z : Int) : Prop := (k = 11 ∧ 1 ≤ a ∧ a ≤ 8) ∨ (k ≠ 11 ∧ 0 ≤ a ∧ 0 ≤ z)
theorem nums_split (k a z : Int) : (k = 11 ∧ a < 1) ∨ (k = 11 ∧ 8 < a) ∨ (k = 11 ∧ 1 ≤ a ∧ a ≤ 8) ∨ (k ≠ 11 ∧ a < 0) ∨ (k ≠ 11 ∧ 0 ≤ a ∧ z < 0) ∨ (k ≠ 11 ∧ 0 ≤ a ∧ 0 ≤ z) := by omega
set_option maxHeartbeats 1000000 in
set_option maxRecDepth 100000 in
theorem areNumbers_any (k : Int) (p t d : ByteArray) (a z : Int) (w : World) : Calls Tryz.prog 61 #[.agg #[.int .i64 k, .string p, .string t, .string d, .int .i64 a, .int .i64 z]] w fun e w' => Says e (numsOk k a z) ∧ Below w.heap.size w w' := by
  obtain ⟨W0, H0, HR0, HB0, HZ0⟩ := op_row w k a z p t d
  have c0 : W0.cell? ⟨w.heap.size, 0, none⟩ = some (.int .i64 k) := HR0.out.cell 0
  have c4 : W0.cell? ⟨w.heap.size, 4, none⟩ = some (.int .i64 a) := HR0.out.cell 4
  have c5 : W0.cell? ⟨w.heap.size, 5, none⟩ = some (.int .i64 z) := HR0.out.cell 5
  rcases nums_split k a z with ⟨rfl, h1⟩ | ⟨rfl, h1⟩ | ⟨rfl, h1, h2⟩ | ⟨h0, h1⟩ | ⟨h0, h1, h2⟩ | ⟨h0, h1, h2⟩
  · have HN : Hid (¬ numsOk 11 a z) := by show ¬ _; unfold numsOk; omega
    have k1 : ¬ (1 ≤ a) := by omega
    go_enter Tryz.func61, Tryz.ntmps61
    go_upto_region 1 with fail
    refine wp_world H0.out ?_
    clear H0
    go_wp2
    go_ret
    exact ⟨.no rfl HN.out, HB0.out⟩
  · have HN : Hid (¬ numsOk 11 a z) := by show ¬ _; unfold numsOk; omega
    have k1 : 1 ≤ a := by omega
    have k2 : ¬ (a ≤ 8) := by omega
    go_enter Tryz.func61, Tryz.ntmps61
    go_upto_region 1 with fail
    refine wp_world H0.out ?_
    clear H0
    go_wp2
    go_ret
    exact ⟨.no rfl HN.out, HB0.out⟩
  · have HN : Hid (numsOk 11 a z) := by show numsOk _ _ _; unfold numsOk; omega
    go_enter Tryz.func61, Tryz.ntmps61
    go_upto_region 1 with fail
    refine wp_world H0.out ?_
    clear H0
    go_wp2
    go_ret
    exact ⟨.yes rfl HN.out, HB0.out⟩
  · have HN : Hid (¬ numsOk k a z) := by show ¬ _; unfold numsOk; omega
    have k0 : (k == 11) = false := beq_eq_false_iff_ne.2 h0
    have k1 : ¬ (0 ≤ a) := by omega
    go_enter Tryz.func61, Tryz.ntmps61
    go_upto_region 1 with fail
    refine wp_world H0.out ?_
    clear H0
    go_wp2
    go_ret
    exact ⟨.no rfl HN.out, HB0.out⟩
  · have HN : Hid (¬ numsOk k a z) := by show ¬ _; unfold numsOk; omega
    have k0 : (k == 11) = false := beq_eq_false_iff_ne.2 h0
    have k1 : ¬ (0 ≤ z) := by omega
    go_enter Tryz.func61, Tryz.ntmps61
    go_upto_region 1 with fail
    refine wp_world H0.out ?_
    clear H0
    go_wp2
    go_ret
    exact ⟨.no rfl HN.out, HB0.out⟩
  · have HN : Hid (numsOk k a z) := by show numsOk _ _ _; unfold numsOk; omega
    have k0 : (k == 11) = false := beq_eq_false_iff_ne.2 h0
    go_enter Tryz.func61, Tryz.ntmps61
    go_upto_region 1 with fail
    refine wp_world H0.out ?_
    clear H0
    go_wp2
    go_ret
    exact ⟨.yes rfl HN.out, HB0.out⟩
/-- the error of a path's text -/
def perr (s : ByteArray) : Int := (Vp.parseS (Vp.bl s)).2
theorem B_bl (s : ByteArray) : Vp.B (Vp.bl s) = s := by simp [Vp.B, Vp.bl]
theorem parse_p (s : ByteArray) (hs : s.size ≤ 9223372036854775807) (w : World) : Calls Tryz.prog 47 #[.string s] w fun e w' => ∃ v, e = .returned (.tuple #[v, .int .i64 (perr s)]) ∧ Below w.heap.size w w' := by
  have h := Vp.parse_any (Vp.bl s) (by rw [Vp.bl_length]; exact hs) w
  rw [B_bl] at h
  refine h.mono ?_
  rintro e w' ⟨v, rfl, _, hb⟩
  exact ⟨v, rfl, hb⟩
/-- the error of an operation's paths -/
def pathsS (k : Int) (p t : ByteArray) : Int := if k = 11 then 0 else if perr p = 0 ∧ k = 7 then perr t else perr p
theorem paths_split (k : Int) (p : ByteArray) : k = 11 ∨ (k ≠ 11 ∧ perr p ≠ 0) ∨ (k ≠ 11 ∧ perr p = 0 ∧ k ≠ 7) ∨ (perr p = 0 ∧ k = 7) := by omega
set_option maxHeartbeats 1000000 in
set_option maxRecDepth 100000 in
theorem checkPaths_any (k : Int) (p t d : ByteArray) (a z : Int) (w : World) (hp : p.size ≤ 9223372036854775807) (ht : t.size ≤ 9223372036854775807) : Calls Tryz.prog 62 #[.agg #[.int .i64 k, .string p, .string t, .string d, .int .i64 a, .int .i64 z]] w fun e w' => e = .returned (.int .i64 (pathsS k p t)) ∧ Below w.heap.size w w' := by
  obtain ⟨W0, H0, HR0, HB0, HZ0⟩ := op_row w k a z p t d
  have c0 : W0.cell? ⟨w.heap.size, 0, none⟩ = some (.int .i64 k) := HR0.out.cell 0
  have c1 : W0.cell? ⟨w.heap.size, 1, none⟩ = some (.string p) := HR0.out.cell 1
  have HP := hid_in (fun W => parse_p p hp W)
  have HT := hid_in (fun W => parse_p t ht W)
  clear hp ht
  obtain ⟨ep, HEP⟩ : ∃ ep, Hid (perr p = ep) := ⟨_, rfl⟩
  obtain ⟨et, HET⟩ : ∃ et, Hid (perr t = et) := ⟨_, rfl⟩
  rcases paths_split k p with rfl | ⟨h0, h1⟩ | ⟨h0, h1, h2⟩ | ⟨h1, rfl⟩
  · have HV : Hid (pathsS 11 p t = 0) := by show _ = _; simp [pathsS]
    go_enter Tryz.func62, Tryz.ntmps62
    go_upto_region 1 with fail
    refine wp_world H0.out ?_
    clear H0
    go_wp2
    go_ret
    rw [HV.out]
    exact ⟨rfl, HB0.out⟩
  · have HV : Hid (pathsS k p t = ep) := by show _ = _; unfold pathsS; rw [if_neg h0, if_neg (fun h => h1 h.1)]; exact HEP.out
    have k0 : (k == 11) = false := beq_eq_false_iff_ne.2 h0
    have k1 : (ep == 0) = false := beq_eq_false_iff_ne.2 (by rw [← HEP.out]; exact h1)
    rw [HEP.out] at HP
    clear h1
    go_enter Tryz.func62, Tryz.ntmps62
    go_upto_region 1 with fail
    refine wp_world H0.out ?_
    clear H0
    go_wp2_with (first | (go_at_call 47; refine (HP.out _).mono ?_; rintro e w1 ⟨v1, rfl, hb1⟩; have HB1 := hid_in (HB0.out.trans (hb1.mono HB0.out.size)); clear hb1))
    go_ret
    rw [HV.out]
    exact ⟨rfl, HB1.out⟩
  · have HV : Hid (pathsS k p t = 0) := by show _ = _; simp [pathsS, h0, h1, h2]
    have k0 : (k == 11) = false := beq_eq_false_iff_ne.2 h0
    have k1 : (k == 7) = false := beq_eq_false_iff_ne.2 h2
    rw [h1] at HP
    clear h1 HEP
    go_enter Tryz.func62, Tryz.ntmps62
    go_upto_region 1 with fail
    refine wp_world H0.out ?_
    clear H0
    go_wp2_with (first | (go_at_call 47; refine (HP.out _).mono ?_; rintro e w1 ⟨v1, rfl, hb1⟩; have HB1 := hid_in (HB0.out.trans (hb1.mono HB0.out.size)); have c0' : w1.cell? ⟨w.heap.size, 0, none⟩ = some (.int .i64 k) := (HR0.out.below hb1 HR0.out.lt).cell 0; clear hb1))
    go_ret
    rw [HV.out]
    exact ⟨rfl, HB1.out⟩
  · have HV : Hid (pathsS 7 p t = et) := by show _ = _; simp [pathsS, h1, HET.out]
    rw [h1] at HP
    rw [HET.out] at HT
    clear h1 HEP
    go_enter Tryz.func62, Tryz.ntmps62
    go_upto_region 1 with fail
    refine wp_world H0.out ?_
    clear H0
    go_wp2_with (first | (go_at_call 47; refine (HP.out _).mono ?_; rintro e w1 ⟨v1, rfl, hb1⟩; have HB1 := hid_in (HB0.out.trans (hb1.mono HB0.out.size)); have c0' : w1.cell? ⟨w.heap.size, 0, none⟩ = some (.int .i64 7) := (HR0.out.below hb1 HR0.out.lt).cell 0; have c2' : w1.cell? ⟨w.heap.size, 2, none⟩ = some (.string t) := (HR0.out.below hb1 HR0.out.lt).cell 2; clear hb1 HP) | (go_at_call 47; have hx := HB1.out; refine (HT.out _).mono ?_; rintro e w2 ⟨v2, rfl, hb2⟩; have HB2 := hid_in (HB1.out.trans (hb2.mono HB1.out.size)); clear hb2 hx))
    go_ret
    rw [HV.out]
    exact ⟨rfl, HB2.out⟩
end Go.Proofs.YtngehkmdanhgpaaGreat.Nd
