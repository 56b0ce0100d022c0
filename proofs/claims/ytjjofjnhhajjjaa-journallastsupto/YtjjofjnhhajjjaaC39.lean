/-
  JournalLasts: a journal between two acts, behind an armed act, behind a cut. A row of what is kept that is written over; what stays.
-/
import Derived.Laws.Tables
import Derived.OwnWalk
import Derived.Deep.CutRange
import Derived.Laws.CopyOwn
import Derived.Deep.RegionLaw
import Derived.Deep.DrawnRows
import Derived.Laws.StructEq
import Derived.Lib.SlBytesConst
import Derived.Test.YtjjofjnhhajjjaaC00
import Derived.Test.YtjjofjnhhajjjaaC01
import Derived.Test.YtjjofjnhhajjjaaC02
import Derived.Test.YtjjofjnhhajjjaaC03
import Derived.Test.YtjjofjnhhajjjaaC04
import Derived.Test.YtjjofjnhhajjjaaC05
import Derived.Test.YtjjofjnhhajjjaaC06
import Derived.Test.YtjjofjnhhajjjaaC07
import Derived.Test.YtjjofjnhhajjjaaC08
import Derived.Test.YtjjofjnhhajjjaaC09
import Derived.Test.YtjjofjnhhajjjaaC10
import Derived.Test.YtjjofjnhhajjjaaC11
import Derived.Test.YtjjofjnhhajjjaaC12
import Derived.Test.YtjjofjnhhajjjaaC13
import Derived.Test.YtjjofjnhhajjjaaC14
import Derived.Test.YtjjofjnhhajjjaaC15
import Derived.Test.YtjjofjnhhajjjaaC16
import Derived.Test.YtjjofjnhhajjjaaC17
import Derived.Test.YtjjofjnhhajjjaaC18
import Derived.Test.YtjjofjnhhajjjaaC19
import Derived.Test.YtjjofjnhhajjjaaC20
import Derived.Test.YtjjofjnhhajjjaaC21
import Derived.Test.YtjjofjnhhajjjaaC22
import Derived.Test.YtjjofjnhhajjjaaC23
import Derived.Test.YtjjofjnhhajjjaaC24
import Derived.Test.YtjjofjnhhajjjaaC25
import Derived.Test.YtjjofjnhhajjjaaC26
import Derived.Test.YtjjofjnhhajjjaaC27
import Derived.Test.YtjjofjnhhajjjaaC28
import Derived.Test.YtjjofjnhhajjjaaC29
import Derived.Test.YtjjofjnhhajjjaaC30
import Derived.Test.YtjjofjnhhajjjaaC31
import Derived.Test.YtjjofjnhhajjjaaC32
import Derived.Test.YtjjofjnhhajjjaaC33
import Derived.Test.YtjjofjnhhajjjaaC34
import Derived.Test.YtjjofjnhhajjjaaC35
import Derived.Test.YtjjofjnhhajjjaaC36
import Derived.Test.YtjjofjnhhajjjaaC37
import Derived.Test.YtjjofjnhhajjjaaC38
namespace Go.Proofs.Ytjjofjnhhajjjaa.Jr
open Go.RowKit
open Nd (Row wp_world post_Row grownBy_setCell grownBy_trans below_of_grown u8v Grew Sl hid_in i64r bytesS str)
open Pt (Ar Dk PtV FS Sub Stp liv arOf bytesOf cutD armD)
/-- between two acts -/
def JL (w : World) (B j g m : Nat) (k : Kt) : Prop := ∃ u0 u1 d rs ve, JV w B j g u0 u1 d ve k ∧ JS d rs k ∧ Lim d m
/-- armed -/
def JR (w : World) (B j g m : Nat) (k : Kt) : Prop := ∃ u0 u1 d rs ve L, JV w B j g u0 u1 (armL L d) ve k ∧ JS d rs k ∧ Lim d m
/-- behind an armed act -/
def JA (w : World) (B j g m : Nat) (E : Int) (K k n : Kt) (dn : Bool) : Prop := ∃ u0 u1 D ve, JV w B j g u0 u1 D ve K ∧ Gone D E K k n ∧ Lim D m ∧ D.down = dn
/-- behind a cut -/
def JC (w : World) (B g m : Nat) (k n : Kt) : Prop := ∃ u0 u1 D ks, PtV w B g u0 u1 (cutD ks D) ∧ Lv D (fun x => x = k ∨ x = n) ∧ (lva D).sy ≤ (lva D).bs.length ∧ (∀ x ∈ (lva D).bs, x < 256) ∧ Lim D m
/-- rows that are no platter's and no journal's stay -/
def Hold (w w' : World) : Prop := (∀ b vs t, t ≠ 5 → t ≠ 60 → t ≠ 68 → Row w b vs t → Row w' b vs t) ∧ ∀ v es, Et w v es → Et w' v es
/-- what lies below A stays, and such rows -/
def Stay (A B : Nat) (w w' : World) : Prop := (A ≤ B → ∀ x, Below A x w → Below A x w') ∧ Hold w w'
theorem JL.below {w w' : World} {B j g m : Nat} {k : Kt} (h : JL w B j g m k) (hb : Below w.heap.size w w') : JL w' B j g m k := by
  obtain ⟨u0, u1, d, rs, ve, h1, h2, h3⟩ := h
  exact ⟨u0, u1, d, rs, ve, h1.below hb, h2, h3⟩
theorem JA.below {w w' : World} {B j g m : Nat} {E : Int} {K k n : Kt} {dn : Bool} (h : JA w B j g m E K k n dn) (hb : Below w.heap.size w w') : JA w' B j g m E K k n dn := by
  obtain ⟨u0, u1, D, ve, h1, h2, h3, h4⟩ := h
  exact ⟨u0, u1, D, ve, h1.below hb, h2, h3, h4⟩
theorem JStp.stay {w w' : World} {A B j g : Nat} {v0 v1 ve : Value} {d d' : Dk} {k k' : Kt} (hJ : JV w B j g v0 v1 d ve k) (h : JStp w w' B j g v0 v1 d' k') : Stay A B w w' := by
  obtain ⟨u0, u1, vf, h1, h2, h3⟩ := h
  refine ⟨fun hA x hb => h2.below hb (by have := hJ.base; have := hJ.row.lt; omega) (fun q hq => ?_), fun b vs t h5 h60 h68 hr => hr.grew h2 (hJ.typed hr h5 h60 h68), fun v es he => he.keep h2 (fun b cur hb => hJ.no51 hb)⟩
  have := (hJ.fj_lt q hq).1
  omega
theorem armD_up {d : Dk} (n : Int) (h : d.down = false) : armD n d = armL n.toNat d := by
  unfold armD armL
  rw [h]
  rfl
theorem JL.arm {w : World} {A B j g m : Nat} {k : Kt} (h : JL w B j g m k) (n : Int) (hn : n ≤ 9223372036854775807) : Calls Try.prog 13 #[.pointer (some ⟨g, 0, none⟩), .int .i64 n] w fun e w' => e = .returned (.tuple #[]) ∧ JR w' B j g m k ∧ Stay A B w w' := by
  obtain ⟨u0, u1, d, rs, ve, h1, h2, h3⟩ := h
  refine (Pt.arm_any h1.pt n hn).mono ?_
  rintro e w' ⟨he, hs⟩
  rw [armD_up n h2.jd.down] at hs
  have hj := JStp.of_stp h1 hs
  refine ⟨he, ?_, JStp.stay h1 hj⟩
  obtain ⟨x0, x1, vf, g1, _, _⟩ := hj
  exact ⟨x0, x1, d, rs, vf, _, g1, h2, h3⟩
theorem JR.do_ {w : World} {A B j g m : Nat} {k : Kt} (h : JR w B j g m k) (hm : m ≤ 100000000) (a : Ac) (ha : a.ok w) (hl : a.k.ents.length ≤ 100000000) :
    Calls Try.prog 11 #[.pointer (some ⟨j, 0, none⟩), a.val] w fun e w' => ∃ E K dn, e = .returned (.int .i64 E) ∧ JA w' B j g (m + 262152) E K k (okK a k) dn ∧ Stay A B w w' := by
  obtain ⟨u0, u1, d, rs, ve, L, h1, h2, h3⟩ := h
  refine (do_arm h1 h2 h3 hm a ha hl).mono ?_
  rintro e w' ⟨E, D, K, he, hg, hlm, hs⟩
  have hst := JStp.stay (A := A) h1 hs
  obtain ⟨x0, x1, vf, g1, _, _⟩ := hs
  exact ⟨E, K, D.down, he, ⟨x0, x1, D, vf, g1, hg, hlm, rfl⟩, hst⟩
theorem Gone.arm0 {D : Dk} {E : Int} {K k n : Kt} (h : Gone D E K k n) : Gone (armD 0 D) E K k n ∧ (armD 0 D).down = D.down := by
  cases hd : D.down with
  | true =>
    have e : armD 0 D = D := by unfold armD; rw [hd]; rfl
    rw [e]
    exact ⟨h, hd⟩
  | false =>
    rw [armD_up 0 hd]
    refine ⟨⟨?_, fun _ => ?_, h.kp, fun _ => hd⟩, hd⟩
    · have h2 := h.lv
      unfold Lv at h2 ⊢
      rw [lva_arm]
      exact h2
    · obtain ⟨rs, h3⟩ := h.up hd
      exact ⟨rs, h3⟩
theorem JA.arm0 {w : World} {A B j g m : Nat} {E : Int} {K k n : Kt} {dn : Bool} (h : JA w B j g m E K k n dn) : Calls Try.prog 13 #[.pointer (some ⟨g, 0, none⟩), .int .i64 0] w fun e w' => e = .returned (.tuple #[]) ∧ JA w' B j g m E K k n dn ∧ (dn = false → JL w' B j g m (if E = 0 then n else k)) ∧ Stay A B w w' := by
  obtain ⟨u0, u1, D, ve, h1, h2, h3, h4⟩ := h
  refine (Pt.arm_any h1.pt 0 (by decide)).mono ?_
  rintro e w' ⟨he, hs⟩
  have hj := JStp.of_stp h1 hs
  obtain ⟨hg, hdn⟩ := h2.arm0
  have hlm : Lim (armD 0 D) m := by
    unfold armD
    split
    · exact h3
    · exact h3
  refine ⟨he, ?_, fun hf => ?_, JStp.stay h1 hj⟩
  · obtain ⟨x0, x1, vf, g1, _, _⟩ := hj
    exact ⟨x0, x1, _, vf, g1, hg, hlm, by rw [hdn]; exact h4⟩
  · obtain ⟨x0, x1, vf, g1, _, _⟩ := hj
    have hd : D.down = false := by rw [h4]; exact hf
    obtain ⟨rs, h5⟩ := h2.up hd
    rw [armD_up 0 hd] at g1 hlm
    have hk := h2.kp
    rw [← hk]
    rw [← hk] at h5
    exact ⟨x0, x1, _, rs, vf, g1, h5, hlm⟩
theorem JA.kept {w : World} {B j g m : Nat} {E : Int} {K k n : Kt} {dn : Bool} (h : JA w B j g m E K k n dn) : Calls Try.prog 12 #[.pointer (some ⟨j, 0, none⟩)] w fun e w' => ∃ v, e = .returned (K.val v) ∧ Et w' v K.ents ∧ Below w.heap.size w w' := by
  obtain ⟨u0, u1, D, ve, h1, _⟩ := h
  refine (kept_c h1).mono ?_
  rintro e w' ⟨v, h2, h3, h4⟩
  exact ⟨v, h2, h3.et, h4⟩
theorem JA.kp {w : World} {B j g m : Nat} {E : Int} {K k n : Kt} {dn : Bool} (h : JA w B j g m E K k n dn) : K = (if E = 0 then n else k) ∧ (E = 0 → dn = false) := by
  obtain ⟨u0, u1, D, ve, h1, h2, h3, h4⟩ := h
  exact ⟨h2.kp, fun hE => by rw [← h4]; exact h2.ez hE⟩
theorem JA.down {w : World} {B j g m : Nat} {E : Int} {K k n : Kt} {dn : Bool} (h : JA w B j g m E K k n dn) : Calls Try.prog 15 #[.pointer (some ⟨g, 0, none⟩)] w fun e w' => e = .returned (.bool dn) ∧ w' = w := by
  obtain ⟨u0, u1, D, ve, h1, _, _, h4⟩ := h
  rw [← h4]
  exact Pt.down_any h1.pt
theorem JA.cut {w z : World} {A B j g m : Nat} {E : Int} {K k n : Kt} {dn : Bool} (h : JA w B j g m E K k n dn) (v : Value) (ks : List Int) (hk : Kin z v ks) (hb : Below z.heap.size z w) (hz : z.heap.size ≤ B) : Calls Try.prog 16 #[.pointer (some ⟨g, 0, none⟩), v] w fun e w' => e = .returned (.tuple #[]) ∧ JC w' B g m (if E = 0 then n else k) n ∧ Stay A B w w' := by
  obtain ⟨u0, u1, D, ve, h1, h2, h3, _⟩ := h
  refine (Pt.cut_any h1.pt v ks (hk.kp hb _ (fun q hq => Nat.le_trans hz (h1.pt.fs_lt q hq).1))).mono ?_
  rintro e w' ⟨he, hs⟩
  have hj := JStp.of_stp h1 hs
  obtain ⟨x0, x1, g1, _, _⟩ := hs
  obtain ⟨s1, s2⟩ := lva_sy h1.pt
  have hlv : Lv D (fun x => x = (if E = 0 then n else k) ∨ x = n) := by
    by_cases hE : E = 0
    · obtain ⟨rs, h5⟩ := h2.up (h2.ez hE)
      rw [if_pos hE] at h5 ⊢
      have h6 := h5.lv (P := fun x => x = n ∨ x = n) (.inl rfl)
      unfold Lv at h6 ⊢
      rw [lva_arm] at h6
      exact h6
    · rw [if_neg hE]; exact h2.lv
  exact ⟨he, ⟨x0, x1, D, ks, g1, hlv, s1, s2, h3⟩, JStp.stay h1 hj⟩
/-- what Open answers: the journal, what it found -/
def Op1 (w : World) (A B g m : Nat) (P : Kt → Prop) (e : Ending) (w' : World) : Prop := ∃ y k v, e = .returned (.tuple #[.pointer (some ⟨y, 0, none⟩), k.val v, .int .i64 0]) ∧ Et w' v k.ents ∧ P k ∧ JL w' B y g m k ∧ Stay A B w w'
theorem OpR.op1 {w w' : World} {A B g m : Nat} {v0 v1 : Value} {d0 d : Dk} {rs : List Rc} {k : Kt} {P : Kt → Prop} {e : Ending} (hp : PtV w B g v0 v1 d0) (ho : OpR w B g v0 v1 d k e w') (hs : JS d rs k) (hl : Lim d m) (hk : P k) : Op1 w A B g m P e w' := by
  obtain ⟨y, ve, v, u0, u1, h1, h2, h3, h4, h5, h6⟩ := ho
  refine ⟨y, k, v, h1, h3, hk, ⟨u0, u1, d, rs, ve, h2, hs, hl⟩, fun hA x hb => h5.below hb (by have := hp.base; have := hp.lt; omega) (fun q hq => ?_), fun b vs t a5 a60 _ hr => hr.grew h5 (hp.typed hr a5 a60), fun v es he => he.keep h5 (fun b cur hb => Jr.no51 hp hb)⟩
  have := (hp.fs_lt q hq).1
  omega
theorem JC.open_ {w : World} {A B g m : Nat} {k n : Kt} (h : JC w B g m k n) (hm : m ≤ 100000000) : Calls Try.prog 9 #[.pointer (some ⟨g, 0, none⟩)] w (Op1 w A B g (m + 262152) (fun x => x = k ∨ x = n)) := by
  obtain ⟨u0, u1, D, ks, h1, h2, h3, h4, h5⟩ := h
  refine (open_cut ks h1 h2 h3 h4 h5 (by omega)).mono ?_
  rintro e w' ⟨d, rs, k', g1, g2, g3, g4⟩
  exact g1.op1 h1 g2 g3 g4
theorem JL.reopen {w : World} {A B j g m : Nat} {k : Kt} (h : JL w B j g m k) (hm : m ≤ 100000000) : Calls Try.prog 9 #[.pointer (some ⟨g, 0, none⟩)] w (fun e w' => Op1 w A B g m (fun x => x = k) e w' ∧ JL w' B j g m k) := by
  obtain ⟨u0, u1, d, rs, ve, h1, h2, h3⟩ := h
  refine (open_jd h1.pt h2.jd (h3.mono (by omega))).mono ?_
  intro e w' ho
  refine ⟨ho.op1 h1.pt h2 h3 rfl, ?_⟩
  obtain ⟨z, vz, v, x0, x1, -, g1, g2, g3, g4, g5⟩ := ho
  obtain ⟨t0, t1, vt, k1, _, _⟩ := JStp.of_stp h1 ⟨x0, x1, g1.pt, g4, g5⟩
  exact ⟨t0, t1, d, rs, vt, k1, h2, h3⟩
/-- a clone, and a journal on it -/
theorem JL.clone {w : World} {B j g m : Nat} {k : Kt} (h : JL w B j g m k) : Calls Try.prog 10 #[.pointer (some ⟨g, 0, none⟩)] w fun e w' => ∃ l x0 x1 d rs, e = .returned (.pointer (some ⟨l, 0, none⟩)) ∧ PtV w' w.heap.size l x0 x1 d ∧ JS d rs k ∧ Lim d m ∧ Below w.heap.size w w' := by
  obtain ⟨u0, u1, d, rs, ve, h1, h2, h3⟩ := h
  refine (Pt.pclone_any h1.pt).mono ?_
  rintro e w' ⟨l, x0, x1, g1, g2, g3⟩
  exact ⟨l, x0, x1, d, rs, g1, g2, h2, h3, g3⟩
theorem open_clone {w : World} {A B g m : Nat} {v0 v1 : Value} {d : Dk} {rs : List Rc} {k : Kt} (h : PtV w B g v0 v1 d) (hs : JS d rs k) (hl : Lim d m) (hm : m ≤ 100000000) : Calls Try.prog 9 #[.pointer (some ⟨g, 0, none⟩)] w (Op1 w A B g m (fun x => x = k)) :=
  (open_jd h hs.jd (hl.mono (by omega))).mono (fun _ _ ho => ho.op1 h hs hl rfl)
theorem JL.one {w : World} {B j g m : Nat} {k : Kt} (h : JL w B j g m k) : J1 w B j g m k := by
  obtain ⟨u0, u1, d, rs, ve, h1, h2, h3⟩ := h
  exact ⟨u0, u1, d, rs, ve, h1, h2.jd, h3⟩
theorem J1.keptE {w : World} {B j g m : Nat} {k : Kt} (h : J1 w B j g m k) : Calls Try.prog 12 #[.pointer (some ⟨j, 0, none⟩)] w fun e w' => ∃ v, e = .returned (k.val v) ∧ Et w' v k.ents ∧ Below w.heap.size w w' := by
  obtain ⟨u0, u1, d, rs, ve, h1, _⟩ := h
  refine (kept_c h1).mono ?_
  rintro e w' ⟨v, h2, h3, h4⟩
  exact ⟨v, h2, h3.et, h4⟩
theorem Hold.of_below {w w' : World} (h : Below w.heap.size w w') : Hold w w' := ⟨fun _ _ _ _ _ _ hr => hr.below h hr.lt, fun _ _ he => he.below h⟩
theorem Op1.form {w w' : World} {A B g m : Nat} {kv kn kb : Int} {ks : ByteArray} {ke : List Ent} {e : Ending} (h : Op1 w A B g m (fun x => x = ⟨kv, kn, kb, ks, ke⟩) e w') : ∃ y p c, e = .returned (.tuple #[.pointer (some ⟨y, 0, none⟩), .agg #[.int .i64 kv, .int .i64 kn, .int .i64 kb, .string ks, .slice p ke.length c], .int .i64 0]) ∧ Et w' (.slice p ke.length c) ke ∧ JL w' B y g m ⟨kv, kn, kb, ks, ke⟩ ∧ Stay A B w w' := by
  obtain ⟨y, k, v, h1, h2, rfl, h3, h4⟩ := h
  obtain ⟨p, c, rfl, _, _⟩ := h2.val.form
  exact ⟨y, p, c, h1, h2, h3, h4⟩
theorem Op1.zero {w w' : World} {A B g m : Nat} {e : Ending} (h : Op1 w A B g m (fun x => x = zeroK) e w') : ∃ y p c, e = .returned (.tuple #[.pointer (some ⟨y, 0, none⟩), .agg #[.int .i64 0, .int .i64 0, .int .i64 0, .string ⟨#[]⟩, .slice p 0 c], .int .i64 0]) ∧ Et w' (.slice p 0 c) [] ∧ JL w' B y g m zeroK ∧ Stay A B w w' := Op1.form h
theorem J1.doH {w : World} {A B j g m : Nat} {k : Kt} (h : J1 w B j g m k) (hm : m ≤ 100000000) (a : Ac) (ha : a.ok w) (hl : a.k.ents.length ≤ 100000000) :
    Calls Try.prog 11 #[.pointer (some ⟨j, 0, none⟩), a.val] w fun e w' => e = .returned (.int .i64 (okE a k)) ∧ J1 w' B j g (m + 262152) (okK a k) ∧ Stay A B w w' := by
  obtain ⟨u0, u1, d, rs, ve, h1, h2, h3⟩ := h
  refine (do_snd h1 h2 h3 hm a ha hl).mono ?_
  rintro e w' ⟨g1, d', rs', x0, x1, vf, g2, g3, g4, g5, g6⟩
  exact ⟨g1, ⟨x0, x1, d', rs', vf, g2, g3, g4⟩, JStp.stay h1 ⟨x0, x1, vf, g2, g5, g6⟩⟩
end Go.Proofs.Ytjjofjnhhajjjaa.Jr
namespace Go.Proofs.Ytjjofjnhhajjjaa.Jr
open Go.RowKit
open Nd (Row wp_world post_Row grownBy_setCell grownBy_trans below_of_grown u8v Grew Sl hid_in i64r bytesS str)
open Pt (Ar Dk PtV FS Sub Stp liv arOf bytesOf cutD armD)
theorem okK_ne {a : Ac} {k : Kt} (h : okE a k ≠ 0) : okK a k = k := by
  unfold okE okK at *
  by_cases h1 : kd a.kind = 4 ∨ kd a.kind = 5
  · rw [if_pos h1]
  · rw [if_neg h1] at h ⊢
    cases hf : foldS (rcO (kd a.kind) a) k with
    | none => rfl
    | some n => rw [hf] at h; exact absurd rfl h
theorem row5 {w : World} {b : Nat} {x0 x1 x2 x3 x4 : Value} {t : TypeId} (h : Row w b [x0, x1, x2, x3, x4] t) (y0 y1 y2 y3 y4 : Value) :
    Row (((((w.setCell ⟨b, 0, none⟩ y0).setCell ⟨b, 1, none⟩ y1).setCell ⟨b, 2, none⟩ y2).setCell ⟨b, 3, none⟩ y3).setCell ⟨b, 4, none⟩ y4) b [y0, y1, y2, y3, y4] t ∧ w.grownBy (((((w.setCell ⟨b, 0, none⟩ y0).setCell ⟨b, 1, none⟩ y1).setCell ⟨b, 2, none⟩ y2).setCell ⟨b, 3, none⟩ y3).setCell ⟨b, 4, none⟩ y4) (some b) :=
  ⟨((((h.set_same 0 y0).set_same 1 y1).set_same 2 y2).set_same 3 y3).set_same 4 y4, grownBy_trans (grownBy_trans (grownBy_trans (grownBy_trans (grownBy_setCell _ ⟨b, 0, none⟩ _) (grownBy_setCell _ ⟨b, 1, none⟩ _)) (grownBy_setCell _ ⟨b, 2, none⟩ _)) (grownBy_setCell _ ⟨b, 3, none⟩ _)) (grownBy_setCell _ ⟨b, 4, none⟩ _)⟩
theorem grew_one {w w' : World} {b : Nat} (h : w.grownBy w' (some b)) : Grew w w' (fun x => x = b) := ⟨h.os, h.tape, h.output, h.size, fun k hk hn => h.block k hk (fun e => hn (Option.some.inj e))⟩
theorem Row.not51 {w : World} {b : Nat} {vs : List Value} {t : TypeId} (h : Row w b vs t) (ht : t ≠ 51) : ∀ q cur, w.heap[q]? = some (.cells cur 51 (0, 0)) → ¬ q = b := by
  rintro q cur hq rfl
  unfold Nd.Row at h
  rw [h] at hq
  injection hq with hq
  injection hq with _ h2
  exact ht h2
theorem Et.set {w w' : World} {b : Nat} {vs : List Value} {t : TypeId} {v : Value} {es : List Ent} (h : Et w v es) (hr : Row w b vs t) (ht : t ≠ 51) (hg : w.grownBy w' (some b)) : Et w' v es :=
  h.keep (grew_one hg) (Row.not51 hr ht)
theorem JL.set {w w' : World} {B j g m b : Nat} {k : Kt} {vs : List Value} (h : JL w B j g m k) (hr : Row w b vs 30) (hg : w.grownBy w' (some b)) : JL w' B j g m k := by
  obtain ⟨u0, u1, d, rs, ve, h1, h2, h3⟩ := h
  refine ⟨u0, u1, d, rs, ve, h1.keep (grew_one hg) (fun q hq e => ?_) (Row.not51 hr (by decide)), h2, h3⟩
  subst e
  exact h1.typed hr (by decide) (by decide) (by decide) hq
theorem JA.set {w w' : World} {B j g m b : Nat} {E : Int} {K k n : Kt} {dn : Bool} {vs : List Value} (h : JA w B j g m E K k n dn) (hr : Row w b vs 30) (hg : w.grownBy w' (some b)) : JA w' B j g m E K k n dn := by
  obtain ⟨u0, u1, D, ve, h1, h2, h3, h4⟩ := h
  refine ⟨u0, u1, D, ve, h1.keep (grew_one hg) (fun q hq e => ?_) (Row.not51 hr (by decide)), h2, h3, h4⟩
  subst e
  exact h1.typed hr (by decide) (by decide) (by decide) hq
theorem JL.mono {w : World} {B j g m m' : Nat} {k : Kt} (h : JL w B j g m k) (hm : m ≤ m') : JL w B j g m' k := by
  obtain ⟨u0, u1, d, rs, ve, h1, h2, h3⟩ := h
  exact ⟨u0, u1, d, rs, ve, h1, h2, h3.mono hm⟩
theorem Stay.below {A B : Nat} {w w' x : World} (h : Stay A B w w') (hA : A ≤ B) (hb : Below A x w) : Below A x w' := h.1 hA x hb
theorem Stay.row {A B b : Nat} {w w' : World} {vs : List Value} {t : TypeId} (h : Stay A B w w') (hr : Row w b vs t) (h5 : t ≠ 5) (h60 : t ≠ 60) (h68 : t ≠ 68) : Row w' b vs t := h.2.1 b vs t h5 h60 h68 hr
theorem Stay.et {A B : Nat} {w w' : World} {v : Value} {es : List Ent} (h : Stay A B w w') (he : Et w v es) : Et w' v es := h.2.2 v es he
end Go.Proofs.Ytjjofjnhhajjjaa.Jr
