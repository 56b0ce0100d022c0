/-
  fits. One journal, two journals side by side: what their calls leave.
-/
import Derived.OwnWalk
import Derived.Deep.RegionLaw
import Derived.Deep.DrawnRows
import Derived.Laws.StructEq
import Derived.Laws.Tables
import Derived.Laws.CopyOwn
import Derived.Deep.CutRange
import Derived.Lib.SlBytesConst
import Derived.Test.YtjjofjnhhajjjaaB00
import Derived.Test.YtjjofjnhhajjjaaB01
import Derived.Test.YtjjofjnhhajjjaaB02
import Derived.Test.YtjjofjnhhajjjaaB03
import Derived.Test.YtjjofjnhhajjjaaB04
import Derived.Test.YtjjofjnhhajjjaaB05
import Derived.Test.YtjjofjnhhajjjaaB06
import Derived.Test.YtjjofjnhhajjjaaB07
import Derived.Test.YtjjofjnhhajjjaaB08
import Derived.Test.YtjjofjnhhajjjaaB09
import Derived.Test.YtjjofjnhhajjjaaB10
import Derived.Test.YtjjofjnhhajjjaaB11
import Derived.Test.YtjjofjnhhajjjaaB12
import Derived.Test.YtjjofjnhhajjjaaB13
import Derived.Test.YtjjofjnhhajjjaaB14
import Derived.Test.YtjjofjnhhajjjaaB15
import Derived.Test.YtjjofjnhhajjjaaB16
import Derived.Test.YtjjofjnhhajjjaaB17
import Derived.Test.YtjjofjnhhajjjaaB18
import Derived.Test.YtjjofjnhhajjjaaB19
import Derived.Test.YtjjofjnhhajjjaaB20
import Derived.Test.YtjjofjnhhajjjaaB21
import Derived.Test.YtjjofjnhhajjjaaB22
import Derived.Test.YtjjofjnhhajjjaaB23
import Derived.Test.YtjjofjnhhajjjaaB24
import Derived.Test.YtjjofjnhhajjjaaB25
import Derived.Test.YtjjofjnhhajjjaaB26
import Derived.Test.YtjjofjnhhajjjaaB27
import Derived.Test.YtjjofjnhhajjjaaB28
import Derived.Test.YtjjofjnhhajjjaaB29
import Derived.Test.YtjjofjnhhajjjaaB30
import Derived.Test.YtjjofjnhhajjjaaB31
import Derived.Test.YtjjofjnhhajjjaaB32
import Derived.Test.YtjjofjnhhajjjaaB33
import Derived.Test.YtjjofjnhhajjjaaB34
import Derived.Test.YtjjofjnhhajjjaaB35
import Derived.Test.YtjjofjnhhajjjaaB36
import Derived.Test.YtjjofjnhhajjjaaB37
import Derived.Test.YtjjofjnhhajjjaaB38
import Derived.Test.YtjjofjnhhajjjaaB39
import Derived.Test.YtjjofjnhhajjjaaB40
import Derived.Test.YtjjofjnhhajjjaaB41
namespace Go.Proofs.Ytjjofjnhhajjjaa.Jr
open Go.RowKit
open Nd (Row wp_world post_Row grownBy_setCell grownBy_trans below_of_grown u8v Grew Sl hid_in i64r bytesS str)
theorem fitsA (xa : List Ac) (v : Value) (w : World) (h : Acs w v xa) : Calls Try.prog 7 #[v] w fun e w' => ∃ b : Bool, e = .returned (.bool b) ∧ Below w.heap.size w w' := by
  obtain ⟨p, cap, rfl, hc1, hc2⟩ := h.form
  have HE := hid_in h
  have hn : (xa.length : Int) ≤ 9223372036854775807 := by omega
  clear h hc1 hc2
  go_enter Try.func7, Try.ntmps7
  go_wp2_with fail
  go_loopw [3, 4] (fun vt vi W => ∃ (t : Int) (i : Nat), i ≤ xa.length ∧ vt = .int .i64 t ∧ vi = .int .i64 (i : Int) ∧ Hid (Below w.heap.size w W)) (fun _ vi _ => xa.length - (intOf vi).toNat)
  case atStart => exact ⟨0, 0, by omega, rfl, rfl, Below.refl _ _⟩
  case round =>
    obtain ⟨t, i, hi, rfl, rfl, hB⟩ := hrel
    by_cases hlt : i < xa.length
    · obtain ⟨b, o, rfl, hm, hok⟩ := (HE.out.below hB.out).at hlt
      have HM := hid_in (fun W (x : Below wr.heap.size wr W) => ((HE.out.below hB.out).below x).at hlt)
      generalize xa[i] = a at *
      obtain ⟨kd, vw, fr, ⟨kv, kn, kb, ks, es⟩, ve, fl, kp, kks⟩ := a
      have hes := hok.es
      simp only at hes
      obtain ⟨q, qc, rfl, g1, g2⟩ := hes.form
      have HES := hid_in hes
      have HIM := hid_in hlt
      have hlt2 : (i : Int) < (xa.length : Int) := by omega
      have m6 : wr.cell? ⟨b, o + i * 10 + 6, none⟩ = some (.string ks) := hm 6 _ rfl
      have m7 : wr.cell? ⟨b, o + i * 10 + 7, none⟩ = some (.slice q es.length qc) := hm 7 _ rfl
      have hen : (es.length : Int) ≤ 9223372036854775807 := by omega
      clear hm hok hes hi hlt
      go_wp2_with fail
      generalize wr = wo at *
      go_loopw [3, 5] (fun vt vj W => ∃ (t : Int) (j : Nat), j ≤ es.length ∧ vt = .int .i64 t ∧ vj = .int .i64 (j : Int) ∧ Hid (Below wo.heap.size wo W)) (fun _ vj _ => es.length - (intOf vj).toNat)
      case atStart => exact ⟨_, 0, by omega, rfl, rfl, Below.refl _ _⟩
      case round =>
        obtain ⟨t2, j, hj, rfl, rfl, hB2⟩ := hrel
        have HW := hid_in (Below.trans hB.out (hB2.out.mono hB.out.size))
        have m7' : wr.cell? ⟨b, o + i * 10 + 7, none⟩ = some (.slice q es.length qc) := by
          obtain ⟨b', o', e1, h2, -⟩ := HM.out _ hB2.out
          cases e1
          exact h2 7 _ rfl
        by_cases hlj : j < es.length
        · have hg : es[j]? = some es[j] := List.getElem?_eq_getElem hlj
          obtain ⟨eb, eo, rfl, hme⟩ := (HES.out.below hB2.out).at hg
          generalize es[j] = x at *
          obtain ⟨cl, nu, ⟨okd, pa, de, da, at_, sz⟩⟩ := x
          have n2 : wr.cell? ⟨eb, eo + j * 8 + 2, none⟩ = some (.int .i64 okd) := hme 2 _ rfl
          have n3 : wr.cell? ⟨eb, eo + j * 8 + 3, none⟩ = some (.string pa) := hme 3 _ rfl
          have n4 : wr.cell? ⟨eb, eo + j * 8 + 4, none⟩ = some (.string de) := hme 4 _ rfl
          have n5 : wr.cell? ⟨eb, eo + j * 8 + 5, none⟩ = some (.string da) := hme 5 _ rfl
          have n6 : wr.cell? ⟨eb, eo + j * 8 + 6, none⟩ = some (.int .i64 at_) := hme 6 _ rfl
          have n7 : wr.cell? ⟨eb, eo + j * 8 + 7, none⟩ = some (.int .i64 sz) := hme 7 _ rfl
          have HJM := hid_in hlj
          have hlj2 : (j : Int) < (es.length : Int) := by omega
          clear hme hg hj hlj
          obtain ⟨W6, H6, R6, B6, S6⟩ := row_new wr [.int .i64 okd, .string pa, .string de, .string da, .int .i64 at_, .int .i64 sz] 49
          have z1 : W6.cell? ⟨wr.heap.size, 1, none⟩ = some (.string pa) := R6.out.cell 1
          have z2 : W6.cell? ⟨wr.heap.size, 2, none⟩ = some (.string de) := R6.out.cell 2
          have z3 : W6.cell? ⟨wr.heap.size, 3, none⟩ = some (.string da) := R6.out.cell 3
          go_upto_region 10 with fail
          refine wp_world H6.out ?_
          go_wp2_with fail
          exact ⟨⟨_, j + 1, by have := HJM.out; omega, rfl, by go_num, hid_in (hB2.out.trans (B6.out.mono hB2.out.size))⟩, by have := HJM.out; simp [intOf]; omega⟩
        · obtain rfl : j = es.length := by omega
          clear hj hlj
          go_wp2_with fail
          exact ⟨⟨_, i + 1, by have := HIM.out; omega, rfl, by go_num, HW⟩, by have := HIM.out; simp [intOf]; omega⟩
    · obtain rfl : i = xa.length := by omega
      clear hi hlt
      go_wp2_with fail
      go_ret
      exact ⟨_, rfl, hB.out⟩
end Go.Proofs.Ytjjofjnhhajjjaa.Jr
namespace Go.Proofs.Ytjjofjnhhajjjaa.Jr
open Go.RowKit
open Nd (Row wp_world post_Row grownBy_setCell grownBy_trans below_of_grown u8v Grew Sl hid_in i64r bytesS str)
open Pt (Ar Dk PtV FS Sub Stp liv arOf bytesOf)
/-- a journal on a sound platter -/
def J1 (w : World) (B j g m : Nat) (k : Kt) : Prop := ∃ u0 u1 d rs ve, JV w B j g u0 u1 d ve k ∧ JD d rs k ∧ Lim d m
/-- two of them, in memory of their own -/
def J2 (w : World) (B j g m : Nat) (k : Kt) (C y h n : Nat) (l : Kt) : Prop := ∃ u0 u1 d rs ve x0 x1 e qs vf, (JV w B j g u0 u1 d ve k ∧ JD d rs k ∧ Lim d m) ∧ (JV w C y h x0 x1 e vf l ∧ JD e qs l ∧ Lim e n) ∧ ∀ b, FJ j g u0 u1 b → ¬ FJ y h x0 x1 b
theorem J1.below {w w' : World} {B j g m : Nat} {k : Kt} (h : J1 w B j g m k) (hb : Below w.heap.size w w') : J1 w' B j g m k := by
  obtain ⟨u0, u1, d, rs, ve, h1, h2, h3⟩ := h
  exact ⟨u0, u1, d, rs, ve, h1.below hb, h2, h3⟩
theorem J2.below {w w' : World} {B j g m C y h n : Nat} {k l : Kt} (hh : J2 w B j g m k C y h n l) (hb : Below w.heap.size w w') : J2 w' B j g m k C y h n l := by
  obtain ⟨u0, u1, d, rs, ve, x0, x1, e, qs, vf, ⟨h1, h2, h3⟩, ⟨h4, h5, h6⟩, h7⟩ := hh
  exact ⟨u0, u1, d, rs, ve, x0, x1, e, qs, vf, ⟨h1.below hb, h2, h3⟩, ⟨h4.below hb, h5, h6⟩, h7⟩
theorem J2.swap {w : World} {B j g m C y h n : Nat} {k l : Kt} (hh : J2 w B j g m k C y h n l) : J2 w C y h n l B j g m k := by
  obtain ⟨u0, u1, d, rs, ve, x0, x1, e, qs, vf, h1, h2, h7⟩ := hh
  exact ⟨x0, x1, e, qs, vf, u0, u1, d, rs, ve, h2, h1, fun b hb hc => h7 b hc hb⟩
theorem J1.ok {w : World} {B j g m : Nat} {k : Kt} (h : J1 w B j g m k) : k.ok ∧ may k = true := by
  obtain ⟨u0, u1, d, rs, ve, h1, h2, h3⟩ := h
  exact ⟨h1.ok, h1.may⟩
theorem J2.left {w : World} {B j g m C y h n : Nat} {k l : Kt} (hh : J2 w B j g m k C y h n l) : J1 w B j g m k := by
  obtain ⟨u0, u1, d, rs, ve, x0, x1, e, qs, vf, h1, h2, h7⟩ := hh
  exact ⟨u0, u1, d, rs, ve, h1⟩
/-- what a call on a journal leaves -/
def Af1 (w : World) (B j g m : Nat) (k : Kt) (E : Int) (e : Ending) (w' : World) : Prop := e = .returned (.int .i64 E) ∧ J1 w' B j g m k ∧ ∀ x0 A, B ≤ w.heap.size → A ≤ B → Below A x0 w → Below A x0 w'
def Af2 (w : World) (B j g m : Nat) (k : Kt) (C y h n : Nat) (l : Kt) (A : Nat) (E : Int) (e : Ending) (w' : World) : Prop := e = .returned (.int .i64 E) ∧ J2 w' B j g m k C y h n l ∧ ∀ x0, A ≤ w.heap.size → Below A x0 w → Below A x0 w'
theorem Snd.one {w : World} {B j g m : Nat} {v0 v1 ve : Value} {d : Dk} {k0 k : Kt} {E : Int} {e : Ending} {w' : World} (hJ : JV w B j g v0 v1 d ve k0) (h : Snd w B j g v0 v1 k m E e w') : Af1 w B j g m k E e w' := by
  obtain ⟨h1, d', rs', u0, u1, ve', h2, h3, h4, h5, h6⟩ := h
  refine ⟨h1, ⟨u0, u1, d', rs', ve', h2, h3, h4⟩, fun x0 A hB hA hb => h5.below hb (by omega) (fun q hq => ?_)⟩
  have := (hJ.fj_lt q hq).1
  omega
theorem Snd.two {w : World} {B j g m C y h n A : Nat} {v0 v1 ve x0 x1 vf : Value} {d e : Dk} {k0 k l : Kt} {qs : List Rc} {E : Int} {x : Ending} {w' : World} (hJ : JV w B j g v0 v1 d ve k0) (h2 : JV w C y h x0 x1 e vf l ∧ JD e qs l ∧ Lim e n) (hd : ∀ b, FJ j g v0 v1 b → ¬ FJ y h x0 x1 b) (hA : A ≤ B) (hs : Snd w B j g v0 v1 k m E x w') : Af2 w B j g m k C y h n l A E x w' := by
  obtain ⟨h1, d', rs', u0, u1, ve', g2, g3, g4, g5, g6⟩ := hs
  have h51 : ∀ b cur, w.heap[b]? = some (.cells cur 51 (0, 0)) → ¬ FJ j g v0 v1 b := fun b cur hb => hJ.no51 hb
  refine ⟨h1, ⟨u0, u1, d', rs', ve', x0, x1, e, qs, vf, ⟨g2, g3, g4⟩, ⟨h2.1.keep g5 (fun b hb hc => hd b hc hb) h51, h2.2⟩, fun b hb hc => ?_⟩, fun z hB hb => g5.below hb (by omega) (fun q hq => ?_)⟩
  · rcases g6 b hb with h | h
    · exact hd b h hc
    · have := (h2.1.fj_lt b hc).2
      omega
  · have := (hJ.fj_lt q hq).1
    omega
theorem J1.do_ {w : World} {B j g m : Nat} {k : Kt} (h : J1 w B j g m k) (hm : m ≤ 100000000) (a : Ac) (ha : a.ok w) (hl : a.k.ents.length ≤ 100000000) :
    Calls Try.prog 11 #[.pointer (some ⟨j, 0, none⟩), a.val] w (Af1 w B j g (m + 262152) (okK a k) (okE a k)) := by
  obtain ⟨u0, u1, d, rs, ve, h1, h2, h3⟩ := h
  exact (do_snd h1 h2 h3 hm a ha hl).mono (fun _ _ hs => hs.one h1)
theorem J2.do_ {w : World} {B j g m C y h n A : Nat} {k l : Kt} (hh : J2 w B j g m k C y h n l) (hA : A ≤ B) (hm : m ≤ 100000000) (a : Ac) (ha : a.ok w) (hl : a.k.ents.length ≤ 100000000) :
    Calls Try.prog 11 #[.pointer (some ⟨j, 0, none⟩), a.val] w (Af2 w B j g (m + 262152) (okK a k) C y h n l A (okE a k)) := by
  obtain ⟨u0, u1, d, rs, ve, x0, x1, e, qs, vf, ⟨h1, h2, h3⟩, h4, h7⟩ := hh
  exact (do_snd h1 h2 h3 hm a ha hl).mono (fun _ _ hs => hs.two h1 h4 h7 hA)
theorem lay_snd {w : World} {B j g n : Nat} {v0 v1 ve : Value} {d : Dk} {rs : List Rc} {k k' : Kt} {v : Value} (hJ : JV w B j g v0 v1 d ve k) (hd : JD d rs k) (hl : Lim d n) (hn : n ≤ 100000000) (hes : Es w v k'.ents) (hok : k'.ok) (hm : may k' = true) :
    Calls Try.prog 18 #[.pointer (some ⟨j, 0, none⟩), k'.val v] w (Snd w B j g v0 v1 k' (n + 262152) 0) := by
  have hfew := ((may_iff k').1 hm).few
  have hc := lay_c hJ k' v hes hok (by omega) (hl.room (by omega))
  have hlim := hl.ly (k := k) (k' := k') hok
  obtain ⟨g1, g2⟩ := hd.anew hok hm
  have hf := foldS_L (k := k) hm
  unfold lyE lyD lyK at hc
  unfold lyD at hlim
  rw [hf] at hc hlim
  simp only [g1, if_true] at hc
  refine hc.mono ?_
  rintro e w' ⟨h1, u0, u1, ve', h2, h3, h4⟩
  exact ⟨h1, _, _, u0, u1, ve', h2, g2, hlim, h3, h4⟩
theorem J2.lay {w : World} {B j g m C y h n A : Nat} {k k' l : Kt} {v : Value} (hh : J2 w B j g m k C y h n l) (hA : A ≤ B) (hm : m ≤ 100000000) (hes : Es w v k'.ents) (hok : k'.ok) (hy : may k' = true) :
    Calls Try.prog 18 #[.pointer (some ⟨j, 0, none⟩), k'.val v] w (Af2 w B j g (m + 262152) k' C y h n l A 0) := by
  obtain ⟨u0, u1, d, rs, ve, x0, x1, e, qs, vf, ⟨h1, h2, h3⟩, h4, h7⟩ := hh
  exact (lay_snd h1 h2 h3 hm hes hok hy).mono (fun _ _ hs => hs.two h1 h4 h7 hA)
theorem J1.kept {w : World} {B j g m : Nat} {k : Kt} (h : J1 w B j g m k) : Calls Try.prog 12 #[.pointer (some ⟨j, 0, none⟩)] w fun e w' => ∃ v, e = .returned (k.val v) ∧ Es w' v k.ents ∧ Below w.heap.size w w' := by
  obtain ⟨u0, u1, d, rs, ve, h1, _⟩ := h
  refine (kept_c h1).mono ?_
  rintro e w' ⟨v, h2, h3, h4⟩
  exact ⟨v, h2, h3.es, h4⟩
/-- Open of a new platter -/
theorem open_new {w : World} {B g : Nat} {v0 v1 : Value} (h : PtV w B g v0 v1 Pt.newD) : Calls Try.prog 9 #[.pointer (some ⟨g, 0, none⟩)] w (OpR w B g v0 v1 Pt.newD zeroK) := open_jd h JD.new (Lim.new.mono (by decide))
theorem OpR.one {w w' : World} {B g : Nat} {v0 v1 : Value} {e : Ending} (h : PtV w B g v0 v1 Pt.newD) (ho : OpR w B g v0 v1 Pt.newD zeroK e w') : ∃ j c p, e = .returned (.tuple #[.pointer (some ⟨j, 0, none⟩), .agg #[.int .i64 0, .int .i64 0, .int .i64 0, .string ⟨#[]⟩, .slice p 0 c], .int .i64 0]) ∧ J1 w' B j g 0 zeroK ∧ (∀ x A, A ≤ B → B ≤ w.heap.size → Below A x w → Below A x w') := by
  obtain ⟨j, ve, p, c, u0, u1, rfl, h1, h2, h3, h4, h5⟩ := OpR.form ho
  refine ⟨j, c, p, rfl, ⟨u0, u1, _, _, ve, h1, JD.new, Lim.new⟩, fun x A hA hB hb => h4.below hb (by omega) (fun q hq => ?_)⟩
  have := (h.fs_lt q hq).1
  omega
/-- a second journal beside the first -/
theorem OpR.two {w0 w1 w2 : World} {B j g m h : Nat} {k : Kt} {v0 v1 : Value} {e : Ending} (hJ : J1 w0 B j g m k) (hb : Below w0.heap.size w0 w1) (hp : PtV w1 w0.heap.size h v0 v1 Pt.newD) (ho : OpR w1 w0.heap.size h v0 v1 Pt.newD zeroK e w2) :
    ∃ y c p, e = .returned (.tuple #[.pointer (some ⟨y, 0, none⟩), .agg #[.int .i64 0, .int .i64 0, .int .i64 0, .string ⟨#[]⟩, .slice p 0 c], .int .i64 0]) ∧ J2 w2 B j g m k w0.heap.size y h 0 zeroK ∧ (∀ x A, A ≤ w0.heap.size → Below A x w0 → Below A x w2) := by
  obtain ⟨u0, u1, d, rs, ve, h1, h2, h3⟩ := hJ
  obtain ⟨y, vf, p, c, x0, x1, rfl, g1, g2, g3, g4, g5⟩ := OpR.form ho
  have hJ1 := h1.below hb
  refine ⟨y, c, p, rfl, ⟨u0, u1, d, rs, ve, x0, x1, _, _, vf, ⟨hJ1.keep g4 (fun b hb' hc => ?_) (fun b cur hb' => Jr.no51 hp hb'), h2, h3⟩, ⟨g1, JD.new, Lim.new⟩, fun b hb' hc => ?_⟩, fun x A hA hx => g4.below (hx.trans (hb.mono hA)) (by have := hb.size; omega) (fun q hq => ?_)⟩
  · have := (h1.fj_lt b hb').2
    have := (hp.fs_lt b hc).1
    omega
  · have := (h1.fj_lt b hb').2
    have := (g1.fj_lt b hc).1
    omega
  · have := (hp.fs_lt q hq).1
    omega
/-- Open anew of the platter that the second journal is on -/
def Opn2 (w : World) (C y h n : Nat) (l : Kt) (e : Ending) (w' : World) : Prop := ∃ z v, e = .returned (.tuple #[.pointer (some ⟨z, 0, none⟩), l.val v, .int .i64 0]) ∧ Es w' v l.ents ∧ J1 w' C y h n l ∧ ∀ x A, A ≤ C → Below A x w → Below A x w'
theorem J1.reopen {w : World} {C y h n : Nat} {l : Kt} (hh : J1 w C y h n l) (hn : n ≤ 100000000) : Calls Try.prog 9 #[.pointer (some ⟨h, 0, none⟩)] w (Opn2 w C y h n l) := by
  obtain ⟨u0, u1, d, rs, ve, h1, h2, h3⟩ := hh
  refine (open_jd h1.pt h2 (h3.mono (by omega))).mono ?_
  rintro e w' ⟨z, vz, v, x0, x1, rfl, g1, g2, g3, g4, g5⟩
  refine ⟨z, v, rfl, g2.val, ?_, fun x A hA hb => g4.below hb (by have := h1.base; have := h1.row.lt; omega) (fun q hq => ?_)⟩
  · obtain ⟨t0, t1, vt, k1, _, _⟩ := JStp.of_stp h1 ⟨x0, x1, g1.pt, g4, g5⟩
    exact ⟨t0, t1, d, rs, vt, k1, h2, h3⟩
  · have := (h1.pt.fs_lt q hq).1
    omega
end Go.Proofs.Ytjjofjnhhajjjaa.Jr
