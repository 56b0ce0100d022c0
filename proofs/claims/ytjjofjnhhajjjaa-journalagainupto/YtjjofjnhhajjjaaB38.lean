/-
  What a journal's platter has, as long as the power stays: the frames of the records that made what is kept. awake.
-/
import Derived.Laws.Tables
import Derived.Laws.CopyOwn
import Derived.OwnWalk
import Derived.Deep.CutRange
import Derived.Laws.StructEq
import Derived.Lib.SlBytesConst
import Derived.Deep.RegionLaw
import Derived.Deep.DrawnRows
import Derived.Test.YtjjofjnhhajjjaaB00
import Derived.Test.YtjjofjnhhajjjaaB01
import Derived.Test.YtjjofjnhhajjjaaB02
import Derived.Test.YtjjofjnhhajjjaaB03
import Derived.Test.YtjjofjnhhajjjaaB04
import Derived.Test.YtjjofjnhhajjjaaB05
import Derived.Test.YtjjofjnhhajjjaaB06
import Derived.Test.YtjjofjnhhajjjaaB07
import Derived.Test.YtjjofjnhhajjjaaB08
import Derived.Test.YtjjofjnhhajjjaaB09
import Derived.Test.YtjjofjnhhajjjaaB10
import Derived.Test.YtjjofjnhhajjjaaB11
import Derived.Test.YtjjofjnhhajjjaaB12
import Derived.Test.YtjjofjnhhajjjaaB13
import Derived.Test.YtjjofjnhhajjjaaB14
import Derived.Test.YtjjofjnhhajjjaaB15
import Derived.Test.YtjjofjnhhajjjaaB16
import Derived.Test.YtjjofjnhhajjjaaB17
import Derived.Test.YtjjofjnhhajjjaaB18
import Derived.Test.YtjjofjnhhajjjaaB19
import Derived.Test.YtjjofjnhhajjjaaB20
import Derived.Test.YtjjofjnhhajjjaaB21
import Derived.Test.YtjjofjnhhajjjaaB22
import Derived.Test.YtjjofjnhhajjjaaB23
import Derived.Test.YtjjofjnhhajjjaaB24
import Derived.Test.YtjjofjnhhajjjaaB25
import Derived.Test.YtjjofjnhhajjjaaB26
import Derived.Test.YtjjofjnhhajjjaaB27
import Derived.Test.YtjjofjnhhajjjaaB28
import Derived.Test.YtjjofjnhhajjjaaB29
import Derived.Test.YtjjofjnhhajjjaaB30
import Derived.Test.YtjjofjnhhajjjaaB31
import Derived.Test.YtjjofjnhhajjjaaB32
import Derived.Test.YtjjofjnhhajjjaaB33
import Derived.Test.YtjjofjnhhajjjaaB34
import Derived.Test.YtjjofjnhhajjjaaB35
import Derived.Test.YtjjofjnhhajjjaaB36
import Derived.Test.YtjjofjnhhajjjaaB37
namespace Go.Proofs.Ytjjofjnhhajjjaa.Jr
open Go.RowKit
open Nd (Row wp_world post_Row grownBy_setCell grownBy_trans below_of_grown u8v Grew Sl hid_in i64r bytesS str)
open Pt (Ar Dk PtV FS Sub Stp liv arOf setAr isA refE spendE spendD appE appD begE begD synD wipD fliD oth bytesOf)
structure JD (d : Dk) (rs : List Rc) (k : Kt) : Prop where
  down : d.down = false
  left : d.left = 0
  bytes : (arOf (liv d.live) d).bs = Nd.Wire.frames (rs.map payS)
  rd : ∀ r ∈ rs, Rd r
  fold : foldA rs zeroK = some k
theorem isA_liv (b : Bool) : isA (liv b) = true := by cases b <;> rfl
theorem beg0 {d : Dk} {k a : Int} (h1 : d.down = false) (h2 : d.left = 0) (ha : isA a = true) (hk2 : k = 2 → a ≠ liv d.live) (hk3 : k = 3 → (arOf a d).bs.length ≤ (arOf a d).sy) : begE k a d = 0 ∧ begD k a d = d := by
  have hr : refE k a d = 0 := by
    unfold refE
    rw [if_neg (by rw [ha]; decide), if_neg (by rw [h1]; decide), if_neg (fun h => hk2 h.1 h.2), if_neg (fun h => by have := hk3 h.1; omega)]
  unfold begE begD
  rw [if_pos hr, if_pos hr]
  unfold spendE spendD
  rw [if_neg (by omega), if_neg (by omega)]
  refine ⟨rfl, ?_⟩
  obtain ⟨a0, a1, l, dn, lf⟩ := d
  simp only at h2
  subst h2
  rfl
theorem app0 {d : Dk} {a : Int} (xs : List Nat) (h1 : d.down = false) (h2 : d.left = 0) (ha : isA a = true) : appE a d = 0 ∧ appD a xs d = setAr a ⟨(arOf a d).bs ++ xs, (arOf a d).sy⟩ d := by
  have hr : refE 0 a d = 0 := by
    unfold refE
    rw [if_neg (by rw [ha]; decide), if_neg (by rw [h1]; decide), if_neg (fun h => absurd h.1 (by decide)), if_neg (fun h => absurd h.1 (by decide))]
  unfold appE appD
  rw [if_pos hr, if_pos hr]
  unfold spendE spendD
  have hl : (setAr a ⟨(arOf a d).bs ++ xs, (arOf a d).sy⟩ d).left = 0 := by unfold setAr; split <;> exact h2
  rw [if_neg (by omega), if_neg (by omega)]
  refine ⟨rfl, ?_⟩
  generalize setAr a ⟨(arOf a d).bs ++ xs, (arOf a d).sy⟩ d = e at *
  obtain ⟨a0, a1, l, dn, lf⟩ := e
  simp only at hl
  subst hl
  rfl
theorem ar_set {a : Int} {x : Ar} {d : Dk} (_ha : isA a = true) : arOf a (setAr a x d) = x := by
  unfold arOf setAr
  split <;> rfl
theorem set_live {a : Int} {x : Ar} {d : Dk} : (setAr a x d).live = d.live ∧ (setAr a x d).down = d.down ∧ (setAr a x d).left = d.left := by
  unfold setAr
  split <;> exact ⟨rfl, rfl, rfl⟩
/-- a record behind the others -/
theorem JD.behind {d : Dk} {rs : List Rc} {k n : Kt} {r : Rc} (h : JD d rs k) (hr : Rd r) (hf : foldS r k = some n) : behE (Nd.Wire.frame (payS r)) d = 0 ∧ JD (behD (Nd.Wire.frame (payS r)) d) (rs ++ [r]) n := by
  obtain ⟨h1, h2⟩ := app0 (d := d) (a := liv d.live) (Nd.Wire.frame (payS r)) h.down h.left (isA_liv _)
  have hs := set_live (a := liv d.live) (x := (⟨(arOf (liv d.live) d).bs ++ Nd.Wire.frame (payS r), (arOf (liv d.live) d).sy⟩ : Ar)) (d := d)
  have hb := beg0 (k := 1) (a := liv d.live) (d := setAr (liv d.live) ⟨(arOf (liv d.live) d).bs ++ Nd.Wire.frame (payS r), (arOf (liv d.live) d).sy⟩ d) (by rw [hs.2.1]; exact h.down) (by rw [hs.2.2]; exact h.left) (isA_liv _) (fun e => absurd e (by decide)) (fun e => absurd e (by decide))
  unfold behE behD synD
  rw [if_pos h1, if_pos h1, h2, if_pos hb.1, hb.1, hb.2]
  refine ⟨rfl, ?_⟩
  rw [ar_set (isA_liv _)]
  simp only
  have hs2 := set_live (a := liv d.live) (x := (⟨(arOf (liv d.live) d).bs ++ Nd.Wire.frame (payS r), ((arOf (liv d.live) d).bs ++ Nd.Wire.frame (payS r)).length⟩ : Ar)) (d := setAr (liv d.live) ⟨(arOf (liv d.live) d).bs ++ Nd.Wire.frame (payS r), (arOf (liv d.live) d).sy⟩ d)
  refine ⟨by rw [hs2.2.1, hs.2.1]; exact h.down, by rw [hs2.2.2, hs.2.2]; exact h.left, ?_, ?_, ?_⟩
  · rw [hs2.1, hs.1, ar_set (isA_liv _)]
    simp only
    rw [h.bytes, List.map_append, Nd.Wire.frames, Nd.Wire.frames, List.flatMap_append]
    simp
  · intro x hx
    rcases List.mem_append.1 hx with hx | hx
    · exact h.rd x hx
    · rw [List.mem_singleton.1 hx]; exact hr
  · rw [foldA_app rs r zeroK k h.fold]
    exact hf
theorem anew_f (xs : List Nat) (a0 a1 : Ar) : anewR xs ⟨a0, a1, false, false, 0⟩ = (0, ⟨⟨[], 0⟩, ⟨xs, xs.length⟩, true, false, 0⟩) := by
  simp [anewR, chg, begE, begD, refE, appE, appD, wipD, synD, fliD, setAr, arOf, oth, liv, isA, spendE, spendD]
theorem anew_t (xs : List Nat) (a0 a1 : Ar) : anewR xs ⟨a0, a1, true, false, 0⟩ = (0, ⟨⟨xs, xs.length⟩, ⟨[], 0⟩, false, false, 0⟩) := by
  simp [anewR, chg, begE, begD, refE, appE, appD, wipD, synD, fliD, setAr, arOf, oth, liv, isA, spendE, spendD]
theorem foldS_L {k k' : Kt} (h : may k' = true) : foldS (recL k') k = some k' := by
  unfold foldS
  have e : nextS (recL k') k = some k' := rfl
  rw [e]
  simp only
  rw [if_pos h]
/-- all anew -/
theorem JD.anew {d : Dk} {rs : List Rc} {k k' : Kt} (h : JD d rs k) (hok : k'.ok) (hm : may k' = true) : (anewR (Nd.Wire.frame (payS (recL k'))) d).1 = 0 ∧ JD (anewR (Nd.Wire.frame (payS (recL k'))) d).2 [recL k'] k' := by
  have hf : foldA [recL k'] zeroK = some k' := by
    rw [foldA_cons, foldS_L hm]
    rfl
  have hrd : ∀ r ∈ [recL k'], Rd r := fun r hr => by rw [List.mem_singleton.1 hr]; exact Rd.l k' hok hm
  have h1 := h.down
  have h2 := h.left
  obtain ⟨a0, a1, b, dn, lf⟩ := d
  simp only at h1 h2
  subst h1 h2
  cases b
  · rw [anew_f]
    exact ⟨rfl, rfl, rfl, by simp [arOf, liv, Nd.Wire.frames], hrd, hf⟩
  · rw [anew_t]
    exact ⟨rfl, rfl, rfl, by simp [arOf, liv, Nd.Wire.frames], hrd, hf⟩
/-- how much there is at most -/
def Lim (d : Dk) (m : Nat) : Prop := d.a0.bs.length ≤ m ∧ d.a1.bs.length ≤ m
theorem Lim.room {d : Dk} {m : Nat} (h : Lim d m) (hm : m + 262152 ≤ 140737488355328) : Room d := ⟨by have := h.1; omega, by have := h.2; omega⟩
theorem Lim.mono {d : Dk} {m n : Nat} (h : Lim d m) (hm : m ≤ n) : Lim d n := ⟨Nat.le_trans h.1 hm, Nat.le_trans h.2 hm⟩
theorem Lim.set {d : Dk} {m : Nat} {a : Int} {x : Ar} (h : Lim d m) (hx : x.bs.length ≤ m) : Lim (setAr a x d) m := by
  unfold setAr
  split
  · exact ⟨hx, h.2⟩
  · exact ⟨h.1, hx⟩
theorem Lim.ar {d : Dk} {m : Nat} (h : Lim d m) (a : Int) : (arOf a d).bs.length ≤ m := by
  unfold arOf
  split
  · exact h.1
  · exact h.2
theorem Lim.spend {d : Dk} {m : Nat} (h : Lim d m) : Lim (spendD d) m := ⟨by rw [spendD_a0]; exact h.1, by rw [spendD_a1]; exact h.2⟩
theorem Lim.beg {d : Dk} {m : Nat} (h : Lim d m) (k a : Int) : Lim (begD k a d) m := ⟨by rw [begD_a0]; exact h.1, by rw [begD_a1]; exact h.2⟩
theorem Lim.app {d : Dk} {m : Nat} (h : Lim d m) (a : Int) (xs : List Nat) : Lim (appD a xs d) (m + xs.length) := by
  unfold appD
  split
  · refine Lim.spend (Lim.set (h.mono (by omega)) ?_)
    simp only [List.length_append]
    have := h.ar a
    omega
  · exact h.mono (by omega)
theorem Lim.syn {d : Dk} {m : Nat} (h : Lim d m) (a : Int) : Lim (synD a d) m := by
  unfold synD
  split
  · exact Lim.set (h.beg _ _) (h.ar a)
  · exact h.beg _ _
theorem Lim.wip {d : Dk} {m : Nat} (h : Lim d m) (a : Int) : Lim (wipD a d) m := by
  unfold wipD
  split
  · exact Lim.set (h.beg _ _) (Nat.zero_le _)
  · exact h.beg _ _
theorem Lim.fli {d : Dk} {m : Nat} (h : Lim d m) : Lim (fliD d) m := by
  unfold fliD
  split
  · exact h.beg _ _
  · exact h.beg _ _
theorem Lim.beh {d : Dk} {m : Nat} (h : Lim d m) (xs : List Nat) : Lim (behD xs d) (m + xs.length) := by
  unfold behD
  split
  · exact (h.app _ xs).syn _
  · exact h.app _ xs
theorem Lim.chg {d : Dk} {m : Nat} {e : Int} {k : Int × Dk} (h : Lim d m) (hk : Lim k.2 m) : Lim (chg e d k).2 m := by
  unfold Jr.chg
  split
  · exact hk
  · exact h
theorem Lim.anew {d : Dk} {m : Nat} (h : Lim d m) (xs : List Nat) : Lim (anewR xs d).2 (m + xs.length) := by
  have h1 := h.wip (oth d)
  have h2 := h1.app (oth d) xs
  have h3 := h2.syn (oth d)
  have h4 := h3.fli
  have h5 := h4.wip (liv d.live)
  exact (h1.mono (by omega)).chg (h2.chg (h3.chg (h4.chg h5)))
theorem Lim.wr {d : Dk} {m : Nat} {r : Rc} {k : Kt} (h : Lim d m) (hp : ∀ n, foldS r k = some n → PayOk r) : Lim (wrD r d k) (m + 262152) := by
  unfold wrD
  cases hf : foldS r k with
  | none => exact h.mono (by omega)
  | some n => exact (h.beh _).mono (by have := frame_le (hp n hf); omega)
theorem Lim.ly {d : Dk} {m : Nat} {k k' : Kt} (h : Lim d m) (hok : k'.ok) : Lim (lyD k' d k) (m + 262152) := by
  unfold lyD
  cases hf : foldS (recL k') k with
  | none => exact h.mono (by omega)
  | some n => exact (h.anew _).mono (by have := frame_le (recL_pay hok (fold_recL hf).2); omega)
/-- Open of such a platter -/
theorem open_jd {w : World} {B g : Nat} {v0 v1 : Value} {d : Dk} {rs : List Rc} {k : Kt} (h : PtV w B g v0 v1 d) (hd : JD d rs k) (hre : Lim d 1000000000000) : Calls Try.prog 9 #[.pointer (some ⟨g, 0, none⟩)] w (OpR w B g v0 v1 d k) := by
  have hb : bytesOf (liv d.live) d = Nd.Wire.frames (rs.map payS) := by
    unfold bytesOf
    rw [if_pos (isA_liv _)]
    exact hd.bytes
  have hlt := bytes_lt h (liv d.live)
  rw [hb] at hlt
  have hps : ∀ p ∈ rs.map payS, p.length ≤ 262144 ∧ ∀ x ∈ p, x < 256 := by
    intro p hp
    obtain ⟨r, hr, rfl⟩ := List.mem_map.1 hp
    refine ⟨payS_len r (hd.rd r hr).pay, fun x hx => hlt x ?_⟩
    refine List.mem_flatMap.2 ⟨payS r, hp, ?_⟩
    unfold Nd.Wire.frame
    exact List.mem_append_left _ (List.mem_append_right _ hx)
  have hs := Nd.Wire.scan_cut (rs.map payS) (Nd.Wire.frames (rs.map payS)).length (rs.map payS).length hps (Nat.le_refl _) (by unfold Nd.Wire.upto; rw [List.take_length]; exact Nat.le_refl _) (fun h => absurd h (Nat.lt_irrefl _))
  rw [List.take_length, List.take_length] at hs
  have hu : Nd.Wire.upto (rs.map payS) (rs.map payS).length = (Nd.Wire.frames (rs.map payS)).length := by unfold Nd.Wire.upto; rw [List.take_length]
  rw [hu] at hs
  refine open_whole h hd.down rs k hd.rd hd.fold (by rw [hb]; exact hs) ?_
  unfold bytesOf
  rw [if_pos (isA_liv _)]
  exact Nat.le_trans (hre.ar _) (by decide)
theorem JD.new : JD Pt.newD [] zeroK := ⟨rfl, rfl, rfl, fun _ h => (by cases h), rfl⟩
theorem Lim.new : Lim Pt.newD 0 := ⟨Nat.le_refl _, Nat.le_refl _⟩
end Go.Proofs.Ytjjofjnhhajjjaa.Jr
namespace Go.Proofs.Ytjjofjnhhajjjaa.Jr
open Go.RowKit
open Nd (Row wp_world post_Row grownBy_setCell grownBy_trans below_of_grown u8v Grew Sl hid_in i64r bytesS str)
open Pt (Ar Dk PtV FS Sub Stp liv arOf bytesOf)
def ent1 : Ent := ⟨1, 1, ⟨1, ⟨#[47, 97]⟩, ⟨#[]⟩, ⟨#[]⟩, 0, 0⟩⟩
def k1 : Kt := ⟨3, 0, 0, ⟨#[]⟩, []⟩
def k2 : Kt := ⟨3, 0, 0, ⟨#[]⟩, [ent1]⟩
def k3 : Kt := ⟨3, 3, 0, ⟨#[]⟩, []⟩
theorem f1 : foldS (recV 3) zeroK = some k1 := by rfl
theorem f2 : foldS (recE ent1) k1 = some k2 := by rfl
theorem f3 : foldS (recA 3 0 []) k2 = some k3 := by rfl
theorem f4 : foldS (recA 3 1 []) k3 = none := by rfl
theorem wr_some {r : Rc} {d : Dk} {k n : Kt} (hf : foldS r k = some n) (hb : behE (Nd.Wire.frame (payS r)) d = 0) : wrE r d k = 0 ∧ wrD r d k = behD (Nd.Wire.frame (payS r)) d ∧ wrK r d k = n := by
  unfold wrE wrD wrK
  simp only [hf, hb]
  exact ⟨trivial, trivial, rfl⟩
theorem wr_none {r : Rc} {d : Dk} {k : Kt} (hf : foldS r k = none) : wrE r d k = 1 ∧ wrD r d k = d ∧ wrK r d k = k := by
  unfold wrE wrD wrK
  simp only [hf]
  exact ⟨trivial, trivial, trivial⟩
theorem JV.typed {w : World} {B j g b : Nat} {v0 v1 ve : Value} {d : Dk} {k : Kt} {vs : List Value} {t : TypeId} (h : JV w B j g v0 v1 d ve k) (hr : Row w b vs t) (h5 : t ≠ 5) (h60 : t ≠ 60) (h68 : t ≠ 68) : ¬ FJ j g v0 v1 b := by
  rintro (rfl | hf)
  · have h2 := h.row
    unfold Row at h2 hr
    rw [hr] at h2
    injection h2 with h2
    injection h2 with _ h2
    exact h68 h2
  · exact h.pt.typed hr h5 h60 hf
theorem setAr_live (a : Int) (x : Ar) (d : Dk) : (Pt.setAr a x d).live = d.live := set_live.1
theorem begD_live (k a : Int) (d : Dk) : (Pt.begD k a d).live = d.live := by
  unfold Pt.begD Pt.spendD
  split
  · split <;> rfl
  · rfl
theorem behD_live (xs : List Nat) (d : Dk) : (behD xs d).live = d.live := by
  have happ : ∀ a, (Pt.appD a xs d).live = d.live := fun a => by
    unfold Pt.appD Pt.spendD
    split
    · split <;> exact setAr_live _ _ _
    · rfl
  have hsyn : ∀ a e, (Pt.synD a e).live = e.live := fun a e => by
    unfold Pt.synD
    split
    · rw [setAr_live, begD_live]
    · exact begD_live _ _ _
  unfold behD
  split
  · rw [hsyn, happ]
  · exact happ _
/-- what a call leaves that took its record -/
def Took (W : World) (B j g : Nat) (u0 u1 : Value) (d : Dk) (rs : List Rc) (r : Rc) (n : Kt) (m : Nat) (e : Ending) (w' : World) : Prop :=
  e = .returned (.int .i64 0) ∧ ∃ d' x0 x1 ve', JD d' (rs ++ [r]) n ∧ d'.live = d.live ∧ Lim d' (m + 262152) ∧ JV w' B j g x0 x1 d' ve' n ∧ Grew W w' (FJ j g u0 u1) ∧ Sub W (FJ j g u0 u1) (FJ j g x0 x1)
theorem cj_some {W : World} {B j g F m : Nat} {args : Array Value} {u0 u1 : Value} {d : Dk} {rs : List Rc} {r : Rc} {k n : Kt} (hc : Calls Try.prog F args W (CJ W B j g u0 u1 (wrE r d k) (wrD r d k) (wrK r d k))) (hd : JD d rs k) (hr : Rd r) (hf : foldS r k = some n) (hl : Lim d m) : Calls Try.prog F args W (Took W B j g u0 u1 d rs r n m) := by
  obtain ⟨h1, h2⟩ := hd.behind hr hf
  obtain ⟨e1, e2, e3⟩ := wr_some hf h1
  have hlim := hl.wr (k := k) (r := r) (fun _ _ => hr.pay)
  rw [e1, e2, e3] at hc
  rw [e2] at hlim
  refine hc.mono ?_
  rintro e w' ⟨h3, x0, x1, ve, h4, h5, h6⟩
  exact ⟨h3, _, x0, x1, ve, h2, behD_live _ _, hlim, h4, h5, h6⟩
theorem cj_none {W : World} {B j g F : Nat} {args : Array Value} {u0 u1 : Value} {d : Dk} {r : Rc} {k : Kt} (hc : Calls Try.prog F args W (CJ W B j g u0 u1 (wrE r d k) (wrD r d k) (wrK r d k))) (hf : foldS r k = none) : Calls Try.prog F args W (fun e w' => e = .returned (.int .i64 1) ∧ JStp W w' B j g u0 u1 d k) := by
  obtain ⟨e1, e2, e3⟩ := wr_none (d := d) hf
  rw [e1, e2, e3] at hc
  exact hc
theorem OpR.form {w w' : World} {B g : Nat} {v0 v1 : Value} {d : Dk} {kv kn kb : Int} {ks : ByteArray} {ke : List Ent} {e : Ending} (h : OpR w B g v0 v1 d ⟨kv, kn, kb, ks, ke⟩ e w') : ∃ j ve p c u0 u1, e = .returned (.tuple #[.pointer (some ⟨j, 0, none⟩), .agg #[.int .i64 kv, .int .i64 kn, .int .i64 kb, .string ks, .slice p ke.length c], .int .i64 0]) ∧ JV w' B j g u0 u1 d ve ⟨kv, kn, kb, ks, ke⟩ ∧ Et w' (.slice p ke.length c) ke ∧ w.heap.size ≤ j ∧ Grew w w' (FS g v0 v1) ∧ Sub w (FS g v0 v1) (FS g u0 u1) := by
  obtain ⟨j, ve, v, u0, u1, h1, h2, h3, h4⟩ := h
  obtain ⟨p, c, rfl, _, _⟩ := h3.val.form
  exact ⟨j, ve, p, c, u0, u1, h1, h2, h3, h4⟩
theorem frames_long (rs : List Rc) : 8 * rs.length ≤ (Nd.Wire.frames (rs.map payS)).length := by
  induction rs with
  | nil => exact Nat.le_refl _
  | cons r rs ih =>
    rw [List.map_cons, Nd.Wire.frames_cons, List.length_append, Nd.Wire.frame_length, List.length_cons]
    omega
theorem rd1 : Rd (recV 3) := Rd.v 3 (by decide) (by decide)
theorem ent1_ok : ent1.ok := ⟨⟨by decide, by decide⟩, ⟨by decide, by decide⟩, ⟨⟨by decide, by decide⟩, ⟨by decide, by decide⟩, ⟨by decide, by decide⟩, by decide, by decide, by decide⟩⟩
theorem rd2 : Rd (recE ent1) := Rd.e ent1 ent1_ok ⟨by decide, by decide, by decide⟩
theorem rd3 : Rd (recA 3 0 []) := Rd.a 3 0 [] (by decide) (by decide) (by decide) (by decide) (by decide) (fun _ h => by cases h) (fun _ h => by cases h)
end Go.Proofs.Ytjjofjnhhajjjaa.Jr
