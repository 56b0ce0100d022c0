/-
  A call within which the power may go: what the live area has, what is kept. An act within which the power may go. Open behind a cut. Acts that come in, with what is kept at a loss of power.
-/
import Derived.Laws.Tables
import Derived.OwnWalk
import Derived.Deep.CutRange
import Derived.Laws.CopyOwn
import Derived.Deep.RegionLaw
import Derived.Deep.DrawnRows
import Derived.Laws.StructEq
import Derived.Lib.SlBytesConst
import Derived.Test.YtjjofjnhhajjjaaC00
import Derived.Test.YtjjofjnhhajjjaaC01
import Derived.Test.YtjjofjnhhajjjaaC02
import Derived.Test.YtjjofjnhhajjjaaC03
import Derived.Test.YtjjofjnhhajjjaaC04
import Derived.Test.YtjjofjnhhajjjaaC05
import Derived.Test.YtjjofjnhhajjjaaC06
import Derived.Test.YtjjofjnhhajjjaaC07
import Derived.Test.YtjjofjnhhajjjaaC08
import Derived.Test.YtjjofjnhhajjjaaC09
import Derived.Test.YtjjofjnhhajjjaaC10
import Derived.Test.YtjjofjnhhajjjaaC11
import Derived.Test.YtjjofjnhhajjjaaC12
import Derived.Test.YtjjofjnhhajjjaaC13
import Derived.Test.YtjjofjnhhajjjaaC14
import Derived.Test.YtjjofjnhhajjjaaC15
import Derived.Test.YtjjofjnhhajjjaaC16
import Derived.Test.YtjjofjnhhajjjaaC17
import Derived.Test.YtjjofjnhhajjjaaC18
import Derived.Test.YtjjofjnhhajjjaaC19
import Derived.Test.YtjjofjnhhajjjaaC20
import Derived.Test.YtjjofjnhhajjjaaC21
import Derived.Test.YtjjofjnhhajjjaaC22
import Derived.Test.YtjjofjnhhajjjaaC23
import Derived.Test.YtjjofjnhhajjjaaC24
import Derived.Test.YtjjofjnhhajjjaaC25
import Derived.Test.YtjjofjnhhajjjaaC26
import Derived.Test.YtjjofjnhhajjjaaC27
import Derived.Test.YtjjofjnhhajjjaaC28
import Derived.Test.YtjjofjnhhajjjaaC29
import Derived.Test.YtjjofjnhhajjjaaC30
import Derived.Test.YtjjofjnhhajjjaaC31
import Derived.Test.YtjjofjnhhajjjaaC32
import Derived.Test.YtjjofjnhhajjjaaC33
import Derived.Test.YtjjofjnhhajjjaaC34
import Derived.Test.YtjjofjnhhajjjaaC35
import Derived.Test.YtjjofjnhhajjjaaC36
import Derived.Test.YtjjofjnhhajjjaaC37
namespace Go.Proofs.Ytjjofjnhhajjjaa.Jr
open Go.RowKit
open Nd (Row wp_world post_Row grownBy_setCell grownBy_trans below_of_grown u8v Grew Sl hid_in i64r bytesS str)
open Pt (Ar Dk PtV FS Sub Stp liv arOf setAr isA refE spendE spendD appE appD begE begD synD wipD fliD oth bytesOf cutAr cutN cutD armD)
def armL (L : Nat) (d : Dk) : Dk := ⟨d.a0, d.a1, d.live, d.down, L⟩
/-- what a call leaves within which the power may go: E its answer, D the platter, K what is kept; k was kept ahead of it, n is what it would make -/
structure Gone (D : Dk) (E : Int) (K k n : Kt) : Prop where
  lv : Lv D (fun x => x = k ∨ x = n)
  up : D.down = false → ∃ rs, JS (armL 0 D) rs (if E = 0 then n else k)
  kp : K = if E = 0 then n else k
  ez : E = 0 → D.down = false
theorem frames_snoc (rs : List Rc) (r : Rc) : Nd.Wire.frames ((rs ++ [r]).map payS) = Nd.Wire.frames (rs.map payS) ++ Nd.Wire.frame (payS r) := by simp [Nd.Wire.frames]
theorem rd_snoc {rs : List Rc} {r : Rc} (h : ∀ x ∈ rs, Rd x) (hr : Rd r) : ∀ x ∈ rs ++ [r], Rd x := by
  intro x hx
  rcases List.mem_append.1 hx with hx | hx
  · exact h x hx
  · rw [List.mem_singleton.1 hx]; exact hr
theorem JS.same {d : Dk} {rs : List Rc} {k : Kt} (h : JS d rs k) (L : Nat) : JS (armL 0 (armL L d)) rs k := by
  obtain ⟨⟨h1, h2, h3, h4, h5⟩, h6⟩ := h
  obtain ⟨a0, a1, b, dn, lf⟩ := d
  simp only at h1 h2
  subst h1 h2
  exact ⟨⟨rfl, rfl, h3, h4, h5⟩, h6⟩
theorem lva_arm (L : Nat) (d : Dk) : lva (armL L d) = lva d := by
  obtain ⟨a0, a1, b, dn, lf⟩ := d
  cases b <;> rfl
theorem gone_none {d : Dk} {rs : List Rc} {k : Kt} (h : JS d rs k) (L : Nat) (E : Int) (n : Kt) (hE : E = 0 → k = n) : Gone (armL L d) E k k n := by
  have e : (if E = 0 then n else k) = k := by
    by_cases hz : E = 0
    · rw [if_pos hz]; exact (hE hz).symm
    · rw [if_neg hz]
  refine ⟨?_, fun _ => ⟨rs, ?_⟩, e.symm, fun _ => h.jd.down⟩
  · have h2 := h.lv (P := fun x => x = k ∨ x = n) (.inl rfl)
    unfold Lv at h2 ⊢
    rw [lva_arm]
    exact h2
  · rw [e]
    exact h.same L
theorem gone_beh {d : Dk} {rs : List Rc} {k n : Kt} {r : Rc} (h : JS d rs k) (hr : Rd r) (hf : foldS r k = some n) (L : Nat) :
    Gone (behD (Nd.Wire.frame (payS r)) (armL L d)) (behE (Nd.Wire.frame (payS r)) (armL L d)) (if behE (Nd.Wire.frame (payS r)) (armL L d) = 0 then n else k) k n := by
  have hA := rd_snoc h.jd.rd hr
  have hfold : foldA (rs ++ [r]) zeroK = some n := by rw [foldA_app rs r zeroK k h.jd.fold]; exact hf
  obtain ⟨⟨h1, h2, h3, h4, h5⟩, h6⟩ := h
  obtain ⟨a0, a1, b, dn, lf⟩ := d
  simp only at h1 h2
  subst h1 h2
  unfold armL
  simp only
  cases b
  · have hb : a0.bs = Nd.Wire.frames (rs.map payS) := h3
    have hs : a0.sy = a0.bs.length := h6
    have hbs : a0.bs ++ Nd.Wire.frame (payS r) = Nd.Wire.frames ((rs ++ [r]).map payS) := by rw [frames_snoc, hb]
    rw [(beh_f _ a0 a1 L).1, (beh_f _ a0 a1 L).2]
    by_cases hL : L = 1 ∨ L = 2
    · rw [if_pos hL, if_pos hL, if_neg (by decide)]
      refine ⟨.inr ⟨rs, r, k, n, hbs, ?_, hA, h5, hf, .inl rfl, .inr rfl⟩, fun h => (by cases h), (if_neg (by decide)).symm, fun h => absurd h (by decide)⟩
      show _ ≤ a0.sy
      rw [hs, hb]
      exact Nat.le_refl _
    · rw [if_neg hL, if_neg hL, if_pos rfl]
      refine ⟨.inl ⟨rs ++ [r], n, hbs, rfl, hA, hfold, .inr rfl⟩, fun _ => ⟨rs ++ [r], ?_⟩, (if_pos rfl).symm, fun _ => rfl⟩
      rw [if_pos rfl]
      exact ⟨⟨rfl, rfl, hbs, hA, hfold⟩, rfl⟩
  · have hb : a1.bs = Nd.Wire.frames (rs.map payS) := h3
    have hs : a1.sy = a1.bs.length := h6
    have hbs : a1.bs ++ Nd.Wire.frame (payS r) = Nd.Wire.frames ((rs ++ [r]).map payS) := by rw [frames_snoc, hb]
    rw [(beh_t _ a0 a1 L).1, (beh_t _ a0 a1 L).2]
    by_cases hL : L = 1 ∨ L = 2
    · rw [if_pos hL, if_pos hL, if_neg (by decide)]
      refine ⟨.inr ⟨rs, r, k, n, hbs, ?_, hA, h5, hf, .inl rfl, .inr rfl⟩, fun h => (by cases h), (if_neg (by decide)).symm, fun h => absurd h (by decide)⟩
      show _ ≤ a1.sy
      rw [hs, hb]
      exact Nat.le_refl _
    · rw [if_neg hL, if_neg hL, if_pos rfl]
      refine ⟨.inl ⟨rs ++ [r], n, hbs, rfl, hA, hfold, .inr rfl⟩, fun _ => ⟨rs ++ [r], ?_⟩, (if_pos rfl).symm, fun _ => rfl⟩
      rw [if_pos rfl]
      exact ⟨⟨rfl, rfl, hbs, hA, hfold⟩, rfl⟩
theorem gone_anew {d : Dk} {rs : List Rc} {k n : Kt} (h : JS d rs k) (hok : n.ok) (hm : may n = true) (L : Nat) :
    Gone (anewR (Nd.Wire.frame (payS (recL n))) (armL L d)).2 (anewR (Nd.Wire.frame (payS (recL n))) (armL L d)).1 (if (anewR (Nd.Wire.frame (payS (recL n))) (armL L d)).1 = 0 then n else k) k n := by
  have hf : foldA [recL n] zeroK = some n := by
    rw [foldA_cons, foldS_L hm]
    rfl
  have hrd : ∀ r ∈ [recL n], Rd r := fun r hr => by rw [List.mem_singleton.1 hr]; exact Rd.l n hok hm
  have hfr : Nd.Wire.frame (payS (recL n)) = Nd.Wire.frames ([recL n].map payS) := by simp [Nd.Wire.frames]
  obtain ⟨⟨h1, h2, h3, h4, h5⟩, h6⟩ := h
  obtain ⟨a0, a1, b, dn, lf⟩ := d
  simp only at h1 h2
  subst h1 h2
  unfold armL
  simp only
  cases b
  · have hb : a0.bs = Nd.Wire.frames (rs.map payS) := h3
    have hs : a0.sy = a0.bs.length := h6
    rw [anew_fL]
    by_cases c1 : L = 1
    · rw [if_pos c1]
      exact ⟨.inl ⟨rs, k, hb, hs, h4, h5, .inl rfl⟩, fun h => (by cases h), rfl, fun h => absurd h (show ¬ (170 : Int) = 0 by decide)⟩
    · rw [if_neg c1]
      by_cases c2 : L = 2 ∨ L = 3
      · rw [if_pos c2]
        exact ⟨.inl ⟨rs, k, hb, hs, h4, h5, .inl rfl⟩, fun h => (by cases h), rfl, fun h => absurd h (show ¬ (170 : Int) = 0 by decide)⟩
      · rw [if_neg c2]
        by_cases c3 : L = 4
        · rw [if_pos c3]
          exact ⟨.inl ⟨rs, k, hb, hs, h4, h5, .inl rfl⟩, fun h => (by cases h), rfl, fun h => absurd h (show ¬ (170 : Int) = 0 by decide)⟩
        · rw [if_neg c3]
          by_cases c4 : L = 5
          · rw [if_pos c4]
            exact ⟨.inl ⟨[recL n], n, hfr, rfl, hrd, hf, .inr rfl⟩, fun h => (by cases h), rfl, fun h => absurd h (show ¬ (170 : Int) = 0 by decide)⟩
          · rw [if_neg c4]
            refine ⟨.inl ⟨[recL n], n, hfr, rfl, hrd, hf, .inr rfl⟩, fun _ => ⟨[recL n], ?_⟩, rfl, fun _ => rfl⟩
            rw [if_pos rfl]
            exact ⟨⟨rfl, rfl, hfr, hrd, hf⟩, rfl⟩
  · have hb : a1.bs = Nd.Wire.frames (rs.map payS) := h3
    have hs : a1.sy = a1.bs.length := h6
    rw [anew_tL]
    by_cases c1 : L = 1
    · rw [if_pos c1]
      exact ⟨.inl ⟨rs, k, hb, hs, h4, h5, .inl rfl⟩, fun h => (by cases h), rfl, fun h => absurd h (show ¬ (170 : Int) = 0 by decide)⟩
    · rw [if_neg c1]
      by_cases c2 : L = 2 ∨ L = 3
      · rw [if_pos c2]
        exact ⟨.inl ⟨rs, k, hb, hs, h4, h5, .inl rfl⟩, fun h => (by cases h), rfl, fun h => absurd h (show ¬ (170 : Int) = 0 by decide)⟩
      · rw [if_neg c2]
        by_cases c3 : L = 4
        · rw [if_pos c3]
          exact ⟨.inl ⟨rs, k, hb, hs, h4, h5, .inl rfl⟩, fun h => (by cases h), rfl, fun h => absurd h (show ¬ (170 : Int) = 0 by decide)⟩
        · rw [if_neg c3]
          by_cases c4 : L = 5
          · rw [if_pos c4]
            exact ⟨.inl ⟨[recL n], n, hfr, rfl, hrd, hf, .inr rfl⟩, fun h => (by cases h), rfl, fun h => absurd h (show ¬ (170 : Int) = 0 by decide)⟩
          · rw [if_neg c4]
            refine ⟨.inl ⟨[recL n], n, hfr, rfl, hrd, hf, .inr rfl⟩, fun _ => ⟨[recL n], ?_⟩, rfl, fun _ => rfl⟩
            rw [if_pos rfl]
            exact ⟨⟨rfl, rfl, hfr, hrd, hf⟩, rfl⟩
end Go.Proofs.Ytjjofjnhhajjjaa.Jr
namespace Go.Proofs.Ytjjofjnhhajjjaa.Jr
open Go.RowKit
open Nd (Row wp_world post_Row grownBy_setCell grownBy_trans below_of_grown u8v Grew Sl hid_in i64r bytesS str)
open Pt (Ar Dk PtV FS Sub Stp liv arOf setAr isA refE spendE spendD appE appD begE begD synD wipD fliD oth bytesOf cutAr cutN cutD armD)
theorem gone_wr {d : Dk} {rs : List Rc} {k : Kt} {r : Rc} (h : JS d rs k) (hr : ∀ n, foldS r k = some n → Rd r) (L : Nat) :
    Gone (wrD r (armL L d) k) (wrE r (armL L d) k) (wrK r (armL L d) k) k (match foldS r k with | none => k | some n => n) := by
  cases hf : foldS r k with
  | none =>
    obtain ⟨e1, e2, e3⟩ := wr_none (d := armL L d) hf
    rw [e1, e2, e3]
    exact gone_none h L 1 k (fun h => absurd h (by decide))
  | some n =>
    have g := gone_beh h (hr n hf) hf L
    unfold wrD wrE wrK
    simp only [hf]
    exact g
theorem gone_ly {d : Dk} {rs : List Rc} {k k' : Kt} (h : JS d rs k) (hok : k'.ok) (L : Nat) :
    Gone (lyD k' (armL L d) k) (lyE k' (armL L d) k) (lyK k' (armL L d) k) k (match foldS (recL k') k with | none => k | some n => n) := by
  cases hf : foldS (recL k') k with
  | none =>
    have g := gone_none h L 1 k (fun h => absurd h (by decide))
    unfold lyD lyE lyK
    simp only [hf]
    exact g
  | some n =>
    obtain ⟨rfl, hm⟩ := fold_recL hf
    have g := gone_anew h hok hm L
    unfold lyD lyE lyK
    simp only [hf]
    exact g
/-- what an armed act leaves -/
def Arm1 (w : World) (B j g : Nat) (v0 v1 : Value) (k n : Kt) (m : Nat) (e : Ending) (w' : World) : Prop :=
  ∃ E D K, e = .returned (.int .i64 E) ∧ Gone D E K k n ∧ Lim D m ∧ JStp w w' B j g v0 v1 D K
theorem do_arm {w : World} {B j g n L : Nat} {v0 v1 ve : Value} {d : Dk} {rs : List Rc} {k : Kt} (hJ : JV w B j g v0 v1 (armL L d) ve k) (hd : JS d rs k) (hl : Lim d n) (hn : n ≤ 100000000) (a : Ac) (ha : a.ok w) (hlen : a.k.ents.length ≤ 100000000) :
    Calls Try.prog 11 #[.pointer (some ⟨j, 0, none⟩), a.val] w (Arm1 w B j g v0 v1 k (okK a k) (n + 262152)) := by
  have hla : Lim (armL L d) n := hl
  have hR : Room (armL L d) := hla.room (by omega)
  unfold okK
  rcases kd_cases a.kind with h | h | h | h | h | h
  · rw [if_neg (by rw [h]; decide), h]
    refine (do_0 hJ a ha hR h).mono ?_
    rintro e w' ⟨h1, h2⟩
    exact ⟨_, _, _, h1, gone_wr hd (fun _ hf => rd_v hJ.may hf) L, hla.wr (fun _ hf => (rd_v hJ.may hf).pay), h2⟩
  · rw [if_neg (by rw [h]; decide), h]
    refine (do_1 hJ a ha hR h).mono ?_
    rintro e w' ⟨h1, h2⟩
    exact ⟨_, _, _, h1, gone_wr hd (fun _ hf => rd_e (Ac.first_ok ha) hf) L, hla.wr (fun _ hf => (rd_e (Ac.first_ok ha) hf).pay), h2⟩
  · rw [if_neg (by rw [h]; decide), h]
    refine (do_2 hJ a ha hR hlen h).mono ?_
    rintro e w' ⟨h1, h2⟩
    exact ⟨_, _, _, h1, gone_wr hd (fun _ hf => rd_a hJ.may ha.k.ents hf) L, hla.wr (fun _ hf => (rd_a hJ.may ha.k.ents hf).pay), h2⟩
  · rw [if_neg (by rw [h]; decide), h]
    refine (do_3 hJ a ha hR hlen h).mono ?_
    rintro e w' ⟨h1, h2⟩
    exact ⟨_, _, _, h1, gone_ly hd ha.k L, hla.ly ha.k, h2⟩
  · rw [if_pos (.inl h)]
    refine (do_4 hJ a ha h).mono ?_
    rintro e w' ⟨h1, h2⟩
    exact ⟨_, _, _, h1, gone_none hd L 0 k (fun _ => rfl), hla.mono (by omega), h2⟩
  · rw [if_pos (.inr h)]
    refine (do_5 hJ a ha h).mono ?_
    rintro e w' ⟨h1, h2⟩
    exact ⟨_, _, _, h1, gone_none hd L 0 k (fun _ => rfl), hla.mono (by omega), h2⟩
end Go.Proofs.Ytjjofjnhhajjjaa.Jr
namespace Go.Proofs.Ytjjofjnhhajjjaa.Jr
open Go.RowKit
open Nd (Row wp_world post_Row grownBy_setCell grownBy_trans below_of_grown u8v Grew Sl hid_in i64r bytesS str)
open Pt (Ar Dk PtV FS Sub Stp liv arOf setAr isA refE spendE spendD appE appD begE begD synD wipD fliD oth bytesOf cutAr cutN cutD armD)
theorem bytes_lva (d : Dk) : bytesOf (liv d.live) d = (lva d).bs := by
  unfold bytesOf
  rw [if_pos (isA_liv _)]
  rfl
theorem js_anew {d : Dk} {k : Kt} (h1 : d.down = false) (h2 : d.left = 0) (hok : k.ok) (hm : may k = true) : JS (anewR (Nd.Wire.frame (payS (recL k))) d).2 [recL k] k := by
  have hf : foldA [recL k] zeroK = some k := by
    rw [foldA_cons, foldS_L hm]
    rfl
  have hrd : ∀ r ∈ [recL k], Rd r := fun r hr => by rw [List.mem_singleton.1 hr]; exact Rd.l k hok hm
  have hfr : Nd.Wire.frame (payS (recL k)) = Nd.Wire.frames ([recL k].map payS) := by simp [Nd.Wire.frames]
  obtain ⟨a0, a1, b, dn, lf⟩ := d
  simp only at h1 h2
  subst h1 h2
  cases b
  · rw [anew_f]
    exact ⟨⟨rfl, rfl, hfr, hrd, hf⟩, rfl⟩
  · rw [anew_t]
    exact ⟨⟨rfl, rfl, hfr, hrd, hf⟩, rfl⟩
theorem Lim.cut {d : Dk} {m : Nat} (h : Lim d m) (ks : List Int) : Lim (cutD ks d) m := by
  refine ⟨?_, ?_⟩
  · show (d.a0.bs.take _).length ≤ m
    rw [List.length_take]
    have := h.1
    omega
  · show (d.a1.bs.take _).length ≤ m
    rw [List.length_take]
    have := h.2
    omega
theorem lva_sy {w : World} {B g : Nat} {v0 v1 : Value} {d : Dk} (h : PtV w B g v0 v1 d) : (lva d).sy ≤ (lva d).bs.length ∧ ∀ x ∈ (lva d).bs, x < 256 := by
  have h0 := h.ok.o0
  have h1 := h.ok.o1
  obtain ⟨a0, a1, b, dn, lf⟩ := d
  cases b
  · exact ⟨h0.1, h0.2.1⟩
  · exact ⟨h1.1, h1.2.1⟩
/-- Open finds what is kept -/
def Fd (w : World) (B g : Nat) (v0 v1 : Value) (m : Nat) (P : Kt → Prop) (e : Ending) (w' : World) : Prop :=
  ∃ d rs k, OpR w B g v0 v1 d k e w' ∧ JS d rs k ∧ Lim d m ∧ P k
theorem open_cut {w : World} {B g m : Nat} {v0 v1 : Value} {D : Dk} {P : Kt → Prop} (ks : List Int) (h : PtV w B g v0 v1 (cutD ks D)) (hl : Lv D P) (hsy : (lva D).sy ≤ (lva D).bs.length) (hb : ∀ x ∈ (lva D).bs, x < 256) (hm : Lim D m) (hmb : m ≤ 1000000000) :
    Calls Try.prog 9 #[.pointer (some ⟨g, 0, none⟩)] w (Fd w B g v0 v1 (m + 262152) P) := by
  obtain ⟨rs, k, n, hrd, hf, hp, hs, hn, hsl, hwh⟩ := hl.cut hsy ks hb
  obtain ⟨kk, hc, hlive, hdn, hlf⟩ := lva_cut ks D
  have hmc := hm.cut ks
  generalize cutD ks D = d at *
  have hlen : (bytesOf (liv d.live) d).length ≤ 1099511627776 := by
    rw [bytes_lva]
    have := hmc.ar (liv d.live)
    unfold lva
    omega
  by_cases hw : n = (lva d).bs.length
  · refine (open_whole h hdn rs k hrd hf (by rw [bytes_lva, hs, hw]) hlen).mono ?_
    intro e w' ho
    exact ⟨d, rs, k, ho, ⟨⟨hdn, hlf, hwh hw, hrd, hf⟩, hsl⟩, hmc.mono (by omega), hp⟩
  · refine (open_torn h hdn rs k hrd hf n (by rw [bytes_lva]; exact hs) (by rw [bytes_lva]; omega) hlf (hmc.room (by omega)) hlen).mono ?_
    intro e w' ho
    obtain ⟨j, ve, v, u0, u1, e1, hJ, r1⟩ := ho
    have hfl := frame_le (recL_pay hJ.ok hJ.may)
    exact ⟨_, [recL k], k, ⟨j, ve, v, u0, u1, e1, hJ, r1⟩, js_anew hdn hlf hJ.ok hJ.may, (hmc.anew _).mono (by omega), hp⟩
end Go.Proofs.Ytjjofjnhhajjjaa.Jr
namespace Go.Proofs.Ytjjofjnhhajjjaa.Jr
open Go.ChangeShapes Go.WideShapes Go.ChangeAt Go.RowKit Go.Deep
open Nd (i64r)
/-- numbers in memory -/
def Kin (a : World) (v : Value) (ks : List Int) : Prop := ∃ p cap b o, v = .slice p ks.length cap ∧ ks.length ≤ 9223372036854775807 ∧ (ks ≠ [] → p = some ⟨b, o, none⟩ ∧ b < a.heap.size) ∧ ∀ (i : Nat) k, ks[i]? = some k → a.cell? ⟨b, o + i, none⟩ = some (.int .i64 k)
theorem Kin.kp {a w : World} {v : Value} {ks : List Int} (h : Kin a v ks) (hb : Below a.heap.size a w) (S : Nat → Prop) (hS : ∀ k, S k → a.heap.size ≤ k) : Pt.Kp w S v ks := by
  obtain ⟨p, cap, b, o, rfl, h2, h3, h4⟩ := h
  refine ⟨p, cap, rfl, h2, fun hne => ⟨b, o, (h3 hne).1, fun W hg i k hi => ?_⟩⟩
  have hw := Nd.Grew.below hg hb hb.size hS
  rw [hw.cell (p := ⟨b, _, none⟩) (h3 hne).2]
  exact h4 i k hi
theorem none_of_cell {W : World} {x : Addr} {len : Nat} (h : 0 < len → ∃ v, W.cell? x = some v) : ∃ b o, 0 < len → x = ⟨b, o, none⟩ := by
  by_cases h0 : 0 < len
  · obtain ⟨v, hc⟩ := h h0
    obtain ⟨b', o', sp⟩ := x
    have hspot : sp = none := by simpa using World.cell?_spot hc
    subst hspot
    exact ⟨b', o', fun _ => rfl⟩
  · exact ⟨0, 0, fun h => absurd h h0⟩
theorem add_zero' (x : Addr) : x.add 0 = x := by cases x; simp [Addr.add]
/-- numbers that come in -/
theorem ints_inK {H : Type} {enc : TypeId × Value → H} {W : World} {fuel : Nat} {cs : List Value} {d : DataW H} {p : List MemPlace} (hf : DataW.trod enc Try.prog W 0 (fun _ => true) true fuel 34 cs = some (d, p)) :
    ∃ v ks, cs = [v] ∧ Kin W v ks := by
  rcases open_slice Try.underlying34 hf with ⟨hcs, hx⟩ | ⟨x, l, c, m, n, D, Pl, hcs, _, hl, hm, hmm, hx, hr⟩
  · exact ⟨_, [], hcs, ⟨none, 0, 0, 0, rfl, by simp, fun h => absurd rfl h, fun i s h => by simp at h⟩⟩
  · simp only [if_true] at hmm
    subst hmm
    rw [cells3] at hr
    have each : ∀ r, r < l → ∃ k : Int, W.cell? (x.add r) = some (.int .i64 k) := by
      intro r hlt
      obtain ⟨cs', h1, h2⟩ := hr r (by omega)
      obtain ⟨_, hlen, hcell⟩ := World.cells?_some h1
      obtain ⟨k, e2, _, hk⟩ := DataW.trod_int Try.underlying3 h2
      subst e2
      refine ⟨k, ?_⟩
      have := hcell 0 (by omega)
      rw [Nat.mul_one, add_zero'] at this
      simpa using this
    obtain ⟨y, hy⟩ := choose_lt each
    obtain ⟨b, o, hpx⟩ := none_of_cell (W := W) (x := x) (len := l) (fun h0 => ⟨_, by have := hy 0 h0; rwa [add_zero'] at this⟩)
    have hcap : m ≤ 9223372036854775807 := by unfold maxLen at hm; omega
    refine ⟨_, (List.range l).map y, hcs, ⟨some x, m, b, o, by simp, by simp; omega, fun hne => ?_, fun i s hi => ?_⟩⟩
    · have h0 : 0 < l := by
        rcases Nat.eq_zero_or_pos l with h | h
        · subst h; exact absurd rfl hne
        · exact h
      have hc := hy 0 h0
      rw [add_zero', hpx h0] at hc
      exact ⟨by rw [hpx h0], World.block_lt_of_cell? W _ hc⟩
    · have hlt : i < l := by have := (List.getElem?_eq_some_iff.1 hi).1; simpa using this
      simp [hlt] at hi
      subst hi
      have hc := hy i hlt
      rw [hpx (by omega), Addr.add_mid] at hc
      exact hc
set_option maxRecDepth 100000 in
theorem act_inK {H : Type} {enc : TypeId × Value → H} {W : World} {fuel : Nat} {cs : List Value} {d : DataW H} {p : List MemPlace} (hf : DataW.trod enc Try.prog W 0 (fun _ => true) true fuel 36 cs = some (d, p)) :
    ∃ a : Ac, cs = a.cells ∧ a.ok W ∧ a.k.ents.length ≤ Rows.uptoBulk d ∧ Kin W a.keep a.ks := by
  obtain ⟨xs, n, _, hxy, hl, hxl, hg⟩ := DataW.trod_struct Try.underlying36 hf
  have hxl' : xs.length = 6 := hxl
  rw [cells36] at hl
  match xs, hxl', cs, hl with
  | [y0, y1, y2, y3, y4, y5], _, [v0, v1, v2, v3, v4, v5, v6, v7, v8, v9], _ =>
    have g0 := hg 0 _ rfl
    have g1 := hg 1 _ rfl
    have g2 := hg 2 _ rfl
    have g3 := hg 3 _ rfl
    have g4 := hg 4 _ rfl
    have g5 := hg 5 _ rfl
    obtain ⟨A, e0, _, hA⟩ := DataW.trod_int Try.underlying3 g0
    obtain ⟨B, e1, _, hB⟩ := DataW.trod_int Try.underlying2 g1
    obtain ⟨C, e2, _, hC⟩ := DataW.trod_int Try.underlying2 g2
    obtain ⟨k, vk, e3, hk, hes, hbk⟩ := kept_in2 g3
    obtain ⟨F, e4, _, hF⟩ := DataW.trod_int Try.underlying3 g4
    obtain ⟨kv5, ks5, e5, hkin⟩ := ints_inK g5
    simp [cells2, cells3, cells30, cells34, Kt.cells] at e0 e1 e2 e3 e4 e5
    obtain ⟨rfl, rfl, rfl, rfl, rfl⟩ := e3
    subst e0 e1 e2 e4 e5
    simp only [Prod.mk.injEq] at hxy
    have m3 := bulkAll_mem (d := y3.1) (l := [y0.1, y1.1, y2.1, y3.1, y4.1, y5.1]) (by simp)
    refine ⟨⟨A, B, C, k, v7, F, v9, ks5⟩, rfl, ⟨bounds_i64 hA, bounds_i64 hB, bounds_i64 hC, hk, hes, bounds_i64 hF, by obtain ⟨p5, c5, _, _, e, _⟩ := hkin; exact ⟨p5, _, c5, e⟩⟩, ?_, hkin⟩
    rw [hxy.1]
    simp only [List.map_cons, List.map_nil, Rows.uptoBulk]
    omega
theorem acts_inK {H : Type} {enc : TypeId × Value → H} {W : World} {a : Option Addr} {len cap : Nat} {d : DataW H} {p : List MemPlace} (h : DataW.Trod enc Try.prog W 0 (fun _ => true) true 22 (.slice a len cap) d p) :
    ∃ xa : List Ac, Acs W (.slice a len cap) xa ∧ ∀ x ∈ xa, x.k.ents.length ≤ Rows.uptoBulk d ∧ Kin W x.keep x.ks := by
  obtain ⟨fuel, hf⟩ := h
  rcases open_slice Try.underlying22 hf with ⟨hcs, hx⟩ | ⟨x, l, c, m, n, D, Pl, hcs, _, hl, hm, hmm, hx, hr⟩
  · simp [Value.cells] at hcs
    obtain ⟨rfl, rfl, rfl⟩ := hcs
    exact ⟨[], ⟨none, 0, 0, 0, rfl, by simp, by omega, fun h => absurd rfl h, fun i f hi => by simp at hi, fun f hf => by cases hf⟩, fun f hf => by cases hf⟩
  · simp [Value.cells] at hcs
    obtain ⟨rfl, rfl, rfl⟩ := hcs
    simp only [if_true] at hmm
    subst hmm
    simp only [Prod.mk.injEq] at hx
    obtain ⟨hd, _⟩ := hx
    rw [cells36] at hr
    have each : ∀ r, r < len → ∃ f : Ac, f.ok W ∧ f.k.ents.length ≤ Rows.uptoBulk (D r) ∧ Kin W f.keep f.ks ∧ ∀ (j : Nat) u, f.cells[j]? = some u → W.cell? ((x.add (r * 10)).add j) = some u := by
      intro r hlt
      obtain ⟨cs', h1, h2⟩ := hr r (by omega)
      obtain ⟨_, hlen, hcell⟩ := World.cells?_some h1
      obtain ⟨o, rfl, ho, hob, hki⟩ := act_inK h2
      refine ⟨o, ho, hob, hki, fun j u hj => ?_⟩
      have hj5 : j < 10 := by have := (List.getElem?_eq_some_iff.1 hj).1; exact this
      have := hcell j hj5
      rw [this]
      exact hj
    haveI : Inhabited Ac := ⟨⟨0, 0, 0, zeroK, .slice none 0 0, 0, .slice none 0 0, []⟩⟩
    obtain ⟨y, hy⟩ := choose_lt each
    have hcap : m ≤ 9223372036854775807 := by unfold maxLen at hm; omega
    obtain ⟨b, o, hpx⟩ : ∃ b o, 0 < len → x = ⟨b, o, none⟩ ∧ b < W.heap.size := by
      by_cases h0 : 0 < len
      · have hc := (hy 0 h0).2.2.2 0 _ rfl
        obtain ⟨b', o', sp⟩ := x
        have hspot : sp = none := by simpa [Addr.add] using World.cell?_spot hc
        subst hspot
        rw [Addr.add_mid, Addr.add_mid] at hc
        exact ⟨b', o', fun _ => ⟨rfl, World.block_lt_of_cell? W _ hc⟩⟩
      · exact ⟨0, 0, fun h => absurd h h0⟩
    refine ⟨(List.range len).map y, ⟨some x, m, b, o, by simp, by simpa using hl, hcap, fun h => ?_, fun j f hj => ?_, fun f hf => ?_⟩, fun f hf => ?_⟩
    · have h0 : 0 < len := by
        rcases Nat.eq_zero_or_pos len with h1 | h1
        · subst h1; exact absurd rfl h
        · exact h1
      exact ⟨by rw [(hpx h0).1], (hpx h0).2⟩
    · have hi : j < len := by have := (List.getElem?_eq_some_iff.1 hj).1; simpa using this
      simp [hi] at hj
      subst hj
      intro i u hu
      have := (hy j hi).2.2.2 i u hu
      rw [(hpx (by omega)).1, Addr.add_mid, Addr.add_mid] at this
      exact this
    · obtain ⟨r, hr2, rfl⟩ := List.mem_map.1 hf
      exact (hy r (by simpa using hr2)).1
    · obtain ⟨r, hr2, rfl⟩ := List.mem_map.1 hf
      have hr3 : r < len := by simpa using hr2
      have h1 := bulkAll_mem (d := D r) (l := (List.range len).map D) (List.mem_map.2 ⟨r, by simpa using hr3, rfl⟩)
      have h2 := (hy r hr3).2.1
      refine ⟨?_, (hy r hr3).2.2.1⟩
      rw [hd]
      simp only [Rows.uptoBulk]
      omega
end Go.Proofs.Ytjjofjnhhajjjaa.Jr
