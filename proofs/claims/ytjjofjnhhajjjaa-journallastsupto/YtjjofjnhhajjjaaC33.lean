/-
  Open, where all of the live area is frames of records. What a journal's platter has, as long as the power stays: the frames of the records that made what is kept.
-/
import Derived.Laws.Tables
import Derived.OwnWalk
import Derived.Deep.CutRange
import Derived.Laws.CopyOwn
import Derived.Deep.RegionLaw
import Derived.Deep.DrawnRows
import Derived.Laws.StructEq
import Derived.Lib.SlBytesConst
import Derived.Test.YtjjofjnhhajjjaaC00
import Derived.Test.YtjjofjnhhajjjaaC01
import Derived.Test.YtjjofjnhhajjjaaC02
import Derived.Test.YtjjofjnhhajjjaaC03
import Derived.Test.YtjjofjnhhajjjaaC04
import Derived.Test.YtjjofjnhhajjjaaC05
import Derived.Test.YtjjofjnhhajjjaaC06
import Derived.Test.YtjjofjnhhajjjaaC07
import Derived.Test.YtjjofjnhhajjjaaC08
import Derived.Test.YtjjofjnhhajjjaaC09
import Derived.Test.YtjjofjnhhajjjaaC10
import Derived.Test.YtjjofjnhhajjjaaC11
import Derived.Test.YtjjofjnhhajjjaaC12
import Derived.Test.YtjjofjnhhajjjaaC13
import Derived.Test.YtjjofjnhhajjjaaC14
import Derived.Test.YtjjofjnhhajjjaaC15
import Derived.Test.YtjjofjnhhajjjaaC16
import Derived.Test.YtjjofjnhhajjjaaC17
import Derived.Test.YtjjofjnhhajjjaaC18
import Derived.Test.YtjjofjnhhajjjaaC19
import Derived.Test.YtjjofjnhhajjjaaC20
import Derived.Test.YtjjofjnhhajjjaaC21
import Derived.Test.YtjjofjnhhajjjaaC22
import Derived.Test.YtjjofjnhhajjjaaC23
import Derived.Test.YtjjofjnhhajjjaaC24
import Derived.Test.YtjjofjnhhajjjaaC25
import Derived.Test.YtjjofjnhhajjjaaC26
import Derived.Test.YtjjofjnhhajjjaaC27
import Derived.Test.YtjjofjnhhajjjaaC28
import Derived.Test.YtjjofjnhhajjjaaC29
import Derived.Test.YtjjofjnhhajjjaaC30
import Derived.Test.YtjjofjnhhajjjaaC31
import Derived.Test.YtjjofjnhhajjjaaC32
namespace Go.Proofs.Ytjjofjnhhajjjaa.Jr
open Go.RowKit
open Nd (Row wp_world post_Row grownBy_setCell grownBy_trans below_of_grown u8v Grew Sl hid_in i64r bytesS str)
open Pt (Dk PtV FS Sub Stp liv arOf bytesOf)
theorem bytes_lt {w : World} {B g : Nat} {v0 v1 : Value} {d : Dk} (h : PtV w B g v0 v1 d) (a : Int) : ∀ x ∈ bytesOf a d, x < 256 := by
  unfold bytesOf
  split
  · unfold arOf
    split
    · exact h.ok.o0.2.1
    · exact h.ok.o1.2.1
  · intro x hx; cases hx
theorem no51_rows {w W : World} {vs2 vs3 vs4 : List Value} (h2 : Row W w.heap.size vs2 27) (h3 : Row W (w.heap.size + 1) vs3 30) (h4 : Row W (w.heap.size + 1 + 1) vs4 31) : ∀ b cur, W.heap[b]? = some (.cells cur 51 (0, 0)) → ¬ (b = w.heap.size ∨ b = w.heap.size + 1 ∨ b = w.heap.size + 1 + 1) := by
  have key : ∀ {b t : Nat} {vs : List Value} {cur : Array Value}, Row W b vs t → t ≠ 51 → W.heap[b]? = some (.cells cur 51 (0, 0)) → False := by
    intro b t vs cur hr ht hb
    unfold Row at hr
    rw [hr] at hb
    injection hb with hb
    injection hb with _ hb
    exact ht hb
  rintro b cur hb (rfl | rfl | rfl)
  · exact key h2 (by decide) hb
  · exact key h3 (by decide) hb
  · exact key h4 (by decide) hb
/-- what Open answers that opened -/
def OpR (w : World) (B g : Nat) (v0 v1 : Value) (d : Dk) (k : Kt) (e : Ending) (w' : World) : Prop :=
  ∃ j ve v u0 u1, e = .returned (.tuple #[.pointer (some ⟨j, 0, none⟩), k.val v, .int .i64 0]) ∧ JV w' B j g u0 u1 d ve k ∧ Et w' v k.ents ∧ w.heap.size ≤ j ∧ Grew w w' (FS g v0 v1) ∧ Sub w (FS g v0 v1) (FS g u0 u1)
set_option maxHeartbeats 8000000 in
set_option maxRecDepth 100000 in
theorem open_whole {w : World} {B g : Nat} {v0 v1 : Value} {d : Dk} (h : PtV w B g v0 v1 d) (hd : d.down = false) (rs : List Rc) (k : Kt) (hrd : ∀ r ∈ rs, Rd r) (hf : foldA rs zeroK = some k) (hs : Nd.Wire.scan (bytesOf (liv d.live) d) = (rs.map payS, (bytesOf (liv d.live) d).length)) (hre : (bytesOf (liv d.live) d).length ≤ 1099511627776) :
    Calls Try.prog 9 #[.pointer (some ⟨g, 0, none⟩)] w (OpR w B g v0 v1 d k) := by
  have hmf : ∀ (fn : Fn) (first cap : Array Value) (w : World), (Instr.makeFunc fn first cap).run Try.prog w = .ok (.func fn first cap) w := fun _ _ _ _ => rfl
  obtain ⟨W3, H3, R2, R3, R4, B3, S3⟩ := rows9 w (.pointer none) zcells (.int .i64 0)
  have HP3 := hid_in (h.below B3.out)
  have HD := hid_in (Pt.down_any HP3.out)
  rw [hd] at HD
  have HL := hid_in (Pt.live_any HP3.out)
  have HRD := hid_in (Pt.read_any HP3.out (liv d.live))
  have HLT := hid_in (bytes_lt h (liv d.live))
  obtain ⟨bs, HBS⟩ : ∃ bs, Hid (bytesOf (liv d.live) d = bs) := ⟨_, hid_in rfl⟩
  rw [HBS.out] at HRD HLT hs hre
  have hlenB : (bs.length : Int) ≤ 1099511627776 := by omega
  have hlen0 : (0 : Int) ≤ (bs.length : Int) := by omega
  have HSC := hid_in (fun W p cap b (hsl : Sl W p bs cap b 0) => Nd.scan_any bs p cap b 0 W hsl hre)
  rw [hs] at HSC
  simp only at HSC
  have HRC := hid_in (fun ps v W B' (hv : Nd.Held W B' v ps) (hps : ps.map (·.bs) = rs.map payS) => recall_c ps rs v W B' k hv hps hrd hf)
  have HPW := hid_in h
  obtain ⟨kv, kn, kb, ks, ke⟩ := k
  simp only [Kt.val] at HRC
  obtain ⟨a, HA⟩ : ∃ a, Hid (liv d.live = a) := ⟨_, hid_in rfl⟩
  rw [HA.out] at HL HRD
  clear h hd hs hrd hf HBS
  have a0 : W3.cell? ⟨w.heap.size, 0, none⟩ = some (.pointer none) := R2.out.cell 0
  have fa0 := R2.out.frozen 0
  have z0 : W3.cell? ⟨w.heap.size + 1, 0, none⟩ = some (.int .i64 0) := R3.out.cell 0
  have fz0 := R3.out.frozen 0
  have z1 : W3.cell? ⟨w.heap.size + 1, 1, none⟩ = some (.int .i64 0) := R3.out.cell 1
  have fz1 := R3.out.frozen 1
  have z2 : W3.cell? ⟨w.heap.size + 1, 2, none⟩ = some (.int .i64 0) := R3.out.cell 2
  have fz2 := R3.out.frozen 2
  have z3 : W3.cell? ⟨w.heap.size + 1, 3, none⟩ = some (.string ⟨#[]⟩) := R3.out.cell 3
  have fz3 := R3.out.frozen 3
  have z4 : W3.cell? ⟨w.heap.size + 1, 4, none⟩ = some (.slice none 0 0) := R3.out.cell 4
  have fz4 := R3.out.frozen 4
  have e0 : W3.cell? ⟨w.heap.size + 1 + 1, 0, none⟩ = some (.int .i64 0) := R4.out.cell 0
  have fe0 := R4.out.frozen 0
  go_enter_defers Try.func9, Try.ntmps9
  go_upto_region 2 with fail
  refine wp_world H3.out ?_
  go_upto_region 7 with (first | (go_at_call 15; refine HD.out.mono ?_; rintro e w4 ⟨rfl, rfl⟩) | (go_at_call 26; refine HL.out.mono ?_; rintro e w4 ⟨rfl, rfl⟩) | (go_at_call 24; refine HRD.out.mono ?_; rintro e w4 ⟨v, rfl, h1, h2⟩; obtain ⟨p, cp, b, rfl, hsl, hno⟩ := Nd.own_sl HLT.out h1; have HB4 := hid_in h2; have HC4 := hid_in (HSC.out w4 p cp b hsl); clear h1 h2 hsl hno a0 fa0 z0 fz0 z1 fz1 z2 fz2 z3 fz3 z4 fz4 e0 fe0))
  go_upto_region 8 with (first | (go_at_call 27; refine HC4.out.mono ?_; rintro e w5 ⟨v, ps, rfl, h1, h2, h3⟩; have HB5 := hid_in (HB4.out.trans (h3.mono HB4.out.size)); have HC5 := hid_in (HRC.out ps v w5 _ h1 h2); clear h1 h2 h3))
  go_upto_region 9 with (first | (go_at_call 28; refine HC5.out.mono ?_; rintro e w6 ⟨u, rfl, h1, h2, h3, h4⟩; obtain ⟨up, uc, rfl, _, _⟩ := h1.val.form; have HB6 := hid_in (HB5.out.trans (h4.mono HB5.out.size)); have HE6 := hid_in h1; have HOK := hid_in h2; have HMY := hid_in h3; have X2 := hid_in (R2.out.below HB6.out R2.out.lt); have X3 := hid_in (R3.out.below HB6.out R3.out.lt); have X4 := hid_in (R4.out.below HB6.out R4.out.lt); have a0 : w6.cell? ⟨w.heap.size, 0, none⟩ = some (.pointer none) := X2.out.cell 0; have fa0 := X2.out.frozen 0; have z0 : w6.cell? ⟨w.heap.size + 1, 0, none⟩ = some (.int .i64 0) := X3.out.cell 0; have fz0 := X3.out.frozen 0; have z1 : w6.cell? ⟨w.heap.size + 1, 1, none⟩ = some (.int .i64 0) := X3.out.cell 1; have fz1 := X3.out.frozen 1; have z2 : w6.cell? ⟨w.heap.size + 1, 2, none⟩ = some (.int .i64 0) := X3.out.cell 2; have fz2 := X3.out.frozen 2; have z3 : w6.cell? ⟨w.heap.size + 1, 3, none⟩ = some (.string ⟨#[]⟩) := X3.out.cell 3; have fz3 := X3.out.frozen 3; have z4 : w6.cell? ⟨w.heap.size + 1, 4, none⟩ = some (.slice none 0 0) := X3.out.cell 4; have fz4 := X3.out.frozen 4; have e0 : w6.cell? ⟨w.heap.size + 1 + 1, 0, none⟩ = some (.int .i64 0) := X4.out.cell 0; have fe0 := X4.out.frozen 0; have hal : Below w6.heap.size w6 (w6.alloc (.cells #[.pointer (some ⟨g, 0, none⟩), .int .i64 kv, .int .i64 kn, .int .i64 kb, .string ks, .slice up ke.length uc] 68)) := (Below.refl _ _).alloc (Nat.le_refl _) _; have ac0 : (w6.alloc (.cells #[.pointer (some ⟨g, 0, none⟩), .int .i64 kv, .int .i64 kn, .int .i64 kb, .string ks, .slice up ke.length uc] 68)).cell? ⟨w.heap.size, 0, none⟩ = some (.pointer none) := (X2.out.below hal X2.out.lt).cell 0; have af0 : (w6.alloc (.cells #[.pointer (some ⟨g, 0, none⟩), .int .i64 kv, .int .i64 kn, .int .i64 kb, .string ks, .slice up ke.length uc] 68)).frozen? ⟨w.heap.size, 0, none⟩ = false := (X2.out.below hal X2.out.lt).frozen 0; clear hal h1 h2 h3 h4))
  clear a0 fa0 z0 fz0 z1 fz1 z2 fz2 z3 fz3 z4 fz4 e0 fe0 ac0 af0
  have hb6 : Below w.heap.size w w6 := B3.out.trans (HB6.out.mono B3.out.size)
  have hn6 : w.heap.size + 3 ≤ w6.heap.size := by have h1 := S3.out; have h2 := HB6.out.size; omega
  obtain ⟨W7, H7, J7, B7, S7⟩ := row_new w6 [.pointer (some ⟨g, 0, none⟩), .int .i64 kv, .int .i64 kn, .int .i64 kb, .string ks, .slice up ke.length uc] 68
  have hg7 := grownBy_setCell W7 ⟨w.heap.size, 0, none⟩ (.pointer (some ⟨w6.heap.size, 0, none⟩))
  obtain ⟨W8, H8, HG8⟩ : ∃ W8, Hid (W7.setCell ⟨w.heap.size, 0, none⟩ (.pointer (some ⟨w6.heap.size, 0, none⟩)) = W8) ∧ Hid (W7.grownBy W8 (some w.heap.size)) := ⟨_, rfl, hg7⟩
  have x2 := (X2.out.below B7.out X2.out.lt).set_same 0 (.pointer (some ⟨w6.heap.size, 0, none⟩))
  rw [H8.out] at x2
  have Y2 := hid_in x2
  have Y3 := hid_in ((X3.out.below B7.out X3.out.lt).grew (Grew.of_grown HG8.out) (fun e => by simp at e))
  have Y4 := hid_in ((X4.out.below B7.out X4.out.lt).grew (Grew.of_grown HG8.out) (fun e => by simp at e; omega))
  have hb7 : Below w.heap.size w W7 := hb6.trans (B7.out.mono hb6.size)
  have hb8 : Below w.heap.size w W8 := hb7.grown HG8.out hb7.size (fun k e => by cases e; exact Nat.le_refl _)
  have h51 : ∀ b cur, W7.heap[b]? = some (.cells cur 51 (0, 0)) → ¬ (some b = some w.heap.size) := fun b cur hb e => by
    cases e
    have hr := X2.out.below B7.out X2.out.lt
    unfold Row at hr
    rw [hr] at hb
    injection hb with hb
    injection hb with _ hb
    exact absurd hb (by decide)
  have HJV : Hid (JV W8 B w6.heap.size g v0 v1 d (.slice up ke.length uc) ⟨kv, kn, kb, ks, ke⟩) := hid_in ⟨HPW.out.below hb8, J7.out.grew (Grew.of_grown HG8.out) (fun e => by simp at e; omega), (HE6.out.below B7.out).keep (Grew.of_grown HG8.out) h51, by have h1 := HPW.out.base; have h2 := HPW.out.lt; omega, HOK.out, HMY.out⟩
  have HB8 := hid_in hb8
  have HN6 := hid_in hn6
  clear hb6 hn6 hg7 x2 hb7 hb8 h51
  refine wp_world (congrArg (fun x => World.setCell x _ _) H7.out) ?_
  refine wp_world H8.out ?_
  go_upto_region 13 with fail
  have a0 : W8.cell? ⟨w.heap.size, 0, none⟩ = some (.pointer (some ⟨w6.heap.size, 0, none⟩)) := Y2.out.cell 0; have fa0 := Y2.out.frozen 0; have z0 : W8.cell? ⟨w.heap.size + 1, 0, none⟩ = some (.int .i64 0) := Y3.out.cell 0; have fz0 := Y3.out.frozen 0; have z1 : W8.cell? ⟨w.heap.size + 1, 1, none⟩ = some (.int .i64 0) := Y3.out.cell 1; have fz1 := Y3.out.frozen 1; have z2 : W8.cell? ⟨w.heap.size + 1, 2, none⟩ = some (.int .i64 0) := Y3.out.cell 2; have fz2 := Y3.out.frozen 2; have z3 : W8.cell? ⟨w.heap.size + 1, 3, none⟩ = some (.string ⟨#[]⟩) := Y3.out.cell 3; have fz3 := Y3.out.frozen 3; have z4 : W8.cell? ⟨w.heap.size + 1, 4, none⟩ = some (.slice none 0 0) := Y3.out.cell 4; have fz4 := Y3.out.frozen 4; have e0 : W8.cell? ⟨w.heap.size + 1 + 1, 0, none⟩ = some (.int .i64 0) := Y4.out.cell 0; have fe0 := Y4.out.frozen 0
  have hbd : Below W8.heap.size W8 W8.drew := (Below.refl _ _).drew
  have HBD := hid_in hbd
  have HKC := hid_in (kept_c (HJV.out.below hbd))
  simp only [Kt.val] at HKC
  clear hbd
  go_region_with (first | (go_at_call 12; refine HKC.out.mono ?_; rintro e w9 ⟨v, rfl, h1, h2⟩; obtain ⟨p9, c9, rfl⟩ := EO.form h1; have HB9 := hid_in (HBD.out.trans (h2.mono HBD.out.size)); have HE9 := hid_in (EO.et h1); have V2 := hid_in (Y2.out.below HB9.out Y2.out.lt); have V3 := hid_in (Y3.out.below HB9.out Y3.out.lt); have V4 := hid_in (Y4.out.below HB9.out Y4.out.lt); clear h1 h2 a0 fa0 z0 fz0 z1 fz1 z2 fz2 z3 fz3 z4 fz4 e0 fe0; have a0 : w9.cell? ⟨w.heap.size, 0, none⟩ = some (.pointer (some ⟨w6.heap.size, 0, none⟩)) := V2.out.cell 0; have fa0 := V2.out.frozen 0; have z0 : w9.cell? ⟨w.heap.size + 1, 0, none⟩ = some (.int .i64 0) := V3.out.cell 0; have fz0 := V3.out.frozen 0; have z1 : w9.cell? ⟨w.heap.size + 1, 1, none⟩ = some (.int .i64 0) := V3.out.cell 1; have fz1 := V3.out.frozen 1; have z2 : w9.cell? ⟨w.heap.size + 1, 2, none⟩ = some (.int .i64 0) := V3.out.cell 2; have fz2 := V3.out.frozen 2; have z3 : w9.cell? ⟨w.heap.size + 1, 3, none⟩ = some (.string ⟨#[]⟩) := V3.out.cell 3; have fz3 := V3.out.frozen 3; have z4 : w9.cell? ⟨w.heap.size + 1, 4, none⟩ = some (.slice none 0 0) := V3.out.cell 4; have fz4 := V3.out.frozen 4; have e0 : w9.cell? ⟨w.heap.size + 1 + 1, 0, none⟩ = some (.int .i64 0) := V4.out.cell 0; have fe0 := V4.out.frozen 0))
  all_goals go_wp2_with fail
  all_goals
    obtain ⟨W', H', X2', X3', X4', XG⟩ := set9 V2.out V3.out V4.out (.pointer (some ⟨w6.heap.size, 0, none⟩)) (.int .i64 kv) (.int .i64 kn) (.int .i64 kb) (.string ks) (.slice p9 ke.length c9) (.int .i64 0)
    have hb9 : Below w.heap.size w w9 := HB8.out.trans (HB9.out.mono HB8.out.size)
    have hbf : Below w.heap.size w W' := XG.out.below hb9 hb9.size (fun k hk => by rcases hk with rfl | rfl | rfl <;> omega)
    have hn6 := HN6.out
    have hfs := HPW.out.fs_lt
    have h51 := no51_rows V2.out V3.out V4.out
    refine open_door rfl rfl rfl rfl H'.out X2'.out X3'.out X4'.out ⟨w6.heap.size, .slice up ke.length uc, .slice p9 ke.length c9, v0, v1, rfl, (HJV.out.below HB9.out).keep XG.out (fun b hb e => ?_) h51, HE9.out.keep XG.out h51, by omega, Grew.of_below _ hbf, fun _ h => .inl h⟩
    rcases hb with hb | hb
    · rcases e with e | e | e <;> omega
    · have h3 := (hfs _ hb).2
      rcases e with e | e | e <;> omega
end Go.Proofs.Ytjjofjnhhajjjaa.Jr
namespace Go.Proofs.Ytjjofjnhhajjjaa.Jr
open Go.RowKit
open Nd (Row wp_world post_Row grownBy_setCell grownBy_trans below_of_grown u8v Grew Sl hid_in i64r bytesS str)
open Pt (Ar Dk PtV FS Sub Stp liv arOf setAr isA refE spendE spendD appE appD begE begD synD wipD fliD oth bytesOf)
structure JD (d : Dk) (rs : List Rc) (k : Kt) : Prop where
  down : d.down = false
  left : d.left = 0
  bytes : (arOf (liv d.live) d).bs = Nd.Wire.frames (rs.map payS)
  rd : ∀ r ∈ rs, Rd r
  fold : foldA rs zeroK = some k
theorem isA_liv (b : Bool) : isA (liv b) = true := by cases b <;> rfl
theorem beg0 {d : Dk} {k a : Int} (h1 : d.down = false) (h2 : d.left = 0) (ha : isA a = true) (hk2 : k = 2 → a ≠ liv d.live) (hk3 : k = 3 → (arOf a d).bs.length ≤ (arOf a d).sy) : begE k a d = 0 ∧ begD k a d = d := by
  have hr : refE k a d = 0 := by
    unfold refE
    rw [if_neg (by rw [ha]; decide), if_neg (by rw [h1]; decide), if_neg (fun h => hk2 h.1 h.2), if_neg (fun h => by have := hk3 h.1; omega)]
  unfold begE begD
  rw [if_pos hr, if_pos hr]
  unfold spendE spendD
  rw [if_neg (by omega), if_neg (by omega)]
  refine ⟨rfl, ?_⟩
  obtain ⟨a0, a1, l, dn, lf⟩ := d
  simp only at h2
  subst h2
  rfl
theorem app0 {d : Dk} {a : Int} (xs : List Nat) (h1 : d.down = false) (h2 : d.left = 0) (ha : isA a = true) : appE a d = 0 ∧ appD a xs d = setAr a ⟨(arOf a d).bs ++ xs, (arOf a d).sy⟩ d := by
  have hr : refE 0 a d = 0 := by
    unfold refE
    rw [if_neg (by rw [ha]; decide), if_neg (by rw [h1]; decide), if_neg (fun h => absurd h.1 (by decide)), if_neg (fun h => absurd h.1 (by decide))]
  unfold appE appD
  rw [if_pos hr, if_pos hr]
  unfold spendE spendD
  have hl : (setAr a ⟨(arOf a d).bs ++ xs, (arOf a d).sy⟩ d).left = 0 := by unfold setAr; split <;> exact h2
  rw [if_neg (by omega), if_neg (by omega)]
  refine ⟨rfl, ?_⟩
  generalize setAr a ⟨(arOf a d).bs ++ xs, (arOf a d).sy⟩ d = e at *
  obtain ⟨a0, a1, l, dn, lf⟩ := e
  simp only at hl
  subst hl
  rfl
theorem ar_set {a : Int} {x : Ar} {d : Dk} (_ha : isA a = true) : arOf a (setAr a x d) = x := by
  unfold arOf setAr
  split <;> rfl
theorem set_live {a : Int} {x : Ar} {d : Dk} : (setAr a x d).live = d.live ∧ (setAr a x d).down = d.down ∧ (setAr a x d).left = d.left := by
  unfold setAr
  split <;> exact ⟨rfl, rfl, rfl⟩
/-- a record behind the others -/
theorem JD.behind {d : Dk} {rs : List Rc} {k n : Kt} {r : Rc} (h : JD d rs k) (hr : Rd r) (hf : foldS r k = some n) : behE (Nd.Wire.frame (payS r)) d = 0 ∧ JD (behD (Nd.Wire.frame (payS r)) d) (rs ++ [r]) n := by
  obtain ⟨h1, h2⟩ := app0 (d := d) (a := liv d.live) (Nd.Wire.frame (payS r)) h.down h.left (isA_liv _)
  have hs := set_live (a := liv d.live) (x := (⟨(arOf (liv d.live) d).bs ++ Nd.Wire.frame (payS r), (arOf (liv d.live) d).sy⟩ : Ar)) (d := d)
  have hb := beg0 (k := 1) (a := liv d.live) (d := setAr (liv d.live) ⟨(arOf (liv d.live) d).bs ++ Nd.Wire.frame (payS r), (arOf (liv d.live) d).sy⟩ d) (by rw [hs.2.1]; exact h.down) (by rw [hs.2.2]; exact h.left) (isA_liv _) (fun e => absurd e (by decide)) (fun e => absurd e (by decide))
  unfold behE behD synD
  rw [if_pos h1, if_pos h1, h2, if_pos hb.1, hb.1, hb.2]
  refine ⟨rfl, ?_⟩
  rw [ar_set (isA_liv _)]
  simp only
  have hs2 := set_live (a := liv d.live) (x := (⟨(arOf (liv d.live) d).bs ++ Nd.Wire.frame (payS r), ((arOf (liv d.live) d).bs ++ Nd.Wire.frame (payS r)).length⟩ : Ar)) (d := setAr (liv d.live) ⟨(arOf (liv d.live) d).bs ++ Nd.Wire.frame (payS r), (arOf (liv d.live) d).sy⟩ d)
  refine ⟨by rw [hs2.2.1, hs.2.1]; exact h.down, by rw [hs2.2.2, hs.2.2]; exact h.left, ?_, ?_, ?_⟩
  · rw [hs2.1, hs.1, ar_set (isA_liv _)]
    simp only
    rw [h.bytes, List.map_append, Nd.Wire.frames, Nd.Wire.frames, List.flatMap_append]
    simp
  · intro x hx
    rcases List.mem_append.1 hx with hx | hx
    · exact h.rd x hx
    · rw [List.mem_singleton.1 hx]; exact hr
  · rw [foldA_app rs r zeroK k h.fold]
    exact hf
theorem anew_f (xs : List Nat) (a0 a1 : Ar) : anewR xs ⟨a0, a1, false, false, 0⟩ = (0, ⟨⟨[], 0⟩, ⟨xs, xs.length⟩, true, false, 0⟩) := by
  simp [anewR, chg, begE, begD, refE, appE, appD, wipD, synD, fliD, setAr, arOf, oth, liv, isA, spendE, spendD]
theorem anew_t (xs : List Nat) (a0 a1 : Ar) : anewR xs ⟨a0, a1, true, false, 0⟩ = (0, ⟨⟨xs, xs.length⟩, ⟨[], 0⟩, false, false, 0⟩) := by
  simp [anewR, chg, begE, begD, refE, appE, appD, wipD, synD, fliD, setAr, arOf, oth, liv, isA, spendE, spendD]
theorem foldS_L {k k' : Kt} (h : may k' = true) : foldS (recL k') k = some k' := by
  unfold foldS
  have e : nextS (recL k') k = some k' := rfl
  rw [e]
  simp only
  rw [if_pos h]
/-- all anew -/
theorem JD.anew {d : Dk} {rs : List Rc} {k k' : Kt} (h : JD d rs k) (hok : k'.ok) (hm : may k' = true) : (anewR (Nd.Wire.frame (payS (recL k'))) d).1 = 0 ∧ JD (anewR (Nd.Wire.frame (payS (recL k'))) d).2 [recL k'] k' := by
  have hf : foldA [recL k'] zeroK = some k' := by
    rw [foldA_cons, foldS_L hm]
    rfl
  have hrd : ∀ r ∈ [recL k'], Rd r := fun r hr => by rw [List.mem_singleton.1 hr]; exact Rd.l k' hok hm
  have h1 := h.down
  have h2 := h.left
  obtain ⟨a0, a1, b, dn, lf⟩ := d
  simp only at h1 h2
  subst h1 h2
  cases b
  · rw [anew_f]
    exact ⟨rfl, rfl, rfl, by simp [arOf, liv, Nd.Wire.frames], hrd, hf⟩
  · rw [anew_t]
    exact ⟨rfl, rfl, rfl, by simp [arOf, liv, Nd.Wire.frames], hrd, hf⟩
/-- how much there is at most -/
def Lim (d : Dk) (m : Nat) : Prop := d.a0.bs.length ≤ m ∧ d.a1.bs.length ≤ m
theorem Lim.room {d : Dk} {m : Nat} (h : Lim d m) (hm : m + 262152 ≤ 140737488355328) : Room d := ⟨by have := h.1; omega, by have := h.2; omega⟩
theorem Lim.mono {d : Dk} {m n : Nat} (h : Lim d m) (hm : m ≤ n) : Lim d n := ⟨Nat.le_trans h.1 hm, Nat.le_trans h.2 hm⟩
theorem Lim.set {d : Dk} {m : Nat} {a : Int} {x : Ar} (h : Lim d m) (hx : x.bs.length ≤ m) : Lim (setAr a x d) m := by
  unfold setAr
  split
  · exact ⟨hx, h.2⟩
  · exact ⟨h.1, hx⟩
theorem Lim.ar {d : Dk} {m : Nat} (h : Lim d m) (a : Int) : (arOf a d).bs.length ≤ m := by
  unfold arOf
  split
  · exact h.1
  · exact h.2
theorem Lim.spend {d : Dk} {m : Nat} (h : Lim d m) : Lim (spendD d) m := ⟨by rw [spendD_a0]; exact h.1, by rw [spendD_a1]; exact h.2⟩
theorem Lim.beg {d : Dk} {m : Nat} (h : Lim d m) (k a : Int) : Lim (begD k a d) m := ⟨by rw [begD_a0]; exact h.1, by rw [begD_a1]; exact h.2⟩
theorem Lim.app {d : Dk} {m : Nat} (h : Lim d m) (a : Int) (xs : List Nat) : Lim (appD a xs d) (m + xs.length) := by
  unfold appD
  split
  · refine Lim.spend (Lim.set (h.mono (by omega)) ?_)
    simp only [List.length_append]
    have := h.ar a
    omega
  · exact h.mono (by omega)
theorem Lim.syn {d : Dk} {m : Nat} (h : Lim d m) (a : Int) : Lim (synD a d) m := by
  unfold synD
  split
  · exact Lim.set (h.beg _ _) (h.ar a)
  · exact h.beg _ _
theorem Lim.wip {d : Dk} {m : Nat} (h : Lim d m) (a : Int) : Lim (wipD a d) m := by
  unfold wipD
  split
  · exact Lim.set (h.beg _ _) (Nat.zero_le _)
  · exact h.beg _ _
theorem Lim.fli {d : Dk} {m : Nat} (h : Lim d m) : Lim (fliD d) m := by
  unfold fliD
  split
  · exact h.beg _ _
  · exact h.beg _ _
theorem Lim.beh {d : Dk} {m : Nat} (h : Lim d m) (xs : List Nat) : Lim (behD xs d) (m + xs.length) := by
  unfold behD
  split
  · exact (h.app _ xs).syn _
  · exact h.app _ xs
theorem Lim.chg {d : Dk} {m : Nat} {e : Int} {k : Int × Dk} (h : Lim d m) (hk : Lim k.2 m) : Lim (chg e d k).2 m := by
  unfold Jr.chg
  split
  · exact hk
  · exact h
theorem Lim.anew {d : Dk} {m : Nat} (h : Lim d m) (xs : List Nat) : Lim (anewR xs d).2 (m + xs.length) := by
  have h1 := h.wip (oth d)
  have h2 := h1.app (oth d) xs
  have h3 := h2.syn (oth d)
  have h4 := h3.fli
  have h5 := h4.wip (liv d.live)
  exact (h1.mono (by omega)).chg (h2.chg (h3.chg (h4.chg h5)))
theorem Lim.wr {d : Dk} {m : Nat} {r : Rc} {k : Kt} (h : Lim d m) (hp : ∀ n, foldS r k = some n → PayOk r) : Lim (wrD r d k) (m + 262152) := by
  unfold wrD
  cases hf : foldS r k with
  | none => exact h.mono (by omega)
  | some n => exact (h.beh _).mono (by have := frame_le (hp n hf); omega)
theorem Lim.ly {d : Dk} {m : Nat} {k k' : Kt} (h : Lim d m) (hok : k'.ok) : Lim (lyD k' d k) (m + 262152) := by
  unfold lyD
  cases hf : foldS (recL k') k with
  | none => exact h.mono (by omega)
  | some n => exact (h.anew _).mono (by have := frame_le (recL_pay hok (fold_recL hf).2); omega)
/-- Open of such a platter -/
theorem open_jd {w : World} {B g : Nat} {v0 v1 : Value} {d : Dk} {rs : List Rc} {k : Kt} (h : PtV w B g v0 v1 d) (hd : JD d rs k) (hre : Lim d 1000000000000) : Calls Try.prog 9 #[.pointer (some ⟨g, 0, none⟩)] w (OpR w B g v0 v1 d k) := by
  have hb : bytesOf (liv d.live) d = Nd.Wire.frames (rs.map payS) := by
    unfold bytesOf
    rw [if_pos (isA_liv _)]
    exact hd.bytes
  have hlt := bytes_lt h (liv d.live)
  rw [hb] at hlt
  have hps : ∀ p ∈ rs.map payS, p.length ≤ 262144 ∧ ∀ x ∈ p, x < 256 := by
    intro p hp
    obtain ⟨r, hr, rfl⟩ := List.mem_map.1 hp
    refine ⟨payS_len r (hd.rd r hr).pay, fun x hx => hlt x ?_⟩
    refine List.mem_flatMap.2 ⟨payS r, hp, ?_⟩
    unfold Nd.Wire.frame
    exact List.mem_append_left _ (List.mem_append_right _ hx)
  have hs := Nd.Wire.scan_cut (rs.map payS) (Nd.Wire.frames (rs.map payS)).length (rs.map payS).length hps (Nat.le_refl _) (by unfold Nd.Wire.upto; rw [List.take_length]; exact Nat.le_refl _) (fun h => absurd h (Nat.lt_irrefl _))
  rw [List.take_length, List.take_length] at hs
  have hu : Nd.Wire.upto (rs.map payS) (rs.map payS).length = (Nd.Wire.frames (rs.map payS)).length := by unfold Nd.Wire.upto; rw [List.take_length]
  rw [hu] at hs
  refine open_whole h hd.down rs k hd.rd hd.fold (by rw [hb]; exact hs) ?_
  unfold bytesOf
  rw [if_pos (isA_liv _)]
  exact Nat.le_trans (hre.ar _) (by decide)
theorem JD.new : JD Pt.newD [] zeroK := ⟨rfl, rfl, rfl, fun _ h => (by cases h), rfl⟩
theorem Lim.new : Lim Pt.newD 0 := ⟨Nat.le_refl _, Nat.le_refl _⟩
end Go.Proofs.Ytjjofjnhhajjjaa.Jr
