/-
  Open, where all of the live area is frames of records.
-/
import Derived.OwnWalk
import Derived.Deep.RegionLaw
import Derived.Deep.DrawnRows
import Derived.Laws.StructEq
import Derived.Laws.Tables
import Derived.Laws.CopyOwn
import Derived.Deep.CutRange
import Derived.Lib.SlBytesConst
import Derived.Test.YtjjofjnhhajjjaaB00
import Derived.Test.YtjjofjnhhajjjaaB01
import Derived.Test.YtjjofjnhhajjjaaB02
import Derived.Test.YtjjofjnhhajjjaaB03
import Derived.Test.YtjjofjnhhajjjaaB04
import Derived.Test.YtjjofjnhhajjjaaB05
import Derived.Test.YtjjofjnhhajjjaaB06
import Derived.Test.YtjjofjnhhajjjaaB07
import Derived.Test.YtjjofjnhhajjjaaB08
import Derived.Test.YtjjofjnhhajjjaaB09
import Derived.Test.YtjjofjnhhajjjaaB10
import Derived.Test.YtjjofjnhhajjjaaB11
import Derived.Test.YtjjofjnhhajjjaaB12
import Derived.Test.YtjjofjnhhajjjaaB13
import Derived.Test.YtjjofjnhhajjjaaB14
import Derived.Test.YtjjofjnhhajjjaaB15
import Derived.Test.YtjjofjnhhajjjaaB16
import Derived.Test.YtjjofjnhhajjjaaB17
import Derived.Test.YtjjofjnhhajjjaaB18
import Derived.Test.YtjjofjnhhajjjaaB19
import Derived.Test.YtjjofjnhhajjjaaB20
import Derived.Test.YtjjofjnhhajjjaaB21
import Derived.Test.YtjjofjnhhajjjaaB22
import Derived.Test.YtjjofjnhhajjjaaB23
import Derived.Test.YtjjofjnhhajjjaaB24
import Derived.Test.YtjjofjnhhajjjaaB25
import Derived.Test.YtjjofjnhhajjjaaB26
import Derived.Test.YtjjofjnhhajjjaaB27
import Derived.Test.YtjjofjnhhajjjaaB28
import Derived.Test.YtjjofjnhhajjjaaB29
import Derived.Test.YtjjofjnhhajjjaaB30
import Derived.Test.YtjjofjnhhajjjaaB31
import Derived.Test.YtjjofjnhhajjjaaB32
import Derived.Test.YtjjofjnhhajjjaaB33
import Derived.Test.YtjjofjnhhajjjaaB34
import Derived.Test.YtjjofjnhhajjjaaB35
import Derived.Test.YtjjofjnhhajjjaaB36
namespace Go.Proofs.Ytjjofjnhhajjjaa.Jr
open Go.RowKit
open Nd (Row wp_world post_Row grownBy_setCell grownBy_trans below_of_grown u8v Grew Sl hid_in i64r bytesS str)
open Pt (Dk PtV FS Sub Stp liv arOf bytesOf)
theorem bytes_lt {w : World} {B g : Nat} {v0 v1 : Value} {d : Dk} (h : PtV w B g v0 v1 d) (a : Int) : ∀ x ∈ bytesOf a d, x < 256 := by
  unfold bytesOf
  split
  · unfold arOf
    split
    · exact h.ok.o0.2.1
    · exact h.ok.o1.2.1
  · intro x hx; cases hx
theorem no51_rows {w W : World} {vs2 vs3 vs4 : List Value} (h2 : Row W w.heap.size vs2 27) (h3 : Row W (w.heap.size + 1) vs3 30) (h4 : Row W (w.heap.size + 1 + 1) vs4 31) : ∀ b cur, W.heap[b]? = some (.cells cur 51 (0, 0)) → ¬ (b = w.heap.size ∨ b = w.heap.size + 1 ∨ b = w.heap.size + 1 + 1) := by
  have key : ∀ {b t : Nat} {vs : List Value} {cur : Array Value}, Row W b vs t → t ≠ 51 → W.heap[b]? = some (.cells cur 51 (0, 0)) → False := by
    intro b t vs cur hr ht hb
    unfold Row at hr
    rw [hr] at hb
    injection hb with hb
    injection hb with _ hb
    exact ht hb
  rintro b cur hb (rfl | rfl | rfl)
  · exact key h2 (by decide) hb
  · exact key h3 (by decide) hb
  · exact key h4 (by decide) hb
/-- what Open answers that opened -/
def OpR (w : World) (B g : Nat) (v0 v1 : Value) (d : Dk) (k : Kt) (e : Ending) (w' : World) : Prop :=
  ∃ j ve v u0 u1, e = .returned (.tuple #[.pointer (some ⟨j, 0, none⟩), k.val v, .int .i64 0]) ∧ JV w' B j g u0 u1 d ve k ∧ Et w' v k.ents ∧ w.heap.size ≤ j ∧ Grew w w' (FS g v0 v1) ∧ Sub w (FS g v0 v1) (FS g u0 u1)
set_option maxHeartbeats 8000000 in
set_option maxRecDepth 100000 in
theorem open_whole {w : World} {B g : Nat} {v0 v1 : Value} {d : Dk} (h : PtV w B g v0 v1 d) (hd : d.down = false) (rs : List Rc) (k : Kt) (hrd : ∀ r ∈ rs, Rd r) (hf : foldA rs zeroK = some k) (hs : Nd.Wire.scan (bytesOf (liv d.live) d) = (rs.map payS, (bytesOf (liv d.live) d).length)) (hre : (bytesOf (liv d.live) d).length ≤ 1099511627776) :
    Calls Try.prog 9 #[.pointer (some ⟨g, 0, none⟩)] w (OpR w B g v0 v1 d k) := by
  have hmf : ∀ (fn : Fn) (first cap : Array Value) (w : World), (Instr.makeFunc fn first cap).run Try.prog w = .ok (.func fn first cap) w := fun _ _ _ _ => rfl
  obtain ⟨W3, H3, R2, R3, R4, B3, S3⟩ := rows9 w (.pointer none) zcells (.int .i64 0)
  have HP3 := hid_in (h.below B3.out)
  have HD := hid_in (Pt.down_any HP3.out)
  rw [hd] at HD
  have HL := hid_in (Pt.live_any HP3.out)
  have HRD := hid_in (Pt.read_any HP3.out (liv d.live))
  have HLT := hid_in (bytes_lt h (liv d.live))
  obtain ⟨bs, HBS⟩ : ∃ bs, Hid (bytesOf (liv d.live) d = bs) := ⟨_, hid_in rfl⟩
  rw [HBS.out] at HRD HLT hs hre
  have hlenB : (bs.length : Int) ≤ 1099511627776 := by omega
  have hlen0 : (0 : Int) ≤ (bs.length : Int) := by omega
  have HSC := hid_in (fun W p cap b (hsl : Sl W p bs cap b 0) => Nd.scan_any bs p cap b 0 W hsl hre)
  rw [hs] at HSC
  simp only at HSC
  have HRC := hid_in (fun ps v W B' (hv : Nd.Held W B' v ps) (hps : ps.map (·.bs) = rs.map payS) => recall_c ps rs v W B' k hv hps hrd hf)
  have HPW := hid_in h
  obtain ⟨kv, kn, kb, ks, ke⟩ := k
  simp only [Kt.val] at HRC
  obtain ⟨a, HA⟩ : ∃ a, Hid (liv d.live = a) := ⟨_, hid_in rfl⟩
  rw [HA.out] at HL HRD
  clear h hd hs hrd hf HBS
  have a0 : W3.cell? ⟨w.heap.size, 0, none⟩ = some (.pointer none) := R2.out.cell 0
  have fa0 := R2.out.frozen 0
  have z0 : W3.cell? ⟨w.heap.size + 1, 0, none⟩ = some (.int .i64 0) := R3.out.cell 0
  have fz0 := R3.out.frozen 0
  have z1 : W3.cell? ⟨w.heap.size + 1, 1, none⟩ = some (.int .i64 0) := R3.out.cell 1
  have fz1 := R3.out.frozen 1
  have z2 : W3.cell? ⟨w.heap.size + 1, 2, none⟩ = some (.int .i64 0) := R3.out.cell 2
  have fz2 := R3.out.frozen 2
  have z3 : W3.cell? ⟨w.heap.size + 1, 3, none⟩ = some (.string ⟨#[]⟩) := R3.out.cell 3
  have fz3 := R3.out.frozen 3
  have z4 : W3.cell? ⟨w.heap.size + 1, 4, none⟩ = some (.slice none 0 0) := R3.out.cell 4
  have fz4 := R3.out.frozen 4
  have e0 : W3.cell? ⟨w.heap.size + 1 + 1, 0, none⟩ = some (.int .i64 0) := R4.out.cell 0
  have fe0 := R4.out.frozen 0
  go_enter_defers Try.func9, Try.ntmps9
  go_upto_region 2 with fail
  refine wp_world H3.out ?_
  go_upto_region 7 with (first | (go_at_call 15; refine HD.out.mono ?_; rintro e w4 ⟨rfl, rfl⟩) | (go_at_call 26; refine HL.out.mono ?_; rintro e w4 ⟨rfl, rfl⟩) | (go_at_call 24; refine HRD.out.mono ?_; rintro e w4 ⟨v, rfl, h1, h2⟩; obtain ⟨p, cp, b, rfl, hsl, hno⟩ := Nd.own_sl HLT.out h1; have HB4 := hid_in h2; have HC4 := hid_in (HSC.out w4 p cp b hsl); clear h1 h2 hsl hno a0 fa0 z0 fz0 z1 fz1 z2 fz2 z3 fz3 z4 fz4 e0 fe0))
  go_upto_region 8 with (first | (go_at_call 27; refine HC4.out.mono ?_; rintro e w5 ⟨v, ps, rfl, h1, h2, h3⟩; have HB5 := hid_in (HB4.out.trans (h3.mono HB4.out.size)); have HC5 := hid_in (HRC.out ps v w5 _ h1 h2); clear h1 h2 h3))
  go_upto_region 9 with (first | (go_at_call 28; refine HC5.out.mono ?_; rintro e w6 ⟨u, rfl, h1, h2, h3, h4⟩; obtain ⟨up, uc, rfl, _, _⟩ := h1.val.form; have HB6 := hid_in (HB5.out.trans (h4.mono HB5.out.size)); have HE6 := hid_in h1; have HOK := hid_in h2; have HMY := hid_in h3; have X2 := hid_in (R2.out.below HB6.out R2.out.lt); have X3 := hid_in (R3.out.below HB6.out R3.out.lt); have X4 := hid_in (R4.out.below HB6.out R4.out.lt); have a0 : w6.cell? ⟨w.heap.size, 0, none⟩ = some (.pointer none) := X2.out.cell 0; have fa0 := X2.out.frozen 0; have z0 : w6.cell? ⟨w.heap.size + 1, 0, none⟩ = some (.int .i64 0) := X3.out.cell 0; have fz0 := X3.out.frozen 0; have z1 : w6.cell? ⟨w.heap.size + 1, 1, none⟩ = some (.int .i64 0) := X3.out.cell 1; have fz1 := X3.out.frozen 1; have z2 : w6.cell? ⟨w.heap.size + 1, 2, none⟩ = some (.int .i64 0) := X3.out.cell 2; have fz2 := X3.out.frozen 2; have z3 : w6.cell? ⟨w.heap.size + 1, 3, none⟩ = some (.string ⟨#[]⟩) := X3.out.cell 3; have fz3 := X3.out.frozen 3; have z4 : w6.cell? ⟨w.heap.size + 1, 4, none⟩ = some (.slice none 0 0) := X3.out.cell 4; have fz4 := X3.out.frozen 4; have e0 : w6.cell? ⟨w.heap.size + 1 + 1, 0, none⟩ = some (.int .i64 0) := X4.out.cell 0; have fe0 := X4.out.frozen 0; have hal : Below w6.heap.size w6 (w6.alloc (.cells #[.pointer (some ⟨g, 0, none⟩), .int .i64 kv, .int .i64 kn, .int .i64 kb, .string ks, .slice up ke.length uc] 68)) := (Below.refl _ _).alloc (Nat.le_refl _) _; have ac0 : (w6.alloc (.cells #[.pointer (some ⟨g, 0, none⟩), .int .i64 kv, .int .i64 kn, .int .i64 kb, .string ks, .slice up ke.length uc] 68)).cell? ⟨w.heap.size, 0, none⟩ = some (.pointer none) := (X2.out.below hal X2.out.lt).cell 0; have af0 : (w6.alloc (.cells #[.pointer (some ⟨g, 0, none⟩), .int .i64 kv, .int .i64 kn, .int .i64 kb, .string ks, .slice up ke.length uc] 68)).frozen? ⟨w.heap.size, 0, none⟩ = false := (X2.out.below hal X2.out.lt).frozen 0; clear hal h1 h2 h3 h4))
  clear a0 fa0 z0 fz0 z1 fz1 z2 fz2 z3 fz3 z4 fz4 e0 fe0 ac0 af0
  have hb6 : Below w.heap.size w w6 := B3.out.trans (HB6.out.mono B3.out.size)
  have hn6 : w.heap.size + 3 ≤ w6.heap.size := by have h1 := S3.out; have h2 := HB6.out.size; omega
  obtain ⟨W7, H7, J7, B7, S7⟩ := row_new w6 [.pointer (some ⟨g, 0, none⟩), .int .i64 kv, .int .i64 kn, .int .i64 kb, .string ks, .slice up ke.length uc] 68
  have hg7 := grownBy_setCell W7 ⟨w.heap.size, 0, none⟩ (.pointer (some ⟨w6.heap.size, 0, none⟩))
  obtain ⟨W8, H8, HG8⟩ : ∃ W8, Hid (W7.setCell ⟨w.heap.size, 0, none⟩ (.pointer (some ⟨w6.heap.size, 0, none⟩)) = W8) ∧ Hid (W7.grownBy W8 (some w.heap.size)) := ⟨_, rfl, hg7⟩
  have x2 := (X2.out.below B7.out X2.out.lt).set_same 0 (.pointer (some ⟨w6.heap.size, 0, none⟩))
  rw [H8.out] at x2
  have Y2 := hid_in x2
  have Y3 := hid_in ((X3.out.below B7.out X3.out.lt).grew (Grew.of_grown HG8.out) (fun e => by simp at e))
  have Y4 := hid_in ((X4.out.below B7.out X4.out.lt).grew (Grew.of_grown HG8.out) (fun e => by simp at e; omega))
  have hb7 : Below w.heap.size w W7 := hb6.trans (B7.out.mono hb6.size)
  have hb8 : Below w.heap.size w W8 := hb7.grown HG8.out hb7.size (fun k e => by cases e; exact Nat.le_refl _)
  have h51 : ∀ b cur, W7.heap[b]? = some (.cells cur 51 (0, 0)) → ¬ (some b = some w.heap.size) := fun b cur hb e => by
    cases e
    have hr := X2.out.below B7.out X2.out.lt
    unfold Row at hr
    rw [hr] at hb
    injection hb with hb
    injection hb with _ hb
    exact absurd hb (by decide)
  have HJV : Hid (JV W8 B w6.heap.size g v0 v1 d (.slice up ke.length uc) ⟨kv, kn, kb, ks, ke⟩) := hid_in ⟨HPW.out.below hb8, J7.out.grew (Grew.of_grown HG8.out) (fun e => by simp at e; omega), (HE6.out.below B7.out).keep (Grew.of_grown HG8.out) h51, by have h1 := HPW.out.base; have h2 := HPW.out.lt; omega, HOK.out, HMY.out⟩
  have HB8 := hid_in hb8
  have HN6 := hid_in hn6
  clear hb6 hn6 hg7 x2 hb7 hb8 h51
  refine wp_world (congrArg (fun x => World.setCell x _ _) H7.out) ?_
  refine wp_world H8.out ?_
  go_upto_region 13 with fail
  have a0 : W8.cell? ⟨w.heap.size, 0, none⟩ = some (.pointer (some ⟨w6.heap.size, 0, none⟩)) := Y2.out.cell 0; have fa0 := Y2.out.frozen 0; have z0 : W8.cell? ⟨w.heap.size + 1, 0, none⟩ = some (.int .i64 0) := Y3.out.cell 0; have fz0 := Y3.out.frozen 0; have z1 : W8.cell? ⟨w.heap.size + 1, 1, none⟩ = some (.int .i64 0) := Y3.out.cell 1; have fz1 := Y3.out.frozen 1; have z2 : W8.cell? ⟨w.heap.size + 1, 2, none⟩ = some (.int .i64 0) := Y3.out.cell 2; have fz2 := Y3.out.frozen 2; have z3 : W8.cell? ⟨w.heap.size + 1, 3, none⟩ = some (.string ⟨#[]⟩) := Y3.out.cell 3; have fz3 := Y3.out.frozen 3; have z4 : W8.cell? ⟨w.heap.size + 1, 4, none⟩ = some (.slice none 0 0) := Y3.out.cell 4; have fz4 := Y3.out.frozen 4; have e0 : W8.cell? ⟨w.heap.size + 1 + 1, 0, none⟩ = some (.int .i64 0) := Y4.out.cell 0; have fe0 := Y4.out.frozen 0
  have hbd : Below W8.heap.size W8 W8.drew := (Below.refl _ _).drew
  have HBD := hid_in hbd
  have HKC := hid_in (kept_c (HJV.out.below hbd))
  simp only [Kt.val] at HKC
  clear hbd
  go_region_with (first | (go_at_call 12; refine HKC.out.mono ?_; rintro e w9 ⟨v, rfl, h1, h2⟩; obtain ⟨p9, c9, rfl⟩ := EO.form h1; have HB9 := hid_in (HBD.out.trans (h2.mono HBD.out.size)); have HE9 := hid_in (EO.et h1); have V2 := hid_in (Y2.out.below HB9.out Y2.out.lt); have V3 := hid_in (Y3.out.below HB9.out Y3.out.lt); have V4 := hid_in (Y4.out.below HB9.out Y4.out.lt); clear h1 h2 a0 fa0 z0 fz0 z1 fz1 z2 fz2 z3 fz3 z4 fz4 e0 fe0; have a0 : w9.cell? ⟨w.heap.size, 0, none⟩ = some (.pointer (some ⟨w6.heap.size, 0, none⟩)) := V2.out.cell 0; have fa0 := V2.out.frozen 0; have z0 : w9.cell? ⟨w.heap.size + 1, 0, none⟩ = some (.int .i64 0) := V3.out.cell 0; have fz0 := V3.out.frozen 0; have z1 : w9.cell? ⟨w.heap.size + 1, 1, none⟩ = some (.int .i64 0) := V3.out.cell 1; have fz1 := V3.out.frozen 1; have z2 : w9.cell? ⟨w.heap.size + 1, 2, none⟩ = some (.int .i64 0) := V3.out.cell 2; have fz2 := V3.out.frozen 2; have z3 : w9.cell? ⟨w.heap.size + 1, 3, none⟩ = some (.string ⟨#[]⟩) := V3.out.cell 3; have fz3 := V3.out.frozen 3; have z4 : w9.cell? ⟨w.heap.size + 1, 4, none⟩ = some (.slice none 0 0) := V3.out.cell 4; have fz4 := V3.out.frozen 4; have e0 : w9.cell? ⟨w.heap.size + 1 + 1, 0, none⟩ = some (.int .i64 0) := V4.out.cell 0; have fe0 := V4.out.frozen 0))
  all_goals go_wp2_with fail
  all_goals
    obtain ⟨W', H', X2', X3', X4', XG⟩ := set9 V2.out V3.out V4.out (.pointer (some ⟨w6.heap.size, 0, none⟩)) (.int .i64 kv) (.int .i64 kn) (.int .i64 kb) (.string ks) (.slice p9 ke.length c9) (.int .i64 0)
    have hb9 : Below w.heap.size w w9 := HB8.out.trans (HB9.out.mono HB8.out.size)
    have hbf : Below w.heap.size w W' := XG.out.below hb9 hb9.size (fun k hk => by rcases hk with rfl | rfl | rfl <;> omega)
    have hn6 := HN6.out
    have hfs := HPW.out.fs_lt
    have h51 := no51_rows V2.out V3.out V4.out
    refine open_door rfl rfl rfl rfl H'.out X2'.out X3'.out X4'.out ⟨w6.heap.size, .slice up ke.length uc, .slice p9 ke.length c9, v0, v1, rfl, (HJV.out.below HB9.out).keep XG.out (fun b hb e => ?_) h51, HE9.out.keep XG.out h51, by omega, Grew.of_below _ hbf, fun _ h => .inl h⟩
    rcases hb with hb | hb
    · rcases e with e | e | e <;> omega
    · have h3 := (hfs _ hb).2
      rcases e with e | e | e <;> omega
end Go.Proofs.Ytjjofjnhhajjjaa.Jr
