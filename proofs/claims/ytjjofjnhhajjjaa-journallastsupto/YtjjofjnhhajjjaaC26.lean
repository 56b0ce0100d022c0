/-
  View, Entry, Adopt, Lay. The calls of no journal.
-/
import Derived.Laws.Tables
import Derived.OwnWalk
import Derived.Lib.SlBytesConst
import Derived.Deep.RegionLaw
import Derived.Deep.CutRange
import Derived.Laws.CopyOwn
import Derived.Deep.DrawnRows
import Derived.Laws.StructEq
import Derived.Test.YtjjofjnhhajjjaaC00
import Derived.Test.YtjjofjnhhajjjaaC01
import Derived.Test.YtjjofjnhhajjjaaC02
import Derived.Test.YtjjofjnhhajjjaaC03
import Derived.Test.YtjjofjnhhajjjaaC04
import Derived.Test.YtjjofjnhhajjjaaC05
import Derived.Test.YtjjofjnhhajjjaaC06
import Derived.Test.YtjjofjnhhajjjaaC07
import Derived.Test.YtjjofjnhhajjjaaC08
import Derived.Test.YtjjofjnhhajjjaaC09
import Derived.Test.YtjjofjnhhajjjaaC10
import Derived.Test.YtjjofjnhhajjjaaC11
import Derived.Test.YtjjofjnhhajjjaaC12
import Derived.Test.YtjjofjnhhajjjaaC13
import Derived.Test.YtjjofjnhhajjjaaC14
import Derived.Test.YtjjofjnhhajjjaaC15
import Derived.Test.YtjjofjnhhajjjaaC16
import Derived.Test.YtjjofjnhhajjjaaC17
import Derived.Test.YtjjofjnhhajjjaaC18
import Derived.Test.YtjjofjnhhajjjaaC19
import Derived.Test.YtjjofjnhhajjjaaC20
import Derived.Test.YtjjofjnhhajjjaaC21
import Derived.Test.YtjjofjnhhajjjaaC22
import Derived.Test.YtjjofjnhhajjjaaC23
import Derived.Test.YtjjofjnhhajjjaaC24
import Derived.Test.YtjjofjnhhajjjaaC25
namespace Go.Proofs.Ytjjofjnhhajjjaa.Jr
open Go.RowKit
open Nd (Row wp_world post_Row grownBy_setCell grownBy_trans below_of_grown u8v Grew Sl hid_in i64r bytesS str)
open Pt (Dk PtV FS Sub Stp liv arOf appE appD begE begD synD wipD fliD oth)
def recV (v : Int) : Rc := ⟨1, 0, ⟨v, 0, 0, ⟨#[]⟩, []⟩⟩
def recE (e : Ent) : Rc := ⟨2, 0, ⟨0, 0, 0, ⟨#[]⟩, [e]⟩⟩
def recA (v f : Int) (es : List Ent) : Rc := ⟨3, f, ⟨v, 0, 0, ⟨#[]⟩, es⟩⟩
def recL (k : Kt) : Rc := ⟨4, 0, k⟩
theorem i0 : i64r 0 := ⟨by decide, by decide⟩
theorem zz0 : (0 : Int) ≤ 0 ∧ (0 : Int) ≤ 1099511627776 := by decide
theorem one_le : 1 ≤ 9223372036854775807 := by decide
theorem k12 : ¬ (1 : Int) = 2 := by decide
theorem k32 : ¬ (3 : Int) = 2 := by decide
theorem k42 : ¬ (4 : Int) = 2 := by decide
theorem recV_ok {v : Int} (h : i64r v) : (recV v).ok := ⟨.inl rfl, i0, ⟨h, i0, i0, Nat.zero_le _, Nat.zero_le _, fun e he => by cases he⟩⟩
theorem recE_ok {e : Ent} (h : e.ok) : (recE e).ok := ⟨.inr (.inl rfl), i0, ⟨i0, i0, i0, Nat.zero_le _, one_le, fun x hx => by rw [List.mem_singleton.1 hx]; exact h⟩⟩
theorem recA_ok {v f : Int} {es : List Ent} (h : i64r v) (hf : i64r f) (hn : es.length ≤ 9223372036854775807) (he : ∀ e ∈ es, e.ok) : (recA v f es).ok := ⟨.inr (.inr (.inl rfl)), hf, ⟨h, i0, i0, Nat.zero_le _, hn, he⟩⟩
theorem recL_ok {k : Kt} (h : k.ok) : (recL k).ok := ⟨.inr (.inr (.inr rfl)), i0, h⟩
theorem recV_pay {v : Int} {k n : Kt} (hk : may k = true) (h : foldS (recV v) k = some n) : PayOk (recV v) := by
  obtain ⟨h1, h2⟩ := foldS_may h
  have hm := (may_iff k).1 hk
  have hn := (may_iff n).1 h1
  have e : nextS (recV v) k = riseS (recV v) k := rfl
  rw [e] at h2
  unfold riseS at h2
  split at h2
  · cases h2
  · rename_i hc
    cases h2
    have a1 := hm.n0
    have a2 := hm.nv
    have a3 := hn.vg
    simp only [recV] at hc a3
    exact ⟨.inl rfl, zz0, ⟨by show 0 ≤ v; omega, a3⟩, zz0, zz0, Nat.zero_le _, Nat.zero_le _, fun e => absurd e k12, fun e he => (by cases he), fun e he => (by cases he)⟩
theorem recE_pay {e : Ent} {k n : Kt} (he : e.ok) (h : foldS (recE e) k = some n) : PayOk (recE e) := by
  obtain ⟨h1, h2⟩ := foldS_may h
  have hn := (may_iff n).1 h1
  have e1 : nextS (recE e) k = addS (recE e) k := rfl
  rw [e1] at h2
  unfold addS at h2
  cases h2
  have hs := hn.sh e (by simp [recE])
  exact ⟨.inr (.inl rfl), zz0, zz0, zz0, zz0, Nat.zero_le _, by show 1 ≤ 32; decide, fun _ => rfl, fun x hx => by rw [List.mem_singleton.1 hx]; exact he, fun x hx => by rw [List.mem_singleton.1 hx]; exact hs⟩
theorem recA_pay {v f : Int} {es : List Ent} {k n : Kt} (hk : may k = true) (he : ∀ e ∈ es, e.ok) (h : foldS (recA v f es) k = some n) : PayOk (recA v f es) := by
  obtain ⟨h1, h2⟩ := foldS_may h
  have hm := (may_iff k).1 hk
  have hn := (may_iff n).1 h1
  have e1 : nextS (recA v f es) k = adoptS (recA v f es) k := rfl
  rw [e1] at h2
  unfold adoptS at h2
  split at h2
  · cases h2
  · rename_i hc
    cases h2
    have a1 := hm.n0
    have a2 := hm.nv
    have a3 := hn.vg
    have a4 := hm.b0
    have a5 := hm.bg
    have a6 := hn.few
    simp only [recA] at hc a3 a6
    rw [List.length_append] at a6
    refine ⟨.inr (.inr (.inl rfl)), ⟨by show 0 ≤ f; omega, by show f ≤ _; omega⟩, ⟨by show 0 ≤ v; omega, a3⟩, zz0, zz0, Nat.zero_le _, by show es.length ≤ 32; omega, fun e => absurd e k32, he, fun e hx => hn.sh e ?_⟩
    simp only [recA] at hx ⊢
    exact List.mem_append_right _ hx
theorem recL_pay {k : Kt} (hok : k.ok) (h : may k = true) : PayOk (recL k) := by
  have hm := (may_iff k).1 h
  have a1 := hm.n0
  have a2 := hm.nv
  have a3 := hm.vg
  have a4 := hm.b0
  have a5 := hm.bg
  exact ⟨.inr (.inr (.inr rfl)), zz0, ⟨by show 0 ≤ k.view; omega, a3⟩, ⟨a1, by show k.normal ≤ _; omega⟩, ⟨a4, by show k.base ≤ _; omega⟩, hm.st, hm.few, fun e => absurd e k42, hok.ents, hm.sh⟩
theorem fold_recL {k k' n : Kt} (h : foldS (recL k') k = some n) : n = k' ∧ may k' = true := by
  obtain ⟨h1, h2⟩ := foldS_may h
  have e1 : nextS (recL k') k = some k' := rfl
  rw [e1] at h2
  cases h2
  exact ⟨rfl, h1⟩
/-- what a call that writes a record answers; the platter behind it; what is kept behind it -/
def wrE (r : Rc) (d : Dk) (k : Kt) : Int := match foldS r k with | none => 1 | some _ => behE (Nd.Wire.frame (payS r)) d
def wrD (r : Rc) (d : Dk) (k : Kt) : Dk := match foldS r k with | none => d | some _ => behD (Nd.Wire.frame (payS r)) d
def wrK (r : Rc) (d : Dk) (k : Kt) : Kt := match foldS r k with | none => k | some n => if behE (Nd.Wire.frame (payS r)) d = 0 then n else k
def lyE (k' : Kt) (d : Dk) (k : Kt) : Int := match foldS (recL k') k with | none => 1 | some _ => (anewR (Nd.Wire.frame (payS (recL k'))) d).1
def lyD (k' : Kt) (d : Dk) (k : Kt) : Dk := match foldS (recL k') k with | none => d | some _ => (anewR (Nd.Wire.frame (payS (recL k'))) d).2
def lyK (k' : Kt) (d : Dk) (k : Kt) : Kt := match foldS (recL k') k with | none => k | some n => if (anewR (Nd.Wire.frame (payS (recL k'))) d).1 = 0 then n else k
/-- room for a frame -/
def Room (d : Dk) : Prop := d.a0.bs.length + 262152 ≤ 140737488355328 ∧ d.a1.bs.length + 262152 ≤ 140737488355328
theorem Room.ar {d : Dk} (h : Room d) (a : Int) : (arOf a d).bs.length + 262152 ≤ 140737488355328 := by
  unfold arOf
  split
  · exact h.1
  · exact h.2
theorem spendD_a0 (d : Dk) : (Pt.spendD d).a0 = d.a0 := by unfold Pt.spendD; split <;> rfl
theorem spendD_a1 (d : Dk) : (Pt.spendD d).a1 = d.a1 := by unfold Pt.spendD; split <;> rfl
theorem begD_a0 (k a : Int) (d : Dk) : (begD k a d).a0 = d.a0 := by unfold begD; split; exact spendD_a0 d; rfl
theorem begD_a1 (k a : Int) (d : Dk) : (begD k a d).a1 = d.a1 := by unfold begD; split; exact spendD_a1 d; rfl
theorem wipD_room {d : Dk} (h : Room d) (a : Int) : Room (wipD a d) := by
  unfold wipD
  split
  · unfold Pt.setAr
    split
    · exact ⟨by simp, by simp only [begD_a1]; exact h.2⟩
    · exact ⟨by simp only [begD_a0]; exact h.1, by simp⟩
  · exact ⟨by rw [begD_a0]; exact h.1, by rw [begD_a1]; exact h.2⟩
theorem frame_le {r : Rc} (h : PayOk r) : (Nd.Wire.frame (payS r)).length ≤ 262152 := by
  rw [Nd.Wire.frame_length]
  have := payS_len r h
  omega
/-- what a call on a journal answers -/
def CJV (w : World) (B j g : Nat) (v0 v1 ve : Value) (E : Int) (D : Dk) (K : Kt) (e : Ending) (w' : World) : Prop := e = .returned (.int .i64 E) ∧ JStpV w w' B j g v0 v1 ve D K
def CJ (w : World) (B j g : Nat) (v0 v1 : Value) (E : Int) (D : Dk) (K : Kt) (e : Ending) (w' : World) : Prop := e = .returned (.int .i64 E) ∧ JStp w w' B j g v0 v1 D K
theorem CJV.weak {w : World} {B j g : Nat} {v0 v1 ve : Value} {E : Int} {D : Dk} {K : Kt} {e : Ending} {w' : World} (h : CJV w B j g v0 v1 ve E D K e w') : CJ w B j g v0 v1 E D K e w' := ⟨h.1, h.2.weak⟩
theorem keep_beh {w : World} {B j g : Nat} {v0 v1 ve : Value} {d : Dk} {k : Kt} (hJ : JV w B j g v0 v1 d ve k) (r : Rc) (vr : Value) (hr : Es w vr r.told.ents) (hro : r.ok) (hl : r.told.ents.length ≤ 100000000) (hpay : ∀ n, foldS r k = some n → PayOk r) (hR : Room d) :
    Calls Try.prog 35 #[.pointer (some ⟨j, 0, none⟩), r.val vr, .func (.func 40) #[.pointer (some ⟨j, 0, none⟩)] #[]] w (CJV w B j g v0 v1 ve (wrE r d k) (wrD r d k) (wrK r d k)) := by
  have hkf := ((may_iff k).1 hJ.may).few
  refine (keep_40 hJ r vr hr (fun W hb => fold_any r k vr ve W (hr.below hb) (hJ.et.val.below hb) hro hJ.ok hJ.may hl) (fun m hm => ⟨hpay m hm, nextS_ok hro hJ.ok (by omega) (by omega) (foldS_may hm).2, (foldS_may hm).1⟩) (fun n hn => Nat.le_trans (Nat.add_le_add_left (frame_le (hpay n hn)) _) (hR.ar _))).mono ?_
  rintro e w' (⟨h1, h2, h3⟩ | ⟨m, h1, h2, h3⟩)
  · unfold CJV wrE wrD wrK
    simp only [h1]
    exact ⟨h2, h3⟩
  · unfold CJV wrE wrD wrK
    simp only [h1]
    exact ⟨h2, h3⟩
theorem keep_anew {w : World} {B j g : Nat} {v0 v1 ve : Value} {d : Dk} {k : Kt} (hJ : JV w B j g v0 v1 d ve k) (k' : Kt) (vr : Value) (hr : Es w vr k'.ents) (hok : k'.ok) (hl : k'.ents.length ≤ 100000000) (hR : Room d) :
    Calls Try.prog 35 #[.pointer (some ⟨j, 0, none⟩), (recL k').val vr, .func (.func 36) #[.pointer (some ⟨j, 0, none⟩)] #[]] w (CJV w B j g v0 v1 ve (lyE k' d k) (lyD k' d k) (lyK k' d k)) := by
  have hkf := ((may_iff k).1 hJ.may).few
  have hro := recL_ok hok
  have hpay : ∀ n, foldS (recL k') k = some n → PayOk (recL k') := fun n hn => recL_pay hok (fold_recL hn).2
  refine (keep_36 hJ (recL k') vr hr (fun W hb => fold_any (recL k') k vr ve W (hr.below hb) (hJ.et.val.below hb) hro hJ.ok hJ.may hl) (fun m hm => ⟨hpay m hm, nextS_ok hro hJ.ok (by omega) (by show k'.ents.length ≤ _; omega) (foldS_may hm).2, (foldS_may hm).1⟩) (fun n hn => Nat.le_trans (Nat.add_le_add_left (frame_le (hpay n hn)) _) ((wipD_room hR _).ar _))).mono ?_
  rintro e w' (⟨h1, h2, h3⟩ | ⟨m, h1, h2, h3⟩)
  · unfold CJV lyE lyD lyK
    simp only [h1]
    exact ⟨h2, h3⟩
  · unfold CJV lyE lyD lyK
    simp only [h1]
    exact ⟨h2, h3⟩
theorem hmf (fn : Fn) (first cap : Array Value) (w : World) : (Instr.makeFunc fn first cap).run Try.prog w = .ok (.func fn first cap) w := rfl
set_option maxHeartbeats 1000000 in
set_option maxRecDepth 100000 in
theorem view_anyV {w : World} {B j g : Nat} {v0 v1 ve : Value} {d : Dk} {k : Kt} (hJ : JV w B j g v0 v1 d ve k) (v : Int) (hv : i64r v) (hR : Room d) :
    Calls Try.prog 21 #[.pointer (some ⟨j, 0, none⟩), .int .i64 v] w (CJV w B j g v0 v1 ve (wrE (recV v) d k) (wrD (recV v) d k) (wrK (recV v) d k)) := by
  have HK := hid_in (keep_beh hJ (recV v) (.slice none 0 0) (Es.nil w) (recV_ok hv) (by simp [recV]) (fun n hn => recV_pay hJ.may hn) hR)
  generalize wrE (recV v) d k = E at *
  generalize wrD (recV v) d k = D at *
  generalize wrK (recV v) d k = K at *
  simp only [Rc.val, recV] at HK
  have hmf' := hmf
  clear hJ hR
  go_enter Try.func21, Try.ntmps21
  go_wp2_with (first | (go_at_call 35; refine HK.out.mono ?_; rintro e w1 ⟨rfl, hs⟩; have HS := hid_in hs; clear hs))
  go_ret
  exact ⟨rfl, HS.out⟩
theorem view_any {w : World} {B j g : Nat} {v0 v1 ve : Value} {d : Dk} {k : Kt} (hJ : JV w B j g v0 v1 d ve k) (v : Int) (hv : i64r v) (hR : Room d) :
    Calls Try.prog 21 #[.pointer (some ⟨j, 0, none⟩), .int .i64 v] w (CJ w B j g v0 v1 (wrE (recV v) d k) (wrD (recV v) d k) (wrK (recV v) d k)) :=
  (view_anyV hJ v hv hR).mono (fun _ _ h => h.weak)
set_option maxHeartbeats 1000000 in
set_option maxRecDepth 100000 in
theorem adopt_cV {w : World} {B j g : Nat} {v0 v1 ve : Value} {d : Dk} {k : Kt} (hJ : JV w B j g v0 v1 d ve k) (v f : Int) (va : Value) (es : List Ent) (hv : i64r v) (hf : i64r f) (hes : Es w va es) (hok : ∀ e ∈ es, e.ok) (hl : es.length ≤ 100000000) (hR : Room d) :
    Calls Try.prog 23 #[.pointer (some ⟨j, 0, none⟩), .int .i64 v, .int .i64 f, va] w (CJV w B j g v0 v1 ve (wrE (recA v f es) d k) (wrD (recA v f es) d k) (wrK (recA v f es) d k)) := by
  have HK := hid_in (keep_beh hJ (recA v f es) va hes (recA_ok hv hf (by omega) hok) hl (fun n hn => recA_pay hJ.may hok hn) hR)
  generalize wrE (recA v f es) d k = E at *
  generalize wrD (recA v f es) d k = D at *
  generalize wrK (recA v f es) d k = K at *
  obtain ⟨p, c, rfl, _, _⟩ := hes.form
  simp only [Rc.val, recA] at HK
  have hmf' := hmf
  clear hJ hR hes hok
  go_enter Try.func23, Try.ntmps23
  go_wp2_with (first | (go_at_call 35; refine HK.out.mono ?_; rintro e w1 ⟨rfl, hs⟩; have HS := hid_in hs; clear hs))
  go_ret
  exact ⟨rfl, HS.out⟩
theorem adopt_c {w : World} {B j g : Nat} {v0 v1 ve : Value} {d : Dk} {k : Kt} (hJ : JV w B j g v0 v1 d ve k) (v f : Int) (va : Value) (es : List Ent) (hv : i64r v) (hf : i64r f) (hes : Es w va es) (hok : ∀ e ∈ es, e.ok) (hl : es.length ≤ 100000000) (hR : Room d) :
    Calls Try.prog 23 #[.pointer (some ⟨j, 0, none⟩), .int .i64 v, .int .i64 f, va] w (CJ w B j g v0 v1 (wrE (recA v f es) d k) (wrD (recA v f es) d k) (wrK (recA v f es) d k)) :=
  (adopt_cV hJ v f va es hv hf hes hok hl hR).mono (fun _ _ h => h.weak)
set_option maxHeartbeats 1000000 in
set_option maxRecDepth 100000 in
theorem lay_cV {w : World} {B j g : Nat} {v0 v1 ve : Value} {d : Dk} {k : Kt} (hJ : JV w B j g v0 v1 d ve k) (k' : Kt) (va : Value) (hes : Es w va k'.ents) (hok : k'.ok) (hl : k'.ents.length ≤ 100000000) (hR : Room d) :
    Calls Try.prog 18 #[.pointer (some ⟨j, 0, none⟩), k'.val va] w (CJV w B j g v0 v1 ve (lyE k' d k) (lyD k' d k) (lyK k' d k)) := by
  obtain ⟨W1, H1, R1, B1, S1⟩ := row_new w (k'.cells va) 30
  have HK := hid_in (keep_anew (hJ.below B1.out) k' va (hes.below B1.out) hok hl hR)
  generalize lyE k' d k = E at *
  generalize lyD k' d k = D at *
  generalize lyK k' d k = K at *
  obtain ⟨kv, kn, kb, ks, ke⟩ := k'
  obtain ⟨p, c, rfl, _, _⟩ := hes.form
  simp only [Rc.val, recL, Kt.val, Kt.cells] at HK H1 R1 ⊢
  have hmf' := hmf
  clear hJ hR hes hok
  have c0 : W1.cell? ⟨w.heap.size, 0, none⟩ = some (.int .i64 kv) := R1.out.cell 0
  have c1 : W1.cell? ⟨w.heap.size, 1, none⟩ = some (.int .i64 kn) := R1.out.cell 1
  have c2 : W1.cell? ⟨w.heap.size, 2, none⟩ = some (.int .i64 kb) := R1.out.cell 2
  have c3 : W1.cell? ⟨w.heap.size, 3, none⟩ = some (.string ks) := R1.out.cell 3
  have c4 : W1.cell? ⟨w.heap.size, 4, none⟩ = some (.slice p ke.length c) := R1.out.cell 4
  go_enter Try.func18, Try.ntmps18
  go_upto_region 1 with fail
  refine wp_world H1.out ?_
  go_wp2_with (first | (go_at_call 35; refine HK.out.mono ?_; rintro e w1 ⟨rfl, hs⟩; have HS := hid_in hs; clear hs))
  go_ret
  exact ⟨rfl, JStpV.ahead B1.out HS.out⟩
theorem lay_c {w : World} {B j g : Nat} {v0 v1 ve : Value} {d : Dk} {k : Kt} (hJ : JV w B j g v0 v1 d ve k) (k' : Kt) (va : Value) (hes : Es w va k'.ents) (hok : k'.ok) (hl : k'.ents.length ≤ 100000000) (hR : Room d) :
    Calls Try.prog 18 #[.pointer (some ⟨j, 0, none⟩), k'.val va] w (CJ w B j g v0 v1 (lyE k' d k) (lyD k' d k) (lyK k' d k)) :=
  (lay_cV hJ k' va hes hok hl hR).mono (fun _ _ h => h.weak)
set_option maxHeartbeats 1000000 in
set_option maxRecDepth 100000 in
theorem entry_cV {w : World} {B j g : Nat} {v0 v1 ve : Value} {d : Dk} {k : Kt} (hJ : JV w B j g v0 v1 d ve k) (e : Ent) (hok : e.ok) (hR : Room d) :
    Calls Try.prog 22 #[.pointer (some ⟨j, 0, none⟩), e.val] w (CJV w B j g v0 v1 ve (wrE (recE e) d k) (wrD (recE e) d k) (wrK (recE e) d k)) := by
  obtain ⟨W1, H1, R1, B1, S1⟩ := row_new w e.cells 51
  obtain ⟨W2, H2, HO2, HE2, B2⟩ := es_one W1 e
  have B12 := hid_in (B1.out.trans (B2.out.mono B1.out.size))
  have HK := hid_in (keep_beh (hJ.below B12.out) (recE e) _ HE2.out (recE_ok hok) (by show 1 ≤ _; decide) (fun n hn => recE_pay hok hn) hR)
  generalize wrE (recE e) d k = E at *
  generalize wrD (recE e) d k = D at *
  generalize wrK (recE e) d k = K at *
  obtain ⟨cl, nu, ⟨kd, pa, de, da, at_, sz⟩⟩ := e
  simp only [Rc.val, recE, Ent.val, Ent.cells] at HK H1 R1 H2 ⊢
  have hmf' := hmf
  clear hJ hR hok
  have c0 : W1.cell? ⟨w.heap.size, 0, none⟩ = some (.int .i64 cl) := R1.out.cell 0
  have c1 : W1.cell? ⟨w.heap.size, 1, none⟩ = some (.int .i64 nu) := R1.out.cell 1
  have c2 : W1.cell? ⟨w.heap.size, 2, none⟩ = some (.int .i64 kd) := R1.out.cell 2
  have c3 : W1.cell? ⟨w.heap.size, 3, none⟩ = some (.string pa) := R1.out.cell 3
  have c4 : W1.cell? ⟨w.heap.size, 4, none⟩ = some (.string de) := R1.out.cell 4
  have c5 : W1.cell? ⟨w.heap.size, 5, none⟩ = some (.string da) := R1.out.cell 5
  have c6 : W1.cell? ⟨w.heap.size, 6, none⟩ = some (.int .i64 at_) := R1.out.cell 6
  have c7 : W1.cell? ⟨w.heap.size, 7, none⟩ = some (.int .i64 sz) := R1.out.cell 7
  have hw2 := H2.out
  subst hw2
  go_enter Try.func22, Try.ntmps22
  go_upto_region 1 with fail
  refine wp_world H1.out ?_
  go_wp2_with (first | (go_at_call 35; refine HK.out.mono ?_; rintro e w1 ⟨rfl, hs⟩; have HS := hid_in hs; clear hs))
  go_ret
  exact ⟨rfl, JStpV.ahead B12.out HS.out⟩
theorem entry_c {w : World} {B j g : Nat} {v0 v1 ve : Value} {d : Dk} {k : Kt} (hJ : JV w B j g v0 v1 d ve k) (e : Ent) (hok : e.ok) (hR : Room d) :
    Calls Try.prog 22 #[.pointer (some ⟨j, 0, none⟩), e.val] w (CJ w B j g v0 v1 (wrE (recE e) d k) (wrD (recE e) d k) (wrK (recE e) d k)) :=
  (entry_cV hJ e hok hR).mono (fun _ _ h => h.weak)
set_option maxHeartbeats 2000000 in
set_option maxRecDepth 100000 in
theorem kept_c {w : World} {B j g : Nat} {v0 v1 ve : Value} {d : Dk} {k : Kt} (hJ : JV w B j g v0 v1 d ve k) :
    Calls Try.prog 12 #[.pointer (some ⟨j, 0, none⟩)] w fun e w' => ∃ v, e = .returned (k.val v) ∧ EO w' w.heap.size v k.ents ∧ Below w.heap.size w w' := by
  obtain ⟨W1, H1, R1, B1, S1⟩ := row_new w zcells 30
  have hrow := hJ.row.below B1.out hJ.row.lt
  have hjl := hJ.row.lt
  have he1 := hJ.et.val.below B1.out
  obtain ⟨kv, kn, kb, ks, ke⟩ := k
  obtain ⟨kp, kc, rfl, _, _⟩ := hJ.et.val.form
  have hfew := ((may_iff _).1 hJ.may).few
  simp only [Kt.cells] at hrow
  simp only at he1 hfew
  simp only [Kt.val]
  obtain ⟨W2, H2, R2, B2, S2⟩ := row_new W1 [.int .i64 kv, .int .i64 kn, .int .i64 kb, .string ks, .slice kp ke.length kc] 30
  have HC := hid_in (eclone_any ke _ W2 (by omega) (he1.below B2.out))
  have j0 : W1.cell? ⟨j, 1, none⟩ = some (.int .i64 kv) := hrow.cell 1
  have j1 : W1.cell? ⟨j, 2, none⟩ = some (.int .i64 kn) := hrow.cell 2
  have j2 : W1.cell? ⟨j, 3, none⟩ = some (.int .i64 kb) := hrow.cell 3
  have j3 : W1.cell? ⟨j, 4, none⟩ = some (.string ks) := hrow.cell 4
  have j4 : W1.cell? ⟨j, 5, none⟩ = some (.slice kp ke.length kc) := hrow.cell 5
  have hs1 := S1.out
  have hne1 : ¬ W1.heap.size = w.heap.size := by omega
  have hne2 : ¬ w.heap.size = W1.heap.size := by omega
  have HZ2 := hid_in (R1.out.below B2.out R1.out.lt)
  have q4 : W2.cell? ⟨W1.heap.size, 4, none⟩ = some (.slice kp ke.length kc) := R2.out.cell 4
  clear hJ hrow hjl he1 hs1
  go_enter Try.func12, Try.ntmps12
  go_upto_region 1 with fail
  refine wp_world H1.out ?_
  go_upto_region 4 with fail
  refine wp_world H2.out ?_
  go_upto_region 5 with (first | (go_at_call 31; refine HC.out.mono ?_; rintro e w3 ⟨v, rfl, ho, hb⟩; obtain ⟨p, c, rfl⟩ := ho.form; have HO3 := hid_in ho; have HB3 := hid_in hb; have HK3 := hid_in (R2.out.below hb R2.out.lt); have HZ3 := hid_in (HZ2.out.below hb HZ2.out.lt); clear ho hb q4; have m0 : w3.cell? ⟨W1.heap.size, 0, none⟩ = some (.int .i64 kv) := HK3.out.cell 0; have m1 : w3.cell? ⟨W1.heap.size, 1, none⟩ = some (.int .i64 kn) := HK3.out.cell 1; have m2 : w3.cell? ⟨W1.heap.size, 2, none⟩ = some (.int .i64 kb) := HK3.out.cell 2; have m3 : w3.cell? ⟨W1.heap.size, 3, none⟩ = some (.string ks) := HK3.out.cell 3; have m4 : w3.cell? ⟨W1.heap.size, 4, none⟩ = some (.slice kp ke.length kc) := HK3.out.cell 4; have fm4 := HK3.out.frozen 4; have g0 : w3.cell? ⟨w.heap.size, 0, none⟩ = some (.int .i64 0) := HZ3.out.cell 0; have f0 := HZ3.out.frozen 0; have g1 : w3.cell? ⟨w.heap.size, 1, none⟩ = some (.int .i64 0) := HZ3.out.cell 1; have f1 := HZ3.out.frozen 1; have g2 : w3.cell? ⟨w.heap.size, 2, none⟩ = some (.int .i64 0) := HZ3.out.cell 2; have f2 := HZ3.out.frozen 2; have g3 : w3.cell? ⟨w.heap.size, 3, none⟩ = some (.string ⟨#[]⟩) := HZ3.out.cell 3; have f3 := HZ3.out.frozen 3; have g4 : w3.cell? ⟨w.heap.size, 4, none⟩ = some (.slice none 0 0) := HZ3.out.cell 4; have f4 := HZ3.out.frozen 4))
  go_wp2
  have hg1 := grownBy_setCell w3 ⟨W1.heap.size, 4, none⟩ (.slice p ke.length c)
  have HF := set5 (HZ3.out.grew (Grew.of_grown hg1) (fun e => hne2 (by simpa using e))) (.int .i64 kv) (.int .i64 kn) (.int .i64 kb) (.string ks) (.slice p ke.length c)
  refine post_Row 2 30 Try.results12 w.heap.size rfl 30 _ HF.1 _ Try.underlying30 rfl 5 info30 rfl rfl ?_
  have hs2 := S2.out
  have hs1 := S1.out
  have hb := ((B1.out.trans (B2.out.mono B1.out.size)).trans (HB3.out.mono (by omega)))
  refine ⟨_, rfl, ?_, (hb.grown hg1 hb.size (fun k e => by cases e; show w.heap.size ≤ W1.heap.size; omega)).grown HF.2 (Nat.le_trans hb.size hg1.size) (fun k e => by cases e; exact Nat.le_refl _)⟩
  exact ((HO3.out.keepN hg1 (by show W1.heap.size < _; omega)).keepN HF.2 (by omega)).mono (by omega)
end Go.Proofs.Ytjjofjnhhajjjaa.Jr
namespace Go.Proofs.Ytjjofjnhhajjjaa.Jr
open Go.RowKit
open Nd (Row wp_world post_Row grownBy_setCell grownBy_trans below_of_grown u8v Grew Sl hid_in i64r bytesS str)
def zeroE : Ent := ⟨0, 0, ⟨0, ⟨#[]⟩, ⟨#[]⟩, ⟨#[]⟩, 0, 0⟩⟩
end Go.Proofs.Ytjjofjnhhajjjaa.Jr
