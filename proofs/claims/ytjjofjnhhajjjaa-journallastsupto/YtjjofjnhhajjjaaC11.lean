/-
  What is kept, records, and what a record makes of what is kept; their bytes. hasNoBytes, IndexFunc and ContainsFunc over entries; Check. Check.
-/
import Derived.Laws.Tables
import Derived.OwnWalk
import Derived.Lib.SlBytesConst
import Derived.Deep.RegionLaw
import Derived.Deep.CutRange
import Derived.Laws.CopyOwn
import Derived.Deep.DrawnRows
import Derived.Laws.StructEq
import Derived.Test.YtjjofjnhhajjjaaC00
import Derived.Test.YtjjofjnhhajjjaaC01
import Derived.Test.YtjjofjnhhajjjaaC02
import Derived.Test.YtjjofjnhhajjjaaC03
import Derived.Test.YtjjofjnhhajjjaaC04
import Derived.Test.YtjjofjnhhajjjaaC05
import Derived.Test.YtjjofjnhhajjjaaC06
import Derived.Test.YtjjofjnhhajjjaaC07
import Derived.Test.YtjjofjnhhajjjaaC08
import Derived.Test.YtjjofjnhhajjjaaC09
import Derived.Test.YtjjofjnhhajjjaaC10
namespace Go.Proofs.Ytjjofjnhhajjjaa.Jr
open Go.RowKit
open Nd (Row wp_world post_Row grownBy_setCell below_of_grown u8v Grew Sl hid_in i64r bytesS str encO)
/-- what is kept -/
structure Kt where
  view : Int
  normal : Int
  base : Int
  state : ByteArray
  ents : List Ent
def Kt.cells (k : Kt) (v : Value) : List Value := [.int .i64 k.view, .int .i64 k.normal, .int .i64 k.base, .string k.state, v]
def Kt.val (k : Kt) (v : Value) : Value := .agg #[.int .i64 k.view, .int .i64 k.normal, .int .i64 k.base, .string k.state, v]
def zeroK : Kt := ⟨0, 0, 0, ⟨#[]⟩, []⟩
structure Kt.ok (k : Kt) : Prop where
  view : i64r k.view
  normal : i64r k.normal
  base : i64r k.base
  state : k.state.size ≤ 9223372036854775807
  few : k.ents.length ≤ 9223372036854775807
  ents : ∀ e ∈ k.ents, e.ok
def shortE (e : Ent) : Bool := decide (e.op.path.size ≤ 1100 ∧ e.op.dest.size ≤ 1100 ∧ e.op.data.size ≤ 1100)
theorem shortE_iff (e : Ent) : shortE e = true ↔ e.op.short := by simp [shortE, Nd.Opn.short]
/-- may it be kept? -/
def may (k : Kt) : Bool := decide (0 ≤ k.normal ∧ k.normal ≤ k.view ∧ k.view ≤ 1099511627776 ∧ 0 ≤ k.base ∧ k.base + (k.ents.length : Int) ≤ 1099511627776 ∧ k.state.size ≤ 65536 ∧ (0 < k.base ∨ k.state.size = 0) ∧ k.ents.length ≤ 32) && k.ents.all shortE
structure May (k : Kt) : Prop where
  n0 : 0 ≤ k.normal
  nv : k.normal ≤ k.view
  vg : k.view ≤ 1099511627776
  b0 : 0 ≤ k.base
  bg : k.base + (k.ents.length : Int) ≤ 1099511627776
  st : k.state.size ≤ 65536
  sb : 0 < k.base ∨ k.state.size = 0
  few : k.ents.length ≤ 32
  sh : ∀ e ∈ k.ents, e.op.short
theorem may_iff (k : Kt) : may k = true ↔ May k := by
  unfold may
  rw [Bool.and_eq_true, decide_eq_true_eq, List.all_eq_true]
  constructor
  · rintro ⟨⟨h1, h2, h3, h4, h5, h6, h7, h8⟩, h9⟩
    exact ⟨h1, h2, h3, h4, h5, h6, h7, h8, fun e he => (shortE_iff e).1 (h9 e he)⟩
  · rintro ⟨h1, h2, h3, h4, h5, h6, h7, h8, h9⟩
    exact ⟨⟨h1, h2, h3, h4, h5, h6, h7, h8⟩, fun e he => (shortE_iff e).2 (h9 e he)⟩
theorem may_zero : may zeroK = true := by decide
theorem zeroK_ok : zeroK.ok := ⟨⟨by decide, by decide⟩, ⟨by decide, by decide⟩, ⟨by decide, by decide⟩, by decide, by decide, fun e he => by cases he⟩
/-- a record -/
structure Rc where
  kind : Int
  frm : Int
  told : Kt
def Rc.cells (r : Rc) (v : Value) : List Value := [.int .i64 r.kind, .int .i64 r.frm, .int .i64 r.told.view, .int .i64 r.told.normal, .int .i64 r.told.base, .string r.told.state, v]
def Rc.val (r : Rc) (v : Value) : Value := .agg #[.int .i64 r.kind, .int .i64 r.frm, .int .i64 r.told.view, .int .i64 r.told.normal, .int .i64 r.told.base, .string r.told.state, v]
structure Rc.ok (r : Rc) : Prop where
  kind : r.kind = 1 ∨ r.kind = 2 ∨ r.kind = 3 ∨ r.kind = 4
  frm : i64r r.frm
  told : r.told.ok
def riseS (r : Rc) (k : Kt) : Option Kt := if r.told.view ≤ k.view then none else some ⟨r.told.view, k.normal, k.base, k.state, k.ents⟩
def addS (r : Rc) (k : Kt) : Option Kt := some ⟨k.view, k.normal, k.base, k.state, k.ents ++ r.told.ents⟩
def adoptS (r : Rc) (k : Kt) : Option Kt := if r.frm < k.base ∨ k.base + (k.ents.length : Int) < r.frm ∨ r.told.view < k.view then none else some ⟨r.told.view, r.told.view, k.base, k.state, k.ents.take (r.frm - k.base).toNat ++ r.told.ents⟩
def nextS (r : Rc) (k : Kt) : Option Kt := if r.kind = 1 then riseS r k else if r.kind = 2 then addS r k else if r.kind = 3 then adoptS r k else some r.told
/-- what a record makes of what is kept -/
def foldS (r : Rc) (k : Kt) : Option Kt := match nextS r k with
  | none => none
  | some n => if may n = true then some n else none
theorem foldS_may {r : Rc} {k n : Kt} (h : foldS r k = some n) : may n = true ∧ nextS r k = some n := by
  unfold foldS at h
  cases hn : nextS r k with
  | none => rw [hn] at h; cases h
  | some m =>
    rw [hn] at h
    simp only at h
    split at h
    · rename_i hm
      injection h with h
      subst h
      exact ⟨hm, rfl⟩
    · cases h
theorem nextS_ok {r : Rc} {k n : Kt} (hr : r.ok) (hk : k.ok) (hk32 : k.ents.length ≤ 100000000000) (hr32 : r.told.ents.length ≤ 100000000000) (h : nextS r k = some n) : n.ok := by
  have happ : ∀ (a b : List Ent), (∀ e ∈ a, e.ok) → (∀ e ∈ b, e.ok) → ∀ e ∈ a ++ b, e.ok := fun a b ha hb e he => by
    rcases List.mem_append.1 he with h | h
    · exact ha e h
    · exact hb e h
  unfold nextS riseS addS adoptS at h
  split at h
  · split at h
    · cases h
    · injection h with h
      subst h
      exact ⟨hr.told.view, hk.normal, hk.base, hk.state, hk.few, hk.ents⟩
  · split at h
    · injection h with h
      subst h
      exact ⟨hk.view, hk.normal, hk.base, hk.state, by simp; omega, happ _ _ hk.ents hr.told.ents⟩
    · split at h
      · split at h
        · cases h
        · injection h with h
          subst h
          exact ⟨hr.told.view, hr.told.view, hk.base, hk.state, by simp; omega, happ _ _ (fun e he => hk.ents e (List.mem_of_mem_take he)) hr.told.ents⟩
      · injection h with h
        subst h
        exact hr.told
/-- the bytes of an entry -/
def entS (e : Ent) : List Nat := Nd.Wire.num (Nd.Wire.zz e.cl) ++ Nd.Wire.num (Nd.Wire.zz e.nu) ++ (Nd.Wire.num (encO e.op).length ++ encO e.op)
def entsS (es : List Ent) : List Nat := es.flatMap entS
def manyS (es : List Ent) : List Nat := Nd.Wire.num es.length ++ entsS es
/-- the bytes of a record -/
def payS (r : Rc) : List Nat :=
  Nd.Wire.num r.kind.toNat ++ (if r.kind = 1 then Nd.Wire.num r.told.view.toNat else if r.kind = 2 then entsS r.told.ents else if r.kind = 3 then Nd.Wire.num r.told.view.toNat ++ Nd.Wire.num r.frm.toNat ++ manyS r.told.ents
    else Nd.Wire.num r.told.view.toNat ++ Nd.Wire.num r.told.normal.toNat ++ Nd.Wire.num r.told.base.toNat ++ (Nd.Wire.num r.told.state.size ++ bytesS r.told.state) ++ manyS r.told.ents)
theorem entsS_cons (e : Ent) (es : List Ent) : entsS (e :: es) = entS e ++ entsS es := by simp [entsS]
theorem entsS_app (a b : List Ent) : entsS (a ++ b) = entsS a ++ entsS b := by simp [entsS]
end Go.Proofs.Ytjjofjnhhajjjaa.Jr
namespace Go.Proofs.Ytjjofjnhhajjjaa.Jr
open Go.RowKit
open Nd (Row wp_world post_Row grownBy_setCell below_of_grown u8v Grew Sl hid_in i64r bytesS str encO)
set_option maxHeartbeats 1000000 in
theorem noBytes_any (e : Ent) (h : e.ok) (w : World) : Calls Try.prog 38 #[e.val] w fun r w' => r = .returned (.bool (!shortE e)) ∧ Below w.heap.size w w' := by
  obtain ⟨cl, nu, ⟨kd, pa, de, da, at_, sz⟩⟩ := e
  have hok := h.op
  have HO := hid_in hok
  clear h
  simp only [Ent.val]
  by_cases hs : shortE ⟨cl, nu, ⟨kd, pa, de, da, at_, sz⟩⟩ = true
  · have HS := hid_in ((shortE_iff _).1 hs)
    rw [hs]
    clear hs
    go_enter Try.func38, Try.ntmps38
    go_wp2_with (first | (go_at_call 56; refine (Nd.encode_ok _ HO.out HS.out _).mono ?_; rintro r w1 ⟨⟨u, rfl, -⟩, hb⟩; have HB := hid_in hb; clear hb))

    go_ret
    exact ⟨rfl, ((Below.refl _ _).alloc (Nat.le_refl _) _).trans (HB.out.mono (by simp))⟩
  · have HS := hid_in (fun x => hs ((shortE_iff _).2 x))
    have hs' : shortE ⟨cl, nu, ⟨kd, pa, de, da, at_, sz⟩⟩ = false := by simpa using hs
    rw [hs']
    clear hs hs'
    go_enter Try.func38, Try.ntmps38
    go_wp2_with (first | (go_at_call 56; refine (Nd.encode_long _ HO.out HS.out _).mono ?_; rintro r w1 ⟨rfl, hb⟩; have HB := hid_in hb; clear hb))
    go_ret
    exact ⟨rfl, ((Below.refl _ _).alloc (Nat.le_refl _) _).trans (HB.out.mono (by simp))⟩
set_option maxHeartbeats 1000000 in
set_option maxRecDepth 100000 in
theorem index_any (es : List Ent) (v : Value) (w : World) (hn : es.length ≤ 9223372036854775807) (h : Es w v es) (hok : ∀ e ∈ es, e.ok) :
    Calls Try.prog 55 #[v, .func (.func 38) #[] #[]] w fun e w' => (∃ r : Int, e = .returned (.int .i64 r) ∧ (r < 0 ↔ es.all shortE = true)) ∧ Below w.heap.size w w' := by
  obtain ⟨p, cap, rfl, hc1, hc2⟩ := h.form
  have HE := hid_in h
  have HK := hid_in hok
  clear h hok
  go_enter Try.func55, Try.ntmps55
  go_wp2_with fail
  go_loopw [8] (fun vi W => ∃ i : Nat, i ≤ es.length ∧ vi = .int .i64 (i : Int) ∧ Hid ((es.take i).all shortE = true) ∧ Hid (Below w.heap.size w W)) (fun vi _ => es.length - (intOf vi).toNat)
  case atStart => exact ⟨0, by omega, rfl, rfl, Below.refl _ _⟩
  case round =>
    obtain ⟨i, hi, rfl, hA, hB⟩ := hrel
    by_cases hlt : i < es.length
    · have hg : es[i]? = some es[i] := List.getElem?_eq_getElem hlt
      obtain ⟨b, o, rfl, hm⟩ := (HE.out.below hB.out).at hg
      have HST := hid_in (noBytes_any es[i] (HK.out _ (List.getElem_mem hlt)) wr)
      have HT := hid_in (show (es.take (i + 1)).all shortE = shortE es[i] by
        rw [List.take_succ_eq_append_getElem hlt, List.all_append, hA.out]; simp)
      have HF : Hid (shortE es[i] = false → ¬ es.all shortE = true) := hid_in (fun hf ha => by
        have := List.all_eq_true.1 ha _ (List.getElem_mem hlt)
        rw [hf] at this
        cases this)
      clear hg
      generalize es[i] = x at *
      obtain ⟨cl, nu, ⟨kd, pa, de, da, at_, sz⟩⟩ := x
      simp only [Ent.val] at HST
      have m0 : wr.cell? ⟨b, o + i * 8, none⟩ = some (.int .i64 cl) := by simpa using hm 0 _ rfl
      have m1 : wr.cell? ⟨b, o + i * 8 + 1, none⟩ = some (.int .i64 nu) := hm 1 _ rfl
      have m2 : wr.cell? ⟨b, o + i * 8 + 2, none⟩ = some (.int .i64 kd) := hm 2 _ rfl
      have m3 : wr.cell? ⟨b, o + i * 8 + 3, none⟩ = some (.string pa) := hm 3 _ rfl
      have m4 : wr.cell? ⟨b, o + i * 8 + 4, none⟩ = some (.string de) := hm 4 _ rfl
      have m5 : wr.cell? ⟨b, o + i * 8 + 5, none⟩ = some (.string da) := hm 5 _ rfl
      have m6 : wr.cell? ⟨b, o + i * 8 + 6, none⟩ = some (.int .i64 at_) := hm 6 _ rfl
      have m7 : wr.cell? ⟨b, o + i * 8 + 7, none⟩ = some (.int .i64 sz) := hm 7 _ rfl
      clear hm
      generalize hsh : shortE ⟨cl, nu, ⟨kd, pa, de, da, at_, sz⟩⟩ = sh at *
      clear hsh
      cases sh
      · go_wp2_with (first | (go_at_call 38; refine HST.out.mono ?_; rintro r w1 ⟨rfl, hb⟩; have HB1 := hid_in hb; clear hb))
        go_ret
        refine ⟨⟨_, rfl, ?_⟩, hB.out.trans (HB1.out.mono hB.out.size)⟩
        have hx := HF.out (by trivial)
        constructor
        · intro h; omega
        · intro h; exact absurd h hx
      · go_wp2_with (first | (go_at_call 38; refine HST.out.mono ?_; rintro r w1 ⟨rfl, hb⟩; have HB1 := hid_in hb; clear hb))
        go_roundw
        case rel => exact ⟨i + 1, by omega, by go_num, HT.out, hB.out.trans (HB1.out.mono hB.out.size)⟩
        case measure => simp [intOf]; omega
    · obtain rfl : i = es.length := by omega
      go_wp2
      go_ret
      exact ⟨⟨_, rfl, by rw [List.take_length] at hA; simp [hA.out]⟩, hB.out⟩
set_option maxHeartbeats 1000000 in
theorem contains_any (es : List Ent) (v : Value) (w : World) (hn : es.length ≤ 9223372036854775807) (h : Es w v es) (hok : ∀ e ∈ es, e.ok) :
    Calls Try.prog 37 #[v, .func (.func 38) #[] #[]] w fun e w' => e = .returned (.bool (!es.all shortE)) ∧ Below w.heap.size w w' := by
  have HI := hid_in (index_any es v w hn h hok)
  clear h hok
  go_enter Try.func37, Try.ntmps37
  go_wp2_with (first | (go_at_call 55; refine HI.out.mono ?_; rintro e w1 ⟨⟨r, rfl, hr⟩, hb⟩; have HR := hid_in hr; have HB := hid_in hb; clear hr hb))
  go_ret
  refine ⟨?_, HB.out⟩
  have hr := HR.out
  cases ha : es.all shortE
  · rw [ha] at hr
    have : ¬ r < 0 := fun h => by have := hr.1 h; cases this
    simp
    omega
  · rw [ha] at hr
    have : r < 0 := hr.2 rfl
    simp
    omega
end Go.Proofs.Ytjjofjnhhajjjaa.Jr
namespace Go.Proofs.Ytjjofjnhhajjjaa.Jr
open Go.RowKit
open Nd (Row wp_world post_Row grownBy_setCell below_of_grown u8v Grew Sl hid_in i64r bytesS str encO)
theorem row_new (w : World) (vs : List Value) (t : TypeId) : ∃ W, Hid (w.alloc (.cells vs.toArray t) = W) ∧ Hid (Row W w.heap.size vs t) ∧ Hid (Below w.heap.size w W) ∧ Hid (W.heap.size = w.heap.size + 1) :=
  ⟨_, rfl, Row.new w vs t, (Below.refl _ _).alloc (Nat.le_refl _) _, by show _ = _; simp⟩
theorem empty_no {d : ByteArray} (h : d ≠ ⟨#[]⟩) : (d == ⟨#[]⟩) = false ∧ d.toList.isEmpty = false ∧ (d.toList == []) = false := by
  have hl : d.toList ≠ [] := fun hh => h (by
    have e := Lib.toList_data d
    rw [hh] at e
    obtain ⟨⟨l⟩⟩ := d
    simp at e
    subst e
    rfl)
  refine ⟨by rw [Bool.eq_false_iff]; exact fun hh => h ((MapKept.bytes_beq d _).1 hh), by simpa using hl, by simpa using hl⟩
theorem size_zero {d : ByteArray} (h : d ≠ ⟨#[]⟩) : d.size ≠ 0 := by
  intro hs
  apply h
  obtain ⟨⟨l⟩⟩ := d
  have : l.length = 0 := hs
  rw [List.length_eq_zero_iff] at this
  subst this
  rfl
def ifB : Bool → Int
  | true => 0
  | false => 1
/-- what Check says -/
def ckE (k : Kt) : Int := ifB (may k)
theorem ckE_yes {k : Kt} (h : may k = true) : ckE k = 0 := by unfold ckE; rw [h]; rfl
theorem ckE_no {k : Kt} (h : may k = false) : ckE k = 1 := by unfold ckE; rw [h]; rfl
set_option maxHeartbeats 2000000 in
set_option maxRecDepth 100000 in
theorem check_any (k : Kt) (v : Value) (w : World) (hk : k.ok) (hes : Es w v k.ents) : Calls Try.prog 19 #[k.val v] w fun e w' => e = .returned (.int .i64 (ckE k)) ∧ Below w.heap.size w w' := by
  obtain ⟨vw, nm, ba, st, es⟩ := k
  obtain ⟨p, cap, rfl, hc1, hc2⟩ := hes.form
  have HE := hid_in hes
  have HOK := hid_in hk.ents
  obtain ⟨hv1, hv2⟩ := hk.view
  obtain ⟨hn1, hn2⟩ := hk.normal
  obtain ⟨hb1, hb2⟩ := hk.base
  have hst := hk.state
  have hfew := hk.few
  simp only at *
  obtain ⟨W1, HW1, HR1, HB1, HS1⟩ := row_new w [.int .i64 vw, .int .i64 nm, .int .i64 ba, .string st, .slice p es.length cap] 30
  have HCT := hid_in (fun W (x : Below w.heap.size w W) => contains_any es _ W hfew (HE.out.below x) HOK.out)
  have HM : Hid (may ⟨vw, nm, ba, st, es⟩ = (decide (0 ≤ nm ∧ nm ≤ vw ∧ vw ≤ 1099511627776) && decide (0 ≤ ba ∧ ba + (es.length : Int) ≤ 1099511627776) && decide (st.size ≤ 65536 ∧ (0 < ba ∨ st.size = 0)) && (decide (es.length ≤ 32) && es.all shortE))) := by
    show _ = _
    unfold may
    simp only
    rw [Bool.eq_iff_iff]
    simp only [Bool.and_eq_true, decide_eq_true_eq]
    constructor
    · rintro ⟨⟨h1, h2, h3, h4, h5, h6, h7, h8⟩, h9⟩
      exact ⟨⟨⟨⟨h1, h2, h3⟩, h4, h5⟩, h6, h7⟩, h8, h9⟩
    · rintro ⟨⟨⟨⟨h1, h2, h3⟩, h4, h5⟩, h6, h7⟩, h8, h9⟩
      exact ⟨⟨h1, h2, h3, h4, h5, h6, h7, h8⟩, h9⟩
  unfold ckE
  rw [HM.out]
  simp only [Kt.val]
  clear hes hk HM
  have hl0 : (0 : Int) ≤ (es.length : Int) := by omega
  have hsz0 : (0 : Int) ≤ (st.size : Int) := by omega
  generalize es.length = n at *
  generalize es.all shortE = sh at *
  obtain ⟨t1, HT1⟩ : ∃ t, Hid (decide (0 ≤ nm ∧ nm ≤ vw ∧ vw ≤ 1099511627776) = t) := ⟨_, hid_in rfl⟩
  obtain ⟨t2, HT2⟩ : ∃ t, Hid (decide (0 ≤ ba ∧ ba + (n : Int) ≤ 1099511627776) = t) := ⟨_, hid_in rfl⟩
  obtain ⟨t3, HT3⟩ : ∃ t, Hid (decide (st.size ≤ 65536 ∧ (0 < ba ∨ st.size = 0)) = t) := ⟨_, hid_in rfl⟩
  obtain ⟨t4, HT4⟩ : ∃ t, Hid ((decide (n ≤ 32) && sh) = t) := ⟨_, hid_in rfl⟩
  rw [HT1.out, HT2.out, HT3.out, HT4.out]
  go_enter Try.func19, Try.ntmps19
  go_upto_region 1 with fail
  refine wp_world HW1.out ?_
  have r0 := HR1.out.cell 0
  have r1 := HR1.out.cell 1
  have r2 := HR1.out.cell 2
  have r3 := HR1.out.cell 3
  have r4 := HR1.out.cell 4
  go_cut [3] from 7 to 21 (fun x W => x = .bool t1 ∧ W = W1)
  case first =>
    by_cases c1 : 0 ≤ nm
    · by_cases c2 : nm ≤ vw
      · by_cases c3 : vw ≤ 1099511627776
        all_goals
          go_wp2_with fail
          go_meet
          exact ⟨by first | rw [← HT1.out, decide_eq_true (by omega)] | rw [← HT1.out, decide_eq_false (by omega)], rfl⟩
      · go_wp2_with fail
        go_meet
        exact ⟨by first | rw [← HT1.out, decide_eq_true (by omega)] | rw [← HT1.out, decide_eq_false (by omega)], rfl⟩
    · go_wp2_with fail
      go_meet
      exact ⟨by first | rw [← HT1.out, decide_eq_true (by omega)] | rw [← HT1.out, decide_eq_false (by omega)], rfl⟩
  case rest =>
    obtain ⟨rfl, hwc⟩ := hcut
    subst hwc
    clear hn1 hn2 hv1 hv2
    go_upto_region 2 with fail
    go_cut [4] from 22 to 33 (fun x W => x = .bool t2 ∧ W = wc)
    case first =>
      by_cases c1 : 0 ≤ ba
      · by_cases c2 : ba ≤ 1099511627776 - (n : Int)
        all_goals
          go_wp2_with fail
          go_meet
          exact ⟨by first | rw [← HT2.out, decide_eq_true (by omega)] | rw [← HT2.out, decide_eq_false (by omega)], rfl⟩
      · go_wp2_with fail
        go_meet
        exact ⟨by first | rw [← HT2.out, decide_eq_true (by omega)] | rw [← HT2.out, decide_eq_false (by omega)], rfl⟩
    case rest =>
      obtain ⟨rfl, hwd⟩ := hcut
      subst hwd
      go_upto_region 3 with fail
      go_cut [5] from 34 to 47 (fun x W => x = .bool t3 ∧ W = wc)
      case first =>
        by_cases c1 : (st.size : Int) ≤ 65536
        · by_cases c2 : 0 < ba
          · go_wp2_with fail
            go_meet
            exact ⟨by first | rw [← HT3.out, decide_eq_true (by omega)] | rw [← HT3.out, decide_eq_false (by omega)], rfl⟩
          · by_cases c3 : st = ⟨#[]⟩
            · subst c3
              have hz : (⟨#[]⟩ : ByteArray).size = 0 := rfl
              go_wp2_with fail
              go_meet
              exact ⟨by rw [← HT3.out, decide_eq_true (by omega)], rfl⟩
            · obtain ⟨d1, d2, d3⟩ := empty_no c3
              have hz := size_zero c3
              go_wp2_with fail
              go_meet
              exact ⟨by rw [← HT3.out, decide_eq_false (by omega)], rfl⟩
        · go_wp2_with fail
          go_meet
          exact ⟨by first | rw [← HT3.out, decide_eq_true (by omega)] | rw [← HT3.out, decide_eq_false (by omega)], rfl⟩
      case rest =>
        obtain ⟨rfl, hwd⟩ := hcut
        subst hwd
        go_upto_region 4 with fail
        go_cut [6] from 48 to 57 (fun x W => x = .bool t4 ∧ Hid (Below w.heap.size w W))
        case first =>
          by_cases c1 : (n : Int) ≤ 32
          · cases sh
            all_goals
              go_wp2_with (first | (go_at_call 37; refine (HCT.out _ HB1.out).mono ?_; rintro r w2 ⟨rfl, hb⟩; have HB2 := hid_in hb; clear hb))
              go_meet
              exact ⟨by rw [← HT4.out, decide_eq_true (by omega)]; rfl, HB1.out.trans (HB2.out.mono HB1.out.size)⟩
          · go_wp2_with fail
            go_meet
            exact ⟨by rw [← HT4.out, decide_eq_false (by omega)]; rfl, HB1.out⟩
        case rest =>
          obtain ⟨rfl, HB3⟩ := hcut
          go_upto_region 5 with fail
          cases t1 <;> cases t2 <;> cases t3 <;> cases t4
          all_goals
            go_wp2_with fail
            go_ret
            exact ⟨rfl, HB3.out⟩
end Go.Proofs.Ytjjofjnhhajjjaa.Jr
