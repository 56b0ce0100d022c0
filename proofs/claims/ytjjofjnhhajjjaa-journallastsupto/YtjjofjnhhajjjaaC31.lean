/-
  Reading a record of one entry. Records that can be read; what many of them make.
-/
import Derived.Laws.Tables
import Derived.OwnWalk
import Derived.Lib.SlBytesConst
import Derived.Deep.RegionLaw
import Derived.Deep.CutRange
import Derived.Laws.CopyOwn
import Derived.Deep.DrawnRows
import Derived.Laws.StructEq
import Derived.Test.YtjjofjnhhajjjaaC00
import Derived.Test.YtjjofjnhhajjjaaC01
import Derived.Test.YtjjofjnhhajjjaaC02
import Derived.Test.YtjjofjnhhajjjaaC03
import Derived.Test.YtjjofjnhhajjjaaC04
import Derived.Test.YtjjofjnhhajjjaaC05
import Derived.Test.YtjjofjnhhajjjaaC06
import Derived.Test.YtjjofjnhhajjjaaC07
import Derived.Test.YtjjofjnhhajjjaaC08
import Derived.Test.YtjjofjnhhajjjaaC09
import Derived.Test.YtjjofjnhhajjjaaC10
import Derived.Test.YtjjofjnhhajjjaaC11
import Derived.Test.YtjjofjnhhajjjaaC12
import Derived.Test.YtjjofjnhhajjjaaC13
import Derived.Test.YtjjofjnhhajjjaaC14
import Derived.Test.YtjjofjnhhajjjaaC15
import Derived.Test.YtjjofjnhhajjjaaC16
import Derived.Test.YtjjofjnhhajjjaaC17
import Derived.Test.YtjjofjnhhajjjaaC18
import Derived.Test.YtjjofjnhhajjjaaC19
import Derived.Test.YtjjofjnhhajjjaaC20
import Derived.Test.YtjjofjnhhajjjaaC21
import Derived.Test.YtjjofjnhhajjjaaC22
import Derived.Test.YtjjofjnhhajjjaaC23
import Derived.Test.YtjjofjnhhajjjaaC24
import Derived.Test.YtjjofjnhhajjjaaC25
import Derived.Test.YtjjofjnhhajjjaaC26
import Derived.Test.YtjjofjnhhajjjaaC29
import Derived.Test.YtjjofjnhhajjjaaC30
namespace Go.Proofs.Ytjjofjnhhajjjaa.Jr
open Go.RowKit
open Nd (Row wp_world post_Row grownBy_setCell grownBy_trans below_of_grown u8v Grew Sl hid_in i64r bytesS str encO In)
set_option maxHeartbeats 8000000 in
set_option maxRecDepth 100000 in
theorem read_2 (e : Ent) (hok : e.ok) (hsh : e.op.short) (w : World) (bs : List Nat) (hbs : bs = Nd.Wire.num 2 ++ entsS [e]) (p : Option Addr) (cap b off : Nat) (hsl : Sl w p bs cap b off) (hno : p = none → bs.length = 0 ∧ cap = 0) (hre : bs.length ≤ 262144) :
    Calls Try.prog 43 #[.slice p bs.length cap] w (RdR w 2 0 0 0 0 ⟨#[]⟩ [e]) := by
  obtain ⟨W1, H1, R1, B1, S1⟩ := row_new w z7 77
  have HRA := hid_in (Nd.read_any bs p cap b off W1 (hsl.below B1.out) hno (by omega))
  obtain ⟨se, HSE⟩ : ∃ se, Hid (entS e = se) := ⟨_, hid_in rfl⟩
  have HEO := hid_in hok
  have HEH := hid_in hsh
  clear hok hsh
  have hb2 : bs = Nd.Wire.num 2 ++ (se ++ []) := by rw [hbs, ← HSE.out]; simp [entsS]
  have HN := hid_in (fun W B g (h : In B W g (Nd.Wire.num 2 ++ (se ++ []), 0)) => number_c W g 2 4 _ (by decide) (by decide) h)
  have HB2 := hid_in hb2
  have HEX := hid_in (fun W => es_one W e)
  have HRD := hid_in (fun (B : Nat) (W : World) g r (hB : B ≤ W.heap.size) (hl : r.length ≤ 1000000) (hi : In B W g (entS e ++ r, 0)) => readEntry_c W g e r hB HEO.out HEH.out hl hi)
  rw [HSE.out] at HRD
  clear HSE
  obtain ⟨cl, nu, ⟨kd, pa, de, da, at_, sz⟩⟩ := e
  simp only [Ent.val] at HRD
  simp only at HEX
  obtain ⟨len, HLEN⟩ : ∃ len, Hid (bs.length = len) := ⟨_, hid_in rfl⟩
  rw [HLEN.out] at HRA ⊢
  clear hsl hno hre hbs hb2
  go_enter Try.func43, Try.ntmps43
  go_upto_region 1 with fail
  refine wp_world H1.out ?_
  go_upto_region 3 with (first | (go_at_call 61; refine HRA.out.mono ?_; rintro x w2 ⟨g, rfl, h1, h2, h3⟩; have HG2 := hid_in h2; have HBE := hid_in h3; have HI2 : Hid (In w2.heap.size w2 g (Nd.Wire.num 2 ++ (se ++ []), 0)) := hid_in (by rw [← HB2.out]; exact h1); have HN2 := hid_in (HN.out w2 w2.heap.size g HI2.out); clear h1 h2 h3) | (go_at_call 62; refine HN2.out.mono ?_; rintro x w3 ⟨rfl, h1, h2⟩; have HI3 := hid_in h1; have HG3 := hid_in h2; clear h1 h2))
  obtain ⟨w4, H4, R4, B4, S4⟩ := row_new w3 [.int .i64 2, .int .i64 0, .int .i64 0, .int .i64 0, .int .i64 0, .string ⟨#[]⟩, .slice none 0 0] 77
  have hs1 := S1.out
  have hz2 := HG3.out.size
  have hgl : g < w2.heap.size := Nd.InIs.blk HI2.out
  have hge := HG2.out
  have RS0 : Hid (RS w w4 w2.heap.size g w3.heap.size [.int .i64 2, .int .i64 0, .int .i64 0, .int .i64 0, .int .i64 0, .string ⟨#[]⟩, .slice none 0 0] (se ++ [])) := by
    have hr2 : Row w2 w.heap.size z7 77 := R1.out.below HBE.out (by omega)
    have hr3 : Row w3 w.heap.size z7 77 := hr2.grew HG3.out (by omega)
    exact ⟨in_below HI3.out B4.out, hr3.below B4.out (by have := HBE.out.size; omega), R4.out, (HG3.out.below (B1.out.trans (HBE.out.mono B1.out.size)) (by have := HBE.out.size; omega) (fun k hk => by omega)).trans (B4.out.mono (by have := HBE.out.size; omega)), by omega, by omega, hz2⟩
  generalize w2.heap.size = B at *
  have hmz : w.heap.size < w3.heap.size := Nat.lt_trans RS0.out.hg RS0.out.hm
  have hne1 : ¬ w.heap.size = w3.heap.size := Nat.ne_of_lt hmz
  have hne2 : ¬ w3.heap.size = w.heap.size := fun e => hne1 e.symm
  have HMZ := hid_in hmz
  generalize w3.heap.size = m at *
  clear hs1 hz2 hgl hge hmz
  have HC0 := hid_in (HRD.out _ w4 g [] RS0.out.size (by decide) RS0.out.inn)
  refine wp_world H4.out ?_
  have m0 : w4.cell? ⟨m, 0, none⟩ = some (.int .i64 2) := RS0.out.mr.cell 0; have fm0 := RS0.out.mr.frozen 0; have m1 : w4.cell? ⟨m, 1, none⟩ = some (.int .i64 0) := RS0.out.mr.cell 1; have fm1 := RS0.out.mr.frozen 1; have m2 : w4.cell? ⟨m, 2, none⟩ = some (.int .i64 0) := RS0.out.mr.cell 2; have fm2 := RS0.out.mr.frozen 2; have m3 : w4.cell? ⟨m, 3, none⟩ = some (.int .i64 0) := RS0.out.mr.cell 3; have fm3 := RS0.out.mr.frozen 3; have m4 : w4.cell? ⟨m, 4, none⟩ = some (.int .i64 0) := RS0.out.mr.cell 4; have fm4 := RS0.out.mr.frozen 4; have m5 : w4.cell? ⟨m, 5, none⟩ = some (.string ⟨#[]⟩) := RS0.out.mr.cell 5; have fm5 := RS0.out.mr.frozen 5; have m6 : w4.cell? ⟨m, 6, none⟩ = some (.slice none 0 0) := RS0.out.mr.cell 6; have fm6 := RS0.out.mr.frozen 6
  go_upto_region 19 with (first | (go_at_call 63; refine HC0.out.mono ?_; rintro x v0 ⟨rfl, h1, h2⟩; clear m0 fm0 m1 fm1 m2 fm2 m3 fm3 m4 fm4 m5 fm5 m6 fm6; have HVS := hid_in h2.size; obtain ⟨W9, HW9, HO9, HE9, HB9⟩ := HEX.out v0; have RSA0 := hid_in (RS0.out.step (in_below h1 HB9.out) (h2.trans (Grew.of_below (· = g) HB9.out) (fun _ _ h => h))); have HEV := HO9; have hw9 := HW9.out; subst hw9; have m0 : (v0.alloc (.cells #[.int .i64 cl, .int .i64 nu, .int .i64 kd, .string pa, .string de, .string da, .int .i64 at_, .int .i64 sz] 51)).cell? ⟨m, 0, none⟩ = some (.int .i64 2) := RSA0.out.mr.cell 0; have fm0 := RSA0.out.mr.frozen 0; have m1 : (v0.alloc (.cells #[.int .i64 cl, .int .i64 nu, .int .i64 kd, .string pa, .string de, .string da, .int .i64 at_, .int .i64 sz] 51)).cell? ⟨m, 1, none⟩ = some (.int .i64 0) := RSA0.out.mr.cell 1; have fm1 := RSA0.out.mr.frozen 1; have m2 : (v0.alloc (.cells #[.int .i64 cl, .int .i64 nu, .int .i64 kd, .string pa, .string de, .string da, .int .i64 at_, .int .i64 sz] 51)).cell? ⟨m, 2, none⟩ = some (.int .i64 0) := RSA0.out.mr.cell 2; have fm2 := RSA0.out.mr.frozen 2; have m3 : (v0.alloc (.cells #[.int .i64 cl, .int .i64 nu, .int .i64 kd, .string pa, .string de, .string da, .int .i64 at_, .int .i64 sz] 51)).cell? ⟨m, 3, none⟩ = some (.int .i64 0) := RSA0.out.mr.cell 3; have fm3 := RSA0.out.mr.frozen 3; have m4 : (v0.alloc (.cells #[.int .i64 cl, .int .i64 nu, .int .i64 kd, .string pa, .string de, .string da, .int .i64 at_, .int .i64 sz] 51)).cell? ⟨m, 4, none⟩ = some (.int .i64 0) := RSA0.out.mr.cell 4; have fm4 := RSA0.out.mr.frozen 4; have m5 : (v0.alloc (.cells #[.int .i64 cl, .int .i64 nu, .int .i64 kd, .string pa, .string de, .string da, .int .i64 at_, .int .i64 sz] 51)).cell? ⟨m, 5, none⟩ = some (.string ⟨#[]⟩) := RSA0.out.mr.cell 5; have fm5 := RSA0.out.mr.frozen 5; have m6 : (v0.alloc (.cells #[.int .i64 cl, .int .i64 nu, .int .i64 kd, .string pa, .string de, .string da, .int .i64 at_, .int .i64 sz] 51)).cell? ⟨m, 6, none⟩ = some (.slice none 0 0) := RSA0.out.mr.cell 6; have fm6 := RSA0.out.mr.frozen 6; have RS1 := hid_in (RSA0.out.set 6 (.slice (some ⟨v0.heap.size, 0, none⟩) 1 1)); clear h1 h2 HC0))
  obtain ⟨w8, HW8⟩ : ∃ w8, Hid ((v0.alloc (.cells #[.int .i64 cl, .int .i64 nu, .int .i64 kd, .string pa, .string de, .string da, .int .i64 at_, .int .i64 sz] 51)).setCell ⟨m, 6, none⟩ (.slice (some ⟨v0.heap.size, 0, none⟩) 1 1) = w8) := ⟨_, hid_in rfl⟩
  have hrs := RS1.out
  rw [HW8.out] at hrs
  have HRS := hid_in hrs
  have HEN := hid_in (Nd.iend_any w8 g 0 [] hrs.inn)
  have hdt : decide ((0 : Nat) = 0 ∧ ([] : List Nat).length = 0) = true := by decide
  rw [hdt] at HEN
  have HEO8 : Hid (EO w8 (m + 1) (.slice (some ⟨v0.heap.size, 0, none⟩) 1 1) [(⟨cl, nu, ⟨kd, pa, de, da, at_, sz⟩⟩ : Ent)]) := hid_in (by
    rw [← HW8.out]
    exact EO.keepN (EO.mono HEV.out (Nat.le_trans RS0.out.mr.lt HVS.out)) (grownBy_setCell _ _ _) (by show m < m + 1; omega))
  refine wp_world HW8.out ?_
  clear hdt m0 fm0 m1 fm1 m2 fm2 m3 fm3 m4 fm4 m5 fm5 m6 fm6
  have q0 : w8.cell? ⟨m, 0, none⟩ = some (.int .i64 2) := hrs.mr.cell 0
  have fq0 := hrs.mr.frozen 0
  have q1 : w8.cell? ⟨m, 1, none⟩ = some (.int .i64 0) := hrs.mr.cell 1
  have fq1 := hrs.mr.frozen 1
  have q2 : w8.cell? ⟨m, 2, none⟩ = some (.int .i64 0) := hrs.mr.cell 2
  have fq2 := hrs.mr.frozen 2
  have q3 : w8.cell? ⟨m, 3, none⟩ = some (.int .i64 0) := hrs.mr.cell 3
  have fq3 := hrs.mr.frozen 3
  have q4 : w8.cell? ⟨m, 4, none⟩ = some (.int .i64 0) := hrs.mr.cell 4
  have fq4 := hrs.mr.frozen 4
  have q5 : w8.cell? ⟨m, 5, none⟩ = some (.string ⟨#[]⟩) := hrs.mr.cell 5
  have fq5 := hrs.mr.frozen 5
  have q6 : w8.cell? ⟨m, 6, none⟩ = some (.slice (some ⟨v0.heap.size, 0, none⟩) 1 1) := hrs.mr.cell 6
  have fq6 := hrs.mr.frozen 6
  have z0 : w8.cell? ⟨w.heap.size, 0, none⟩ = some (.int .i64 0) := hrs.zr.cell 0
  have fz0 := hrs.zr.frozen 0
  have z1 : w8.cell? ⟨w.heap.size, 1, none⟩ = some (.int .i64 0) := hrs.zr.cell 1
  have fz1 := hrs.zr.frozen 1
  have z2 : w8.cell? ⟨w.heap.size, 2, none⟩ = some (.int .i64 0) := hrs.zr.cell 2
  have fz2 := hrs.zr.frozen 2
  have z3 : w8.cell? ⟨w.heap.size, 3, none⟩ = some (.int .i64 0) := hrs.zr.cell 3
  have fz3 := hrs.zr.frozen 3
  have z4 : w8.cell? ⟨w.heap.size, 4, none⟩ = some (.int .i64 0) := hrs.zr.cell 4
  have fz4 := hrs.zr.frozen 4
  have z5 : w8.cell? ⟨w.heap.size, 5, none⟩ = some (.string ⟨#[]⟩) := hrs.zr.cell 5
  have fz5 := hrs.zr.frozen 5
  have z6 : w8.cell? ⟨w.heap.size, 6, none⟩ = some (.slice none 0 0) := hrs.zr.cell 6
  have fz6 := hrs.zr.frozen 6
  clear hrs
  go_wp2_with (first | (go_at_call 66; refine HEN.out.mono ?_; rintro x w9 ⟨rfl, rfl⟩))
  have HF := set7 HRS.out.zr (.int .i64 2) (.int .i64 0) (.int .i64 0) (.int .i64 0) (.int .i64 0) (.string ⟨#[]⟩) (.slice (some ⟨v0.heap.size, 0, none⟩) 1 1)
  refine post_Row 2 77 Try.results43 w.heap.size rfl 77 _ HF.1 _ Try.underlying77 rfl 7 info77 rfl rfl ?_
  have hmz := HMZ.out
  exact ⟨_, rfl, EO.mono (EO.keepN HEO8.out HF.2 (by omega)) (by omega), HRS.out.bel.grown HF.2 HRS.out.bel.size (fun k e => by cases e; exact Nat.le_refl _)⟩
end Go.Proofs.Ytjjofjnhhajjjaa.Jr
namespace Go.Proofs.Ytjjofjnhhajjjaa.Jr
open Go.RowKit
open Nd (Row wp_world post_Row grownBy_setCell grownBy_trans below_of_grown u8v Grew Sl hid_in i64r bytesS str encO In)
/-- a record as it is read -/
inductive Rd : Rc → Prop
  | v (v : Int) : 0 ≤ v → v ≤ 1099511627776 → Rd (recV v)
  | e (e : Ent) : e.ok → e.op.short → Rd (recE e)
  | a (v f : Int) (es : List Ent) : 0 ≤ v → v ≤ 1099511627776 → 0 ≤ f → f ≤ 1099511627776 → es.length ≤ 32 → (∀ e ∈ es, e.ok) → (∀ e ∈ es, e.op.short) → Rd (recA v f es)
  | l (k : Kt) : k.ok → may k = true → Rd (recL k)
theorem Rd.ok {r : Rc} (h : Rd r) : r.ok := by
  cases h with
  | v v h1 h2 => exact recV_ok ⟨by omega, by omega⟩
  | e e h1 h2 => exact recE_ok h1
  | a v f es h1 h2 h3 h4 h5 h6 h7 => exact recA_ok ⟨by omega, by omega⟩ ⟨by omega, by omega⟩ (by omega) h6
  | l k h1 h2 => exact recL_ok h1
theorem Rd.pay {r : Rc} (h : Rd r) : PayOk r := by
  cases h with
  | v v h1 h2 => exact ⟨.inl rfl, zz0, ⟨h1, h2⟩, zz0, zz0, Nat.zero_le _, Nat.zero_le _, fun e => absurd e k12, fun e he => (by cases he), fun e he => (by cases he)⟩
  | e e h1 h2 => exact ⟨.inr (.inl rfl), zz0, zz0, zz0, zz0, Nat.zero_le _, by show 1 ≤ 32; decide, fun _ => rfl, fun x hx => by rw [List.mem_singleton.1 hx]; exact h1, fun x hx => by rw [List.mem_singleton.1 hx]; exact h2⟩
  | a v f es h1 h2 h3 h4 h5 h6 h7 => exact ⟨.inr (.inr (.inl rfl)), ⟨h3, h4⟩, ⟨h1, h2⟩, zz0, zz0, Nat.zero_le _, h5, fun e => absurd e k32, h6, h7⟩
  | l k h1 h2 => exact recL_pay h1 h2
theorem Rd.few {r : Rc} (h : Rd r) : r.told.ents.length ≤ 100000000 := Nat.le_trans h.pay.few (by decide)
theorem read_c {r : Rc} (h : Rd r) (w : World) (bs : List Nat) (hbs : bs = payS r) (p : Option Addr) (cap b off : Nat) (hsl : Sl w p bs cap b off) (hno : p = none → bs.length = 0 ∧ cap = 0) :
    Calls Try.prog 43 #[.slice p bs.length cap] w fun x w' => ∃ v, x = .returned (r.val v) ∧ EO w' w.heap.size v r.told.ents ∧ Below w.heap.size w w' := by
  have hre : bs.length ≤ 262144 := by rw [hbs]; exact payS_len r h.pay
  cases h with
  | v v h1 h2 =>
    obtain ⟨n, rfl⟩ := Int.eq_ofNat_of_zero_le h1
    exact read_1 n (by omega) w bs (by rw [hbs]; exact payS_1 0 n 0 0 _ _) p cap b off hsl hno hre
  | e e h1 h2 => exact read_2 e h1 h2 w bs (by rw [hbs]; exact payS_2 0 0 0 0 _ _) p cap b off hsl hno hre
  | a v f es h1 h2 h3 h4 h5 h6 h7 =>
    obtain ⟨n, rfl⟩ := Int.eq_ofNat_of_zero_le h1
    obtain ⟨m, rfl⟩ := Int.eq_ofNat_of_zero_le h3
    exact read_3 m n es (by omega) (by omega) h5 h6 h7 w bs (by rw [hbs]; exact payS_3 m n 0 0 _ _) p cap b off hsl hno hre
  | l k h1 h2 =>
    have hm := (may_iff k).1 h2
    obtain ⟨kv, kn, kb, ks, ke⟩ := k
    have a1 := hm.n0
    have a2 := hm.nv
    have a3 := hm.vg
    have a4 := hm.b0
    have a5 := hm.bg
    simp only at a1 a2 a3 a4 a5
    obtain ⟨n1, rfl⟩ := Int.eq_ofNat_of_zero_le a1
    obtain ⟨n2, rfl⟩ := Int.eq_ofNat_of_zero_le (show 0 ≤ kv by omega)
    obtain ⟨n3, rfl⟩ := Int.eq_ofNat_of_zero_le a4
    exact read_4 n2 n1 n3 ks ke (by omega) (by omega) (by omega) hm.st hm.few h1.ents hm.sh w bs (by rw [hbs]; exact payS_4 0 n2 n1 n3 _ _) p cap b off hsl hno hre
/-- what records make, one behind the other -/
def foldA : List Rc → Kt → Option Kt
  | [], k => some k
  | r :: rs, k => match foldS r k with
    | none => none
    | some n => foldA rs n
def foldT (rs : List Rc) : Option Kt → Option Kt
  | none => none
  | some n => foldA rs n
theorem foldA_cons (r : Rc) (rs : List Rc) (k : Kt) : foldA (r :: rs) k = foldT rs (foldS r k) := by
  show (match foldS r k with | none => none | some n => foldA rs n) = _
  cases foldS r k <;> rfl
theorem foldA_app (rs : List Rc) (r : Rc) (k n : Kt) (h : foldA rs k = some n) : foldA (rs ++ [r]) k = foldS r n := by
  induction rs generalizing k with
  | nil =>
    have e : k = n := Option.some.inj h
    rw [e]
    show (match foldS r n with | none => none | some m => foldA [] m) = foldS r n
    cases foldS r n <;> rfl
  | cons x xs ih =>
    show (match foldS x k with | none => none | some n => foldA (xs ++ [r]) n) = _
    have h' : (match foldS x k with | none => none | some n => foldA xs n) = some n := h
    cases hx : foldS x k with
    | none => rw [hx] at h'; cases h'
    | some m =>
      rw [hx] at h'
      simp only
      exact ih m h'
theorem foldS_ok {r : Rc} {k n : Kt} (hr : Rd r) (hk : k.ok) (hm : may k = true) (h : foldS r k = some n) : n.ok ∧ may n = true := by
  obtain ⟨h1, h2⟩ := foldS_may h
  have := ((may_iff k).1 hm).few
  have := hr.few
  exact ⟨nextS_ok hr.ok hk (by omega) (by omega) h2, h1⟩
theorem Held.at {w : World} {B : Nat} {v : Value} {ps : List Nd.Part} (h : Nd.Held w B v ps) : (ps = [] ∧ v = .slice none 0 0) ∨ ∃ g cap, v = .slice (some ⟨g, 0, none⟩) ps.length cap ∧ ps.length ≤ cap ∧ cap ≤ 9223372036854775807 ∧ g < w.heap.size ∧ ∀ i x, ps[i]? = some x → w.cell? ⟨g, i, none⟩ = some x.val := by
  obtain ⟨h1, h2 | ⟨g, cap, cur, rfl, hB, hh, hn, hm, hs, ht⟩⟩ := h.own
  · exact .inl ⟨List.length_eq_zero_iff.1 h2.2, h2.1⟩
  · refine .inr ⟨g, cap, rfl, hn, by unfold maxLen at hm; omega, (Array.getElem?_eq_some_iff.1 hh).1, fun i x hx => ?_⟩
    have hi : i < ps.length := (List.getElem?_eq_some_iff.1 hx).1
    have ht2 : (cur.toList.take (ps.length * 1))[i]? = (ps.map Nd.Part.val)[i]? := by rw [ht]
    rw [List.getElem?_take, if_pos (by omega), Array.getElem?_toList, List.getElem?_map, hx] at ht2
    rw [cell_of_row w g i _ _ (0, 0) hh]
    exact ht2
end Go.Proofs.Ytjjofjnhhajjjaa.Jr
