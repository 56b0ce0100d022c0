/-
  Reading: a number, an entry, entries.
-/
import Derived.Lib.ConvBytes
import Derived.Laws.Tables
import Derived.OwnWalk
import Derived.Deep.CutRange
import Derived.Laws.CopyOwn
import Derived.Deep.RegionLaw
import Derived.Deep.DrawnRows
import Derived.Laws.StructEq
import Derived.Lib.SlBytesConst
import Derived.Test.YtjjofjnhhajjjaaC00
import Derived.Test.YtjjofjnhhajjjaaC01
import Derived.Test.YtjjofjnhhajjjaaC02
import Derived.Test.YtjjofjnhhajjjaaC03
import Derived.Test.YtjjofjnhhajjjaaC04
import Derived.Test.YtjjofjnhhajjjaaC05
import Derived.Test.YtjjofjnhhajjjaaC06
import Derived.Test.YtjjofjnhhajjjaaC07
import Derived.Test.YtjjofjnhhajjjaaC08
import Derived.Test.YtjjofjnhhajjjaaC09
import Derived.Test.YtjjofjnhhajjjaaC10
import Derived.Test.YtjjofjnhhajjjaaC11
import Derived.Test.YtjjofjnhhajjjaaC12
import Derived.Test.YtjjofjnhhajjjaaC17
import Derived.Test.YtjjofjnhhajjjaaC18
import Derived.Test.YtjjofjnhhajjjaaC19
import Derived.Test.YtjjofjnhhajjjaaC20
namespace Go.Proofs.Ytjjofjnhhajjjaa.Jr
open Go.RowKit
open Nd (Row wp_world post_Row grownBy_setCell grownBy_trans below_of_grown u8v Grew Sl hid_in i64r bytesS str encO In)
theorem conv_str (w : World) (S : ByteArray) (hS : S.size ≤ 140737488355328) : ∃ C w', Hid ((convert 9 54 (.string S)).run Try.prog w = .ok (.slice (some ⟨w.heap.size, 0, none⟩) S.size C) w') ∧ Hid (Below w.heap.size w w') ∧ Hid (Sl w' (some ⟨w.heap.size, 0, none⟩) (bytesS S) C w.heap.size 0) := by
  have hr := Lib.run_convert_string_bytes (P := Try.prog) w 9 54 5 S Try.underlying9 Try.underlying54 Try.underlying5
  have hc : grownCap w S.size 0 5 ≤ maxLen := grownCap_le_maxLen w S.size 0 5 (by unfold maxLen; omega)
  have hg : S.size ≤ grownCap w S.size 0 5 := grownCap_ge w _ _ _
  unfold maxLen at hc
  refine ⟨_, _, hr, ⟨rfl, rfl, rfl, by rw [Lib.bytesWorld_size]; omega, fun k hk => Lib.bytesWorld_at_old w 5 S k hk⟩, ⟨Nd.bytesS_lt S, by rw [Nd.bytesS_length]; exact hg, by omega, fun _ => rfl, fun j hj => ?_⟩⟩
  rw [Nd.bytesS_length] at hj
  rw [Nat.zero_add, Lib.bytesWorld_cell w 5 S j hj]
  have hj2 : j < S.data.size := hj
  simp [Nd.bytesS, u8v]
  rw [Array.getElem?_eq_getElem hj2]
  rfl
theorem info51 : (Try.prog.info? 51).map (·.size) = some 8 := by kernel_rfl
theorem left_c {B : Nat} (w : World) (g : Nat) (s : Nd.Sta) (hi : In B w g s) : Calls Try.prog 82 #[.pointer (some ⟨g, 0, none⟩)] w fun r w' => r = .returned (.int .i64 (s.1.length : Int)) ∧ w' = w := by
  obtain ⟨bs, e⟩ := s
  obtain ⟨p, cap, b, off, hr, hsl, hno, hne⟩ := hi.ex
  have c0 : w.cell? ⟨g, 0, none⟩ = some (.slice p bs.length cap) := hr.cell 0
  clear hi hr hsl hno hne
  go_enter Try.func82, Try.ntmps82
  go_wp2
  go_ret
  exact ⟨rfl, rfl⟩
set_option maxHeartbeats 1000000 in
theorem number_c {B : Nat} (w : World) (g n m : Nat) (r : List Nat) (hn : n ≤ m) (hm : m ≤ 1099511627776) (hi : In B w g (Nd.Wire.num n ++ r, 0)) : Calls Try.prog 62 #[.pointer (some ⟨g, 0, none⟩), .int .u64 (m : Int)] w fun x w' => x = .returned (.int .i64 (n : Int)) ∧ In B w' g (r, 0) ∧ Grew w w' (· = g) := by
  have HN := hid_in (Nd.num_s w g B _ hi)
  rw [Nd.sNum_num n r (by omega)] at HN
  have h1 : ¬ (m : Int) < (n : Int) := by omega
  have h2 : (0 : Int) ≤ (n : Int) := by omega
  have h3 : (n : Int) ≤ 1099511627776 := by omega
  clear hi hn hm
  go_enter Try.func62, Try.ntmps62
  go_wp2_with (first | (go_at_call 79; refine HN.out.mono ?_; rintro x w1 ⟨rfl, ha, hb⟩; have HA := hid_in ha; have HB := hid_in hb; clear ha hb))
  go_ret
  exact ⟨rfl, HA.out, HB.out⟩
theorem decode_c (kd at_ sz : Int) (pa de da : ByteArray) (hok : (⟨kd, pa, de, da, at_, sz⟩ : Nd.Opn).ok) (hs : (⟨kd, pa, de, da, at_, sz⟩ : Nd.Opn).short) (eb : List Nat) (he : encO ⟨kd, pa, de, da, at_, sz⟩ = eb) (W : World) (p : Option Addr) (cap b : Nat) (h : Sl W p eb cap b 0) (hno : p = none → eb.length = 0 ∧ cap = 0) :
    Calls Try.prog 81 #[.slice p eb.length cap] W fun e w' => e = .returned (.tuple #[.agg #[.int .i64 kd, .string pa, .string de, .string da, .int .i64 at_, .int .i64 sz], .int .i64 0]) ∧ Below W.heap.size W w' := by
  have hel := Nd.encO_len _ hs
  have hrd := Nd.rdO_enc hok hs []
  rw [List.append_nil] at hrd
  rw [he] at hel hrd
  refine (Nd.decode_p eb p cap b 0 W h hno (by omega)).mono ?_
  rw [hrd]
  rintro e w' ⟨⟨_, h1⟩ | ⟨h1, _⟩, h2⟩
  · exact ⟨h1, h2⟩
  · exact absurd rfl h1
/-- a block that is not the In's is as it was -/
theorem in_below {B g : Nat} {w w' : World} {s : Nd.Sta} (h : In B w g s) (hb : Below w.heap.size w w') : In B w' g s := Nd.InIs.below h hb
theorem set6at {W : World} {Z : Nat} {t : TypeId} {vs : List Value} (_h : Row W Z vs t) (b2 b3 b4 b5 b6 b7 : Value) :
    W.grownBy ((((((W.setCell ⟨Z, 2, none⟩ b2).setCell ⟨Z, 3, none⟩ b3).setCell ⟨Z, 4, none⟩ b4).setCell ⟨Z, 5, none⟩ b5).setCell ⟨Z, 6, none⟩ b6).setCell ⟨Z, 7, none⟩ b7) (some Z) :=
  grownBy_trans (grownBy_trans (grownBy_trans (grownBy_trans (grownBy_trans (grownBy_setCell W ⟨Z, 2, none⟩ b2) (grownBy_setCell _ ⟨Z, 3, none⟩ b3)) (grownBy_setCell _ ⟨Z, 4, none⟩ b4)) (grownBy_setCell _ ⟨Z, 5, none⟩ b5)) (grownBy_setCell _ ⟨Z, 6, none⟩ b6)) (grownBy_setCell _ ⟨Z, 7, none⟩ b7)
theorem set8g {W : World} {Z : Nat} (b0 b1 b2 b3 b4 b5 b6 b7 : Value) :
    W.grownBy ((((((((W.setCell ⟨Z, 0, none⟩ b0).setCell ⟨Z, 1, none⟩ b1).setCell ⟨Z, 2, none⟩ b2).setCell ⟨Z, 3, none⟩ b3).setCell ⟨Z, 4, none⟩ b4).setCell ⟨Z, 5, none⟩ b5).setCell ⟨Z, 6, none⟩ b6).setCell ⟨Z, 7, none⟩ b7) (some Z) :=
  grownBy_trans (grownBy_trans (grownBy_trans (grownBy_trans (grownBy_trans (grownBy_trans (grownBy_trans (grownBy_setCell W ⟨Z, 0, none⟩ b0) (grownBy_setCell _ ⟨Z, 1, none⟩ b1)) (grownBy_setCell _ ⟨Z, 2, none⟩ b2)) (grownBy_setCell _ ⟨Z, 3, none⟩ b3)) (grownBy_setCell _ ⟨Z, 4, none⟩ b4)) (grownBy_setCell _ ⟨Z, 5, none⟩ b5)) (grownBy_setCell _ ⟨Z, 6, none⟩ b6)) (grownBy_setCell _ ⟨Z, 7, none⟩ b7)
theorem in_set {B g z : Nat} {w w' : World} {s : Nd.Sta} (h : In B w g s) (hg : w.grownBy w' (some z)) (hz : ¬ g = z) (hB : B ≤ z) : In B w' g s := by
  obtain ⟨p, cap, b, off, hr, hsl, hno, hne⟩ := h.ex
  exact ⟨p, cap, b, off, hr.grew (Grew.of_grown hg) (fun e => by cases e; exact hz rfl), hsl.grown hg (fun h0 e => by have := (hne h0).2; cases e; omega), hno, hne⟩
set_option maxHeartbeats 8000000 in
set_option maxRecDepth 100000 in
theorem readEntry_c {B : Nat} (w : World) (g : Nat) (e : Ent) (r : List Nat) (hB : B ≤ w.heap.size) (hok : e.ok) (hs : e.op.short) (hl : r.length ≤ 1000000) (hi : In B w g (entS e ++ r, 0)) :
    Calls Try.prog 63 #[.pointer (some ⟨g, 0, none⟩)] w fun x w' => x = .returned e.val ∧ In B w' g (r, 0) ∧ Grew w w' (· = g) := by
  have hgl : g < w.heap.size := Nd.InIs.blk hi
  obtain ⟨W1, H1, R1, B1, S1⟩ := row_new w [.int .i64 0, .int .i64 0, .int .i64 0, .string ⟨#[]⟩, .string ⟨#[]⟩, .string ⟨#[]⟩, .int .i64 0, .int .i64 0] 51
  obtain ⟨cl, nu, ⟨kd, pa, de, da, at_, sz⟩⟩ := e
  obtain ⟨eb, HEB⟩ : ∃ eb, Hid (encO ⟨kd, pa, de, da, at_, sz⟩ = eb) := ⟨_, hid_in rfl⟩
  have hel := Nd.encO_len _ hs
  have hlt := Nd.encO_lt hok.op hs
  rw [HEB.out] at hel hlt
  have e1 : entS ⟨cl, nu, ⟨kd, pa, de, da, at_, sz⟩⟩ ++ r = Nd.Wire.num (Nd.Wire.zz cl) ++ (Nd.Wire.num (Nd.Wire.zz nu) ++ (Nd.Wire.num (str eb).size ++ bytesS (str eb) ++ r)) := by
    unfold entS
    rw [HEB.out, Nd.str_size, Nd.bytesS_str hlt]
    simp [List.append_assoc]
  rw [e1] at hi
  have hi1 := in_below hi B1.out
  have HC1 := hid_in (Nd.int_s W1 g B _ hi1)
  rw [Nd.sInt_int cl hok.cl] at HC1
  have HC2 := hid_in (fun W (h : In B W g (Nd.Wire.num (Nd.Wire.zz nu) ++ (Nd.Wire.num (str eb).size ++ bytesS (str eb) ++ r), 0)) => Nd.int_s W g B _ h)
  rw [Nd.sInt_int nu hok.nu] at HC2
  obtain ⟨tl, HTL⟩ : ∃ tl, Hid (Nd.Wire.num (str eb).size ++ bytesS (str eb) ++ r = tl) := ⟨_, hid_in rfl⟩
  have hz := Nd.num_length (str eb).size
  have hTl : (str eb).size ≤ tl.length ∧ tl.length ≤ 9223372036854775807 := by
    rw [← HTL.out, List.length_append, List.length_append, Nd.bytesS_length, Nd.str_size]
    rw [Nd.str_size] at hz
    omega
  have HC3 := hid_in (fun W (h : In B W g (tl, 0)) => left_c W g (tl, 0) h)
  simp only at HC3
  have HC4 := hid_in (fun W (h : In B W g (tl, 0)) => Nd.text_s W g B (tl, 0) tl.length hTl.2 h)
  have hst : Nd.sText tl.length (tl, 0) = (bytesS (str eb), (r, 0)) := by
    have := Nd.sText_text tl.length (str eb) r hTl.1 hTl.2
    rw [HTL.out] at this
    exact this
  rw [hst] at HC4
  simp only [Nd.bytesS_str hlt] at HC4
  rw [HTL.out] at HC1 HC2
  obtain ⟨ss, HSS⟩ : ∃ ss, Hid (str eb = ss) := ⟨_, hid_in rfl⟩
  have hsz : ss.size ≤ 4000 := by rw [← HSS.out, Nd.str_size]; exact hel
  have hbs : bytesS ss = eb := by rw [← HSS.out]; exact Nd.bytesS_str hlt
  rw [HSS.out] at HC4
  have HCV := hid_in (fun W => conv_str W ss (by omega))
  have HCD := hid_in (decode_c kd at_ sz pa de da hok.op hs eb HEB.out)
  have hel2 : ss.size = eb.length := by rw [← HSS.out, Nd.str_size]
  have HBS := hid_in hbs
  have HEL := hid_in hel2
  have HGL := hid_in hgl
  have HG1 : Hid (¬ g = w.heap.size) := by show ¬ _; omega
  simp only [Ent.val]
  clear hi hi1 hok hs e1 hst hlt hel hz hbs hel2 hgl hTl
  go_enter Try.func63, Try.ntmps63
  go_upto_region 1 with fail
  refine wp_world H1.out ?_
  go_upto_region 2 with (first | (go_at_call 80; refine HC1.out.mono ?_; rintro x w2 ⟨rfl, h1, h2⟩; have HI2 := hid_in h1; have HG2 := hid_in h2; have HD2 := hid_in (HC2.out w2 h1); clear h1 h2 HC1 HC2) | (go_at_call 80; refine HD2.out.mono ?_; rintro x w3 ⟨rfl, h1, h2⟩; have HI3 := hid_in h1; have HG3 := hid_in (HG2.out.trans h2 (fun _ _ h => h)); clear h1 h2 HD2))
  have HR3 := hid_in (R1.out.grew HG3.out (fun e => HG1.out e.symm))
  have hw13 := HG3.out.size
  have hw11 := S1.out
  obtain ⟨W4, H4, R4, B4, S4⟩ := row_new w3 [.int .i64 cl, .int .i64 nu, .int .i64 0, .string ⟨#[]⟩, .string ⟨#[]⟩, .string ⟨#[]⟩, .int .i64 0, .int .i64 0] 51
  have HI4 := hid_in (in_below HI3.out B4.out)
  have HR4 := hid_in (HR3.out.below B4.out HR3.out.lt)
  have HL4 := hid_in (HC3.out W4 HI4.out)
  have HT4 := hid_in (HC4.out W4 HI4.out)
  have HG4 : Hid (Grew W1 W4 (· = g)) := HG3.out.trans (Grew.of_below _ B4.out) (fun _ _ h => h)
  have HG2' : Hid (¬ g = w3.heap.size) := by
    have h1 := HGL.out
    show ¬ _
    omega
  refine wp_world H4.out ?_
  go_upto_region 3 with (first | (go_at_call 82; refine HL4.out.mono ?_; rintro x w5 ⟨rfl, rfl⟩) | (go_at_call 65; refine HT4.out.mono ?_; rintro x w6 ⟨rfl, h1, h2⟩; have HI6 := hid_in h1; have HG6 := hid_in h2; obtain ⟨C, w7, HV7, HB7, HSL7⟩ := HCV.out w6; have hv7 := HV7.out; have hsl7 := HSL7.out; rw [HBS.out] at hsl7; have hd7 := HCD.out w7 _ C _ hsl7 (fun e => by cases e); rw [← HEL.out] at hd7; have HD7 := hid_in hd7; clear h1 h2 hd7 hsl7) | (go_at_call 81; refine HD7.out.mono ?_; rintro x w8 ⟨rfl, hb⟩; have HB8 := hid_in hb; clear hb))
  obtain ⟨W9, H9, R9, B9, S9⟩ := row_new w8 [.int .i64 kd, .string pa, .string de, .string da, .int .i64 at_, .int .i64 sz] 49
  have hb69 : Below w6.heap.size w6 W9 := (HB7.out.trans (HB8.out.mono HB7.out.size)).trans (B9.out.mono (Nat.le_trans HB7.out.size HB8.out.size))
  have hn3 : w.heap.size < w3.heap.size := by omega
  have HN3 := hid_in hn3
  have h46 := HG6.out.size
  have hs4 := S4.out
  have h69 := hb69.size
  have h78 := Nat.le_trans HB7.out.size HB8.out.size
  have hne1 : ¬ w.heap.size = w3.heap.size := by omega
  have hne2 : ¬ w3.heap.size = w.heap.size := by omega
  have HM9 := hid_in ((R4.out.grew HG6.out (fun e => HG2'.out e.symm)).below hb69 (by have := R4.out.lt; omega))
  have HN9 := hid_in ((HR4.out.grew HG6.out (fun e => HG1.out e.symm)).below hb69 (by have := HR4.out.lt; omega))
  have HI9 := hid_in (in_below HI6.out hb69)
  have HG9 : Hid (Grew w W9 (· = g)) := ((Grew.of_below _ B1.out).trans (HG4.out.trans (HG6.out.trans (Grew.of_below _ hb69) (fun _ _ h => h)) (fun _ _ h => h)) (fun _ _ h => h))
  have m0 : W9.cell? ⟨w3.heap.size, 0, none⟩ = some (.int .i64 cl) := HM9.out.cell 0
  have fm0 := HM9.out.frozen 0
  have m1 : W9.cell? ⟨w3.heap.size, 1, none⟩ = some (.int .i64 nu) := HM9.out.cell 1
  have fm1 := HM9.out.frozen 1
  have m2 : W9.cell? ⟨w3.heap.size, 2, none⟩ = some (.int .i64 0) := HM9.out.cell 2
  have fm2 := HM9.out.frozen 2
  have m3 : W9.cell? ⟨w3.heap.size, 3, none⟩ = some (.string ⟨#[]⟩) := HM9.out.cell 3
  have fm3 := HM9.out.frozen 3
  have m4 : W9.cell? ⟨w3.heap.size, 4, none⟩ = some (.string ⟨#[]⟩) := HM9.out.cell 4
  have fm4 := HM9.out.frozen 4
  have m5 : W9.cell? ⟨w3.heap.size, 5, none⟩ = some (.string ⟨#[]⟩) := HM9.out.cell 5
  have fm5 := HM9.out.frozen 5
  have m6 : W9.cell? ⟨w3.heap.size, 6, none⟩ = some (.int .i64 0) := HM9.out.cell 6
  have fm6 := HM9.out.frozen 6
  have m7 : W9.cell? ⟨w3.heap.size, 7, none⟩ = some (.int .i64 0) := HM9.out.cell 7
  have fm7 := HM9.out.frozen 7
  have z0 : W9.cell? ⟨w.heap.size, 0, none⟩ = some (.int .i64 0) := HN9.out.cell 0
  have fz0 := HN9.out.frozen 0
  have z1 : W9.cell? ⟨w.heap.size, 1, none⟩ = some (.int .i64 0) := HN9.out.cell 1
  have fz1 := HN9.out.frozen 1
  have z2 : W9.cell? ⟨w.heap.size, 2, none⟩ = some (.int .i64 0) := HN9.out.cell 2
  have fz2 := HN9.out.frozen 2
  have z3 : W9.cell? ⟨w.heap.size, 3, none⟩ = some (.string ⟨#[]⟩) := HN9.out.cell 3
  have fz3 := HN9.out.frozen 3
  have z4 : W9.cell? ⟨w.heap.size, 4, none⟩ = some (.string ⟨#[]⟩) := HN9.out.cell 4
  have fz4 := HN9.out.frozen 4
  have z5 : W9.cell? ⟨w.heap.size, 5, none⟩ = some (.string ⟨#[]⟩) := HN9.out.cell 5
  have fz5 := HN9.out.frozen 5
  have z6 : W9.cell? ⟨w.heap.size, 6, none⟩ = some (.int .i64 0) := HN9.out.cell 6
  have fz6 := HN9.out.frozen 6
  have z7 : W9.cell? ⟨w.heap.size, 7, none⟩ = some (.int .i64 0) := HN9.out.cell 7
  have fz7 := HN9.out.frozen 7
  have o0 : W9.cell? ⟨w8.heap.size, 0, none⟩ = some (.int .i64 kd) := R9.out.cell 0
  have o1 : W9.cell? ⟨w8.heap.size, 1, none⟩ = some (.string pa) := R9.out.cell 1
  have o2 : W9.cell? ⟨w8.heap.size, 2, none⟩ = some (.string de) := R9.out.cell 2
  have o3 : W9.cell? ⟨w8.heap.size, 3, none⟩ = some (.string da) := R9.out.cell 3
  have o4 : W9.cell? ⟨w8.heap.size, 4, none⟩ = some (.int .i64 at_) := R9.out.cell 4
  have o5 : W9.cell? ⟨w8.heap.size, 5, none⟩ = some (.int .i64 sz) := R9.out.cell 5
  clear hw13 hw11 hn3 h46 hs4 h69 h78 hb69
  go_upto_region 3 with fail
  refine wp_world H9.out ?_
  go_wp2
  have h6 := set6at HM9.out (.int .i64 kd) (.string pa) (.string de) (.string da) (.int .i64 at_) (.int .i64 sz)
  have h8 := set8 (HN9.out.grew (Grew.of_grown h6) (fun e => hne1 (by simpa using e))) (.int .i64 cl) (.int .i64 nu) (.int .i64 kd) (.string pa) (.string de) (.string da) (.int .i64 at_) (.int .i64 sz)
  have h8g := fun W => set8g (W := W) (Z := w.heap.size) (.int .i64 cl) (.int .i64 nu) (.int .i64 kd) (.string pa) (.string de) (.string da) (.int .i64 at_) (.int .i64 sz)
  refine post_Row 2 51 Try.results63 w.heap.size rfl 51 _ h8 _ Try.underlying51 rfl 8 info51 rfl rfl ?_
  have hgl := HGL.out
  have hn3 := HN3.out
  refine ⟨rfl, in_set (in_set HI9.out h6 HG2'.out (by omega)) (h8g _) HG1.out (by omega), ?_⟩
  exact (HG9.out.trans (Grew.of_grown h6) (fun q hq e => by cases e; omega)).trans (Grew.of_grown (h8g _)) (fun q hq e => by cases e; omega)
theorem in_setO {B g : Nat} {w w' : World} {s : Nd.Sta} {row : Option Nat} (h : In B w g s) (hg : w.grownBy w' row) (hz : ∀ k, row = some k → B ≤ k ∧ ¬ g = k) : In B w' g s := by
  obtain ⟨p, cap, b, off, hr, hsl, hno, hne⟩ := h.ex
  exact ⟨p, cap, b, off, hr.grew (Grew.of_grown hg) (fun e => (hz g e.symm).2 rfl), hsl.grown hg (fun h0 e => by have h1 := (hne h0).2; have h2 := (hz b e.symm).1; omega), hno, hne⟩
theorem EO.keepG {w w' : World} {B : Nat} {v : Value} {es : List Ent} {S : Nat → Prop} (h : EO w B v es) (hg : Grew w w' S) (hn : ∀ q, v.ownBlock = some q → ¬ S q) : EO w' B v es := by
  refine ⟨h.1, ?_⟩
  rcases h.2 with h2 | ⟨g, cap, cur, rfl, hB, hh, r⟩
  · exact .inl h2
  · refine .inr ⟨g, cap, cur, rfl, hB, ?_, r⟩
    rw [hg.block g (Array.getElem?_eq_some_iff.1 hh).1 (hn g rfl)]
    exact hh
set_option maxHeartbeats 8000000 in
set_option maxRecDepth 100000 in
theorem readEntries_c {B : Nat} (w : World) (g : Nat) (es : List Ent) (r : List Nat) (hB : B ≤ w.heap.size) (hok : ∀ e ∈ es, e.ok) (hs : ∀ e ∈ es, e.op.short) (hn : es.length ≤ 32) (hl : r.length ≤ 100000) (hi : In B w g (manyS es ++ r, 0)) :
    Calls Try.prog 64 #[.pointer (some ⟨g, 0, none⟩)] w fun x w' => ∃ v, x = .returned v ∧ EO w' w.heap.size v es ∧ In B w' g (r, 0) ∧ Grew w w' (· = g) := by
  have hgl : g < w.heap.size := Nd.InIs.blk hi
  have HGL := hid_in hgl
  have e1 : manyS es ++ r = Nd.Wire.num es.length ++ (entsS es ++ r) := by unfold manyS; rw [List.append_assoc]
  rw [e1] at hi
  have HN := hid_in (number_c w g es.length 32 (entsS es ++ r) hn (by decide) hi)
  have HOK := hid_in hok
  have HS := hid_in hs
  have hn0 : (0 : Int) ≤ (es.length : Int) := by omega
  have hn64 : (es.length : Int) ≤ 32 := by omega
  clear hi e1 hok hs hgl
  go_enter Try.func64, Try.ntmps64
  go_upto_region 3 with (first | (go_at_call 62; refine HN.out.mono ?_; rintro x w1 ⟨rfl, h1, h2⟩; have HI1 := hid_in h1; have HG1 := hid_in h2; clear h1 h2))
  go_loopw [3, 6] (fun v vi W => ∃ i : Nat, i ≤ es.length ∧ vi = .int .i64 (i : Int) ∧ Hid (EO W w.heap.size v (es.take i)) ∧ Hid (In B W g (entsS (es.drop i) ++ r, 0)) ∧ Hid (Grew w W (· = g))) (fun _ vi _ => es.length - (intOf vi).toNat)
  case atStart => exact ⟨0, by omega, rfl, EO.nil _ _, HI1.out, HG1.out⟩
  case round =>
    obtain ⟨i, hi, rfl, hE, hI, hG⟩ := hrel
    by_cases hlt : i < es.length
    · have HT : Hid (es.take (i + 1) = es.take i ++ [es[i]]) := hid_in (List.take_succ_eq_append_getElem hlt)
      have HD : Hid (entsS (es.drop i) ++ r = entS es[i] ++ (entsS (es.drop (i + 1)) ++ r)) := hid_in (by
        rw [List.drop_eq_getElem_cons hlt, entsS_cons, List.append_assoc])
      have hmem := List.getElem_mem hlt
      have hdl := entsS_len (es.drop (i + 1)) (fun e he => HS.out e (List.mem_of_mem_drop he))
      have hdn : (es.drop (i + 1)).length ≤ 32 := by rw [List.length_drop]; omega
      have hi2 := hI.out
      rw [HD.out] at hi2
      have HRE := hid_in (readEntry_c wr g es[i] _ (Nat.le_trans hB hG.out.size) (HOK.out _ hmem) (HS.out _ hmem) (by rw [List.length_append]; omega) hi2)
      have HX := hid_in (fun W => es_one W es[i])
      have HLN : Hid ((es.take i).length + [es[i]].length ≤ 100000000000) := hid_in (by show (es.take i).length + 1 ≤ _; rw [List.length_take]; omega)
      generalize es[i] = x at *
      obtain ⟨cl, nu, ⟨kd, pa, de, da, at_, sz⟩⟩ := x
      simp only [Ent.val] at HRE
      simp only at HX
      clear hi2 hmem hdl hdn hI HD
      go_wp2_with (first | (go_at_call 63; refine HRE.out.mono ?_; rintro y w2 ⟨rfl, h1, h2⟩; have HI2 := hid_in h1; have HG2 := hid_in h2; obtain ⟨W3, HW3, HO3, HE3, HB3⟩ := HX.out w2; have hw3 := HW3.out; have HE2 := hid_in (EO.below (EO.keepG hE.out h2 (fun q hq e => by have h3 := (hE.out.lt q hq).1; have h4 := HGL.out; omega)) HB3.out); have HI3 := hid_in (in_below h1 HB3.out); have HG3 := hid_in ((hG.out.trans h2 (fun _ _ h => h)).trans (Grew.of_below (· = g) HB3.out) (fun _ _ h => h)); subst hw3; clear h1 h2) | (at_builtin; refine wpList_appE w.heap.size rfl (.tmp 8) (.tmp 11) rfl _ _ [⟨cl, nu, ⟨kd, pa, de, da, at_, sz⟩⟩] rfl HE2.out _ rfl HE3.out HLN.out HG3.out.size ?_; intro v4 w4 h5 h6; have HE4 := hid_in h5; have HG4 := hid_in h6; clear h5 h6))
      go_roundw
      case rel =>
        refine ⟨i + 1, by omega, by go_num, ?_, hid_in (in_setO HI3.out HG4.out (fun k hk => ?_)), ?_⟩
        · rw [HT.out]; exact HE4.out
        · have h1 := (HE2.out.lt k hk).1
          have h2 := HGL.out
          exact ⟨by omega, by omega⟩
        · exact HG3.out.trans (Grew.of_grown HG4.out) (fun q hq e => by have h1 := (HE2.out.lt q e.symm).1; omega)
      case measure => simp [intOf]; omega
    · obtain rfl : i = es.length := by omega
      go_wp2
      go_ret
      rw [List.take_length] at hE
      have hI' := hI.out
      rw [List.drop_length] at hI'
      exact ⟨_, rfl, hE.out, hI', hG.out⟩
end Go.Proofs.Ytjjofjnhhajjjaa.Jr
