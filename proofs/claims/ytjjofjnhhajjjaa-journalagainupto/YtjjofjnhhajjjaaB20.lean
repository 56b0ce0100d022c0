/-
  An entry's fields, and those of several, put behind what an Out has. Small laws on memory, on rows of a call's own, on slices of bytes; and of the walk for a block that is known whole. Check sums and frames in plain numbers, by the document's chapter 2. No program in it.
-/
import Derived.Laws.Tables
import Derived.Laws.CopyOwn
import Derived.OwnWalk
import Derived.Deep.CutRange
import Derived.Laws.StructEq
import Derived.Lib.SlBytesConst
import Derived.Deep.RegionLaw
import Derived.Deep.DrawnRows
import Derived.WalkKit
import Derived.WalkSpells
import Derived.WalkLawsBesides
import Derived.Deep.AppendLies
import Derived.Deep.MidRow
import Derived.Deep.Light
import Derived.Laws.AppendOwnNone
import Derived.Laws.BytesArg
import Derived.Lib.Strings
import Derived.BigQuiet
import Derived.BigRegion
import Derived.Test.YtjjofjnhhajjjaaB00
import Derived.Test.YtjjofjnhhajjjaaB01
import Derived.Test.YtjjofjnhhajjjaaB02
import Derived.Test.YtjjofjnhhajjjaaB03
import Derived.Test.YtjjofjnhhajjjaaB04
import Derived.Test.YtjjofjnhhajjjaaB05
import Derived.Test.YtjjofjnhhajjjaaB06
import Derived.Test.YtjjofjnhhajjjaaB07
import Derived.Test.YtjjofjnhhajjjaaB08
import Derived.Test.YtjjofjnhhajjjaaB09
import Derived.Test.YtjjofjnhhajjjaaB10
import Derived.Test.YtjjofjnhhajjjaaB11
import Derived.Test.YtjjofjnhhajjjaaB12
namespace Go.Proofs.Ytjjofjnhhajjjaa.Jr
open Go.RowKit
open Nd (Row wp_world post_Row grownBy_setCell grownBy_trans below_of_grown u8v Grew Sl hid_in i64r bytesS str encO OutB OutA)
/-- the Out at block g has made the bytes xs, at most m -/
def OutL (w : World) (B g : Nat) (xs : List Nat) (m : Nat) : Prop := OutB w B g xs ∧ xs.length ≤ m
theorem OutL.below {w w' : World} {B g m : Nat} {xs : List Nat} (h : OutL w B g xs m) (hb : Below w.heap.size w w') : OutL w' B g xs m := ⟨Nd.OutB.below h.1 hb, h.2⟩
theorem num_l (w : World) (B g : Nat) (xs : List Nat) (m n : Nat) (hn : n < 18446744073709551616) (hg : B ≤ g) (ho : OutL w B g xs m) (hl : m ≤ 100000000000) :
    Calls Try.prog 88 #[.pointer (some ⟨g, 0, none⟩), .int .u64 (n : Int)] w fun e w' => e = .returned (.tuple #[]) ∧ OutL w' B g (xs ++ Nd.Wire.num n) (m + 10) ∧ Below B w w' := by
  have h2 := ho.2
  refine (Nd.num_o w B g xs n hn hg ho.1 (by omega)).mono ?_
  rintro e w' ⟨rfl, h3, h4⟩
  have := Nd.num_length n
  exact ⟨rfl, ⟨h3, by rw [List.length_append]; omega⟩, h4⟩
theorem text_l (w : World) (B g : Nat) (xs : List Nat) (m : Nat) (s : ByteArray) (hg : B ≤ g) (ho : OutL w B g xs m) (hl : m ≤ 100000000000) (hs : s.size ≤ 100000) :
    Calls Try.prog 76 #[.pointer (some ⟨g, 0, none⟩), .string s] w fun e w' => e = .returned (.tuple #[]) ∧ OutL w' B g (xs ++ (Nd.Wire.num s.size ++ bytesS s)) (m + 100010) ∧ Below B w w' := by
  have h2 := ho.2
  refine (Nd.text_o w B g xs s hg ho.1 (by omega)).mono ?_
  rintro e w' ⟨rfl, h3, h4⟩
  have := Nd.num_length s.size
  exact ⟨rfl, ⟨h3, by simp only [List.length_append, Nd.bytesS_length]; omega⟩, h4⟩
/-- the Out at block g has made the bytes xs; its bytes lie in no block from N up to M -/
def OutZ (w : World) (B g N M : Nat) (xs : List Nat) : Prop := ∃ v, Nd.OutIs w B g v xs ∧ ∀ q, v.ownBlock = some q → q < N ∨ M ≤ q
theorem OutL.toZ {w w' : World} {B g m M : Nat} {xs : List Nat} (h : OutL w B g xs m) (hb : Below w.heap.size w w') : OutZ w' B g w.heap.size M xs := by
  obtain ⟨⟨v, hv⟩, _⟩ := h
  exact ⟨v, hv.below hb, fun q hq => .inl (World.ownsRow.lt hv.own q hq).2⟩
theorem OutZ.to {w : World} {B g N M : Nat} {xs : List Nat} (h : OutZ w B g N M xs) : OutB w B g xs := by
  obtain ⟨v, hv, _⟩ := h
  exact ⟨v, hv⟩
theorem outZ_step {w w' : World} {B g N M : Nat} {v v' : Value} {xs ys : List Nat} (hg : B ≤ g) (hN : g < N) (hM : M ≤ w.heap.size) (hv : Nd.OutIs w B g v xs) (hz : ∀ q, v.ownBlock = some q → q < N ∨ M ≤ q) (h1 : Nd.OutIs w' B g v' ys) (h2 : Grew w w' (Nd.OutS g v)) (h3 : Nd.Moved w v v') :
    OutZ w' B g N M ys ∧ Below B w w' ∧ Grew w w' (fun k => k < N ∨ M ≤ k) := by
  refine ⟨⟨v', h1, fun q hq => ?_⟩, Nd.out_below hg hv h2, h2.mono ?_⟩
  · rcases h3 with h3 | ⟨r, h3, h4⟩
    · exact hz q (h3 ▸ hq)
    · rw [h3] at hq
      cases hq
      exact .inr (Nat.le_trans hM h4)
  · rintro k (rfl | hk)
    · exact .inl hN
    · exact hz k hk.symm
theorem int_z (w : World) (B g N M : Nat) (xs : List Nat) (n : Int) (hn : i64r n) (hg : B ≤ g) (hN : g < N) (hM : M ≤ w.heap.size) (ho : OutZ w B g N M xs) (hl : xs.length + 10 ≤ 140737488355328) :
    Calls Try.prog 75 #[.pointer (some ⟨g, 0, none⟩), .int .i64 n] w fun e w' => e = .returned (.tuple #[]) ∧ OutZ w' B g N M (xs ++ Nd.Wire.num (Nd.Wire.zz n)) ∧ Below B w w' ∧ Grew w w' (fun k => k < N ∨ M ≤ k) := by
  obtain ⟨v, hv, hz⟩ := ho
  refine (Nd.oint_any w B g v xs n hn.1 hn.2 hv hl).mono ?_
  rintro e w' ⟨rfl, v', h1, h2, h3⟩
  exact ⟨rfl, outZ_step hg hN hM hv hz h1 h2 h3⟩
set_option maxHeartbeats 2000000 in
set_option maxRecDepth 100000 in
theorem putEntry_any (w : World) (B g : Nat) (xs : List Nat) (m : Nat) (e : Ent) (hg : B ≤ g) (ho : OutL w B g xs m) (hl : m ≤ 100000000000) (he : e.ok) (hs : e.op.short) :
    Calls Try.prog 89 #[.pointer (some ⟨g, 0, none⟩), e.val] w fun x w' => x = .returned (.tuple #[]) ∧ OutL w' B g (xs ++ entS e) (m + 4030) ∧ Below B w w' := by
  obtain ⟨cl, nu, ⟨kd, pa, de, da, at_, sz⟩⟩ := e
  simp only [Ent.val]
  have hb := Nd.OutB.base ho.1
  have hgl := Nd.OutB.blk ho.1
  obtain ⟨W1, H1, HR1, HB1, HS1⟩ := row_new w [.int .i64 cl, .int .i64 nu, .int .i64 kd, .string pa, .string de, .string da, .int .i64 at_, .int .i64 sz] 51
  have HZ := hid_in (fun M W (hb : Below w.heap.size w W) => OutL.toZ (M := M) ho hb)
  have HE := hid_in (Nd.encode_ok ⟨kd, pa, de, da, at_, sz⟩ he.op hs W1)
  have HCL := hid_in he.cl
  have HNU := hid_in he.nu
  have h2 := ho.2
  have hel := Nd.encO_len ⟨kd, pa, de, da, at_, sz⟩ hs
  have HLT := hid_in (Nd.encO_lt he.op hs)
  have hz1 := Nd.num_length (Nd.Wire.zz cl)
  have hz2 := Nd.num_length (Nd.Wire.zz nu)
  have hz3 := Nd.num_length (encO ⟨kd, pa, de, da, at_, sz⟩).length
  have HL0 : Hid (xs.length + 10 ≤ 140737488355328) := by show _ ≤ _; omega
  have HL1 : Hid ((xs ++ Nd.Wire.num (Nd.Wire.zz cl)).length + 10 ≤ 140737488355328) := by show _ ≤ _; rw [List.length_append]; omega
  have HL2 : Hid (((xs ++ Nd.Wire.num (Nd.Wire.zz cl)) ++ Nd.Wire.num (Nd.Wire.zz nu)).length + 10 + (str (encO ⟨kd, pa, de, da, at_, sz⟩)).size ≤ 140737488355328) := by
    show _ ≤ _
    rw [Nd.str_size, List.length_append, List.length_append]; omega
  have HL3 : Hid ((xs ++ entS ⟨cl, nu, ⟨kd, pa, de, da, at_, sz⟩⟩).length ≤ m + 4030) := by
    show _ ≤ _
    unfold entS
    simp only [List.length_append]
    omega
  have HXX : Hid (xs ++ entS ⟨cl, nu, ⟨kd, pa, de, da, at_, sz⟩⟩ = ((xs ++ Nd.Wire.num (Nd.Wire.zz cl)) ++ Nd.Wire.num (Nd.Wire.zz nu)) ++ (Nd.Wire.num (str (encO ⟨kd, pa, de, da, at_, sz⟩)).size ++ bytesS (str (encO ⟨kd, pa, de, da, at_, sz⟩)))) := by
    show _ = _
    rw [Nd.str_size, Nd.bytesS_str HLT.out]
    unfold entS
    simp
  generalize encO ⟨kd, pa, de, da, at_, sz⟩ = eb at *
  have HBB := hid_in hb
  have HGL := hid_in hgl
  have q2 : W1.cell? ⟨w.heap.size, 2, none⟩ = some (.int .i64 kd) := HR1.out.cell 2
  have q3 : W1.cell? ⟨w.heap.size, 3, none⟩ = some (.string pa) := HR1.out.cell 3
  have q4 : W1.cell? ⟨w.heap.size, 4, none⟩ = some (.string de) := HR1.out.cell 4
  have q5 : W1.cell? ⟨w.heap.size, 5, none⟩ = some (.string da) := HR1.out.cell 5
  have q6 : W1.cell? ⟨w.heap.size, 6, none⟩ = some (.int .i64 at_) := HR1.out.cell 6
  have q7 : W1.cell? ⟨w.heap.size, 7, none⟩ = some (.int .i64 sz) := HR1.out.cell 7
  clear ho he hs h2 hel hz1 hz2 hz3 hl hb hgl
  go_enter Try.func89, Try.ntmps89
  go_upto_region 1 with fail
  refine wp_world H1.out ?_
  go_upto_region 2 with (first | (go_at_call 56; refine HE.out.mono ?_; rintro x w2 ⟨⟨u, rfl, hu⟩, hb⟩; have HOW := hid_in hu; obtain ⟨p, c, b, rfl, hsl, hno⟩ := Nd.own_sl HLT.out hu; have HSL := hid_in hsl; have HB2 := hid_in hb; clear hsl hno hu hb))
  have HR2 := hid_in (HR1.out.below HB2.out HR1.out.lt)
  have HA2 := hid_in (HZ.out w2.heap.size w2 (HB1.out.trans (HB2.out.mono HB1.out.size)))
  have HI2 : Hid (w.heap.size < w2.heap.size) := HR2.out.lt
  have HBI : Hid (0 < eb.length → w.heap.size < b ∧ b < w2.heap.size) := fun h0 => by
    have e1 := HSL.out.at_ h0
    subst e1
    have e2 := World.ownsRow.lt HOW.out b rfl
    rw [HS1.out] at e2
    exact ⟨by omega, e2.2⟩
  have r0 : w2.cell? ⟨w.heap.size, 0, none⟩ = some (.int .i64 cl) := HR2.out.cell 0
  go_upto_region 3 with (first | (go_at_call 75; refine (int_z _ B g w.heap.size w2.heap.size _ cl HCL.out hg HGL.out (Nat.le_refl _) HA2.out HL0.out).mono ?_; rintro x w3 ⟨rfl, h1, h2, h3⟩; have HA3 := hid_in h1; have HB3 := hid_in h2; have HR3 := hid_in (HR2.out.grew h3 (fun h => by have := HI2.out; omega)); have HG3 := hid_in h3; clear h1 h2 h3 r0))
  have r1 : w3.cell? ⟨w.heap.size, 1, none⟩ = some (.int .i64 nu) := HR3.out.cell 1
  go_upto_region 4 with (first | (go_at_call 75; refine (int_z _ B g w.heap.size w2.heap.size _ nu HNU.out hg HGL.out HG3.out.size HA3.out HL1.out).mono ?_; rintro x w4 ⟨rfl, h1, h2, h3⟩; have HO4 := hid_in h1.to; have HB4 := hid_in h2; have HG4 := hid_in (HG3.out.trans h3 (fun _ _ h => h)); clear h1 h2 h3 r1))
  have HS4 := hid_in (HSL.out.grew HG4.out (fun h0 h => by have := HBI.out h0; omega))
  have hcv := Nd.conv_sl HS4.out
  go_wp2_with (first | (go_at_call 76; refine (Nd.text_o _ B g _ _ hg HO4.out HL2.out).mono ?_; rintro x w5 ⟨rfl, h1, h2⟩; have HO5 := hid_in h1; have HB5 := hid_in h2; clear h1 h2))
  go_end0
  refine ⟨rfl, ⟨?_, HL3.out⟩, ?_⟩
  · rw [HXX.out]
    exact HO5.out
  · have b1 : Below B w w2 := (HB1.out.mono HBB.out).trans (HB2.out.mono (Nat.le_trans HBB.out HB1.out.size))
    exact ((b1.trans HB3.out).trans HB4.out).trans HB5.out
end Go.Proofs.Ytjjofjnhhajjjaa.Jr
namespace Go.Proofs.Ytjjofjnhhajjjaa.Nd
open Go.RowKit
theorem Row.drewN {w : World} {b : Nat} {vs : List Value} {t : TypeId} (h : Row w b vs t) (n : Nat) : Row (w.drewN n) b vs t := by
  refine h.of_block ?_; simp
theorem getD_lt {l : List Nat} {m : Nat} (h : ∀ x ∈ l, x < m) (j : Nat) (hm : 0 < m := by decide) : l.getD j 0 < m := by
  by_cases hj : j < l.length
  · simp only [List.getD_eq_getElem?_getD, List.getElem?_eq_getElem hj, Option.getD_some]; exact h _ (List.getElem_mem hj)
  · simp only [List.getD_eq_getElem?_getD, List.getElem?_eq_none (Nat.le_of_not_lt hj), Option.getD_none]; exact hm
end Go.Proofs.Ytjjofjnhhajjjaa.Nd
namespace Go.Proofs.Ytjjofjnhhajjjaa.Nd.Wire
def check (bs : List Nat) : Nat := 4294967295 ^^^ run 4294967295 bs
def four (n : Nat) : List Nat := [n % 256, n / 256 % 256, n / 65536 % 256, n / 16777216 % 256]
/-- the bytes of a frame -/
def frame (p : List Nat) : List Nat := four p.length ++ p ++ four (check (four p.length ++ p))
/-- the frame at the beginning: its payload, how many bytes it has, what is wrong -/
def next (b : List Nat) : List Nat × Nat × Nat :=
  if b.length < 4 then ([], 0, 20)
  else if 262144 < val b then ([], 0, 2)
  else if b.length < val b + 8 then ([], 0, 20)
  else if check (b.take (val b + 4)) ≠ val (b.drop (val b + 4)) then ([], 0, 22)
  else ((b.drop 4).take (val b), val b + 8, 0)
theorem xor_lt {x y : Nat} (hx : x < 4294967296) (hy : y < 4294967296) : x ^^^ y < 4294967296 := Nat.xor_lt_two_pow (n := 32) hx hy
theorem step_lt {x : Nat} (h : x < 4294967296) : step x < 4294967296 := by
  unfold step
  split
  · exact xor_lt (by omega) (by decide)
  · omega
theorem steps_lt (k : Nat) {x : Nat} (h : x < 4294967296) : steps k x < 4294967296 := by
  induction k with
  | zero => exact h
  | succ k ih => exact step_lt ih
theorem byte_lt {s b : Nat} (hs : s < 4294967296) (hb : b < 256) : byte s b < 4294967296 := steps_lt 8 (xor_lt hs (by omega))
theorem run_lt {s : Nat} {bs : List Nat} (hs : s < 4294967296) (hb : ∀ x ∈ bs, x < 256) : run s bs < 4294967296 := by
  induction bs generalizing s with
  | nil => exact hs
  | cons b bs ih => exact ih (byte_lt hs (hb b (by simp))) (fun x hx => hb x (by simp [hx]))
theorem check_lt {bs : List Nat} (hb : ∀ x ∈ bs, x < 256) : check bs < 4294967296 := xor_lt (by decide) (run_lt (by decide) hb)
theorem run_append (s : Nat) (a b : List Nat) : run s (a ++ b) = run (run s a) b := by simp [run]
theorem getD_lt' {l : List Nat} {m : Nat} (h : ∀ x ∈ l, x < m) (j : Nat) (hm : 0 < m) : l.getD j 0 < m := Go.Proofs.Ytjjofjnhhajjjaa.Nd.getD_lt h j hm
theorem four_lt (n : Nat) : ∀ x ∈ four n, x < 256 := by
  intro x hx
  simp only [four, List.mem_cons, List.not_mem_nil, or_false] at hx
  omega
theorem val_four (n : Nat) (h : n < 4294967296) (r : List Nat) : val (four n ++ r) = n := by
  simp only [four, val, List.cons_append, List.nil_append, List.getD_cons_zero, List.getD_cons_succ]
  omega
theorem four_length (n : Nat) : (four n).length = 4 := rfl
theorem val_lt {b : List Nat} (h : ∀ x ∈ b, x < 256) : val b < 4294967296 := by
  have h0 := getD_lt' h 0 (by decide)
  have h1 := getD_lt' h 1 (by decide)
  have h2 := getD_lt' h 2 (by decide)
  have h3 := getD_lt' h 3 (by decide)
  unfold val; omega
theorem frame_length (p : List Nat) : (frame p).length = p.length + 8 := by simp [frame, four_length]; omega
theorem frame_lt {p : List Nat} (h : ∀ x ∈ p, x < 256) : ∀ x ∈ frame p, x < 256 := by
  intro x hx
  simp only [frame, List.mem_append] at hx
  rcases hx with (hx | hx) | hx
  · exact four_lt _ x hx
  · exact h x hx
  · exact four_lt _ x hx
theorem next_frame {p : List Nat} (h : ∀ x ∈ p, x < 256) (hl : p.length ≤ 262144) (r : List Nat) : next (frame p ++ r) = (p, p.length + 8, 0) := by
  have hv : val (frame p ++ r) = p.length := by
    unfold frame
    rw [List.append_assoc, List.append_assoc]
    exact val_four _ (by omega) _
  have hlen : (frame p ++ r).length = p.length + 8 + r.length := by rw [List.length_append, frame_length]
  have hin : ∀ x ∈ four p.length ++ p, x < 256 := by
    intro x hx
    rcases List.mem_append.1 hx with hx | hx
    · exact four_lt _ x hx
    · exact h x hx
  have ht : (frame p ++ r).take (p.length + 4) = four p.length ++ p := by
    unfold frame
    rw [List.append_assoc, List.take_append_of_le_length (by simp [four_length]; omega), List.take_of_length_le (by simp [four_length]; omega)]
  have hd : (frame p ++ r).drop (p.length + 4) = four (check (four p.length ++ p)) ++ r := by
    unfold frame
    rw [List.append_assoc, List.drop_append_of_le_length (by simp [four_length]; omega), List.drop_eq_nil_of_le (by simp [four_length]; omega), List.nil_append]
  have hp : ((frame p ++ r).drop 4).take p.length = p := by
    unfold frame
    rw [List.append_assoc, List.append_assoc, List.drop_append_of_le_length (by simp [four_length]), List.drop_eq_nil_of_le (by simp [four_length]), List.nil_append, List.take_append_of_le_length (Nat.le_refl _), List.take_of_length_le (Nat.le_refl _)]
  unfold next
  rw [hv, hlen, if_neg (by omega), if_neg (by omega), if_neg (by omega), ht, hd, val_four _ (check_lt hin), if_neg (by simp), hp]
end Go.Proofs.Ytjjofjnhhajjjaa.Nd.Wire
