/-
  The walk of put: a field into an Out, and its bytes.
-/
import Derived.Test.YtjaplfdcdokhfaaV5
import Derived.Lib.ConvBytes
namespace Go.Proofs.Ytjaplfdcdokhfaa
open Go.RowKit

/-- a field's bytes -/
def fbytes (k N : Nat) (S : ByteArray) : List Nat :=
  if k = 0 then Wire.num N
  else if k = 1 then Wire.num (Wire.zz (wrap64 (N : Int)))
  else if k = 2 then Wire.num S.size ++ bytesS S
  else if k = 3 then [if N % 2 == 1 then 1 else 0]
  else fold (bytesS S)
theorem conv_bytes (w : World) (S : ByteArray) (hS : S.size ≤ 140737488355328) : ∃ C w', (convert 9 25 (.string S)).run Try.prog w = .ok (.slice (some ⟨w.heap.size, 0, none⟩) S.size C) w' ∧ Below w.heap.size w w' ∧ Sl w' (some ⟨w.heap.size, 0, none⟩) (bytesS S) C w.heap.size 0 := by
  have hr := Lib.run_convert_string_bytes (P := Try.prog) w 9 25 5 S Try.underlying9 Try.underlying25 Try.underlying5
  have hc : grownCap w S.size 0 5 ≤ maxLen := grownCap_le_maxLen w S.size 0 5 (by unfold maxLen; omega)
  have hg : S.size ≤ grownCap w S.size 0 5 := grownCap_ge w _ _ _
  unfold maxLen at hc
  refine ⟨_, _, hr, ⟨rfl, rfl, rfl, by rw [Lib.bytesWorld_size]; omega, fun k hk => Lib.bytesWorld_at_old w 5 S k hk⟩, ⟨bytesS_lt S, by rw [bytesS_length]; exact hg, by omega, fun _ => rfl, fun j hj => ?_⟩⟩
  rw [bytesS_length] at hj
  rw [Nat.zero_add, Lib.bytesWorld_cell w 5 S j hj]
  have hj2 : j < S.data.size := hj
  simp [bytesS, u8v]
  rw [Array.getElem?_eq_getElem hj2]
  rfl
/-- what put answers, and what it leaves -/
def PutPost (w : World) (B g : Nat) (v : Value) (xs FB : List Nat) (e : Ending) (w' : World) : Prop :=
  ∃ r v', e = .returned r ∧ w'.ownsRow w.heap.size 5 1 r FB.length (FB.map u8v) ∧ OutIs w' B g v' (xs ++ FB) ∧ Grew w w' (OutS g v) ∧ Moved w v v' ∧ ∀ q, r.ownBlock = some q → v'.ownBlock ≠ some q
theorem put_end {w w1 w2 w3 : World} {B g : Nat} {v v' r : Value} {xs FB : List Nat} (h1 : Below w.heap.size w w1) (ho : OutIs w2 B g v' (xs ++ FB)) (hg : Grew w1 w2 (OutS g v)) (hm : Moved w1 v v') (hown : w3.ownsRow w2.heap.size 5 1 r FB.length (FB.map u8v)) (h3 : Below w2.heap.size w2 w3) : PutPost w B g v xs FB (.returned r) w3 := by
  refine ⟨r, v', rfl, own_mono hown (Nat.le_trans h1.size hg.size), ho.below h3, ?_, ?_, ?_⟩
  · exact ((Grew.of_below (OutS g v) h1).trans hg (fun _ _ h => h)).trans (Grew.of_below (OutS g v) h3) (fun _ _ h => h)
  · rcases hm with hm | ⟨q, hq, hs⟩
    · exact .inl hm
    · exact .inr ⟨q, hq, by have := h1.size; omega⟩
  · intro q hq e
    have a := (hown.lt q hq).1
    have b := (ho.own.lt q e).2
    omega

set_option maxHeartbeats 600000 in
set_option maxRecDepth 100000 in
theorem put_any (w : World) (B g : Nat) (v : Value) (xs : List Nat) (K M : Int) (N : Nat) (S : ByteArray) (k : Nat) (hk : (IntKind.u64.wrap K).tmod 5 = (k : Int)) (hk5 : k < 5) (hN : N < 18446744073709551616) (ho : OutIs w B g v xs) (hl : xs.length + 42 + S.size ≤ 140737488355328) :
    Calls Try.prog 10 #[.pointer (some ⟨g, 0, none⟩), .agg #[.int .i64 K, .int .u64 (N : Int), .string S, .int .i64 M]] w (PutPost w B g v xs (fbytes k N S)) := by
  have hb0 : Below w.heap.size w (w.alloc (.cells #[.int .i64 K, .int .u64 (N : Int), .string S, .int .i64 M] 31)) := (Below.refl _ _).alloc (Nat.le_refl _) _
  have hr0 : Row (w.alloc (.cells #[.int .i64 K, .int .u64 (N : Int), .string S, .int .i64 M] 31)) w.heap.size [.int .i64 K, .int .u64 (N : Int), .string S, .int .i64 M] 31 := Row.newAt w _ _ 31 rfl
  have hgl := ho.row.lt
  have hvl : ∀ q, v.ownBlock = some q → q < w.heap.size := fun q h => (ho.own.lt q h).2
  go_enter Try.func10, Try.ntmps10
  go_wp2_with fail
  refine (kind_any _ K M N S k hk hk5).mono ?_
  rintro e w1 ⟨rfl, hb1⟩
  have hr1 := hr0.below hb1 hr0.lt
  have hbw1 : Below w.heap.size w w1 := hb0.trans (hb1.mono hb0.size)
  have HO1 := hid_in (ho.below hbw1)
  obtain ⟨f, hf⟩ : ∃ f, f = w.heap.size := ⟨_, rfl⟩
  rw [← hf] at hr1 ⊢
  have hfS : ¬ OutS g v f := by
    rintro (h | h)
    · omega
    · have := hvl f h.symm; omega
  have n1 : w1.cell? ⟨f, 1, none⟩ = some (.int .u64 (N : Int)) := hr1.cell 1
  have n2 : w1.cell? ⟨f, 2, none⟩ = some (.string S) := hr1.cell 2
  have HR1 := hid_in hr1
  clear ho hb0 hr0 hgl hvl hb1 hr1 hf hk
  obtain rfl | rfl | rfl | rfl | rfl : k = 0 ∨ k = 1 ∨ k = 2 ∨ k = 3 ∨ k = 4 := by omega
  · have HFB : Hid (fbytes 0 N S = Wire.num N) := by show _ = _; unfold fbytes; rw [if_pos rfl]
    go_wp2_with fail
    refine (onum_any w1 B g v xs N hN HO1.out (by omega)).mono ?_
    rintro e w2 ⟨rfl, v2, ho2, hg2, hm2⟩
    have n3 : w2.cell? ⟨f, 1, none⟩ = some (.int .u64 (N : Int)) := (HR1.out.grew hg2 hfS).cell 1
    have H2 := hid_in ho2
    have HG2 := hid_in hg2
    have HM2 := hid_in hm2
    clear ho2 hg2 hm2 n1 n2
    go_wp2_with fail
    refine (rwnum_any w2 N hN).mono ?_
    rintro e w3 ⟨r, rfl, hown, hb3⟩
    have H3 := hid_in hown
    clear hown n3
    go_wp2
    go_ret
    rw [HFB.out]
    exact put_end hbw1 H2.out HG2.out HM2.out H3.out hb3
  · obtain ⟨I, hI, hI1, hI2⟩ : ∃ I, wrap64 (N : Int) = I ∧ -9223372036854775808 ≤ I ∧ I ≤ 9223372036854775807 := ⟨_, rfl, by unfold wrap64; omega, by unfold wrap64; omega⟩
    have HFB : Hid (fbytes 1 N S = Wire.num (Wire.zz I)) := by show _ = _; unfold fbytes; rw [if_neg (by decide), if_pos rfl, hI]
    go_wp2_with fail
    refine (oint_any w1 B g v xs I hI1 hI2 HO1.out (by omega)).mono ?_
    rintro e w2 ⟨rfl, v2, ho2, hg2, hm2⟩
    have n3 : w2.cell? ⟨f, 1, none⟩ = some (.int .u64 (N : Int)) := (HR1.out.grew hg2 hfS).cell 1
    have H2 := hid_in ho2
    have HG2 := hid_in hg2
    have HM2 := hid_in hm2
    clear ho2 hg2 hm2 n1 n2
    go_wp2_with fail
    refine (rwint_any w2 I hI1 hI2).mono ?_
    rintro e w3 ⟨r, rfl, hown, hb3⟩
    have H3 := hid_in hown
    clear hown n3
    go_wp2
    go_ret
    rw [HFB.out]
    exact put_end hbw1 H2.out HG2.out HM2.out H3.out hb3
  · have HFB : Hid (fbytes 2 N S = Wire.num S.size ++ bytesS S) := by show _ = _; unfold fbytes; rw [if_neg (by decide), if_neg (by decide), if_pos rfl]
    go_wp2_with fail
    refine (otext_any w1 B g v xs S HO1.out (by omega)).mono ?_
    rintro e w2 ⟨rfl, v2, ho2, hg2, hm2⟩
    have n3 : w2.cell? ⟨f, 2, none⟩ = some (.string S) := (HR1.out.grew hg2 hfS).cell 2
    have H2 := hid_in ho2
    have HG2 := hid_in hg2
    have HM2 := hid_in hm2
    clear ho2 hg2 hm2 n1 n2
    go_wp2_with fail
    refine (rwtext_any w2 S (by omega)).mono ?_
    rintro e w3 ⟨r, rfl, hown, hb3⟩
    have H3 := hid_in hown
    clear hown n3
    go_wp2
    go_ret
    rw [HFB.out]
    exact put_end hbw1 H2.out HG2.out HM2.out H3.out hb3
  · obtain ⟨fl, HFL⟩ : ∃ fl, Hid ((N % 2 == 1) = fl) := ⟨_, rfl⟩
    have hfl : ((N : Int) % 2 == 1) = fl := by
      rw [← HFL.out, Bool.eq_iff_iff]
      simp only [beq_iff_eq]
      omega
    have HFB : Hid (fbytes 3 N S = [if fl then 1 else 0]) := by show _ = _; unfold fbytes; rw [if_neg (by decide), if_neg (by decide), if_neg (by decide), if_pos rfl, HFL.out]
    go_wp2_with fail
    refine (oflag_any w1 B g v xs fl HO1.out (by omega)).mono ?_
    rintro e w2 ⟨rfl, v2, ho2, hg2, hm2⟩
    have n3 : w2.cell? ⟨f, 1, none⟩ = some (.int .u64 (N : Int)) := (HR1.out.grew hg2 hfS).cell 1
    have H2 := hid_in ho2
    have HG2 := hid_in hg2
    have HM2 := hid_in hm2
    clear ho2 hg2 hm2 n1 n2
    go_wp2_with fail
    refine (rwflag_any w2 fl).mono ?_
    rintro e w3 ⟨r, rfl, hown, hb3⟩
    have H3 := hid_in hown
    clear hown n3
    go_wp2
    go_ret
    rw [HFB.out]
    exact put_end hbw1 H2.out HG2.out HM2.out H3.out hb3
  · obtain ⟨C, w2, hcv, hb2, hsl2⟩ := conv_bytes w1 S (by omega)
    have hfo := fold_any (bytesS S) (some ⟨w1.heap.size, 0, none⟩) w1.heap.size 0 C w2 (by rw [bytesS_length]; omega) hsl2.at_ hsl2.src
    rw [bytesS_length] at hfo
    have hDl := fold_length (bytesS S)
    have hDb := fold_lt (bytesS S) (bytesS_lt S)
    obtain ⟨D, HD⟩ : ∃ D, Hid (fold (bytesS S) = D) := ⟨_, rfl⟩
    rw [HD.out] at hfo hDl hDb
    have HFB : Hid (fbytes 4 N S = D) := by show _ = _; unfold fbytes; rw [if_neg (by decide), if_neg (by decide), if_neg (by decide), if_neg (by decide), HD.out]
    have hbw2 : Below w.heap.size w w2 := hbw1.trans (hb2.mono hbw1.size)
    have HO2 := hid_in (HO1.out.below hb2)
    clear hsl2 hb2
    go_wp2_with fail
    refine hfo.mono ?_
    rintro e w3 ⟨rfl, hb3⟩
    have hbw3 : Below w.heap.size w w3 := hbw2.trans (hb3.mono hbw2.size)
    have HO3 := hid_in (HO2.out.below hb3)
    clear hfo hcv hb3 hbw2 n1 n2
    go_wp2_with (first | (refine wpList_store_Row rfl 51 _ _ rfl w3.heap.size 0 (D.map u8v) rfl rfl 51 ((List.replicate 32 0).map u8v) (Row.newAt w3 _ _ 51 rfl) 32 info51 (by simpa using hDl) (by simp) (one_u8 D) ?_; intro w4 hr4 hg4 hs4; rw [splice_all _ _ (by simpa using hDl)] at hr4) | (refine wpList_load_Row rfl 51 _ rfl w3.heap.size rfl 51 _ hr4 _ Try.underlying51 rfl 32 info51 (by simpa using hDl) ?_))
    have hb4 : Below w3.heap.size w3 w4 := below_of_grown ((Below.refl _ _).alloc (Nat.le_refl _) _) hg4 (by simp) (Nat.le_refl _)
    have hbw4 : Below w.heap.size w w4 := hbw3.trans (hb4.mono hbw3.size)
    have ho4 := HO3.out.below hb4
    have hdS : ¬ OutS g v w3.heap.size := by
      rintro (h | h)
      · have := HO3.out.row.lt; omega
      · have := (HO3.out.own.lt _ h.symm).2; omega
    obtain ⟨d, hd⟩ : ∃ d, d = w3.heap.size := ⟨_, rfl⟩
    rw [← hd] at hr4 hdS ⊢
    have HR4 := hid_in hr4
    have hod := odigest_any w4 B g v xs D hDl hDb ho4 (by omega)
    obtain ⟨i5i, HI5, HE1, HE2, HE3⟩ := i5h
    clear hd hr4 hg4 hs4 hb4 ho4 hbw3
    refine hod.mono ?_
    rintro e w5 ⟨rfl, v5, ho5, hg5, hm5⟩
    have hr5 := HR4.out.grew hg5 hdS
    have H5 := hid_in ho5
    have HG5 := hid_in hg5
    have HM5 := hid_in hm5
    have hown0 := own_empty w5
    have hbE : Below w5.heap.size w5 (w5.alloc (.cells #[] 5)) := (Below.refl _ _).alloc (Nat.le_refl _) _
    have hrE := hr5.alloc (.cells #[] 5)
    have hnews : ∀ ad, some (⟨d, 0, none⟩ : Addr) = some ad → ∀ j u, (D.map u8v)[j]? = some u → (w5.alloc (.cells #[] 5)).cell? (ad.add j) = some u := fun ad had j u hu => by
      cases had
      rw [Addr.add_mid, Nat.zero_add, hrE.cell]; exact hu
    have hlm : (D.map u8v).length = 32 := by simpa using hDl
    have hf0 : 0 + 32 ≤ 140737488355328 := by omega
    have hBs : w5.heap.size ≤ (w5.alloc (.cells #[] 5)).heap.size := by simp
    have hone := one_u8 D
    have hsa := slice_arr d
    clear hod ho5 hg5 hm5 hr5
    go_wp2_with (at_builtin; refine wpList_append_any rfl _ _ 25 rfl w5.heap.size 5 i5i (.int .u8 0) Try.underlying25 HI5.out HE3.out HE1.out HE2.out rfl _ 0 [] rfl hown0 (some ⟨d, 0, none⟩) 32 32 (D.map u8v) rfl hlm (fun h => by cases h) hnews hone hf0 hBs ?_; intro r6 w6 hown6 hg6; have HG6 := hid_in hg6; clear hg6)
    have hb6 : Below w5.heap.size w5 w6 := own_step hbE HG6.out hBs rfl hown0
    have hown6' : w6.ownsRow w5.heap.size 5 1 r6 D.length (D.map u8v) := by rw [hDl]; simpa using hown6
    go_ret
    rw [HFB.out]
    exact put_end hbw4 H5.out HG5.out HM5.out hown6' hb6
end Go.Proofs.Ytjaplfdcdokhfaa
