/-
  The walk of (*wire.In).Digest, where nothing was wrong yet.
-/
import Derived.Test.YtjaplfdcdokhfaaU4
import Derived.Test.YtjaplfdcdokhfaaT1
namespace Go.Proofs.Ytjaplfdcdokhfaa
open Go.RowKit

/-- the same, its bytes in a block below B -/
def InB (w : World) (g : Nat) (bs : List Nat) (e B : Nat) : Prop :=
  ∃ p cap b off, Row w g [.slice p bs.length cap, .int .i64 (e : Int)] 80 ∧ Sl w p bs cap b off ∧ (p = none → bs.length = 0 ∧ cap = 0) ∧ (0 < bs.length → b ≠ g ∧ b < B)
theorem InIs.toB {w : World} {g e : Nat} {bs : List Nat} (h : InIs w g bs e) : InB w g bs e w.heap.size := by
  obtain ⟨p, cap, b, off, hr, hsl, hno, hne⟩ := h.ex
  exact ⟨p, cap, b, off, hr, hsl, hno, fun h0 => ⟨hne h0, hsl.blk h0⟩⟩
theorem InB.is {w : World} {g e B : Nat} {bs : List Nat} (h : InB w g bs e B) : InIs w g bs e := by
  obtain ⟨p, cap, b, off, hr, hsl, hno, hne⟩ := h
  exact ⟨p, cap, b, off, hr, hsl, hno, fun h0 => (hne h0).1⟩
theorem InB.below {w w' : World} {g e B : Nat} {bs : List Nat} (h : InB w g bs e B) (hb : Below w.heap.size w w') : InB w' g bs e B := by
  obtain ⟨p, cap, b, off, hr, hsl, hno, hne⟩ := h
  exact ⟨p, cap, b, off, hr.below hb hr.lt, hsl.below hb, hno, hne⟩
/-- a block from B on is changed -/
theorem InB.grown {w w' : World} {g e B k : Nat} {bs : List Nat} (h : InB w g bs e B) (hg : w.grownBy w' (some k)) (hk : B ≤ k) (hgk : g ≠ k) : InB w' g bs e B := by
  obtain ⟨p, cap, b, off, hr, hsl, hno, hne⟩ := h
  exact ⟨p, cap, b, off, hr.grown hg (by simpa using hgk), hsl.grown hg (fun h0 => by have := (hne h0).2; simp; omega), hno, hne⟩
set_option maxHeartbeats 400000 in
theorem take_someB (w : World) (g n B : Nat) (bs : List Nat) (h0 : 0 < n) (hn : n ≤ bs.length) (hi : InB w g bs 0 B) :
    Calls Try.prog 49 #[.pointer (some ⟨g, 0, none⟩), .int .i64 (n : Int)] w fun r w' => ∃ b off cap, r = .returned (.tuple #[.slice (some ⟨b, off, none⟩) n cap, .bool true]) ∧ Sl w' (some ⟨b, off, none⟩) (bs.take n) cap b off ∧ b < B ∧ InB w' g (bs.drop n) 0 B ∧ w.grownBy w' (some g) ∧ w'.heap.size = w.heap.size := by
  obtain ⟨p, cap, b, off, hr, hsl, hno, hne⟩ := hi
  obtain rfl := hsl.at_ (by omega)
  obtain ⟨hbg, hbB⟩ := hne (by omega)
  have hc1 := hsl.cap1
  have hc2 := hsl.cap2
  have c0 : w.cell? ⟨g, 0, none⟩ = some (.slice (some ⟨b, off, none⟩) bs.length cap) := hr.cell 0
  have c1 : w.cell? ⟨g, 1, none⟩ = some (.int .i64 0) := hr.cell 1
  have f0 := hr.frozen 0
  have k1 : (n : Int) ≤ (bs.length : Int) := by omega
  have hs1 := slice_to b off bs.length cap n (by omega)
  obtain ⟨q, hq, hqn, hs2⟩ := slice_rest b off bs.length cap n hn hc1
  have HQ := hid_in hq
  have HQN := hid_in hqn
  have HR := hid_in hr
  have HSL := hid_in hsl
  clear hr hsl hno hne hq hqn
  go_enter Try.func49, Try.ntmps49
  go_wp2
  go_ret2
  have hg := grownBy_setCell w ⟨g, 0, none⟩ (.slice q (bs.length - n) (cap - n))
  have hslw := HSL.out.grown hg (fun _ => by simpa using hbg)
  have e1 : (bs.drop n).length = bs.length - n := by simp
  refine ⟨b, off, cap, rfl, ?_, hbB, ⟨q, cap - n, b, off + n, ?_, ?_, fun h => absurd h HQN.out, fun _ => ⟨hbg, hbB⟩⟩, hg, by simp [World.setCell]⟩
  · have := hslw.part 0 n cap (by omega) (by omega) hc2
    simpa using this
  · rw [e1]; exact HR.out.set_same 0 _
  · have := hslw.part n (bs.length - n) (cap - n) (by omega) (by omega) (by omega)
    rw [List.take_of_length_le (by simp)] at this
    refine ⟨this.lt, this.cap1, this.cap2, fun h => ?_, this.src⟩
    exact HQ.out (by simp at h; omega)
set_option maxHeartbeats 400000 in
set_option maxRecDepth 100000 in
theorem idigest_short (w : World) (g : Nat) (bs : List Nat) (hs : bs.length < 32) (hi : InIs w g bs 0) :
    Calls Try.prog 24 #[.pointer (some ⟨g, 0, none⟩)] w fun r w' => r = .returned (.agg ((List.replicate 32 0).map u8v).toArray) ∧ InIs w' g [] 20 ∧ Grew w w' (· = g) := by
  have HI := hid_in hi
  clear hi
  have hgl : g < w.heap.size := by obtain ⟨_, _, _, _, hr, _⟩ := HI.out.ex; exact hr.lt
  obtain ⟨w2, Z, HZ, H2, hr0, hr1, HB, HS⟩ := two_rows w
  have hZl : Z.length = 32 := by rw [HZ.out]; rfl
  have hZ1 : ∀ v ∈ Z, v.oneCell' = true := by rw [HZ.out]; exact one_u8 _
  have HT : Hid (Calls Try.prog 49 #[.pointer (some ⟨g, 0, none⟩), .int .i64 32] ((w.alloc (.cells zero32.toArray 51)).alloc (.cells zero32.toArray 51)) fun r w' => r = .returned (.tuple #[.slice none 0 0, .bool false]) ∧ InIs w' g [] 20 ∧ w2.grownBy w' (some g) ∧ w'.heap.size = w2.heap.size) := by
    show Calls _ _ _ _ _
    rw [H2.out]
    exact take_short w2 g 32 bs hs (HI.out.below HB.out)
  rw [← zero32_eq, ← HZ.out]
  clear HI H2
  have hsl := slice_arr (w.heap.size + 1)
  have HGL := hid_in hgl
  go_enter Try.func24, Try.ntmps24
  go_wp2_with fail
  refine HT.out.mono ?_
  rintro e2 w3 ⟨rfl, h1, h2, h3⟩
  have H1 := hid_in h1
  have H4 := hid_in h2
  have H5 := hid_in h3
  have hr0' := hr0.grown h2 (by have := HGL.out; simp; omega)
  have hr1' := hr1.grown h2 (by have := HGL.out; simp; omega)
  clear HT h1 h2 h3 hr0 hr1 hgl
  go_wp2_with (first | (refine wpList_copy_nothing rfl _ _ 25 25 rfl 5 Try.underlying25 info5' _ _ _ _ _ _ rfl rfl rfl ?_) | (refine wpList_load_Row rfl 51 _ rfl (w.heap.size + 1) rfl 51 _ hr1' _ Try.underlying51 rfl 32 info51 hZl ?_) | (refine wpList_store_Row rfl 51 _ _ rfl w.heap.size 0 Z rfl rfl 51 _ hr0' 32 info51 hZl (by omega) hZ1 ?_; intro w4 hr4 hg4 hs4))
  have hgl := HGL.out
  have hin : InIs w4 g [] 20 := by
    obtain ⟨p, cap, b, off, hr, hsl, hno, _⟩ := H1.out.ex
    exact ⟨p, cap, b, off, hr.grown hg4 (by simp; omega), hsl.grown hg4 (fun h => by simp at h), hno, fun h => by simp at h⟩
  refine post_Row 2 51 Try.results24 w.heap.size rfl 51 _ hr4 _ Try.underlying51 rfl 32 info51 (by simp [splice_all, hZl]) rfl ⟨?_, hin, ?_⟩
  · rw [splice_all _ _ rfl]
  · refine ((Grew.of_below (· = g) HB.out).trans (Grew.of_grown H4.out) (fun q _ h => ?_)).trans (Grew.of_grown hg4) (fun q hq h => ?_)
    · simpa using h
    · simp at h; omega
set_option maxHeartbeats 400000 in
set_option maxRecDepth 100000 in
theorem idigest_some (w : World) (g : Nat) (bs : List Nat) (hs : 32 ≤ bs.length) (hi : InIs w g bs 0) :
    Calls Try.prog 24 #[.pointer (some ⟨g, 0, none⟩)] w fun r w' => r = .returned (.agg ((bs.take 32).map u8v).toArray) ∧ InIs w' g (bs.drop 32) 0 ∧ Grew w w' (· = g) := by
  have HI := hid_in hi
  clear hi
  have hgl : g < w.heap.size := by obtain ⟨_, _, _, _, hr, _⟩ := HI.out.ex; exact hr.lt
  obtain ⟨w2, Z, HZ, H2, hr0, hr1, HB, HS⟩ := two_rows w
  have hZl : Z.length = 32 := by rw [HZ.out]; rfl
  have HT : Hid (Calls Try.prog 49 #[.pointer (some ⟨g, 0, none⟩), .int .i64 32] ((w.alloc (.cells zero32.toArray 51)).alloc (.cells zero32.toArray 51)) fun r w' => ∃ b off cap, r = .returned (.tuple #[.slice (some ⟨b, off, none⟩) 32 cap, .bool true]) ∧ Sl w' (some ⟨b, off, none⟩) (bs.take 32) cap b off ∧ b < w.heap.size ∧ InB w' g (bs.drop 32) 0 w.heap.size ∧ w2.grownBy w' (some g) ∧ w'.heap.size = w2.heap.size) := by
    show Calls _ _ _ _ _
    rw [H2.out]
    exact take_someB w2 g 32 w.heap.size bs (by omega) hs (HI.out.toB.below HB.out)
  have hDl : ((bs.take 32).map u8v).length = 32 := by simp; omega
  have hD1 : ∀ v ∈ (bs.take 32).map u8v, v.oneCell' = true := one_u8 _
  have HD : Hid (∀ (w' : World) cap b off, Sl w' (some ⟨b, off, none⟩) (bs.take 32) cap b off → ∀ j v, ((bs.take 32).map u8v)[j]? = some v → w'.cell? ⟨b, off + j, none⟩ = some v) := by
    show ∀ _, _
    intro w' cap b off h j v hv
    have hj : j < (bs.take 32).length := by have := (List.getElem?_eq_some_iff.1 hv).1; simpa using this
    rw [h.src j hj]
    simp only [List.getElem?_map, List.getElem?_eq_getElem hj, Option.map_some] at hv
    rw [← Option.some.inj hv]
    simp only [List.getD, List.getElem?_eq_getElem hj, Option.getD_some]
  obtain ⟨D, HDE⟩ : ∃ D, Hid (D = (bs.take 32).map u8v) := ⟨_, rfl⟩
  rw [← HDE.out] at hDl hD1 HD ⊢
  clear HI H2 HDE
  have hsl := slice_arr (w.heap.size + 1)
  have HGL := hid_in hgl
  go_enter Try.func24, Try.ntmps24
  go_wp2_with fail
  refine HT.out.mono ?_
  rintro e2 w3 ⟨b3, off3, cap3, rfl, hsl3, hb3, h1, h2, h3⟩
  have H1 := hid_in h1
  have H4 := hid_in h2
  have H5 := hid_in h3
  have hsrc := HD.out w3 cap3 b3 off3 hsl3
  have hr0' := hr0.grown h2 (by have := HGL.out; simp; omega)
  have hr1' := hr1.grown h2 (by have := HGL.out; simp; omega)
  have HB3 := hid_in hb3
  clear HT h1 h2 h3 hr0 hr1 hgl hb3 hsl3 HD
  go_wp2_with (first | (refine wpList_copy_Row rfl _ _ 25 25 rfl 5 Try.underlying25 info5' (w.heap.size + 1) 0 32 32 b3 off3 32 cap3 rfl rfl Z 51 hr1' D 32 hDl rfl hsrc (by omega) hD1 ?_; intro w4 hr5 hg5 hs5; rw [splice_all _ _ (by rw [hDl, hZl])] at hr5; have hr0'' := hr0'.grown hg5 (by simp)) | (refine wpList_load_Row rfl 51 _ rfl (w.heap.size + 1) rfl 51 _ hr5 _ Try.underlying51 rfl 32 info51 hDl ?_) | (refine wpList_store_Row rfl 51 _ _ rfl w.heap.size 0 D rfl rfl 51 _ hr0'' 32 info51 hDl (by omega) hD1 ?_; intro w5 hr4 hg4 hs4))
  have hgl := HGL.out
  have hin : InIs w5 g (bs.drop 32) 0 := ((H1.out.grown hg5 (by omega) (by omega)).grown hg4 (by omega) (by omega)).is
  have hz : splice Z 0 D = D := splice_all _ _ (by rw [hDl, hZl])
  rw [hz] at hr4
  refine post_Row 2 51 Try.results24 w.heap.size rfl 51 _ hr4 _ Try.underlying51 rfl 32 info51 hDl rfl ⟨rfl, hin, ?_⟩
  refine (((Grew.of_below (· = g) HB.out).trans (Grew.of_grown H4.out) (fun q _ h => ?_)).trans (Grew.of_grown hg5) (fun q hq h => ?_)).trans (Grew.of_grown hg4) (fun q hq h => ?_)
  · simpa using h
  · simp at h; omega
  · simp at h; omega
end Go.Proofs.Ytjaplfdcdokhfaa
