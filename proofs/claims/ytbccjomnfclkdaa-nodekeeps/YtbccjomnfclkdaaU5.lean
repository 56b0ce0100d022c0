/-
  The walk of (*wire.In).Digest, where nothing was wrong yet.
-/
import Derived.Test.YtbccjomnfclkdaaS7
import Derived.Test.YtbccjomnfclkdaaU4
namespace Go.Proofs.Ytbccjomnfclkdaa
open Go.RowKit
theorem Sl.grew {w w' : World} {p : Option Addr} {bs : List Nat} {cap b off : Nat} {S : Nat → Prop} (h : Sl w p bs cap b off) (hg : Grew w w' S) (hn : 0 < bs.length → ¬ S b) : Sl w' p bs cap b off :=
  ⟨h.lt, h.cap1, h.cap2, h.at_, fun j hj => by
    have hc := h.src j hj
    have hlt := World.block_lt_of_cell? w _ hc
    have hb := hg.block b hlt (hn (by omega))
    have : w'.cell? ⟨b, off + j, none⟩ = w.cell? ⟨b, off + j, none⟩ := by
      simp only [World.cell?, hb]
    rw [this]; exact hc⟩
/-- a part of a slice of bytes from a place on -/
theorem Sl.rest {w : World} {p q : Option Addr} {bs : List Nat} {cap b off : Nat} (h : Sl w p bs cap b off) (n : Nat) (hn : n ≤ bs.length) (hq : n < bs.length → q = some ⟨b, off + n, none⟩) : Sl w q (bs.drop n) (cap - n) b (off + n) :=
  ⟨fun x hx => h.lt x (List.mem_of_mem_drop hx), by have := h.cap1; simp; omega, by have := h.cap2; omega, fun h0 => hq (by simp at h0; omega), fun j hj => by
    have hj' : n + j < bs.length := by simp at hj; omega
    rw [Nat.add_assoc, h.src (n + j) hj']
    simp⟩
end Go.Proofs.Ytbccjomnfclkdaa
namespace Go.Proofs.Ytbccjomnfclkdaa
open Go.RowKit
/-- the same, its bytes in a block below B -/
def InB (w : World) (g : Nat) (bs : List Nat) (e B : Nat) : Prop :=
  ∃ p cap b off, Row w g [.slice p bs.length cap, .int .i64 (e : Int)] 91 ∧ Sl w p bs cap b off ∧ (p = none → bs.length = 0 ∧ cap = 0) ∧ (0 < bs.length → b ≠ g ∧ b < B)
theorem InIs.toB {B : Nat} {w : World} {g e : Nat} {bs : List Nat} (h : InIs B w g bs e) : InB w g bs e B := h.ex
theorem InB.is {w : World} {g e B : Nat} {bs : List Nat} (h : InB w g bs e B) : InIs B w g bs e := ⟨h⟩
theorem InB.below {w w' : World} {g e B : Nat} {bs : List Nat} (h : InB w g bs e B) (hb : Below w.heap.size w w') : InB w' g bs e B := by
  obtain ⟨p, cap, b, off, hr, hsl, hno, hne⟩ := h
  exact ⟨p, cap, b, off, hr.below hb hr.lt, hsl.below hb, hno, hne⟩
/-- a block from B on is changed -/
theorem InB.grown {w w' : World} {g e B k : Nat} {bs : List Nat} (h : InB w g bs e B) (hg : w.grownBy w' (some k)) (hk : B ≤ k) (hgk : g ≠ k) : InB w' g bs e B := by
  obtain ⟨p, cap, b, off, hr, hsl, hno, hne⟩ := h
  exact ⟨p, cap, b, off, hr.grown hg (by simpa using hgk), hsl.grown hg (fun h0 => by have := (hne h0).2; simp; omega), hno, hne⟩
set_option maxRecDepth 20000 in
set_option maxHeartbeats 400000 in
theorem take_someB (w : World) (g n B : Nat) (bs : List Nat) (h0 : 0 < n) (hn : n ≤ bs.length) (hi : InB w g bs 0 B) :
    Calls Try.prog 56 #[.pointer (some ⟨g, 0, none⟩), .int .i64 (n : Int)] w fun r w' => ∃ b off cap, r = .returned (.tuple #[.slice (some ⟨b, off, none⟩) n cap, .bool true]) ∧ Sl w' (some ⟨b, off, none⟩) (bs.take n) cap b off ∧ b < B ∧ InB w' g (bs.drop n) 0 B ∧ w.grownBy w' (some g) ∧ w'.heap.size = w.heap.size := by
  obtain ⟨p, cap, b, off, hr, hsl, hno, hne⟩ := hi
  obtain rfl := hsl.at_ (by omega)
  obtain ⟨hbg, hbB⟩ := hne (by omega)
  have hc1 := hsl.cap1
  have hc2 := hsl.cap2
  have c0 : w.cell? ⟨g, 0, none⟩ = some (.slice (some ⟨b, off, none⟩) bs.length cap) := hr.cell 0
  have c1 : w.cell? ⟨g, 1, none⟩ = some (.int .i64 0) := hr.cell 1
  have f0 := hr.frozen 0
  have k1 : (n : Int) ≤ (bs.length : Int) := by omega
  have hs1 := slice_to b off bs.length cap n (by omega)
  obtain ⟨q, hq, hqn, hs2⟩ := slice_rest b off bs.length cap n hn hc1
  have HQ := hid_in hq
  have HQN := hid_in hqn
  have HR := hid_in hr
  have HSL := hid_in hsl
  clear hr hsl hno hne hq hqn
  go_enter Try.func56, Try.ntmps56
  go_wp2
  go_ret2
  have hg := grownBy_setCell w ⟨g, 0, none⟩ (.slice q (bs.length - n) (cap - n))
  have hslw := HSL.out.grown hg (fun _ => by simpa using hbg)
  have e1 : (bs.drop n).length = bs.length - n := by simp
  refine ⟨b, off, cap, rfl, ?_, hbB, ⟨q, cap - n, b, off + n, ?_, ?_, fun h => absurd h HQN.out, fun _ => ⟨hbg, hbB⟩⟩, hg, by simp [World.setCell]⟩
  · have := hslw.part 0 n cap (by omega) (by omega) hc2
    simpa using this
  · rw [e1]; exact HR.out.set_same 0 _
  · have := hslw.part n (bs.length - n) (cap - n) (by omega) (by omega) (by omega)
    rw [List.take_of_length_le (by simp)] at this
    refine ⟨this.lt, this.cap1, this.cap2, fun h => ?_, this.src⟩
    exact HQ.out (by simp at h; omega)
set_option maxRecDepth 20000 in
set_option maxHeartbeats 400000 in
set_option maxRecDepth 100000 in
theorem idigest_short {B : Nat} (w : World) (g : Nat) (bs : List Nat) (hs : bs.length < 32) (_hBw : B ≤ w.heap.size) (hi : InIs B w g bs 0) :
    Calls Try.prog 57 #[.pointer (some ⟨g, 0, none⟩)] w fun r w' => r = .returned (.agg ((List.replicate 32 0).map u8v).toArray) ∧ InIs B w' g [] 20 ∧ Grew w w' (· = g) := by
  have HI := hid_in hi
  clear hi
  have hgl : g < w.heap.size := by obtain ⟨_, _, _, _, hr, _⟩ := HI.out.ex; exact hr.lt
  obtain ⟨w2, Z, HZ, H2, hr0, hr1, HB, HS⟩ := two_rows w
  have hZl : Z.length = 32 := by rw [HZ.out]; rfl
  have hZ1 : ∀ v ∈ Z, v.oneCell' = true := by rw [HZ.out]; exact one_u8 _
  have HT : Hid (Calls Try.prog 56 #[.pointer (some ⟨g, 0, none⟩), .int .i64 32] ((w.alloc (.cells zero32.toArray 49)).alloc (.cells zero32.toArray 49)) fun r w' => r = .returned (.tuple #[.slice none 0 0, .bool false]) ∧ InIs B w' g [] 20 ∧ w2.grownBy w' (some g) ∧ w'.heap.size = w2.heap.size) := by
    show Calls _ _ _ _ _
    rw [H2.out]
    exact take_short w2 g 32 bs hs (HI.out.below HB.out)
  rw [← zero32_eq, ← HZ.out]
  clear HI H2
  have hsl := slice_arr (w.heap.size + 1)
  have HGL := hid_in hgl
  go_enter Try.func57, Try.ntmps57
  go_wp2_with fail
  refine HT.out.mono ?_
  rintro e2 w3 ⟨rfl, h1, h2, h3⟩
  have H1 := hid_in h1
  have H4 := hid_in h2
  have H5 := hid_in h3
  have hr0' := hr0.grown h2 (by have := HGL.out; simp; omega)
  have hr1' := hr1.grown h2 (by have := HGL.out; simp; omega)
  clear HT h1 h2 h3 hr0 hr1 hgl
  go_wp2_with (first | (refine wpList_copy_nothing rfl _ _ 33 33 rfl 5 Try.underlying33 info5' _ _ _ _ _ _ rfl rfl rfl ?_) | (refine wpList_load_Row rfl 49 _ rfl (w.heap.size + 1) rfl 49 _ hr1' _ Try.underlying49 rfl 32 info49 hZl ?_) | (refine wpList_store_Row rfl 49 _ _ rfl w.heap.size 0 Z rfl rfl 49 _ hr0' 32 info49 hZl (by omega) hZ1 ?_; intro w4 hr4 hg4 hs4))
  have hgl := HGL.out
  have hin : InIs B w4 g [] 20 := by
    obtain ⟨p, cap, b, off, hr, hsl, hno, _⟩ := H1.out.ex
    exact ⟨p, cap, b, off, hr.grown hg4 (by simp; omega), hsl.grown hg4 (fun h => by simp at h), hno, fun h => by simp at h⟩
  refine post_Row 2 49 Try.results57 w.heap.size rfl 49 _ hr4 _ Try.underlying49 rfl 32 info49 (by simp [splice_all, hZl]) rfl ⟨?_, hin, ?_⟩
  · rw [splice_all _ _ rfl]
  · refine ((Grew.of_below (· = g) HB.out).trans (Grew.of_grown H4.out) (fun q _ h => ?_)).trans (Grew.of_grown hg4) (fun q hq h => ?_)
    · simpa using h
    · simp at h; omega
set_option maxRecDepth 20000 in
set_option maxHeartbeats 400000 in
set_option maxRecDepth 100000 in
theorem idigest_some {B : Nat} (w : World) (g : Nat) (bs : List Nat) (hs : 32 ≤ bs.length) (hBw : B ≤ w.heap.size) (hi : InIs B w g bs 0) :
    Calls Try.prog 57 #[.pointer (some ⟨g, 0, none⟩)] w fun r w' => r = .returned (.agg ((bs.take 32).map u8v).toArray) ∧ InIs B w' g (bs.drop 32) 0 ∧ Grew w w' (· = g) := by
  have HI := hid_in hi
  clear hi
  have hgl : g < w.heap.size := by obtain ⟨_, _, _, _, hr, _⟩ := HI.out.ex; exact hr.lt
  obtain ⟨w2, Z, HZ, H2, hr0, hr1, HB, HS⟩ := two_rows w
  have hZl : Z.length = 32 := by rw [HZ.out]; rfl
  have HT : Hid (Calls Try.prog 56 #[.pointer (some ⟨g, 0, none⟩), .int .i64 32] ((w.alloc (.cells zero32.toArray 49)).alloc (.cells zero32.toArray 49)) fun r w' => ∃ b off cap, r = .returned (.tuple #[.slice (some ⟨b, off, none⟩) 32 cap, .bool true]) ∧ Sl w' (some ⟨b, off, none⟩) (bs.take 32) cap b off ∧ b < B ∧ InB w' g (bs.drop 32) 0 B ∧ w2.grownBy w' (some g) ∧ w'.heap.size = w2.heap.size) := by
    show Calls _ _ _ _ _
    rw [H2.out]
    exact take_someB w2 g 32 B bs (by omega) hs (HI.out.toB.below HB.out)
  have hDl : ((bs.take 32).map u8v).length = 32 := by simp; omega
  have hD1 : ∀ v ∈ (bs.take 32).map u8v, v.oneCell' = true := one_u8 _
  have HD : Hid (∀ (w' : World) cap b off, Sl w' (some ⟨b, off, none⟩) (bs.take 32) cap b off → ∀ j v, ((bs.take 32).map u8v)[j]? = some v → w'.cell? ⟨b, off + j, none⟩ = some v) := by
    show ∀ _, _
    intro w' cap b off h j v hv
    have hj : j < (bs.take 32).length := by have := (List.getElem?_eq_some_iff.1 hv).1; simpa using this
    rw [h.src j hj]
    simp only [List.getElem?_map, List.getElem?_eq_getElem hj, Option.map_some] at hv
    rw [← Option.some.inj hv]
    simp only [List.getD, List.getElem?_eq_getElem hj, Option.getD_some]
  obtain ⟨D, HDE⟩ : ∃ D, Hid (D = (bs.take 32).map u8v) := ⟨_, rfl⟩
  rw [← HDE.out] at hDl hD1 HD ⊢
  clear HI H2 HDE
  have hsl := slice_arr (w.heap.size + 1)
  have HGL := hid_in hgl
  go_enter Try.func57, Try.ntmps57
  go_wp2_with fail
  refine HT.out.mono ?_
  rintro e2 w3 ⟨b3, off3, cap3, rfl, hsl3, hb3, h1, h2, h3⟩
  have H1 := hid_in h1
  have H4 := hid_in h2
  have H5 := hid_in h3
  have hsrc := HD.out w3 cap3 b3 off3 hsl3
  have hr0' := hr0.grown h2 (by have := HGL.out; simp; omega)
  have hr1' := hr1.grown h2 (by have := HGL.out; simp; omega)
  have HB3 := hid_in hb3
  clear HT h1 h2 h3 hr0 hr1 hgl hb3 hsl3 HD
  go_wp2_with (first | (refine wpList_copy_Row rfl _ _ 33 33 rfl 5 Try.underlying33 info5' (w.heap.size + 1) 0 32 32 b3 off3 32 cap3 rfl rfl Z 49 hr1' D 32 hDl rfl hsrc (by omega) hD1 ?_; intro w4 hr5 hg5 hs5; rw [splice_all _ _ (by rw [hDl, hZl])] at hr5; have hr0'' := hr0'.grown hg5 (by simp)) | (refine wpList_load_Row rfl 49 _ rfl (w.heap.size + 1) rfl 49 _ hr5 _ Try.underlying49 rfl 32 info49 hDl ?_) | (refine wpList_store_Row rfl 49 _ _ rfl w.heap.size 0 D rfl rfl 49 _ hr0'' 32 info49 hDl (by omega) hD1 ?_; intro w5 hr4 hg4 hs4))
  have hgl := HGL.out
  have hin : InIs B w5 g (bs.drop 32) 0 := ((H1.out.grown hg5 (by omega) (by omega)).grown hg4 (by omega) (by omega)).is
  have hz : splice Z 0 D = D := splice_all _ _ (by rw [hDl, hZl])
  rw [hz] at hr4
  refine post_Row 2 49 Try.results57 w.heap.size rfl 49 _ hr4 _ Try.underlying49 rfl 32 info49 hDl rfl ⟨rfl, hin, ?_⟩
  refine (((Grew.of_below (· = g) HB.out).trans (Grew.of_grown H4.out) (fun q _ h => ?_)).trans (Grew.of_grown hg5) (fun q hq h => ?_)).trans (Grew.of_grown hg4) (fun q hq h => ?_)
  · simpa using h
  · simp at h; omega
  · simp at h; omega
end Go.Proofs.Ytbccjomnfclkdaa
