/-
  What a node reads as; the walk of node.read. The walk of node.Decode.
-/
import Derived.Test.YtamaejlbojbbeaaGreatDoorQ05
import Derived.Test.YtamaejlbojbbeaaGreatDoorQ06
import Derived.Test.YtamaejlbojbbeaaGreatDoorQ07
import Derived.Test.YtamaejlbojbbeaaGreatDoorQ08
import Derived.Test.YtamaejlbojbbeaaGreatDoorQ09
import Derived.Test.YtamaejlbojbbeaaGreatDoorQ10
namespace Go.Proofs.YtamaejlbojbbeaaGreatDoor.Nd
open Go.RowKit
def okS (s : Sta) : Prop := ∀ x ∈ s.1, x < 256
theorem okS_drop {s t : Sta} (h : okS s) (n : Nat) (ht : t.1 = s.1.drop n) : okS t := fun x hx => h x (List.mem_of_mem_drop (by rw [← ht]; exact hx))
theorem okS_nil {t : Sta} (ht : t.1 = []) : okS t := fun x hx => by rw [ht] at hx; cases hx
theorem sNum_ok {s : Sta} (h : okS s) : okS (sNum s).2 := by
  unfold sNum
  split
  · obtain ⟨n, h1, _⟩ := rnumF_sub 10 0 0 s.1
    exact okS_drop h n h1
  · exact h
theorem sText_ok {s : Sta} (m : Nat) (h : okS s) : okS (sText m s).2 := by
  unfold sText Wire.rtext
  obtain ⟨n, h1, _⟩ := rnumF_sub 10 0 0 s.1
  split
  · split
    · exact okS_drop h n h1
    · split
      · exact okS_nil rfl
      · split
        · exact okS_nil rfl
        · exact okS_drop h (n + (Wire.rnum s.1).1) (by show List.drop _ (Wire.rnum s.1).2.1 = _; rw [show (Wire.rnum s.1).2.1 = List.drop n s.1 from h1, List.drop_drop])
  · exact h
theorem sDig_ok {s : Sta} (h : okS s) : Dg (sDig s).1 ∧ okS (sDig s).2 := by
  refine ⟨⟨sDig_length s, ?_⟩, ?_⟩
  · unfold sDig rdigest
    split
    · split
      · intro x hx; have := (List.mem_replicate.1 hx).2; omega
      · intro x hx; exact h x (List.mem_of_mem_take hx)
    · intro x hx; have := (List.mem_replicate.1 hx).2; omega
  · unfold sDig rdigest
    split
    · split
      · exact okS_nil rfl
      · exact okS_drop h 32 rfl
    · exact h
theorem sParts_ok (c : Nat) {s : Sta} (h : okS s) : (∀ d ∈ (sParts c s).1, Dg d) ∧ okS (sParts c s).2 := by
  induction c with
  | zero => exact ⟨fun d hd => by simp [sParts] at hd, h⟩
  | succ c ih =>
    refine ⟨fun d hd => ?_, (sDig_ok ih.2).2⟩
    simp only [sParts, List.mem_append, List.mem_singleton] at hd
    rcases hd with hd | rfl
    · exact ih.1 d hd
    · exact (sDig_ok ih.2).1
theorem cutN_le (m n : Nat) : cutN m n ≤ m + 1 := by unfold cutN; omega
theorem sItem_ok (m : Nat) (hm : m ≤ 100000) {s : Sta} (h : okS s) : (sItem (cutN m) s).1.ok ∧ okS (sItem (cutN m) s).2 := by
  have h3 := sDig_ok (sNum_ok (sText_ok 16 h))
  refine ⟨⟨h3.1, ?_⟩, h3.2⟩
  have := cutN_le m (sNum (sText 16 s).2).1
  show i64 (cutN m (sNum (sText 16 s).2).1 : Int)
  unfold i64
  omega
theorem sItems_ok (m : Nat) (hm : m ≤ 100000) (c : Nat) {s : Sta} (h : okS s) : (∀ x ∈ (sItems (cutN m) c s).1, x.ok) ∧ okS (sItems (cutN m) c s).2 := by
  induction c with
  | zero => exact ⟨fun d hd => by simp [sItems] at hd, h⟩
  | succ c ih =>
    refine ⟨fun d hd => ?_, (sItem_ok m hm ih.2).2⟩
    simp only [sItems, List.mem_append, List.mem_singleton] at hd
    rcases hd with hd | rfl
    · exact ih.1 d hd
    · exact (sItem_ok m hm ih.2).1
/-- what is read as a node, right or not -/
def rd (s : Sta) : Nd × Sta :=
  let a := sNum s
  let k := cutN 3 a.1
  if k = 1 then (⟨1, str (sText 64 a.2).1, 0, [], []⟩, (sText 64 a.2).2)
  else if k = 2 then
    let b := sNum a.2
    let z := cutN 1024 b.1
    (⟨2, ByteArray.empty, z, (sParts (pieces z) b.2).1, []⟩, (sParts (pieces z) b.2).2)
  else if k = 3 then
    let b := sNum a.2
    let z := cutN 64 b.1
    (⟨3, ByteArray.empty, 0, [], (sItems (cutN 3) z b.2).1⟩, (sItems (cutN 3) z b.2).2)
  else (⟨k, ByteArray.empty, 0, [], []⟩, a.2)
theorem In.ok {B : Nat} {w : World} {g : Nat} {s : Sta} (h : In B w g s) : okS s := InIs.lt h
theorem i64_0 : i64 0 := by unfold i64; decide
theorem i64_1 : i64 1 := by unfold i64; decide
theorem i64_2 : i64 2 := by unfold i64; decide
theorem i64_3 : i64 3 := by unfold i64; decide
theorem info31 : (Tryz.prog.info? 108).map (·.size) = some 5 := by kernel_rfl
theorem set5 {W : World} {Z : Nat} {t : TypeId} {a0 a1 a2 a3 a4 : Value} (h : Row W Z [a0, a1, a2, a3, a4] t) (b0 b1 b2 b3 b4 : Value) :
    Row (((((W.setCell ⟨Z, 0, none⟩ b0).setCell ⟨Z, 1, none⟩ b1).setCell ⟨Z, 2, none⟩ b2).setCell ⟨Z, 3, none⟩ b3).setCell ⟨Z, 4, none⟩ b4) Z [b0, b1, b2, b3, b4] t ∧ W.grownBy (((((W.setCell ⟨Z, 0, none⟩ b0).setCell ⟨Z, 1, none⟩ b1).setCell ⟨Z, 2, none⟩ b2).setCell ⟨Z, 3, none⟩ b3).setCell ⟨Z, 4, none⟩ b4) (some Z) :=
  ⟨((((h.set_same 0 b0).set_same 1 b1).set_same 2 b2).set_same 3 b3).set_same 4 b4,
    grownBy_trans (grownBy_trans (grownBy_trans (grownBy_trans (grownBy_setCell W ⟨Z, 0, none⟩ b0) (grownBy_setCell _ ⟨Z, 1, none⟩ b1)) (grownBy_setCell _ ⟨Z, 2, none⟩ b2)) (grownBy_setCell _ ⟨Z, 3, none⟩ b3)) (grownBy_setCell _ ⟨Z, 4, none⟩ b4)⟩
/-- the slices of a node lie in blocks from lo on -/
def Fresh (lo : Nat) (v : Value) : Prop := ∀ k d s vp vi, v = .agg #[.int .i64 k, .string d, .int .i64 s, vp, vi] → (∀ q, Value.ownBlock vp = some q → lo ≤ q) ∧ ∀ q, Value.ownBlock vi = some q → lo ≤ q
theorem fresh5 {lo : Nat} (k s : Int) (d : ByteArray) {vp vi : Value} (h1 : ∀ q, Value.ownBlock vp = some q → lo ≤ q) (h2 : ∀ q, Value.ownBlock vi = some q → lo ≤ q) : Fresh lo (.agg #[.int .i64 k, .string d, .int .i64 s, vp, vi]) := by
  intro k' d' s' vp' vi' e
  simp only [Value.agg.injEq, Array.mk.injEq, List.cons.injEq, Value.int.injEq, true_and, Value.string.injEq, and_true] at e
  obtain ⟨_, _, _, rfl, rfl⟩ := e
  exact ⟨h1, h2⟩
theorem Fresh.mono {lo lo' : Nat} {v : Value} (h : Fresh lo v) (hl : lo' ≤ lo) : Fresh lo' v := fun k d s vp vi e => ⟨fun q hq => Nat.le_trans hl ((h k d s vp vi e).1 q hq), fun q hq => Nat.le_trans hl ((h k d s vp vi e).2 q hq)⟩
theorem own_none (lo : Nat) : ∀ q, Value.ownBlock (.slice none 0 0) = some q → lo ≤ q := fun q h => by cases h
theorem IsN.grown {w w' : World} {v : Value} {n : Nd} {lo z : Nat} (h : IsN w v n) (hg : w.grownBy w' (some z)) (hf : Fresh lo v) (hz : z < lo) : IsN w' v n := by
  obtain ⟨vp, vi, e, hp, hi⟩ := h.ex
  obtain ⟨f1, f2⟩ := hf _ _ _ _ _ e
  exact ⟨⟨vp, vi, e, hp.grown hg (fun q hq => by have := f1 q hq; omega), hi.grown hg (fun q hq => by have := f2 q hq; omega)⟩, h.ok⟩
theorem In.grown {B : Nat} {w w' : World} {g k : Nat} {s : Sta} (h : In B w g s) (hg : w.grownBy w' (some k)) (hk : B ≤ k) (hgk : g ≠ k) : In B w' g s := ((InIs.toB h).grown hg hk hgk).is
theorem rd_1 {s : Sta} (h : cutN 3 (sNum s).1 = 1) : rd s = (⟨1, str (sText 64 (sNum s).2).1, 0, [], []⟩, (sText 64 (sNum s).2).2) := by simp [rd, h]
theorem rd_2 {s : Sta} (h : cutN 3 (sNum s).1 = 2) {z : Nat} (hz : cutN 1024 (sNum (sNum s).2).1 = z) : rd s = (⟨2, ByteArray.empty, z, (sParts (pieces z) (sNum (sNum s).2).2).1, []⟩, (sParts (pieces z) (sNum (sNum s).2).2).2) := by subst hz; simp [rd, h]
theorem rd_3 {s : Sta} (h : cutN 3 (sNum s).1 = 3) {z : Nat} (hz : cutN 64 (sNum (sNum s).2).1 = z) : rd s = (⟨3, ByteArray.empty, 0, [], (sItems (cutN 3) z (sNum (sNum s).2).2).1⟩, (sItems (cutN 3) z (sNum (sNum s).2).2).2) := by subst hz; simp [rd, h]
theorem rd_0 {s : Sta} {k : Nat} (h : cutN 3 (sNum s).1 = k) (h1 : k ≠ 1) (h2 : k ≠ 2) (h3 : k ≠ 3) : rd s = (⟨k, ByteArray.empty, 0, [], []⟩, (sNum s).2) := by subst h; simp [rd, h1, h2, h3]
set_option maxHeartbeats 2000000 in
set_option maxRecDepth 100000 in
theorem nread_any (w : World) (g B : Nat) (s : Sta) (hi : In B w g s) (hB : B ≤ w.heap.size) : Calls Tryz.prog 125 #[.pointer (some ⟨g, 0, none⟩)] w fun e w' => ∃ v, e = .returned v ∧ IsN w' v (rd s).1 ∧ In B w' g (rd s).2 ∧ Grew w w' (· = g) ∧ Fresh w.heap.size v := by
  have HOK := hid_in hi.ok
  have HGL := hid_in (InIs.blk hi)
  have HBW := hid_in hB
  obtain ⟨W0, H0⟩ : ∃ W0, Hid (w.alloc (.cells #[.int .i64 0, .string ByteArray.empty, .int .i64 0, .slice none 0 0, .slice none 0 0] 108) = W0) := ⟨_, rfl⟩
  have HB0 : Hid (Below w.heap.size w W0) := by show Below _ _ _; rw [← H0.out]; exact (Below.refl _ _).alloc (Nat.le_refl _) _
  have HI0 : Hid (In B W0 g s) := InIs.below hi HB0.out
  have HR0 : Hid (Row W0 w.heap.size [.int .i64 0, .string ByteArray.empty, .int .i64 0, .slice none 0 0, .slice none 0 0] 108) := by show Row _ _ _ _; rw [← H0.out]; exact Row.new w [.int .i64 0, .string ByteArray.empty, .int .i64 0, .slice none 0 0, .slice none 0 0] 108
  have HN := hid_in (number_s W0 g B s 3 (by decide) HI0.out)
  obtain ⟨n, t, HRD⟩ : ∃ n t, Hid (rd s = (n, t)) := ⟨_, _, rfl⟩
  rw [HRD.out]
  clear hi hB
  go_enter Tryz.func125, Tryz.ntmps125
  go_upto_region 1 with fail
  refine wp_world H0.out ?_
  clear H0
  go_upto_region 2 with (first | (go_at_call 167; refine HN.out.mono ?_; rintro e w1 ⟨rfl, h1, h2⟩; have H1 := hid_in h1; have H2 := hid_in h2; clear h1 h2))
  obtain ⟨W1, HW1⟩ : ∃ W1, Hid (w1.alloc (.cells #[.int .i64 (cutN 3 (sNum s).1 : Int), .string ⟨#[]⟩, .int .i64 0, .slice none 0 0, .slice none 0 0] 108) = W1) := ⟨_, rfl⟩
  have HBW1 : Hid (Below w1.heap.size w1 W1) := by show Below _ _ _; rw [← HW1.out]; exact (Below.refl _ _).alloc (Nat.le_refl _) _
  have HR1 : Hid (Row W1 w1.heap.size [.int .i64 (cutN 3 (sNum s).1 : Int), .string ⟨#[]⟩, .int .i64 0, .slice none 0 0, .slice none 0 0] 108) := by show Row _ _ _ _; rw [← HW1.out]; exact Row.new w1 [.int .i64 (cutN 3 (sNum s).1 : Int), .string ⟨#[]⟩, .int .i64 0, .slice none 0 0, .slice none 0 0] 108
  have HI1 : Hid (In B W1 g (sNum s).2) := InIs.below H1.out HBW1.out
  have HG1 : Hid (Grew w W1 (· = g)) := ((Grew.of_below (· = g) HB0.out).trans H2.out (fun q _ h => h)).trans (Grew.of_below (· = g) HBW1.out) (fun q _ h => h)
  have HRZ : Hid (Row W1 w.heap.size [.int .i64 0, .string ⟨#[]⟩, .int .i64 0, .slice none 0 0, .slice none 0 0] 108) := (HR0.out.grew H2.out (by have := HGL.out; omega)).below HBW1.out (HR0.out.grew H2.out (by have := HGL.out; omega)).lt
  have HW0 : Hid (w.heap.size < w1.heap.size) := (HR0.out.grew H2.out (by have := HGL.out; omega)).lt
  refine wp_world HW1.out ?_
  clear HW1 HN
  generalize hN1 : cutN 3 (sNum s).1 = N at *
  generalize w1.heap.size = G at *
  obtain ⟨s1, HS1⟩ : ∃ s1, Hid ((sNum s).2 = s1) := ⟨_, rfl⟩
  have HOK1 : Hid (okS s1) := by show okS _; rw [← HS1.out]; exact sNum_ok HOK.out
  rw [HS1.out] at HI1
  have HN1 := hid_in hN1
  clear hN1 H1 H2 HBW1 HI0 HR0 HB0
  have c0 : W1.cell? ⟨G, 0, none⟩ = some (.int .i64 (N : Int)) := HR1.out.cell 0
  have c1 : W1.cell? ⟨G, 1, none⟩ = some (.string ⟨#[]⟩) := HR1.out.cell 1
  have c2 : W1.cell? ⟨G, 2, none⟩ = some (.int .i64 0) := HR1.out.cell 2
  have c3 : W1.cell? ⟨G, 3, none⟩ = some (.slice none 0 0) := HR1.out.cell 3
  have c4 : W1.cell? ⟨G, 4, none⟩ = some (.slice none 0 0) := HR1.out.cell 4
  have f1 := HR1.out.frozen 1
  have f2 := HR1.out.frozen 2
  have f3 := HR1.out.frozen 3
  have f4 := HR1.out.frozen 4
  have HLZ : Hid (∀ W W', Grew w W (· = g) → W.grownBy W' (some w.heap.size) → Grew w W' (· = g)) := fun W W' h1 h2 => h1.trans (Grew.of_grown h2) (fun q hq h => by simp at h; omega)
  by_cases h1 : N = 1
  · subst h1
    have HT := hid_in (text_s W1 g B s1 64 (by decide) HI1.out)
    generalize hX : str (sText 64 s1).1 = X at HT
    generalize hs2 : (sText 64 s1).2 = s2 at HT
    have HX : Hid (str (sText 64 s1).1 = X ∧ (sText 64 s1).2 = s2) := ⟨hX, hs2⟩
    clear hX hs2
    have n1 : w.heap.size ≠ G := by have := HW0.out; omega
    have n2 : G ≠ w.heap.size := by have := HW0.out; omega
    go_wp2_with (first | (go_at_call 168; refine HT.out.mono ?_; rintro e w3 ⟨rfl, h1, h2⟩; have H1 := hid_in h1; have H2 := hid_in h2; clear h1 h2; have HRG := hid_in (HR1.out.grew H2.out (by have := HGL.out; have := HW0.out; omega)); have HRZ3 := hid_in (HRZ.out.grew H2.out (by have := HGL.out; have := HW0.out; omega)); have d0 : w3.cell? ⟨G, 0, none⟩ = some (.int .i64 1) := HRG.out.cell 0; have d1 : w3.cell? ⟨G, 1, none⟩ = some (.string ⟨#[]⟩) := HRG.out.cell 1; have d2 : w3.cell? ⟨G, 2, none⟩ = some (.int .i64 0) := HRG.out.cell 2; have d3 : w3.cell? ⟨G, 3, none⟩ = some (.slice none 0 0) := HRG.out.cell 3; have d4 : w3.cell? ⟨G, 4, none⟩ = some (.slice none 0 0) := HRG.out.cell 4; have df0 := HRG.out.frozen 0; have df1 := HRG.out.frozen 1; have df2 := HRG.out.frozen 2; have df3 := HRG.out.frozen 3; have df4 := HRG.out.frozen 4; have z0 : w3.cell? ⟨w.heap.size, 0, none⟩ = some (.int .i64 0) := HRZ3.out.cell 0; have z1 : w3.cell? ⟨w.heap.size, 1, none⟩ = some (.string ⟨#[]⟩) := HRZ3.out.cell 1; have z2 : w3.cell? ⟨w.heap.size, 2, none⟩ = some (.int .i64 0) := HRZ3.out.cell 2; have z3 : w3.cell? ⟨w.heap.size, 3, none⟩ = some (.slice none 0 0) := HRZ3.out.cell 3; have z4 : w3.cell? ⟨w.heap.size, 4, none⟩ = some (.slice none 0 0) := HRZ3.out.cell 4; have zf0 := HRZ3.out.frozen 0; have zf1 := HRZ3.out.frozen 1; have zf2 := HRZ3.out.frozen 2; have zf3 := HRZ3.out.frozen 3; have zf4 := HRZ3.out.frozen 4))
    have HGS := hid_in (grownBy_setCell w3 ⟨G, 1, none⟩ (.string X))
    have HF := hid_in (set5 (HRZ3.out.set_other ⟨G, 1, none⟩ (.string X) n1) (.int .i64 1) (.string X) (.int .i64 0) (.slice none 0 0) (.slice none 0 0))
    refine post_Row 2 108 Tryz.results125 w.heap.size rfl 108 _ HF.out.1 _ Tryz.underlying108 rfl 5 info31 rfl rfl ?_
    have hrd := HRD.out.symm.trans (rd_1 HN1.out)
    rw [HS1.out, HX.out.1, HX.out.2] at hrd
    obtain ⟨rfl, rfl⟩ := Prod.mk.inj hrd
    have hg3 : Grew w (w3.setCell ⟨G, 1, none⟩ (.string X)) (· = g) := (HG1.out.trans H2.out (fun q _ h => h)).trans (Grew.of_grown HGS.out) (fun q hq h => by have := HW0.out; simp at h; omega)
    exact ⟨_, rfl, ⟨⟨_, _, rfl, Els.nil _ _, Els.nil _ _⟩, ⟨fun d h => (by cases h), fun d h => (by cases h), i64_1, i64_0⟩⟩, (H1.out.grown HGS.out (by have := HW0.out; have := HBW.out; show B ≤ G; omega) (by have := HGL.out; have := HW0.out; show g ≠ G; omega)).grown HF.out.2 HBW.out (by have := HGL.out; omega), HLZ.out _ _ hg3 HF.out.2, fresh5 _ _ _ (own_none _) (own_none _)⟩
  · by_cases h2 : N = 2
    · subst h2
      have HT := hid_in (number_s W1 g B s1 1024 (by decide) HI1.out)
      obtain ⟨zz, hzz⟩ : ∃ zz, cutN 1024 (sNum s1).1 = zz := ⟨_, rfl⟩
      have hz64 : zz ≤ 1025 := by rw [← hzz]; exact cutN_le _ _
      rw [hzz] at HT
      have HZZ := hid_in hzz
      clear hzz
      obtain ⟨s2, HS2⟩ : ∃ s2, Hid ((sNum s1).2 = s2) := ⟨_, rfl⟩
      rw [HS2.out] at HT
      have HPC := hid_in (fun W => pieces_any (zz : Int) (by omega) (by omega) W)
      have hpl : pieces (zz : Int) ≤ 100 := by unfold pieces; omega
      generalize hpz : pieces (zz : Int) = pz at HPC hpl
      have HPZ := hid_in hpz
      clear hpz
      have n1 : w.heap.size ≠ G := by have := HW0.out; omega
      have n2 : G ≠ w.heap.size := by have := HW0.out; omega
      go_wp2_with (first | (go_at_call 167; refine HT.out.mono ?_; rintro e w3 ⟨rfl, h1, h2⟩; have H1 := hid_in h1; have H2 := hid_in h2; clear h1 h2; have HRG := hid_in (HR1.out.grew H2.out (by have := HGL.out; have := HW0.out; omega)); have d0 : w3.cell? ⟨G, 0, none⟩ = some (.int .i64 2) := HRG.out.cell 0; have d1 : w3.cell? ⟨G, 1, none⟩ = some (.string ⟨#[]⟩) := HRG.out.cell 1; have d2 : w3.cell? ⟨G, 2, none⟩ = some (.int .i64 0) := HRG.out.cell 2; have d3 : w3.cell? ⟨G, 3, none⟩ = some (.slice none 0 0) := HRG.out.cell 3; have d4 : w3.cell? ⟨G, 4, none⟩ = some (.slice none 0 0) := HRG.out.cell 4; have df0 := HRG.out.frozen 0; have df1 := HRG.out.frozen 1; have df2 := HRG.out.frozen 2; have df3 := HRG.out.frozen 3; have df4 := HRG.out.frozen 4; have HGA := hid_in (grownBy_setCell w3 ⟨G, 2, none⟩ (.int .i64 (zz : Int))); have HIA := hid_in (H1.out.grown HGA.out (by have := HW0.out; have := HBW.out; show B ≤ G; omega) (by have := HGL.out; have := HW0.out; show g ≠ G; omega))) | (go_at_call 170; refine (HPC.out _).mono ?_; rintro e w4 ⟨rfl, hw⟩; obtain rfl := hw.symm) | (go_at_call 169; refine (readParts_any _ g B s2 pz hpl HIA.out (Nat.le_trans HBW.out (Nat.le_trans HG1.out.size (Nat.le_trans H2.out.size HGA.out.size)))).mono ?_; rintro e w5 ⟨q5, rfl, h1, h2, h3, h4⟩; have HE5 := hid_in h1; have HI5 := hid_in h2; have HG5 := hid_in h3; have HO5 : Hid (W1.heap.size ≤ q5) := Nat.le_trans H2.out.size (Nat.le_trans HGA.out.size h4); clear h1 h2 h3 h4; clear d0 d1 d2 d3 d4 df0 df1 df2 df3 df4; have HRG5 := hid_in ((HRG.out.set_same 2 (.int .i64 (zz : Int))).grew HG5.out (by have := HGL.out; have := HW0.out; omega)); have HRZ3 := hid_in (((HRZ.out.grew H2.out (by have := HGL.out; have := HW0.out; omega)).set_other ⟨G, 2, none⟩ (.int .i64 (zz : Int)) n1).grew HG5.out (by have := HGL.out; have := HW0.out; omega)); have d0 : w5.cell? ⟨G, 0, none⟩ = some (.int .i64 2) := HRG5.out.cell 0; have d1 : w5.cell? ⟨G, 1, none⟩ = some (.string ⟨#[]⟩) := HRG5.out.cell 1; have d2 : w5.cell? ⟨G, 2, none⟩ = some (.int .i64 (zz : Int)) := HRG5.out.cell 2; have d3 : w5.cell? ⟨G, 3, none⟩ = some (.slice none 0 0) := HRG5.out.cell 3; have d4 : w5.cell? ⟨G, 4, none⟩ = some (.slice none 0 0) := HRG5.out.cell 4; have df0 := HRG5.out.frozen 0; have df1 := HRG5.out.frozen 1; have df2 := HRG5.out.frozen 2; have df3 := HRG5.out.frozen 3; have df4 := HRG5.out.frozen 4; have z0 : w5.cell? ⟨w.heap.size, 0, none⟩ = some (.int .i64 0) := HRZ3.out.cell 0; have z1 : w5.cell? ⟨w.heap.size, 1, none⟩ = some (.string ⟨#[]⟩) := HRZ3.out.cell 1; have z2 : w5.cell? ⟨w.heap.size, 2, none⟩ = some (.int .i64 0) := HRZ3.out.cell 2; have z3 : w5.cell? ⟨w.heap.size, 3, none⟩ = some (.slice none 0 0) := HRZ3.out.cell 3; have z4 : w5.cell? ⟨w.heap.size, 4, none⟩ = some (.slice none 0 0) := HRZ3.out.cell 4; have zf0 := HRZ3.out.frozen 0; have zf1 := HRZ3.out.frozen 1; have zf2 := HRZ3.out.frozen 2; have zf3 := HRZ3.out.frozen 3; have zf4 := HRZ3.out.frozen 4))
      have HGS := hid_in (grownBy_setCell w5 ⟨G, 3, none⟩ (.slice (some ⟨q5, 0, none⟩) pz pz))
      have HF := hid_in (set5 (HRZ3.out.set_other ⟨G, 3, none⟩ (.slice (some ⟨q5, 0, none⟩) pz pz) n1) (.int .i64 2) (.string ⟨#[]⟩) (.int .i64 (zz : Int)) (.slice (some ⟨q5, 0, none⟩) pz pz) (.slice none 0 0))
      refine post_Row 2 108 Tryz.results125 w.heap.size rfl 108 _ HF.out.1 _ Tryz.underlying108 rfl 5 info31 rfl rfl ?_
      have hrd := HRD.out.symm.trans (rd_2 (z := zz) HN1.out (by rw [HS1.out]; exact HZZ.out))
      rw [HS1.out, HS2.out, HPZ.out] at hrd
      obtain ⟨rfl, rfl⟩ := Prod.mk.inj hrd
      have hgw : ∀ {a b : World} {q0 : Value} {off : Nat}, Grew w a (· = g) → a.grownBy b (some G) → Grew w b (· = g) := fun h1 h2 => h1.trans (Grew.of_grown h2) (fun q hq h => by have := HW0.out; simp at h; omega)
      have hg3 : Grew w (w5.setCell ⟨G, 3, none⟩ (.slice (some ⟨q5, 0, none⟩) pz pz)) (· = g) := hgw (q0 := undef) (off := 0) ((hgw (q0 := undef) (off := 0) (HG1.out.trans H2.out (fun q _ h => h)) HGA.out).trans HG5.out (fun q _ h => h)) HGS.out
      have hok := (sParts_ok pz (s := s2) (by rw [← HS2.out]; exact sNum_ok HOK1.out)).1
      have hGW : G < W1.heap.size := HR1.out.lt
      have hq1 : ∀ q, Value.ownBlock (.slice (some ⟨q5, 0, none⟩) pz pz) = some q → q ≠ G := fun q hq => by cases hq; have := HO5.out; show q5 ≠ G; omega
      have hq2 : ∀ q, Value.ownBlock (.slice (some ⟨q5, 0, none⟩) pz pz) = some q → q ≠ w.heap.size := fun q hq => by cases hq; have := HO5.out; have := HW0.out; show q5 ≠ w.heap.size; omega
      exact ⟨_, rfl, ⟨⟨_, _, rfl, (HE5.out.grown HGS.out hq1).grown HF.out.2 hq2, Els.nil _ _⟩, ⟨hok, fun d h => (by cases h), i64_2, (show i64 (zz : Int) by unfold i64; omega)⟩⟩, (HI5.out.grown HGS.out (by have := HW0.out; have := HBW.out; show B ≤ G; omega) (by have := HGL.out; have := HW0.out; show g ≠ G; omega)).grown HF.out.2 HBW.out (by have := HGL.out; omega), HLZ.out _ _ hg3 HF.out.2, fresh5 _ _ _ (fun q hq => by cases hq; have := HO5.out; have := HG1.out.size; show w.heap.size ≤ q5; omega) (own_none _)⟩
    · by_cases h3 : N = 3
      · subst h3
        have HT := hid_in (number_s W1 g B s1 64 (by decide) HI1.out)
        obtain ⟨zz, hzz⟩ : ∃ zz, cutN 64 (sNum s1).1 = zz := ⟨_, rfl⟩
        have hz64 : zz ≤ 65 := by rw [← hzz]; exact cutN_le _ _
        rw [hzz] at HT
        have HZZ := hid_in hzz
        clear hzz
        obtain ⟨s2, HS2⟩ : ∃ s2, Hid ((sNum s1).2 = s2) := ⟨_, rfl⟩
        rw [HS2.out] at HT
        have n1 : w.heap.size ≠ G := by have := HW0.out; omega
        have n2 : G ≠ w.heap.size := by have := HW0.out; omega
        go_wp2_with (first | (go_at_call 167; refine HT.out.mono ?_; rintro e w3 ⟨rfl, h1, h2⟩; have H1 := hid_in h1; have H2 := hid_in h2; clear h1 h2) | (go_at_call 171; refine (readItems_any w3 g B s2 zz (by omega) H1.out (Nat.le_trans HBW.out (Nat.le_trans HG1.out.size H2.out.size))).mono ?_; rintro e w5 ⟨q5, rfl, h1, h2, h3, h4⟩; have HE5 := hid_in h1; have HI5 := hid_in h2; have HG5 := hid_in (H2.out.trans h3 (fun q _ h => h)); have HO5 : Hid (W1.heap.size ≤ q5) := Nat.le_trans H2.out.size h4; clear h1 h2 h3 h4; have HRG := hid_in (HR1.out.grew HG5.out (by have := HGL.out; have := HW0.out; omega)); have HRZ3 := hid_in (HRZ.out.grew HG5.out (by have := HGL.out; have := HW0.out; omega)); have d0 : w5.cell? ⟨G, 0, none⟩ = some (.int .i64 3) := HRG.out.cell 0; have d1 : w5.cell? ⟨G, 1, none⟩ = some (.string ⟨#[]⟩) := HRG.out.cell 1; have d2 : w5.cell? ⟨G, 2, none⟩ = some (.int .i64 0) := HRG.out.cell 2; have d3 : w5.cell? ⟨G, 3, none⟩ = some (.slice none 0 0) := HRG.out.cell 3; have d4 : w5.cell? ⟨G, 4, none⟩ = some (.slice none 0 0) := HRG.out.cell 4; have df0 := HRG.out.frozen 0; have df1 := HRG.out.frozen 1; have df2 := HRG.out.frozen 2; have df3 := HRG.out.frozen 3; have df4 := HRG.out.frozen 4; have z0 : w5.cell? ⟨w.heap.size, 0, none⟩ = some (.int .i64 0) := HRZ3.out.cell 0; have z1 : w5.cell? ⟨w.heap.size, 1, none⟩ = some (.string ⟨#[]⟩) := HRZ3.out.cell 1; have z2 : w5.cell? ⟨w.heap.size, 2, none⟩ = some (.int .i64 0) := HRZ3.out.cell 2; have z3 : w5.cell? ⟨w.heap.size, 3, none⟩ = some (.slice none 0 0) := HRZ3.out.cell 3; have z4 : w5.cell? ⟨w.heap.size, 4, none⟩ = some (.slice none 0 0) := HRZ3.out.cell 4; have zf0 := HRZ3.out.frozen 0; have zf1 := HRZ3.out.frozen 1; have zf2 := HRZ3.out.frozen 2; have zf3 := HRZ3.out.frozen 3; have zf4 := HRZ3.out.frozen 4))
        have HGS := hid_in (grownBy_setCell w5 ⟨G, 4, none⟩ (.slice (some ⟨q5, 0, none⟩) zz zz))
        have HF := hid_in (set5 (HRZ3.out.set_other ⟨G, 4, none⟩ (.slice (some ⟨q5, 0, none⟩) zz zz) n1) (.int .i64 3) (.string ⟨#[]⟩) (.int .i64 0) (.slice none 0 0) (.slice (some ⟨q5, 0, none⟩) zz zz))
        refine post_Row 2 108 Tryz.results125 w.heap.size rfl 108 _ HF.out.1 _ Tryz.underlying108 rfl 5 info31 rfl rfl ?_
        have hrd := HRD.out.symm.trans (rd_3 (z := zz) HN1.out (by rw [HS1.out]; exact HZZ.out))
        rw [HS1.out, HS2.out] at hrd
        obtain ⟨rfl, rfl⟩ := Prod.mk.inj hrd
        have hg3 : Grew w (w5.setCell ⟨G, 4, none⟩ (.slice (some ⟨q5, 0, none⟩) zz zz)) (· = g) := (HG1.out.trans HG5.out (fun q _ h => h)).trans (Grew.of_grown HGS.out) (fun q hq h => by have := HW0.out; simp at h; omega)
        have hok := (sItems_ok 3 (by decide) zz (s := s2) (by rw [← HS2.out]; exact sNum_ok HOK1.out)).1
        have hGW : G < W1.heap.size := HR1.out.lt
        have hq1 : ∀ q, Value.ownBlock (.slice (some ⟨q5, 0, none⟩) zz zz) = some q → q ≠ G := fun q hq => by cases hq; have := HO5.out; show q5 ≠ G; omega
        have hq2 : ∀ q, Value.ownBlock (.slice (some ⟨q5, 0, none⟩) zz zz) = some q → q ≠ w.heap.size := fun q hq => by cases hq; have := HO5.out; have := HW0.out; show q5 ≠ w.heap.size; omega
        exact ⟨_, rfl, ⟨⟨_, _, rfl, Els.nil _ _, (HE5.out.grown HGS.out hq1).grown HF.out.2 hq2⟩, ⟨fun d h => (by cases h), hok, i64_3, i64_0⟩⟩, (HI5.out.grown HGS.out (by have := HW0.out; have := HBW.out; show B ≤ G; omega) (by have := HGL.out; have := HW0.out; show g ≠ G; omega)).grown HF.out.2 HBW.out (by have := HGL.out; omega), HLZ.out _ _ hg3 HF.out.2, fresh5 _ _ _ (own_none _) (fun q hq => by cases hq; have := HO5.out; have := HG1.out.size; show w.heap.size ≤ q5; omega)⟩
      · have e1 : ((N : Int) == 1) = false := by rw [beq_eq_false_iff_ne]; omega
        have e2 : ((N : Int) == 2) = false := by rw [beq_eq_false_iff_ne]; omega
        have e3 : ((N : Int) == 3) = false := by rw [beq_eq_false_iff_ne]; omega
        have z0 : W1.cell? ⟨w.heap.size, 0, none⟩ = some (.int .i64 0) := HRZ.out.cell 0
        have z1 : W1.cell? ⟨w.heap.size, 1, none⟩ = some (.string ⟨#[]⟩) := HRZ.out.cell 1
        have z2 : W1.cell? ⟨w.heap.size, 2, none⟩ = some (.int .i64 0) := HRZ.out.cell 2
        have z3 : W1.cell? ⟨w.heap.size, 3, none⟩ = some (.slice none 0 0) := HRZ.out.cell 3
        have z4 : W1.cell? ⟨w.heap.size, 4, none⟩ = some (.slice none 0 0) := HRZ.out.cell 4
        have y0 := HRZ.out.frozen 0
        have y1 := HRZ.out.frozen 1
        have y2 := HRZ.out.frozen 2
        have y3 := HRZ.out.frozen 3
        have y4 := HRZ.out.frozen 4
        have n1 : w.heap.size ≠ G := by have := HW0.out; omega
        have n2 : G ≠ w.heap.size := by have := HW0.out; omega
        have HF := hid_in (set5 HRZ.out (.int .i64 (N : Int)) (.string ⟨#[]⟩) (.int .i64 0) (.slice none 0 0) (.slice none 0 0))
        go_wp2_with fail
        refine post_Row 2 108 Tryz.results125 w.heap.size rfl 108 _ HF.out.1 _ Tryz.underlying108 rfl 5 info31 rfl rfl ?_
        have hrd := HRD.out.symm.trans (rd_0 HN1.out h1 h2 h3)
        rw [HS1.out] at hrd
        obtain ⟨rfl, rfl⟩ := Prod.mk.inj hrd
        refine ⟨_, rfl, ⟨⟨_, _, rfl, Els.nil _ _, Els.nil _ _⟩, ⟨fun d h => (by cases h), fun d h => (by cases h), ?_, i64_0⟩⟩, HI1.out.grown HF.out.2 HBW.out (by have := HGL.out; omega), HLZ.out _ _ HG1.out HF.out.2, fresh5 _ _ _ (own_none _) (own_none _)⟩
        have := cutN_le 3 (sNum s).1
        rw [HN1.out] at this
        show i64 (N : Int)
        unfold i64
        omega
end Go.Proofs.YtamaejlbojbbeaaGreatDoor.Nd
namespace Go.Proofs.YtamaejlbojbbeaaGreatDoor.Nd
open Go.RowKit
theorem IsN.form {w : World} {v : Value} {n : Nd} (h : IsN w v n) : ∃ pp cp pi ci, v = .agg #[.int .i64 n.kind, .string n.data, .int .i64 n.size, .slice pp n.parts.length cp, .slice pi n.items.length ci] := by
  obtain ⟨vp, vi, rfl, hp, hi⟩ := h.ex
  obtain ⟨pp, cp, _, _, rfl, _⟩ := hp.ex
  obtain ⟨pi, ci, _, _, rfl, _⟩ := hi.ex
  exact ⟨pp, cp, pi, ci, by simp⟩
theorem zeroN_is (w : World) : IsN w (.agg #[.int .i64 0, .string ⟨#[]⟩, .int .i64 0, .slice none 0 0, .slice none 0 0]) zeroN :=
  ⟨⟨_, _, rfl, Els.nil _ _, Els.nil _ _⟩, ⟨fun d h => (by cases h), fun d h => (by cases h), i64_0, i64_0⟩⟩
theorem sText_len (m : Nat) (s : Sta) : (sText m s).1.length ≤ m := by
  unfold sText Wire.rtext
  split
  · split
    · simp
    · split
      · simp
      · split
        · simp
        · rename_i h1 h2
          simp only [List.length_take]
          omega
  · simp
theorem str_size (l : List Nat) : (str l).size = l.length := by
  show (str l).data.size = l.length
  simp [str]
theorem sItems_short (f : Nat → Nat) (c : Nat) (s : Sta) : ∀ x ∈ (sItems f c s).1, x.name.size ≤ 16 := by
  induction c with
  | zero => intro x h; simp [sItems] at h
  | succ c ih =>
    intro x h
    simp only [sItems, List.mem_append, List.mem_singleton] at h
    rcases h with h | rfl
    · exact ih x h
    · show (str (sText 16 _).1).size ≤ 16
      rw [str_size]
      exact sText_len _ _
theorem rd_short (s : Sta) : (rd s).1.short := by
  obtain ⟨k, hk⟩ : ∃ k, cutN 3 (sNum s).1 = k := ⟨_, rfl⟩
  by_cases h1 : k = 1
  · rw [rd_1 (hk.trans h1)]
    refine ⟨?_, fun x h => by cases h⟩
    show (str _).size ≤ _
    rw [str_size]
    have := sText_len 64 (sNum s).2
    omega
  · by_cases h2 : k = 2
    · rw [rd_2 (hk.trans h2) rfl]
      exact ⟨by show (0 : Nat) ≤ _; omega, fun x h => by cases h⟩
    · by_cases h3 : k = 3
      · rw [rd_3 (hk.trans h3) rfl]
        refine ⟨by show (0 : Nat) ≤ _; omega, fun x h => ?_⟩
        have := sItems_short _ _ _ x h
        omega
      · rw [rd_0 hk h1 h2 h3]
        exact ⟨by show (0 : Nat) ≤ _; omega, fun x h => by cases h⟩
theorem post_Row2 {P : Program} {fn : Func} {R : Ending → World → Prop} {a : Act} {w : World} (p u : Tmp) (ty : TypeId) (hf : fn.results = #[.cell p ty, .tmp u]) (g : Nat) (hp : a.tmps.getD p undef = .pointer (some ⟨g, 0, none⟩))
    (t : TypeId) (vs : List Value) (hr : Row w g vs t) (d : TypeDesc) (hu : P.underlying ty = some d) (hd : (match d with | .struct _ | .array _ _ => true | _ => false) = true) (n : Nat) (hi : (P.info? ty).map (·.size) = some n) (hn : vs.length = n)
    (hdf : a.defers = []) (h : R (.returned (.tuple #[.agg vs.toArray, a.tmps.getD u undef])) w) : bodyPost P fn R .ret a w := by
  refine bodyPost_ret ?_ hdf h
  rw [results_cell_tmp hf, hp]
  have hl := run_loadVar_row (P := P) w g t ty vs.toArray (0, 0) d hr hu hd (by rw [hi]; simp [hn])
  simp [asAddr, hl]
set_option maxHeartbeats 2000000 in
set_option maxRecDepth 100000 in
theorem decode_p (bs : List Nat) (p : Option Addr) (cap b off : Nat) (w : World) (hsl : Sl w p bs cap b off) (hno : p = none → bs.length = 0 ∧ cap = 0) (hre : bs.length ≤ 140737488355328) :
    Calls Tryz.prog 67 #[.slice p bs.length cap] w fun e w' => (∃ v k, e = .returned (.tuple #[v, .int .i64 k]) ∧ Fresh w.heap.size v ∧ ((k = 0 ∧ ((rd (bs, 0)).2 = ([], 0) ∧ right (rd (bs, 0)).1) ∧ IsN w' v (rd (bs, 0)).1) ∨ (k = 21 ∧ ¬ ((rd (bs, 0)).2 = ([], 0) ∧ right (rd (bs, 0)).1) ∧ IsN w' v zeroN))) ∧ Below w.heap.size w w' := by
  obtain ⟨W0, H0⟩ : ∃ W0, Hid (w.alloc (.cells #[.int .i64 0, .string ByteArray.empty, .int .i64 0, .slice none 0 0, .slice none 0 0] 108) = W0) := ⟨_, rfl⟩
  have HB0 : Hid (Below w.heap.size w W0) := by show Below _ _ _; rw [← H0.out]; exact (Below.refl _ _).alloc (Nat.le_refl _) _
  have HZ0 : Hid (W0.heap.size = w.heap.size + 1) := by show _ = _; rw [← H0.out]; simp
  have HR0 : Hid (Row W0 w.heap.size [.int .i64 0, .string ⟨#[]⟩, .int .i64 0, .slice none 0 0, .slice none 0 0] 108) := by show Row _ _ _ _; rw [← H0.out]; exact Row.new w [.int .i64 0, .string ⟨#[]⟩, .int .i64 0, .slice none 0 0, .slice none 0 0] 108
  have HRA := hid_in (read_any bs p cap b off W0 (hsl.below HB0.out) hno hre)
  obtain ⟨n, t, HRD⟩ : ∃ n t, Hid (rd (bs, 0) = (n, t)) := ⟨_, _, rfl⟩
  have HSH : Hid (n.short) := by have h := rd_short (bs, 0); rw [HRD.out] at h; exact h
  rw [HRD.out]
  clear hsl hno
  generalize hbl : bs.length = bl at *
  clear hbl
  go_enter Tryz.func67, Tryz.ntmps67
  go_upto_region 1 with fail
  refine wp_world H0.out ?_
  clear H0
  go_upto_region 3 with (first | (go_at_call 124; refine HRA.out.mono ?_; rintro e w1 ⟨g, rfl, h1, h2, h3⟩; have HI1 := hid_in h1; have HG1 := hid_in h2; have HB1 := hid_in h3; clear h1 h2 h3 HRA) | (go_at_call 125; refine (nread_any w1 g w1.heap.size (bs, 0) HI1.out (Nat.le_refl _)).mono ?_; rintro e w2 ⟨v2, rfl, h1, h2, h3, h4⟩; rw [HRD.out] at h1 h2; obtain ⟨pp, cp, pi, ci, rfl⟩ := h1.form; have HN2 := hid_in h1; have HI2 := hid_in h2; have HG2 := hid_in h3; have HFR := hid_in h4; clear h1 h2 h3 h4))
  have HGL : Hid (w.heap.size < g) := by have := HG1.out; have := HZ0.out; show _ < _; omega
  obtain ⟨W3, HW3, HR3, HBW3, HS3⟩ := node_row w2 n.kind n.size n.data (.slice pp n.parts.length cp) (.slice pi n.items.length ci)
  refine wp_world HW3.out ?_
  clear HW3
  have c0 : W3.cell? ⟨w2.heap.size, 0, none⟩ = some (.int .i64 n.kind) := HR3.out.cell 0
  have c1 : W3.cell? ⟨w2.heap.size, 1, none⟩ = some (.string n.data) := HR3.out.cell 1
  have c2 : W3.cell? ⟨w2.heap.size, 2, none⟩ = some (.int .i64 n.size) := HR3.out.cell 2
  have c3 : W3.cell? ⟨w2.heap.size, 3, none⟩ = some (.slice pp n.parts.length cp) := HR3.out.cell 3
  have c4 : W3.cell? ⟨w2.heap.size, 4, none⟩ = some (.slice pi n.items.length ci) := HR3.out.cell 4
  have HE := hid_in (iend_any W3 g t.2 t.1 (InIs.below HI2.out HBW3.out))
  have HN3 := hid_in (HN2.out.below HBW3.out)
  have HCK := hid_in (check_any W3 _ n HN3.out HSH.out)
  have hzr : Row w2 w.heap.size [.int .i64 0, .string ⟨#[]⟩, .int .i64 0, .slice none 0 0, .slice none 0 0] 108 := (HR0.out.below HB1.out HR0.out.lt).grew HG2.out (by have := HGL.out; omega)
  have hw12 : w.heap.size < w2.heap.size := hzr.lt
  have HRZ := hid_in (hzr.below HBW3.out hzr.lt)
  have HB3 : Hid (Below w.heap.size w W3) := by
    have h1 : Below w.heap.size w w1 := HB0.out.trans (HB1.out.mono (by have := HZ0.out; omega))
    have h2 : Below w.heap.size w w2 := HG2.out.below h1 h1.size (fun k hk => by have := HGL.out; omega)
    exact h2.trans (HBW3.out.mono (by omega))
  have HET : Hid (decide (t.2 = 0 ∧ t.1.length = 0) = true ↔ t = ([], 0)) := by
    show _ ↔ _
    obtain ⟨t1, t2⟩ := t
    simp [and_comm]
  have HW1 : Hid (w.heap.size < w1.heap.size) := by have := HB1.out.size; have := HZ0.out; show _ < _; omega
  clear hzr HN2 HI2 HG2 HBW3 HI1 HB1
  generalize w2.heap.size = G at *
  have n1 : w.heap.size ≠ G := by omega
  have n2 : G ≠ w.heap.size := by omega
  have z0 : W3.cell? ⟨w.heap.size, 0, none⟩ = some (.int .i64 0) := HRZ.out.cell 0
  have z1 : W3.cell? ⟨w.heap.size, 1, none⟩ = some (.string ⟨#[]⟩) := HRZ.out.cell 1
  have z2 : W3.cell? ⟨w.heap.size, 2, none⟩ = some (.int .i64 0) := HRZ.out.cell 2
  have z3 : W3.cell? ⟨w.heap.size, 3, none⟩ = some (.slice none 0 0) := HRZ.out.cell 3
  have z4 : W3.cell? ⟨w.heap.size, 4, none⟩ = some (.slice none 0 0) := HRZ.out.cell 4
  have y0 := HRZ.out.frozen 0
  have y1 := HRZ.out.frozen 1
  have y2 := HRZ.out.frozen 2
  have y3 := HRZ.out.frozen 3
  have y4 := HRZ.out.frozen 4
  cases hE : decide (t.2 = 0 ∧ t.1.length = 0)
  · rw [hE] at HE HET
    have HNT : Hid (t ≠ ([], 0)) := fun h => by have := HET.out.2 h; cases this
    clear hE HET
    go_wp2_with (first | (go_at_call 126; refine HE.out.mono ?_; rintro e w4 ⟨rfl, hw⟩; obtain rfl := hw.symm))
    have HF := hid_in (set5 HRZ.out (.int .i64 0) (.string ⟨#[]⟩) (.int .i64 0) (.slice none 0 0) (.slice none 0 0))
    refine post_Row2 2 3 108 Tryz.results67 w.heap.size rfl 108 _ HF.out.1 _ Tryz.underlying108 rfl 5 info31 rfl rfl ?_
    exact ⟨⟨_, 21, rfl, fresh5 _ _ _ (own_none _) (own_none _), .inr ⟨rfl, fun h => HNT.out h.1, zeroN_is _⟩⟩, HB3.out.grown HF.out.2 HB3.out.size (fun k e => by cases e; exact Nat.le_refl _)⟩
  · rw [hE] at HE HET
    have HNT : Hid (t = ([], 0)) := HET.out.1 rfl
    clear hE HET
    go_wp2_with (first | (go_at_call 126; refine HE.out.mono ?_; rintro e w4 ⟨rfl, hw⟩; obtain rfl := hw.symm) | (go_at_call 127; refine HCK.out.mono ?_; rintro e w5 ⟨⟨r, rfl, hr⟩, hb5⟩; have HRZ5 := hid_in (HRZ.out.below hb5 HRZ.out.lt); have HR5 := hid_in (HR3.out.below hb5 HR3.out.lt); have HB5 := hid_in (HB3.out.trans (hb5.mono HB3.out.size)); have HN5 := hid_in (HN3.out.below hb5); clear hb5; clear z0 z1 z2 z3 z4 y0 y1 y2 y3 y4 c0 c1 c2 c3 c4; have c0 : w5.cell? ⟨G, 0, none⟩ = some (.int .i64 n.kind) := HR5.out.cell 0; have c1 : w5.cell? ⟨G, 1, none⟩ = some (.string n.data) := HR5.out.cell 1; have c2 : w5.cell? ⟨G, 2, none⟩ = some (.int .i64 n.size) := HR5.out.cell 2; have c3 : w5.cell? ⟨G, 3, none⟩ = some (.slice pp n.parts.length cp) := HR5.out.cell 3; have c4 : w5.cell? ⟨G, 4, none⟩ = some (.slice pi n.items.length ci) := HR5.out.cell 4; have z0 : w5.cell? ⟨w.heap.size, 0, none⟩ = some (.int .i64 0) := HRZ5.out.cell 0; have z1 : w5.cell? ⟨w.heap.size, 1, none⟩ = some (.string ⟨#[]⟩) := HRZ5.out.cell 1; have z2 : w5.cell? ⟨w.heap.size, 2, none⟩ = some (.int .i64 0) := HRZ5.out.cell 2; have z3 : w5.cell? ⟨w.heap.size, 3, none⟩ = some (.slice none 0 0) := HRZ5.out.cell 3; have z4 : w5.cell? ⟨w.heap.size, 4, none⟩ = some (.slice none 0 0) := HRZ5.out.cell 4; have y0 := HRZ5.out.frozen 0; have y1 := HRZ5.out.frozen 1; have y2 := HRZ5.out.frozen 2; have y3 := HRZ5.out.frozen 3; have y4 := HRZ5.out.frozen 4; rcases hr with ⟨rfl, hP⟩ | ⟨rfl, hP⟩; all_goals (have HPP := hid_in hP; clear hP)))
    · have HF := hid_in (set5 HRZ5.out (.int .i64 n.kind) (.string n.data) (.int .i64 n.size) (.slice pp n.parts.length cp) (.slice pi n.items.length ci))
      refine post_Row2 2 3 108 Tryz.results67 w.heap.size rfl 108 _ HF.out.1 _ Tryz.underlying108 rfl 5 info31 rfl rfl ?_
      exact ⟨⟨_, 0, rfl, HFR.out.mono (Nat.le_of_lt HW1.out), .inl ⟨rfl, ⟨HNT.out, HPP.out⟩, HN5.out.grown HF.out.2 HFR.out HW1.out⟩⟩, HB5.out.grown HF.out.2 HB5.out.size (fun k e => by cases e; exact Nat.le_refl _)⟩
    · have HF := hid_in (set5 HRZ5.out (.int .i64 0) (.string ⟨#[]⟩) (.int .i64 0) (.slice none 0 0) (.slice none 0 0))
      refine post_Row2 2 3 108 Tryz.results67 w.heap.size rfl 108 _ HF.out.1 _ Tryz.underlying108 rfl 5 info31 rfl rfl ?_
      exact ⟨⟨_, 21, rfl, fresh5 _ _ _ (own_none _) (own_none _), .inr ⟨rfl, fun h => HPP.out h.2, zeroN_is _⟩⟩, HB5.out.grown HF.out.2 HB5.out.size (fun k e => by cases e; exact Nat.le_refl _)⟩
end Go.Proofs.YtamaejlbojbbeaaGreatDoor.Nd
