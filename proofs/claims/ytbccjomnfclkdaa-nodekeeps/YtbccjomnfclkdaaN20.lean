/-
  The reference's In, by states.
-/
import Derived.Test.YtbccjomnfclkdaaN17
namespace Go.Proofs.Ytbccjomnfclkdaa
open Go.RowKit
/-- the reference's In at block g is in state s -/
def RI (B : Nat) (w : World) (g : Nat) (s : Sta) : Prop := ∃ bs k, RIs B w g 77 bs k s.2 ∧ bs.drop k = s.1
theorem RI.blk {B : Nat} {w : World} {g : Nat} {s : Sta} (h : RI B w g s) : g < w.heap.size := by
  obtain ⟨bs, k, h, _⟩ := h
  obtain ⟨_, _, _, _, hr, _⟩ := h.ex
  exact hr.lt
theorem RI.ok {B : Nat} {w : World} {g : Nat} {s : Sta} (h : RI B w g s) : okS s := by
  obtain ⟨bs, k, h, hd⟩ := h
  obtain ⟨_, _, _, _, _, hsl, _⟩ := h.ex
  exact fun x hx => hsl.lt x (List.mem_of_mem_drop (by rw [hd]; exact hx))
theorem RI.belowM {B m : Nat} {w w' : World} {g : Nat} {s : Sta} (h : RI B w g s) (hb : Below m w w') (hg : g < m) (hB : B ≤ m) : RI B w' g s := by
  obtain ⟨bs, k, h, hd⟩ := h
  obtain ⟨p, cap, b, off, hr, hsl, hne⟩ := h.ex
  refine ⟨bs, k, ⟨⟨p, cap, b, off, hr.below hb hg, ⟨hsl.lt, hsl.cap1, hsl.cap2, hsl.at_, fun j hj => ?_⟩, hne⟩, h.le⟩, hd⟩
  have hlt : b < m := Nat.lt_of_lt_of_le (hne (by omega)).2 hB
  rw [hb.cell (p := ⟨b, off + j, none⟩) hlt]
  exact hsl.src j hj
theorem rnum_s (w : World) (g B : Nat) (s : Sta) (hi : RI B w g s) : Calls Try.prog 35 #[.pointer (some ⟨g, 0, none⟩)] w fun r w' => r = .returned (.int .u64 ((sNum s).1 : Int)) ∧ RI B w' g (sNum s).2 ∧ Grew w w' (· = g) := by
  obtain ⟨l, e⟩ := s
  obtain ⟨bs, k, h, hd⟩ := hi
  simp only at h hd
  unfold sNum
  split
  · rename_i h0
    obtain rfl : e = 0 := h0
    refine (rnumI_any w g 77 bs k h).mono ?_
    rintro r w' ⟨rfl, ⟨k', h1, h2⟩, h3⟩
    rw [hd] at h1 h2 ⊢
    exact ⟨rfl, ⟨bs, k', h2, h1⟩, h3⟩
  · rename_i h0
    refine (rnumI_bad w g 77 bs k e h0 h).mono ?_
    rintro r w' ⟨rfl, rfl⟩
    exact ⟨rfl, ⟨bs, k, h, hd⟩, Grew.refl _ _⟩
theorem rtext_s (w : World) (g B : Nat) (s : Sta) (m : Nat) (hm : m ≤ 9223372036854775807) (hi : RI B w g s) : Calls Try.prog 36 #[.pointer (some ⟨g, 0, none⟩), .int .i64 (m : Int)] w fun r w' => r = .returned (.string (str (sText m s).1)) ∧ RI B w' g (sText m s).2 ∧ Grew w w' (· = g) := by
  obtain ⟨l, e⟩ := s
  obtain ⟨bs, k, h, hd⟩ := hi
  simp only at h hd
  unfold sText
  split
  · rename_i h0
    obtain rfl : e = 0 := h0
    refine (rtextI_any w g 77 bs k m (by omega) (by omega) h).mono ?_
    rintro r w' ⟨rfl, ⟨k', h1, h2⟩, h3⟩
    rw [hd] at h1 h2 ⊢
    exact ⟨rfl, ⟨bs, k', h2, h1⟩, h3⟩
  · rename_i h0
    refine (rtextI_bad w g 77 bs k e m h0 h).mono ?_
    rintro r w' ⟨rfl, rfl⟩
    exact ⟨rfl, ⟨bs, k, h, hd⟩, Grew.refl _ _⟩
theorem rdig_s (w : World) (g B : Nat) (s : Sta) (hB : B ≤ w.heap.size) (hi : RI B w g s) : Calls Try.prog 37 #[.pointer (some ⟨g, 0, none⟩)] w fun r w' => r = .returned (.agg (dcells (sDig s).1).toArray) ∧ RI B w' g (sDig s).2 ∧ Grew w w' (· = g) := by
  obtain ⟨l, e⟩ := s
  obtain ⟨bs, k, h, hd⟩ := hi
  simp only at h hd
  unfold sDig rdigest dcells
  split
  · rename_i h0
    obtain rfl : e = 0 := h0
    simp only
    split
    · rename_i h2
      refine (rdig_short w g 77 bs k (by rw [hd]; exact h2) hB h).mono ?_
      rintro r w' ⟨rfl, h1, h3⟩
      exact ⟨rfl, ⟨bs, bs.length, h1, by simp⟩, h3⟩
    · rename_i h2
      refine (rdig_some w g 77 bs k (by rw [hd]; omega) hB h).mono ?_
      rintro r w' ⟨rfl, h1, h3⟩
      rw [hd]
      exact ⟨rfl, ⟨bs, k + 32, h1, by rw [← hd, List.drop_drop]⟩, h3⟩
  · rename_i h0
    refine (rdig_bad w g 77 bs k e h0 h).mono ?_
    rintro r w' ⟨rfl, h2⟩
    have hR : RI B w g (l, e) := ⟨bs, k, h, hd⟩
    exact ⟨rfl, hR.belowM h2 hR.blk hB, Grew.of_below _ h2⟩
theorem rleft_s (w : World) (g B : Nat) (s : Sta) (hi : RI B w g s) : Calls Try.prog 38 #[.pointer (some ⟨g, 0, none⟩)] w fun r w' => r = .returned (.int .i64 (s.1.length : Int)) ∧ w' = w.drew := by
  obtain ⟨bs, k, h, hd⟩ := hi
  rw [← hd]
  exact rleft_any w g 77 bs k s.2 h
theorem rleft_t (w : World) (g B : Nat) (t1 : List Nat) (t2 : Nat) (hi : RI B w g (t1, t2)) : Calls Try.prog 38 #[.pointer (some ⟨g, 0, none⟩)] w fun rr w' => rr = .returned (.int .i64 (t1.length : Int)) ∧ w' = w.drew := rleft_s w g B (t1, t2) hi
theorem rleft_0 (w : World) (g B : Nat) (t2 : Nat) (hi : RI B w g ([], t2)) : Calls Try.prog 38 #[.pointer (some ⟨g, 0, none⟩)] w fun rr w' => rr = .returned (.int .i64 0) ∧ w' = w.drew := rleft_s w g B ([], t2) hi
def zs : List Value := [.int .i64 0, .string ⟨#[]⟩, .int .i64 0, .slice none 0 0, .slice none 0 0]
/-- an element is appended to a field of the node at block G -/
theorem app_step {w W w6 w9 : World} {g G base j k fld g9 cap9 : Nat} {e : TypeId} {st : Sta} {RG XS XS' : List Value} {vp : Value} {o : Obj} (hZg : w.heap.size < g) (hgG : g < G) (hGb : G < base)
    (hz : Row W w.heap.size zs 31) (hbw : Below w.heap.size w W) (hbs : base ≤ W.heap.size) (h6 : RI w.heap.size w6 g st) (hg6 : Grew W.drew w6 (· = g)) (hrg6 : Row w6 G RG 31) (ho6 : w6.ownsRow base e k vp j XS)
    (hg9 : (w6.alloc o).grownBy w9 vp.ownBlock) (hrg9 : Row w9 G RG 31) (ho9 : w9.ownsRow base e k (.slice (some ⟨g9, 0, none⟩) (j + 1) cap9) (j + 1) XS') :
    Row (w9.setCell ⟨G, fld, none⟩ (.slice (some ⟨g9, 0, none⟩) (j + 1) cap9)) G (RG.set fld (.slice (some ⟨g9, 0, none⟩) (j + 1) cap9)) 31 ∧ (w9.setCell ⟨G, fld, none⟩ (.slice (some ⟨g9, 0, none⟩) (j + 1) cap9)).ownsRow base e k (.slice (some ⟨g9, 0, none⟩) (j + 1) cap9) (j + 1) XS' ∧
    RI w.heap.size (w9.setCell ⟨G, fld, none⟩ (.slice (some ⟨g9, 0, none⟩) (j + 1) cap9)) g st ∧ Row (w9.setCell ⟨G, fld, none⟩ (.slice (some ⟨g9, 0, none⟩) (j + 1) cap9)) w.heap.size zs 31 ∧ Below w.heap.size w (w9.setCell ⟨G, fld, none⟩ (.slice (some ⟨g9, 0, none⟩) (j + 1) cap9)) ∧ base ≤ (w9.setCell ⟨G, fld, none⟩ (.slice (some ⟨g9, 0, none⟩) (j + 1) cap9)).heap.size := by
  have hgs := grownBy_setCell w9 ⟨G, fld, none⟩ (.slice (some ⟨g9, 0, none⟩) (j + 1) cap9)
  have hG6 : G ≤ w6.heap.size := Nat.le_of_lt hrg6.lt
  have hb9 : Below G w6 w9 := ((Below.refl G w6).alloc hG6 o).grown hg9 (by simp; omega) (fun q hq => by have := (own_geK ho6 q hq).1; omega)
  have hb10 := hb9.grown hgs (Nat.le_trans hG6 hb9.size) (fun q hq => by cases hq; exact Nat.le_refl _)
  have hq9 := own_geK ho9 g9 rfl
  have hbd : Below w.heap.size w W.drew := below_drewN hbw 1
  have hb6 : Below w.heap.size w w6 := hg6.below hbd hbd.size (fun q hq => by omega)
  have hz6 : Row w6 w.heap.size zs 31 := hz.drew.grew hg6 (by omega)
  refine ⟨hrg9.set_same fld _, own_grewK ho9 (Grew.of_grown hgs) (fun q hq h => ?_), h6.belowM hb10 hgG (by omega), hz6.below hb10 (by omega), hb6.trans (hb10.mono (by omega)), ?_⟩
  · cases hq
    simp at h
    omega
  · have h1 : W.heap.size ≤ w6.heap.size := hg6.size
    have h2 := hb10.size
    omega
theorem exec_item {d : Option Tmp} {ty : TypeId} {ps : String} {af : Array Edge} {gd : Option (Nat × Bool)} {x y z : Operand} {ρ : Operand → Value} (w : World) (X : ByteArray) (N : Int) (D : List Value) (hx : ρ x = .string X) (hy : ρ y = .int .i64 N) (hz : ρ z = .agg D.toArray) (hD : D.length = 32) :
    (execOp ρ { dst := d, op := Op.build 51 #[(0, x), (1, y), (2, z)], type := ty, pos := ps, after := af, guard := gd }).run Try.prog w = .ok (.value (.agg (.string X :: .int .i64 N :: D).toArray)) w := by
  have hb := build_item X N D hD w
  unfold execOp
  simp only [List.map_toArray, List.map_cons, List.map_nil, hx, hy, hz, Sem.run_bind, hb, Result.andThen_ok, Sem.run_pure]
end Go.Proofs.Ytbccjomnfclkdaa
