/-
  The program's reader and the reference's, side by side.
-/
import Derived.Test.YtjaplfdcdokhfaaU13
namespace Go.Proofs.Ytjaplfdcdokhfaa
open Go.RowKit

/-- the program's In stays when the block of the reference's In is changed -/
theorem InIs.keep {w w' : World} {g gr e : Nat} {bs : List Nat} {t : TypeId} {p : Option Addr} {n c : Nat} {x y : Int} (h : InIs w g bs e) (hr : Row w gr [.slice p n c, .int .i64 x, .int .i64 y] t) (hg : Grew w w' (· = gr)) (hne : g ≠ gr) : InIs w' g bs e := by
  obtain ⟨p1, cap, b, off, hr1, hsl, hno, hbg⟩ := h.ex
  refine ⟨p1, cap, b, off, hr1.of_block (hg.block g hr1.lt hne), hsl.grew hg (fun h0 hb => ?_), hno, hbg⟩
  subst hb
  have hc := hsl.src 0 h0
  rw [Nat.add_zero, hr.cell] at hc
  rcases off with _ | _ | _ | off <;> simp [u8v] at hc
theorem RIs.keep {w w' : World} {g gi e k : Nat} {bs : List Nat} {t : TypeId} {p : Option Addr} {n c : Nat} {x : Int} (h : RIs w g t bs k e) (hr : Row w gi [.slice p n c, .int .i64 x] 80) (hg : Grew w w' (· = gi)) (hne : g ≠ gi) : RIs w' g t bs k e := by
  obtain ⟨p1, cap, b, off, hr1, hsl, hbg⟩ := h.ex
  refine ⟨⟨p1, cap, b, off, hr1.of_block (hg.block g hr1.lt hne), hsl.grew hg (fun h0 hb => ?_), hbg⟩, h.le⟩
  subst hb
  have hc := hsl.src 0 h0
  rw [Nat.add_zero, hr.cell] at hc
  rcases off with _ | _ | off <;> simp [u8v] at hc
/-- the two readers stand at the same place -/
structure Both (w : World) (gi gr : Nat) (t : TypeId) (bs : List Nat) (k e : Nat) : Prop where
  i : InIs w gi (bs.drop k) e
  r : RIs w gr t bs k e
  ne : gi ≠ gr
/-- what both readers do -/
structure Reads (fi fr : Nat) (xa : List Value) (bs : List Nat) (k e : Nat) (v : Value) (rs : List Nat) (e' : Nat) : Prop where
  i : ∀ w gi, InIs w gi (bs.drop k) e → Calls Try.prog fi (.pointer (some ⟨gi, 0, none⟩) :: xa).toArray w fun r w' => r = .returned v ∧ InIs w' gi rs e' ∧ Grew w w' (· = gi)
  r : ∀ w gr t, RIs w gr t bs k e → Calls Try.prog fr (.pointer (some ⟨gr, 0, none⟩) :: xa).toArray w fun r w' => r = .returned v ∧ (∃ k', bs.drop k' = rs ∧ RIs w' gr t bs k' e') ∧ Grew w w' (· = gr)
theorem grew_one {w w' : World} {g : Nat} (h : w.grownBy w' (some g)) : Grew w w' (· = g) := (Grew.of_grown h).mono (fun q h => by simpa using h)
theorem reads_num (bs : List Nat) (k e : Nat) (hlt : ∀ x ∈ bs, x < 256) : ∃ (n : Nat) (rs : List Nat) (e' : Nat), n < 18446744073709551616 ∧ Reads 17 43 [] bs k e (.int .u64 (n : Int)) rs e' := by
  by_cases he : e = 0
  · subst he
    refine ⟨(Wire.rnum (bs.drop k)).1, (Wire.rnum (bs.drop k)).2.1, (Wire.rnum (bs.drop k)).2.2, rnum_lt (bs.drop k), ⟨fun w gi h => ?_, fun w gr t h => ?_⟩⟩
    · refine (inum_any w gi (bs.drop k) (fun x hx => hlt x (List.mem_of_mem_drop hx)) h).mono ?_
      rintro r w' ⟨rfl, h1, h2, _⟩
      exact ⟨rfl, h1, grew_one h2⟩
    · refine (rnumI_any w gr t bs k h).mono ?_
      rintro r w' ⟨rfl, h1, h2⟩
      exact ⟨rfl, h1, h2⟩
  · refine ⟨0, bs.drop k, e, by decide, ⟨fun w gi h => ?_, fun w gr t h => ?_⟩⟩
    · refine (inum_bad w gi e _ he h).mono ?_
      rintro r w' ⟨rfl, rfl⟩
      exact ⟨rfl, h, Grew.refl _ _⟩
    · refine (rnumI_bad w gr t bs k e he h).mono ?_
      rintro r w' ⟨rfl, rfl⟩
      exact ⟨rfl, ⟨k, rfl, h⟩, Grew.refl _ _⟩
theorem reads_int (bs : List Nat) (k e : Nat) (hlt : ∀ x ∈ bs, x < 256) : ∃ (n : Int) (rs : List Nat) (e' : Nat), Reads 23 44 [] bs k e (.int .i64 n) rs e' := by
  obtain ⟨n, rs, e', hn, h⟩ := reads_num bs k e hlt
  exact ⟨Wire.unzz n, rs, e', ⟨fun w gi hi => iint_of w gi n hn (fun w' => InIs w' gi rs e' ∧ Grew w w' (· = gi)) (h.i w gi hi), fun w gr t hi => rint_of w gr n hn (fun w' => (∃ k', bs.drop k' = rs ∧ RIs w' gr t bs k' e') ∧ Grew w w' (· = gr)) (h.r w gr t hi)⟩⟩
theorem reads_text (bs : List Nat) (k e : Nat) (M : Int) (hm1 : -9223372036854775808 ≤ M) (hm2 : M ≤ 9223372036854775807) (hlt : ∀ x ∈ bs, x < 256) : ∃ (s : ByteArray) (rs : List Nat) (e' : Nat), Reads 18 45 [.int .i64 M] bs k e (.string s) rs e' := by
  by_cases he : e = 0
  · subst he
    refine ⟨str (Wire.rtext M (bs.drop k)).1, (Wire.rtext M (bs.drop k)).2.1, (Wire.rtext M (bs.drop k)).2.2, ⟨fun w gi h => ?_, fun w gr t h => ?_⟩⟩
    · refine (itext_any w gi (bs.drop k) M hm1 hm2 (fun x hx => hlt x (List.mem_of_mem_drop hx)) h).mono ?_
      rintro r w' ⟨rfl, h1, h2, _⟩
      exact ⟨rfl, h1, grew_one h2⟩
    · refine (rtextI_any w gr t bs k M hm1 hm2 h).mono ?_
      rintro r w' ⟨rfl, h1, h2⟩
      exact ⟨rfl, h1, h2⟩
  · refine ⟨ByteArray.empty, bs.drop k, e, ⟨fun w gi h => ?_, fun w gr t h => ?_⟩⟩
    · refine (itext_bad w gi e _ M hm1 hm2 he h).mono ?_
      rintro r w' ⟨rfl, rfl⟩
      exact ⟨rfl, h, Grew.refl _ _⟩
    · refine (rtextI_err w gr t bs k e M he (fun w' => w' = w) ((rnumI_bad w gr t bs k e he h).mono ?_)).mono ?_
      · rintro r w' ⟨rfl, rfl⟩
        exact ⟨rfl, h, rfl⟩
      · rintro r w' ⟨rfl, h2, rfl⟩
        exact ⟨rfl, ⟨k, rfl, h2⟩, Grew.refl _ _⟩
theorem reads_flag (bs : List Nat) (k e : Nat) (hlt : ∀ x ∈ bs, x < 256) : ∃ (b : Bool) (rs : List Nat) (e' : Nat), Reads 19 46 [] bs k e (.bool b) rs e' := by
  by_cases he : e = 0
  · subst he
    refine ⟨(Wire.rflag (bs.drop k)).1, (Wire.rflag (bs.drop k)).2.1, (Wire.rflag (bs.drop k)).2.2, ⟨fun w gi h => ?_, fun w gr t h => ?_⟩⟩
    · refine (iflag_any w gi (bs.drop k) (fun x hx => hlt x (List.mem_of_mem_drop hx)) h).mono ?_
      rintro r w' ⟨rfl, h1, h2, _⟩
      exact ⟨rfl, h1, grew_one h2⟩
    · rcases hd : bs.drop k with _ | ⟨c, r⟩
      · refine (rflag_none w gr t bs k hd h).mono ?_
        rintro r w' ⟨rfl, h1, h2⟩
        exact ⟨rfl, ⟨bs.length, by simp [Wire.rflag], h1⟩, h2⟩
      · by_cases hc : 1 < c
        · refine (rflag_over w gr t bs k c r hd hc h).mono ?_
          rintro x w' ⟨rfl, h1, h2⟩
          simp only [Wire.rflag, if_pos hc]
          exact ⟨trivial, ⟨bs.length, by simp, h1⟩, h2⟩
        · refine (rflag_ok w gr t bs k c r hd (by omega) h).mono ?_
          rintro x w' ⟨rfl, h1, h2⟩
          simp only [Wire.rflag, if_neg hc]
          exact ⟨trivial, ⟨k + 1, (ris_step h hd).2.1, h1⟩, h2⟩
  · refine ⟨false, bs.drop k, e, ⟨fun w gi h => ?_, fun w gr t h => ?_⟩⟩
    · refine (iflag_bad w gi e _ he h).mono ?_
      rintro r w' ⟨rfl, rfl⟩
      exact ⟨rfl, h, Grew.refl _ _⟩
    · refine (rflag_bad w gr t bs k e he h).mono ?_
      rintro r w' ⟨rfl, rfl⟩
      exact ⟨rfl, ⟨k, rfl, h⟩, Grew.refl _ _⟩
theorem InIs.below_grew {w w' : World} {g e : Nat} {bs : List Nat} (h : InIs w g bs e) (hb : Below w.heap.size w w') : InIs w' g bs e ∧ Grew w w' (· = g) := ⟨h.below hb, Grew.of_below _ hb⟩
theorem reads_digest (bs : List Nat) (k e : Nat) : ∃ (d : List Nat) (rs : List Nat) (e' : Nat), d.length = 32 ∧ Reads 24 47 [] bs k e (.agg (d.map u8v).toArray) rs e' := by
  by_cases he : e = 0
  · subst he
    by_cases hs : (bs.drop k).length < 32
    · refine ⟨List.replicate 32 0, [], 20, rfl, ⟨fun w gi h => ?_, fun w gr t h => ?_⟩⟩
      · exact idigest_short w gi _ hs h
      · refine (rdig_short w gr t bs k hs h).mono ?_
        rintro r w' ⟨rfl, h1, h2⟩
        exact ⟨rfl, ⟨bs.length, by simp, h1⟩, h2⟩
    · refine ⟨(bs.drop k).take 32, (bs.drop k).drop 32, 0, by rw [List.length_take]; omega, ⟨fun w gi h => ?_, fun w gr t h => ?_⟩⟩
      · exact idigest_some w gi _ (by omega) h
      · refine (rdig_some w gr t bs k (by omega) h).mono ?_
        rintro r w' ⟨rfl, h1, h2⟩
        exact ⟨rfl, ⟨k + 32, by rw [List.drop_drop], h1⟩, h2⟩
  · refine ⟨List.replicate 32 0, bs.drop k, e, rfl, ⟨fun w gi h => ?_, fun w gr t h => ?_⟩⟩
    · refine (idigest_bad w gi e _ he h).mono ?_
      rintro r w' ⟨rfl, hb⟩
      exact ⟨rfl, h.below hb, Grew.of_below _ hb⟩
    · refine (rdig_bad w gr t bs k e he h).mono ?_
      rintro r w' ⟨rfl, hb⟩
      exact ⟨rfl, ⟨k, rfl, (h.toB.below hb).is h.le⟩, Grew.of_below _ hb⟩
/-- both readers, one behind the other -/
theorem both_read {fi fr : Nat} {xa : List Value} {bs : List Nat} {k e : Nat} {v : Value} {rs : List Nat} {e' : Nat} (h : Reads fi fr xa bs k e v rs e') {w : World} {gi gr : Nat} {t : TypeId} (hb : Both w gi gr t bs k e) :
    Calls Try.prog fi (.pointer (some ⟨gi, 0, none⟩) :: xa).toArray w fun r w' => r = .returned v ∧ Calls Try.prog fr (.pointer (some ⟨gr, 0, none⟩) :: xa).toArray w' fun r w'' => r = .returned v ∧ ∃ k', Both w'' gi gr t bs k' e' ∧ Grew w w'' (fun q => q = gi ∨ q = gr) := by
  refine (h.i w gi hb.i).mono ?_
  rintro r w1 ⟨rfl, h1, h2⟩
  obtain ⟨p, c, _, _, hri, _⟩ := hb.i.ex
  have hr1 : RIs w1 gr t bs k e := hb.r.keep hri h2 (fun e => hb.ne e.symm)
  refine ⟨rfl, (h.r w1 gr t hr1).mono ?_⟩
  rintro r w2 ⟨rfl, ⟨k', hk', h3⟩, h4⟩
  obtain ⟨p', c', _, _, hrr, _⟩ := hr1.ex
  refine ⟨rfl, k', ⟨?_, h3, hb.ne⟩, (h2.mono (fun q h => .inl h)).trans h4 (fun q _ h => .inr h)⟩
  rw [hk']
  exact h1.keep hrr h4 hb.ne
end Go.Proofs.Ytjaplfdcdokhfaa
