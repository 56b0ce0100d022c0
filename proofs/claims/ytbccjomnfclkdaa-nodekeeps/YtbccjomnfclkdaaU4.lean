/-
  The walk of (*wire.In).Digest.
-/
import Derived.Test.YtbccjomnfclkdaaU3
import Derived.Test.YtbccjomnfclkdaaV4
import Derived.Laws.CopyOwn
namespace Go.Proofs.Ytbccjomnfclkdaa
open Go.RowKit
namespace Wire
end Wire
theorem info5' : (Try.prog.info? 5).map (·.size) = some 1 := by kernel_rfl
theorem wpList_copy_Row {P : Program} {w : World} {ops : Array Oper} {rest : List Oper} {o : Oper} {a : Act} {Q : Exit → Act → World → Prop} (hgd : o.guard = none) (d s : Operand) (dT sT : TypeId)
    (ho : o.op = .call { callee := .builtin .copy, args := #[d, s], argTypes := #[dT, sT] }) (elem : TypeId) (hu : P.underlying dT = some (.slice elem)) (hsz : (P.info? elem).map (·.size) = some 1)
    (g off dLen dCap : Nat) (b o2 sLen sCap : Nat) (hd : a.eval d = .slice (some ⟨g, off, none⟩) dLen dCap) (hs : a.eval s = .slice (some ⟨b, o2, none⟩) sLen sCap)
    (cur : List Value) (t : TypeId) (hg : Row w g cur t) (cs : List Value) (n : Nat) (hn : cs.length = n) (hmin : n = Nat.min sLen dLen)
    (hsrc : ∀ j v, cs[j]? = some v → w.cell? ⟨b, o2 + j, none⟩ = some v) (hfit : off + n ≤ cur.length) (h1 : ∀ v ∈ cs, v.oneCell' = true)
    (h : ∀ w', Row w' g (splice cur off cs) t → w.grownBy w' (some g) → w'.heap.size = w.heap.size → wpList P ops Q rest (a.put o.dst (.int .i64 (n : Int))) w') : wpList P ops Q (o :: rest) a w := by
  refine wpList_copy_own hgd d s dT sT ho elem hu hsz g off dLen dCap ⟨b, o2, none⟩ sLen sCap hd hs cur.toArray t hg cs (by omega) (fun j v hv => by rw [Addr.add_mid]; exact hsrc j v hv) (by simpa [hn] using hfit) h1 ?_
  have hw := h (w.setRow g (splice cur off cs).toArray) (setRow_heap w g _ _ t _ hg) ⟨rfl, rfl, rfl, by simp [World.setRow], fun k _ hne => setRow_other w g k _ (fun e => hne (by rw [e]))⟩ (by simp [World.setRow])
  rw [← hn] at hw
  exact hw
def zero32 : List Value := (List.replicate 32 0).map u8v
theorem zero32_eq : zero32 = (List.replicate 32 0).map u8v := rfl
theorem two_rows (w : World) : ∃ w2 Z, Hid (Z = zero32) ∧ Hid (((w.alloc (.cells zero32.toArray 49)).alloc (.cells zero32.toArray 49)) = w2) ∧ Row w2 w.heap.size Z 49 ∧ Row w2 (w.heap.size + 1) Z 49 ∧ Hid (Below w.heap.size w w2) ∧ Hid (w2.heap.size = w.heap.size + 2) :=
  ⟨_, _, rfl, rfl, (Row.newAt w _ zero32 49 rfl).alloc _, Row.newAt (w.alloc _) _ zero32 49 (by simp), hid_in (((Below.refl _ _).alloc (Nat.le_refl _) _).alloc (by simp) _), hid_in (by simp)⟩
theorem zero32_length : zero32.length = 32 := rfl
set_option maxRecDepth 20000 in
set_option maxHeartbeats 400000 in
set_option maxRecDepth 100000 in
theorem idigest_bad {B : Nat} (w : World) (g e : Nat) (bs : List Nat) (he : e ≠ 0) (hi : InIs B w g bs e) :
    Calls Try.prog 57 #[.pointer (some ⟨g, 0, none⟩)] w fun r w' => r = .returned (.agg ((List.replicate 32 0).map u8v).toArray) ∧ Below w.heap.size w w' := by
  have HI := hid_in hi
  clear hi
  obtain ⟨w2, Z, HZ, H2, hr0, hr1, HB, HS⟩ := two_rows w
  have hZl : Z.length = 32 := by rw [HZ.out]; rfl
  have hZ1 : ∀ v ∈ Z, v.oneCell' = true := by rw [HZ.out]; exact one_u8 _
  have HT : Hid (Calls Try.prog 56 #[.pointer (some ⟨g, 0, none⟩), .int .i64 32] ((w.alloc (.cells zero32.toArray 49)).alloc (.cells zero32.toArray 49)) fun r w' => r = .returned (.tuple #[.slice none 0 0, .bool false]) ∧ w' = w2) := by
    show Calls _ _ _ _ _
    rw [H2.out]
    exact take_bad w2 g e 32 bs he (HI.out.below HB.out)
  rw [← zero32_eq, ← HZ.out]
  clear HI H2
  have hsl := slice_arr (w.heap.size + 1)
  go_enter Try.func57, Try.ntmps57
  go_wp2_with fail
  refine HT.out.mono ?_
  rintro e2 w3 ⟨rfl, h3⟩
  subst h3
  clear HT
  go_wp2_with (first | (refine wpList_copy_nothing rfl _ _ 33 33 rfl 5 Try.underlying33 info5' _ _ _ _ _ _ rfl rfl rfl ?_) | (refine wpList_load_Row rfl 49 _ rfl (w.heap.size + 1) rfl 49 _ hr1 _ Try.underlying49 rfl 32 info49 hZl ?_) | (refine wpList_store_Row rfl 49 _ _ rfl w.heap.size 0 Z rfl rfl 49 _ hr0 32 info49 hZl (by omega) hZ1 ?_; intro w4 hr4 hg4 hs4))
  refine post_Row 2 49 Try.results57 w.heap.size rfl 49 _ hr4 _ Try.underlying49 rfl 32 info49 (by simp [splice_all, hZl]) rfl ⟨?_, below_of_grown HB.out hg4 HB.out.size (Nat.le_refl _)⟩
  rw [splice_all _ _ rfl]
end Go.Proofs.Ytbccjomnfclkdaa
