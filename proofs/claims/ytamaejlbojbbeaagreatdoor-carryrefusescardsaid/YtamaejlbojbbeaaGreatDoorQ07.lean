/-
  The walk of (*wire.Out).Digest. The walk of (*wire.In).Digest. The walk of (*wire.In).Digest, where nothing was wrong yet. What was written is read back; what was cut off is short. Plain numbers, no program in it. The walks of the reference's In: bad, Left, Flag. The walk of the reference's Flag. The walk of the reference's Digest. Nodes as the document has them: when one is right, its bytes; slices of cells in the world. The walks of isData, isSize, pieces, of vpath.Check at one name, and of isItem.
-/
import Derived.Deep.RegionLaw
import Derived.Deep.DrawnRows
import Derived.Laws.CopyOwn
import Derived.Deep.Cut
import Derived.Test.YtamaejlbojbbeaaGreatDoorQ05
import Derived.Test.YtamaejlbojbbeaaGreatDoorQ06
namespace Go.Proofs.YtamaejlbojbbeaaGreatDoor.Nd
open Go.RowKit
attribute [local go_sem ↓] Go.wp_at_zero Go.wp_at_succ
theorem slice_arr (g : Nat) (w : World) : (Instr.sliceAt 30 (.pointer (some ⟨g, 0, none⟩)) none none none).run Tryz.prog w = .ok (.slice (some ⟨g, 0, none⟩) 32 32) w := by kernel_rfl
set_option maxHeartbeats 1000000 in
set_option maxRecDepth 100000 in
theorem odigest_any (w : World) (B g : Nat) (v : Value) (xs : List Nat) (D : List Nat) (hD : D.length = 32) (hDb : ∀ x ∈ D, x < 256) (ho : OutIs w B g v xs) (hl : xs.length + 32 ≤ 140737488355328) :
    Calls Tryz.prog 211 #[.pointer (some ⟨g, 0, none⟩), .agg (D.map u8v).toArray] w fun e w' => e = .returned (.tuple #[]) ∧ ∃ v', OutIs w' B g v' (xs ++ D) ∧ Grew w w' (OutS g v) ∧ Moved w v v' := by
  obtain ⟨i5i, HI5, HE1, HE2, HE3⟩ := i5h
  have hb0 : Below w.heap.size w (w.alloc (.cells (D.map u8v).toArray 30)) := (Below.refl _ _).alloc (Nat.le_refl _) _
  have ho0 := ho.below hb0
  have hod : OutIs (w.alloc (.cells (D.map u8v).toArray 30)).drew B g v xs := ⟨ho0.row.drew, ho0.own.drew, ho0.apart, ho0.base, ho0.lt⟩
  have c0 : (w.alloc (.cells (D.map u8v).toArray 30)).drew.cell? ⟨g, 0, none⟩ = some v := hod.row.cell 0
  have hown := hod.own
  have hbase := hod.base
  have HO := hid_in ho0
  have hrD : Row (w.alloc (.cells (D.map u8v).toArray 30)).drew w.heap.size (D.map u8v) 30 := Row.newAt w _ _ 30 rfl
  have hnews : ∀ j u, (D.map u8v)[j]? = some u → (w.alloc (.cells (D.map u8v).toArray 30)).drew.cell? ((⟨w.heap.size, 0, none⟩ : Addr).add j) = some u := fun j u hu => by
    rw [Addr.add_mid, Nat.zero_add, hrD.cell]; exact hu
  have hlD : (D.map u8v).length = 32 * 1 := by simp [hD]
  have h63 : xs.length + 32 ≤ maxLen := by unfold maxLen; omega
  have hby : (xs.length + 32) * 1 ≤ 140737488355328 := by omega
  have hone := one_u8 D
  have hH : (w.alloc (.cells (D.map u8v).toArray 30)).drew.heap.size = w.heap.size + 1 := by simp
  have hsl := slice_arr w.heap.size
  clear ho ho0 hod hrD
  go_enter Tryz.func211, Tryz.ntmps211
  go_wp2
  go_region_law ((refine step_append_lies _ (by rfl) _ _ _ (by rfl) B 5 i5i (.int .u8 0) 1 1 Tryz.underlying51 HI5.out HE3.out HE1.out HE2.out rfl (by decide) _ _ _ (by rfl) hown ⟨w.heap.size, 0, none⟩ 32 32 (D.map u8v) (by rfl) hlD hnews hone (by decide) h63 hby hbase (w.heap.size + 1) hH ?_; intro g2 cap2 w2 hown2 hg2 hat2 hlt2; have HAT2 := hid_in hat2; clear hat2; have HG2 : Hid ((w.alloc (.cells (D.map u8v).toArray 30)).drew.grownBy w2 v.ownBlock) := hg2; have cg : w2.cell? ⟨g, 0, none⟩ = some v := (HO.out.row.drew.grew (Grew.of_grown HG2.out) (fun h => HO.out.apart h.symm)).cell 0; have fg := (HO.out.row.drew.grew (Grew.of_grown HG2.out) (fun h => HO.out.apart h.symm)).frozen 0))
  go_end0
  have hod : OutIs (w.alloc (.cells (D.map u8v).toArray 30)).drew B g v xs := ⟨HO.out.row.drew, HO.out.own.drew, HO.out.apart, HO.out.base, HO.out.lt⟩
  have hm0 : Moved w v (.slice (some ⟨g2, 0, none⟩) (xs.length + 32) cap2) := by
    rcases HAT2.out with h | h
    · exact .inl h.symm
    · exact .inr ⟨g2, rfl, by omega⟩
  have hm1 : Moved (w.alloc (.cells (D.map u8v).toArray 30)).drew v (.slice (some ⟨g2, 0, none⟩) (xs.length + 32) cap2) := by
    rcases HAT2.out with h | h
    · exact .inl h.symm
    · exact .inr ⟨g2, rfl, by rw [hH]; omega⟩
  have hown2' : w2.ownsRow B 5 1 (.slice (some ⟨g2, 0, none⟩) (xs.length + 32) cap2) (xs.length + D.length) (xs.map u8v ++ D.map u8v) := by rw [hD]; exact hown2
  have hmore := out_more hDb hod hown2' (Grew.of_grown HG2.out) hm1 rfl
  exact ⟨rfl, _, hmore.1, (Grew.of_below (OutS g v) hb0.drew).trans hmore.2 (fun q _ h => h), hm0⟩
end Go.Proofs.YtamaejlbojbbeaaGreatDoor.Nd
namespace Go.Proofs.YtamaejlbojbbeaaGreatDoor.Nd
open Go.RowKit
namespace Wire
end Wire
theorem info5' : (Tryz.prog.info? 5).map (·.size) = some 1 := by kernel_rfl
theorem wpList_copy_Row {P : Program} {w : World} {ops : Array Oper} {rest : List Oper} {o : Oper} {a : Act} {Q : Exit → Act → World → Prop} (hgd : o.guard = none) (d s : Operand) (dT sT : TypeId)
    (ho : o.op = .call { callee := .builtin .copy, args := #[d, s], argTypes := #[dT, sT] }) (elem : TypeId) (hu : P.underlying dT = some (.slice elem)) (hsz : (P.info? elem).map (·.size) = some 1)
    (g off dLen dCap : Nat) (b o2 sLen sCap : Nat) (hd : a.eval d = .slice (some ⟨g, off, none⟩) dLen dCap) (hs : a.eval s = .slice (some ⟨b, o2, none⟩) sLen sCap)
    (cur : List Value) (t : TypeId) (hg : Row w g cur t) (cs : List Value) (n : Nat) (hn : cs.length = n) (hmin : n = Nat.min sLen dLen)
    (hsrc : ∀ j v, cs[j]? = some v → w.cell? ⟨b, o2 + j, none⟩ = some v) (hfit : off + n ≤ cur.length) (h1 : ∀ v ∈ cs, v.oneCell' = true)
    (h : ∀ w', Row w' g (splice cur off cs) t → w.grownBy w' (some g) → w'.heap.size = w.heap.size → wpList P ops Q rest (a.put o.dst (.int .i64 (n : Int))) w') : wpList P ops Q (o :: rest) a w := by
  refine wpList_copy_own hgd d s dT sT ho elem hu hsz g off dLen dCap ⟨b, o2, none⟩ sLen sCap hd hs cur.toArray t hg cs (by omega) (fun j v hv => by rw [Addr.add_mid]; exact hsrc j v hv) (by simpa [hn] using hfit) h1 ?_
  have hw := h (w.setRow g (splice cur off cs).toArray) (setRow_heap w g _ _ t _ hg) ⟨rfl, rfl, rfl, by simp [World.setRow], fun k _ hne => setRow_other w g k _ (fun e => hne (by rw [e]))⟩ (by simp [World.setRow])
  rw [← hn] at hw
  exact hw
def zero32 : List Value := (List.replicate 32 0).map u8v
theorem zero32_eq : zero32 = (List.replicate 32 0).map u8v := rfl
theorem two_rows (w : World) : ∃ w2 Z, Hid (Z = zero32) ∧ Hid (((w.alloc (.cells zero32.toArray 30)).alloc (.cells zero32.toArray 30)) = w2) ∧ Row w2 w.heap.size Z 30 ∧ Row w2 (w.heap.size + 1) Z 30 ∧ Hid (Below w.heap.size w w2) ∧ Hid (w2.heap.size = w.heap.size + 2) :=
  ⟨_, _, rfl, rfl, (Row.newAt w _ zero32 30 rfl).alloc _, Row.newAt (w.alloc _) _ zero32 30 (by simp), hid_in (((Below.refl _ _).alloc (Nat.le_refl _) _).alloc (by simp) _), hid_in (by simp)⟩
set_option maxRecDepth 20000 in
set_option maxHeartbeats 400000 in
set_option maxRecDepth 100000 in
theorem idigest_bad {B : Nat} (w : World) (g e : Nat) (bs : List Nat) (he : e ≠ 0) (hi : InIs B w g bs e) :
    Calls Tryz.prog 200 #[.pointer (some ⟨g, 0, none⟩)] w fun r w' => r = .returned (.agg ((List.replicate 32 0).map u8v).toArray) ∧ Below w.heap.size w w' := by
  have HI := hid_in hi
  clear hi
  obtain ⟨w2, Z, HZ, H2, hr0, hr1, HB, HS⟩ := two_rows w
  have hZl : Z.length = 32 := by rw [HZ.out]; rfl
  have hZ1 : ∀ v ∈ Z, v.oneCell' = true := by rw [HZ.out]; exact one_u8 _
  have HT : Hid (Calls Tryz.prog 199 #[.pointer (some ⟨g, 0, none⟩), .int .i64 32] ((w.alloc (.cells zero32.toArray 30)).alloc (.cells zero32.toArray 30)) fun r w' => r = .returned (.tuple #[.slice none 0 0, .bool false]) ∧ w' = w2) := by
    show Calls _ _ _ _ _
    rw [H2.out]
    exact take_bad w2 g e 32 bs he (HI.out.below HB.out)
  rw [← zero32_eq, ← HZ.out]
  clear HI H2
  have hsl := slice_arr (w.heap.size + 1)
  go_enter Tryz.func200, Tryz.ntmps200
  go_wp2_with fail
  refine HT.out.mono ?_
  rintro e2 w3 ⟨rfl, h3⟩
  subst h3
  clear HT
  go_wp2_with (first | (refine wpList_copy_nothing rfl _ _ 51 51 rfl 5 Tryz.underlying51 info5' _ _ _ _ _ _ rfl rfl rfl ?_) | (refine wpList_load_Row rfl 30 _ rfl (w.heap.size + 1) rfl 30 _ hr1 _ Tryz.underlying30 rfl 32 info49 hZl ?_) | (refine wpList_store_Row rfl 30 _ _ rfl w.heap.size 0 Z rfl rfl 30 _ hr0 32 info49 hZl (by omega) hZ1 ?_; intro w4 hr4 hg4 hs4))
  refine post_Row 2 30 Tryz.results200 w.heap.size rfl 30 _ hr4 _ Tryz.underlying30 rfl 32 info49 (by simp [splice_all, hZl]) rfl ⟨?_, below_of_grown HB.out hg4 HB.out.size (Nat.le_refl _)⟩
  rw [splice_all _ _ rfl]
end Go.Proofs.YtamaejlbojbbeaaGreatDoor.Nd
namespace Go.Proofs.YtamaejlbojbbeaaGreatDoor.Nd
open Go.RowKit
theorem Sl.grew {w w' : World} {p : Option Addr} {bs : List Nat} {cap b off : Nat} {S : Nat → Prop} (h : Sl w p bs cap b off) (hg : Grew w w' S) (hn : 0 < bs.length → ¬ S b) : Sl w' p bs cap b off :=
  ⟨h.lt, h.cap1, h.cap2, h.at_, fun j hj => by
    have hc := h.src j hj
    have hlt := World.block_lt_of_cell? w _ hc
    have hb := hg.block b hlt (hn (by omega))
    have : w'.cell? ⟨b, off + j, none⟩ = w.cell? ⟨b, off + j, none⟩ := by
      simp only [World.cell?, hb]
    rw [this]; exact hc⟩
/-- a part of a slice of bytes from a place on -/
theorem Sl.rest {w : World} {p q : Option Addr} {bs : List Nat} {cap b off : Nat} (h : Sl w p bs cap b off) (n : Nat) (hn : n ≤ bs.length) (hq : n < bs.length → q = some ⟨b, off + n, none⟩) : Sl w q (bs.drop n) (cap - n) b (off + n) :=
  ⟨fun x hx => h.lt x (List.mem_of_mem_drop hx), by have := h.cap1; simp; omega, by have := h.cap2; omega, fun h0 => hq (by simp at h0; omega), fun j hj => by
    have hj' : n + j < bs.length := by simp at hj; omega
    rw [Nat.add_assoc, h.src (n + j) hj']
    simp⟩
end Go.Proofs.YtamaejlbojbbeaaGreatDoor.Nd
namespace Go.Proofs.YtamaejlbojbbeaaGreatDoor.Nd
open Go.RowKit
/-- the same, its bytes in a block below B -/
def InB (w : World) (g : Nat) (bs : List Nat) (e B : Nat) : Prop :=
  ∃ p cap b off, Row w g [.slice p bs.length cap, .int .i64 (e : Int)] 248 ∧ Sl w p bs cap b off ∧ (p = none → bs.length = 0 ∧ cap = 0) ∧ (0 < bs.length → b ≠ g ∧ b < B)
theorem InIs.toB {B : Nat} {w : World} {g e : Nat} {bs : List Nat} (h : InIs B w g bs e) : InB w g bs e B := h.ex
theorem InB.is {w : World} {g e B : Nat} {bs : List Nat} (h : InB w g bs e B) : InIs B w g bs e := ⟨h⟩
theorem InB.below {w w' : World} {g e B : Nat} {bs : List Nat} (h : InB w g bs e B) (hb : Below w.heap.size w w') : InB w' g bs e B := by
  obtain ⟨p, cap, b, off, hr, hsl, hno, hne⟩ := h
  exact ⟨p, cap, b, off, hr.below hb hr.lt, hsl.below hb, hno, hne⟩
/-- a block from B on is changed -/
theorem InB.grown {w w' : World} {g e B k : Nat} {bs : List Nat} (h : InB w g bs e B) (hg : w.grownBy w' (some k)) (hk : B ≤ k) (hgk : g ≠ k) : InB w' g bs e B := by
  obtain ⟨p, cap, b, off, hr, hsl, hno, hne⟩ := h
  exact ⟨p, cap, b, off, hr.grown hg (by simpa using hgk), hsl.grown hg (fun h0 => by have := (hne h0).2; simp; omega), hno, hne⟩
set_option maxRecDepth 20000 in
set_option maxHeartbeats 400000 in
theorem take_someB (w : World) (g n B : Nat) (bs : List Nat) (h0 : 0 < n) (hn : n ≤ bs.length) (hi : InB w g bs 0 B) :
    Calls Tryz.prog 199 #[.pointer (some ⟨g, 0, none⟩), .int .i64 (n : Int)] w fun r w' => ∃ b off cap, r = .returned (.tuple #[.slice (some ⟨b, off, none⟩) n cap, .bool true]) ∧ Sl w' (some ⟨b, off, none⟩) (bs.take n) cap b off ∧ b < B ∧ InB w' g (bs.drop n) 0 B ∧ w.grownBy w' (some g) ∧ w'.heap.size = w.heap.size := by
  obtain ⟨p, cap, b, off, hr, hsl, hno, hne⟩ := hi
  obtain rfl := hsl.at_ (by omega)
  obtain ⟨hbg, hbB⟩ := hne (by omega)
  have hc1 := hsl.cap1
  have hc2 := hsl.cap2
  have c0 : w.cell? ⟨g, 0, none⟩ = some (.slice (some ⟨b, off, none⟩) bs.length cap) := hr.cell 0
  have c1 : w.cell? ⟨g, 1, none⟩ = some (.int .i64 0) := hr.cell 1
  have f0 := hr.frozen 0
  have k1 : (n : Int) ≤ (bs.length : Int) := by omega
  have hs1 := slice_to b off bs.length cap n (by omega)
  obtain ⟨q, hq, hqn, hs2⟩ := slice_rest b off bs.length cap n hn hc1
  have HQ := hid_in hq
  have HQN := hid_in hqn
  have HR := hid_in hr
  have HSL := hid_in hsl
  clear hr hsl hno hne hq hqn
  go_enter Tryz.func199, Tryz.ntmps199
  go_wp2
  go_ret2
  have hg := grownBy_setCell w ⟨g, 0, none⟩ (.slice q (bs.length - n) (cap - n))
  have hslw := HSL.out.grown hg (fun _ => by simpa using hbg)
  have e1 : (bs.drop n).length = bs.length - n := by simp
  refine ⟨b, off, cap, rfl, ?_, hbB, ⟨q, cap - n, b, off + n, ?_, ?_, fun h => absurd h HQN.out, fun _ => ⟨hbg, hbB⟩⟩, hg, by simp [World.setCell]⟩
  · have := hslw.part 0 n cap (by omega) (by omega) hc2
    simpa using this
  · rw [e1]; exact HR.out.set_same 0 _
  · have := hslw.part n (bs.length - n) (cap - n) (by omega) (by omega) (by omega)
    rw [List.take_of_length_le (by simp)] at this
    refine ⟨this.lt, this.cap1, this.cap2, fun h => ?_, this.src⟩
    exact HQ.out (by simp at h; omega)
set_option maxRecDepth 20000 in
set_option maxHeartbeats 400000 in
set_option maxRecDepth 100000 in
theorem idigest_short {B : Nat} (w : World) (g : Nat) (bs : List Nat) (hs : bs.length < 32) (_hBw : B ≤ w.heap.size) (hi : InIs B w g bs 0) :
    Calls Tryz.prog 200 #[.pointer (some ⟨g, 0, none⟩)] w fun r w' => r = .returned (.agg ((List.replicate 32 0).map u8v).toArray) ∧ InIs B w' g [] 20 ∧ Grew w w' (· = g) := by
  have HI := hid_in hi
  clear hi
  have hgl : g < w.heap.size := by obtain ⟨_, _, _, _, hr, _⟩ := HI.out.ex; exact hr.lt
  obtain ⟨w2, Z, HZ, H2, hr0, hr1, HB, HS⟩ := two_rows w
  have hZl : Z.length = 32 := by rw [HZ.out]; rfl
  have hZ1 : ∀ v ∈ Z, v.oneCell' = true := by rw [HZ.out]; exact one_u8 _
  have HT : Hid (Calls Tryz.prog 199 #[.pointer (some ⟨g, 0, none⟩), .int .i64 32] ((w.alloc (.cells zero32.toArray 30)).alloc (.cells zero32.toArray 30)) fun r w' => r = .returned (.tuple #[.slice none 0 0, .bool false]) ∧ InIs B w' g [] 20 ∧ w2.grownBy w' (some g) ∧ w'.heap.size = w2.heap.size) := by
    show Calls _ _ _ _ _
    rw [H2.out]
    exact take_short w2 g 32 bs hs (HI.out.below HB.out)
  rw [← zero32_eq, ← HZ.out]
  clear HI H2
  have hsl := slice_arr (w.heap.size + 1)
  have HGL := hid_in hgl
  go_enter Tryz.func200, Tryz.ntmps200
  go_wp2_with fail
  refine HT.out.mono ?_
  rintro e2 w3 ⟨rfl, h1, h2, h3⟩
  have H1 := hid_in h1
  have H4 := hid_in h2
  have H5 := hid_in h3
  have hr0' := hr0.grown h2 (by have := HGL.out; simp; omega)
  have hr1' := hr1.grown h2 (by have := HGL.out; simp; omega)
  clear HT h1 h2 h3 hr0 hr1 hgl
  go_wp2_with (first | (refine wpList_copy_nothing rfl _ _ 51 51 rfl 5 Tryz.underlying51 info5' _ _ _ _ _ _ rfl rfl rfl ?_) | (refine wpList_load_Row rfl 30 _ rfl (w.heap.size + 1) rfl 30 _ hr1' _ Tryz.underlying30 rfl 32 info49 hZl ?_) | (refine wpList_store_Row rfl 30 _ _ rfl w.heap.size 0 Z rfl rfl 30 _ hr0' 32 info49 hZl (by omega) hZ1 ?_; intro w4 hr4 hg4 hs4))
  have hgl := HGL.out
  have hin : InIs B w4 g [] 20 := by
    obtain ⟨p, cap, b, off, hr, hsl, hno, _⟩ := H1.out.ex
    exact ⟨p, cap, b, off, hr.grown hg4 (by simp; omega), hsl.grown hg4 (fun h => by simp at h), hno, fun h => by simp at h⟩
  refine post_Row 2 30 Tryz.results200 w.heap.size rfl 30 _ hr4 _ Tryz.underlying30 rfl 32 info49 (by simp [splice_all, hZl]) rfl ⟨?_, hin, ?_⟩
  · rw [splice_all _ _ rfl]
  · refine ((Grew.of_below (· = g) HB.out).trans (Grew.of_grown H4.out) (fun q _ h => ?_)).trans (Grew.of_grown hg4) (fun q hq h => ?_)
    · simpa using h
    · simp at h; omega
set_option maxRecDepth 20000 in
set_option maxHeartbeats 400000 in
set_option maxRecDepth 100000 in
theorem idigest_some {B : Nat} (w : World) (g : Nat) (bs : List Nat) (hs : 32 ≤ bs.length) (hBw : B ≤ w.heap.size) (hi : InIs B w g bs 0) :
    Calls Tryz.prog 200 #[.pointer (some ⟨g, 0, none⟩)] w fun r w' => r = .returned (.agg ((bs.take 32).map u8v).toArray) ∧ InIs B w' g (bs.drop 32) 0 ∧ Grew w w' (· = g) := by
  have HI := hid_in hi
  clear hi
  have hgl : g < w.heap.size := by obtain ⟨_, _, _, _, hr, _⟩ := HI.out.ex; exact hr.lt
  obtain ⟨w2, Z, HZ, H2, hr0, hr1, HB, HS⟩ := two_rows w
  have hZl : Z.length = 32 := by rw [HZ.out]; rfl
  have HT : Hid (Calls Tryz.prog 199 #[.pointer (some ⟨g, 0, none⟩), .int .i64 32] ((w.alloc (.cells zero32.toArray 30)).alloc (.cells zero32.toArray 30)) fun r w' => ∃ b off cap, r = .returned (.tuple #[.slice (some ⟨b, off, none⟩) 32 cap, .bool true]) ∧ Sl w' (some ⟨b, off, none⟩) (bs.take 32) cap b off ∧ b < B ∧ InB w' g (bs.drop 32) 0 B ∧ w2.grownBy w' (some g) ∧ w'.heap.size = w2.heap.size) := by
    show Calls _ _ _ _ _
    rw [H2.out]
    exact take_someB w2 g 32 B bs (by omega) hs (HI.out.toB.below HB.out)
  have hDl : ((bs.take 32).map u8v).length = 32 := by simp; omega
  have hD1 : ∀ v ∈ (bs.take 32).map u8v, v.oneCell' = true := one_u8 _
  have HD : Hid (∀ (w' : World) cap b off, Sl w' (some ⟨b, off, none⟩) (bs.take 32) cap b off → ∀ j v, ((bs.take 32).map u8v)[j]? = some v → w'.cell? ⟨b, off + j, none⟩ = some v) := by
    show ∀ _, _
    intro w' cap b off h j v hv
    have hj : j < (bs.take 32).length := by have := (List.getElem?_eq_some_iff.1 hv).1; simpa using this
    rw [h.src j hj]
    simp only [List.getElem?_map, List.getElem?_eq_getElem hj, Option.map_some] at hv
    rw [← Option.some.inj hv]
    simp only [List.getD, List.getElem?_eq_getElem hj, Option.getD_some]
  obtain ⟨D, HDE⟩ : ∃ D, Hid (D = (bs.take 32).map u8v) := ⟨_, rfl⟩
  rw [← HDE.out] at hDl hD1 HD ⊢
  clear HI H2 HDE
  have hsl := slice_arr (w.heap.size + 1)
  have HGL := hid_in hgl
  go_enter Tryz.func200, Tryz.ntmps200
  go_wp2_with fail
  refine HT.out.mono ?_
  rintro e2 w3 ⟨b3, off3, cap3, rfl, hsl3, hb3, h1, h2, h3⟩
  have H1 := hid_in h1
  have H4 := hid_in h2
  have H5 := hid_in h3
  have hsrc := HD.out w3 cap3 b3 off3 hsl3
  have hr0' := hr0.grown h2 (by have := HGL.out; simp; omega)
  have hr1' := hr1.grown h2 (by have := HGL.out; simp; omega)
  have HB3 := hid_in hb3
  clear HT h1 h2 h3 hr0 hr1 hgl hb3 hsl3 HD
  go_wp2_with (first | (refine wpList_copy_Row rfl _ _ 51 51 rfl 5 Tryz.underlying51 info5' (w.heap.size + 1) 0 32 32 b3 off3 32 cap3 rfl rfl Z 30 hr1' D 32 hDl rfl hsrc (by omega) hD1 ?_; intro w4 hr5 hg5 hs5; rw [splice_all _ _ (by rw [hDl, hZl])] at hr5; have hr0'' := hr0'.grown hg5 (by simp)) | (refine wpList_load_Row rfl 30 _ rfl (w.heap.size + 1) rfl 30 _ hr5 _ Tryz.underlying30 rfl 32 info49 hDl ?_) | (refine wpList_store_Row rfl 30 _ _ rfl w.heap.size 0 D rfl rfl 30 _ hr0'' 32 info49 hDl (by omega) hD1 ?_; intro w5 hr4 hg4 hs4))
  have hgl := HGL.out
  have hin : InIs B w5 g (bs.drop 32) 0 := ((H1.out.grown hg5 (by omega) (by omega)).grown hg4 (by omega) (by omega)).is
  have hz : splice Z 0 D = D := splice_all _ _ (by rw [hDl, hZl])
  rw [hz] at hr4
  refine post_Row 2 30 Tryz.results200 w.heap.size rfl 30 _ hr4 _ Tryz.underlying30 rfl 32 info49 hDl rfl ⟨rfl, hin, ?_⟩
  refine (((Grew.of_below (· = g) HB.out).trans (Grew.of_grown H4.out) (fun q _ h => ?_)).trans (Grew.of_grown hg5) (fun q hq h => ?_)).trans (Grew.of_grown hg4) (fun q hq h => ?_)
  · simpa using h
  · simp at h; omega
  · simp at h; omega
end Go.Proofs.YtamaejlbojbbeaaGreatDoor.Nd
namespace Go.Proofs.YtamaejlbojbbeaaGreatDoor.Nd
open Go.RowKit
end Go.Proofs.YtamaejlbojbbeaaGreatDoor.Nd
namespace Go.Proofs.YtamaejlbojbbeaaGreatDoor.Nd
open Go.RowKit
theorem rnumF_numF : ∀ (f k n acc : Nat) (r : List Nat), k + f = 9 → n * 128 ^ k < 18446744073709551616 → (0 < k → 0 < n) → Wire.rnumF (f + 1) k acc (Wire.numF f n ++ r) = (acc + n * 128 ^ k, r, 0)
  | 0, k, n, acc, r, hk, hn, h0 => by
    have hk9 : k = 9 := by omega
    subst hk9
    have e9 : (128 : Nat) ^ 9 = 9223372036854775808 := by decide
    rw [e9] at hn
    have hn1 : n ≤ 1 := by omega
    have hn0 := h0 (by omega)
    simp only [Wire.numF, List.singleton_append, Wire.rnumF]
    rw [if_neg (by omega), if_pos (by omega)]
  | f + 1, k, n, acc, r, hk, hn, h0 => by
    by_cases hl : n < 128
    · simp only [Wire.numF, if_pos hl, List.singleton_append, Wire.rnumF]
      rw [if_neg (by omega)]
    · simp only [Wire.numF, if_neg hl, List.cons_append]
      rw [show f + 1 + 1 = (f + 1) + 1 from rfl]
      conv => lhs; unfold Wire.rnumF
      rw [if_neg (by omega), if_neg (by omega)]
      have hm : n = n % 128 + 128 * (n / 128) := (Nat.mod_add_div n 128).symm
      have e1 : (128 : Nat) ^ (k + 1) = 128 ^ k * 128 := Nat.pow_succ ..
      have hd : n / 128 * 128 ^ (k + 1) ≤ n * 128 ^ k := by
        rw [e1, Nat.mul_comm (128 ^ k) 128, ← Nat.mul_assoc]
        exact Nat.mul_le_mul_right _ (Nat.div_mul_le_self n 128)
      rw [rnumF_numF f (k + 1) (n / 128) _ r (by omega) (by omega) (fun _ => by omega)]
      have e2 : (n % 128 + 128) % 128 = n % 128 := by omega
      have e3 : acc + n % 128 * 128 ^ k + n / 128 * 128 ^ (k + 1) = acc + n * 128 ^ k := by
        rw [e1, Nat.mul_comm (128 ^ k) 128, ← Nat.mul_assoc, Nat.add_assoc, ← Nat.add_mul]
        congr 2
        omega
      rw [e2, e3]
theorem rnum_num (n : Nat) (r : List Nat) (hn : n < 18446744073709551616) : Wire.rnum (Wire.num n ++ r) = (n, r, 0) := by
  have := rnumF_numF 9 0 n 0 r rfl (by simpa using hn) (by omega)
  simpa [Wire.rnum, Wire.num] using this
theorem str_bytesS (S : ByteArray) : str (bytesS S) = S := by
  unfold str bytesS
  rw [List.map_map]
  have : (UInt8.ofNat ∘ fun x : UInt8 => x.toNat) = id := by funext x; simp
  rw [this, List.map_id]
end Go.Proofs.YtamaejlbojbbeaaGreatDoor.Nd
namespace Go.Proofs.YtamaejlbojbbeaaGreatDoor.Nd
open Go.RowKit
/-- the reference's In at block g reads the bytes bs, and stands at k; what was wrong is e -/
structure RIs (B : Nat) (w : World) (g : Nat) (t : TypeId) (bs : List Nat) (k e : Nat) : Prop where
  ex : ∃ p cap b off, Row w g [.slice p bs.length cap, .int .i64 (k : Int), .int .i64 (e : Int)] t ∧ Sl w p bs cap b off ∧ (0 < bs.length → b ≠ g ∧ b < B)
  le : k ≤ bs.length
theorem RIs.len {B : Nat} {w : World} {g : Nat} {t : TypeId} {bs : List Nat} {k e : Nat} (h : RIs B w g t bs k e) : bs.length ≤ 9223372036854775807 := by
  obtain ⟨p, cap, b, off, hr, hsl, hne⟩ := h.ex
  have := hsl.cap1
  have := hsl.cap2
  omega
end Go.Proofs.YtamaejlbojbbeaaGreatDoor.Nd
namespace Go.Proofs.YtamaejlbojbbeaaGreatDoor.Nd
open Go.RowKit
theorem RIs.drew {B : Nat} {w : World} {g : Nat} {t : TypeId} {bs : List Nat} {k e : Nat} (h : RIs B w g t bs k e) : RIs B w.drew g t bs k e := by
  obtain ⟨p, cap, b, off, hr, hsl, hne⟩ := h.ex
  exact ⟨⟨p, cap, b, off, hr.drew, ⟨hsl.lt, hsl.cap1, hsl.cap2, hsl.at_, hsl.src⟩, hne⟩, h.le⟩
end Go.Proofs.YtamaejlbojbbeaaGreatDoor.Nd
namespace Go.Proofs.YtamaejlbojbbeaaGreatDoor.Nd
open Go.RowKit
theorem wp_world {P : Program} {c : Code} {Q : Exit → Act → World → Prop} {a : Act} {W W' : World} (h : W = W') (k : Code.wp P c Q a W') : Code.wp P c Q a W := h ▸ k
/-- the reference's In with its bytes in a block below B -/
def RB (w : World) (g : Nat) (t : TypeId) (bs : List Nat) (k e B : Nat) : Prop :=
  ∃ p cap b off, Row w g [.slice p bs.length cap, .int .i64 (k : Int), .int .i64 (e : Int)] t ∧ Sl w p bs cap b off ∧ (0 < bs.length → b ≠ g ∧ b < B)
theorem RIs.toB {B : Nat} {w : World} {g : Nat} {t : TypeId} {bs : List Nat} {k e : Nat} (h : RIs B w g t bs k e) : RB w g t bs k e B := h.ex
theorem RB.is {w : World} {g : Nat} {t : TypeId} {bs : List Nat} {k e B : Nat} (h : RB w g t bs k e B) (hk : k ≤ bs.length) : RIs B w g t bs k e := by
  exact ⟨h, hk⟩
theorem RB.below {w w' : World} {g : Nat} {t : TypeId} {bs : List Nat} {k e B : Nat} (h : RB w g t bs k e B) (hb : Below w.heap.size w w') : RB w' g t bs k e B := by
  obtain ⟨p, cap, b, off, hr, hsl, hne⟩ := h
  exact ⟨p, cap, b, off, hr.below hb hr.lt, hsl.below hb, hne⟩
theorem RB.grown {w w' : World} {g : Nat} {t : TypeId} {bs : List Nat} {k e B q : Nat} (h : RB w g t bs k e B) (hg : w.grownBy w' (some q)) (hk : B ≤ q) (hgk : g ≠ q) : RB w' g t bs k e B := by
  obtain ⟨p, cap, b, off, hr, hsl, hne⟩ := h
  exact ⟨p, cap, b, off, hr.grown hg (by simpa using hgk), hsl.grown hg (fun h0 => by have := (hne h0).2; simp; omega), hne⟩
theorem RB.drew {w : World} {g : Nat} {t : TypeId} {bs : List Nat} {k e B : Nat} (h : RB w g t bs k e B) : RB w.drew g t bs k e B := by
  obtain ⟨p, cap, b, off, hr, hsl, hne⟩ := h
  exact ⟨p, cap, b, off, hr.drew, ⟨hsl.lt, hsl.cap1, hsl.cap2, hsl.at_, hsl.src⟩, hne⟩
end Go.Proofs.YtamaejlbojbbeaaGreatDoor.Nd
namespace Go.Proofs.YtamaejlbojbbeaaGreatDoor.Nd
open Go.RowKit
/-- a directory's item -/
structure It where
  name : ByteArray
  kind : Int
  sum : List Nat
/-- a node -/
structure Nd where
  kind : Int
  data : ByteArray
  size : Int
  parts : List (List Nat)
  items : List It
def It.cells (x : It) : List Value := .string x.name :: .int .i64 x.kind :: x.sum.map u8v
def dcells (d : List Nat) : List Value := d.map u8v
/-- 32 bytes -/
def Dg (d : List Nat) : Prop := d.length = 32 ∧ ∀ x ∈ d, x < 256
def i64 (n : Int) : Prop := -9223372036854775808 ≤ n ∧ n ≤ 9223372036854775807
structure It.ok (x : It) : Prop where
  sum : Dg x.sum
  kind : i64 x.kind
structure Nd.ok (n : Nd) : Prop where
  parts : ∀ d ∈ n.parts, Dg d
  items : ∀ x ∈ n.items, x.ok
  kind : i64 n.kind
  size : i64 n.size
def zeroN : Nd := ⟨0, ByteArray.empty, 0, [], []⟩
/-- a slice whose elements have k cells each -/
structure Els (w : World) (v : Value) (k : Nat) (xs : List (List Value)) : Prop where
  ex : ∃ p cap b o, v = .slice p xs.length cap ∧ xs.length ≤ cap ∧ cap ≤ 9223372036854775807 ∧ (xs ≠ [] → p = some ⟨b, o, none⟩ ∧ b < w.heap.size) ∧ ∀ (i : Nat) us, xs[i]? = some us → w.rangeAt b (o + i * k) us
  each : ∀ us ∈ xs, us.length = k
theorem rangeAt_below {w w' : World} {B b o : Nat} {cs : List Value} (h : w.rangeAt b o cs) (hb : Below B w w') (hlt : b < B) : w'.rangeAt b o cs := fun j v hv => by
  rw [hb.cell (p := ⟨b, o + j, none⟩) hlt]; exact h j v hv
theorem Els.below {w w' : World} {v : Value} {k : Nat} {xs : List (List Value)} (h : Els w v k xs) (hb : Below w.heap.size w w') : Els w' v k xs := by
  obtain ⟨p, cap, b, o, rfl, h1, h2, h3, h4⟩ := h.ex
  refine ⟨⟨p, cap, b, o, rfl, h1, h2, fun hne => ⟨(h3 hne).1, Nat.lt_of_lt_of_le (h3 hne).2 hb.size⟩, fun i us hi => ?_⟩, h.each⟩
  have hne : xs ≠ [] := by rintro rfl; simp at hi
  exact rangeAt_below (h4 i us hi) hb (h3 hne).2
theorem Els.grown {w w' : World} {v : Value} {k z : Nat} {xs : List (List Value)} (h : Els w v k xs) (hg : w.grownBy w' (some z)) (hz : ∀ q, v.ownBlock = some q → q ≠ z) : Els w' v k xs := by
  obtain ⟨p, cap, b, o, rfl, h1, h2, h3, h4⟩ := h.ex
  refine ⟨⟨p, cap, b, o, rfl, h1, h2, fun hne => ⟨(h3 hne).1, Nat.lt_of_lt_of_le (h3 hne).2 hg.size⟩, fun i us hi => ?_⟩, h.each⟩
  have hne : xs ≠ [] := by rintro rfl; simp at hi
  have hbz : b ≠ z := hz b (by rw [(h3 hne).1]; rfl)
  intro j u hu
  rw [World.cell?_of_block (a := ⟨b, o + i * k + j, none⟩) (hg.block b (h3 hne).2 (by simpa using hbz))]
  exact h4 i us hi j u hu
theorem Els.nil (w : World) (k : Nat) : Els w (.slice none 0 0) k [] :=
  ⟨⟨none, 0, 0, 0, rfl, Nat.le_refl _, by decide, fun h => absurd rfl h, fun i us h => by simp at h⟩, fun us h => by cases h⟩
/-- the value of a node that lies in the world -/
structure IsN (w : World) (v : Value) (n : Nd) : Prop where
  ex : ∃ vp vi, v = .agg #[.int .i64 n.kind, .string n.data, .int .i64 n.size, vp, vi] ∧ Els w vp 32 (n.parts.map dcells) ∧ Els w vi 34 (n.items.map It.cells)
  ok : n.ok
theorem IsN.below {w w' : World} {v : Value} {n : Nd} (h : IsN w v n) (hb : Below w.heap.size w w') : IsN w' v n := by
  obtain ⟨vp, vi, h1, h2, h3⟩ := h.ex
  exact ⟨⟨vp, vi, h1, h2.below hb, h3.below hb⟩, h.ok⟩
/-- does the first text come behind the second, or is it the same? -/
def geS (a b : ByteArray) : Bool := !Op.bytesLess a.toList b.toList
def itemOk (x : It) : Bool := (x.kind == 2 || x.kind == 3) && isNameS (bl x.name)
def okAt (l : List It) (i : Nat) : Prop := ∀ x, l[i]? = some x → itemOk x = true ∧ (0 < i → ∀ y, l[i - 1]? = some y → geS y.name x.name = false)
def itemsOk (l : List It) : Prop := l.length ≤ 64 ∧ ∀ i, i < l.length → okAt l i
def pieces (n : Int) : Nat := ((n + 63) / 64).toNat
def right (n : Nd) : Prop :=
  (n.kind = 1 ∧ 1 ≤ n.data.size ∧ n.data.size ≤ 64 ∧ n.size = 0 ∧ n.parts = [] ∧ n.items = []) ∨
  (n.kind = 2 ∧ n.data.size = 0 ∧ 0 ≤ n.size ∧ n.size ≤ 1024 ∧ n.parts.length = pieces n.size ∧ n.items = []) ∨
  (n.kind = 3 ∧ n.data.size = 0 ∧ n.size = 0 ∧ n.parts = [] ∧ itemsOk n.items)
def It.bytes (x : It) : List Nat := Wire.num x.name.size ++ bytesS x.name ++ Wire.num x.kind.toNat ++ x.sum
/-- the bytes of a right node -/
def enc (n : Nd) : List Nat :=
  Wire.num n.kind.toNat ++ (if n.kind = 1 then Wire.num n.data.size ++ bytesS n.data else if n.kind = 2 then Wire.num n.size.toNat ++ n.parts.flatten else Wire.num n.items.length ++ n.items.flatMap It.bytes)
/-- a digest that is read: what it is, what is left, what is wrong -/
def rdigest (bs : List Nat) : List Nat × List Nat × Nat := if bs.length < 32 then (List.replicate 32 0, [], 20) else (bs.take 32, bs.drop 32, 0)
/-- what is still to be read, and what was wrong -/
abbrev Sta := List Nat × Nat
def sNum (s : Sta) : Nat × Sta := if s.2 = 0 then Wire.rnum s.1 else (0, s)
def sText (m : Nat) (s : Sta) : List Nat × Sta := if s.2 = 0 then Wire.rtext (m : Int) s.1 else ([], s)
def sDig (s : Sta) : List Nat × Sta := if s.2 = 0 then rdigest s.1 else (List.replicate 32 0, s)
def sParts : Nat → Sta → List (List Nat) × Sta
  | 0, s => ([], s)
  | c + 1, s => ((sParts c s).1 ++ [(sDig (sParts c s).2).1], (sDig (sParts c s).2).2)
def sItem (cut : Nat → Nat) (s : Sta) : It × Sta :=
  let a := sText 16 s
  let b := sNum a.2
  let c := sDig b.2
  (⟨str a.1, (cut b.1 : Int), c.1⟩, c.2)
def sItems (cut : Nat → Nat) : Nat → Sta → List It × Sta
  | 0, s => ([], s)
  | c + 1, s => ((sItems cut c s).1 ++ [(sItem cut (sItems cut c s).2).1], (sItem cut (sItems cut c s).2).2)
end Go.Proofs.YtamaejlbojbbeaaGreatDoor.Nd
namespace Go.Proofs.YtamaejlbojbbeaaGreatDoor.Nd
open Go.RowKit
set_option maxHeartbeats 400000 in
theorem isData_any (s : ByteArray) (hs : s.size ≤ 9223372036854775807) (w : World) : Calls Tryz.prog 201 #[.string s] w fun e w' => e = .returned (.bool (decide (1 ≤ s.size ∧ s.size ≤ 64))) ∧ w' = w := by
  have hT : s.toList.length = s.size := by rw [Lib.toList_data]; exact bl_length s
  obtain ⟨R, HR⟩ : ∃ R, Hid (R = decide (1 ≤ s.size ∧ s.size ≤ 64)) := ⟨_, rfl⟩
  rw [← HR.out]
  rcases Nat.eq_zero_or_pos s.size with h0 | h0
  · have h1 : s.toList = [] := List.length_eq_zero_iff.1 (by omega)
    have h2 : s.toList.isEmpty = true := by rw [h1]; rfl
    clear hT
    go_enter Tryz.func201, Tryz.ntmps201
    go_wp2_with fail
    go_ret
    exact ⟨congrArg (fun z => Ending.returned (Value.bool z)) ((decide_eq_false (by omega)).symm.trans HR.out.symm), rfl⟩
  · have h1 : s.toList ≠ [] := by intro h; rw [h] at hT; simp at hT; omega
    have h2 : s.toList.isEmpty = false := by cases h : s.toList; exact absurd h h1; rfl
    clear hT
    by_cases h3 : s.size ≤ 64
    · have h4 : (s.size : Int) ≤ 64 := by omega
      go_enter Tryz.func201, Tryz.ntmps201
      go_wp2_with fail
      go_ret
      exact ⟨congrArg (fun z => Ending.returned (Value.bool z)) ((decide_eq_true (by omega)).symm.trans HR.out.symm), rfl⟩
    · have h4 : ¬ (s.size : Int) ≤ 64 := by omega
      go_enter Tryz.func201, Tryz.ntmps201
      go_wp2_with fail
      go_ret
      exact ⟨congrArg (fun z => Ending.returned (Value.bool z)) ((decide_eq_false (by omega)).symm.trans HR.out.symm), rfl⟩
set_option maxHeartbeats 400000 in
theorem isSize_any (n : Int) (w : World) : Calls Tryz.prog 203 #[.int .i64 n] w fun e w' => e = .returned (.bool (decide (0 ≤ n ∧ n ≤ 1024))) ∧ w' = w := by
  obtain ⟨R, HR⟩ : ∃ R, Hid (R = decide (0 ≤ n ∧ n ≤ 1024)) := ⟨_, rfl⟩
  rw [← HR.out]
  by_cases h0 : 0 ≤ n
  · by_cases h1 : n ≤ 1024
    all_goals
      go_enter Tryz.func203, Tryz.ntmps203
      go_wp2_with fail
      go_ret
    · exact ⟨congrArg (fun z => Ending.returned (Value.bool z)) ((decide_eq_true (by omega)).symm.trans HR.out.symm), rfl⟩
    · exact ⟨congrArg (fun z => Ending.returned (Value.bool z)) ((decide_eq_false (by omega)).symm.trans HR.out.symm), rfl⟩
  · go_enter Tryz.func203, Tryz.ntmps203
    go_wp2_with fail
    go_ret
    exact ⟨congrArg (fun z => Ending.returned (Value.bool z)) ((decide_eq_false (by omega)).symm.trans HR.out.symm), rfl⟩
theorem pieces_any (n : Int) (h0 : 0 ≤ n) (h1 : n ≤ 1025) (w : World) : Calls Tryz.prog 170 #[.int .i64 n] w fun e w' => e = .returned (.int .i64 (pieces n : Int)) ∧ w' = w := by
  have HR : Hid ((pieces n : Int) = (n + 64 - 1) / 64) := by
    show _ = _
    unfold pieces
    omega
  rw [HR.out]
  go_enter Tryz.func170, Tryz.ntmps170
  go_wp2_with fail
  go_ret
  refine ⟨?_, rfl⟩
  go_num
set_option maxHeartbeats 400000 in
/-- vpath.Check at one name -/
theorem vcheck_one (x : Str) (hx : x.length ≤ 9223372036854775807) (w : World) (g : Nat) (c0 : w.cell? ⟨g, 0, none⟩ = some (.string (BA x))) :
    Calls Tryz.prog 182 #[.slice (some ⟨g, 0, none⟩) 1 1] w fun e w' => e = .returned (.int .i64 (if isNameS x then 0 else 41)) ∧ w' = w := by
  have hn := isName_any x hx w
  generalize BA x = s at c0 hn
  go_enter Tryz.func182, Tryz.ntmps182
  go_wp2_with fail
  go_loopw [7] (fun vi w' => w' = w ∧ ∃ i : Nat, i ≤ 1 ∧ vi = .int .i64 (i : Int) ∧ (i = 1 → isNameS x = true)) (fun vi _ => 1 - (intOf vi).toNat)
  case atStart => exact ⟨rfl, 0, by omega, rfl, by omega⟩
  case round =>
    obtain ⟨rfl, i, hi, rfl, hall⟩ := hrel
    rcases (show i = 0 ∨ i = 1 by omega) with rfl | rfl
    · cases hb : isNameS x
      · rw [hb] at hn
        go_wp2_with (first | (go_at_call 208; refine hn.mono ?_; rintro e w' ⟨rfl, hw⟩; obtain rfl := hw.symm))
        all_goals
          go_ret
          exact ⟨rfl, rfl⟩
      · rw [hb] at hn
        have HB := hid_in hb
        clear hb
        go_wp2_with (first | (go_at_call 208; refine hn.mono ?_; rintro e w' ⟨rfl, hw⟩; obtain rfl := hw.symm))
        go_roundw
        case rel =>
          go_light
          exact ⟨trivial, 1, by omega, by go_num, fun _ => by first | exact HB.out | trivial⟩
        case measure => simp [intOf]
    · have HB := hid_in (hall rfl)
      clear hall
      rw [HB.out]
      go_wp2_with fail
      go_ret
      exact ⟨rfl, rfl⟩
theorem bl_le (s : ByteArray) (hs : s.size ≤ 9223372036854775807) : (bl s).length ≤ 9223372036854775807 := by rw [bl_length]; exact hs
theorem It.cells_length (x : It) (h : x.sum.length = 32) : x.cells.length = 34 := by simp [It.cells, h]
/-- a row whose first two cells are known -/
theorem item_row (w : World) (x : It) : ∃ w2, Hid (w.alloc (.cells x.cells.toArray 114) = w2) ∧ Hid (Row w2 w.heap.size x.cells 114) ∧ Hid (Below w.heap.size w w2) ∧ w2.cell? ⟨w.heap.size, 0, none⟩ = some (.string x.name) ∧ w2.cell? ⟨w.heap.size, 1, none⟩ = some (.int .i64 x.kind) ∧ Hid (w2.heap.size = w.heap.size + 1) :=
  ⟨_, rfl, Row.new w _ 114, (Below.refl _ _).alloc (Nat.le_refl _) _, (Row.new w x.cells 114).cell 0, (Row.new w x.cells 114).cell 1, by show _ = _; simp⟩
set_option maxHeartbeats 1000000 in
theorem isItem_any (x : It) (hn : x.name.size ≤ 9223372036854775807) (w : World) :
    Calls Tryz.prog 213 #[.agg x.cells.toArray] w fun e w' => e = .returned (.bool (itemOk x)) ∧ Below w.heap.size w w' := by
  obtain ⟨w2, H2, HR, HB, c0, c1, HS⟩ := item_row w x
  have HV := hid_in (fun W g (c : World.cell? W ⟨g, 0, none⟩ = some (.string x.name)) => vcheck_one (bl x.name) (bl_le _ hn) W g (by rw [BA_bl]; exact c))
  obtain ⟨R, HRR⟩ : ∃ R, Hid (R = itemOk x) := ⟨_, rfl⟩
  rw [← HRR.out]
  unfold itemOk at HRR
  generalize x.cells = cs at *
  generalize hnm : x.name = nm at *
  generalize x.kind = K at *
  clear hnm
  cases hb : isNameS (bl nm)
  all_goals
    rw [hb] at HV HRR
    simp only [Bool.and_true, Bool.and_false] at HRR
    clear hb
    by_cases h2 : K = 2
    · subst h2
      go_enter Tryz.func213, Tryz.ntmps213
      go_upto_region 1 with fail
      refine wp_world H2.out ?_
      clear H2
      go_wp2_with (first | (go_at_call 182; refine (HV.out _ _ ((Row.newAt _ _ [Value.string nm] _ rfl).cell 0)).mono ?_; rintro e w' ⟨rfl, hw⟩; obtain rfl := hw.symm))
      go_ret
      exact ⟨congrArg (fun z => Ending.returned (Value.bool z)) HRR.out.symm, HB.out.alloc HB.out.size _⟩
    · by_cases h3 : K = 3
      · subst h3
        go_enter Tryz.func213, Tryz.ntmps213
        go_upto_region 1 with fail
        refine wp_world H2.out ?_
        clear H2
        go_wp2_with (first | (go_at_call 182; refine (HV.out _ _ ((Row.newAt _ _ [Value.string nm] _ rfl).cell 0)).mono ?_; rintro e w' ⟨rfl, hw⟩; obtain rfl := hw.symm))
        go_ret
        exact ⟨congrArg (fun z => Ending.returned (Value.bool z)) HRR.out.symm, HB.out.alloc HB.out.size _⟩
      · have e2 : (K == 2) = false := beq_eq_false_iff_ne.2 h2
        have e3 : (K == 3) = false := beq_eq_false_iff_ne.2 h3
        have HRF : Hid (R = false) := by show _ = _; first | exact HRR.out | (rw [HRR.out]; simp [e2, e3])
        clear HRR
        rw [HRF.out]
        go_enter Tryz.func213, Tryz.ntmps213
        go_upto_region 1 with fail
        refine wp_world H2.out ?_
        clear H2
        go_wp2_with fail
        go_ret
        exact ⟨rfl, HB.out⟩
end Go.Proofs.YtamaejlbojbbeaaGreatDoor.Nd
