/-
  What is written is read back as it was. Inodes of two lists that read as the same inodes.
-/
import Derived.Deep.CutRange
import Derived.Laws.CopyOwn
import Derived.Deep.RegionLaw
import Derived.Deep.DrawnRows
import Derived.Laws.Tables
import Derived.Test.YtglfeocfhlmloaaV00
import Derived.Test.YtglfeocfhlmloaaV01
import Derived.Test.YtglfeocfhlmloaaV02
import Derived.Test.YtglfeocfhlmloaaV03
import Derived.Test.YtglfeocfhlmloaaV04
import Derived.Test.YtglfeocfhlmloaaV05
import Derived.Test.YtglfeocfhlmloaaV06
import Derived.Test.YtglfeocfhlmloaaV07
import Derived.Test.YtglfeocfhlmloaaV08
import Derived.Test.YtglfeocfhlmloaaV09
import Derived.Test.YtglfeocfhlmloaaV10
import Derived.Test.YtglfeocfhlmloaaV11
import Derived.Test.YtglfeocfhlmloaaV12
import Derived.Test.YtglfeocfhlmloaaV13
import Derived.Test.YtglfeocfhlmloaaV14
import Derived.Test.YtglfeocfhlmloaaV15
import Derived.Test.YtglfeocfhlmloaaV16
import Derived.Test.YtglfeocfhlmloaaV17
import Derived.Test.YtglfeocfhlmloaaV18
import Derived.Test.YtglfeocfhlmloaaV19
import Derived.Test.YtglfeocfhlmloaaV20
import Derived.Test.YtglfeocfhlmloaaV21
import Derived.Test.YtglfeocfhlmloaaV22
import Derived.Test.YtglfeocfhlmloaaV23
import Derived.Test.YtglfeocfhlmloaaV24
import Derived.Test.YtglfeocfhlmloaaV25
import Derived.Test.YtglfeocfhlmloaaV26
import Derived.Test.YtglfeocfhlmloaaV27
import Derived.Test.YtglfeocfhlmloaaV28
import Derived.Test.YtglfeocfhlmloaaV29
import Derived.Test.YtglfeocfhlmloaaV30
import Derived.Test.YtglfeocfhlmloaaV31
import Derived.Test.YtglfeocfhlmloaaV32
import Derived.Test.YtglfeocfhlmloaaV33
namespace Go.Proofs.Ytglfeocfhlmloaa.Up
open Go.RowKit
open Vp (Str B bl Val cmpL parseS showS withinS IsPath checkS)
open Nd (Sta sNum sText sFlag str bytesS)
def Ent.fil (e : Ent) : Fil := ⟨B (showS e.names), e.kind, e.opq, e.data⟩
/-- the order -/
def OrdA (A es : List Ent) : Prop := es.Perm A ∧ es.Pairwise (fun s t => ¬ cmpL t.names s.names < 0)
theorem ordA_one {A es es' : List Ent} (h : (A.map (·.names)).Nodup) (a : OrdA A es) (b : OrdA A es') : es = es' := by
  have hpp : es.Perm es' := a.1.trans b.1.symm
  refine List.Perm.eq_of_pairwise (le := fun s t => ¬ cmpL t.names s.names < 0) (fun x y hx hy h1 h2 => ?_) a.2 b.2 hpp
  have hn : x.names = y.names := by
    have t1 := Vp.cmpL_is.turn x.names y.names
    have t2 := Vp.cmpL_is.three x.names y.names
    exact (Vp.cmpL_is.zero _ _).1 (by omega)
  have e1 := at_mem h (a.1.mem_iff.1 hx)
  have e2 := at_mem h (b.1.mem_iff.1 hy)
  rw [hn, e2] at e1
  exact (Option.some.inj e1).symm
theorem gp_size {n : List Str} (h : Gp n) : (B (showS n)).size ≤ 200 := by
  have h6 := Vp.show_len n
  have h7 := h.lens
  have h8 : (B (showS n)).size = (showS n).length := by simp [B, ByteArray.size]
  omega
/-- an inode whose fields may be -/
def OkF (f : Fil) : Prop := f.path.size ≤ 200 ∧ (0 ≤ f.kind ∧ f.kind ≤ 3) ∧ f.data.size ≤ 1024
theorem okF {A : List Ent} (h : TreeA A) {e : Ent} (he : e ∈ A) : OkF e.fil := by
  obtain ⟨h1, _, h3⟩ := h.good e he
  obtain ⟨k1, k2, k3⟩ := kind_ok h3
  exact ⟨gp_size h1, ⟨k2, k3⟩, k1⟩
theorem num_back (v : Nat) (r : List Nat) (h : v < 18446744073709551616) : sNum (Nd.Wire.num v ++ r, 0) = (v, (r, 0)) := by
  unfold sNum
  rw [if_pos rfl]
  exact Nd.rnum_num v r h
theorem text_back (m : Nat) (S : ByteArray) (r : List Nat) (h : S.size ≤ m) (hm : m ≤ 9223372036854775807) : sText m (Nd.Wire.num S.size ++ (bytesS S ++ r), 0) = (bytesS S, (r, 0)) := by
  unfold sText Nd.Wire.rtext
  rw [if_pos rfl]
  have e := Nd.rnum_num S.size (bytesS S ++ r) (by omega)
  simp only [e]
  rw [if_neg (by simp), if_neg (by simp; omega), if_neg (by simp [Nd.bytesS_length])]
  have hl := Nd.bytesS_length S
  simp [← hl]
theorem flag_back (q : Bool) (r : List Nat) : sFlag ((if q then 1 else 0) :: r, 0) = (q, (r, 0)) := by
  unfold sFlag Nd.Wire.rflag
  cases q <;> simp
theorem ino_back (f : Fil) (r : List Nat) (h : OkF f) : sIno (encI f ++ r, 0) = (f, (r, 0)) := by
  obtain ⟨h1, ⟨h2, h3⟩, h4⟩ := h
  unfold sIno encI
  simp only [List.append_assoc]
  rw [text_back 256 f.path _ (by omega) (by omega)]
  simp only
  rw [num_back _ _ (by omega)]
  simp only [List.singleton_append]
  rw [flag_back]
  simp only
  rw [text_back 1024 f.data _ h4 (by omega)]
  simp only [Nd.str_bytesS]
  obtain ⟨p, k, q, d⟩ := f
  simp only at *
  rw [show ((min k.toNat 4 : Nat) : Int) = k by omega]
/-- inodes' bytes are one way alone -/
theorem inos_one : ∀ (fs gs : List Fil) (r s : List Nat), (∀ f ∈ fs, OkF f) → (∀ f ∈ gs, OkF f) → fs.length = gs.length → fs.flatMap encI ++ r = gs.flatMap encI ++ s → r = s
  | [], [], r, s, _, _, _, h => by simpa using h
  | [], _ :: _, _, _, _, _, h, _ => by simp at h
  | _ :: _, [], _, _, _, _, h, _ => by simp at h
  | f :: fs, g :: gs, r, s, hf, hg, hl, h => by
    simp only [List.flatMap_cons, List.append_assoc] at h
    have e1 := ino_back f (fs.flatMap encI ++ r) (hf f (by simp))
    have e2 := ino_back g (gs.flatMap encI ++ s) (hg g (by simp))
    rw [h, e2] at e1
    have e3 := (Prod.mk.inj (Prod.mk.inj e1).2).1
    exact inos_one fs gs r s (fun x hx => hf x (by simp [hx])) (fun x hx => hg x (by simp [hx])) (by simpa using hl) e3.symm
theorem enc_one {N Z N' Z' : Nat} {fs gs : List Fil} {r s : List Nat} (hN : N ≤ 128) (hZ : Z ≤ 8192) (hN' : N' ≤ 128) (hZ' : Z' ≤ 8192) (hf : ∀ f ∈ fs, OkF f) (hg : ∀ f ∈ gs, OkF f) (hl : fs.length ≤ 1024) (hl' : gs.length ≤ 1024) (h : encU N Z fs.length fs ++ r = encU N' Z' gs.length gs ++ s) : r = s := by
  unfold encU at h
  simp only [List.append_assoc] at h
  have e1 := num_back N (Nd.Wire.num Z ++ (Nd.Wire.num fs.length ++ (fs.flatMap encI ++ r))) (by omega)
  rw [h, num_back _ _ (by omega)] at e1
  have e2 := num_back Z (Nd.Wire.num fs.length ++ (fs.flatMap encI ++ r)) (by omega)
  rw [← (Prod.mk.inj (Prod.mk.inj e1).2).1, num_back _ _ (by omega)] at e2
  have e3 := num_back fs.length (fs.flatMap encI ++ r) (by omega)
  rw [← (Prod.mk.inj (Prod.mk.inj e2).2).1, num_back _ _ (by omega)] at e3
  exact inos_one fs gs r s hf hg (Prod.mk.inj e3).1.symm (Prod.mk.inj (Prod.mk.inj e3).2).1.symm
theorem cmp_up {n : List Str} (h : n ≠ []) : cmpL n.dropLast n = -1 := by
  refine Vp.cmpL_less (i := n.dropLast.length) (y := n.getLast h) ?_ (Nat.le_refl _) ?_
  · rw [List.take_length]
    conv => rhs; rw [← List.dropLast_concat_getLast h]
    simp
  · conv => lhs; rw [← List.dropLast_concat_getLast h]
    simp
theorem nms_show {n : List Str} (h : Gp n) : errOf (B (showS n)) = 0 ∧ nmsOf (B (showS n)) = n := by
  unfold errOf nmsOf
  rw [Vp.bl_B, h.parse]
  exact ⟨rfl, rfl⟩
/-- a tree that is put in its order -/
theorem back_put {A pre r : List Ent} {e : Ent} (h : TreeA A) (ho : OrdA A (pre ++ e :: r)) : putEA pre e.fil.path e.fil.kind e.fil.opq e.fil.data = 0 ∧ putU pre e.fil.path e.fil.kind e.fil.opq e.fil.data = pre ++ [e] := by
  have hm : ∀ x ∈ pre ++ e :: r, x ∈ A := fun x hx => ho.1.mem_iff.1 hx
  have he := hm e (by simp)
  obtain ⟨hg, hne, hf⟩ := h.good e he
  have hnd : ((pre ++ e :: r).map (·.names)).Nodup := (ho.1.map _).nodup_iff.2 h.nd
  have hnd2 : (pre.map (·.names)).Nodup := hnd.sublist ((List.sublist_append_left pre (e :: r)).map _)
  have hnew : e.names ∉ pre.map (·.names) := fun hx => by
    rw [List.map_append, List.nodup_append] at hnd
    exact hnd.2.2 _ hx e.names (by simp) rfl
  obtain ⟨n1, n2⟩ := nms_show hg
  have hdir : dirA pre e.names.dropLast = 0 := by
    rcases dir_zero.1 (h.dir e he) with h1 | ⟨d0, h1, h2⟩
    · exact dir_zero.2 (.inl h1)
    · obtain ⟨h3, h4⟩ := at_some h1
      refine dir_zero.2 (.inr ⟨d0, ?_, h2⟩)
      have h5 : d0 ∈ pre ++ e :: r := ho.1.mem_iff.2 h3
      have hc := cmp_up hne
      rcases List.mem_append.1 h5 with h6 | h6
      · rw [← h4]
        exact at_mem hnd2 h6
      · exfalso
        have hp := (List.pairwise_append.1 ho.2).2.1
        rcases List.mem_cons.1 h6 with rfl | h7
        · have := congrArg List.length h4
          simp at this
          have := List.length_pos_iff.2 hne
          omega
        · have := (List.pairwise_cons.1 hp).1 d0 h7
          rw [h4] at this
          omega
  have hl : pre.length < 1024 := by
    have h5 := ho.1.length_eq
    have := h.len
    simp at h5
    omega
  have hE : putEA pre e.fil.path e.fil.kind e.fil.opq e.fil.data = 0 := by
    show putEA pre (B (showS e.names)) e.kind e.opq e.data = 0
    unfold putEA
    rw [n1, n2, if_neg (by simp), if_neg hne, if_neg (by simp [hf])]
    unfold placeA
    rw [hdir, at_none.2 hnew, if_neg (by simp), if_neg (by simp), if_neg (by omega)]
  refine ⟨hE, ?_⟩
  unfold putU
  rw [if_pos hE]
  show putA pre ⟨nmsOf (B (showS e.names)), e.kind, e.opq, e.data⟩ = _
  rw [n2]
  exact putA_new hnew
theorem back_loop {A : List Ent} (h : TreeA A) (rest : List Nat) : ∀ (suf pre : List Ent), OrdA A (pre ++ suf) → readLoop suf.length pre ((suf.map Ent.fil).flatMap encI ++ rest, 0) = (pre ++ suf, 0)
  | [], pre, _ => by simp [readLoop]
  | e :: r, pre, ho => by
    obtain ⟨h1, h2⟩ := back_put h ho
    simp only [List.length_cons, List.map_cons, List.flatMap_cons, List.append_assoc]
    unfold readLoop
    rw [ino_back e.fil _ (okF h (ho.1.mem_iff.1 (by simp)))]
    simp only
    rw [if_neg (by simp [h1]), h2, back_loop h rest r (pre ++ [e]) (by simpa using ho)]
    simp
theorem back_read {A es : List Ent} {N Z : Nat} (h : TreeA A) (ho : OrdA A es) (hN : N ≤ 128) (hZ : Z ≤ 8192) (rest : List Nat) : readU (encU N Z A.length (es.map Ent.fil) ++ rest, 0) = some (N, Z, es) := by
  have hl : A.length = es.length := ho.1.length_eq.symm
  have h1024 := h.len
  unfold encU
  simp only [List.append_assoc]
  unfold readU sCut
  rw [num_back N _ (by omega)]
  simp only
  rw [num_back Z _ (by omega)]
  simp only
  rw [num_back A.length _ (by omega)]
  simp only
  rw [show min N (128 + 1) = N by omega, show min Z (8192 + 1) = Z by omega, show min A.length (1024 + 1) = es.length by omega]
  rw [back_loop h rest es [] (by simpa using ho)]
  simp [hN, hZ]
theorem TreeA.perm {A es : List Ent} (h : TreeA A) (hp : es.Perm A) : TreeA es := by
  have hnd : (es.map (·.names)).Nodup := (hp.map _).nodup_iff.2 h.nd
  refine ⟨hnd, fun e he => h.good e (hp.mem_iff.1 he), fun e he => ?_, by rw [hp.length_eq]; exact h.len⟩
  rcases dir_zero.1 (h.dir e (hp.mem_iff.1 he)) with h1 | ⟨d0, h1, h2⟩
  · exact dir_zero.2 (.inl h1)
  · obtain ⟨h3, h4⟩ := at_some h1
    refine dir_zero.2 (.inr ⟨d0, ?_, h2⟩)
    rw [← h4]
    exact at_mem hnd (hp.mem_iff.2 h3)
end Go.Proofs.Ytglfeocfhlmloaa.Up
namespace Go.Proofs.Ytglfeocfhlmloaa.Up
open Go.RowKit
open Nd (take_put)
theorem Fls.range {w : World} {b o : Nat} {fs : List Fil} (h : ∀ j u, (fcells fs)[j]? = some u → w.cell? ⟨b, o + j, none⟩ = some u) (i : Nat) (f : Fil) (hi : fs[i]? = some f) : w.rangeAt b (o + i * 4) f.cells := fun j u hj => by
  rw [Nat.add_assoc]
  exact h _ _ (fcells_at hi j u hj)
theorem eq36 (f : Fil) (w : World) : (Op.equalIn 10000 36 (.agg f.cells.toArray) (.agg f.cells.toArray)).run Try.prog w = .ok true w := by
  have hst : Try.prog.stoodInHeld 36 = false := by kernel_rfl
  have p0 : (part 9 f.cells.toArray 0).run Try.prog w = .ok (.string f.path) w := by kernel_rfl
  have p1 : (part 3 f.cells.toArray 1).run Try.prog w = .ok (.int .i64 f.kind) w := by kernel_rfl
  have p2 : (part 4 f.cells.toArray 2).run Try.prog w = .ok (.bool f.opq) w := by kernel_rfl
  have p3 : (part 9 f.cells.toArray 3).run Try.prog w = .ok (.string f.data) w := by kernel_rfl
  have e9 : ∀ s : ByteArray, (Op.equalIn 9999 9 (.string s) (.string s)).run Try.prog w = .ok true w := fun s => by
    show (Op.equalIn (9998 + 1) 9 (.string s) (.string s)).run Try.prog w = .ok true w
    rw [Op.equalIn]
    simp [Sem.run_bind, run_underlying Try.underlying9, Result.andThen, Sem.run_pure]
    exact (Nd.ba_beq s s).2 rfl
  have e4 : ∀ s : Bool, (Op.equalIn 9999 4 (.bool s) (.bool s)).run Try.prog w = .ok true w := fun s => by
    show (Op.equalIn (9998 + 1) 4 (.bool s) (.bool s)).run Try.prog w = .ok true w
    rw [Op.equalIn]
    simp [Sem.run_bind, run_underlying Try.underlying4, Result.andThen, Sem.run_pure]
  have e3 : ∀ s : Int, (Op.equalIn 9999 3 (.int .i64 s) (.int .i64 s)).run Try.prog w = .ok true w := fun s => by
    show (Op.equalIn (9998 + 1) 3 (.int .i64 s) (.int .i64 s)).run Try.prog w = .ok true w
    rw [Op.equalIn]
    simp [Sem.run_bind, run_underlying Try.underlying3, Result.andThen, Sem.run_pure]
  show (Op.equalIn (9999 + 1) 36 (.agg f.cells.toArray) (.agg f.cells.toArray)).run Try.prog w = .ok true w
  rw [Op.equalIn]
  simp only [Sem.run_bind, run_underlying Try.underlying36, Result.andThen_ok]
  simp [hst, p0, p1, p2, p3, e9, e4, e3, Result.andThen, Sem.run_bind, Sem.run_pure]
set_option maxHeartbeats 2000000 in
set_option maxRecDepth 100000 in
theorem inodes_same (fs : List Fil) (va vb : Value) (w : World) (ha : Fls w va fs) (hb : Fls w vb fs) :
    Calls Try.prog 15 #[va, vb] w fun e w' => e = .returned (.bool true) ∧ Below w.heap.size w w' := by
  obtain ⟨p1, c1, b1, o1, rfl, h11, h12, h13, h14', _⟩ := ha
  have h14 := Fls.range h14'
  obtain ⟨p2, c2, b2, o2, rfl, h21, h22, h23, h24', _⟩ := hb
  have h24 := Fls.range h24'
  have HEL : Hid (∀ (i : Nat) f, fs[i]? = some f → p1 = some ⟨b1, o1, none⟩ ∧ p2 = some ⟨b2, o2, none⟩ ∧ ∀ W, Below w.heap.size w W → W.rangeAt b1 (o1 + i * 4) f.cells ∧ W.rangeAt b2 (o2 + i * 4) f.cells) := hid_in (fun i f hi => by
    have hne : fs ≠ [] := by rintro rfl; simp at hi
    exact ⟨(h13 hne).1, (h23 hne).1, fun W hW => ⟨Nd.rangeAt_below (h14 i f hi) hW (h13 hne).2, Nd.rangeAt_below (h24 i f hi) hW (h23 hne).2⟩⟩)
  obtain ⟨N, HN⟩ : ∃ N, Hid (fs.length = N) := ⟨_, hid_in rfl⟩
  rw [HN.out]
  have HNL : Hid (N ≤ 9223372036854775807) := hid_in (by rw [← HN.out]; omega)
  clear h11 h12 h13 h14 h14' h21 h22 h23 h24 h24'
  go_enter Try.func15, Try.ntmps15
  go_upto_region 4 with fail
  go_loopw [5] (fun vi W => ∃ i : Nat, i ≤ N ∧ vi = .int .i64 (i : Int) ∧ Hid (Below w.heap.size w W)) (fun vi _ => N - (intOf vi).toNat)
  case atStart => exact ⟨0, by omega, rfl, hid_in (Below.refl _ _)⟩
  case round =>
    obtain ⟨i, hi, rfl, hbw⟩ := hrel
    by_cases hlt : i < N
    · obtain ⟨f, hf⟩ : ∃ f, fs[i]? = some f := ⟨_, List.getElem?_eq_getElem (by rw [HN.out]; exact hlt)⟩
      obtain ⟨rfl, rfl, hW⟩ := HEL.out i f hf
      obtain ⟨X, HX⟩ : ∃ X, Hid (X = f.cells) := ⟨_, hid_in rfl⟩
      have HXL : Hid (X.length = 4) := hid_in (by rw [HX.out]; rfl)
      have heq : ∀ W, (Op.equalIn 10000 36 (.agg X.toArray) (.agg X.toArray)).run Try.prog W = .ok true W := fun W => by rw [HX.out]; exact eq36 f W
      have HBD : Hid (Below w.heap.size w wr.drew) := hid_in (hbw.out.trans ((below_drew wr).mono hbw.out.size))
      have HK : Hid (wr.drew.rangeAt b1 (o1 + i * 4) X ∧ wr.drew.rangeAt b2 (o2 + i * 4) X) := hid_in (by rw [HX.out]; exact hW _ HBD.out)
      have hlt2 : (i : Int) < (N : Int) := by omega
      have HIL := hid_in hlt
      have hN : (N : Int) ≤ 9223372036854775807 := by have := HNL.out; omega
      clear hW hf hi hlt
      go_upto_region 6 with fail
      refine wp_region_held_drew (S := fun W' => W'.rangeAt b1 (o1 + i * 4) X ∧ W'.rangeAt b2 (o2 + i * 4) X) (by kernel_rfl) HK.out (fun hHeld => ?_)
      refine take_put (i := 0) (d := 17) (v := ?_) rfl rfl (by kernel_rfl) (by kernel_rfl) (by kernel_rfl) (fun _ _ _ h => h) (Or.inl ⟨by kernel_rfl, ?_⟩) hHeld ?_
      rotate_left
      · (intro w hSw; (try dsimp only at hSw); go_simp; (try with_reducible rfl))
      simp only [Act.put, List.setIfInBounds_toArray, List.set_cons_zero, List.set_cons_succ]
      refine take_put (i := 1) (d := 18) (v := ?_) rfl rfl (by kernel_rfl) (by kernel_rfl) (by kernel_rfl) (fun _ _ _ h => h) (Or.inl ⟨by kernel_rfl, ?_⟩) hHeld ?_
      rotate_left
      · (intro w hSw; (try dsimp only at hSw); go_simp; (try with_reducible rfl))
      simp only [Act.put, List.setIfInBounds_toArray, List.set_cons_zero, List.set_cons_succ]
      refine take_put (i := 2) (d := 19) (v := ?_) rfl rfl (by kernel_rfl) (by kernel_rfl) (by kernel_rfl) (fun _ _ _ h => h) (Or.inl ⟨by kernel_rfl, ?_⟩) hHeld ?_
      rotate_left
      · (intro w hSw; (try dsimp only at hSw); go_simp; (try with_reducible rfl))
      simp only [Act.put, List.setIfInBounds_toArray, List.set_cons_zero, List.set_cons_succ]
      refine take_put (i := 3) (d := 20) (v := .agg X.toArray) rfl rfl (by kernel_rfl) (by kernel_rfl) (by kernel_rfl) (fun _ _ _ h => h) (yieldsIf_load_mid (by rfl) 36 _ rfl _ _ rfl X _ (fun w hSw => hSw.1) Try.underlying36 rfl (by rw [info36, HXL.out])) hHeld ?_
      simp only [Act.put, List.setIfInBounds_toArray, List.set_cons_zero, List.set_cons_succ]
      refine take_put (i := 4) (d := 21) (v := ?_) rfl rfl (by kernel_rfl) (by kernel_rfl) (by kernel_rfl) (fun _ _ _ h => h) (Or.inl ⟨by kernel_rfl, ?_⟩) hHeld ?_
      rotate_left
      · (intro w hSw; (try dsimp only at hSw); go_simp; (try with_reducible rfl))
      simp only [Act.put, List.setIfInBounds_toArray, List.set_cons_zero, List.set_cons_succ]
      refine take_put (i := 5) (d := 22) (v := ?_) rfl rfl (by kernel_rfl) (by kernel_rfl) (by kernel_rfl) (fun _ _ _ h => h) (Or.inl ⟨by kernel_rfl, ?_⟩) hHeld ?_
      rotate_left
      · (intro w hSw; (try dsimp only at hSw); go_simp; (try with_reducible rfl))
      simp only [Act.put, List.setIfInBounds_toArray, List.set_cons_zero, List.set_cons_succ]
      refine take_put (i := 6) (d := 23) (v := ?_) rfl rfl (by kernel_rfl) (by kernel_rfl) (by kernel_rfl) (fun _ _ _ h => h) (Or.inl ⟨by kernel_rfl, ?_⟩) hHeld ?_
      rotate_left
      · (intro w hSw; (try dsimp only at hSw); go_simp; (try with_reducible rfl))
      simp only [Act.put, List.setIfInBounds_toArray, List.set_cons_zero, List.set_cons_succ]
      refine take_put (i := 7) (d := 24) (v := .agg X.toArray) rfl rfl (by kernel_rfl) (by kernel_rfl) (by kernel_rfl) (fun _ _ _ h => h) (yieldsIf_load_mid (by rfl) 36 _ rfl _ _ rfl X _ (fun w hSw => hSw.2) Try.underlying36 rfl (by rw [info36, HXL.out])) hHeld ?_
      simp only [Act.put, List.setIfInBounds_toArray, List.set_cons_zero, List.set_cons_succ]
      refine take_put (i := 8) (d := 25) (v := .bool false) rfl rfl (by kernel_rfl) (by kernel_rfl) (by kernel_rfl) (fun _ _ _ h => h) (Or.inl ⟨by kernel_rfl, fun w hSw => ?_⟩) hHeld ?_
      · (go_simp)
      simp only [Act.put, List.setIfInBounds_toArray, List.set_cons_zero, List.set_cons_succ]
      refine wpAnyH_done (by kernel_rfl) ?_ _
      clear heq HK
      go_wp2
      go_roundw
      case rel => exact ⟨i + 1, by have := HIL.out; omega, by go_num, HBD⟩
      case measure => have := HIL.out; simp [intOf]; omega
    · obtain rfl : N = i := by omega
      clear hi hlt
      go_wp2
      go_ret
      exact ⟨rfl, hbw.out⟩
end Go.Proofs.Ytglfeocfhlmloaa.Up
