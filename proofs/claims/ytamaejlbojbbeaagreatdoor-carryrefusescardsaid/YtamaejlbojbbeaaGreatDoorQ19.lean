/-
  addDir: the end of a round.
-/
import Derived.Deep.CutRange
import Derived.Test.YtamaejlbojbbeaaGreatDoorQ00
import Derived.Test.YtamaejlbojbbeaaGreatDoorQ01
import Derived.Test.YtamaejlbojbbeaaGreatDoorQ02
import Derived.Test.YtamaejlbojbbeaaGreatDoorQ03
import Derived.Test.YtamaejlbojbbeaaGreatDoorQ04
import Derived.Test.YtamaejlbojbbeaaGreatDoorQ05
import Derived.Test.YtamaejlbojbbeaaGreatDoorQ06
import Derived.Test.YtamaejlbojbbeaaGreatDoorQ07
import Derived.Test.YtamaejlbojbbeaaGreatDoorQ08
import Derived.Test.YtamaejlbojbbeaaGreatDoorQ09
import Derived.Test.YtamaejlbojbbeaaGreatDoorQ10
import Derived.Test.YtamaejlbojbbeaaGreatDoorQ11
import Derived.Test.YtamaejlbojbbeaaGreatDoorQ12
import Derived.Test.YtamaejlbojbbeaaGreatDoorQ13
import Derived.Test.YtamaejlbojbbeaaGreatDoorQ14
import Derived.Test.YtamaejlbojbbeaaGreatDoorQ15
import Derived.Test.YtamaejlbojbbeaaGreatDoorQ16
import Derived.Test.YtamaejlbojbbeaaGreatDoorQ17
import Derived.Test.YtamaejlbojbbeaaGreatDoorQ18
namespace Go.Proofs.YtamaejlbojbbeaaGreatDoor.Tr
open Go.RowKit
open Sb (hid_in Row Sl T5 BL u8v Tab wp_world grownBy_setCell below_of_grown info39 one_u8 splice_all)
/-- what a round has behind its call: a path's digest, the blobs that were made, the paths that are left -/
structure AR (w : World) (base g sb ab cb : Nat) (L : List (List Nat)) (dirv : Value) (dir : List Vp.Str) (sp : List Spot) (k : Nat) (Z : List Value) (items : List Nd.It) (nm : ByteArray) (kd : Int) (ib : Nat) (D : List Nat) (Lc : List (List Nat)) (rest : List Spot) (kk : Nat) (D0 : List Nat) (W : World) : Prop where
  eqn : walkT k dir sp [] = (Lc ++ (walkT kk dir rest (items ++ [⟨nm, kd, D⟩])).1, (walkT kk dir rest (items ++ [⟨nm, kd, D⟩])).2)
  fuel : rest.length < kk
  fuelk : kk ≤ k
  suff : rest <:+ sp
  lenc : Lc.length + 18 * rest.length ≤ 18 * sp.length
  res : Row W w.heap.size Z 30
  nd : ∃ v, Row W (w.heap.size + 1) [.int .i64 3, .string ⟨#[]⟩, .int .i64 0, .slice none 0 0, v] 108 ∧ W.ownsRow (w.heap.size + 2) 114 34 v items.length (items.map Nd.It.cells).flatten
  iok : ∀ x ∈ items, x.ok ∧ x.name.size ≤ 9223372036854775807
  ilen : items.length + 1 + rest.length ≤ sp.length
  ad : ∃ sv, AD W base g sb ab cb (L ++ Lc) dirv dir sv rest
  fr : Fr (· = sb) g w W
  gw : g < w.heap.size
  item : Row W ib (Nd.It.cells ⟨nm, kd, D0⟩) 114
  ibl : w.heap.size + 2 ≤ ib
  iba : ∀ v, Row W (w.heap.size + 1) [.int .i64 3, .string ⟨#[]⟩, .int .i64 0, .slice none 0 0, v] 108 → v.ownBlock ≠ some ib
  dg : Nd.Dg D
  kd3 : kd = 2 ∨ kd = 3
  nms : nm.size ≤ 9223372036854775807
/-- a block of items alone is written -/
theorem AD.items {W W' : World} {base g sb ab cb : Nat} {L : List (List Nat)} {dirv : Value} {dir : List Vp.Str} {sv : Value} {sp : List Spot} (h : AD W base g sb ab cb L dirv dir sv sp) {row : Option Nat} (hg : W.grownBy W' row) (hr : ∀ k, row = some k → 0 < k ∧ ∃ cs t fr, W.heap[k]? = some (.cells cs t fr) ∧ (t = 114 ∨ t = 108)) : AD W' base g sb ab cb L dirv dir sv sp := by
  have key : ∀ {b : Nat} {cs : Array Value} {t : TypeId} {fr : Nat × Nat}, W.heap[b]? = some (.cells cs t fr) → t ≠ 114 → t ≠ 108 → W'.heap[b]? = some (.cells cs t fr) := fun e h1 h2 => kept_typed e hg (fun k e2 => by
    obtain ⟨_, cs', t', fr', e3, ht⟩ := hr k e2
    exact typed_ne e e3 (by rintro rfl; rcases ht with h | h; exact h1 h; exact h2 h))
  refine ⟨h.bt.other hg (fun k e => ?_), h.tab.grown hg (fun e => ?_), h.base0, Nat.le_trans h.basew hg.size, key h.spb (by decide) (by decide), h.sps.kept (fun b cs t fr e ht => key e (by rcases ht with rfl | rfl <;> decide) (by rcases ht with rfl | rfl <;> decide)), key h.fnb (by decide) (by decide), key h.bb (by decide) (by decide), Nm.kept h.dirn (fun b cs fr e => key e (by decide) (by decide)), h.nodup, h.notin, h.data, h.short, h.len, h.sbl⟩
  · obtain ⟨_, cs', t', fr', e3, ht⟩ := hr k e
    obtain ⟨v', cs, hrg, _⟩ := h.bt.ex
    refine ⟨typed_ne e3 hrg (by rcases ht with rfl | rfl <;> decide), fun ⟨cs, fr, e4⟩ => ?_, fun ⟨cs, fr, e4⟩ => ?_⟩
    · rw [e3] at e4; cases e4; rcases ht with h | h <;> cases h
    · rw [e3] at e4; cases e4; rcases ht with h | h <;> cases h
  · have := (hr 0 e.symm).1
    omega
theorem info114h : ∃ i z, Hid (Tryz.prog.info? 114 = some i) ∧ Hid (i.size = 34) ∧ Hid (i.bytes = 56) ∧ Hid (i.zero = some z) ∧ Hid (z.cells.size = 34) := by
  have h : (Tryz.prog.info? 114).map (fun i => (i.size, i.bytes, i.zero.map (·.cells.size))) = some (34, 56, some 34) := by kernel_rfl
  cases hi : Tryz.prog.info? 114 with
  | none => rw [hi] at h; cases h
  | some i =>
    rw [hi] at h
    simp only [Option.map_some, Option.some.injEq, Prod.mk.injEq] at h
    obtain ⟨h1, h2, h3⟩ := h
    cases hz : i.zero with
    | none => rw [hz] at h3; cases h3
    | some z =>
      rw [hz] at h3
      simp at h3
      exact ⟨i, z, rfl, h1, h2, hz, h3⟩
/-- the digest is stored into the item -/
theorem AR.store {w : World} {base g sb ab cb : Nat} {L : List (List Nat)} {dirv : Value} {dir : List Vp.Str} {sp : List Spot} {k : Nat} {Z : List Value} {items : List Nd.It} {nm : ByteArray} {kd : Int} {ib : Nat} {D : List Nat} {Lc : List (List Nat)} {rest : List Spot} {kk : Nat} {D0 D1 : List Nat} {W W' : World} (h : AR w base g sb ab cb L dirv dir sp k Z items nm kd ib D Lc rest kk D0 W) (hr : Row W' ib (Nd.It.cells ⟨nm, kd, D1⟩) 114) (hg : W.grownBy W' (some ib)) : AR w base g sb ab cb L dirv dir sp k Z items nm kd ib D Lc rest kk D1 W' := by
  obtain ⟨v, hnr, hno⟩ := h.nd
  obtain ⟨sv, had⟩ := h.ad
  have hi := h.ibl
  have hnr' : Row W' (w.heap.size + 1) [.int .i64 3, .string ⟨#[]⟩, .int .i64 0, .slice none 0 0, v] 108 := hnr.grown hg (fun e => by have := Option.some.inj e; omega)
  refine ⟨h.eqn, h.fuel, h.fuelk, h.suff, h.lenc, h.res.grown hg (fun e => by have := Option.some.inj e; omega), ⟨v, hnr', own_grown hno hg (fun k e => ?_)⟩, h.iok, h.ilen, ⟨sv, had.items hg (fun k e => ?_)⟩, h.fr.of_new hg (by omega) h.gw, h.gw, hr, hi, fun v2 hv2 => ?_, h.dg, h.kd3, h.nms⟩
  · obtain rfl := Option.some.inj e
    exact h.iba v hnr
  · obtain rfl := Option.some.inj e
    exact ⟨by omega, _, _, _, h.item, .inl rfl⟩
  · have e : v2 = v := by
      unfold Row at hv2 hnr'
      rw [hnr'] at hv2
      simpa using hv2.symm
    subst e
    exact h.iba _ hnr
/-- the item is appended -/
theorem AR.app {w : World} {base g sb ab cb : Nat} {L : List (List Nat)} {dirv : Value} {dir : List Vp.Str} {sp : List Spot} {k : Nat} {Z : List Value} {items : List Nd.It} {nm : ByteArray} {kd : Int} {ib : Nat} {D : List Nat} {Lc : List (List Nat)} {rest : List Spot} {kk : Nat} {W : World} (h : AR w base g sb ab cb L dirv dir sp k Z items nm kd ib D Lc rest kk D W) :
    ∃ q c, Row W (w.heap.size + 1) [.int .i64 3, .string ⟨#[]⟩, .int .i64 0, .slice none 0 0, .slice q items.length c] 108 ∧ (W.alloc (.cells (Nd.It.cells ⟨nm, kd, D⟩).toArray 114)).ownsRow (w.heap.size + 2) 114 34 (.slice q items.length c) items.length (items.map Nd.It.cells).flatten ∧
      ∀ v2 w2, w2.ownsRow (w.heap.size + 2) 114 34 v2 (items.length + 1) ((items.map Nd.It.cells).flatten ++ Nd.It.cells ⟨nm, kd, D⟩) → (W.alloc (.cells (Nd.It.cells ⟨nm, kd, D⟩).toArray 114)).grownBy w2 (Value.slice q items.length c).ownBlock →
        Row w2 (w.heap.size + 1) [.int .i64 3, .string ⟨#[]⟩, .int .i64 0, .slice none 0 0, .slice q items.length c] 108 ∧ AI w base g sb ab cb L dirv dir sp k Z rest (items ++ [⟨nm, kd, D⟩]) Lc kk (w2.setCell ⟨w.heap.size + 1, 4, none⟩ v2) := by
  obtain ⟨v, hnr, hno⟩ := h.nd
  obtain ⟨sv, had⟩ := h.ad
  obtain ⟨q, c, rfl⟩ := own_shape hno
  have hba : Below W.heap.size W (W.alloc (.cells (Nd.It.cells ⟨nm, kd, D⟩).toArray 114)) := (Below.refl _ _).alloc (Nat.le_refl _) _
  have hoa := own_grown hno (grown_of_below hba) (fun k e => by cases e)
  refine ⟨q, c, hnr, hoa, fun v2 w2 ho2 hg2 => ?_⟩
  have hob : ∀ k, (Value.slice q items.length c).ownBlock = some k → w.heap.size + 2 ≤ k ∧ ∃ cs fr, (W.alloc (.cells (Nd.It.cells ⟨nm, kd, D⟩).toArray 114)).heap[k]? = some (.cells cs 114 fr) := fun k e => own_block hoa k e
  have hnr2 : Row w2 (w.heap.size + 1) [.int .i64 3, .string ⟨#[]⟩, .int .i64 0, .slice none 0 0, .slice q items.length c] 108 := (hnr.alloc _).grown hg2 (fun e => by have := (hob _ e.symm).1; omega)
  have hres2 : Row w2 w.heap.size Z 30 := (h.res.alloc _).grown hg2 (fun e => by have := (hob _ e.symm).1; omega)
  have had2 := (had.below hba).items hg2 (fun k e => by
    obtain ⟨h1, cs, fr, h2⟩ := hob k e
    exact ⟨by omega, cs, 114, fr, h2, .inl rfl⟩)
  have hgs := grownBy_setCell w2 ⟨w.heap.size + 1, 4, none⟩ v2
  have hfa : Fr (· = sb) g w (W.alloc (.cells (Nd.It.cells ⟨nm, kd, D⟩).toArray 114)) := h.fr.trans (Fr.of_below hba had.bt.lt)
  have hf2 : Fr (· = sb) g w w2 := by
    cases hq : (Value.slice q items.length c).ownBlock with
    | none =>
      rw [hq] at hg2
      exact hfa.trans (Fr.of_below ⟨hg2.os, hg2.tape, hg2.output, hg2.size, fun k hk => hg2.block k hk (by simp)⟩ (Nat.lt_of_lt_of_le h.gw hfa.size))
    | some k =>
      have h1 := (hob k hq).1
      rw [hq] at hg2
      exact hfa.of_new hg2 (by omega) h.gw
  refine ⟨hnr2, h.eqn, h.fuel, h.fuelk, h.suff, h.lenc, hres2.grown hgs (fun e => by have := Option.some.inj e; simp only at this; omega), ⟨v2, hnr2.set_same 4 v2, ?_⟩, ?_, (by have := h.ilen; simp; omega), ⟨sv, had2.items hgs (fun k e => ?_)⟩, hf2.of_new hgs (by simp) h.gw, h.gw⟩
  · have h3 := own_grown ho2 hgs (fun k e hk => by
      obtain rfl := Option.some.inj e
      have := (own_block ho2 _ hk).1
      simp only at this
      omega)
    rw [List.length_append, List.map_append, List.flatten_append]
    simpa using h3
  · intro x hx
    rcases List.mem_append.1 hx with hx | hx
    · exact h.iok x hx
    · simp at hx
      subst hx
      exact ⟨⟨h.dg, by rcases h.kd3 with rfl | rfl; exact Nd.i64_2; exact Nd.i64_3⟩, h.nms⟩
  · obtain rfl := Option.some.inj e
    exact ⟨by simp, _, _, _, hnr2, .inr rfl⟩
theorem ar_make {w wr w8 w9 : World} {base g sb ab cb : Nat} {L : List (List Nat)} {dirv : Value} {dir : List Vp.Str} {sp : List Spot} {k : Nat} {Z : List Value} {items : List Nd.It} {nm : ByteArray} {kd : Int} {ib : Nat} {D : List Nat} {Lc Bn : List (List Nat)} {s : Spot} {tl rest : List Spot} {kk : Nat} {u sv9 nv : Value}
    (hA : AI w base g sb ab cb L dirv dir sp k Z (s :: tl) items Lc kk wr) (hL : L.length + 18 * sp.length + 1 ≤ 1000000) (had : AD w8 base g sb ab cb (L ++ Lc) dirv dir u tl) (hres : Row w8 w.heap.size Z 30)
    (hnr : Row w8 (w.heap.size + 1) [.int .i64 3, .string ⟨#[]⟩, .int .i64 0, .slice none 0 0, nv] 108) (hno : w8.ownsRow (w.heap.size + 2) 114 34 nv items.length (items.map Nd.It.cells).flatten) (hfr : Fr (· = sb) g w w8)
    (hit : Row w8 ib (Nd.It.cells ⟨nm, kd, List.replicate 32 0⟩) 114) (hibl : w.heap.size + 2 ≤ ib) (hiba : nv.ownBlock ≠ some ib)
    (hf : Fr (· = sb) g w8 w9) (hbt : Bt w9 base g (L ++ Lc ++ Bn)) (hspb : Boxed w9 sb 86 sv9) (hsps : Sps w9 sv9 rest) (hsuf : rest <:+ tl) (hlen : Bn.length + 18 * rest.length ≤ 18 * tl.length + 18) (hfuel : rest.length < kk - 1)
    (heq : walkT kk dir (s :: tl) items = (Bn ++ (walkT (kk - 1) dir rest (items ++ [⟨nm, kd, D⟩])).1, (walkT (kk - 1) dir rest (items ++ [⟨nm, kd, D⟩])).2)) (hdg : Nd.Dg D) (hkd : kd = 2 ∨ kd = 3) (hnm : nm.size ≤ 9223372036854775807) :
    AR w base g sb ab cb L dirv dir sp k Z items nm kd ib D (Lc ++ Bn) rest (kk - 1) (List.replicate 32 0) w9 := by
  have hS : ∀ k, (fun x => x = sb) k → ∀ (cs : Array Value) (t : TypeId) (fr : Nat × Nat), w8.heap[k]? = some (.cells cs t fr) → t = 86 := by
    rintro k rfl cs t fr e
    have h1 := had.spb
    unfold Boxed at h1
    rw [h1] at e
    cases e; rfl
  have hne : ∀ {b : Nat} {cs : Array Value} {t : TypeId} {fr : Nat × Nat}, w8.heap[b]? = some (.cells cs t fr) → t ≠ 86 → ¬ (fun x => x = sb) b := fun e ht hb => ht (hS _ hb _ _ _ e)
  have h1 := hA.lenc
  have h2 := hA.ilen
  have h3 := hsuf.length_le
  simp only [List.length_cons] at h1 h2
  have hnr9 : Row w9 (w.heap.size + 1) _ 108 := hf.row had.bt hnr (by decide) (by decide) (hne hnr (by decide))
  refine ⟨by rw [hA.eqn, heq, List.append_assoc], hfuel, by have := hA.fuelk; omega, (hsuf.trans (List.suffix_cons s tl)).trans hA.suff, by simp; omega, hf.row had.bt hres (by decide) (by decide) (hne hres (by decide)), ⟨nv, hnr9, ?_⟩, hA.iok, by omega, ⟨sv9, ?_⟩, hfr.trans hf, hA.gw, hf.row had.bt hit (by decide) (by decide) (hne hit (by decide)), hibl, fun v hv => ?_, hdg, hkd, hnm⟩
  · refine ⟨hno.1, ?_⟩
    rcases hno.2 with h | ⟨g', cap, cur, e1, e2, e3, e4⟩
    · exact .inl h
    · exact .inr ⟨g', cap, cur, e1, e2, hf.typed had.bt e3 (by decide) (by decide) (hne e3 (by decide)), e4⟩
  · refine ⟨by rw [← List.append_assoc]; exact hbt, hf.tab had.bt had.tab had.base0 (fun k e => by have e' : k = sb := e; subst e'; have := had.sbl; have := had.base0; omega), had.base0, Nat.le_trans had.basew hf.size, hspb, hsps, hf.typed had.bt had.fnb (by decide) (by decide) (hne had.fnb (by decide)), hf.typed had.bt had.bb (by decide) (by decide) (hne had.bb (by decide)), Nm.kept had.dirn (fun b cs fr e => hf.typed had.bt e (by decide) (by decide) (hne e (by decide))), ?_, fun hm => had.notin ?_, fun t ht => had.data t (hsuf.subset ht), fun t ht => had.short t (hsuf.subset ht), by simp; omega, had.sbl⟩
    · exact (hsuf.sublist.map Spot.names).nodup had.nodup
    · obtain ⟨x, hx, e⟩ := List.mem_map.1 hm
      exact List.mem_map.2 ⟨x, hsuf.subset hx, e⟩
  · have e : v = nv := by
      unfold Row at hv hnr9
      rw [hnr9] at hv
      simpa using hv.symm
    subst e
    exact hiba
end Go.Proofs.YtamaejlbojbbeaaGreatDoor.Tr
