/-
  add: the blob of a node. What the document says of paths, over lists of bytes; small laws on strings. Which texts may be a path's, and which are names: the walks of the program's and of the reference's tests. The pieces of a text: what stands between its strokes. The walk of strings.Cut at one stroke. The iterator over a text's pieces, and what it hands to a loop.
-/
import Derived.Deep.CutRange
import Derived.Test.YtamaejlbojbbeaaGreatDoorRows
import Derived.WalkKit
import Derived.WalkSpells
import Derived.WalkLawsBesides
import Derived.Deep.Light
import Derived.Lib.Strings
import Derived.BigQuiet
import Derived.BigRegion
import Derived.Lib.Bytealg
import Derived.Lib.Walk
import Derived.Laws.Strings3
import Derived.Deep.Draws
import Derived.BigCall
import Derived.BigGuard
import Derived.RangeFuncNested
import Derived.RangeFuncBound
import Derived.RangeFuncCalls
import Derived.RangeFuncLeaves
import Derived.RangeFuncBox
import Derived.Shelf.Abstract
import Derived.OwnWalkIn
import Derived.TacticsInMore
import Derived.LoopNIn
import Derived.LoopIn
import Derived.Maps.AppendAt
import Derived.Test.YtamaejlbojbbeaaGreatDoorQ00
import Derived.Test.YtamaejlbojbbeaaGreatDoorQ01
import Derived.Test.YtamaejlbojbbeaaGreatDoorQ02
import Derived.Test.YtamaejlbojbbeaaGreatDoorQ03
import Derived.Test.YtamaejlbojbbeaaGreatDoorQ04
import Derived.Test.YtamaejlbojbbeaaGreatDoorQ05
import Derived.Test.YtamaejlbojbbeaaGreatDoorQ06
import Derived.Test.YtamaejlbojbbeaaGreatDoorQ07
import Derived.Test.YtamaejlbojbbeaaGreatDoorQ08
import Derived.Test.YtamaejlbojbbeaaGreatDoorQ09
import Derived.Test.YtamaejlbojbbeaaGreatDoorQ10
import Derived.Test.YtamaejlbojbbeaaGreatDoorQ11
import Derived.Test.YtamaejlbojbbeaaGreatDoorQ12
import Derived.Test.YtamaejlbojbbeaaGreatDoorQ13
namespace Go.Proofs.YtamaejlbojbbeaaGreatDoor.Tr
open Go.RowKit
open Sb (hid_in Row Sl T5 BL u8v Tab wp_world grownBy_setCell below_of_grown info39 one_u8 splice_all)
def okB (l : List Nd.It) (i : Nat) : Bool := match l[i]? with
  | none => true
  | some x => Nd.itemOk x && (i == 0 || match l[i - 1]? with
    | none => true
    | some y => !Nd.geS y.name x.name)
theorem okB_iff (l : List Nd.It) (i : Nat) : okB l i = true ↔ Nd.okAt l i := by
  unfold okB Nd.okAt
  cases h : l[i]? with
  | none => simp
  | some x =>
    cases h1 : l[i - 1]? with
    | none => simp
    | some y =>
      simp only [Bool.and_eq_true, Bool.or_eq_true, beq_iff_eq, Bool.not_eq_true', Option.some.injEq]
      constructor
      · rintro ⟨a, b⟩ z rfl
        refine ⟨a, fun h0 u hu => ?_⟩
        subst hu
        rcases b with b | b
        · omega
        · exact b
      · intro k
        obtain ⟨a, b⟩ := k x rfl
        refine ⟨a, ?_⟩
        rcases Nat.eq_zero_or_pos i with h0 | h0
        · exact .inl h0
        · exact .inr (b h0 y rfl)
def itemsB (l : List Nd.It) : Bool := decide (l.length ≤ 64) && (List.range l.length).all (okB l)
theorem itemsB_iff (l : List Nd.It) : itemsB l = true ↔ Nd.itemsOk l := by
  unfold itemsB Nd.itemsOk
  simp only [Bool.and_eq_true, decide_eq_true_eq, List.all_eq_true, List.mem_range, okB_iff]
def rightB (n : Nd.Nd) : Bool :=
  (n.kind == 1 && decide (0 < n.data.size) && decide (n.data.size ≤ 64) && n.size == 0 && n.parts.isEmpty && n.items.isEmpty) ||
  (n.kind == 2 && n.data.size == 0 && decide (0 ≤ n.size) && decide (n.size ≤ 1024) && n.parts.length == Nd.pieces n.size && n.items.isEmpty) ||
  (n.kind == 3 && n.data.size == 0 && n.size == 0 && n.parts.isEmpty && itemsB n.items)
theorem rightB_iff (n : Nd.Nd) : rightB n = true ↔ Nd.right n := by
  unfold rightB Nd.right
  simp only [Bool.or_eq_true, Bool.and_eq_true, beq_iff_eq, decide_eq_true_eq, List.isEmpty_iff, itemsB_iff, and_assoc, or_assoc]
  exact Iff.rfl
/-- a node's bytes; none, if it isn't right -/
def encB (n : Nd.Nd) : List Nat := if rightB n = true then Nd.enc n else []
theorem encB_yes {n : Nd.Nd} (h : Nd.right n) : encB n = Nd.enc n := by unfold encB; rw [if_pos ((rightB_iff n).2 h)]
theorem encB_no {n : Nd.Nd} (h : ¬ Nd.right n) : encB n = [] := by unfold encB; rw [if_neg (fun e => h ((rightB_iff n).1 e))]
theorem info51h : ∃ i z, Hid (Tryz.prog.info? 51 = some i) ∧ Hid (i.size = 1) ∧ Hid (i.bytes = 24) ∧ Hid (i.zero = some z) ∧ Hid (z.cells.size = 1) := by
  have h : (Tryz.prog.info? 51).map (fun i => (i.size, i.bytes, i.zero.map (·.cells.size))) = some (1, 24, some 1) := by kernel_rfl
  cases hi : Tryz.prog.info? 51 with
  | none => rw [hi] at h; cases h
  | some i =>
    rw [hi] at h
    simp only [Option.map_some, Option.some.injEq, Prod.mk.injEq] at h
    obtain ⟨h1, h2, h3⟩ := h
    cases hz : i.zero with
    | none => rw [hz] at h3; cases h3
    | some z =>
      rw [hz] at h3
      simp at h3
      exact ⟨i, z, rfl, h1, h2, hz, h3⟩
theorem own_shape {w : World} {base n size : Nat} {e : TypeId} {v : Value} {xs : List Value} (h : w.ownsRow base e size v n xs) : ∃ q c, v = .slice q n c := by
  rcases h.2 with ⟨rfl, h0⟩ | ⟨g', cap, cur, rfl, _⟩
  · exact ⟨none, 0, by rw [h0]⟩
  · exact ⟨_, _, rfl⟩
/-- what the bytes of a node are in memory -/
def Enc (w1 : World) (base : Nat) (u : Value) (bs : List Nat) : Prop := ∃ p c b, u = .slice p bs.length c ∧ Sl w1 p bs c b 0 ∧ (p = none → bs.length = 0 ∧ c = 0) ∧ base ≤ b ∧ (0 < bs.length → T5 w1 b)
theorem encB_len {n : Nd.Nd} (h : n.ok) : (encB n).length ≤ 4096 := by
  by_cases hr : Nd.right n
  · rw [encB_yes hr]; exact Nd.enc_len hr h
  · rw [encB_no hr]; simp
theorem encode_v (w : World) (v : Value) (n : Nd.Nd) (h : Nd.IsN w v n) (hs : n.short) :
    Calls Tryz.prog 156 #[v] w fun e w' => (∃ u k, e = .returned (.tuple #[u, .int .i64 k]) ∧ Enc w' w.heap.size u (encB n)) ∧ Below w.heap.size w w' := by
  refine (Nd.encode_any w v n h hs).mono ?_
  rintro e w' ⟨⟨u, k, rfl, hk⟩, hb⟩
  refine ⟨⟨u, k, rfl, ?_⟩, hb⟩
  rcases hk with ⟨_, hr, ho⟩ | ⟨_, hr, rfl⟩
  · rw [encB_yes hr]
    obtain ⟨p, c, b, h1, h2, h3, h4, h5⟩ := Sb.own_sl (Nd.enc_lt hr h.ok) ho
    exact ⟨p, c, b, h1, h2, h3, h4, h5⟩
  · rw [encB_no hr]
    exact ⟨none, 0, w.heap.size, rfl, ⟨by simp, by simp, by omega, fun h => by simp at h, fun j hj => by simp at hj⟩, fun _ => ⟨rfl, rfl⟩, Nat.le_refl _, fun h => by simp at h⟩
set_option maxHeartbeats 2000000 in
set_option maxRecDepth 100000 in
theorem add_any (w : World) (base g : Nat) (L : List (List Nat)) (v : Value) (n : Nd.Nd) (hB : Bt w base g L) (htab : Tab w) (hn : Nd.IsN w v n) (hs : n.short) (hlen : L.length ≤ 100000000) (V : List Value) (HV : Hid (V = (Sb.Sha.sum (encB n)).map u8v)) (hbase : base ≤ w.heap.size) (hb0 : 0 < base) :
    Calls Tryz.prog 97 #[.pointer (some ⟨g, 0, none⟩), v] w fun e w' => e = .returned (.agg V.toArray) ∧ Bt w' base g (L ++ [encB n]) ∧ Fr (fun _ => False) g w w' := by
  obtain ⟨vp, vi, hv, _, _⟩ := hn.ex
  obtain ⟨pp, cp, pi, ci, hform⟩ := hn.form
  rw [hv] at hform
  simp only [Value.agg.injEq, Array.mk.injEq, List.cons.injEq, and_true, true_and] at hform
  obtain ⟨rfl, rfl⟩ := hform
  have HE := hid_in (fun W (hW : Below w.heap.size w W) => encode_v W v n (hn.below hW) hs)
  rw [hv] at HE ⊢
  obtain ⟨Z, hz, hzl⟩ := Sb.zero39
  obtain ⟨i51, z51, hi51, hs51, hb51, hz51, hzc51⟩ := info51h
  have HZL := hid_in hzl
  have HBT := hid_in hB
  have HT := hid_in htab
  have HLEN := hid_in hlen
  have HBS := hid_in (encB_len hn.ok)
  have HBASE := hid_in hbase
  have HB0 := hid_in hb0
  have HBG := hid_in hB.le
  have hvl : V.length = 32 := by rw [HV.out, List.length_map, Sb.sum_length]
  have HVL := hid_in hvl
  have HV1 : Hid (∀ v ∈ V, v.oneCell' = true) := by show ∀ v ∈ V, _; rw [HV.out]; exact one_u8 _
  obtain ⟨W1, HW1⟩ : ∃ W1, Hid ((w.alloc (.cells #[.int .i64 n.kind, .string n.data, .int .i64 n.size, .slice pp n.parts.length cp, .slice pi n.items.length ci] 108)).alloc (.cells Z.toArray 30) = W1) := ⟨_, hid_in rfl⟩
  have HRN : Hid (Row W1 w.heap.size [.int .i64 n.kind, .string n.data, .int .i64 n.size, .slice pp n.parts.length cp, .slice pi n.items.length ci] 108) := by show Row _ _ _ _; rw [← HW1.out]; exact (Row.new w _ 108).alloc _
  have HRZ : Hid (Row W1 (w.heap.size + 1) Z 30) := by show Row _ _ _ _; rw [← HW1.out]; exact Row.newAt _ _ Z 30 (by simp)
  have HB1 : Hid (Below w.heap.size w W1) := by show Below _ _ _; rw [← HW1.out]; exact ((Below.refl _ _).alloc (Nat.le_refl _) _).alloc (by simp) _
  have HZ1 : Hid (W1.heap.size = w.heap.size + 2) := by show _ = _; rw [← HW1.out]; simp
  have c0 : W1.cell? ⟨w.heap.size, 0, none⟩ = some (.int .i64 n.kind) := HRN.out.cell 0
  have c1 : W1.cell? ⟨w.heap.size, 1, none⟩ = some (.string n.data) := HRN.out.cell 1
  have c2 : W1.cell? ⟨w.heap.size, 2, none⟩ = some (.int .i64 n.size) := HRN.out.cell 2
  have c3 : W1.cell? ⟨w.heap.size, 3, none⟩ = some (.slice pp n.parts.length cp) := HRN.out.cell 3
  have c4 : W1.cell? ⟨w.heap.size, 4, none⟩ = some (.slice pi n.items.length ci) := HRN.out.cell 4
  clear hn hv hs hzl hB htab hlen hvl hbase hb0
  go_enter Tryz.func97, Tryz.ntmps97
  go_upto_region 1 with fail
  refine wp_world HW1.out ?_
  clear HW1
  go_upto_region 2 with (go_at_call 156; refine (HE.out W1 HB1.out).mono ?_; rintro e w1 ⟨⟨u, k, rfl, hu⟩, hb1⟩)
  have HB01 := hid_in (HB1.out.trans (hb1.mono HB1.out.size))
  have HRZ1 := hid_in (HRZ.out.below hb1 HRZ.out.lt)
  have HBT1 := hid_in (HBT.out.below HB01.out)
  have HT1 := hid_in (HT.out.below HB01.out HT.out.pos)
  have HGL := hid_in HBT.out.lt
  have HSZ1 := hid_in hb1.size
  obtain ⟨v0, cs, hrow, hown, hall⟩ := HBT1.out.ex
  obtain ⟨p, c, b, rfl, hsl, hpn, hbb, ht5⟩ := hu
  obtain ⟨bs, Hbs⟩ : ∃ bs, Hid (encB n = bs) := ⟨_, hid_in rfl⟩
  rw [Hbs.out] at hsl hpn ht5 HV HBS ⊢
  obtain ⟨bn, Hbn⟩ : ∃ bn, Hid (bs.length = bn) := ⟨_, hid_in rfl⟩
  have HU : Hid (Sl w1 p bs c b 0 ∧ (p = none → bs.length = 0 ∧ c = 0) ∧ (0 < bs.length → T5 w1 b)) := ⟨hsl, hpn, ht5⟩
  clear hsl hpn ht5 hbb hb1 HRZ HBT HE c0 c1 c2 c3 c4 HRN
  rw [Hbn.out]
  obtain ⟨q, cq, rfl⟩ := own_shape hown
  obtain ⟨ln, Hln⟩ : ∃ ln, Hid (L.length = ln) := ⟨_, hid_in rfl⟩
  rw [Hln.out] at hrow hown
  have HROW := hid_in hrow
  have HOWN := hid_in hown
  have HALL := hid_in hall
  have cg : w1.cell? ⟨g, 0, none⟩ = some (.slice q ln cq) := hrow.cell 0
  have hgl := hrow.lt
  clear hrow hown hall
  have HGB := hid_in (grown_of_below ((Below.refl w1.heap.size w1).alloc (Nat.le_refl _) (.cells #[.slice p bn c] 51)))
  have HOA := hid_in (World.ownsRow.kept HOWN.out HGB.out (by rcases HOWN.out.2 with ⟨h, _⟩ | ⟨g', cap, cur, h, _⟩ <;> rw [h]; exact .inl rfl; exact .inr (by simp [Value.ownBlock])))
  have HNW : Hid (∀ (j : Nat) u, [Value.slice p bn c][j]? = some u → (w1.alloc (.cells #[.slice p bn c] 51)).cell? ((⟨w1.heap.size, 0, none⟩ : Addr).add j) = some u) := by
    intro j u hj
    rcases j with _ | j
    · simp only [List.getElem?_cons_zero, Option.some.injEq] at hj
      subst hj
      rw [Addr.add_mid]
      exact (Row.new w1 [.slice p bn c] 51).cell 0
    · simp at hj
  have H1 : Hid (∀ u ∈ [Value.slice p bn c], u.oneCell' = true) := by intro u hu; simp at hu; subst hu; rfl
  have H63 : Hid (ln + 1 ≤ maxLen) := by show _ ≤ _; have := HLEN.out; rw [Hln.out] at this; unfold maxLen; omega
  have HBY : Hid ((ln + 1) * 24 ≤ 140737488355328) := by show _ ≤ _; have := HLEN.out; rw [Hln.out] at this; omega
  have HBA : Hid (base ≤ (w1.alloc (.cells #[.slice p bn c] 51)).heap.size) := by show _ ≤ _; have := HBASE.out; have := HB01.out.size; simp; omega
  have HS2 : Hid (∀ v' w', w'.ownsRow base 51 1 v' (ln + 1) (cs ++ [.slice p bn c]) → (w1.alloc (.cells #[.slice p bn c] 51)).grownBy w' (Value.slice q ln cq).ownBlock → Row w' g [.slice q ln cq] 97) := by
    intro v' w' _ hg
    exact (HROW.out.alloc _).grown hg (fun e => by
      obtain ⟨_, cs', fr, h2⟩ := own51 HOA.out g e.symm
      rw [show (w1.alloc _).heap[g]? = _ from HROW.out.alloc _] at h2; cases h2)
  have HSUM : Hid (∀ W, Tab W → Sl W p bs c b 0 → Calls Tryz.prog 65 #[.slice p bn c] W fun e w' => e = .returned (.agg V.toArray) ∧ Below W.heap.size W w') := by
    intro W h1 h2
    rw [← Hbn.out]
    exact Sb.sum_V bs V HV p b 0 c W h1 h2 (by have := HBS.out; omega)
  have HFR : Hid (∀ w2 v2, Row w2 g [.slice q ln cq] 97 → (w1.alloc (.cells #[.slice p bn c] 51)).grownBy w2 (Value.slice q ln cq).ownBlock → (v2.ownBlock = (Value.slice q ln cq).ownBlock ∨ v2.ownBlock = some (w1.alloc (.cells #[.slice p bn c] 51)).heap.size) → Fr (fun _ => False) g w1 (w2.setCell ⟨g, 0, none⟩ v2)) := by
    intro w2 v2 hr2 hg hlie
    have gs := grownBy_setCell w2 ⟨g, 0, none⟩ v2
    have hsz : w1.heap.size ≤ (w1.alloc (.cells #[.slice p bn c] 51)).heap.size := by simp
    refine ⟨gs.os.trans hg.os, gs.tape.trans hg.tape, gs.output.trans hg.output, Nat.le_trans hsz (Nat.le_trans hg.size gs.size), fun k hk _ hkg hno => ?_, fun k hk e => ?_⟩
    · rw [gs.block k (Nat.lt_of_lt_of_le hk (Nat.le_trans hsz hg.size)) (fun e => hkg (Option.some.inj e)), hg.block k (Nat.lt_of_lt_of_le hk hsz) (fun e => hno ⟨_, HROW.out, e.symm⟩)]
      exact Below.heap_alloc _ _ _ hk
    · obtain ⟨v', h1, h2⟩ := e
      have h3 := row_one (hr2.set_same 0 v2) h1
      subst h3
      rcases hlie with h | h
      · exact ⟨_, HROW.out, h ▸ h2⟩
      · rw [h] at h2
        have := Option.some.inj h2
        omega
  have HSL3 : Hid (∀ w3, Fr (fun _ => False) g w1 w3 → Sl w3 p bs c b 0 ∧ (0 < bs.length → T5 w3 b)) := by
    intro w3 hf
    exact hf.sl HBT1.out HU.out.1 HU.out.2.2 (fun k e => e.elim)
  go_wp2_with (first | (at_builtin; refine wpList_append_own_at _ rfl _ _ 95 rfl base 51 i51 z51 1 24 Tryz.underlying95 hi51.out hz51.out hs51.out hb51.out hzc51.out (by decide) _ ln cs rfl HOA.out ⟨w1.heap.size, 0, none⟩ 1 1 [.slice p bn c] rfl rfl HNW.out H1.out H63.out HBY.out HBA.out ?_; intro v2 w2 hown2 hg2 _ hlie2; have HLIE2 := hid_in hlie2; clear hlie2; obtain ⟨q2, cq2, rfl⟩ := own_shape hown2; have hr2 := HS2.out _ w2 hown2 hg2; have cg2 := hr2.cell 0; have fg2 := hr2.frozen 0; simp only [List.getElem?_cons_zero] at cg2; have HR2 := hid_in hr2; have HOWN2 := hid_in hown2; have HG2 := hid_in hg2; clear hr2 hown2 hg2) | (go_at_call 65; have HF3 := hid_in (HFR.out _ _ HR2.out HG2.out HLIE2.out); have HL3 := hid_in (HSL3.out _ HF3.out); have HT3 := hid_in (HF3.out.tab HBT1.out HT1.out HB0.out (fun k e => e.elim)); refine (HSUM.out _ HT3.out HL3.out.1).mono ?_; rintro e w4 ⟨rfl, hb4⟩; have hrz4 := (HF3.out.row HBT1.out HRZ1.out (by decide) (by decide) (fun e => e.elim)).below hb4 (HF3.out.row HBT1.out HRZ1.out (by decide) (by decide) (fun e => e.elim)).lt; have HB4 := hid_in hb4; have HRZ4 := hid_in hrz4; clear hb4) | (refine Sb.wpList_store_Row rfl 30 _ _ rfl (w.heap.size + 1) 0 V rfl rfl 30 Z hrz4 32 info39 HVL.out (by rw [HZL.out]; decide) HV1.out ?_; intro w5 hr5 hg5 hs5; rw [splice_all _ _ (by rw [HVL.out, HZL.out])] at hr5))
  have hB3 : Bt (w2.setCell ⟨g, 0, none⟩ (.slice q2 (ln + 1) cq2)) base g (L ++ [bs]) := by
    have h51 : (some g : Option Nat) ≠ (Value.slice q2 (ln + 1) cq2).ownBlock := fun e => by
      obtain ⟨_, cs', fr, h2⟩ := own51 HOWN2.out g e.symm
      rw [show w2.heap[g]? = _ from HR2.out] at h2; cases h2
    refine ⟨HBG.out, _, cs ++ [.slice p bn c], HR2.out.set_same 0 _, ?_, fun i x hi => ?_⟩
    · have h3 := World.ownsRow.kept HOWN2.out (grownBy_setCell w2 ⟨g, 0, none⟩ (.slice q2 (ln + 1) cq2)) (.inr h51.symm)
      rw [show (L ++ [bs]).length = ln + 1 by rw [List.length_append, Hln.out]; rfl]
      exact h3
    · have hcl : cs.length = ln := by simpa using HOWN.out.1
      rcases Nat.lt_or_ge i L.length with h | h
      · rw [List.getElem?_append_left h] at hi
        obtain ⟨pi, ci, bi, oi, e1, e2, e3, e4⟩ := HALL.out i x hi
        obtain ⟨e5, e6⟩ := HF3.out.sl HBT1.out e2 e4 (fun k e => e.elim)
        exact ⟨pi, ci, bi, oi, by rw [List.getElem?_append_left (by rw [hcl, ← Hln.out]; exact h)]; exact e1, e5, e3, e6⟩
      · rw [List.getElem?_append_right h] at hi
        have h0 : i - L.length = 0 := by
          have := (List.getElem?_eq_some_iff.1 hi).1
          simp at this; omega
        have hi2 : i = ln := by rw [← Hln.out]; omega
        rw [h0] at hi
        simp only [List.getElem?_cons_zero, Option.some.injEq] at hi
        subst hi
        exact ⟨p, c, b, 0, by rw [List.getElem?_append_right (by omega), hi2, hcl, Nat.sub_self, Hbn.out]; rfl, HL3.out.1, HU.out.2.1, HL3.out.2⟩
  have hne : w.heap.size + 1 ≠ g := by have := HGL.out; omega
  have hB5 : Bt w5 base g (L ++ [encB n]) := by
    rw [Hbs.out]
    refine (hB3.below HB4.out).other hg5 (fun k e => ?_)
    obtain rfl := Option.some.inj e
    exact ⟨hne, not51 HRZ4.out (by decide), not5_97 HRZ4.out (by decide)⟩
  refine Sb.post_Row 4 30 rfl (w.heap.size + 1) rfl 30 V hr5 _ Tryz.underlying30 rfl 32 info39 HVL.out rfl ⟨rfl, hB5, ?_⟩
  · have f1 : Fr (fun _ => False) g w w4 := (Fr.of_below HB01.out HGL.out).trans (HF3.out.trans (Fr.of_below HB4.out (Nat.lt_of_lt_of_le (Nat.lt_of_lt_of_le HGL.out HB01.out.size) HF3.out.size)))
    exact f1.of_new hg5 (by omega) HGL.out
end Go.Proofs.YtamaejlbojbbeaaGreatDoor.Tr
namespace Go.Proofs.YtamaejlbojbbeaaGreatDoor.Vp
open Go.RowKit
theorem hid_in {p : Prop} (h : p) : Hid p := h
/-- a text's bytes -/
abbrev Str := List UInt8
/-- a text as the program has it -/
def B (x : Str) : ByteArray := ⟨x.toArray⟩
def bl (s : ByteArray) : Str := s.data.toList
theorem B_bl (s : ByteArray) : B (bl s) = s := by cases s; simp [B, bl]
theorem bl_B (x : Str) : bl (B x) = x := by simp [B, bl]
theorem bl_length (s : ByteArray) : (bl s).length = s.size := by simp only [bl, Array.length_toList]; rfl
theorem B_size (x : Str) : (B x).size = x.length := by rw [← bl_length, bl_B]
/-- may a byte stand in a name? -/
def plainN (n : Nat) : Prop := (97 ≤ n ∧ n ≤ 122) ∨ (65 ≤ n ∧ n ≤ 90) ∨ (48 ≤ n ∧ n ≤ 57) ∨ n = 46 ∨ n = 95 ∨ n = 45
instance (n : Nat) : Decidable (plainN n) := by unfold plainN; infer_instance
def kindN (n : Nat) : Int := if plainN n then 2 else if n = 47 then 1 else 0
/-- may a byte stand in a name? -/
def plain (c : UInt8) : Bool := decide (plainN c.toNat)
theorem index_str (s : ByteArray) (j : Nat) (c : UInt8) (hj : (bl s)[j]? = some c) (k : Int) (hk : k = (j : Int)) (w : World) : (Instr.index 9 (.string s) (.int .i64 k)).run Tryz.prog w = .ok (.int .u8 (c.toNat : Int)) w := by
  subst hk
  have hlt : j < s.size := by rw [← bl_length]; exact (List.getElem?_eq_some_iff.1 hj).1
  have hs : s[j]? = some s[j] := by simp [hlt]
  have hb : s[j] = c := by
    have h1 : j < s.data.size := hlt
    simp only [bl, Array.getElem?_toList, Array.getElem?_eq_getElem h1, Option.some.injEq] at hj
    exact hj
  simp [Instr.index, asIntOf, run_underlying Tryz.underlying9, hs, hb]
set_option maxHeartbeats 400000 in
set_option maxRecDepth 100000 in
theorem kind_any (n : Nat) (w : World) : Calls Tryz.prog 176 #[.int .u8 (n : Int)] w fun e w' => e = .returned (.int .i64 (kindN n)) ∧ w' = w := by
  obtain ⟨K, hK⟩ : ∃ K, Hid (K = kindN n) := ⟨_, rfl⟩
  rw [← hK.out]
  go_enter Tryz.func176, Tryz.ntmps176
  go_wp2
  all_goals
    go_ret
    refine ⟨congrArg (fun z => Ending.returned (Value.int .i64 z)) (Eq.trans ?_ hK.out.symm), rfl⟩
    try simp only [beq_iff_eq, beq_eq_false_iff_ne, ne_eq] at *
    unfold kindN
    first
      | (rw [if_pos (by unfold plainN; omega)])
      | (rw [if_neg (by unfold plainN; omega), if_pos (by omega)])
      | (rw [if_neg (by unfold plainN; omega), if_neg (by omega)])
end Go.Proofs.YtamaejlbojbbeaaGreatDoor.Vp
namespace Go.Proofs.YtamaejlbojbbeaaGreatDoor.Vp
open Go.RowKit
theorem all_snoc {p : UInt8 → Bool} {l : Str} {i : Nat} {c : UInt8} (hc : l[i]? = some c) (h : (l.take i).all p = true) (hp : p c = true) : (l.take (i + 1)).all p = true := by
  rw [List.take_add_one, hc]; simp [List.all_append, h, hp]
theorem all_no {p : UInt8 → Bool} {l : Str} {i : Nat} {c : UInt8} (hc : l[i]? = some c) (hp : p c = false) : l.all p = false := by
  rw [List.all_eq_false]
  exact ⟨c, List.mem_of_getElem? hc, by simp [hp]⟩
/-- a byte that a path's text may have -/
def okByte (c : UInt8) : Bool := plain c || c == 47
/-- a path's text: it begins with a stroke, and has no byte that it may not have -/
def isTextS (x : Str) : Bool := (match x with | [] => false | c :: _ => c == 47) && x.all okByte
def isNameS (x : Str) : Bool := !(x == []) && !(x == [46]) && !(x == [46, 46]) && decide (x.length ≤ 16) && x.all plain
theorem n47 : ¬ plainN 47 := by decide
theorem kind_zero (c : UInt8) : (kindN c.toNat == 0) = !okByte c := by
  unfold kindN okByte plain
  by_cases h : plainN c.toNat
  · simp [h]
  · by_cases h2 : c.toNat = 47
    · simp [n47, show c = 47 from UInt8.toNat.inj h2]
    · have : c ≠ 47 := fun e => h2 (by rw [e]; rfl)
      simp [h, h2, this]
theorem kind_two (c : UInt8) : (kindN c.toNat != 2) = !plain c := by
  unfold kindN plain
  by_cases h : plainN c.toNat
  · simp [h]
  · by_cases h2 : c.toNat = 47
    · simp [h2, n47]
    · simp [h, h2]
theorem kind_one (c : UInt8) : (kindN c.toNat != 1) = !(c == 47) := by
  unfold kindN
  by_cases h2 : c.toNat = 47
  · have hc : c = 47 := UInt8.toNat.inj h2
    simp [n47, hc]
  · have : c ≠ 47 := fun e => h2 (by rw [e]; rfl)
    by_cases h : plainN c.toNat
    · simp [h, this]
    · simp [h, h2, this]
theorem toL (x : Str) : (B x).toList = x := by rw [Lib.toList_data]; exact bl_B x
set_option maxHeartbeats 400000 in
set_option maxRecDepth 100000 in
theorem isText_any (x : Str) (hx : x.length ≤ 9223372036854775807) (w : World) : Calls Tryz.prog 138 #[.string (B x)] w fun e w' => e = .returned (.bool (isTextS x)) ∧ w' = w := by
  cases x with
  | nil =>
    have hT := toL []
    generalize B [] = s at hT ⊢
    go_enter Tryz.func138, Tryz.ntmps138
    go_wp2_with fail
    go_ret
    exact ⟨rfl, rfl⟩
  | cons c r =>
    have hsz : (B (c :: r)).size = (c :: r).length := B_size _
    have i0 := index_str (B (c :: r)) 0 c (by rw [bl_B]; rfl) 0 rfl
    have hix := fun (j : Nat) (d : UInt8) (hj : (c :: r)[j]? = some d) => index_str (B (c :: r)) j d (by rw [bl_B]; exact hj)
    have hT := toL (c :: r)
    have hk1 := kind_one c
    obtain ⟨R, hR⟩ : ∃ R, Hid (R = ((c == 47) && (c :: r).all okByte)) := ⟨_, rfl⟩
    have hR2 : isTextS (c :: r) = R := by rw [hR.out]; rfl
    rw [hR2]
    have HIX := hid_in hix
    have Hne : Hid (c :: r ≠ []) := by show _ ≠ _; simp
    clear hix hR2
    generalize B (c :: r) = s at hsz i0 HIX hT ⊢
    generalize hl : c :: r = l at hsz hT HIX hR hx Hne
    clear hl
    generalize hn : l.length = n at hsz hx
    have Hn := hid_in hn
    clear hn
    have hT2 : s.toList.isEmpty = false := by rw [hT]; simpa using Hne.out
    clear hT
    cases h47 : (c == 47)
    · rw [h47] at hk1
      have hk2 : (kindN c.toNat != 1) = true := hk1
      clear hk1
      have H47 := hid_in h47
      clear h47
      go_enter Tryz.func138, Tryz.ntmps138
      go_wp2_with (first | (go_at_call 176; refine (kind_any _ _).mono ?_; rintro e w' ⟨rfl, hw⟩; obtain rfl := hw.symm))
      go_ret
      refine ⟨congrArg (fun z => Ending.returned (Value.bool z)) (Eq.trans ?_ hR.out.symm), rfl⟩
      rw [H47.out]; rfl
    rw [h47] at hk1
    have hk2 : (kindN c.toNat != 1) = false := hk1
    clear hk1
    have H47 := hid_in h47
    clear h47
    go_enter Tryz.func138, Tryz.ntmps138
    go_wp2_with (first | (go_at_call 176; refine (kind_any _ _).mono ?_; rintro e w' ⟨rfl, hw⟩; obtain rfl := hw.symm))
    go_loopw [14] (fun vi w' => w' = w ∧ ∃ i : Nat, i ≤ n ∧ vi = .int .i64 (i : Int) ∧ Hid ((l.take i).all okByte = true)) (fun vi _ => n - (intOf vi).toNat)
    case atStart => exact ⟨rfl, 0, by omega, rfl, rfl⟩
    case round =>
      obtain ⟨rfl, i, hi, rfl, hall⟩ := hrel
      by_cases hlt : i < n
      · obtain ⟨d, hd⟩ : ∃ d, l[i]? = some d := ⟨_, List.getElem?_eq_getElem (by rw [Hn.out]; exact hlt)⟩
        have ix := HIX.out i d hd (i : Int) rfl
        cases hp : okByte d
        all_goals
          have kd := kind_zero d
          rw [hp] at kd
          try simp only [Bool.not_true, Bool.not_false] at kd
          have HP := hid_in hp
          clear hp
          have Hd := hid_in hd
          have Hl := hid_in hlt
          clear hd
          go_wp2_with (first | (go_at_call 176; refine (kind_any _ _).mono ?_; rintro e w' ⟨rfl, hw⟩; obtain rfl := hw.symm))
        · go_ret
          refine ⟨congrArg (fun z => Ending.returned (Value.bool z)) (Eq.trans ?_ hR.out.symm), rfl⟩
          rw [all_no Hd.out HP.out, Bool.and_false]
        · go_roundw
          case rel =>
            go_light
            exact ⟨trivial, i + 1, by omega, by go_num, all_snoc Hd.out hall.out HP.out⟩
          case measure => simp [intOf]; omega
      · have hin : i = n := by omega
        have hall2 : l.all okByte = true := by have := hall.out; rw [hin, ← Hn.out, List.take_length] at this; exact this
        clear hin
        go_wp2_with fail
        go_ret
        refine ⟨congrArg (fun z => Ending.returned (Value.bool z)) (Eq.trans ?_ hR.out.symm), rfl⟩
        rw [hall2, H47.out]; rfl
set_option maxHeartbeats 400000 in
set_option maxRecDepth 100000 in
theorem isName_any (x : Str) (hx : x.length ≤ 9223372036854775807) (w : World) : Calls Tryz.prog 208 #[.string (B x)] w fun e w' => e = .returned (.bool (isNameS x)) ∧ w' = w := by
  by_cases hbad : (x = [] ∨ x = [46] ∨ x = [46, 46]) ∨ 16 < x.length
  · have hT := toL x
    have hsz : (B x).size = x.length := B_size _
    have hR : Hid (isNameS x = false) := by
      show _ = _
      unfold isNameS
      rcases hbad with (rfl | rfl | rfl) | h
      · rfl
      · rfl
      · rfl
      · rw [decide_eq_false (by omega : ¬ x.length ≤ 16)]; simp
    rw [hR.out]
    have H16 : Hid (16 < x.length ∨ x.length ≤ 16) := by show _ ∨ _; omega
    generalize B x = s at hT hsz ⊢
    rcases hbad with (rfl | rfl | rfl) | h
    · go_enter Tryz.func208, Tryz.ntmps208
      go_wp2_with fail
      all_goals (go_ret; exact ⟨rfl, rfl⟩)
    · go_enter Tryz.func208, Tryz.ntmps208
      go_wp2_with fail
      all_goals (go_ret; exact ⟨rfl, rfl⟩)
    · go_enter Tryz.func208, Tryz.ntmps208
      go_wp2_with fail
      all_goals (go_ret; exact ⟨rfl, rfl⟩)
    · have e0 : (s.toList.isEmpty) = false := by rw [hT]; cases x <;> simp_all
      have e1 : (s.toList == [46]) = false := by rw [hT, beq_eq_false_iff_ne]; rintro rfl; simp at h
      have e2 : (s.toList == [46, 46]) = false := by rw [hT, beq_eq_false_iff_ne]; rintro rfl; simp at h
      have e3 : (s.toList = [46]) = False := by rw [hT]; simp only [eq_iff_iff, iff_false]; rintro rfl; simp at h
      have e4 : (s.toList = [46, 46]) = False := by rw [hT]; simp only [eq_iff_iff, iff_false]; rintro rfl; simp at h
      clear hT
      generalize x.length = n at *
      go_enter Tryz.func208, Tryz.ntmps208
      go_wp2_with fail
      all_goals (go_ret; exact ⟨rfl, rfl⟩)
  · have hb : (x ≠ [] ∧ x ≠ [46] ∧ x ≠ [46, 46]) ∧ x.length ≤ 16 := by
      refine ⟨⟨fun e => hbad (.inl (.inl e)), fun e => hbad (.inl (.inr (.inl e))), fun e => hbad (.inl (.inr (.inr e)))⟩, ?_⟩
      omega
    clear hbad
    obtain ⟨⟨b0, b1, b2⟩, b3⟩ := hb
    have hsz : (B x).size = x.length := B_size _
    have hix := fun (j : Nat) (d : UInt8) (hj : x[j]? = some d) => index_str (B x) j d (by rw [bl_B]; exact hj)
    have hT := toL x
    obtain ⟨R, hR⟩ : ∃ R, Hid (R = x.all plain) := ⟨_, rfl⟩
    have hR2 : isNameS x = R := by
      rw [hR.out]; unfold isNameS
      rw [beq_eq_false_iff_ne.2 b0, beq_eq_false_iff_ne.2 b1, beq_eq_false_iff_ne.2 b2, decide_eq_true b3]; simp
    rw [hR2]
    have HIX := hid_in hix
    clear hix hR2
    generalize B x = s at hsz HIX hT ⊢
    have e0 : (s.toList.isEmpty) = false := by rw [hT]; cases x <;> simp_all
    have e1 : (s.toList == [46]) = false := by rw [hT, beq_eq_false_iff_ne]; exact b1
    have e2 : (s.toList == [46, 46]) = false := by rw [hT, beq_eq_false_iff_ne]; exact b2
    have e3 : (s.toList = [46]) = False := by rw [hT]; simpa using b1
    have e4 : (s.toList = [46, 46]) = False := by rw [hT]; simpa using b2
    have h1 : 1 ≤ x.length := by cases x; exact absurd rfl b0; simp
    clear hT b0 b1 b2
    generalize hl : x = l at *
    clear hl
    generalize hn : l.length = n at hsz hx b3 h1
    have Hn := hid_in hn
    clear hn
    go_enter Tryz.func208, Tryz.ntmps208
    go_wp2_with fail
    go_loopw [21] (fun vi w' => w' = w ∧ ∃ i : Nat, i ≤ n ∧ vi = .int .i64 (i : Int) ∧ Hid ((l.take i).all plain = true)) (fun vi _ => n - (intOf vi).toNat)
    case atStart => exact ⟨rfl, 0, by omega, rfl, rfl⟩
    case round =>
      obtain ⟨rfl, i, hi, rfl, hall⟩ := hrel
      by_cases hlt : i < n
      · obtain ⟨d, hd⟩ : ∃ d, l[i]? = some d := ⟨_, List.getElem?_eq_getElem (by rw [Hn.out]; exact hlt)⟩
        have ix := HIX.out i d hd (i : Int) rfl
        cases hp : plain d
        all_goals
          have kd := kind_two d
          rw [hp] at kd
          try simp only [Bool.not_true, Bool.not_false] at kd
          have HP := hid_in hp
          clear hp
          have Hd := hid_in hd
          have Hl := hid_in hlt
          clear hd
          go_wp2_with (first | (go_at_call 176; refine (kind_any _ _).mono ?_; rintro e w' ⟨rfl, hw⟩; obtain rfl := hw.symm))
        · go_ret
          refine ⟨congrArg (fun z => Ending.returned (Value.bool z)) (Eq.trans ?_ hR.out.symm), rfl⟩
          exact (all_no Hd.out HP.out).symm
        · go_roundw
          case rel =>
            go_light
            exact ⟨trivial, i + 1, by omega, by go_num, all_snoc Hd.out hall.out HP.out⟩
          case measure => simp [intOf]; omega
      · have hin : i = n := by omega
        have hall2 : l.all plain = true := by have := hall.out; rw [hin, ← Hn.out, List.take_length] at this; exact this
        clear hin
        go_wp2_with fail
        go_ret
        refine ⟨congrArg (fun z => Ending.returned (Value.bool z)) (Eq.trans ?_ hR.out.symm), rfl⟩
        rw [hall2]
end Go.Proofs.YtamaejlbojbbeaaGreatDoor.Vp
namespace Go.Proofs.YtamaejlbojbbeaaGreatDoor.Vp
open Go.RowKit
/-- what stands ahead of the first stroke, what behind it, whether there is one -/
def cutS : Str → Str × Str × Bool
  | [] => ([], [], false)
  | c :: r => if c = 47 then ([], r, true) else (c :: (cutS r).1, (cutS r).2.1, (cutS r).2.2)
/-- what stands between the strokes, from the left, empty pieces too -/
def piecesS : Str → List Str
  | [] => [[]]
  | c :: r => if c = 47 then [] :: piecesS r else match piecesS r with
    | [] => [[c]]
    | p :: ps => (c :: p) :: ps
theorem pieces_cut (x : Str) : piecesS x = if (cutS x).2.2 then (cutS x).1 :: piecesS (cutS x).2.1 else [(cutS x).1] := by
  induction x with
  | nil => rfl
  | cons c r ih =>
    by_cases h : c = 47
    · simp [piecesS, cutS, h]
    · have e1 : piecesS (c :: r) = match piecesS r with | [] => [[c]] | p :: ps => (c :: p) :: ps := by rw [piecesS, if_neg h]
      have e2 : cutS (c :: r) = (c :: (cutS r).1, (cutS r).2.1, (cutS r).2.2) := by rw [cutS, if_neg h]
      rw [e1, e2, ih]
      by_cases h2 : (cutS r).2.2 = true
      · simp [h2]
      · simp [h2]
theorem cut_short (x : Str) (h : (cutS x).2.2 = true) : (cutS x).2.1.length < x.length := by
  induction x with
  | nil => simp [cutS] at h
  | cons c r ih =>
    unfold cutS at h ⊢
    by_cases h2 : c = 47
    · simp [h2]
    · simp only [h2, if_false] at h ⊢
      have := ih h
      simp; omega
theorem idx_cases (x : Str) : (Lib.indexByte x 47 = -1 ∧ cutS x = (x, [], false)) ∨ ∃ i : Nat, Lib.indexByte x 47 = (i : Int) ∧ i < x.length ∧ cutS x = (x.take i, x.drop (i + 1), true) := by
  induction x with
  | nil => exact .inl ⟨rfl, rfl⟩
  | cons c r ih =>
    unfold Lib.indexByte cutS
    by_cases h : c = 47
    · exact .inr ⟨0, by simp [h], by simp, by simp [h]⟩
    · rcases ih with ⟨h1, h2⟩ | ⟨i, h1, hi, h2⟩
      · exact .inl ⟨by simp [h, h1], by simp [h, h2]⟩
      · refine .inr ⟨i + 1, ?_, by simp; omega, by simp [h, h2]⟩
        rw [h1]
        have : ¬ ((i : Int) = -1) := by omega
        simp [h, this]
theorem extract_B (x : Str) (a b : Nat) : (B x).extract a b = B ((x.take b).drop a) := by
  refine ByteArray.ext ?_
  rw [ByteArray.data_extract]
  apply Array.toList_inj.1
  simp [B, List.drop_take]
set_option maxHeartbeats 400000 in
set_option maxRecDepth 100000 in
theorem indexByte_any (s : ByteArray) (c : Int) (w : World) : Calls Tryz.prog 217 #[.string s, .int .u8 c] w fun e w' => e = .returned (.int .i64 (Lib.indexByte s.data.toList c.toNat.toUInt8)) ∧ w' = w := by
  go_enter Tryz.func217, Tryz.ntmps217
  go_wp2
  rw [run_callFunc_extern Tryz.func221 (by kernel_rfl) (by kernel_rfl) (by kernel_rfl) (e := Extern.BytealgIndexByte.indexByte) (by kernel_rfl), Lib.run_indexByteString]
  simp only [Result.andThen]
  rw [Oper.upon_value]
  go_wp2
  go_ret
  exact ⟨rfl, rfl⟩
set_option maxHeartbeats 2000000 in
set_option maxRecDepth 100000 in
theorem index_any (x : Str) (w : World) : Calls Tryz.prog 214 #[.string (B x), .string ⟨#[47]⟩] w fun e w' => e = .returned (.int .i64 (Lib.indexByte x 47)) ∧ w' = w := by
  have hT := toL x
  have hD : (B x).data.toList = x := bl_B x
  obtain ⟨K, hK⟩ : ∃ K, Hid (K = Lib.indexByte x 47) := ⟨_, rfl⟩
  rw [← hK.out]
  have hC := indexByte_any (B x) 47
  rw [hD, show (47 : Int).toNat.toUInt8 = 47 from rfl, ← hK.out] at hC
  generalize B x = s at hT hC ⊢
  clear hD
  have HC := hid_in hC
  have HT := hid_in hT
  clear hC hT
  go_enter Tryz.func214, Tryz.ntmps214
  go_wp2_with (go_at_call 217; refine (HC.out _).mono ?_; rintro e w' ⟨rfl, hw⟩; obtain rfl := hw.symm)
  · have h : ([47] == s.toList) = true := by assumption
    go_ret
    refine ⟨congrArg (fun z => Ending.returned (Value.int .i64 z)) (Eq.trans ?_ hK.out.symm), rfl⟩
    have e : x = [47] := by rw [← HT.out]; exact (beq_iff_eq.1 h).symm
    rw [e]; rfl
  · go_ret
    exact ⟨rfl, rfl⟩
set_option maxHeartbeats 1000000 in
set_option maxRecDepth 100000 in
theorem lcut_any (x : Str) (hx : x.length ≤ 4294967296) (w : World) : Calls Tryz.prog 205 #[.string (B x), .string ⟨#[47]⟩] w fun e w' => e = .returned (.tuple #[.string (B (cutS x).1), .string (B (cutS x).2.1), .bool (cutS x).2.2]) ∧ ∃ n, w' = w.drewN n := by
  have hI := index_any x
  have hsz : (B x).size = x.length := B_size x
  rcases idx_cases x with ⟨h1, h2⟩ | ⟨i, h1, hi, h2⟩
  · rw [h1] at hI
    rw [h2]
    have HI := hid_in hI
    clear hI
    go_enter Tryz.func205, Tryz.ntmps205
    go_wp2_with (go_at_call 214; refine (HI.out _).mono ?_; rintro e w' ⟨rfl, hw⟩; obtain rfl := hw.symm)
    go_ret3
    exact ⟨rfl, 0, rfl⟩
  · rw [h1] at hI
    have e1 : (B x).extract 0 i = B (x.take i) := by rw [extract_B]; simp
    have e2 : (B x).extract (i + 1) x.length = B (x.drop (i + 1)) := by rw [extract_B]; simp
    rw [h2]
    have HI := hid_in hI
    have E1 := hid_in e1
    have E2 := hid_in e2
    have c2 : (i : Int) ≤ ((B x).size : Int) := by omega
    have c4 : (i : Int) + 1 ≤ ((B x).size : Int) := by omega
    clear hI h1 h2 e1 e2
    show Calls Tryz.prog 205 #[.string (B x), .string ⟨#[47]⟩] w fun e w' => e = .returned (.tuple #[.string (B (x.take i)), .string (B (x.drop (i + 1))), .bool true]) ∧ ∃ n, w' = w.drewN n
    generalize B x = s at hsz HI E1 E2 c2 c4 ⊢
    generalize x.length = n at *
    go_enter Tryz.func205, Tryz.ntmps205
    go_wp2_with (go_at_call 214; refine (HI.out _).mono ?_; rintro e w' ⟨rfl, hw⟩; obtain rfl := hw.symm)
    go_region
    go_wp2
    go_ret3
    refine ⟨?_, 1, rfl⟩
    simp [E1.out, E2.out]
set_option maxHeartbeats 1000000 in
set_option maxRecDepth 100000 in
theorem cut_any (x : Str) (hx : x.length ≤ 4294967296) (w : World) : Calls Tryz.prog 178 #[.string (B x), .string ⟨#[47]⟩] w fun e w' => e = .returned (.tuple #[.string (B (cutS x).1), .string (B (cutS x).2.1), .bool (cutS x).2.2]) ∧ ∃ n, w' = w.drewN n := by
  have hI := lcut_any x hx
  have HI := hid_in hI
  clear hI
  go_enter Tryz.func178, Tryz.ntmps178
  go_wp2_with (go_at_call 205; refine (HI.out _).mono ?_; rintro e w' ⟨rfl, n, hw⟩; obtain rfl := hw)
  go_ret3
  exact ⟨rfl, n, rfl⟩
end Go.Proofs.YtamaejlbojbbeaaGreatDoor.Vp
namespace Go.Proofs.YtamaejlbojbbeaaGreatDoor.Vp
open Go.RowKit Go.Shelf
attribute [local go_sem] Oper.semAt_some
theorem grown_drewN (W : World) (m : Nat) : W.grownBy (W.drewN m) none :=
  ⟨(below_drewN (Below.refl 0 W) m).os, (below_drewN (Below.refl 0 W) m).tape, (below_drewN (Below.refl 0 W) m).output, (below_drewN (Below.refl 0 W) m).size, fun k _ _ => by simp⟩
def leftOf (v : Value) : Value → Nat
  | .bool true => (match v with | .string s => (bl s).length | _ => 0) + 1
  | _ => 0
set_option maxHeartbeats 1000000 in
theorem pieces_in (x : Str) (w : World) : CallsIn Fence.wide 3 Tryz.prog 139 #[.string (B x)] w fun e w' => e = .returned (.func (.func 177) #[] #[.pointer (some ⟨w.heap.size, 0, none⟩)]) ∧ w' = w.alloc (.cells #[.string (B x)] 9) := by
  refine callsIn_of_wp Tryz.func139 rfl trivial ?_ rfl
  simp only [Tryz.ntmps139, List.size_toArray, List.length_cons, List.length_nil, Nat.reduceAdd, Nat.reduceSub, Array.replicate_succ, Array.replicate_zero, List.push_toArray, List.append_toArray, List.nil_append, List.cons_append]
  gi_wp2
  go_ret
  exact ⟨rfl, rfl⟩
set_option maxRecDepth 100000 in
set_option maxHeartbeats 1000000 in
theorem pieces1_in (n : Nat) (hn : 1 ≤ n) (l Bn : Nat) (x : Str) (hx : x.length ≤ 4294967296) (J Jx : List Str → World → Prop)
    (hJd : ∀ s W m, J s W → J s (World.drewN W m))
    (hY : ∀ pre p W, J pre W → pre.length < (piecesS x).length → YieldAt Fence.wide (n - 1) Tryz.prog l #[.string (B p)] W fun e W' =>
      (e = .returned (.bool true) ∧ J (pre ++ [p]) W' ∧ True) ∨ (e = .returned (.bool false) ∧ Jx (pre ++ [p]) W'))
    (W : World) (hBn : W.cell? ⟨Bn, 0, none⟩ = some (.string (B x))) (h0 : J [] W) :
    CallsIn Fence.wide n Tryz.prog 177 #[.func (.yield l) #[] #[], .pointer (some ⟨Bn, 0, none⟩)] W fun e W' => (∃ v, e = .returned v) ∧
      ((∃ ys, ys = piecesS x ∧ J ys W') ∨ (∃ pre, pre <+: piecesS x ∧ Jx pre W')) := by
  refine callsIn_of_wp Tryz.func177 rfl trivial ?_ rfl
  simp only [Tryz.ntmps177, List.size_toArray, List.length_cons, List.length_nil, Nat.reduceAdd, Nat.reduceSub, Array.replicate_succ, Array.replicate_zero, List.push_toArray, List.append_toArray, List.nil_append, List.cons_append]
  have HY := hid_in hY
  have HJd := hid_in hJd
  clear hY hJd
  gi_wp2
  gi_loopw [3, 4] (fun v3 v4 wr => (∃ (pre : List Str) (y : Str), v3 = .string (B y) ∧ v4 = .bool true ∧ y.length ≤ 4294967296 ∧ Hid (piecesS x = pre ++ piecesS y) ∧ J pre wr) ∨ (v4 = .bool false ∧ J (piecesS x) wr))
    (fun v3 v4 _ => leftOf v3 v4)
  case atStart =>
    exact .inl ⟨[], x, rfl, rfl, hx, rfl, h0⟩
  case round =>
    rcases hrel with ⟨pre, y, rfl, rfl, hy, hp, hJs⟩ | ⟨rfl, hJs⟩
    · have hC := hid_in (cut_any y hy)
      have HP := hid_in (pieces_cut y)
      have HL := hid_in (cut_short y)
      generalize cutS y = t at hC HP HL
      obtain ⟨c, r, b⟩ := t
      simp only at HP
      gi_wp2_with (refine ⟨trivial, ?_⟩; gi_at_call 178; refine (callsIn_wide.2 (hC.out _)).mono ?_; rintro e w' ⟨rfl, m, hw⟩; obtain rfl := hw)
      have hpre : (pre ++ [c]) <+: piecesS x := by
        rw [hp.out, HP.out]
        cases b
        · exact ⟨[], by simp⟩
        · exact ⟨piecesS r, by simp⟩
      obtain ⟨fn, tmps, assign, body, hy2, hR⟩ := HY.out pre c (wr.drewN m) (HJd.out _ _ _ hJs) (by have := hpre.length_le; simp at this; omega)
      have HPRE := hid_in hpre
      clear hpre
      rw [hy2]
      gi_wp2
      refine hR.mono ?_
      rintro e W3 (⟨rfl, hJ3, _⟩ | ⟨rfl, hJx3⟩)
      · gi_wp2
        go_roundw
        case rel =>
          cases b
          · refine .inr ⟨rfl, ?_⟩
            rw [hp.out, HP.out]; exact hJ3
          · refine .inl ⟨pre ++ [c], r, rfl, rfl, ?_, ?_, hJ3⟩
            · have := HL.out rfl; omega
            · show _ = _
              rw [hp.out, HP.out]; simp
        case measure =>
          cases b
          · simp [leftOf]
          · have := HL.out rfl
            simp [leftOf, bl_B]; omega
      · gi_wp2
        refine bodyPost_ret (results_none rfl _ _ _) rfl ?_
        exact ⟨⟨_, rfl⟩, .inr ⟨pre ++ [c], HPRE.out, hJx3⟩⟩
    · gi_wp2
      go_end0
      exact ⟨⟨_, rfl⟩, .inl ⟨_, rfl, hJs⟩⟩
theorem pieces_stops (n : Nat) (hn : 1 ≤ n) (Bn : Nat) (x : Str) (hx : x.length ≤ 4294967296) (w : World) (hb : Bn < w.heap.size) (hc : w.cell? ⟨Bn, 0, none⟩ = some (.string (B x))) :
    SeqStopsK Fence.wide n Tryz.prog 177 #[.pointer (some ⟨Bn, 0, none⟩)] (fun p : Str => #[Value.string (B p)]) (fun _ _ => True) (fun ys => ys = piecesS x) (fun pre => pre <+: piecesS x) (piecesS x).length w := fun l J Jx W hW hJ _ hY h0 =>
  pieces1_in n hn l Bn x hx J Jx (fun s W m h => hJ s W _ none h (grown_drewN W m) (fun r e => by cases e)) hY W ((hW.cell (p := ⟨Bn, 0, none⟩) hb).trans hc) h0
end Go.Proofs.YtamaejlbojbbeaaGreatDoor.Vp
