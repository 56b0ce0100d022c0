/-
  The walk of Node: the node that plain data mean.
-/
import Derived.Test.YtbccjomnfclkdaaN20
import Derived.Laws.Tables
namespace Go.Proofs.Ytbccjomnfclkdaa
open Go.RowKit
theorem fold_length (bs : List Nat) : (fold bs).length = 32 := facc_length bs _ (by omega) (by omega)
theorem fold_lt (bs : List Nat) (h : ∀ x ∈ bs, x < 256) : ∀ x ∈ fold bs, x < 256 := by
  intro x hx
  simp only [fold, facc, List.mem_append, List.mem_replicate] at hx
  rcases hx with hx | ⟨_, rfl⟩
  · exact h x (List.mem_of_mem_take hx)
  · omega

set_option maxHeartbeats 400000 in
theorem fold_d (bs : List Nat) (p : Option Addr) (b off cap : Nat) (w : World) (hsl : Sl w p bs cap b off) : Calls Try.prog 22 #[.slice p bs.length cap] w fun e w' => e = .returned (.agg (dcells (fold bs)).toArray) ∧ Below w.heap.size w w' := by
  unfold dcells
  exact fold_any bs p b off cap w (Nat.le_trans hsl.cap1 hsl.cap2) hsl.at_ hsl.src
theorem build_name (nm : ByteArray) (w : World) : (Instr.build 51 #[(0, .string nm)]).run Try.prog w = .ok (.agg (It.cells ⟨nm, 0, List.replicate 32 0⟩).toArray) w := run_build w 51 _ _ (by kernel_rfl)
theorem cells_splice (nm : ByteArray) (K : Int) (z D : List Nat) (hz : z.length = 32) (hD : D.length = 32) : splice (It.cells ⟨nm, K, z⟩) 2 (dcells D) = It.cells ⟨nm, K, D⟩ := by
  have h : (dcells D).length = 32 := dcells_length hD
  unfold splice
  rw [h]
  show [Value.string nm, Value.int .i64 K] ++ (dcells D ++ List.drop 34 (Value.string nm :: Value.int .i64 K :: z.map u8v)) = _
  rw [List.drop_of_length_le (by simp [hz]), List.append_nil]
  rfl
/-- a slice of slices of bytes -/
def Bss (w : World) (v : Value) (ps : List (List Nat)) : Prop := ∃ p cap b o, v = .slice p ps.length cap ∧ ps.length ≤ cap ∧ cap ≤ 9223372036854775807 ∧ (ps ≠ [] → p = some ⟨b, o, none⟩ ∧ b < w.heap.size) ∧ ∀ (i : Nat) bs, ps[i]? = some bs → ∃ q c b' o', w.cell? ⟨b, o + i, none⟩ = some (.slice q bs.length c) ∧ Sl w q bs c b' o'
/-- a slice of texts -/
def Strs (w : World) (v : Value) (ns : List ByteArray) : Prop := ∃ p cap b o, v = .slice p ns.length cap ∧ ns.length ≤ cap ∧ cap ≤ 9223372036854775807 ∧ (ns ≠ [] → p = some ⟨b, o, none⟩ ∧ b < w.heap.size) ∧ ∀ (i : Nat) s, ns[i]? = some s → w.cell? ⟨b, o + i, none⟩ = some (.string s)
/-- a slice of numbers -/
def Ints (w : World) (v : Value) (ks : List Int) : Prop := ∃ p cap b o, v = .slice p ks.length cap ∧ ks.length ≤ cap ∧ cap ≤ 9223372036854775807 ∧ (ks ≠ [] → p = some ⟨b, o, none⟩ ∧ b < w.heap.size) ∧ ∀ (i : Nat) k, ks[i]? = some k → w.cell? ⟨b, o + i, none⟩ = some (.int .i64 k)
def zero32d : List Nat := List.replicate 32 0
def itemAt (ns : List ByteArray) (ks : List Int) (ss : List (List Nat)) (i : Nat) : It := ⟨ns.getD i ByteArray.empty, ks.getD i 0, ((ss[i]?).map fold).getD zero32d⟩
def itemsTo (ns : List ByteArray) (ks : List Int) (ss : List (List Nat)) (n : Nat) : List It := (List.range n).map (itemAt ns ks ss)
/-- the node that plain data mean -/
def toNode (k : Int) (d : ByteArray) (s : Int) (ps : List (List Nat)) (ns : List ByteArray) (ks : List Int) (ss : List (List Nat)) : Nd := ⟨k, d, s, ps.map fold, itemsTo ns ks ss ns.length⟩
theorem three_rowsN (w : World) (raw nd : List Value) : ∃ W, Hid (((w.alloc (.cells raw.toArray 26)).alloc (.cells #[.int .i64 0, .string ⟨#[]⟩, .int .i64 0, .slice none 0 0, .slice none 0 0] 31)).alloc (.cells nd.toArray 31) = W) ∧ Row W w.heap.size raw 26 ∧ Row W (w.heap.size + 1) zs 31 ∧ Row W (w.heap.size + 1 + 1) nd 31 ∧ Below w.heap.size w W ∧ W.heap.size = w.heap.size + 3 := by
  refine ⟨_, rfl, ?_, ?_, ?_, ?_, by simp⟩
  · exact ((Row.new w raw 26).alloc _).alloc _
  · exact (Row.newAt _ _ zs 31 (by simp)).alloc _
  · exact Row.newAt _ _ nd 31 (by simp)
  · exact (((Below.refl _ _).alloc (Nat.le_refl _) _).alloc (by simp) _).alloc (by simp; omega) _
/-- behind j parts and i items -/
structure NInv (w : World) (raw : List Value) (G base : Nat) (k s : Int) (d : ByteArray) (ps : List (List Nat)) (ns : List ByteArray) (ks : List Int) (ss : List (List Nat)) (j i : Nat) (W : World) : Prop where
  row : ∃ vp vi, Row W G [.int .i64 k, .string d, .int .i64 s, vp, vi] 31 ∧ W.ownsRow base 49 32 vp j ((ps.take j).map (fun b => dcells (fold b))).flatten ∧ W.ownsRow base 51 34 vi i ((itemsTo ns ks ss i).map It.cells).flatten ∧ (∀ q, vi.ownBlock = some q → vp.ownBlock ≠ some q)
  r : Row W w.heap.size raw 26
  z : Row W (w.heap.size + 1) zs 31
  below : Below w.heap.size w W
  size : base ≤ W.heap.size
/-- what an append to a field of the node leaves -/
theorem app_stepN {w W w6 w9 : World} {R Z G base n m fld g9 cap9 : Nat} {e e2 : TypeId} {k k2 : Nat} {RG RAW XS XS' YS : List Value} {vp vo : Value} {o : Obj} (hRG : R < G) (hZG : Z < G) (hGb : G < base) (hw : w.heap.size ≤ R)
    (hr : Row W R RAW 26) (hz : Row W Z zs 31) (hbw : Below w.heap.size w W) (hbs : base ≤ W.heap.size) (hb6 : Below W.heap.size W w6) (hrg6 : Row w6 G RG 31) (ho6 : w6.ownsRow base e k vp n XS)
    (hoo : w6.ownsRow base e2 k2 vo m YS) (hap : ∀ q, vo.ownBlock = some q → vp.ownBlock ≠ some q)
    (hg9 : (w6.alloc o).grownBy w9 vp.ownBlock) (hrg9 : Row w9 G RG 31) (ho9 : w9.ownsRow base e k (.slice (some ⟨g9, 0, none⟩) (n + 1) cap9) (n + 1) XS') :
    Row (w9.setCell ⟨G, fld, none⟩ (.slice (some ⟨g9, 0, none⟩) (n + 1) cap9)) G (RG.set fld (.slice (some ⟨g9, 0, none⟩) (n + 1) cap9)) 31 ∧ (w9.setCell ⟨G, fld, none⟩ (.slice (some ⟨g9, 0, none⟩) (n + 1) cap9)).ownsRow base e k (.slice (some ⟨g9, 0, none⟩) (n + 1) cap9) (n + 1) XS' ∧
    (w9.setCell ⟨G, fld, none⟩ (.slice (some ⟨g9, 0, none⟩) (n + 1) cap9)).ownsRow base e2 k2 vo m YS ∧ Row (w9.setCell ⟨G, fld, none⟩ (.slice (some ⟨g9, 0, none⟩) (n + 1) cap9)) R RAW 26 ∧ Row (w9.setCell ⟨G, fld, none⟩ (.slice (some ⟨g9, 0, none⟩) (n + 1) cap9)) Z zs 31 ∧ Below w.heap.size w (w9.setCell ⟨G, fld, none⟩ (.slice (some ⟨g9, 0, none⟩) (n + 1) cap9)) ∧ base ≤ (w9.setCell ⟨G, fld, none⟩ (.slice (some ⟨g9, 0, none⟩) (n + 1) cap9)).heap.size := by
  have hgs := grownBy_setCell w9 ⟨G, fld, none⟩ (.slice (some ⟨g9, 0, none⟩) (n + 1) cap9)
  have hG6 : G ≤ w6.heap.size := Nat.le_of_lt hrg6.lt
  have hb9 : Below G w6 w9 := ((Below.refl G w6).alloc hG6 o).grown hg9 (by simp; omega) (fun q hq => by have := (own_geK ho6 q hq).1; omega)
  have hb10 := hb9.grown hgs (Nat.le_trans hG6 hb9.size) (fun q hq => by cases hq; exact Nat.le_refl _)
  have hq9 := own_geK ho9 g9 rfl
  have hb6' : Below w.heap.size w w6 := hbw.trans (hb6.mono hbw.size)
  refine ⟨hrg9.set_same fld _, own_grewK ho9 (Grew.of_grown hgs) (fun q hq h => ?_), own_grewK (own_grewK (own_belowK hoo ((Below.refl _ _).alloc (Nat.le_refl _) o)) (Grew.of_grown hg9) (fun q hq h => ?_)) (Grew.of_grown hgs) (fun q hq h => ?_), (hr.below hb6 hr.lt).below hb10 hRG, (hz.below hb6 hz.lt).below hb10 hZG, hb6'.trans (hb10.mono (by omega)), ?_⟩
  · cases hq
    simp at h
    omega
  · exact hap q hq h.symm
  · have := (own_geK hoo q hq).1
    simp at h
    omega
  · have h1 := hb6.size
    have h2 := hb10.size
    omega
theorem sep_step {w6 : World} {base m k2 g9 n c : Nat} {e2 : TypeId} {YS : List Value} {vp vo : Value} {o : Obj} (hap : ∀ q, vo.ownBlock = some q → vp.ownBlock ≠ some q) (hoo : w6.ownsRow base e2 k2 vo m YS) (hor : vp.ownBlock = some g9 ∨ g9 = (w6.alloc o).heap.size) : ∀ x, vo.ownBlock = some x → Value.ownBlock (.slice (some ⟨g9, 0, none⟩) n c) ≠ some x := by
  intro x hx he
  have h2 : g9 = x := by simpa [Value.ownBlock] using he
  rcases hor with h | h
  · exact hap x hx (by rw [h, h2])
  · have h1 := own_geK hoo x hx
    simp at h
    omega
theorem itemsTo_succ (ns : List ByteArray) (ks : List Int) (ss : List (List Nat)) (i : Nat) : ((itemsTo ns ks ss (i + 1)).map It.cells).flatten = ((itemsTo ns ks ss i).map It.cells).flatten ++ (itemAt ns ks ss i).cells := by
  simp [itemsTo, List.range_succ]
theorem itemAt_len (ns : List ByteArray) (ks : List Int) (ss : List (List Nat)) (i : Nat) : (itemAt ns ks ss i).cells.length = 34 := by
  apply It.cells_length
  unfold itemAt
  simp only
  cases h : ss[i]? with
  | none => rfl
  | some b => exact fold_length b
theorem own_form {W : World} {base : Nat} {e : TypeId} {size n : Nat} {v : Value} {xs : List Value} (h : W.ownsRow base e size v n xs) : ∃ p c, v = .slice p n c := by
  obtain ⟨_, ⟨rfl, h0⟩ | ⟨g, cap, cur, rfl, _⟩⟩ := h
  · subst h0; exact ⟨_, _, rfl⟩
  · exact ⟨_, _, rfl⟩
theorem Bss.lt {w : World} {v : Value} {ps : List (List Nat)} (h : Bss w v ps) : ∀ bs ∈ ps, ∀ x ∈ bs, x < 256 := by
  obtain ⟨p, cap, b, o, _, _, _, _, hat⟩ := h
  intro bs hbs
  obtain ⟨i, hi, rfl⟩ := List.getElem_of_mem hbs
  obtain ⟨q, c, b', o', _, hs⟩ := hat i _ (List.getElem?_eq_getElem hi)
  exact hs.lt
theorem toNode_ok (k : Int) (d : ByteArray) (s : Int) (ps : List (List Nat)) (ns : List ByteArray) (ks : List Int) (ss : List (List Nat)) (hk : i64 k) (hs : i64 s) (hks : ∀ x ∈ ks, i64 x) (hps : ∀ bs ∈ ps, ∀ x ∈ bs, x < 256) (hss : ∀ bs ∈ ss, ∀ x ∈ bs, x < 256) : (toNode k d s ps ns ks ss).ok := by
  refine ⟨fun x hx => ?_, fun x hx => ?_, hk, hs⟩
  · obtain ⟨bs, hb, rfl⟩ := List.mem_map.1 hx
    exact ⟨fold_length bs, fold_lt bs (hps bs hb)⟩
  · obtain ⟨i, _, rfl⟩ := List.mem_map.1 hx
    refine ⟨?_, ?_⟩
    · unfold itemAt
      simp only
      cases h : ss[i]? with
      | none => exact ⟨rfl, fun x hx => by have := List.eq_of_mem_replicate hx; omega⟩
      | some b => exact ⟨fold_length b, fold_lt b (hss b (List.mem_of_getElem? h))⟩
    · unfold itemAt
      simp only [List.getD]
      cases h : ks[i]? with
      | none => exact ⟨by decide, by decide⟩
      | some b => exact hks b (List.mem_of_getElem? h)
/-- what is behind the two loops -/
theorem node_done {w W W' : World} {base : Nat} {k s : Int} {d : ByteArray} {ps : List (List Nat)} {ns : List ByteArray} {ks : List Int} {ss : List (List Nat)} {vp vi : Value} (hG : w.heap.size + 1 < base) (hb : Below w.heap.size w W)
    (hown : W.ownsRow base 49 32 vp ps.length ((ps.take ps.length).map (fun b => dcells (fold b))).flatten) (hoo : W.ownsRow base 51 34 vi ns.length ((itemsTo ns ks ss ns.length).map It.cells).flatten)
    (hg : W.grownBy W' (some (w.heap.size + 1))) (hok : (toNode k d s ps ns ks ss).ok) :
    IsN W' (.agg #[.int .i64 k, .string d, .int .i64 s, vp, vi]) (toNode k d s ps ns ks ss) ∧ Fresh w.heap.size (.agg #[.int .i64 k, .string d, .int .i64 s, vp, vi]) ∧ Below w.heap.size w W' := by
  have h1 : Els W vp 32 ((ps.map fold).map dcells) := own_els (xs := (ps.map fold).map dcells) (by simpa [Function.comp_def] using hown) (fun us hu => by
    obtain ⟨x, hx, rfl⟩ := List.mem_map.1 hu
    obtain ⟨y, _, rfl⟩ := List.mem_map.1 hx
    exact dcells_length (fold_length y))
  have h2 : Els W vi 34 ((itemsTo ns ks ss ns.length).map It.cells) := own_els (xs := (itemsTo ns ks ss ns.length).map It.cells) (by simpa [itemsTo] using hoo) (fun us hu => by
    obtain ⟨x, hx, rfl⟩ := List.mem_map.1 hu
    obtain ⟨y, _, rfl⟩ := List.mem_map.1 hx
    exact itemAt_len ns ks ss y)
  refine ⟨⟨⟨vp, vi, rfl, h1.grown hg (fun q hq => ?_), h2.grown hg (fun q hq => ?_)⟩, hok⟩, fresh5 k s d (fun q hq => ?_) (fun q hq => ?_), hb.grown hg hb.size (fun q hq => by cases hq; omega)⟩
  · have := (own_geK hown q hq).1; omega
  · have := (own_geK hoo q hq).1; omega
  · have := (own_geK hown q hq).1; omega
  · have := (own_geK hoo q hq).1; omega
end Go.Proofs.Ytbccjomnfclkdaa
