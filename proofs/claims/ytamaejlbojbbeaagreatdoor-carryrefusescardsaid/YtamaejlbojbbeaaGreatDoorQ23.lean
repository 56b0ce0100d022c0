/-
  The six checks, one behind the other. Build: plain facts on paths that have been checked. The blobs of a tree are short. check. check: the six checks one behind the other. slices.SortFunc, laid at this program.
-/
import Derived.Deep.CutRange
import Derived.Laws.EntriesVeiled
import Derived.Shelf.SlSortCmp.WholeK
import Derived.Shelf.SlSortCmp.NoneTotal
import Derived.Ground.SlsfProg
import Derived.Test.YtamaejlbojbbeaaGreatDoorRows
import Derived.Test.YtamaejlbojbbeaaGreatDoorQ00
import Derived.Test.YtamaejlbojbbeaaGreatDoorQ01
import Derived.Test.YtamaejlbojbbeaaGreatDoorQ02
import Derived.Test.YtamaejlbojbbeaaGreatDoorQ03
import Derived.Test.YtamaejlbojbbeaaGreatDoorQ04
import Derived.Test.YtamaejlbojbbeaaGreatDoorQ05
import Derived.Test.YtamaejlbojbbeaaGreatDoorQ06
import Derived.Test.YtamaejlbojbbeaaGreatDoorQ07
import Derived.Test.YtamaejlbojbbeaaGreatDoorQ08
import Derived.Test.YtamaejlbojbbeaaGreatDoorQ09
import Derived.Test.YtamaejlbojbbeaaGreatDoorQ10
import Derived.Test.YtamaejlbojbbeaaGreatDoorQ11
import Derived.Test.YtamaejlbojbbeaaGreatDoorQ12
import Derived.Test.YtamaejlbojbbeaaGreatDoorQ13
import Derived.Test.YtamaejlbojbbeaaGreatDoorQ14
import Derived.Test.YtamaejlbojbbeaaGreatDoorQ15
import Derived.Test.YtamaejlbojbbeaaGreatDoorQ16
import Derived.Test.YtamaejlbojbbeaaGreatDoorQ17
import Derived.Test.YtamaejlbojbbeaaGreatDoorQ18
import Derived.Test.YtamaejlbojbbeaaGreatDoorQ19
import Derived.Test.YtamaejlbojbbeaaGreatDoorQ20
import Derived.Test.YtamaejlbojbbeaaGreatDoorQ21
import Derived.Test.YtamaejlbojbbeaaGreatDoorQ22
namespace Go.Proofs.YtamaejlbojbbeaaGreatDoor.Tr
open Go.RowKit
open Sb (hid_in Row Sl T5 BL u8v Tab wp_world grownBy_setCell below_of_grown info39 one_u8 splice_all)
def slashB : ByteArray := ⟨#[47]⟩
def V0 : ByteArray → Option Int := updI (fun _ => none) slashB 3
def kindsT (sp : List Spot) : ByteArray → Option Int := sp.foldl (fun V s => updI V s.path (if s.dir then 3 else 2)) V0
def cntT (sp : List Spot) : ByteArray → Option Int := sp.foldl (fun C s => updI C (dirB s.names) ((C (dirB s.names)).getD 0 + 1)) (fun _ => none)
theorem kindsT_snoc (sp : List Spot) (s : Spot) : kindsT (sp ++ [s]) = updI (kindsT sp) s.path (if s.dir then 3 else 2) := by simp [kindsT]
theorem cntT_snoc (sp : List Spot) (s : Spot) : cntT (sp ++ [s]) = updI (cntT sp) (dirB s.names) ((cntT sp (dirB s.names)).getD 0 + 1) := by simp [cntT]
theorem cntT_le : ∀ (n : Nat) (sp : List Spot), sp.length = n → ∀ k, 0 ≤ (cntT sp k).getD 0 ∧ (cntT sp k).getD 0 ≤ (n : Int)
  | 0, sp, h, k => by
    obtain rfl : sp = [] := List.eq_nil_of_length_eq_zero h
    simp [cntT]
  | n + 1, sp, h, k => by
    rcases List.eq_nil_or_concat sp with rfl | ⟨ys, y, rfl⟩
    · simp at h
    · simp only [List.concat_eq_append] at h ⊢
      have hl : ys.length = n := by simpa using h
      have h1 := cntT_le n ys hl k
      have h2 := cntT_le n ys hl (dirB y.names)
      rw [cntT_snoc]
      unfold updI
      split
      · simp only [Option.getD_some]; omega
      · omega
/-- what each check asks of the path at a place -/
def wr1 (_ : List Spot) (_ : Nat) (s : Spot) : Bool := s.dir && !decide (s.data.size = 0)
def wr2 (_ : List Spot) (_ : Nat) (s : Spot) : Bool := decide (1024 < s.data.size)
def wr3 (sp : List Spot) (i : Nat) (s : Spot) : Bool := !decide ((kindsT (sp.take i) s.path).getD 0 = 0)
def wr4 (sp : List Spot) (_ : Nat) (s : Spot) : Bool := decide ((kindsT sp (dirB s.names)).getD 0 = 0)
def wr5 (sp : List Spot) (_ : Nat) (s : Spot) : Bool := !decide ((kindsT sp (dirB s.names)).getD 0 = 3)
def wr6 (sp : List Spot) (i : Nat) (s : Spot) : Bool := decide (64 < (cntT (sp.take i) (dirB s.names)).getD 0 + 1)
def Some1 (f : List Spot → Nat → Spot → Bool) (sp : List Spot) : Prop := ∃ i s, sp[i]? = some s ∧ f sp i s = true
def NoneTo (f : List Spot → Nat → Spot → Bool) (sp : List Spot) (n : Nat) : Prop := ∀ i s, i < n → sp[i]? = some s → f sp i s = false
theorem NoneTo.snoc {f : List Spot → Nat → Spot → Bool} {sp : List Spot} {n : Nat} {s : Spot} (h : NoneTo f sp n) (hs : sp[n]? = some s) (hf : f sp n s = false) : NoneTo f sp (n + 1) := fun i t hi ht => by
  rcases Nat.lt_or_ge i n with hl | hl
  · exact h i t hl ht
  · obtain rfl : i = n := by omega
    rw [hs] at ht
    obtain rfl := Option.some.inj ht
    exact hf
/-- the world of check -/
structure CI (base : Nat) (w0 : World) (sv : Value) (sp : List Spot) (kb km cb cm rb : Nat) (R : List Value) (rb2 : Nat) (R2 : List Value) (V C : ByteArray → Option Int) (W : World) : Prop where
  bel : Below base w0 W
  bs : base ≤ W.heap.size
  sps : Sps W sv sp
  k : KM W kb km V
  c : KM W cb cm C
  row : Row W rb R 166
  row2 : Row W rb2 R2 166
  kml : base ≤ km
  cml : base ≤ cm
  ne : km ≠ cm
theorem CI.below {base : Nat} {w0 : World} {sv : Value} {sp : List Spot} {kb km cb cm rb : Nat} {R : List Value} {rb2 : Nat} {R2 : List Value} {V C : ByteArray → Option Int} {W W' : World} (h : CI base w0 sv sp kb km cb cm rb R rb2 R2 V C W) (hb : Below W.heap.size W W') : CI base w0 sv sp kb km cb cm rb R rb2 R2 V C W' :=
  ⟨h.bel.trans (hb.mono h.bs), Nat.le_trans h.bs hb.size, h.sps.below hb, h.k.below hb, h.c.below hb, h.row.below hb h.row.lt, h.row2.below hb h.row2.lt, h.kml, h.cml, h.ne⟩
theorem KM.ismap {W : World} {cb mb : Nat} {V : ByteArray → Option Int} (h : KM W cb mb V) {cs : Array Value} {t : TypeId} {fr : Nat × Nat} : W.heap[mb]? ≠ some (.cells cs t fr) := by
  obtain ⟨n, es, cl, hb, _⟩ := h.map
  rw [hb]
  intro e
  cases e
theorem CI.keep {base : Nat} {w0 : World} {sv : Value} {sp : List Spot} {kb km cb cm rb : Nat} {R : List Value} {rb2 : Nat} {R2 : List Value} {V C : ByteArray → Option Int} {W W' : World} (h : CI base w0 sv sp kb km cb cm rb R rb2 R2 V C W) (m : Nat) (hm : ∀ (cs : Array Value) (t : TypeId) (fr : Nat × Nat), W.heap[m]? ≠ some (.cells cs t fr)) (hb : ∀ k, k < W.heap.size → k ≠ m → W'.heap[k]? = W.heap[k]?) :
    Sps W' sv sp ∧ Row W' rb R 166 ∧ Row W' rb2 R2 166 := by
  have key : ∀ (b : Nat) (cs : Array Value) (t : TypeId) (fr : Nat × Nat), W.heap[b]? = some (.cells cs t fr) → W'.heap[b]? = some (.cells cs t fr) := fun b cs t fr e => by
    rw [hb b (Array.getElem?_eq_some_iff.1 e).1 (by rintro rfl; exact hm _ _ _ e)]; exact e
  exact ⟨h.sps.kept (fun b cs t fr e _ => key b cs t fr e), key _ _ _ _ h.row, key _ _ _ _ h.row2⟩
theorem KM.keep {W W' : World} {cb mb : Nat} {V : ByteArray → Option Int} (h : KM W cb mb V) (m : Nat) (hm : ∀ (cs : Array Value) (t : TypeId) (fr : Nat × Nat), W.heap[m]? ≠ some (.cells cs t fr)) (hne : mb ≠ m) (hb : ∀ k, k < W.heap.size → k ≠ m → W'.heap[k]? = W.heap[k]?) : KM W' cb mb V := by
  have hl := h.lt
  obtain ⟨h1, n, h2⟩ := h
  exact ⟨(hb cb hl.1 (by rintro rfl; exact hm _ _ _ h1)).trans h1, n, h2.of_block (hb mb hl.2 hne)⟩
section
variable {base : Nat} {w0 : World} {sv : Value} {sp : List Spot} {kb km cb cm rb : Nat} {R : List Value} {rb2 : Nat} {R2 : List Value}
theorem sps_nm {W : World} {i : Nat} {s : Spot} (h : Sps W sv sp) (hs : sp[i]? = some s) : Nm W s.v s.names := by
  obtain ⟨_, _, _, _, _, _, _, _, _, h6⟩ := h
  exact h6 s (List.mem_of_getElem? hs)
theorem CI.box {W : World} {V C : ByteArray → Option Int} (h : CI base w0 sv sp kb km cb cm rb R rb2 R2 V C W) (L : List Value) : CI base w0 sv sp kb km cb cm rb R W.heap.size L V C (W.alloc (.cells L.toArray 166)) := by
  have h2 := h.below ((Below.refl W.heap.size W).alloc (Nat.le_refl _) (.cells L.toArray 166))
  exact ⟨h2.bel, h2.bs, h2.sps, h2.k, h2.c, h2.row, Row.new W L 166, h2.kml, h2.cml, h2.ne⟩
/-- what is known ahead of check i -/
structure CK (base : Nat) (w0 : World) (sv : Value) (sp : List Spot) (kb km cb cm rb : Nat) (R : List Value) (i : Nat) (W : World) : Prop where
  ci : ∃ rb2 R2, CI base w0 sv sp kb km cb cm rb R rb2 R2 (if i ≤ 2 then V0 else kindsT sp) (if i ≤ 5 then (fun _ => none) else cntT sp) W
  n1 : 1 ≤ i → NoneTo wr1 sp sp.length
  n2 : 2 ≤ i → NoneTo wr2 sp sp.length
  n3 : 3 ≤ i → NoneTo wr3 sp sp.length
  n4 : 4 ≤ i → NoneTo wr4 sp sp.length
  n5 : 5 ≤ i → NoneTo wr5 sp sp.length
  n6 : 6 ≤ i → NoneTo wr6 sp sp.length
/-- a check that turns no map -/
theorem asks_plain (F : Nat) (caps : Array Value) (f : List Spot → Nat → Spot → Bool) (V C : ByteArray → Option Int) (hc : ∀ (i : Nat) s W, sp[i]? = some s → CI base w0 sv sp kb km cb cm rb R rb2 R2 V C W → Calls Tryz.prog F (#[s.val] ++ caps) W fun e w' => e = .returned (.bool (f sp i s)) ∧ Below W.heap.size W w') :
    Asks sp sv F caps (fun i W => CI base w0 sv sp kb km cb cm rb R rb2 R2 V C W ∧ NoneTo f sp i) (fun W => Below base w0 W ∧ Row W rb2 R2 166 ∧ Some1 f sp) where
  sps _i _W h := h.1.sps
  step i s W hs h := (hc i s W hs h.1).mono fun _e _w' ⟨he, hb⟩ => ⟨_, he, fun hf => ⟨h.1.below hb, h.2.snoc hs hf⟩, fun hf => ⟨(h.1.below hb).bel, (h.1.below hb).row2, i, s, hs, hf⟩⟩
theorem asks1 : Asks sp sv 83 #[] (fun i W => CI base w0 sv sp kb km cb cm rb R rb2 R2 V0 (fun _ => none) W ∧ NoneTo wr1 sp i) (fun W => Below base w0 W ∧ Row W rb2 R2 166 ∧ Some1 wr1 sp) :=
  asks_plain 83 #[] wr1 _ _ fun _ s W _ _ => wrong1_any s W
theorem asks2 : Asks sp sv 84 #[] (fun i W => CI base w0 sv sp kb km cb cm rb R rb2 R2 V0 (fun _ => none) W ∧ NoneTo wr2 sp i) (fun W => Below base w0 W ∧ Row W rb2 R2 166 ∧ Some1 wr2 sp) :=
  asks_plain 84 #[] wr2 _ _ fun _ s W _ _ => wrong2_any s W
theorem asks4 (hf : ∀ s ∈ sp, s.Fit) : Asks sp sv 87 #[.pointer (some ⟨kb, 0, none⟩)] (fun i W => CI base w0 sv sp kb km cb cm rb R rb2 R2 (kindsT sp) (fun _ => none) W ∧ NoneTo wr4 sp i) (fun W => Below base w0 W ∧ Row W rb2 R2 166 ∧ Some1 wr4 sp) :=
  asks_plain 87 _ wr4 _ _ fun _ s W hs h => wrong4_any s W (sps_nm h.sps hs) (hf s (List.mem_of_getElem? hs)) kb km _ h.k
theorem asks5 (hf : ∀ s ∈ sp, s.Fit) : Asks sp sv 89 #[.pointer (some ⟨kb, 0, none⟩)] (fun i W => CI base w0 sv sp kb km cb cm rb R rb2 R2 (kindsT sp) (fun _ => none) W ∧ NoneTo wr5 sp i) (fun W => Below base w0 W ∧ Row W rb2 R2 166 ∧ Some1 wr5 sp) :=
  asks_plain 89 _ wr5 _ _ fun _ s W hs h => wrong5_any s W (sps_nm h.sps hs) (hf s (List.mem_of_getElem? hs)) kb km _ h.k
theorem take_snoc {i : Nat} {s : Spot} (hs : sp[i]? = some s) : sp.take (i + 1) = sp.take i ++ [s] := by rw [List.take_add_one, hs]; rfl
theorem asks3 : Asks sp sv 85 #[.pointer (some ⟨kb, 0, none⟩)] (fun i W => CI base w0 sv sp kb km cb cm rb R rb2 R2 (kindsT (sp.take i)) (fun _ => none) W ∧ NoneTo wr3 sp i) (fun W => Below base w0 W ∧ Row W rb2 R2 166 ∧ Some1 wr3 sp) where
  sps i W h := h.1.sps
  step i s W hs h := (wrong3_any s W (sps_nm h.1.sps hs) kb km _ h.1.k base h.1.bs h.1.kml).mono fun e w' ⟨he, hb, hk, hr⟩ => by
    have hci : CI base w0 sv sp kb km cb cm rb R rb2 R2 (kindsT (sp.take (i + 1))) (fun _ => none) w' := by
      have hm : ∀ (cs : Array Value) (t : TypeId) (fr : Nat × Nat), W.heap[km]? ≠ some (.cells cs t fr) := fun cs t fr => h.1.k.ismap
      obtain ⟨h1, h2, h3⟩ := h.1.keep km hm hr
      refine ⟨h.1.bel.trans hb, Nat.le_trans h.1.bs hb.size, h1, ?_, h.1.c.keep km hm (fun e => h.1.ne e.symm) hr, h2, h3, h.1.kml, h.1.cml, h.1.ne⟩
      rw [take_snoc hs, kindsT_snoc]
      exact hk
    exact ⟨_, he, fun hf => ⟨hci, h.2.snoc hs hf⟩, fun hf => ⟨hci.bel, hci.row2, i, s, hs, hf⟩⟩
theorem asks6 (hf : ∀ s ∈ sp, s.Fit) (hn : sp.length ≤ 1000000) : Asks sp sv 90 #[.pointer (some ⟨cb, 0, none⟩)] (fun i W => CI base w0 sv sp kb km cb cm rb R rb2 R2 (kindsT sp) (cntT (sp.take i)) W ∧ NoneTo wr6 sp i) (fun W => Below base w0 W ∧ Row W rb2 R2 166 ∧ Some1 wr6 sp) where
  sps i W h := h.1.sps
  step i s W hs h := by
    have hle := cntT_le _ (sp.take i) rfl (dirB s.names)
    have hl : (sp.take i).length ≤ 1000000 := by simp; omega
    refine (wrong6_any s W (sps_nm h.1.sps hs) (hf s (List.mem_of_getElem? hs)) cb cm _ h.1.c base h.1.bs h.1.cml hle.1 (by omega)).mono fun e w' ⟨he, hb, hk, hr⟩ => ?_
    have hci : CI base w0 sv sp kb km cb cm rb R rb2 R2 (kindsT sp) (cntT (sp.take (i + 1))) w' := by
      have hm : ∀ (cs : Array Value) (t : TypeId) (fr : Nat × Nat), W.heap[cm]? ≠ some (.cells cs t fr) := fun cs t fr => h.1.c.ismap
      obtain ⟨h1, h2, h3⟩ := h.1.keep cm hm hr
      refine ⟨h.1.bel.trans hb, Nat.le_trans h.1.bs hb.size, h1, h.1.k.keep cm hm h.1.ne hr, ?_, h2, h3, h.1.kml, h.1.cml, h.1.ne⟩
      rw [take_snoc hs, cntT_snoc]
      exact hk
    exact ⟨_, he, fun hf => ⟨hci, h.2.snoc hs hf⟩, fun hf => ⟨hci.bel, hci.row2, i, s, hs, hf⟩⟩
end
end Go.Proofs.YtamaejlbojbbeaaGreatDoor.Tr
namespace Go.Proofs.YtamaejlbojbbeaaGreatDoor.Tr
open Go.RowKit
theorem kindsT_in : ∀ (n : Nat) (sp : List Spot), sp.length = n → ∀ k, (k = slashB ∨ ∃ s ∈ sp, s.path = k) → (kindsT sp k).getD 0 ≠ 0
  | 0, sp, h, k, hk => by
    obtain rfl : sp = [] := List.eq_nil_of_length_eq_zero h
    rcases hk with rfl | ⟨s, hs, _⟩
    · simp [kindsT, V0, updI]
    · cases hs
  | n + 1, sp, h, k, hk => by
    rcases List.eq_nil_or_concat sp with rfl | ⟨ys, y, rfl⟩
    · simp at h
    · simp only [List.concat_eq_append] at h hk ⊢
      have hl : ys.length = n := by simpa using h
      rw [kindsT_snoc]
      unfold updI
      by_cases hc : k = y.path
      · rw [if_pos hc]
        cases y.dir <;> simp
      · rw [if_neg hc]
        refine kindsT_in n ys hl k ?_
        rcases hk with hk | ⟨s, hs, hp⟩
        · exact .inl hk
        · rcases List.mem_append.1 hs with hs | hs
          · exact .inr ⟨s, hs, hp⟩
          · simp at hs
            subst hs
            exact absurd hp.symm hc
theorem none3_at {sp : List Spot} (h : NoneTo wr3 sp sp.length) {j : Nat} {s : Spot} (hs : sp[j]? = some s) : s.path ≠ slashB ∧ ∀ (i : Nat) t, i < j → sp[i]? = some t → t.path ≠ s.path := by
  have hj := (List.getElem?_eq_some_iff.1 hs).1
  have h0 := h j s hj hs
  simp only [wr3, Bool.not_eq_false', decide_eq_true_eq] at h0
  refine ⟨fun e => ?_, fun i t hi ht e => ?_⟩
  · exact kindsT_in _ _ rfl s.path (.inl e) h0
  · refine kindsT_in _ (sp.take j) rfl s.path (.inr ⟨t, ?_, e⟩) h0
    refine List.mem_of_getElem? (i := i) ?_
    rw [List.getElem?_take, if_pos hi, ht]
/-- what the paths' texts are -/
def Shown (sp : List Spot) : Prop := ∀ s ∈ sp, s.path = Vp.B (Vp.showS s.names)
theorem none3_names {sp : List Spot} (h : NoneTo wr3 sp sp.length) (hp : Shown sp) : (sp.map Spot.names).Nodup ∧ [] ∉ sp.map Spot.names := by
  constructor
  · unfold List.Nodup
    rw [List.pairwise_iff_getElem]
    intro i j hi hj hij e
    simp only [List.length_map] at hi hj
    simp only [List.getElem_map] at e
    have hsi : sp[i]? = some sp[i] := List.getElem?_eq_getElem hi
    have hsj : sp[j]? = some sp[j] := List.getElem?_eq_getElem hj
    refine (none3_at h hsj).2 i _ hij hsi ?_
    rw [hp _ (List.getElem_mem hi), hp _ (List.getElem_mem hj), e]
  · intro hm
    obtain ⟨s, hs, hn⟩ := List.mem_map.1 hm
    obtain ⟨i, hi⟩ := List.getElem?_of_mem hs
    refine (none3_at h hi).1 ?_
    rw [hp _ hs, hn]
    rfl
theorem none2_size {sp : List Spot} (h : NoneTo wr2 sp sp.length) : ∀ s ∈ sp, s.data.size ≤ 1024 := by
  intro s hs
  obtain ⟨i, hi⟩ := List.getElem?_of_mem hs
  have := h i s (List.getElem?_eq_some_iff.1 hi).1 hi
  simp only [wr2, decide_eq_false_iff_not] at this
  omega
theorem mats_at {sp : List Spot} {fs : List Fil} (h : Mats sp fs) {s : Spot} (hs : s ∈ sp) : ∃ f ∈ fs, Mat s f := by
  obtain ⟨i, hi⟩ := List.getElem?_of_mem hs
  have hl := (List.getElem?_eq_some_iff.1 hi).1
  have hf : fs[i]? = some (fs[i]'(by rw [← h.1]; exact hl)) := List.getElem?_eq_getElem _
  exact ⟨_, List.mem_of_getElem? hf, h.2 i s _ hi hf⟩
theorem mats_shown {sp : List Spot} {fs : List Fil} (h : Mats sp fs) : Shown sp := fun s hs => by
  obtain ⟨f, _, hm⟩ := mats_at h hs
  rw [hm.2.1, hm.1]
theorem mats_fit {sp : List Spot} {fs : List Fil} (h : Mats sp fs) : ∀ s ∈ sp, s.Fit := fun s hs => by
  obtain ⟨f, _, hm⟩ := mats_at h hs
  unfold Spot.Fit
  rw [hm.1]
  exact Vp.parse_sum _
theorem lens_mem {xs : List Vp.Str} {x : Vp.Str} (h : x ∈ xs) : x.length ≤ Lib.lens xs := by
  induction xs with
  | nil => cases h
  | cons y ys ih =>
    simp only [Lib.lens, List.map_cons, List.sum_cons] at ih ⊢
    rcases List.mem_cons.1 h with rfl | h
    · omega
    · have := ih h; omega
theorem fit_short {s : Spot} (h : s.Fit) : ∀ x ∈ s.names, (Vp.B x).size ≤ 9223372036854775807 := fun x hx => by
  have := lens_mem hx
  unfold Spot.Fit at h
  have e : (Vp.B x).size = x.length := by simp [Vp.B, ByteArray.size]
  omega
end Go.Proofs.YtamaejlbojbbeaaGreatDoor.Tr
namespace Go.Proofs.YtamaejlbojbbeaaGreatDoor.Tr
open Go.RowKit
theorem i64_small {n : Int} (h : 0 ≤ n) (h2 : n ≤ 1000000) : Nd.i64 n := by unfold Nd.i64; omega
theorem chunk_ok (x : List Nat) : (chunkN x).ok := ⟨fun y hy => (by cases hy), fun y hy => (by cases hy), i64_small (by simp [chunkN]) (by simp [chunkN]), i64_small (by simp [chunkN]) (by simp [chunkN])⟩
theorem file_ok (d is : List Nat) (h : d.length ≤ 1000000) : (fileN d is).ok := by
  refine ⟨fun x hx => ?_, fun x hx => (by cases hx), i64_small (by simp [fileN]) (by simp [fileN]), i64_small (by simp [fileN]) (by simp [fileN]; omega)⟩
  simp only [fileN, List.mem_map] at hx
  obtain ⟨i, _, rfl⟩ := hx
  exact ⟨Sb.sum_length _, sum_lt _⟩
theorem dir_ok (items : List Nd.It) (h : ∀ x ∈ items, x.ok) : (dirN items).ok :=
  ⟨fun y hy => (by cases hy), h, i64_small (by simp [dirN]) (by simp [dirN]), i64_small (by simp [dirN]) (by simp [dirN])⟩
theorem bytesS_len (d : ByteArray) : (Nd.bytesS d).length = d.size := by simp [Nd.bytesS]
theorem fileBs_small (d : ByteArray) (h : d.size ≤ 1024) : ∀ b ∈ fileBs d, b.length ≤ 4096 := by
  intro b hb
  unfold fileBs at hb
  rcases List.mem_append.1 hb with hb | hb
  · obtain ⟨i, _, rfl⟩ := List.mem_map.1 hb
    exact encB_len (chunk_ok _)
  · simp at hb
    subst hb
    exact encB_len (file_ok _ _ (by rw [bytesS_len]; omega))
theorem snoc_ok {items : List Nd.It} (h : ∀ x ∈ items, x.ok) {y : Nd.It} (hy : y.ok) : ∀ x ∈ items ++ [y], x.ok := fun x hx => by
  rcases List.mem_append.1 hx with hx | hx
  · exact h x hx
  · simp at hx; subst hx; exact hy
theorem walkT_small : ∀ (k : Nat) (dir : List Vp.Str) (sp : List Spot) (items : List Nd.It), sp.length < k → (∀ s ∈ sp, s.data.size ≤ 1024) → (∀ x ∈ items, x.ok) → ∀ b ∈ (walkT k dir sp items).1, b.length ≤ 4096
  | 0, _, _, _, h => absurd h (Nat.not_lt_zero _)
  | _ + 1, _, [], items, _ => fun _ hi b hb => by
    simp only [walkT, List.mem_singleton] at hb
    subst hb
    exact encB_len (dir_ok items hi)
  | k + 1, dir, s :: sp, items, h => fun hd hi b hb => by
    simp only [List.length_cons] at h
    have hd' : ∀ t ∈ sp, t.data.size ≤ 1024 := fun t ht => hd t (by simp [ht])
    unfold walkT at hb
    split at hb
    · split at hb
      · have hsub := walkT_rest k s.names sp []
        have hl := hsub.length_le
        rcases List.mem_append.1 hb with hb | hb
        · exact walkT_small k s.names sp [] (by omega) hd' (fun x hx => by cases hx) b hb
        · refine walkT_small k dir _ _ (by omega) (fun t ht => hd' t (hsub.subset ht)) (snoc_ok hi ⟨⟨walkT_sum (by omega), walkT_sum_lt (by omega)⟩, i64_small (by simp) (by simp)⟩) b hb
      · rcases List.mem_append.1 hb with hb | hb
        · exact fileBs_small _ (hd s (by simp)) b hb
        · exact walkT_small k dir sp _ (by omega) hd' (snoc_ok hi ⟨⟨Sb.sum_length _, sum_lt _⟩, i64_small (by simp) (by simp)⟩) b hb
    · simp only [List.mem_singleton] at hb
      subst hb
      exact encB_len (dir_ok items hi)
end Go.Proofs.YtamaejlbojbbeaaGreatDoor.Tr
namespace Go.Proofs.YtamaejlbojbbeaaGreatDoor.Tr
open Go.RowKit
open Sb (hid_in Row Sl T5 BL u8v Tab wp_world grownBy_setCell below_of_grown info39 one_u8 splice_all)
theorem NoneTo.zero (f : List Spot → Nat → Spot → Bool) (sp : List Spot) : NoneTo f sp 0 := fun i s hi => by omega
section
variable {base : Nat} {w0 : World} {sv : Value} {sp : List Spot} {kb km cb cm rb : Nat} {R : List Value}
theorem ck_step0 (hf : ∀ s ∈ sp, s.Fit) (hn : sp.length ≤ 1000000) {W : World} (h : CK base w0 sv sp kb km cb cm rb R 0 W) :
    Calls Tryz.prog 91 #[sv, .func (.func 83) #[] #[]] (W.alloc (.cells #[.int .i64 1, .func (.func 83) #[] #[]] 166)) fun e w' => Row w' W.heap.size [.int .i64 1, .func (.func 83) #[] #[]] 166 ∧ ((e = .returned (.bool false) ∧ CK base w0 sv sp kb km cb cm rb R 1 w') ∨ (e = .returned (.bool true) ∧ Below base w0 w' ∧ Some1 wr1 sp)) := by
  have _ := hf
  refine (contains_83 sp sv _ _ _ hn asks1 ⟨by have hc := (h.ci.choose_spec.choose_spec.box [.int .i64 1, .func (.func 83) #[] #[]]); simpa using hc, NoneTo.zero _ _⟩).mono ?_
  rintro e w' ⟨b, rfl, h1, h2⟩
  cases b
  · obtain ⟨h1, h2⟩ := h1 rfl
    exact ⟨h1.row2, .inl ⟨rfl, ⟨_, _, by simpa using h1⟩, fun _ => h2, fun hh => by omega, fun hh => by omega, fun hh => by omega, fun hh => by omega, fun hh => by omega⟩⟩
  · obtain ⟨h3, h4, h5⟩ := h2 rfl
    exact ⟨h4, .inr ⟨rfl, h3, h5⟩⟩
theorem ck_step1 (hf : ∀ s ∈ sp, s.Fit) (hn : sp.length ≤ 1000000) {W : World} (h : CK base w0 sv sp kb km cb cm rb R 1 W) :
    Calls Tryz.prog 91 #[sv, .func (.func 84) #[] #[]] (W.alloc (.cells #[.int .i64 134, .func (.func 84) #[] #[]] 166)) fun e w' => Row w' W.heap.size [.int .i64 134, .func (.func 84) #[] #[]] 166 ∧ ((e = .returned (.bool false) ∧ CK base w0 sv sp kb km cb cm rb R 2 w') ∨ (e = .returned (.bool true) ∧ Below base w0 w' ∧ Some1 wr2 sp)) := by
  have _ := hf
  refine (contains_84 sp sv _ _ _ hn asks2 ⟨by have hc := (h.ci.choose_spec.choose_spec.box [.int .i64 134, .func (.func 84) #[] #[]]); simpa using hc, NoneTo.zero _ _⟩).mono ?_
  rintro e w' ⟨b, rfl, h1, h2⟩
  cases b
  · obtain ⟨h1, h2⟩ := h1 rfl
    exact ⟨h1.row2, .inl ⟨rfl, ⟨_, _, by simpa using h1⟩, fun _ => h.n1 (by omega), fun _ => h2, fun hh => by omega, fun hh => by omega, fun hh => by omega, fun hh => by omega⟩⟩
  · obtain ⟨h3, h4, h5⟩ := h2 rfl
    exact ⟨h4, .inr ⟨rfl, h3, h5⟩⟩
theorem ck_step2 (hf : ∀ s ∈ sp, s.Fit) (hn : sp.length ≤ 1000000) {W : World} (h : CK base w0 sv sp kb km cb cm rb R 2 W) :
    Calls Tryz.prog 91 #[sv, .func (.func 85) #[] #[.pointer (some ⟨kb, 0, none⟩)]] (W.alloc (.cells #[.int .i64 5, .func (.func 85) #[] #[.pointer (some ⟨kb, 0, none⟩)]] 166)) fun e w' => Row w' W.heap.size [.int .i64 5, .func (.func 85) #[] #[.pointer (some ⟨kb, 0, none⟩)]] 166 ∧ ((e = .returned (.bool false) ∧ CK base w0 sv sp kb km cb cm rb R 3 w') ∨ (e = .returned (.bool true) ∧ Below base w0 w' ∧ Some1 wr3 sp)) := by
  have _ := hf
  refine (contains_85 sp sv _ kb _ _ hn asks3 ⟨by have hc := (h.ci.choose_spec.choose_spec.box [.int .i64 5, .func (.func 85) #[] #[.pointer (some ⟨kb, 0, none⟩)]]); simpa [kindsT] using hc, NoneTo.zero _ _⟩).mono ?_
  rintro e w' ⟨b, rfl, h1, h2⟩
  cases b
  · obtain ⟨h1, h2⟩ := h1 rfl
    exact ⟨h1.row2, .inl ⟨rfl, ⟨_, _, by simpa using h1⟩, fun _ => h.n1 (by omega), fun _ => h.n2 (by omega), fun _ => h2, fun hh => by omega, fun hh => by omega, fun hh => by omega⟩⟩
  · obtain ⟨h3, h4, h5⟩ := h2 rfl
    exact ⟨h4, .inr ⟨rfl, h3, h5⟩⟩
theorem ck_step3 (hf : ∀ s ∈ sp, s.Fit) (hn : sp.length ≤ 1000000) {W : World} (h : CK base w0 sv sp kb km cb cm rb R 3 W) :
    Calls Tryz.prog 91 #[sv, .func (.func 87) #[] #[.pointer (some ⟨kb, 0, none⟩)]] (W.alloc (.cells #[.int .i64 4, .func (.func 87) #[] #[.pointer (some ⟨kb, 0, none⟩)]] 166)) fun e w' => Row w' W.heap.size [.int .i64 4, .func (.func 87) #[] #[.pointer (some ⟨kb, 0, none⟩)]] 166 ∧ ((e = .returned (.bool false) ∧ CK base w0 sv sp kb km cb cm rb R 4 w') ∨ (e = .returned (.bool true) ∧ Below base w0 w' ∧ Some1 wr4 sp)) := by
  have _ := hf
  refine (contains_87 sp sv _ kb _ _ hn (asks4 hf) ⟨by have hc := (h.ci.choose_spec.choose_spec.box [.int .i64 4, .func (.func 87) #[] #[.pointer (some ⟨kb, 0, none⟩)]]); simpa using hc, NoneTo.zero _ _⟩).mono ?_
  rintro e w' ⟨b, rfl, h1, h2⟩
  cases b
  · obtain ⟨h1, h2⟩ := h1 rfl
    exact ⟨h1.row2, .inl ⟨rfl, ⟨_, _, by simpa using h1⟩, fun _ => h.n1 (by omega), fun _ => h.n2 (by omega), fun _ => h.n3 (by omega), fun _ => h2, fun hh => by omega, fun hh => by omega⟩⟩
  · obtain ⟨h3, h4, h5⟩ := h2 rfl
    exact ⟨h4, .inr ⟨rfl, h3, h5⟩⟩
theorem ck_step4 (hf : ∀ s ∈ sp, s.Fit) (hn : sp.length ≤ 1000000) {W : World} (h : CK base w0 sv sp kb km cb cm rb R 4 W) :
    Calls Tryz.prog 91 #[sv, .func (.func 89) #[] #[.pointer (some ⟨kb, 0, none⟩)]] (W.alloc (.cells #[.int .i64 70, .func (.func 89) #[] #[.pointer (some ⟨kb, 0, none⟩)]] 166)) fun e w' => Row w' W.heap.size [.int .i64 70, .func (.func 89) #[] #[.pointer (some ⟨kb, 0, none⟩)]] 166 ∧ ((e = .returned (.bool false) ∧ CK base w0 sv sp kb km cb cm rb R 5 w') ∨ (e = .returned (.bool true) ∧ Below base w0 w' ∧ Some1 wr5 sp)) := by
  have _ := hf
  refine (contains_89 sp sv _ kb _ _ hn (asks5 hf) ⟨by have hc := (h.ci.choose_spec.choose_spec.box [.int .i64 70, .func (.func 89) #[] #[.pointer (some ⟨kb, 0, none⟩)]]); simpa using hc, NoneTo.zero _ _⟩).mono ?_
  rintro e w' ⟨b, rfl, h1, h2⟩
  cases b
  · obtain ⟨h1, h2⟩ := h1 rfl
    exact ⟨h1.row2, .inl ⟨rfl, ⟨_, _, by simpa using h1⟩, fun _ => h.n1 (by omega), fun _ => h.n2 (by omega), fun _ => h.n3 (by omega), fun _ => h.n4 (by omega), fun _ => h2, fun hh => by omega⟩⟩
  · obtain ⟨h3, h4, h5⟩ := h2 rfl
    exact ⟨h4, .inr ⟨rfl, h3, h5⟩⟩
theorem ck_step5 (hf : ∀ s ∈ sp, s.Fit) (hn : sp.length ≤ 1000000) {W : World} (h : CK base w0 sv sp kb km cb cm rb R 5 W) :
    Calls Tryz.prog 91 #[sv, .func (.func 90) #[] #[.pointer (some ⟨cb, 0, none⟩)]] (W.alloc (.cells #[.int .i64 8, .func (.func 90) #[] #[.pointer (some ⟨cb, 0, none⟩)]] 166)) fun e w' => Row w' W.heap.size [.int .i64 8, .func (.func 90) #[] #[.pointer (some ⟨cb, 0, none⟩)]] 166 ∧ ((e = .returned (.bool false) ∧ CK base w0 sv sp kb km cb cm rb R 6 w') ∨ (e = .returned (.bool true) ∧ Below base w0 w' ∧ Some1 wr6 sp)) := by
  have _ := hf
  refine (contains_90 sp sv _ cb _ _ hn (asks6 hf hn) ⟨by have hc := (h.ci.choose_spec.choose_spec.box [.int .i64 8, .func (.func 90) #[] #[.pointer (some ⟨cb, 0, none⟩)]]); simpa [cntT] using hc, NoneTo.zero _ _⟩).mono ?_
  rintro e w' ⟨b, rfl, h1, h2⟩
  cases b
  · obtain ⟨h1, h2⟩ := h1 rfl
    exact ⟨h1.row2, .inl ⟨rfl, ⟨_, _, by simpa using h1⟩, fun _ => h.n1 (by omega), fun _ => h.n2 (by omega), fun _ => h.n3 (by omega), fun _ => h.n4 (by omega), fun _ => h.n5 (by omega), fun _ => h2⟩⟩
  · obtain ⟨h3, h4, h5⟩ := h2 rfl
    exact ⟨h4, .inr ⟨rfl, h3, h5⟩⟩
end
end Go.Proofs.YtamaejlbojbbeaaGreatDoor.Tr
namespace Go.Proofs.YtamaejlbojbbeaaGreatDoor.Tr
open Go.RowKit
open Sb (hid_in Row Sl T5 BL u8v Tab wp_world grownBy_setCell below_of_grown info39 one_u8 splice_all)
theorem ck_start {sp : List Spot} {sv : Value} {w w1 w2 w3 : World} {n : Nat} (HS : Sps w sv sp) (hmi : MapI Value.string (fun _ => True) w1 w.heap.size (updG (fun _ => none) slashB (.int .i64 3)) n) (hg : (w.alloc (.map #[] 0)).grownBy w1 (some w.heap.size)) (hs : w1.heap.size = (w.alloc (.map #[] 0)).heap.size)
    (h2 : w1.alloc (.cells #[.map (some w.heap.size)] 164) = w2) (h3 : (w2.alloc (.map #[] 0)).alloc (.cells #[.map (some w2.heap.size)] 164) = w3) (R : List Value) :
    CK w.heap.size w sv sp w1.heap.size w.heap.size (w2.heap.size + 1) w2.heap.size w3.heap.size R 0 (w3.alloc (.cells R.toArray 166)) := by
  have s1 : w1.heap.size = w.heap.size + 1 := by rw [hs]; simp
  have s2 : w2.heap.size = w.heap.size + 2 := by rw [← h2]; simp; omega
  have s3 : w3.heap.size = w.heap.size + 4 := by rw [← h3]; simp; omega
  have b1 : Below w.heap.size w w1 := below_of_grown ((Below.refl _ _).alloc (Nat.le_refl _) _) hg (by simp) (Nat.le_refl _)
  have b12 : Below w1.heap.size w1 w2 := by rw [← h2]; exact (Below.refl _ _).alloc (Nat.le_refl _) _
  have b23 : Below w2.heap.size w2 w3 := by rw [← h3]; exact ((Below.refl _ _).alloc (Nat.le_refl _) _).alloc (by simp) _
  have b34 : Below w3.heap.size w3 (w3.alloc (.cells R.toArray 166)) := (Below.refl _ _).alloc (Nat.le_refl _) _
  have b24 : Below w2.heap.size w2 (w3.alloc (.cells R.toArray 166)) := b23.trans (b34.mono b23.size)
  have b14 : Below w1.heap.size w1 (w3.alloc (.cells R.toArray 166)) := b12.trans (b24.mono b12.size)
  have b04 : Below w.heap.size w (w3.alloc (.cells R.toArray 166)) := b1.trans (b14.mono b1.size)
  have k2 : KM w2 w1.heap.size w.heap.size V0 := by
    refine ⟨by rw [← h2]; exact Boxed.new w1 164 _, n, ?_⟩
    refine MapI.of_block (w := w1) ?_ (b12.block _ (by omega))
    have e : updG (fun _ => none) slashB (Value.int .i64 3) = fun x => (V0 x).map (Value.int .i64) := map_upd (fun _ => none) slashB 3
    rw [← e]
    exact hmi
  have c3 : KM w3 (w2.heap.size + 1) w2.heap.size (fun _ => none) := by
    have hz : (w2.alloc (.map #[] 0)).heap.size = w2.heap.size + 1 := by simp
    refine ⟨by rw [← h3, ← hz]; exact Boxed.new _ 164 _, 0, ?_⟩
    rw [← h3]
    refine MapI.of_block (w := w2.alloc (.map #[] 0)) (MapI.new _ _ w2) ?_
    exact ((Below.refl _ _).alloc (Nat.le_refl _) _).block _ (by rw [hz]; omega)
  exact ⟨⟨w3.heap.size, R, b04, by simp; omega, HS.below b04, k2.below b24, c3.below b34, Row.new w3 R 166, Row.new w3 R 166, Nat.le_refl _, by omega, by omega⟩, fun h => by omega, fun h => by omega, fun h => by omega, fun h => by omega, fun h => by omega, fun h => by omega⟩
set_option maxHeartbeats 4000000 in
set_option maxRecDepth 100000 in
theorem check_any (sp : List Spot) (sv : Value) (w : World) (h : Sps w sv sp) (hf : ∀ s ∈ sp, s.Fit) (hn : sp.length ≤ 1000000) :
    Calls Tryz.prog 40 #[sv] w fun e w' => ∃ k, e = .returned (.int .i64 k) ∧ Below w.heap.size w w' ∧
      ((k = 1 ∧ Some1 wr1 sp) ∨ (NoneTo wr1 sp sp.length ∧ ((k = 134 ∧ Some1 wr2 sp) ∨ (NoneTo wr2 sp sp.length ∧ ((k = 5 ∧ Some1 wr3 sp) ∨ (NoneTo wr3 sp sp.length ∧ ((k = 4 ∧ Some1 wr4 sp) ∨ (NoneTo wr4 sp sp.length ∧ ((k = 70 ∧ Some1 wr5 sp) ∨ (NoneTo wr5 sp sp.length ∧ ((k = 8 ∧ Some1 wr6 sp) ∨ (NoneTo wr6 sp sp.length ∧ k = 0)))))))))))) := by
  have HS := hid_in h
  have HF := hid_in hf
  have HN := hid_in hn
  obtain ⟨p, cap, -, -, rfl, -⟩ := h
  clear hf hn
  have hm1 : ∀ w', (Instr.makeMap 164 none).run Tryz.prog w' = .ok (.map (some w'.heap.size)) (w'.alloc (.map #[] 0)) := fun w' => run_makeMap 164 w'
  obtain ⟨w1, hup, hmi1, hg1, hs1⟩ := (MapI.new Value.string (fun _ => True) w).store keyText 164 3 Tryz.underlying164 slashB trivial (.int .i64 3)
  have HST := hid_in (fun w2 w3 h2 h3 R => ck_start (w2 := w2) (w3 := w3) HS.out hmi1 hg1 hs1 h2 h3 R)
  unfold slashB at hup
  clear hmi1 hg1 hs1 HS
  generalize hsl : sp.length = sl at *
  have HSL := hid_in hsl
  clear hsl
  go_enter Tryz.func40, Tryz.ntmps40
  go_upto_region 2 with fail
  obtain ⟨w2, HW2⟩ : ∃ w2, Hid (w1.alloc (.cells #[.map (some w.heap.size)] 164) = w2) := ⟨_, hid_in rfl⟩
  refine wp_world HW2.out ?_
  clear hup
  go_upto_region 3 with fail
  obtain ⟨w3, HW3⟩ : ∃ w3, Hid ((w2.alloc (.map #[] 0)).alloc (.cells #[.map (some w2.heap.size)] 164) = w3) := ⟨_, hid_in rfl⟩
  refine wp_world HW3.out ?_
  clear hm1
  go_upto_region 4 with fail
  have HCK := hid_in (HST.out w2 w3 HW2.out HW3.out [Value.int .i64 1, .func (.func 83) #[] #[], .int .i64 134, .func (.func 84) #[] #[], .int .i64 5, .func (.func 85) #[] #[.pointer (some ⟨w1.heap.size, 0, none⟩)], .int .i64 4, .func (.func 87) #[] #[.pointer (some ⟨w1.heap.size, 0, none⟩)], .int .i64 70, .func (.func 89) #[] #[.pointer (some ⟨w1.heap.size, 0, none⟩)], .int .i64 8, .func (.func 90) #[] #[.pointer (some ⟨w2.heap.size + 1, 0, none⟩)]])
  obtain ⟨w4, HW4⟩ : ∃ w4, Hid (w3.alloc (.cells #[.int .i64 1, .func (.func 83) #[] #[], .int .i64 134, .func (.func 84) #[] #[], .int .i64 5, .func (.func 85) #[] #[.pointer (some ⟨w1.heap.size, 0, none⟩)], .int .i64 4, .func (.func 87) #[] #[.pointer (some ⟨w1.heap.size, 0, none⟩)], .int .i64 70, .func (.func 89) #[] #[.pointer (some ⟨w1.heap.size, 0, none⟩)], .int .i64 8, .func (.func 90) #[] #[.pointer (some ⟨w2.heap.size + 1, 0, none⟩)]] 166) = w4) := ⟨_, hid_in rfl⟩
  refine wp_world HW4.out ?_
  obtain ⟨R, HR⟩ : ∃ R, Hid ([Value.int .i64 1, .func (.func 83) #[] #[], .int .i64 134, .func (.func 84) #[] #[], .int .i64 5, .func (.func 85) #[] #[.pointer (some ⟨w1.heap.size, 0, none⟩)], .int .i64 4, .func (.func 87) #[] #[.pointer (some ⟨w1.heap.size, 0, none⟩)], .int .i64 70, .func (.func 89) #[] #[.pointer (some ⟨w1.heap.size, 0, none⟩)], .int .i64 8, .func (.func 90) #[] #[.pointer (some ⟨w2.heap.size + 1, 0, none⟩)]] = R) := ⟨_, hid_in rfl⟩
  have HCK4 : Hid (CK w.heap.size w (.slice p sl cap) sp w1.heap.size w.heap.size (w2.heap.size + 1) w2.heap.size w3.heap.size R 0 w4) := by
    show CK _ _ _ _ _ _ _ _ _ _ _ _
    rw [← HW4.out, ← HR.out]
    exact HCK.out
  clear HCK HST HW2 HW3 HW4
  generalize w1.heap.size = kb at *
  generalize w2.heap.size = cm at *
  generalize w3.heap.size = rb at *
  go_wp2_with fail
  go_loopw [24] (fun vi W => ∃ i : Nat, i ≤ 6 ∧ vi = .int .i64 (i : Int) ∧ Hid (CK w.heap.size w (.slice p sl cap) sp kb w.heap.size (cm + 1) cm rb R i W)) (fun vi _ => 6 - (intOf vi).toNat)
  case atStart => exact ⟨0, by omega, rfl, HCK4.out⟩
  case round =>
    clear HCK4
    obtain ⟨i, hi, rfl, hck⟩ := hrel
    have hrow : Row wr rb R 166 := by
      obtain ⟨_, _, hci⟩ := hck.out.ci
      exact hci.row
    rw [← HR.out] at hrow
    have hcs : i = 0 ∨ i = 1 ∨ i = 2 ∨ i = 3 ∨ i = 4 ∨ i = 5 ∨ i = 6 := by omega
    rcases hcs with rfl | rfl | rfl | rfl | rfl | rfl | rfl
    · have m0 : wr.cell? ⟨rb, 0, none⟩ = some (.int .i64 1) := hrow.cell 0
      have m1 : wr.cell? ⟨rb, 1, none⟩ = some (.func (.func 83) #[] #[]) := hrow.cell 1
      have HST := hid_in (ck_step0 HF.out (by rw [HSL.out]; exact HN.out) hck.out)
      have HCKo := hck
      clear hrow hck
      go_wp2_with (first | (go_at_call 91; refine HST.out.mono ?_; rintro e w6 ⟨hr6, hor⟩; have d0 : w6.cell? ⟨wr.heap.size, 0, none⟩ = some (.int .i64 1) := hr6.cell 0; clear hr6; rcases hor with ⟨rfl, hc6⟩ | ⟨rfl, hb6, hsm⟩))
      · go_wp2
        go_roundw
        case rel => exact ⟨1, by omega, by go_num, hc6⟩
        case measure => simp [intOf]
      · go_wp2
        go_ret
        refine ⟨1, rfl, hb6, ?_⟩
        rw [← HSL.out]
        exact .inl ⟨rfl, hsm⟩
    · have m0 : wr.cell? ⟨rb, 2, none⟩ = some (.int .i64 134) := hrow.cell 2
      have m1 : wr.cell? ⟨rb, 3, none⟩ = some (.func (.func 84) #[] #[]) := hrow.cell 3
      have HST := hid_in (ck_step1 HF.out (by rw [HSL.out]; exact HN.out) hck.out)
      have HCKo := hck
      clear hrow hck
      go_wp2_with (first | (go_at_call 91; refine HST.out.mono ?_; rintro e w6 ⟨hr6, hor⟩; have d0 : w6.cell? ⟨wr.heap.size, 0, none⟩ = some (.int .i64 134) := hr6.cell 0; clear hr6; rcases hor with ⟨rfl, hc6⟩ | ⟨rfl, hb6, hsm⟩))
      · go_wp2
        go_roundw
        case rel => exact ⟨2, by omega, by go_num, hc6⟩
        case measure => simp [intOf]
      · go_wp2
        go_ret
        refine ⟨134, rfl, hb6, ?_⟩
        rw [← HSL.out]
        exact .inr ⟨HCKo.out.n1 (by omega), .inl ⟨rfl, hsm⟩⟩
    · have m0 : wr.cell? ⟨rb, 4, none⟩ = some (.int .i64 5) := hrow.cell 4
      have m1 : wr.cell? ⟨rb, 5, none⟩ = some (.func (.func 85) #[] #[.pointer (some ⟨kb, 0, none⟩)]) := hrow.cell 5
      have HST := hid_in (ck_step2 HF.out (by rw [HSL.out]; exact HN.out) hck.out)
      have HCKo := hck
      clear hrow hck
      go_wp2_with (first | (go_at_call 91; refine HST.out.mono ?_; rintro e w6 ⟨hr6, hor⟩; have d0 : w6.cell? ⟨wr.heap.size, 0, none⟩ = some (.int .i64 5) := hr6.cell 0; clear hr6; rcases hor with ⟨rfl, hc6⟩ | ⟨rfl, hb6, hsm⟩))
      · go_wp2
        go_roundw
        case rel => exact ⟨3, by omega, by go_num, hc6⟩
        case measure => simp [intOf]
      · go_wp2
        go_ret
        refine ⟨5, rfl, hb6, ?_⟩
        rw [← HSL.out]
        exact .inr ⟨HCKo.out.n1 (by omega), .inr ⟨HCKo.out.n2 (by omega), .inl ⟨rfl, hsm⟩⟩⟩
    · have m0 : wr.cell? ⟨rb, 6, none⟩ = some (.int .i64 4) := hrow.cell 6
      have m1 : wr.cell? ⟨rb, 7, none⟩ = some (.func (.func 87) #[] #[.pointer (some ⟨kb, 0, none⟩)]) := hrow.cell 7
      have HST := hid_in (ck_step3 HF.out (by rw [HSL.out]; exact HN.out) hck.out)
      have HCKo := hck
      clear hrow hck
      go_wp2_with (first | (go_at_call 91; refine HST.out.mono ?_; rintro e w6 ⟨hr6, hor⟩; have d0 : w6.cell? ⟨wr.heap.size, 0, none⟩ = some (.int .i64 4) := hr6.cell 0; clear hr6; rcases hor with ⟨rfl, hc6⟩ | ⟨rfl, hb6, hsm⟩))
      · go_wp2
        go_roundw
        case rel => exact ⟨4, by omega, by go_num, hc6⟩
        case measure => simp [intOf]
      · go_wp2
        go_ret
        refine ⟨4, rfl, hb6, ?_⟩
        rw [← HSL.out]
        exact .inr ⟨HCKo.out.n1 (by omega), .inr ⟨HCKo.out.n2 (by omega), .inr ⟨HCKo.out.n3 (by omega), .inl ⟨rfl, hsm⟩⟩⟩⟩
    · have m0 : wr.cell? ⟨rb, 8, none⟩ = some (.int .i64 70) := hrow.cell 8
      have m1 : wr.cell? ⟨rb, 9, none⟩ = some (.func (.func 89) #[] #[.pointer (some ⟨kb, 0, none⟩)]) := hrow.cell 9
      have HST := hid_in (ck_step4 HF.out (by rw [HSL.out]; exact HN.out) hck.out)
      have HCKo := hck
      clear hrow hck
      go_wp2_with (first | (go_at_call 91; refine HST.out.mono ?_; rintro e w6 ⟨hr6, hor⟩; have d0 : w6.cell? ⟨wr.heap.size, 0, none⟩ = some (.int .i64 70) := hr6.cell 0; clear hr6; rcases hor with ⟨rfl, hc6⟩ | ⟨rfl, hb6, hsm⟩))
      · go_wp2
        go_roundw
        case rel => exact ⟨5, by omega, by go_num, hc6⟩
        case measure => simp [intOf]
      · go_wp2
        go_ret
        refine ⟨70, rfl, hb6, ?_⟩
        rw [← HSL.out]
        exact .inr ⟨HCKo.out.n1 (by omega), .inr ⟨HCKo.out.n2 (by omega), .inr ⟨HCKo.out.n3 (by omega), .inr ⟨HCKo.out.n4 (by omega), .inl ⟨rfl, hsm⟩⟩⟩⟩⟩
    · have m0 : wr.cell? ⟨rb, 10, none⟩ = some (.int .i64 8) := hrow.cell 10
      have m1 : wr.cell? ⟨rb, 11, none⟩ = some (.func (.func 90) #[] #[.pointer (some ⟨cm + 1, 0, none⟩)]) := hrow.cell 11
      have HST := hid_in (ck_step5 HF.out (by rw [HSL.out]; exact HN.out) hck.out)
      have HCKo := hck
      clear hrow hck
      go_wp2_with (first | (go_at_call 91; refine HST.out.mono ?_; rintro e w6 ⟨hr6, hor⟩; have d0 : w6.cell? ⟨wr.heap.size, 0, none⟩ = some (.int .i64 8) := hr6.cell 0; clear hr6; rcases hor with ⟨rfl, hc6⟩ | ⟨rfl, hb6, hsm⟩))
      · go_wp2
        go_roundw
        case rel => exact ⟨6, by omega, by go_num, hc6⟩
        case measure => simp [intOf]
      · go_wp2
        go_ret
        refine ⟨8, rfl, hb6, ?_⟩
        rw [← HSL.out]
        exact .inr ⟨HCKo.out.n1 (by omega), .inr ⟨HCKo.out.n2 (by omega), .inr ⟨HCKo.out.n3 (by omega), .inr ⟨HCKo.out.n4 (by omega), .inr ⟨HCKo.out.n5 (by omega), .inl ⟨rfl, hsm⟩⟩⟩⟩⟩⟩
    · obtain ⟨_, _, hci⟩ := hck.out.ci
      have HBL := hid_in hci.bel
      clear hrow hci
      go_wp2
      go_ret
      refine ⟨0, rfl, HBL.out, ?_⟩
      rw [← HSL.out]
      exact .inr ⟨hck.out.n1 (by omega), .inr ⟨hck.out.n2 (by omega), .inr ⟨hck.out.n3 (by omega), .inr ⟨hck.out.n4 (by omega), .inr ⟨hck.out.n5 (by omega), .inr ⟨hck.out.n6 (by omega), rfl⟩⟩⟩⟩⟩⟩
end Go.Proofs.YtamaejlbojbbeaaGreatDoor.Tr
namespace Go.Proofs
open Go.Shelf Go.RowKit Go.Lib Go.Sort
def Tryz.sortSp_ren : Go.Shelf.Ren := ⟨fun | 6 => 41 | 15 => 93 | 14 => 92 | 28 => 152 | 29 => 153 | 20 => 144 | 21 => 145 | 22 => 146 | 23 => 147 | 24 => 148 | 25 => 149 | 26 => 150 | 27 => 151 | 46 => 184 | 47 => 185 | 48 => 186 | 49 => 187 | 50 => 188 | 57 => 209 | n => n, fun | 22 => 86 | 24 => 93 | 25 => 94 | 3 => 3 | 39 => 54 | 0 => 0 | 53 => 155 | 55 => 154 | 4 => 4 | 46 => 227 | 45 => 226 | 50 => 133 | 5 => 5 | 9 => 9 | 66 => 271 | 70 => 274 | 76 => 292 | 77 => 293 | n => n, fun | n => n⟩
theorem Tryz.sortSp : Go.Proofs.SlLaysF0.n6 Tryz.prog Tryz.sortSp_ren := {
  mixed := by kernel_rfl
  f6 := ⟨Tryz.f41.name, by decide, Tryz.func41.trans (congrArg some (by kernel_rfl))⟩
  f14 := ⟨Tryz.f92.name, by decide, Tryz.func92.trans (congrArg some (by kernel_rfl))⟩
  f15 := Tryz.func93.trans (congrArg some (by kernel_rfl))
  f20 := ⟨Tryz.f144.name, by decide, Tryz.func144.trans (congrArg some (by kernel_rfl))⟩
  f21 := ⟨Tryz.f145.name, by decide, Tryz.func145.trans (congrArg some (by kernel_rfl))⟩
  f22 := ⟨Tryz.f146.name, by decide, Tryz.func146.trans (congrArg some (by kernel_rfl))⟩
  f23 := ⟨Tryz.f147.name, by decide, Tryz.func147.trans (congrArg some (by kernel_rfl))⟩
  f24 := ⟨Tryz.f148.name, by decide, Tryz.func148.trans (congrArg some (by kernel_rfl))⟩
  f25 := ⟨Tryz.f149.name, by decide, Tryz.func149.trans (congrArg some (by kernel_rfl))⟩
  f26 := ⟨Tryz.f150.name, by decide, Tryz.func150.trans (congrArg some (by kernel_rfl))⟩
  f27 := ⟨Tryz.f151.name, by decide, Tryz.func151.trans (congrArg some (by kernel_rfl))⟩
  f28 := Tryz.func152.trans (congrArg some (by kernel_rfl))
  f29 := Tryz.func153.trans (congrArg some (by kernel_rfl))
  f46 := ⟨Tryz.f184.name, by decide, Tryz.func184.trans (congrArg some (by kernel_rfl))⟩
  f47 := Tryz.func185.trans (congrArg some (by kernel_rfl))
  f48 := Tryz.func186.trans (congrArg some (by kernel_rfl))
  f49 := ⟨Tryz.f187.name, by decide, Tryz.func187.trans (congrArg some (by kernel_rfl))⟩
  f50 := ⟨Tryz.f188.name, by decide, Tryz.func188.trans (congrArg some (by kernel_rfl))⟩
  f57 := ⟨Tryz.f209.name, by decide, Tryz.func209.trans (congrArg some (by kernel_rfl))⟩
  t0 := Tryz.underlying0
  a0 := Tryz.isAgg0
  z0 := Tryz.sizeOf0
  v0 := Tryz.zeroValue0
  t3 := Tryz.underlying3
  a3 := Tryz.isAgg3
  z3 := Tryz.sizeOf3
  v3 := Tryz.zeroValue3
  t4 := Tryz.underlying4
  a4 := Tryz.isAgg4
  z4 := Tryz.sizeOf4
  v4 := Tryz.zeroValue4
  t5 := Tryz.underlying5
  a5 := Tryz.isAgg5
  z5 := Tryz.sizeOf5
  v5 := Tryz.zeroValue5
  t9 := Tryz.underlying9
  a9 := Tryz.isAgg9
  z9 := Tryz.sizeOf9
  v9 := Tryz.zeroValue9
  t22 := Tryz.underlying86
  a22 := Tryz.isAgg86
  z22 := Tryz.sizeOf86
  v22 := Tryz.zeroValue86
  t25 := Tryz.underlying94
  a25 := Tryz.isAgg94
  z25 := Tryz.sizeOf94
  v25 := Tryz.zeroValue94
  t39 := Tryz.underlying54
  a39 := Tryz.isAgg54
  z39 := Tryz.sizeOf54
  v39 := Tryz.zeroValue54
  t45 := Tryz.underlying226
  a45 := Tryz.isAgg226
  z45 := Tryz.sizeOf226
  v45 := Tryz.zeroValue226
  t46 := Tryz.underlying227
  a46 := Tryz.isAgg227
  z46 := Tryz.sizeOf227
  v46 := Tryz.zeroValue227
  t50 := Tryz.underlying133
  a50 := Tryz.isAgg133
  z50 := Tryz.sizeOf133
  v50 := Tryz.zeroValue133
  t53 := Tryz.underlying155
  a53 := Tryz.isAgg155
  z53 := Tryz.sizeOf155
  v53 := Tryz.zeroValue155
  t55 := Tryz.underlying154
  a55 := Tryz.isAgg154
  z55 := Tryz.sizeOf154
  v55 := Tryz.zeroValue154
  t66 := Tryz.underlying271
  a66 := Tryz.isAgg271
  z66 := Tryz.sizeOf271
  v66 := Tryz.zeroValue271
  t70 := Tryz.underlying274
  a70 := Tryz.isAgg274
  z70 := Tryz.sizeOf274
  v70 := Tryz.zeroValue274
  t76 := Tryz.underlying292
  a76 := Tryz.isAgg292
  z76 := Tryz.sizeOf292
  v76 := Tryz.zeroValue292
  t77 := Tryz.underlying293
  a77 := Tryz.isAgg293
  z77 := Tryz.sizeOf293
  v77 := Tryz.zeroValue293 }
theorem Tryz.agg93 : ∀ w, (isAgg 93).run Tryz.prog w = .ok true w := fun w => by kernel_rfl
theorem Tryz.size93 : ∀ w, (Go.sizeOf 93).run Tryz.prog w = .ok 4 w := fun w => by kernel_rfl
end Go.Proofs
