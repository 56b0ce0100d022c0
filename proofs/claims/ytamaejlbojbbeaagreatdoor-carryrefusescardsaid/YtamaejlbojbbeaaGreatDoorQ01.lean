/-
  A map as a function, whatever its keys are: what a kind of key must tell, and what look-up, store and len do. The walks of math/bits.RotateLeft32 and sha.right: a word turned right. The words of SHA-256 as the program reckons them, in plain numbers. The walk of sha.schedule: the words of a block. The walk of sha.mix: the state behind a block.
-/
import Derived.Test.YtamaejlbojbbeaaGreatDoorRows
import Derived.WalkKit
import Derived.WalkSpells
import Derived.WalkLawsBesides
import Derived.BigQuiet
import Derived.BigRegion
import Derived.Deep.MidRow
import Derived.Deep.Light
import Derived.Test.YtamaejlbojbbeaaGreatDoorQ00
namespace Go.Proofs.YtamaejlbojbbeaaGreatDoor.Tr
open Go.RowKit
open Go.ChangeMaps (setBlock heap_setBlock_same heap_setBlock_other)
/-- what is asked of a kind of key -/
structure KeyOf {α : Type} (kt : TypeId) (kv : α → Value) (G : α → Prop) : Prop where
  inj : ∀ {a b : α}, kv a = kv b → a = b
  check : ∀ (em : Bool) (d : α), G d → ∀ w, (Instr.checkKey em 10000 kt (kv d)).run Tryz.prog w = .ok () w
  find : ∀ (d : α), G d → ∀ (w : World) (es : List MapEntry), (∀ e ∈ es, ∃ d : α, G d ∧ e.key = kv d) →
    ((Instr.findKey kt (kv d) es).run Tryz.prog w = .ok none w ∧ ∀ e ∈ es, e.key ≠ kv d) ∨
    ∃ j e, (Instr.findKey kt (kv d) es).run Tryz.prog w = .ok (some (j, e.val)) w ∧ es[j]? = some e ∧ e.key = kv d
  stays : ∀ (d : α), G d → ∀ w, (Instr.keyThatStays (kv d) (kv d)).run Tryz.prog w = .ok (kv d) w
theorem keyDigest : KeyOf 30 Sb.dv (fun d => d.length = 32) where
  inj := Sb.dv_inj
  check em d hd w := Sb.check39 em d hd w
  find d hd w es h := Sb.find39 d hd w es h
  stays d _ w := Sb.stays39 d w
def updG {α : Type} [DecidableEq α] (V : α → Option Value) (d : α) (v : Value) : α → Option Value := fun x => if x = d then some v else V x
structure MapG {α : Type} (kv : α → Value) (G : α → Prop) (l : List MapEntry) (V : α → Option Value) : Prop where
  keys : ∀ e ∈ l, ∃ d : α, G d ∧ e.key = kv d
  val : ∀ e ∈ l, ∀ d, e.key = kv d → V d = some e.val
  all : ∀ d v, V d = some v → ∃ e ∈ l, e.key = kv d
  one : ∀ (i j : Nat) (e e' : MapEntry), l[i]? = some e → l[j]? = some e' → e.key = e'.key → i = j
theorem MapG.nil {α : Type} (kv : α → Value) (G : α → Prop) : MapG kv G [] (fun _ => none) := ⟨by intro e he; simp at he, by simp, by simp, by simp⟩
theorem MapG.push {α : Type} [DecidableEq α] {l : List MapEntry} {V : α → Option Value} {kv : α → Value} {G : α → Prop} {kt : TypeId} (K : KeyOf kt kv G) (h : MapG kv G l V) (d : α) (hd : G d) (v : Value) (c : Nat) (hn : ∀ e ∈ l, e.key ≠ kv d) : MapG kv G (l ++ [⟨kv d, v, c⟩]) (updG V d v) where
  keys e he := by
    rcases List.mem_append.1 he with he | he
    · exact h.keys e he
    · obtain rfl := List.mem_singleton.1 he
      exact ⟨d, hd, rfl⟩
  val e he d' hk := by
    unfold updG
    rcases List.mem_append.1 he with he | he
    · rw [if_neg (fun x => hn e he (by rw [hk, x]))]
      exact h.val e he d' hk
    · obtain rfl := List.mem_singleton.1 he
      rw [if_pos (K.inj hk).symm]
  all d' v' hv := by
    unfold updG at hv
    by_cases hc : d' = d
    · exact ⟨_, List.mem_append_right _ (List.mem_singleton.2 rfl), by rw [hc]⟩
    · rw [if_neg hc] at hv
      obtain ⟨e, he, hk⟩ := h.all d' v' hv
      exact ⟨e, List.mem_append_left _ he, hk⟩
  one i j e e' hi hj hk := by
    rw [List.getElem?_append] at hi hj
    split at hi <;> split at hj
    · exact h.one i j e e' hi hj hk
    · rename_i h1 h2
      obtain ⟨h3, rfl⟩ := List.getElem?_eq_some_iff.1 hj
      simp at h3
      exact absurd (by rw [hk]; simp [h3]) (hn e (List.mem_of_getElem? hi))
    · rename_i h1 h2
      obtain ⟨h3, rfl⟩ := List.getElem?_eq_some_iff.1 hi
      simp at h3
      exact absurd (by rw [← hk]; simp [h3]) (hn e' (List.mem_of_getElem? hj))
    · rename_i h1 h2
      have h3 := (List.getElem?_eq_some_iff.1 hi).1
      have h4 := (List.getElem?_eq_some_iff.1 hj).1
      simp at h3 h4
      omega
theorem MapG.set {α : Type} [DecidableEq α] {l : List MapEntry} {V : α → Option Value} {kv : α → Value} {G : α → Prop} {kt : TypeId} (K : KeyOf kt kv G) (h : MapG kv G l V) (d : α) (hd : G d) (v : Value) (i : Nat) (e0 : MapEntry) (h0 : l[i]? = some e0) (hk0 : e0.key = kv d) : MapG kv G (l.set i { e0 with key := kv d, val := v }) (updG V d v) where
  keys e he := by
    rcases List.mem_or_eq_of_mem_set he with he | rfl
    · exact h.keys e he
    · exact ⟨d, hd, rfl⟩
  val e he d' hk := by
    unfold updG
    obtain ⟨j, hj, hje⟩ := List.getElem_of_mem he
    have hjq : (l.set i { e0 with key := kv d, val := v })[j]? = some e := by rw [List.getElem?_eq_getElem hj, hje]
    have hil : i < l.length := (List.getElem?_eq_some_iff.1 h0).1
    rw [List.getElem?_set] at hjq
    split at hjq
    · obtain rfl := Option.some.inj hjq
      rw [if_pos (K.inj hk).symm]
    · rename_i hne
      have hm := List.mem_of_getElem? hjq
      rw [if_neg (fun x => hne (h.one i j e0 e h0 hjq (by rw [hk0, hk, x])))]
      exact h.val e hm d' hk
  all d' v' hv := by
    unfold updG at hv
    have hil : i < l.length := (List.getElem?_eq_some_iff.1 h0).1
    by_cases hc : d' = d
    · exact ⟨_, List.mem_set hil _, by rw [hc]⟩
    · rw [if_neg hc] at hv
      obtain ⟨e, he, hk⟩ := h.all d' v' hv
      obtain ⟨j, hj, hje⟩ := List.getElem_of_mem he
      have hne : i ≠ j := fun x => hc (by
        subst x
        rw [List.getElem?_eq_getElem hj, hje] at h0
        obtain rfl := Option.some.inj h0
        exact K.inj (hk.symm.trans hk0))
      refine ⟨e, ?_, hk⟩
      refine List.mem_of_getElem? (i := j) ?_
      rw [List.getElem?_set_ne hne, List.getElem?_eq_getElem hj, hje]
  one a b e e' ha hb hk := by
    have key : ∀ (a : Nat) (e : MapEntry), (l.set i { e0 with key := kv d, val := v })[a]? = some e → ∃ e1, l[a]? = some e1 ∧ e1.key = e.key := by
      intro a e ha
      rw [List.getElem?_set] at ha
      split at ha
      · rename_i hia
        split at ha
        · obtain rfl := Option.some.inj ha
          exact ⟨e0, hia ▸ h0, hk0⟩
        · cases ha
      · exact ⟨e, ha, rfl⟩
    obtain ⟨e1, h1, k1⟩ := key a e ha
    obtain ⟨e2, h2, k2⟩ := key b e' hb
    exact h.one a b e1 e2 h1 h2 (by rw [k1, k2, hk])
/-- block m of the world is a map with n keys, that reads as V -/
def MapI {α : Type} (kv : α → Value) (G : α → Prop) (w : World) (m : Nat) (V : α → Option Value) (n : Nat) : Prop := ∃ es clock, w.heap[m]? = some (.map es clock) ∧ MapG kv G es.toList V ∧ es.size = n
theorem MapI.lt {α : Type} {kv : α → Value} {G : α → Prop} {w : World} {m n : Nat} {V : α → Option Value} (h : MapI kv G w m V n) : m < w.heap.size := by
  obtain ⟨es, clock, hb, _⟩ := h
  exact (Array.getElem?_eq_some_iff.1 hb).1
theorem MapI.of_block {α : Type} {kv : α → Value} {G : α → Prop} {w w' : World} {m n : Nat} {V : α → Option Value} (h : MapI kv G w m V n) (hb : w'.heap[m]? = w.heap[m]?) : MapI kv G w' m V n := by
  obtain ⟨es, clock, h1, h2⟩ := h
  exact ⟨es, clock, by rw [hb, h1], h2⟩
theorem MapI.new {α : Type} (kv : α → Value) (G : α → Prop) (w : World) : MapI kv G (w.alloc (.map #[] 0)) w.heap.size (fun _ => none) 0 := ⟨#[], 0, (MapKept.heap_alloc w _).1, MapG.nil kv G, rfl⟩
theorem MapI.look {α : Type} {kv : α → Value} {G : α → Prop} {w : World} {m n : Nat} {V : α → Option Value} (h : MapI kv G w m V n) {kt : TypeId} (K : KeyOf kt kv G) (t e : TypeId) (ht : Tryz.prog.underlying t = some (.map kt e)) (z : Value) (hz : (zeroValue e).run Tryz.prog w = .ok z w) (d : α) (hd : G d) :
    (Instr.lookup t (.map (some m)) (kv d) true).run Tryz.prog w = .ok (.tuple #[(V d).getD z, .bool (V d).isSome]) w := by
  obtain ⟨es, clock, hb, hl, _⟩ := h
  rcases K.find d hd w es.toList hl.keys with ⟨h1, h2⟩ | ⟨j, e0, h1, h2, h3⟩
  · have hv : V d = none := by
      cases hc : V d with
      | none => rfl
      | some v => obtain ⟨e1, he, hk⟩ := hl.all d v hc; exact absurd hk (h2 e1 he)
    simp [Instr.lookup, run_underlying ht, MapKept.run_getObj_map hb, K.check _ d hd, h1, hz, Result.andThen, hv]
  · have hv := hl.val e0 (List.mem_of_getElem? h2) d h3
    simp [Instr.lookup, run_underlying ht, MapKept.run_getObj_map hb, K.check _ d hd, h1, Result.andThen, hv]
theorem MapI.len {α : Type} {kv : α → Value} {G : α → Prop} {w : World} {m n : Nat} {V : α → Option Value} (h : MapI kv G w m V n) (kt t e : TypeId) (ht : Tryz.prog.underlying t = some (.map kt e)) (ty : TypeId) :
    (Builtin.len_ #[t] ty #[.map (some m)]).run Tryz.prog w = .ok (.int .i64 (n : Int)) w := by
  obtain ⟨es, clock, hb, hl, hn⟩ := h
  simp [Builtin.len_, run_underlying ht, MapKept.run_getObj_map hb, goInt, Result.andThen, hn]
theorem MapI.store {α : Type} [DecidableEq α] {kv : α → Value} {G : α → Prop} {w : World} {m n : Nat} {V : α → Option Value} (h : MapI kv G w m V n) {kt : TypeId} (K : KeyOf kt kv G) (t e : TypeId) (ht : Tryz.prog.underlying t = some (.map kt e)) (d : α) (hd : G d) (v : Value) :
    ∃ w', (Instr.mapUpdate t (.map (some m)) (kv d) v).run Tryz.prog w = .ok () w' ∧ MapI kv G w' m (updG V d v) (if (V d).isSome then n else n + 1) ∧ w.grownBy w' (some m) ∧ w'.heap.size = w.heap.size := by
  obtain ⟨es, clock, hb, hl, hn⟩ := h
  have hgr : ∀ o, w.grownBy (setBlock w m o) (some m) ∧ (setBlock w m o).heap.size = w.heap.size := fun o => ⟨⟨rfl, rfl, rfl, by simp [setBlock], fun i _ hi => heap_setBlock_other hb _ (fun e => hi (by rw [e]))⟩, by simp [setBlock]⟩
  rcases K.find d hd w es.toList hl.keys with ⟨h1, h2⟩ | ⟨j, e0, h1, h2, h3⟩
  · have hv : V d = none := by
      cases hc : V d with
      | none => rfl
      | some v => obtain ⟨e1, he, hk⟩ := hl.all d v hc; exact absurd hk (h2 e1 he)
    refine ⟨setBlock w m (.map (es.push ⟨kv d, v, clock⟩) (clock + 1)), ?_, ⟨_, _, heap_setBlock_same hb _, ?_, ?_⟩, hgr _⟩
    · simp [Instr.mapUpdate, run_underlying ht, MapKept.run_getObj_map hb, K.check _ d hd, h1, MapKept.run_setObj_map _ hb, Result.andThen, setBlock]
    · rw [Array.toList_push]; exact hl.push K d hd v clock h2
    · rw [hv]; simp [hn]
  · have hv := hl.val e0 (List.mem_of_getElem? h2) d h3
    have hj : es[j]? = some e0 := by simpa using h2
    have hjs : j < es.size := (Array.getElem?_eq_some_iff.1 hj).1
    have hset : es.modify j (fun e => { e with key := kv d, val := v }) = es.set j { e0 with key := kv d, val := v } hjs := by
      apply Array.ext
      · simp
      · intro i h1 h2
        obtain ⟨_, rfl⟩ := Array.getElem?_eq_some_iff.1 hj
        rw [Array.getElem_modify, Array.getElem_set]
        by_cases hc : j = i
        · subst hc; simp
        · simp [hc]
    refine ⟨setBlock w m (.map (es.modify j (fun e => { e with key := kv d, val := v })) clock), ?_, ⟨_, _, heap_setBlock_same hb _, ?_, ?_⟩, hgr _⟩
    · simp [Instr.mapUpdate, run_underlying ht, MapKept.run_getObj_map hb, K.check _ d hd, h1, hj, h3, K.stays d hd, MapKept.run_setObj_map _ hb, Result.andThen, setBlock]
    · rw [hset, Array.toList_set]; exact hl.set K d hd v j e0 h2 h3
    · rw [hv]; simp [hn]
/-- a text as a key -/
theorem now_str (d : ByteArray) : ∀ (es : List MapEntry) (i : Nat), (∀ e ∈ es, ∃ x : ByteArray, True ∧ e.key = .string x) →
    (Instr.findNow .string (.string d) es i = some none ∧ ∀ e ∈ es, e.key ≠ .string d) ∨
    ∃ j e, Instr.findNow .string (.string d) es i = some (some (i + j, e.val)) ∧ es[j]? = some e ∧ e.key = .string d
  | [], i, _ => .inl ⟨rfl, by simp⟩
  | e :: es, i, h => by
    obtain ⟨x, -, hk⟩ := h e (by simp)
    by_cases hc : d = x
    · refine .inr ⟨0, e, ?_, by simp, by rw [hk, hc]⟩
      have hb : (d == x) = true := (MapKept.bytes_beq d x).2 hc
      simp only [Instr.findNow, hk, Instr.sameNow, hb, Nat.add_zero]
    · have hstep : Instr.findNow .string (.string d) (e :: es) i = Instr.findNow .string (.string d) es (i + 1) := by
        have hb : (d == x) = false := by
          rw [Bool.eq_false_iff]
          exact fun hh => hc ((MapKept.bytes_beq d x).1 hh)
        simp only [Instr.findNow, hk, Instr.sameNow, hb]
      rw [hstep]
      rcases now_str d es (i + 1) (fun y hy => h y (by simp [hy])) with ⟨h1, h2⟩ | ⟨j, e2, h1, h2, h3⟩
      · refine .inl ⟨h1, fun y hy => ?_⟩
        rcases List.mem_cons.1 hy with rfl | hy
        · rw [hk]; exact fun hh => hc (by injection hh with hh; exact hh.symm)
        · exact h2 y hy
      · exact .inr ⟨j + 1, e2, by rw [h1, show i + 1 + j = i + (j + 1) by omega], by simpa using h2, h3⟩
theorem keyText : KeyOf 9 Value.string (fun _ => True) where
  inj h := by injection h
  check em d _ w := by
    have h : ∀ n : Nat, (Instr.checkKey em (n + 1) 9 (.string d)).run Tryz.prog w = .ok () w := by
      intro n
      simp only [Instr.checkKey, Sem.run_bind, run_underlying Tryz.underlying9, Result.andThen_ok, Sem.run_pure]
    exact h 9999
  find d _ w es h := by
    have hs : ∀ r, Instr.findNow .string (.string d) es 0 = some r → (Instr.findKey 9 (.string d) es).run Tryz.prog w = .ok r w := by
      intro r hr
      simp only [Instr.findKey, Sem.run_bind, run_underlying Tryz.underlying9, Result.andThen_ok, hr, Sem.run_pure]
    rcases now_str d es 0 h with ⟨h1, h2⟩ | ⟨j, e, h1, h2, h3⟩
    · exact .inl ⟨hs _ h1, h2⟩
    · exact .inr ⟨j, e, hs _ (by rw [h1, Nat.zero_add]), h2, h3⟩
  stays d _ w := by
    have h : Instr.sameBits 10000 (.string d) (.string d) = true := by
      show Instr.sameBits (9999 + 1) (.string d) (.string d) = true
      simp only [Instr.sameBits]
      exact (MapKept.bytes_beq d d).2 rfl
    simp only [Instr.keyThatStays, h, if_true, Sem.run_pure]
end Go.Proofs.YtamaejlbojbbeaaGreatDoor.Tr
namespace Go.Proofs.YtamaejlbojbbeaaGreatDoor.Sb
open Go.RowKit
theorem neg_and31 (n : Nat) (h1 : 1 ≤ n) (h2 : n ≤ 31) : bits .and .u64 (IntKind.u64.wrap (-(n : Int))) 31 = ((32 - n : Nat) : Int) := by
  have e : IntKind.u64.wrap (-(n : Int)) = ((18446744073709551616 - n : Nat) : Int) := by
    rw [IntKind.wrap_u64]; omega
  rw [e]
  have := bits_and_u64_nat (18446744073709551616 - n) 31 (by omega) (by omega)
  rw [show ((31 : Nat) : Int) = 31 from rfl] at this
  rw [this, nat_mask5]
  omega
theorem rotr_form (x n : Nat) (hx : x < 4294967296) (h1 : 1 ≤ n) (h2 : n ≤ 31) : bits .or .u32 ((x : Int) * 2 ^ (32 - n) % 4294967296) ((x : Int) / 2 ^ (32 - (32 - n))) = (Sha.rotr x n : Int) := by
  have e1 : (x : Int) * 2 ^ (32 - n) % 4294967296 = ((x * 2 ^ (32 - n) % 4294967296 : Nat) : Int) := by simp
  have e2 : (x : Int) / 2 ^ (32 - (32 - n)) = ((x / 2 ^ n : Nat) : Int) := by
    rw [show 32 - (32 - n) = n by omega]; simp
  rw [e1, e2, u32_or_nat _ _ (Nat.mod_lt _ (by decide)) (Nat.lt_of_le_of_lt (Nat.div_le_self _ _) hx)]
  rfl
set_option maxHeartbeats 400000 in
theorem rotl_any (x n : Nat) (hx : x < 4294967296) (h1 : 1 ≤ n) (h2 : n ≤ 31) (w : World) :
    Calls Tryz.prog 212 #[.int .u32 (x : Int), .int .i64 (-(n : Int))] w fun e w' => e = .returned (.int .u32 (Sha.rotr x n : Int)) ∧ w' = w := by
  have hk := neg_and31 n h1 h2
  have hp : (0 : Int) ≤ ((32 - n : Nat) : Int) := by omega
  have hq : ((32 - n : Nat) : Int) ≤ 32 := by omega
  have hr := rotr_form x n hx h1 h2
  go_enter Tryz.func212, Tryz.ntmps212
  go_wp2
  go_ret
  exact ⟨rfl, rfl⟩
set_option maxHeartbeats 400000 in
theorem right_any (x n : Nat) (hx : x < 4294967296) (h1 : 1 ≤ n) (h2 : n ≤ 31) (w : World) :
    Calls Tryz.prog 196 #[.int .u32 (x : Int), .int .i64 (n : Int)] w fun e w' => e = .returned (.int .u32 (Sha.rotr x n : Int)) ∧ w' = w := by
  go_enter Tryz.func196, Tryz.ntmps196
  go_wp2_with (go_at_call 212; refine (rotl_any x n hx h1 h2 _).mono ?_; rintro e w' ⟨rfl, rfl⟩)
  go_ret
  exact ⟨rfl, rfl⟩
end Go.Proofs.YtamaejlbojbbeaaGreatDoor.Sb
namespace Go.Proofs.YtamaejlbojbbeaaGreatDoor.Sb
open Go.RowKit
theorem or_join (i x y : Nat) (hx : x % 2 ^ i = 0) (hy : y < 2 ^ i) (hx' : x < 4294967296) (hy' : y < 4294967296) : bits .or .u32 (x : Int) (y : Int) = ((x + y : Nat) : Int) := by
  rw [u32_or_nat _ _ hx' hy', nat_join i x y hx hy]
theorem word0_form (x0 x1 x2 x3 : Nat) (b0 : x0 < 256) (b1 : x1 < 256) (b2 : x2 < 256) (b3 : x3 < 256) :
    bits .or .u32 (bits .or .u32 (bits .or .u32 ((x0 : Int) * 16777216) ((x1 : Int) * 65536)) ((x2 : Int) * 256)) (x3 : Int) = ((x0 * 16777216 + x1 * 65536 + x2 * 256 + x3 : Nat) : Int) := by
  have e0 : (x0 : Int) * 16777216 = ((x0 * 16777216 : Nat) : Int) := by simp
  have e1 : (x1 : Int) * 65536 = ((x1 * 65536 : Nat) : Int) := by simp
  have e2 : (x2 : Int) * 256 = ((x2 * 256 : Nat) : Int) := by simp
  rw [e0, e1, e2, or_join 24 _ _ (by omega) (by omega) (by omega) (by omega), or_join 16 _ _ (by omega) (by omega) (by omega) (by omega), or_join 8 _ _ (by omega) (by omega) (by omega) (by omega)]
theorem rotr_lt (x n : Nat) (hx : x < 4294967296) : Sha.rotr x n < 4294967296 :=
  Nat.or_lt_two_pow (n := 32) (Nat.mod_lt _ (by decide)) (Nat.lt_of_le_of_lt (Nat.div_le_self _ _) hx)
theorem xor_lt (x y : Nat) (hx : x < 4294967296) (hy : y < 4294967296) : x ^^^ y < 4294967296 := Nat.xor_lt_two_pow (n := 32) hx hy
theorem and_lt (x y : Nat) (hx : x < 4294967296) : x &&& y < 4294967296 := Nat.lt_of_le_of_lt Nat.and_le_left hx
theorem s0_form (x : Nat) (hx : x < 4294967296) : bits .xor .u32 (bits .xor .u32 (Sha.rotr x 7 : Int) (Sha.rotr x 18 : Int)) ((x : Int) / 8) = (Sha.s0 x : Int) := by
  rw [show (x : Int) / 8 = ((x / 8 : Nat) : Int) by simp, u32_xor_nat _ _ (rotr_lt _ _ hx) (rotr_lt _ _ hx), u32_xor_nat _ _ (xor_lt _ _ (rotr_lt _ _ hx) (rotr_lt _ _ hx)) (by omega)]; rfl
theorem s1_form (x : Nat) (hx : x < 4294967296) : bits .xor .u32 (bits .xor .u32 (Sha.rotr x 17 : Int) (Sha.rotr x 19 : Int)) ((x : Int) / 1024) = (Sha.s1 x : Int) := by
  rw [show (x : Int) / 1024 = ((x / 1024 : Nat) : Int) by simp, u32_xor_nat _ _ (rotr_lt _ _ hx) (rotr_lt _ _ hx), u32_xor_nat _ _ (xor_lt _ _ (rotr_lt _ _ hx) (rotr_lt _ _ hx)) (by omega)]; rfl
theorem S0_form (x : Nat) (hx : x < 4294967296) : bits .xor .u32 (bits .xor .u32 (Sha.rotr x 2 : Int) (Sha.rotr x 13 : Int)) (Sha.rotr x 22 : Int) = (Sha.S0 x : Int) := by
  rw [u32_xor_nat _ _ (rotr_lt _ _ hx) (rotr_lt _ _ hx), u32_xor_nat _ _ (xor_lt _ _ (rotr_lt _ _ hx) (rotr_lt _ _ hx)) (rotr_lt _ _ hx)]; rfl
theorem S1_form (x : Nat) (hx : x < 4294967296) : bits .xor .u32 (bits .xor .u32 (Sha.rotr x 6 : Int) (Sha.rotr x 11 : Int)) (Sha.rotr x 25 : Int) = (Sha.S1 x : Int) := by
  rw [u32_xor_nat _ _ (rotr_lt _ _ hx) (rotr_lt _ _ hx), u32_xor_nat _ _ (xor_lt _ _ (rotr_lt _ _ hx) (rotr_lt _ _ hx)) (rotr_lt _ _ hx)]; rfl
theorem xor_ones (e : Nat) (he : e < 4294967296) : 4294967295 ^^^ e = 4294967295 - e := by
  refine Nat.eq_of_testBit_eq fun i => ?_
  rw [Nat.testBit_xor, show (4294967295 : Nat) = 2 ^ 32 - 1 from rfl, Nat.testBit_two_pow_sub_one, show 2 ^ 32 - 1 - e = 2 ^ 32 - (e + 1) by omega, Nat.testBit_two_pow_sub_succ (show e < 2 ^ 32 by omega)]
  by_cases h : i < 32
  · simp [h]
  · have : e.testBit i = false := Nat.testBit_lt_two_pow (Nat.lt_of_lt_of_le (show e < 2 ^ 32 by omega) (Nat.pow_le_pow_right (by omega) (by omega)))
    simp [h, this]
theorem not_form (e : Nat) (he : e < 4294967296) : bits .xor .u32 (if IntKind.u32.signed = true then -1 else IntKind.u32.max) (e : Int) = ((4294967295 - e : Nat) : Int) := by
  have h : (if IntKind.u32.signed = true then -1 else IntKind.u32.max : Int) = ((4294967295 : Nat) : Int) := by decide
  rw [h, u32_xor_nat _ _ (by decide) he, xor_ones e he]
theorem ch_form (e f g : Nat) (he : e < 4294967296) (hf : f < 4294967296) (hg : g < 4294967296) :
    bits .xor .u32 (bits .and .u32 (e : Int) (f : Int)) (bits .and .u32 (bits .xor .u32 (if IntKind.u32.signed = true then -1 else IntKind.u32.max) (e : Int)) (g : Int)) = (Sha.ch e f g : Int) := by
  rw [not_form e he, u32_and_nat _ _ he hf, u32_and_nat _ _ (by omega) hg, u32_xor_nat _ _ (and_lt _ _ he) (and_lt _ _ (by omega))]; rfl
theorem maj_form (a b c : Nat) (ha : a < 4294967296) (hb : b < 4294967296) (hc : c < 4294967296) :
    bits .xor .u32 (bits .xor .u32 (bits .and .u32 (a : Int) (b : Int)) (bits .and .u32 (a : Int) (c : Int))) (bits .and .u32 (b : Int) (c : Int)) = (Sha.maj a b c : Int) := by
  rw [u32_and_nat _ _ ha hb, u32_and_nat _ _ ha hc, u32_and_nat _ _ hb hc, u32_xor_nat _ _ (and_lt _ _ ha) (and_lt _ _ ha), u32_xor_nat _ _ (xor_lt _ _ (and_lt _ _ ha) (and_lt _ _ ha)) (and_lt _ _ hb)]; rfl
theorem t1_form (s : Sha.St) (k w : Nat) : ((s.h : Int) + (Sha.S1 s.e : Int) + (Sha.ch s.e s.f s.g : Int) + (k : Int) + (w : Int)) % 4294967296 = (Sha.t1 s k w : Int) := by
  unfold Sha.t1; simp
theorem t2_form (s : Sha.St) : ((Sha.S0 s.a : Int) + (Sha.maj s.a s.b s.c : Int)) % 4294967296 = (Sha.t2 s : Int) := by
  unfold Sha.t2; simp
theorem add_form (x y : Nat) : ((x : Int) + (y : Int)) % 4294967296 = (((x + y) % 4294967296 : Nat) : Int) := by simp
theorem right_at (x n : Nat) (k : Int) (hk : k = (n : Int)) (hx : x < 4294967296) (h1 : 1 ≤ n) (h2 : n ≤ 31) (w : World) :
    Calls Tryz.prog 196 #[.int .u32 (x : Int), .int .i64 k] w fun e w' => e = .returned (.int .u32 (Sha.rotr x n : Int)) ∧ w' = w := by
  subst hk; exact right_any x n hx h1 h2 w
theorem wl_length (bl : List Nat) (t : Nat) : (Sha.wl bl t).length = t := by
  induction t with
  | zero => rfl
  | succ t ih => simp [Sha.wl, ih]
theorem word0_lt (bl : List Nat) (h : ∀ x ∈ bl, x < 256) (t : Nat) : Sha.word0 bl t < 4294967296 := by
  have h0 := getD_lt h (4 * t)
  have h1 := getD_lt h (4 * t + 1)
  have h2 := getD_lt h (4 * t + 2)
  have h3 := getD_lt h (4 * t + 3)
  unfold Sha.word0; omega
theorem wnext_lt (l : List Nat) (t : Nat) : Sha.wnext l t < 4294967296 := Nat.mod_lt _ (by decide)
theorem wl_lt (bl : List Nat) (h : ∀ x ∈ bl, x < 256) (t : Nat) : ∀ x ∈ Sha.wl bl t, x < 4294967296 := by
  induction t with
  | zero => simp [Sha.wl]
  | succ t ih =>
    intro x hx
    simp only [Sha.wl, List.mem_append, List.mem_singleton] at hx
    rcases hx with hx | rfl
    · exact ih x hx
    · split
      · exact word0_lt bl h t
      · exact wnext_lt _ t
end Go.Proofs.YtamaejlbojbbeaaGreatDoor.Sb
namespace Go.Proofs.YtamaejlbojbbeaaGreatDoor.Sb
open Go.RowKit
theorem wl_step0 (bl : List Nat) (t : Nat) (h : t < 16) : Sha.wl bl (t + 1) = Sha.wl bl t ++ [Sha.word0 bl t] := by simp [Sha.wl, h]
theorem wl_step1 (bl : List Nat) (t : Nat) (h : 16 ≤ t) : Sha.wl bl (t + 1) = Sha.wl bl t ++ [Sha.wnext (Sha.wl bl t) t] := by
  have : ¬ t < 16 := by omega
  simp [Sha.wl, this]
theorem wnext_form (y2 y7 y15 y16 : Nat) : ((Sha.s1 y2 : Int) + (y7 : Int) + (Sha.s0 y15 : Int) + (y16 : Int)) % 4294967296 = (((Sha.s1 y2 + y7 + Sha.s0 y15 + y16) % 4294967296 : Nat) : Int) := by simp
set_option maxHeartbeats 1000000 in
theorem schedule_any (bl : List Nat) (hl : bl.length = 64) (hby : ∀ x ∈ bl, x < 256) (w : World) :
    Calls Tryz.prog 195 #[.agg (bl.map u8v).toArray] w fun e w' => e = .returned (.agg ((Sha.wl bl 64).map u32v).toArray) ∧ Below w.heap.size w w' := by
  go_enter Tryz.func195, Tryz.ntmps195
  go_wp2_with fail
  go_loopw [10] (fun i w' => ∃ (t : Nat) (cs : List Nat), t ≤ 16 ∧ i = .int .i64 (t : Int) ∧ cs.length = 64 ∧ cs.take t = Sha.wl bl t ∧ Row w' w.heap.size (bl.map u8v) 241 ∧ Row w' (w.heap.size + 1) ((List.replicate 64 0).map u32v) 157 ∧ Row w' (w.heap.size + 1 + 1) (cs.map u32v) 157 ∧ Below w.heap.size w w') (fun i _ => 16 - (intOf i).toNat)
  case atStart =>
    refine ⟨0, List.replicate 64 0, by omega, rfl, rfl, rfl, ?_, ?_, ?_, ?_⟩
    · exact ((Row.new w _ 241).alloc _).alloc _
    · exact (Row.newAt (w.alloc _) (w.heap.size + 1) ((List.replicate 64 0).map u32v) 157 (by simp)).alloc _
    · exact Row.newAt ((w.alloc _).alloc _) (w.heap.size + 1 + 1) ((List.replicate 64 0).map u32v) 157 (by simp)
    · exact ((((Below.refl _ _).alloc (Nat.le_refl _) _).alloc (by simp) _).alloc (by simp; omega) _)
  case round =>
    obtain ⟨t, cs, ht, rfl, hc, htk, hb1, hb2, hb3, hbel⟩ := hrel
    by_cases hlt : t < 16
    · have c0 : wr.cell? ⟨w.heap.size, 4 * t, none⟩ = some (.int .u8 ((bl.getD (4 * t) 0 : Nat) : Int)) := hb1.cellMap (4 * t) (by omega)
      have c1 : wr.cell? ⟨w.heap.size, 4 * t + 1, none⟩ = some (.int .u8 ((bl.getD (4 * t + 1) 0 : Nat) : Int)) := hb1.cellMap (4 * t + 1) (by omega)
      have c2 : wr.cell? ⟨w.heap.size, 4 * t + 2, none⟩ = some (.int .u8 ((bl.getD (4 * t + 2) 0 : Nat) : Int)) := hb1.cellMap (4 * t + 2) (by omega)
      have c3 : wr.cell? ⟨w.heap.size, 4 * t + 3, none⟩ = some (.int .u8 ((bl.getD (4 * t + 3) 0 : Nat) : Int)) := hb1.cellMap (4 * t + 3) (by omega)
      have c4 : wr.cell? ⟨w.heap.size + 1 + 1, t, none⟩ = some (.int .u32 ((cs.getD t 0 : Nat) : Int)) := hb3.cellMap t (by omega)
      have c5 := hb3.frozen t
      have b0 : bl.getD (4 * t) 0 < 256 := getD_lt hby _
      have b1 : bl.getD (4 * t + 1) 0 < 256 := getD_lt hby _
      have b2 : bl.getD (4 * t + 2) 0 < 256 := getD_lt hby _
      have b3 : bl.getD (4 * t + 3) 0 < 256 := getD_lt hby _
      have hw0 : Hid (Sha.word0 bl t = bl.getD (4 * t) 0 * 16777216 + bl.getD (4 * t + 1) 0 * 65536 + bl.getD (4 * t + 2) 0 * 256 + bl.getD (4 * t + 3) 0) := rfl
      generalize bl.getD (4 * t) 0 = x0 at c0 b0 hw0
      generalize bl.getD (4 * t + 1) 0 = x1 at c1 b1 hw0
      generalize bl.getD (4 * t + 2) 0 = x2 at c2 b2 hw0
      generalize bl.getD (4 * t + 3) 0 = x3 at c3 b3 hw0
      generalize cs.getD t 0 = x4 at c4
      go_wp2
      go_region
      go_wp2
      go_roundw
      case rel =>
        go_light
        rw [word0_form x0 x1 x2 x3 b0 b1 b2 b3, ← hw0.out]
        refine ⟨t + 1, cs.set t (Sha.word0 bl t), by omega, by go_num, by simpa using hc, ?_, ?_, ?_, ?_, ?_⟩
        · rw [take_set_succ _ (by omega), wl_step0 bl t hlt, htk]
        · exact (hb1.set_other _ _ (by simp; omega)).drew
        · exact (hb2.set_other _ _ (by simp)).drew
        · rw [List.map_set]; exact (hb3.set_same t _).drew
        · exact (hbel.setCell (by simp; omega) _).drew
      case measure => simp [intOf]; omega
    · obtain rfl : t = 16 := by omega
      clear hlt ht
      go_wp2_with fail
      go_loopw [5] (fun i w' => ∃ (t : Nat) (cs : List Nat), 16 ≤ t ∧ t ≤ 64 ∧ i = .int .i64 (t : Int) ∧ cs.length = 64 ∧ cs.take t = Sha.wl bl t ∧ Row w' (w.heap.size + 1) ((List.replicate 64 0).map u32v) 157 ∧ Row w' (w.heap.size + 1 + 1) (cs.map u32v) 157 ∧ Below w.heap.size w w') (fun i _ => 64 - (intOf i).toNat)
      case atStart => exact ⟨16, cs, by omega, by omega, rfl, hc, htk, hb2, hb3, hbel⟩
      case round =>
        clear hb1 hb2 hb3 hbel hc htk
        obtain ⟨t, cs, ht0, ht, rfl, hc, htk, hb2, hb3, hbel⟩ := hrel
        by_cases hlt : t < 64
        · have hwl := wl_lt bl hby t
          have c0 : wr.cell? ⟨w.heap.size + 1 + 1, t - 15, none⟩ = some (.int .u32 (((Sha.wl bl t).getD (t - 15) 0 : Nat) : Int)) := by
            rw [← htk, getD_take (by omega)]; exact hb3.cellMap (t - 15) (by omega)
          have c1 : wr.cell? ⟨w.heap.size + 1 + 1, t - 2, none⟩ = some (.int .u32 (((Sha.wl bl t).getD (t - 2) 0 : Nat) : Int)) := by
            rw [← htk, getD_take (by omega)]; exact hb3.cellMap (t - 2) (by omega)
          have c2 : wr.cell? ⟨w.heap.size + 1 + 1, t - 7, none⟩ = some (.int .u32 (((Sha.wl bl t).getD (t - 7) 0 : Nat) : Int)) := by
            rw [← htk, getD_take (by omega)]; exact hb3.cellMap (t - 7) (by omega)
          have c3 : wr.cell? ⟨w.heap.size + 1 + 1, t - 16, none⟩ = some (.int .u32 (((Sha.wl bl t).getD (t - 16) 0 : Nat) : Int)) := by
            rw [← htk, getD_take (by omega)]; exact hb3.cellMap (t - 16) (by omega)
          have c4 : wr.cell? ⟨w.heap.size + 1 + 1, t, none⟩ = some (.int .u32 ((cs.getD t 0 : Nat) : Int)) := hb3.cellMap t (by omega)
          have c5 := hb3.frozen t
          have b0 : (Sha.wl bl t).getD (t - 15) 0 < 4294967296 := getD_lt hwl _
          have b1 : (Sha.wl bl t).getD (t - 2) 0 < 4294967296 := getD_lt hwl _
          have b2 : (Sha.wl bl t).getD (t - 7) 0 < 4294967296 := getD_lt hwl _
          have b3 : (Sha.wl bl t).getD (t - 16) 0 < 4294967296 := getD_lt hwl _
          have hw0 : Hid (Sha.wnext (Sha.wl bl t) t = (Sha.s1 ((Sha.wl bl t).getD (t - 2) 0) + (Sha.wl bl t).getD (t - 7) 0 + Sha.s0 ((Sha.wl bl t).getD (t - 15) 0) + (Sha.wl bl t).getD (t - 16) 0) % 4294967296) := rfl
          have htk' : Hid (cs.take t = Sha.wl bl t) := htk
          clear hwl htk
          generalize (Sha.wl bl t).getD (t - 15) 0 = y15 at c0 b0 hw0
          generalize (Sha.wl bl t).getD (t - 2) 0 = y2 at c1 b1 hw0
          generalize (Sha.wl bl t).getD (t - 7) 0 = y7 at c2 b2 hw0
          generalize (Sha.wl bl t).getD (t - 16) 0 = y16 at c3 b3 hw0
          generalize cs.getD t 0 = y0 at c4
          have f0 := s0_form y15 b0
          have f1 := s1_form y2 b1
          go_wp2_with fail
          go_quiet (fail)
          go_wp2_with fail
          refine (right_at y15 7 7 rfl b0 (by omega) (by omega) _).mono ?_
          rintro e w' ⟨rfl, rfl⟩
          go_wp2_with fail
          refine (right_at y15 18 18 rfl b0 (by omega) (by omega) _).mono ?_
          rintro e w' ⟨rfl, rfl⟩
          go_wp2_with fail
          refine (right_at y2 17 17 rfl b1 (by omega) (by omega) _).mono ?_
          rintro e w' ⟨rfl, rfl⟩
          go_wp2_with fail
          refine (right_at y2 19 19 rfl b1 (by omega) (by omega) _).mono ?_
          rintro e w' ⟨rfl, rfl⟩
          go_wp2_with fail
          go_region
          go_wp2
          go_roundw
          case rel =>
            go_light
            (repeat apply Exists.intro)
            refine ⟨?r, rfl⟩
            rw [wnext_form y2 y7 y15 y16, ← hw0.out]
            refine ⟨t + 1, cs.set t (Sha.wnext (Sha.wl bl t) t), by omega, by omega, by go_num, by simpa using hc, ?_, ?_, ?_, ?_⟩
            · rw [take_set_succ _ (by omega), wl_step1 bl t ht0, htk'.out]
            · exact (hb2.drewN _).set_other _ _ (by simp)
            · rw [List.map_set]; exact (hb3.drewN _).set_same t _
            · exact (below_drewN hbel _).setCell (by simp; omega) _
          case measure => simp [intOf]; omega
        · obtain rfl : t = 64 := by omega
          have htk' : Hid (cs = Sha.wl bl 64) := by show cs = _; rw [← htk, List.take_of_length_le (by omega)]
          clear htk ht ht0 hlt
          go_wp2_with (first | (refine wpList_load_Row rfl 157 _ rfl (w.heap.size + 1 + 1) rfl 157 _ hb3 _ Tryz.underlying157 rfl 64 info69 (by simp [hc]) ?_) | (refine wpList_store_Row rfl 157 _ _ rfl (w.heap.size + 1) 0 (cs.map u32v) rfl rfl 157 _ hb2 64 info69 (by simp [hc]) (by simp) (one_u32 cs) ?_; intro w1 hr1 hg1 hs1))
          go_outline
          refine post_Row 2 157 Tryz.results195 (w.heap.size + 1) rfl 157 _ hr1 _ Tryz.underlying157 rfl 64 info69 (by simp [splice_all, hc]) rfl ⟨?_, below_of_grown hbel hg1 (by have := hbel.size; omega) (by omega)⟩
          rw [splice_all _ _ (by simp [hc]), htk'.out]
end Go.Proofs.YtamaejlbojbbeaaGreatDoor.Sb
namespace Go.Proofs.YtamaejlbojbbeaaGreatDoor.Sb
open Go.RowKit
/-- the table of constants lies in its place -/
def Tab (w : World) : Prop := ∀ t, t < 64 → w.cell? ⟨0, t, none⟩ = some (u32v (Sha.K.getD t 0))
theorem Tab.pos {w : World} (h : Tab w) : 0 < w.heap.size := World.block_lt_of_cell? w ⟨0, 0, none⟩ (h 0 (by decide))
theorem Tab.below {w w' : World} {B : Nat} (h : Tab w) (hb : Below B w w') (hB : 0 < B) : Tab w' := fun t ht => by
  rw [hb.cell (p := ⟨0, t, none⟩) hB]; exact h t ht
theorem Tab.grown {w w' : World} {row : Option Nat} (h : Tab w) (hb : w.grownBy w' row) (hB : some 0 ≠ row) : Tab w' := fun t ht => hb.cell (h t ht) hB
def Ok (s : Sha.St) : Prop := s.a < 4294967296 ∧ s.b < 4294967296 ∧ s.c < 4294967296 ∧ s.d < 4294967296 ∧ s.e < 4294967296 ∧ s.f < 4294967296 ∧ s.g < 4294967296 ∧ s.h < 4294967296
theorem rnd_ok {s : Sha.St} (h : Ok s) (k w : Nat) : Ok (Sha.rnd s k w) := by
  obtain ⟨h1, h2, h3, h4, h5, h6, h7, h8⟩ := h
  exact ⟨Nat.mod_lt _ (by decide), h1, h2, h3, Nat.mod_lt _ (by decide), h5, h6, h7⟩
theorem rounds_ok {s : Sha.St} (h : Ok s) (w : List Nat) : ∀ t, Ok (Sha.rounds s w t)
  | 0 => h
  | t + 1 => rnd_ok (rounds_ok h w t) _ _
theorem plus_ok (s r : Sha.St) : Ok (Sha.plus s r) := by
  refine ⟨?_, ?_, ?_, ?_, ?_, ?_, ?_, ?_⟩ <;> exact Nat.mod_lt _ (by decide)
theorem right_k (x : Nat) (k : Int) (hx : x < 4294967296) (h1 : 1 ≤ k) (h2 : k ≤ 31) (w : World) :
    Calls Tryz.prog 196 #[.int .u32 (x : Int), .int .i64 k] w fun e w' => e = .returned (.int .u32 (Sha.rotr x k.toNat : Int)) ∧ w' = w :=
  right_at x k.toNat k (by omega) hx (by omega) (by omega) w
theorem schedule_W (bl : List Nat) (hl : bl.length = 64) (hby : ∀ x ∈ bl, x < 256) (n : Nat) (hn : Hid (n = 64)) (W : List Nat) (hW : Hid (Sha.wl bl n = W)) (w : World) :
    Calls Tryz.prog 195 #[.agg (bl.map u8v).toArray] w fun e w' => e = .returned (.agg (W.map u32v).toArray) ∧ Below w.heap.size w w' := by
  have h := schedule_any bl hl hby w
  rw [← hn.out, hW.out] at h
  exact h
theorem W_facts (bl : List Nat) (hby : ∀ x ∈ bl, x < 256) : ∃ n W, Hid (n = 64) ∧ Hid (Sha.wl bl n = W) ∧ W.length = 64 ∧ ∀ x ∈ W, x < 4294967296 :=
  ⟨64, _, rfl, rfl, wl_length bl 64, wl_lt bl hby 64⟩
/-- the state while its first i words have been added -/
def acc (s r : Sha.St) (i : Nat) : List Nat := (Sha.plus s r).list.take i ++ s.list.drop i
theorem lt8 {i : Nat} (h : i < 8) : i = 0 ∨ i = 1 ∨ i = 2 ∨ i = 3 ∨ i = 4 ∨ i = 5 ∨ i = 6 ∨ i = 7 := by omega
theorem acc_length (s r : Sha.St) (i : Nat) (h : i ≤ 8) : (acc s r i).length = 8 := by simp [acc, Sha.St.list]; omega
theorem acc_at (s r : Sha.St) (i : Nat) (h : i < 8) : (acc s r i).getD i 0 = s.list.getD i 0 := by
  rcases lt8 h with rfl | rfl | rfl | rfl | rfl | rfl | rfl | rfl <;> rfl
theorem acc_set (s r : Sha.St) (i : Nat) (h : i < 8) : (acc s r i).set i ((s.list.getD i 0 + r.list.getD i 0) % 4294967296) = acc s r (i + 1) := by
  rcases lt8 h with rfl | rfl | rfl | rfl | rfl | rfl | rfl | rfl <;> rfl
theorem idx8 (r : Sha.St) (i : Nat) (h : i < 8) (w : World) : (Instr.index 156 (.agg #[.int .u32 (r.a : Int), .int .u32 (r.b : Int), .int .u32 (r.c : Int), .int .u32 (r.d : Int), .int .u32 (r.e : Int), .int .u32 (r.f : Int), .int .u32 (r.g : Int), .int .u32 (r.h : Int)]) (.int .i64 (i : Int))).run Tryz.prog w = .ok (.int .u32 ((r.list.getD i 0 : Nat) : Int)) w := by
  rcases lt8 h with rfl | rfl | rfl | rfl | rfl | rfl | rfl | rfl <;> kernel_rfl
theorem comp_of (s : Sha.St) (bl : List Nat) (n : Nat) (W : List Nat) (r : Sha.St) (t i : Nat) (hn : Hid (n = 64)) (hW : Hid (Sha.wl bl n = W)) (hr : Hid (r = Sha.rounds s W t)) (ht : t ≤ 64) (ht' : 64 ≤ t) (hi : Hid (i = 8)) : acc s r i = (Sha.comp s bl).list := by
  have e : (Sha.comp s bl) = Sha.plus s r := by
    unfold Sha.comp
    rw [hr.out, ← hW.out, hn.out, show t = 64 by omega]
  rw [e, hi.out]
  rfl
set_option maxRecDepth 100000 in
set_option maxHeartbeats 1000000 in
theorem mix_any (s : Sha.St) (hs : Ok s) (bl : List Nat) (hl : bl.length = 64) (hby : ∀ x ∈ bl, x < 256) (w : World) (htab : Tab w) :
    Calls Tryz.prog 164 #[.agg (s.list.map u32v).toArray, .agg (bl.map u8v).toArray] w fun e w' => e = .returned (.agg ((Sha.comp s bl).list.map u32v).toArray) ∧ Below w.heap.size w w' := by
  obtain ⟨n, W, hn, hW, hWl, hWlt⟩ := W_facts bl hby
  go_enter Tryz.func164, Tryz.ntmps164
  go_wp2_with (first | (refine wpList_load_Row rfl 241 _ rfl (w.heap.size + 1) rfl 241 (bl.map u8v) ?_ _ Tryz.underlying241 rfl 64 info103 (by simp [hl]) ?_; exact (Row.newAt (w.alloc _) _ _ 241 (by simp)).alloc _))
  refine (schedule_W bl hl hby n hn W hW _).mono ?_
  rintro e w1 ⟨rfl, hb⟩
  have hz : w.heap.size + 1 + 1 + 1 ≤ w1.heap.size := by have := hb.size; simpa using this
  have hr1 : Row w1 w.heap.size (s.list.map u32v) 156 := (((Row.new w _ 156).alloc _).alloc _).below hb (by simp; omega)
  have hr2 : Row w1 (w.heap.size + 1 + 1) ((List.replicate 8 0).map u32v) 156 := (Row.newAt ((w.alloc _).alloc _) (w.heap.size + 1 + 1) ((List.replicate 8 0).map u32v) 156 (by simp)).below hb (by simp)
  have hbw : Below w.heap.size w w1 := ((((Below.refl _ _).alloc (Nat.le_refl _) _).alloc (by simp) _).alloc (by simp; omega) _).trans (hb.mono (by simp; omega))
  clear hb
  go_wp2_with (first | (refine wpList_store_Row rfl 157 _ _ rfl w1.heap.size 0 (W.map u32v) rfl rfl 157 ((List.replicate 64 0).map u32v) (Row.newAt w1 _ _ 157 rfl) 64 info69 (by simp [hWl]) (by simp) (one_u32 W) ?_; intro w2 hr3 hg2 hs2))
  rw [splice_all _ _ (by simp [hWl])] at hr3
  simp only [World.size_alloc] at hs2
  have hr1' := (hr1.alloc _).grown hg2 (by simp; omega)
  have hr2' := (hr2.alloc _).grown hg2 (by simp; omega)
  have hbw' : Below w.heap.size w w2 := below_of_grown (hbw.alloc (by omega) _) hg2 (by simp; omega) (by omega)
  clear hr1 hr2 hbw hg2
  have htab' : Tab w2 := htab.below hbw' htab.pos
  have c0 : w2.cell? ⟨w.heap.size, 0, none⟩ = some (.int .u32 (s.a : Int)) := hr1'.cell 0
  have c1 : w2.cell? ⟨w.heap.size, 1, none⟩ = some (.int .u32 (s.b : Int)) := hr1'.cell 1
  have c2 : w2.cell? ⟨w.heap.size, 2, none⟩ = some (.int .u32 (s.c : Int)) := hr1'.cell 2
  have c3 : w2.cell? ⟨w.heap.size, 3, none⟩ = some (.int .u32 (s.d : Int)) := hr1'.cell 3
  have c4 : w2.cell? ⟨w.heap.size, 4, none⟩ = some (.int .u32 (s.e : Int)) := hr1'.cell 4
  have c5 : w2.cell? ⟨w.heap.size, 5, none⟩ = some (.int .u32 (s.f : Int)) := hr1'.cell 5
  have c6 : w2.cell? ⟨w.heap.size, 6, none⟩ = some (.int .u32 (s.g : Int)) := hr1'.cell 6
  have c7 : w2.cell? ⟨w.heap.size, 7, none⟩ = some (.int .u32 (s.h : Int)) := hr1'.cell 7
  go_quiet (fail)
  go_wp2_with fail
  clear c0 c1 c2 c3 c4 c5 c6 c7
  go_loopw [6, 7, 8, 9, 10, 11, 12, 13, 37] (fun va vb vc vd ve vf vg vh i w' => ∃ (t : Nat) (r : Sha.St), t ≤ 64 ∧ i = .int .i64 (t : Int) ∧ r = Sha.rounds s W t ∧ va = .int .u32 (r.a : Int) ∧ vb = .int .u32 (r.b : Int) ∧ vc = .int .u32 (r.c : Int) ∧ vd = .int .u32 (r.d : Int) ∧ ve = .int .u32 (r.e : Int) ∧ vf = .int .u32 (r.f : Int) ∧ vg = .int .u32 (r.g : Int) ∧ vh = .int .u32 (r.h : Int) ∧ Row w' w.heap.size (s.list.map u32v) 156 ∧ Row w' (w.heap.size + 1 + 1) ((List.replicate 8 0).map u32v) 156 ∧ Row w' w1.heap.size (W.map u32v) 157 ∧ Below w.heap.size w w') (fun _ _ _ _ _ _ _ _ i _ => 64 - (intOf i).toNat)
  case atStart => exact ⟨0, s, by omega, rfl, rfl, rfl, rfl, rfl, rfl, rfl, rfl, rfl, rfl, hr1'.drewN _, hr2'.drewN _, hr3.drewN _, below_drewN hbw' _⟩
  case round =>
    clear hr1' hr2' hr3 hbw' htab'
    obtain ⟨t, r, ht, rfl, hr, rfl, rfl, rfl, rfl, rfl, rfl, rfl, rfl, hr1, hr2, hr3, hbw⟩ := hrel
    have hrok : Ok r := by rw [hr]; exact rounds_ok hs W t
    have HR : Hid (r = Sha.rounds s W t) := hr
    clear hr
    obtain ⟨oa, ob, oc, od, oe, of, og, oh⟩ := hrok
    have htab' : Tab wr := htab.below hbw htab.pos
    by_cases hlt : t < 64
    · have k0 : wr.cell? ⟨0, t, none⟩ = some (.int .u32 ((Sha.K.getD t 0 : Nat) : Int)) := htab' t hlt
      have k1 : wr.cell? ⟨w1.heap.size, t, none⟩ = some (.int .u32 ((W.getD t 0 : Nat) : Int)) := hr3.cellMap t (by omega)
      have hstep : Hid (Sha.rounds s W (t + 1) = Sha.rnd r (Sha.K.getD t 0) (W.getD t 0)) := by show _ = _; rw [HR.out]; rfl
      generalize Sha.K.getD t 0 = kt at k0 hstep
      generalize W.getD t 0 = wt at k1 hstep
      clear htab' hWlt hs
      go_wp2_with fail
      go_quiet ((go_at_call 196; exact Calls.quiet_of_same (right_k _ _ (by assumption) (by decide) (by decide) _)))
      go_wp2_with (go_at_call 196; refine (right_k _ _ (by assumption) (by decide) (by decide) _).mono ?_; rintro e w' ⟨rfl, rfl⟩)
      go_roundw
      case rel =>
        go_light
        rw [S1_form r.e oe, S0_form r.a oa, ch_form r.e r.f r.g oe of og, maj_form r.a r.b r.c oa ob oc, t1_form, t2_form, add_form, add_form]
        exact ⟨t + 1, Sha.rnd r kt wt, by omega, by go_num, hstep.out.symm, rfl, rfl, rfl, rfl, rfl, rfl, rfl, rfl, hr1.drewN _, hr2.drewN _, hr3.drewN _, below_drewN hbw _⟩
      case measure => simp [intOf]; omega
    · go_wp2_with fail
      clear hr3 htab'
      go_loopw [109] (fun v w' => ∃ i : Nat, i ≤ 8 ∧ v = .int .i64 (i : Int) ∧ Row w' w.heap.size ((acc s r i).map u32v) 156 ∧ Row w' (w.heap.size + 1 + 1) ((List.replicate 8 0).map u32v) 156 ∧ Below w.heap.size w w') (fun v _ => 8 - (intOf v).toNat)
      case atStart => exact ⟨0, by omega, rfl, hr1, hr2, hbw⟩
      case round =>
        clear hr1 hr2 hbw
        obtain ⟨i, hi, rfl, hr1, hr2, hbw⟩ := hrel
        by_cases hlt8 : i < 8
        · have c0 : wr.cell? ⟨w.heap.size, i, none⟩ = some (.int .u32 ((s.list.getD i 0 : Nat) : Int)) := by
            rw [← acc_at s r i hlt8]; exact hr1.cellMap i (by rw [acc_length s r i hi]; exact hlt8)
          have c1 := hr1.frozen i
          have c2 := idx8 r i hlt8
          have c3 : Hid ((acc s r i).set i ((s.list.getD i 0 + r.list.getD i 0) % 4294967296) = acc s r (i + 1)) := acc_set s r i hlt8
          generalize s.list.getD i 0 = x at c0 c3
          generalize r.list.getD i 0 = y at c2 c3
          go_wp2
          go_roundw
          case rel =>
            go_light
            first
            | (rw [add_form x y]
               refine ⟨i + 1, by omega, by go_num, ?_, hr2.set_other _ _ (by simp; omega), hbw.setCell (Nat.le_refl _) _⟩
               rw [← c3.out, List.map_set]
               exact hr1.set_same i _)
          case measure => simp [intOf]; omega
        · have HI : Hid (i = 8) := by show i = 8; omega
          have hal := acc_length s r i hi
          go_wp2_with (first | (refine wpList_load_Row rfl 156 _ rfl w.heap.size rfl 156 _ hr1 _ Tryz.underlying156 rfl 8 info68 (by simp [hal]) ?_) | (refine wpList_store_Row rfl 156 _ _ rfl (w.heap.size + 1 + 1) 0 ((acc s r i).map u32v) rfl rfl 156 _ hr2 8 info68 (by simp [hal]) (by simp) (one_u32 _) ?_; intro w3 hr4 hg4 hs4))
          refine post_Row 4 156 Tryz.results164 (w.heap.size + 1 + 1) rfl 156 _ hr4 _ Tryz.underlying156 rfl 8 info68 (by simp [splice_all, hal]) rfl ⟨?_, below_of_grown hbw hg4 (by have := hbw.size; omega) (by omega)⟩
          rw [splice_all _ _ (by simp [hal]), comp_of s bl n W r t i hn hW HR (by omega) (by omega) HI]
end Go.Proofs.YtamaejlbojbbeaaGreatDoor.Sb
