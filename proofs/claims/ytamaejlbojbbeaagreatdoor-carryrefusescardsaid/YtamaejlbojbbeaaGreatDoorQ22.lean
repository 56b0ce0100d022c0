/-
  The checks that look into the maps. The check of how many names a directory has. IndexFunc and ContainsFunc of paths, whatever is asked of them.
-/
import Derived.Deep.CutRange
import Derived.Test.YtamaejlbojbbeaaGreatDoorQ00
import Derived.Test.YtamaejlbojbbeaaGreatDoorQ01
import Derived.Test.YtamaejlbojbbeaaGreatDoorQ02
import Derived.Test.YtamaejlbojbbeaaGreatDoorQ03
import Derived.Test.YtamaejlbojbbeaaGreatDoorQ04
import Derived.Test.YtamaejlbojbbeaaGreatDoorQ05
import Derived.Test.YtamaejlbojbbeaaGreatDoorQ06
import Derived.Test.YtamaejlbojbbeaaGreatDoorQ07
import Derived.Test.YtamaejlbojbbeaaGreatDoorQ08
import Derived.Test.YtamaejlbojbbeaaGreatDoorQ09
import Derived.Test.YtamaejlbojbbeaaGreatDoorQ10
import Derived.Test.YtamaejlbojbbeaaGreatDoorQ11
import Derived.Test.YtamaejlbojbbeaaGreatDoorQ12
import Derived.Test.YtamaejlbojbbeaaGreatDoorQ13
import Derived.Test.YtamaejlbojbbeaaGreatDoorQ14
import Derived.Test.YtamaejlbojbbeaaGreatDoorQ15
import Derived.Test.YtamaejlbojbbeaaGreatDoorQ16
import Derived.Test.YtamaejlbojbbeaaGreatDoorQ17
import Derived.Test.YtamaejlbojbbeaaGreatDoorQ18
import Derived.Test.YtamaejlbojbbeaaGreatDoorQ19
import Derived.Test.YtamaejlbojbbeaaGreatDoorQ20
import Derived.Test.YtamaejlbojbbeaaGreatDoorQ21
namespace Go.Proofs.YtamaejlbojbbeaaGreatDoor.Tr
open Go.RowKit
open Sb (hid_in Row Sl T5 BL u8v Tab wp_world grownBy_setCell below_of_grown info39 one_u8 splice_all)
theorem MapI.look1 {α : Type} {kv : α → Value} {G : α → Prop} {w : World} {m n : Nat} {V : α → Option Value} (h : MapI kv G w m V n) {kt : TypeId} (K : KeyOf kt kv G) (t e : TypeId) (ht : Tryz.prog.underlying t = some (.map kt e)) (z : Value) (hz : (zeroValue e).run Tryz.prog w = .ok z w) (d : α) (hd : G d) :
    (Instr.lookup t (.map (some m)) (kv d) false).run Tryz.prog w = .ok ((V d).getD z) w := by
  obtain ⟨es, clock, hb, hl, _⟩ := h
  rcases K.find d hd w es.toList hl.keys with ⟨h1, h2⟩ | ⟨j, e0, h1, h2, h3⟩
  · have hv : V d = none := by
      cases hc : V d with
      | none => rfl
      | some v => obtain ⟨e1, he, hk⟩ := hl.all d v hc; exact absurd hk (h2 e1 he)
    simp [Instr.lookup, run_underlying ht, MapKept.run_getObj_map hb, K.check _ d hd, h1, hz, Result.andThen, hv]
  · have hv := hl.val e0 (List.mem_of_getElem? h2) d h3
    simp [Instr.lookup, run_underlying ht, MapKept.run_getObj_map hb, K.check _ d hd, h1, Result.andThen, hv]
/-- a variable that holds a map of numbers by texts -/
structure KM (W : World) (cb mb : Nat) (V : ByteArray → Option Int) : Prop where
  box : Boxed W cb 164 (.map (some mb))
  map : ∃ n, MapI Value.string (fun _ => True) W mb (fun k => (V k).map (.int .i64)) n
theorem KM.lt {W : World} {cb mb : Nat} {V : ByteArray → Option Int} (h : KM W cb mb V) : cb < W.heap.size ∧ mb < W.heap.size := by
  obtain ⟨h1, n, h2⟩ := h
  exact ⟨h1.lt, h2.lt⟩
theorem KM.below {W W' : World} {cb mb : Nat} {V : ByteArray → Option Int} (h : KM W cb mb V) (hb : Below W.heap.size W W') : KM W' cb mb V := by
  have hl := h.lt
  obtain ⟨h1, n, h2⟩ := h
  exact ⟨(hb.block _ hl.1).trans h1, n, h2.of_block (hb.block _ hl.2)⟩
theorem KM.look {W : World} {cb mb : Nat} {V : ByteArray → Option Int} (h : KM W cb mb V) (k : ByteArray) : (Instr.lookup 164 (.map (some mb)) (.string k) false).run Tryz.prog W = .ok (.int .i64 ((V k).getD 0)) W := by
  obtain ⟨h1, n, h2⟩ := h
  have hz : (zeroValue 3).run Tryz.prog W = .ok (.int .i64 0) W := by kernel_rfl
  rw [h2.look1 keyText 164 3 Tryz.underlying164 (.int .i64 0) hz k trivial]
  cases V k <;> rfl
def updI (V : ByteArray → Option Int) (k : ByteArray) (i : Int) : ByteArray → Option Int := fun x => if x = k then some i else V x
theorem map_upd (V : ByteArray → Option Int) (k : ByteArray) (i : Int) : updG (fun x => (V x).map (Value.int .i64)) k (.int .i64 i) = fun x => (updI V k i x).map (Value.int .i64) := by
  funext x
  unfold updG updI
  split <;> simp
theorem KM.store {W : World} {cb mb : Nat} {V : ByteArray → Option Int} (h : KM W cb mb V) (k : ByteArray) (i : Int) : ∃ W', (Instr.mapUpdate 164 (.map (some mb)) (.string k) (.int .i64 i)).run Tryz.prog W = .ok () W' ∧ KM W' cb mb (updI V k i) ∧ W.grownBy W' (some mb) ∧ W'.heap.size = W.heap.size := by
  obtain ⟨h1, n, h2⟩ := h
  obtain ⟨W', hr, hV', hg, hs⟩ := h2.store keyText 164 3 Tryz.underlying164 k trivial (.int .i64 i)
  rw [map_upd] at hV'
  refine ⟨W', hr, ⟨?_, ⟨_, hV'⟩⟩, hg, hs⟩
  refine (hg.block cb h1.lt ?_).trans h1
  intro e
  obtain rfl := Option.some.inj e
  obtain ⟨es, cl, hb, _⟩ := h2
  rw [h1] at hb
  cases hb
theorem beq_dec (a b : Int) : (a == b) = decide (a = b) := by
  by_cases h : a = b <;> simp [h]
/-- a path that came in as an argument and lies in a box -/
theorem spot_box {v : Value} {xs : List Vp.Str} {p x : ByteArray} {d : Bool} {w w1 : World} (h : Nm w v xs) (HW1 : Hid (w.alloc (.cells #[v, .string p, .bool d, .string x] 93) = w1)) : Below w.heap.size w w1 ∧ Row w1 w.heap.size [v, .string p, .bool d, .string x] 93 ∧ Nm w1 v xs := by
  have hb1 : Below w.heap.size w w1 := by rw [← HW1.out]; exact (Below.refl _ _).alloc (Nat.le_refl _) _
  exact ⟨hb1, by rw [← HW1.out]; exact Row.new w [v, .string p, .bool d, .string x] 93, Nm.kept h (fun b cs fr e => (hb1.block b (Array.getElem?_eq_some_iff.1 e).1).trans e)⟩
set_option maxHeartbeats 1000000 in
set_option maxRecDepth 100000 in
/-- no directory -/
theorem wrong4_any (s : Spot) (w : World) (h : Nm w s.v s.names) (hf : s.Fit) (cb mb : Nat) (V : ByteArray → Option Int) (hk : KM w cb mb V) :
    Calls Tryz.prog 87 #[s.val, .pointer (some ⟨cb, 0, none⟩)] w fun e w' => e = .returned (.bool (decide ((V (dirB s.names)).getD 0 = 0))) ∧ Below w.heap.size w w' := by
  obtain ⟨v, xs, p, d, x⟩ := s
  simp only [Spot.val] at h ⊢
  obtain ⟨w1, HW1⟩ : ∃ w1, Hid (w.alloc (.cells #[v, .string p, .bool d, .string x] 93) = w1) := ⟨_, hid_in rfl⟩
  obtain ⟨hb1, hr1, h1⟩ := spot_box h HW1
  have c0 : w1.cell? ⟨w.heap.size, 0, none⟩ = some v := hr1.cell 0
  have c1 : w1.cell? ⟨w.heap.size, 1, none⟩ = some (.string p) := hr1.cell 1
  have c2 : w1.cell? ⟨w.heap.size, 2, none⟩ = some (.bool d) := hr1.cell 2
  have c3 : w1.cell? ⟨w.heap.size, 3, none⟩ = some (.string x) := hr1.cell 3
  have HB1 := hid_in hb1
  have HK1 := hid_in (hk.below hb1)
  have HD := hid_in (dirOf_any ⟨v, xs, p, d, x⟩ w1.drew (Nm.kept h1 (fun b cs fr e => ((below_drew w1).block b (Array.getElem?_eq_some_iff.1 e).1).trans e)) hf)
  have hck : w1.cell? ⟨cb, 0, none⟩ = some (.map (some mb)) := HK1.out.box.cell
  obtain ⟨nq, nc, rfl⟩ := own_shape h
  clear h h1 hb1 hr1 hk hf
  simp only [Spot.val] at HD
  generalize dirB xs = DB at *
  generalize xs.length = nl at *
  obtain ⟨VD, HVD⟩ : ∃ VD, Hid ((V DB).getD 0 = VD) := ⟨_, hid_in rfl⟩
  rw [HVD.out]
  go_enter Tryz.func87, Tryz.ntmps87
  go_upto_region 1 with fail
  refine wp_world HW1.out ?_
  go_region_with (first | (go_at_call 88; refine HD.out.mono ?_; rintro e w2 ⟨rfl, hb2⟩; have hb12 : Below w1.heap.size w1 w2 := (below_drew w1).trans (hb2.mono (below_drew w1).size); have hk2 := HK1.out.below hb12; have ck2 : w2.cell? ⟨cb, 0, none⟩ = some (.map (some mb)) := hk2.box.cell; have hl2 := hk2.look DB; rw [HVD.out] at hl2; have HB2 := hid_in hb12; clear hb2 hb12 hk2))
  all_goals
    go_wp2
    go_ret
    refine ⟨?_, HB1.out.trans (HB2.out.mono HB1.out.size)⟩
    show Ending.returned (.bool (VD == 0)) = _
    rw [beq_dec]
set_option maxHeartbeats 1000000 in
set_option maxRecDepth 100000 in
/-- its directory is none -/
theorem wrong5_any (s : Spot) (w : World) (h : Nm w s.v s.names) (hf : s.Fit) (cb mb : Nat) (V : ByteArray → Option Int) (hk : KM w cb mb V) :
    Calls Tryz.prog 89 #[s.val, .pointer (some ⟨cb, 0, none⟩)] w fun e w' => e = .returned (.bool (!decide ((V (dirB s.names)).getD 0 = 3))) ∧ Below w.heap.size w w' := by
  obtain ⟨v, xs, p, d, x⟩ := s
  simp only [Spot.val] at h ⊢
  obtain ⟨w1, HW1⟩ : ∃ w1, Hid (w.alloc (.cells #[v, .string p, .bool d, .string x] 93) = w1) := ⟨_, hid_in rfl⟩
  obtain ⟨hb1, hr1, h1⟩ := spot_box h HW1
  have c0 : w1.cell? ⟨w.heap.size, 0, none⟩ = some v := hr1.cell 0
  have c1 : w1.cell? ⟨w.heap.size, 1, none⟩ = some (.string p) := hr1.cell 1
  have c2 : w1.cell? ⟨w.heap.size, 2, none⟩ = some (.bool d) := hr1.cell 2
  have c3 : w1.cell? ⟨w.heap.size, 3, none⟩ = some (.string x) := hr1.cell 3
  have HB1 := hid_in hb1
  have HK1 := hid_in (hk.below hb1)
  have HD := hid_in (dirOf_any ⟨v, xs, p, d, x⟩ w1.drew (Nm.kept h1 (fun b cs fr e => ((below_drew w1).block b (Array.getElem?_eq_some_iff.1 e).1).trans e)) hf)
  have hck : w1.cell? ⟨cb, 0, none⟩ = some (.map (some mb)) := HK1.out.box.cell
  obtain ⟨nq, nc, rfl⟩ := own_shape h
  clear h h1 hb1 hr1 hk hf
  simp only [Spot.val] at HD
  generalize dirB xs = DB at *
  generalize xs.length = nl at *
  obtain ⟨VD, HVD⟩ : ∃ VD, Hid ((V DB).getD 0 = VD) := ⟨_, hid_in rfl⟩
  rw [HVD.out]
  go_enter Tryz.func89, Tryz.ntmps89
  go_upto_region 1 with fail
  refine wp_world HW1.out ?_
  go_region_with (first | (go_at_call 88; refine HD.out.mono ?_; rintro e w2 ⟨rfl, hb2⟩; have hb12 : Below w1.heap.size w1 w2 := (below_drew w1).trans (hb2.mono (below_drew w1).size); have hk2 := HK1.out.below hb12; have ck2 : w2.cell? ⟨cb, 0, none⟩ = some (.map (some mb)) := hk2.box.cell; have hl2 := hk2.look DB; rw [HVD.out] at hl2; have HB2 := hid_in hb12; clear hb2 hb12 hk2))
  all_goals
    go_wp2
    go_ret
    refine ⟨?_, HB1.out.trans (HB2.out.mono HB1.out.size)⟩
    show Ending.returned (.bool (!(VD == 3))) = _
    rw [beq_dec]
set_option maxHeartbeats 1000000 in
set_option maxRecDepth 100000 in
/-- a path that is there already; it is there from now on -/
theorem wrong3_any (s : Spot) (w : World) (h : Nm w s.v s.names) (cb mb : Nat) (V : ByteArray → Option Int) (hk : KM w cb mb V) (base : Nat) (hbase : base ≤ w.heap.size) (hmb : base ≤ mb) :
    Calls Tryz.prog 85 #[s.val, .pointer (some ⟨cb, 0, none⟩)] w fun e w' => e = .returned (.bool (!decide ((V s.path).getD 0 = 0))) ∧ Below base w w' ∧ KM w' cb mb (updI V s.path (if s.dir then 3 else 2)) ∧ ∀ k, k < w.heap.size → k ≠ mb → w'.heap[k]? = w.heap[k]? := by
  obtain ⟨v, xs, p, d, x⟩ := s
  simp only [Spot.val] at h ⊢
  obtain ⟨w1, HW1⟩ : ∃ w1, Hid (w.alloc (.cells #[v, .string p, .bool d, .string x] 93) = w1) := ⟨_, hid_in rfl⟩
  obtain ⟨hb1, hr1, h1⟩ := spot_box h HW1
  have c0 : w1.cell? ⟨w.heap.size, 0, none⟩ = some v := hr1.cell 0
  have c1 : w1.cell? ⟨w.heap.size, 1, none⟩ = some (.string p) := hr1.cell 1
  have c2 : w1.cell? ⟨w.heap.size, 2, none⟩ = some (.bool d) := hr1.cell 2
  have c3 : w1.cell? ⟨w.heap.size, 3, none⟩ = some (.string x) := hr1.cell 3
  have HB1 := hid_in hb1
  have HK1 := hid_in (hk.below hb1)
  have hl1 := HK1.out.look p
  have HKO := hid_in (kindOf_any p x d w1.drew)
  have hck : w1.cell? ⟨cb, 0, none⟩ = some (.map (some mb)) := HK1.out.box.cell
  have HR1 := hid_in hr1
  obtain ⟨nq, nc, rfl⟩ := own_shape h
  clear h h1 hb1 hr1 hk
  generalize xs.length = nl at *
  obtain ⟨VD, HVD⟩ : ∃ VD, Hid ((V p).getD 0 = VD) := ⟨_, hid_in rfl⟩
  rw [HVD.out] at hl1 ⊢
  generalize hkd : (if d then (3 : Int) else 2) = kd at *
  clear hkd
  go_enter Tryz.func85, Tryz.ntmps85
  go_upto_region 1 with fail
  refine wp_world HW1.out ?_
  go_upto_region 2 with fail
  go_region_with (first | (go_at_call 86; refine HKO.out.mono ?_; rintro e w2 ⟨rfl, hw2⟩; have hb12 : Below w1.heap.size w1 w2 := (by rw [hw2]; exact (below_drew w1).alloc (below_drew w1).size _); have hk2 := HK1.out.below hb12; have ck2 : w2.cell? ⟨cb, 0, none⟩ = some (.map (some mb)) := hk2.box.cell; have hr2 := HR1.out.below hb12 HR1.out.lt; have d1 : w2.cell? ⟨w.heap.size, 1, none⟩ = some (.string p) := hr2.cell 1; obtain ⟨w3, hup, hk3, hg3, hs3⟩ := hk2.store p kd; have HK3 := hid_in hk3; have HG3 := hid_in hg3; have HS3 := hid_in hs3; have HB2 := hid_in hb12; clear hk3 hg3 hs3 hb12 hk2 hr2 hw2))
  all_goals
    go_wp2
    go_ret
    refine ⟨?_, ?_, HK3.out, ?_⟩
    · show Ending.returned (.bool (!(VD == 0))) = _
      rw [beq_dec]
    · have hb02 : Below w.heap.size w w2 := HB1.out.trans (HB2.out.mono HB1.out.size)
      exact below_of_grown (hb02.mono hbase) HG3.out (Nat.le_trans hbase hb02.size) hmb
    · intro k hk hne
      have hb02 : Below w.heap.size w w2 := HB1.out.trans (HB2.out.mono HB1.out.size)
      exact (HG3.out.block k (Nat.lt_of_lt_of_le hk hb02.size) (fun e => hne (Option.some.inj e))).trans (hb02.block k hk)
end Go.Proofs.YtamaejlbojbbeaaGreatDoor.Tr
namespace Go.Proofs.YtamaejlbojbbeaaGreatDoor.Tr
open Go.RowKit
open Sb (hid_in Row Sl T5 BL u8v Tab wp_world grownBy_setCell below_of_grown info39 one_u8 splice_all)
theorem updI_same (V : ByteArray → Option Int) (k : ByteArray) (i : Int) : (updI V k i k).getD 0 = i := by simp [updI]
set_option maxHeartbeats 1000000 in
set_option maxRecDepth 100000 in
/-- one more name in the path's directory; whether these are too many -/
theorem wrong6_any (s : Spot) (w : World) (h : Nm w s.v s.names) (hf : s.Fit) (cb mb : Nat) (V : ByteArray → Option Int) (hk : KM w cb mb V) (base : Nat) (hbase : base ≤ w.heap.size) (hmb : base ≤ mb) (h0 : 0 ≤ (V (dirB s.names)).getD 0) (h9 : (V (dirB s.names)).getD 0 ≤ 1000000) :
    Calls Tryz.prog 90 #[s.val, .pointer (some ⟨cb, 0, none⟩)] w fun e w' => e = .returned (.bool (decide (64 < (V (dirB s.names)).getD 0 + 1))) ∧ Below base w w' ∧ KM w' cb mb (updI V (dirB s.names) ((V (dirB s.names)).getD 0 + 1)) ∧ ∀ k, k < w.heap.size → k ≠ mb → w'.heap[k]? = w.heap[k]? := by
  obtain ⟨v, xs, p, d, x⟩ := s
  simp only [Spot.val] at h h0 h9 ⊢
  obtain ⟨w1, HW1⟩ : ∃ w1, Hid (w.alloc (.cells #[v, .string p, .bool d, .string x] 93) = w1) := ⟨_, hid_in rfl⟩
  obtain ⟨hb1, hr1, h1⟩ := spot_box h HW1
  have c0 : w1.cell? ⟨w.heap.size, 0, none⟩ = some v := hr1.cell 0
  have c1 : w1.cell? ⟨w.heap.size, 1, none⟩ = some (.string p) := hr1.cell 1
  have c2 : w1.cell? ⟨w.heap.size, 2, none⟩ = some (.bool d) := hr1.cell 2
  have c3 : w1.cell? ⟨w.heap.size, 3, none⟩ = some (.string x) := hr1.cell 3
  have HB1 := hid_in hb1
  have HK1 := hid_in (hk.below hb1)
  have HD := hid_in (fun W (hn : Nm W v xs) => dirOf_any ⟨v, xs, p, d, x⟩ W hn hf)
  have HNM1 := hid_in h1
  have hck : w1.cell? ⟨cb, 0, none⟩ = some (.map (some mb)) := HK1.out.box.cell
  have HR1 := hid_in hr1
  obtain ⟨nq, nc, rfl⟩ := own_shape h
  clear h h1 hb1 hr1 hk hf
  simp only [Spot.val] at HD
  generalize dirB xs = DB at *
  generalize hnl : xs.length = nl at *
  clear hnl
  obtain ⟨VD, HVD⟩ : ∃ VD, Hid ((V DB).getD 0 = VD) := ⟨_, hid_in rfl⟩
  rw [HVD.out] at h0 h9 ⊢
  have HD1 := hid_in (HD.out w1.drew (Nm.kept HNM1.out (fun b cs fr e => ((below_drew w1).block b (Array.getElem?_eq_some_iff.1 e).1).trans e)))
  have hwr : IntKind.i64.wrap (VD + 1) = VD + 1 := IntWalk.i64_in _ (by omega)
  have HF3 : Hid (∀ w2 w3, Below w1.heap.size w1 w2 → KM w2 cb mb V → KM w3 cb mb (updI V DB (VD + 1)) → w2.grownBy w3 (some mb) → Row w3 w.heap.size [.slice nq nl nc, .string p, .bool d, .string x] 93 ∧ Nm w3 (.slice nq nl nc) xs) := by
    intro w2 w3 hb2 hk2 _ hg3
    have hr2 := HR1.out.below hb2 HR1.out.lt
    obtain ⟨n, es, cl, hm2, _⟩ := hk2.map
    have key : ∀ (b : Nat) (cs : Array Value) (t : TypeId) (fr : Nat × Nat), w2.heap[b]? = some (.cells cs t fr) → w3.heap[b]? = some (.cells cs t fr) := fun b cs t fr e => kept_typed e hg3 (fun k e2 => by
      rintro rfl
      obtain rfl := Option.some.inj e2
      rw [e] at hm2
      cases hm2)
    exact ⟨key _ _ _ _ hr2, Nm.kept (Nm.kept HNM1.out (fun b cs fr e => (hb2.block b (Array.getElem?_eq_some_iff.1 e).1).trans e)) (fun b cs fr e => key _ _ _ _ e)⟩
  go_enter Tryz.func90, Tryz.ntmps90
  go_upto_region 1 with fail
  refine wp_world HW1.out ?_
  go_region_with (first | (go_at_call 88; refine HD1.out.mono ?_; rintro e w2 ⟨rfl, hb2⟩; have hb12 : Below w1.heap.size w1 w2 := (below_drew w1).trans (hb2.mono (below_drew w1).size); have hk2 := HK1.out.below hb12; have ck2 : w2.cell? ⟨cb, 0, none⟩ = some (.map (some mb)) := hk2.box.cell; have hl2 := hk2.look DB; rw [HVD.out] at hl2; obtain ⟨w3, hup, hk3, hg3, hs3⟩ := hk2.store DB (VD + 1); have HK3 := hid_in hk3; have HG3 := hid_in hg3; have HS3 := hid_in hs3; have HB2 := hid_in hb12; have HK2 := hid_in hk2; clear hb2 hb12 hk2 hk3 hg3 hs3))
  all_goals
    go_upto_region 2 with fail
    clear c0 c1 c2 c3 hck ck2 hl2 hup
    obtain ⟨hr3, hn3⟩ := HF3.out _ _ HB2.out HK2.out HK3.out HG3.out
    have c0 : w3.cell? ⟨w.heap.size, 0, none⟩ = some (.slice nq nl nc) := hr3.cell 0
    have c1 : w3.cell? ⟨w.heap.size, 1, none⟩ = some (.string p) := hr3.cell 1
    have c2 : w3.cell? ⟨w.heap.size, 2, none⟩ = some (.bool d) := hr3.cell 2
    have c3 : w3.cell? ⟨w.heap.size, 3, none⟩ = some (.string x) := hr3.cell 3
    have hck : w3.cell? ⟨cb, 0, none⟩ = some (.map (some mb)) := HK3.out.box.cell
    have HD3 := hid_in (HD.out w3.drew (Nm.kept hn3 (fun b cs fr e => ((below_drew w3).block b (Array.getElem?_eq_some_iff.1 e).1).trans e)))
    clear hr3 hn3
    go_region_with (first | (go_at_call 88; refine HD3.out.mono ?_; rintro e w4 ⟨rfl, hb4⟩; have hb34 : Below w3.heap.size w3 w4 := (below_drew w3).trans (hb4.mono (below_drew w3).size); have hk4 := HK3.out.below hb34; have ck4 : w4.cell? ⟨cb, 0, none⟩ = some (.map (some mb)) := hk4.box.cell; have hl4 := hk4.look DB; rw [updI_same] at hl4; have HK4 := hid_in hk4; have HB4 := hid_in hb34; clear hb4 hb34 hk4))
    all_goals
      go_wp2
      go_ret
      have hb02 : Below w.heap.size w w2 := HB1.out.trans (HB2.out.mono HB1.out.size)
      refine ⟨?_, ?_, HK4.out, ?_⟩
      · rfl
      · have hb03 := below_of_grown (hb02.mono hbase) HG3.out (Nat.le_trans hbase hb02.size) hmb
        exact hb03.trans (HB4.out.mono (Nat.le_trans hbase (Nat.le_trans hb02.size (Nat.le_of_eq HS3.out.symm))))
      · intro k hk hne
        have hk2 := Nat.lt_of_lt_of_le hk hb02.size
        rw [HB4.out.block k (by rw [HS3.out]; exact hk2)]
        exact (HG3.out.block k hk2 (fun e => hne (Option.some.inj e))).trans (hb02.block k hk)
end Go.Proofs.YtamaejlbojbbeaaGreatDoor.Tr
namespace Go.Proofs.YtamaejlbojbbeaaGreatDoor.Tr
open Go.RowKit
open Sb (hid_in Row Sl T5 BL u8v Tab wp_world grownBy_setCell below_of_grown info39 one_u8 splice_all)
/-- a function that is asked of one path behind the other: what holds before each, and what holds where it says yes -/
structure Asks (sp : List Spot) (sv : Value) (F : Nat) (caps : Array Value) (I : Nat → World → Prop) (J : World → Prop) : Prop where
  sps : ∀ (i : Nat) W, I i W → Sps W sv sp
  step : ∀ (i : Nat) s W, sp[i]? = some s → I i W → Calls Tryz.prog F (#[s.val] ++ caps) W fun e w' => ∃ b, e = .returned (.bool b) ∧ (b = false → I (i + 1) w') ∧ (b = true → J w')
set_option maxHeartbeats 1000000 in
set_option maxRecDepth 100000 in
theorem index_83 (sp : List Spot) (sv : Value) (w : World) (I : Nat → World → Prop) (J : World → Prop) (hn : sp.length ≤ 1000000) (h : Asks sp sv 83 #[] I J) (h0 : I 0 w) :
    Calls Tryz.prog 143 #[sv, .func (.func 83) #[] #[]] w fun e w' => ∃ r : Int, e = .returned (.int .i64 r) ∧ ((r < 0 ∧ I sp.length w') ∨ (0 ≤ r ∧ J w')) := by
  obtain ⟨p, cap, b, o, rfl, h1, h2, h3, h4, h5⟩ := h.sps 0 w h0
  have HA := hid_in h
  have H0 := hid_in h0
  clear h3 h4 h5 h h0
  go_enter Tryz.func143, Tryz.ntmps143
  go_wp2_with fail
  go_loopw [8] (fun vi W => ∃ i : Nat, i ≤ sp.length ∧ vi = .int .i64 (i : Int) ∧ Hid (I i W)) (fun vi _ => sp.length - (intOf vi).toNat)
  case atStart => exact ⟨0, by omega, rfl, H0.out⟩
  case round =>
    obtain ⟨i, hi, rfl, hI⟩ := hrel
    by_cases hlt : i < sp.length
    · have hg : sp[i]? = some sp[i] := List.getElem?_eq_getElem hlt
      obtain ⟨p', cap', b', o', hv, h1', h2', h3, h4, h5⟩ := HA.out.sps i wr hI.out
      simp only [Value.slice.injEq] at hv
      obtain ⟨rfl, -, rfl⟩ := hv
      obtain ⟨hp, -⟩ := h3 (by intro h; simp [h] at hlt)
      have hrg := h4 i _ hg
      have HST := hid_in (HA.out.step i _ wr hg hI.out)
      have hnm := h5 _ (List.getElem_mem hlt)
      clear h3 h4 h5 h1' h2'
      generalize sp[i] = s at *
      obtain ⟨v, xs, pt, d, x⟩ := s
      obtain ⟨nq, nc, hv⟩ := own_shape hnm
      simp only at hv
      subst hv hp
      simp only [Spot.val, Array.append_empty] at HST
      have m0 : wr.cell? ⟨b', o' + i * 4, none⟩ = some (.slice nq xs.length nc) := by simpa using hrg 0 _ rfl
      have m1 : wr.cell? ⟨b', o' + i * 4 + 1, none⟩ = some (.string pt) := hrg 1 _ rfl
      have m2 : wr.cell? ⟨b', o' + i * 4 + 2, none⟩ = some (.bool d) := hrg 2 _ rfl
      have m3 : wr.cell? ⟨b', o' + i * 4 + 3, none⟩ = some (.string x) := hrg 3 _ rfl
      clear hrg hnm hg
      generalize xs.length = nl at *
      go_wp2_with (first | (go_at_call 83; refine HST.out.mono ?_; rintro e w1 ⟨t, rfl, hf, ht⟩; cases t))
      · go_wp2
        go_roundw
        case rel => exact ⟨i + 1, by omega, by go_num, hf (by trivial)⟩
        case measure => simp [intOf]; omega
      · go_wp2
        go_ret
        exact ⟨_, rfl, .inr ⟨by omega, ht (by trivial)⟩⟩
    · obtain rfl : i = sp.length := by omega
      go_wp2
      go_ret
      exact ⟨_, rfl, .inl ⟨by decide, hI.out⟩⟩
set_option maxHeartbeats 1000000 in
theorem contains_83 (sp : List Spot) (sv : Value) (w : World) (I : Nat → World → Prop) (J : World → Prop) (hn : sp.length ≤ 1000000) (h : Asks sp sv 83 #[] I J) (h0 : I 0 w) :
    Calls Tryz.prog 91 #[sv, .func (.func 83) #[] #[]] w fun e w' => ∃ b, e = .returned (.bool b) ∧ (b = false → I sp.length w') ∧ (b = true → J w') := by
  have HI := hid_in (index_83 sp sv w I J hn h h0)
  clear h h0
  go_enter Tryz.func91, Tryz.ntmps91
  go_wp2_with (first | (go_at_call 143; refine HI.out.mono ?_; rintro e w1 ⟨r, rfl, hr⟩; have HR := hid_in hr; clear hr))
  go_ret
  refine ⟨decide (0 ≤ r), rfl, fun hb => ?_, fun hb => ?_⟩
  · rcases HR.out with ⟨_, h⟩ | ⟨h, _⟩
    · exact h
    · exact absurd h (of_decide_eq_false hb)
  · rcases HR.out with ⟨h, _⟩ | ⟨_, h⟩
    · have := of_decide_eq_true hb; omega
    · exact h
set_option maxHeartbeats 1000000 in
set_option maxRecDepth 100000 in
theorem index_84 (sp : List Spot) (sv : Value) (w : World) (I : Nat → World → Prop) (J : World → Prop) (hn : sp.length ≤ 1000000) (h : Asks sp sv 84 #[] I J) (h0 : I 0 w) :
    Calls Tryz.prog 143 #[sv, .func (.func 84) #[] #[]] w fun e w' => ∃ r : Int, e = .returned (.int .i64 r) ∧ ((r < 0 ∧ I sp.length w') ∨ (0 ≤ r ∧ J w')) := by
  obtain ⟨p, cap, b, o, rfl, h1, h2, h3, h4, h5⟩ := h.sps 0 w h0
  have HA := hid_in h
  have H0 := hid_in h0
  clear h3 h4 h5 h h0
  go_enter Tryz.func143, Tryz.ntmps143
  go_wp2_with fail
  go_loopw [8] (fun vi W => ∃ i : Nat, i ≤ sp.length ∧ vi = .int .i64 (i : Int) ∧ Hid (I i W)) (fun vi _ => sp.length - (intOf vi).toNat)
  case atStart => exact ⟨0, by omega, rfl, H0.out⟩
  case round =>
    obtain ⟨i, hi, rfl, hI⟩ := hrel
    by_cases hlt : i < sp.length
    · have hg : sp[i]? = some sp[i] := List.getElem?_eq_getElem hlt
      obtain ⟨p', cap', b', o', hv, h1', h2', h3, h4, h5⟩ := HA.out.sps i wr hI.out
      simp only [Value.slice.injEq] at hv
      obtain ⟨rfl, -, rfl⟩ := hv
      obtain ⟨hp, -⟩ := h3 (by intro h; simp [h] at hlt)
      have hrg := h4 i _ hg
      have HST := hid_in (HA.out.step i _ wr hg hI.out)
      have hnm := h5 _ (List.getElem_mem hlt)
      clear h3 h4 h5 h1' h2'
      generalize sp[i] = s at *
      obtain ⟨v, xs, pt, d, x⟩ := s
      obtain ⟨nq, nc, hv⟩ := own_shape hnm
      simp only at hv
      subst hv hp
      simp only [Spot.val, Array.append_empty] at HST
      have m0 : wr.cell? ⟨b', o' + i * 4, none⟩ = some (.slice nq xs.length nc) := by simpa using hrg 0 _ rfl
      have m1 : wr.cell? ⟨b', o' + i * 4 + 1, none⟩ = some (.string pt) := hrg 1 _ rfl
      have m2 : wr.cell? ⟨b', o' + i * 4 + 2, none⟩ = some (.bool d) := hrg 2 _ rfl
      have m3 : wr.cell? ⟨b', o' + i * 4 + 3, none⟩ = some (.string x) := hrg 3 _ rfl
      clear hrg hnm hg
      generalize xs.length = nl at *
      go_wp2_with (first | (go_at_call 84; refine HST.out.mono ?_; rintro e w1 ⟨t, rfl, hf, ht⟩; cases t))
      · go_wp2
        go_roundw
        case rel => exact ⟨i + 1, by omega, by go_num, hf (by trivial)⟩
        case measure => simp [intOf]; omega
      · go_wp2
        go_ret
        exact ⟨_, rfl, .inr ⟨by omega, ht (by trivial)⟩⟩
    · obtain rfl : i = sp.length := by omega
      go_wp2
      go_ret
      exact ⟨_, rfl, .inl ⟨by decide, hI.out⟩⟩
set_option maxHeartbeats 1000000 in
theorem contains_84 (sp : List Spot) (sv : Value) (w : World) (I : Nat → World → Prop) (J : World → Prop) (hn : sp.length ≤ 1000000) (h : Asks sp sv 84 #[] I J) (h0 : I 0 w) :
    Calls Tryz.prog 91 #[sv, .func (.func 84) #[] #[]] w fun e w' => ∃ b, e = .returned (.bool b) ∧ (b = false → I sp.length w') ∧ (b = true → J w') := by
  have HI := hid_in (index_84 sp sv w I J hn h h0)
  clear h h0
  go_enter Tryz.func91, Tryz.ntmps91
  go_wp2_with (first | (go_at_call 143; refine HI.out.mono ?_; rintro e w1 ⟨r, rfl, hr⟩; have HR := hid_in hr; clear hr))
  go_ret
  refine ⟨decide (0 ≤ r), rfl, fun hb => ?_, fun hb => ?_⟩
  · rcases HR.out with ⟨_, h⟩ | ⟨h, _⟩
    · exact h
    · exact absurd h (of_decide_eq_false hb)
  · rcases HR.out with ⟨h, _⟩ | ⟨_, h⟩
    · have := of_decide_eq_true hb; omega
    · exact h
set_option maxHeartbeats 1000000 in
set_option maxRecDepth 100000 in
theorem index_85 (sp : List Spot) (sv : Value) (w : World) (cb : Nat) (I : Nat → World → Prop) (J : World → Prop) (hn : sp.length ≤ 1000000) (h : Asks sp sv 85 #[.pointer (some ⟨cb, 0, none⟩)] I J) (h0 : I 0 w) :
    Calls Tryz.prog 143 #[sv, .func (.func 85) #[] #[.pointer (some ⟨cb, 0, none⟩)]] w fun e w' => ∃ r : Int, e = .returned (.int .i64 r) ∧ ((r < 0 ∧ I sp.length w') ∨ (0 ≤ r ∧ J w')) := by
  obtain ⟨p, cap, b, o, rfl, h1, h2, h3, h4, h5⟩ := h.sps 0 w h0
  have HA := hid_in h
  have H0 := hid_in h0
  clear h3 h4 h5 h h0
  go_enter Tryz.func143, Tryz.ntmps143
  go_wp2_with fail
  go_loopw [8] (fun vi W => ∃ i : Nat, i ≤ sp.length ∧ vi = .int .i64 (i : Int) ∧ Hid (I i W)) (fun vi _ => sp.length - (intOf vi).toNat)
  case atStart => exact ⟨0, by omega, rfl, H0.out⟩
  case round =>
    obtain ⟨i, hi, rfl, hI⟩ := hrel
    by_cases hlt : i < sp.length
    · have hg : sp[i]? = some sp[i] := List.getElem?_eq_getElem hlt
      obtain ⟨p', cap', b', o', hv, h1', h2', h3, h4, h5⟩ := HA.out.sps i wr hI.out
      simp only [Value.slice.injEq] at hv
      obtain ⟨rfl, -, rfl⟩ := hv
      obtain ⟨hp, -⟩ := h3 (by intro h; simp [h] at hlt)
      have hrg := h4 i _ hg
      have HST := hid_in (HA.out.step i _ wr hg hI.out)
      have hnm := h5 _ (List.getElem_mem hlt)
      clear h3 h4 h5 h1' h2'
      generalize sp[i] = s at *
      obtain ⟨v, xs, pt, d, x⟩ := s
      obtain ⟨nq, nc, hv⟩ := own_shape hnm
      simp only at hv
      subst hv hp
      simp only [Spot.val, List.append_toArray, List.cons_append, List.nil_append] at HST
      have m0 : wr.cell? ⟨b', o' + i * 4, none⟩ = some (.slice nq xs.length nc) := by simpa using hrg 0 _ rfl
      have m1 : wr.cell? ⟨b', o' + i * 4 + 1, none⟩ = some (.string pt) := hrg 1 _ rfl
      have m2 : wr.cell? ⟨b', o' + i * 4 + 2, none⟩ = some (.bool d) := hrg 2 _ rfl
      have m3 : wr.cell? ⟨b', o' + i * 4 + 3, none⟩ = some (.string x) := hrg 3 _ rfl
      clear hrg hnm hg
      generalize xs.length = nl at *
      go_wp2_with (first | (go_at_call 85; refine HST.out.mono ?_; rintro e w1 ⟨t, rfl, hf, ht⟩; cases t))
      · go_wp2
        go_roundw
        case rel => exact ⟨i + 1, by omega, by go_num, hf (by trivial)⟩
        case measure => simp [intOf]; omega
      · go_wp2
        go_ret
        exact ⟨_, rfl, .inr ⟨by omega, ht (by trivial)⟩⟩
    · obtain rfl : i = sp.length := by omega
      go_wp2
      go_ret
      exact ⟨_, rfl, .inl ⟨by decide, hI.out⟩⟩
set_option maxHeartbeats 1000000 in
theorem contains_85 (sp : List Spot) (sv : Value) (w : World) (cb : Nat) (I : Nat → World → Prop) (J : World → Prop) (hn : sp.length ≤ 1000000) (h : Asks sp sv 85 #[.pointer (some ⟨cb, 0, none⟩)] I J) (h0 : I 0 w) :
    Calls Tryz.prog 91 #[sv, .func (.func 85) #[] #[.pointer (some ⟨cb, 0, none⟩)]] w fun e w' => ∃ b, e = .returned (.bool b) ∧ (b = false → I sp.length w') ∧ (b = true → J w') := by
  have HI := hid_in (index_85 sp sv w cb I J hn h h0)
  clear h h0
  go_enter Tryz.func91, Tryz.ntmps91
  go_wp2_with (first | (go_at_call 143; refine HI.out.mono ?_; rintro e w1 ⟨r, rfl, hr⟩; have HR := hid_in hr; clear hr))
  go_ret
  refine ⟨decide (0 ≤ r), rfl, fun hb => ?_, fun hb => ?_⟩
  · rcases HR.out with ⟨_, h⟩ | ⟨h, _⟩
    · exact h
    · exact absurd h (of_decide_eq_false hb)
  · rcases HR.out with ⟨h, _⟩ | ⟨_, h⟩
    · have := of_decide_eq_true hb; omega
    · exact h
set_option maxHeartbeats 1000000 in
set_option maxRecDepth 100000 in
theorem index_87 (sp : List Spot) (sv : Value) (w : World) (cb : Nat) (I : Nat → World → Prop) (J : World → Prop) (hn : sp.length ≤ 1000000) (h : Asks sp sv 87 #[.pointer (some ⟨cb, 0, none⟩)] I J) (h0 : I 0 w) :
    Calls Tryz.prog 143 #[sv, .func (.func 87) #[] #[.pointer (some ⟨cb, 0, none⟩)]] w fun e w' => ∃ r : Int, e = .returned (.int .i64 r) ∧ ((r < 0 ∧ I sp.length w') ∨ (0 ≤ r ∧ J w')) := by
  obtain ⟨p, cap, b, o, rfl, h1, h2, h3, h4, h5⟩ := h.sps 0 w h0
  have HA := hid_in h
  have H0 := hid_in h0
  clear h3 h4 h5 h h0
  go_enter Tryz.func143, Tryz.ntmps143
  go_wp2_with fail
  go_loopw [8] (fun vi W => ∃ i : Nat, i ≤ sp.length ∧ vi = .int .i64 (i : Int) ∧ Hid (I i W)) (fun vi _ => sp.length - (intOf vi).toNat)
  case atStart => exact ⟨0, by omega, rfl, H0.out⟩
  case round =>
    obtain ⟨i, hi, rfl, hI⟩ := hrel
    by_cases hlt : i < sp.length
    · have hg : sp[i]? = some sp[i] := List.getElem?_eq_getElem hlt
      obtain ⟨p', cap', b', o', hv, h1', h2', h3, h4, h5⟩ := HA.out.sps i wr hI.out
      simp only [Value.slice.injEq] at hv
      obtain ⟨rfl, -, rfl⟩ := hv
      obtain ⟨hp, -⟩ := h3 (by intro h; simp [h] at hlt)
      have hrg := h4 i _ hg
      have HST := hid_in (HA.out.step i _ wr hg hI.out)
      have hnm := h5 _ (List.getElem_mem hlt)
      clear h3 h4 h5 h1' h2'
      generalize sp[i] = s at *
      obtain ⟨v, xs, pt, d, x⟩ := s
      obtain ⟨nq, nc, hv⟩ := own_shape hnm
      simp only at hv
      subst hv hp
      simp only [Spot.val, List.append_toArray, List.cons_append, List.nil_append] at HST
      have m0 : wr.cell? ⟨b', o' + i * 4, none⟩ = some (.slice nq xs.length nc) := by simpa using hrg 0 _ rfl
      have m1 : wr.cell? ⟨b', o' + i * 4 + 1, none⟩ = some (.string pt) := hrg 1 _ rfl
      have m2 : wr.cell? ⟨b', o' + i * 4 + 2, none⟩ = some (.bool d) := hrg 2 _ rfl
      have m3 : wr.cell? ⟨b', o' + i * 4 + 3, none⟩ = some (.string x) := hrg 3 _ rfl
      clear hrg hnm hg
      generalize xs.length = nl at *
      go_wp2_with (first | (go_at_call 87; refine HST.out.mono ?_; rintro e w1 ⟨t, rfl, hf, ht⟩; cases t))
      · go_wp2
        go_roundw
        case rel => exact ⟨i + 1, by omega, by go_num, hf (by trivial)⟩
        case measure => simp [intOf]; omega
      · go_wp2
        go_ret
        exact ⟨_, rfl, .inr ⟨by omega, ht (by trivial)⟩⟩
    · obtain rfl : i = sp.length := by omega
      go_wp2
      go_ret
      exact ⟨_, rfl, .inl ⟨by decide, hI.out⟩⟩
set_option maxHeartbeats 1000000 in
theorem contains_87 (sp : List Spot) (sv : Value) (w : World) (cb : Nat) (I : Nat → World → Prop) (J : World → Prop) (hn : sp.length ≤ 1000000) (h : Asks sp sv 87 #[.pointer (some ⟨cb, 0, none⟩)] I J) (h0 : I 0 w) :
    Calls Tryz.prog 91 #[sv, .func (.func 87) #[] #[.pointer (some ⟨cb, 0, none⟩)]] w fun e w' => ∃ b, e = .returned (.bool b) ∧ (b = false → I sp.length w') ∧ (b = true → J w') := by
  have HI := hid_in (index_87 sp sv w cb I J hn h h0)
  clear h h0
  go_enter Tryz.func91, Tryz.ntmps91
  go_wp2_with (first | (go_at_call 143; refine HI.out.mono ?_; rintro e w1 ⟨r, rfl, hr⟩; have HR := hid_in hr; clear hr))
  go_ret
  refine ⟨decide (0 ≤ r), rfl, fun hb => ?_, fun hb => ?_⟩
  · rcases HR.out with ⟨_, h⟩ | ⟨h, _⟩
    · exact h
    · exact absurd h (of_decide_eq_false hb)
  · rcases HR.out with ⟨h, _⟩ | ⟨_, h⟩
    · have := of_decide_eq_true hb; omega
    · exact h
set_option maxHeartbeats 1000000 in
set_option maxRecDepth 100000 in
theorem index_89 (sp : List Spot) (sv : Value) (w : World) (cb : Nat) (I : Nat → World → Prop) (J : World → Prop) (hn : sp.length ≤ 1000000) (h : Asks sp sv 89 #[.pointer (some ⟨cb, 0, none⟩)] I J) (h0 : I 0 w) :
    Calls Tryz.prog 143 #[sv, .func (.func 89) #[] #[.pointer (some ⟨cb, 0, none⟩)]] w fun e w' => ∃ r : Int, e = .returned (.int .i64 r) ∧ ((r < 0 ∧ I sp.length w') ∨ (0 ≤ r ∧ J w')) := by
  obtain ⟨p, cap, b, o, rfl, h1, h2, h3, h4, h5⟩ := h.sps 0 w h0
  have HA := hid_in h
  have H0 := hid_in h0
  clear h3 h4 h5 h h0
  go_enter Tryz.func143, Tryz.ntmps143
  go_wp2_with fail
  go_loopw [8] (fun vi W => ∃ i : Nat, i ≤ sp.length ∧ vi = .int .i64 (i : Int) ∧ Hid (I i W)) (fun vi _ => sp.length - (intOf vi).toNat)
  case atStart => exact ⟨0, by omega, rfl, H0.out⟩
  case round =>
    obtain ⟨i, hi, rfl, hI⟩ := hrel
    by_cases hlt : i < sp.length
    · have hg : sp[i]? = some sp[i] := List.getElem?_eq_getElem hlt
      obtain ⟨p', cap', b', o', hv, h1', h2', h3, h4, h5⟩ := HA.out.sps i wr hI.out
      simp only [Value.slice.injEq] at hv
      obtain ⟨rfl, -, rfl⟩ := hv
      obtain ⟨hp, -⟩ := h3 (by intro h; simp [h] at hlt)
      have hrg := h4 i _ hg
      have HST := hid_in (HA.out.step i _ wr hg hI.out)
      have hnm := h5 _ (List.getElem_mem hlt)
      clear h3 h4 h5 h1' h2'
      generalize sp[i] = s at *
      obtain ⟨v, xs, pt, d, x⟩ := s
      obtain ⟨nq, nc, hv⟩ := own_shape hnm
      simp only at hv
      subst hv hp
      simp only [Spot.val, List.append_toArray, List.cons_append, List.nil_append] at HST
      have m0 : wr.cell? ⟨b', o' + i * 4, none⟩ = some (.slice nq xs.length nc) := by simpa using hrg 0 _ rfl
      have m1 : wr.cell? ⟨b', o' + i * 4 + 1, none⟩ = some (.string pt) := hrg 1 _ rfl
      have m2 : wr.cell? ⟨b', o' + i * 4 + 2, none⟩ = some (.bool d) := hrg 2 _ rfl
      have m3 : wr.cell? ⟨b', o' + i * 4 + 3, none⟩ = some (.string x) := hrg 3 _ rfl
      clear hrg hnm hg
      generalize xs.length = nl at *
      go_wp2_with (first | (go_at_call 89; refine HST.out.mono ?_; rintro e w1 ⟨t, rfl, hf, ht⟩; cases t))
      · go_wp2
        go_roundw
        case rel => exact ⟨i + 1, by omega, by go_num, hf (by trivial)⟩
        case measure => simp [intOf]; omega
      · go_wp2
        go_ret
        exact ⟨_, rfl, .inr ⟨by omega, ht (by trivial)⟩⟩
    · obtain rfl : i = sp.length := by omega
      go_wp2
      go_ret
      exact ⟨_, rfl, .inl ⟨by decide, hI.out⟩⟩
set_option maxHeartbeats 1000000 in
theorem contains_89 (sp : List Spot) (sv : Value) (w : World) (cb : Nat) (I : Nat → World → Prop) (J : World → Prop) (hn : sp.length ≤ 1000000) (h : Asks sp sv 89 #[.pointer (some ⟨cb, 0, none⟩)] I J) (h0 : I 0 w) :
    Calls Tryz.prog 91 #[sv, .func (.func 89) #[] #[.pointer (some ⟨cb, 0, none⟩)]] w fun e w' => ∃ b, e = .returned (.bool b) ∧ (b = false → I sp.length w') ∧ (b = true → J w') := by
  have HI := hid_in (index_89 sp sv w cb I J hn h h0)
  clear h h0
  go_enter Tryz.func91, Tryz.ntmps91
  go_wp2_with (first | (go_at_call 143; refine HI.out.mono ?_; rintro e w1 ⟨r, rfl, hr⟩; have HR := hid_in hr; clear hr))
  go_ret
  refine ⟨decide (0 ≤ r), rfl, fun hb => ?_, fun hb => ?_⟩
  · rcases HR.out with ⟨_, h⟩ | ⟨h, _⟩
    · exact h
    · exact absurd h (of_decide_eq_false hb)
  · rcases HR.out with ⟨h, _⟩ | ⟨_, h⟩
    · have := of_decide_eq_true hb; omega
    · exact h
set_option maxHeartbeats 1000000 in
set_option maxRecDepth 100000 in
theorem index_90 (sp : List Spot) (sv : Value) (w : World) (cb : Nat) (I : Nat → World → Prop) (J : World → Prop) (hn : sp.length ≤ 1000000) (h : Asks sp sv 90 #[.pointer (some ⟨cb, 0, none⟩)] I J) (h0 : I 0 w) :
    Calls Tryz.prog 143 #[sv, .func (.func 90) #[] #[.pointer (some ⟨cb, 0, none⟩)]] w fun e w' => ∃ r : Int, e = .returned (.int .i64 r) ∧ ((r < 0 ∧ I sp.length w') ∨ (0 ≤ r ∧ J w')) := by
  obtain ⟨p, cap, b, o, rfl, h1, h2, h3, h4, h5⟩ := h.sps 0 w h0
  have HA := hid_in h
  have H0 := hid_in h0
  clear h3 h4 h5 h h0
  go_enter Tryz.func143, Tryz.ntmps143
  go_wp2_with fail
  go_loopw [8] (fun vi W => ∃ i : Nat, i ≤ sp.length ∧ vi = .int .i64 (i : Int) ∧ Hid (I i W)) (fun vi _ => sp.length - (intOf vi).toNat)
  case atStart => exact ⟨0, by omega, rfl, H0.out⟩
  case round =>
    obtain ⟨i, hi, rfl, hI⟩ := hrel
    by_cases hlt : i < sp.length
    · have hg : sp[i]? = some sp[i] := List.getElem?_eq_getElem hlt
      obtain ⟨p', cap', b', o', hv, h1', h2', h3, h4, h5⟩ := HA.out.sps i wr hI.out
      simp only [Value.slice.injEq] at hv
      obtain ⟨rfl, -, rfl⟩ := hv
      obtain ⟨hp, -⟩ := h3 (by intro h; simp [h] at hlt)
      have hrg := h4 i _ hg
      have HST := hid_in (HA.out.step i _ wr hg hI.out)
      have hnm := h5 _ (List.getElem_mem hlt)
      clear h3 h4 h5 h1' h2'
      generalize sp[i] = s at *
      obtain ⟨v, xs, pt, d, x⟩ := s
      obtain ⟨nq, nc, hv⟩ := own_shape hnm
      simp only at hv
      subst hv hp
      simp only [Spot.val, List.append_toArray, List.cons_append, List.nil_append] at HST
      have m0 : wr.cell? ⟨b', o' + i * 4, none⟩ = some (.slice nq xs.length nc) := by simpa using hrg 0 _ rfl
      have m1 : wr.cell? ⟨b', o' + i * 4 + 1, none⟩ = some (.string pt) := hrg 1 _ rfl
      have m2 : wr.cell? ⟨b', o' + i * 4 + 2, none⟩ = some (.bool d) := hrg 2 _ rfl
      have m3 : wr.cell? ⟨b', o' + i * 4 + 3, none⟩ = some (.string x) := hrg 3 _ rfl
      clear hrg hnm hg
      generalize xs.length = nl at *
      go_wp2_with (first | (go_at_call 90; refine HST.out.mono ?_; rintro e w1 ⟨t, rfl, hf, ht⟩; cases t))
      · go_wp2
        go_roundw
        case rel => exact ⟨i + 1, by omega, by go_num, hf (by trivial)⟩
        case measure => simp [intOf]; omega
      · go_wp2
        go_ret
        exact ⟨_, rfl, .inr ⟨by omega, ht (by trivial)⟩⟩
    · obtain rfl : i = sp.length := by omega
      go_wp2
      go_ret
      exact ⟨_, rfl, .inl ⟨by decide, hI.out⟩⟩
set_option maxHeartbeats 1000000 in
theorem contains_90 (sp : List Spot) (sv : Value) (w : World) (cb : Nat) (I : Nat → World → Prop) (J : World → Prop) (hn : sp.length ≤ 1000000) (h : Asks sp sv 90 #[.pointer (some ⟨cb, 0, none⟩)] I J) (h0 : I 0 w) :
    Calls Tryz.prog 91 #[sv, .func (.func 90) #[] #[.pointer (some ⟨cb, 0, none⟩)]] w fun e w' => ∃ b, e = .returned (.bool b) ∧ (b = false → I sp.length w') ∧ (b = true → J w') := by
  have HI := hid_in (index_90 sp sv w cb I J hn h h0)
  clear h h0
  go_enter Tryz.func91, Tryz.ntmps91
  go_wp2_with (first | (go_at_call 143; refine HI.out.mono ?_; rintro e w1 ⟨r, rfl, hr⟩; have HR := hid_in hr; clear hr))
  go_ret
  refine ⟨decide (0 ≤ r), rfl, fun hb => ?_, fun hb => ?_⟩
  · rcases HR.out with ⟨_, h⟩ | ⟨h, _⟩
    · exact h
    · exact absurd h (of_decide_eq_false hb)
  · rcases HR.out with ⟨h, _⟩ | ⟨_, h⟩
    · have := of_decide_eq_true hb; omega
    · exact h
end Go.Proofs.YtamaejlbojbbeaaGreatDoor.Tr
