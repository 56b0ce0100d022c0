/-
  A value that reads as steps; fits of a script. What is encoded, as a text; what stays.
-/
import Derived.Deep.CutRange
import Derived.Laws.CopyOwn
import Derived.Shelf.SlMaps.Clone
import Derived.Deep.RegionLaw
import Derived.Deep.DrawnRows
import Derived.Laws.Tables
import Derived.Test.YtglfeocfhlmloaaGreatY00
import Derived.Test.YtglfeocfhlmloaaGreatY01
import Derived.Test.YtglfeocfhlmloaaGreatY02
import Derived.Test.YtglfeocfhlmloaaGreatY03
import Derived.Test.YtglfeocfhlmloaaGreatY04
import Derived.Test.YtglfeocfhlmloaaGreatY05
import Derived.Test.YtglfeocfhlmloaaGreatY06
import Derived.Test.YtglfeocfhlmloaaGreatY07
import Derived.Test.YtglfeocfhlmloaaGreatY08
import Derived.Test.YtglfeocfhlmloaaGreatY09
import Derived.Test.YtglfeocfhlmloaaGreatY10
import Derived.Test.YtglfeocfhlmloaaGreatY11
import Derived.Test.YtglfeocfhlmloaaGreatY12
import Derived.Test.YtglfeocfhlmloaaGreatY13
import Derived.Test.YtglfeocfhlmloaaGreatY14
import Derived.Test.YtglfeocfhlmloaaGreatY15
import Derived.Test.YtglfeocfhlmloaaGreatY16
import Derived.Test.YtglfeocfhlmloaaGreatY17
import Derived.Test.YtglfeocfhlmloaaGreatY18
import Derived.Test.YtglfeocfhlmloaaGreatY19
import Derived.Test.YtglfeocfhlmloaaGreatY20
import Derived.Test.YtglfeocfhlmloaaGreatY21
import Derived.Test.YtglfeocfhlmloaaGreatY22
import Derived.Test.YtglfeocfhlmloaaGreatY23
import Derived.Test.YtglfeocfhlmloaaGreatY24
import Derived.Test.YtglfeocfhlmloaaGreatY25
import Derived.Test.YtglfeocfhlmloaaGreatY26
import Derived.Test.YtglfeocfhlmloaaGreatY27
import Derived.Test.YtglfeocfhlmloaaGreatY28
import Derived.Test.YtglfeocfhlmloaaGreatY29
import Derived.Test.YtglfeocfhlmloaaGreatY30
import Derived.Test.YtglfeocfhlmloaaGreatY31
import Derived.Test.YtglfeocfhlmloaaGreatY32
import Derived.Test.YtglfeocfhlmloaaGreatY33
import Derived.Test.YtglfeocfhlmloaaGreatY34
namespace Go.Proofs.YtglfeocfhlmloaaGreat.Up
open Go.RowKit
open Vp (Str B bl Val cmpL parseS showS withinS IsPath checkS)
open Nd (take_put Row wp_world post_Row post_Row2 grownBy_setCell below_of_grown)
/-- a step: an inode that is put, or names that are dropped -/
structure Stp where
  path : ByteArray
  kind : Int
  opq : Bool
  data : ByteArray
  drop : Bool
  nv : Value
  names : List Str
def Stp.cells (s : Stp) : List Value := [.string s.path, .int .i64 s.kind, .bool s.opq, .string s.data, .bool s.drop, s.nv]
/-- a value that reads as steps -/
def Stps (w : World) (v : Value) (ss : List Stp) : Prop := ∃ p cap b o, v = .slice p ss.length cap ∧ ss.length ≤ cap ∧ cap ≤ 9223372036854775807 ∧ (ss ≠ [] → p = some ⟨b, o, none⟩ ∧ b < w.heap.size) ∧ (∀ (i : Nat) x, ss[i]? = some x → w.rangeAt b (o + i * 6) x.cells) ∧ ∀ x ∈ ss, Val w x.nv x.names
theorem Stps.below {w w' : World} {v : Value} {ss : List Stp} (h : Stps w v ss) (hb : Below w.heap.size w w') : Stps w' v ss := by
  obtain ⟨p, cap, b, o, h1, h2, h3, h4, h5, h6⟩ := h
  refine ⟨p, cap, b, o, h1, h2, h3, fun hn => ⟨(h4 hn).1, Nat.lt_of_lt_of_le (h4 hn).2 hb.size⟩, fun i x hi j u hj => ?_, fun x hx => (h6 x hx).below hb⟩
  have hne : ss ≠ [] := by rintro rfl; simp at hi
  rw [hb.cell (p := ⟨b, _, none⟩) (h4 hne).2]
  exact h5 i x hi j u hj
theorem stps_at {W : World} {u : Value} {ss : List Stp} (h : Stps W u ss) : ∃ p c, u = .slice p ss.length c ∧ ss.length ≤ 9223372036854775807 ∧ (ss ≠ [] → ∃ b o, p = some ⟨b, o, none⟩ ∧ ∀ W', Below W.heap.size W W' → ∀ (i : Nat) x, ss[i]? = some x → (∃ np nc, x.nv = .slice np x.names.length nc) ∧ Val W' x.nv x.names ∧ W'.cell? ⟨b, o + i * 6, none⟩ = some (.string x.path) ∧ W'.cell? ⟨b, o + i * 6 + 1, none⟩ = some (.int .i64 x.kind) ∧ W'.cell? ⟨b, o + i * 6 + 2, none⟩ = some (.bool x.opq) ∧ W'.cell? ⟨b, o + i * 6 + 3, none⟩ = some (.string x.data) ∧ W'.cell? ⟨b, o + i * 6 + 4, none⟩ = some (.bool x.drop) ∧ W'.cell? ⟨b, o + i * 6 + 5, none⟩ = some x.nv) := by
  obtain ⟨p, cap, b, o, h1, h2, h3, h4, h5, h6⟩ := h
  refine ⟨p, cap, h1, by omega, fun hne => ⟨b, o, (h4 hne).1, fun W' hb i x hi => ?_⟩⟩
  have hr := h5 i x hi
  have hv := h6 x (List.mem_of_getElem? hi)
  have hc : ∀ j, W'.cell? ⟨b, j, none⟩ = W.cell? ⟨b, j, none⟩ := fun j => hb.cell (p := ⟨b, j, none⟩) (h4 hne).2
  refine ⟨?_, hv.below hb, ?_⟩
  · obtain ⟨np, nc, e, _⟩ := hv
    exact ⟨np, nc, e⟩
  · simp only [hc]
    exact ⟨hr 0 _ rfl, hr 1 _ rfl, hr 2 _ rfl, hr 3 _ rfl, hr 4 _ rfl, hr 5 _ rfl⟩
set_option maxHeartbeats 4000000 in
set_option maxRecDepth 100000 in
theorem fits_any (w : World) (v : Value) (ss : List Stp) (h : Stps w v ss) :
    Calls Tryz.prog 5 #[v] w fun e w' => (∃ t, e = .returned (.bool t)) ∧ Below w.heap.size w w' := by
  obtain ⟨p, c, rfl, hl, hat⟩ := stps_at h
  have HAT := hid_in hat
  have hM : (ss.length : Int) ≤ 9223372036854775807 := by omega
  generalize hn : ss.length = n at *
  have HNN := hid_in hn
  clear h hat hl hn
  go_enter Tryz.func5, Tryz.ntmps5
  go_wp2
  go_loopw [4, 3] (fun vj vs W => (∃ m, W = w.drewN m) ∧ ∃ (j : Nat) (s : Int), j ≤ n ∧ vj = .int .i64 (j : Int) ∧ vs = .int .i64 s) (fun vj _ _ => n - (intOf vj).toNat)
  case atStart => exact ⟨⟨0, rfl⟩, 0, 0, by omega, rfl, rfl⟩
  case round =>
    obtain ⟨⟨m, rfl⟩, j, s, hj, rfl, rfl⟩ := hrel
    by_cases hlt : j < n
    · have hlo : j < ss.length := by rw [HNN.out]; exact hlt
      obtain ⟨b, o, rfl, hcs⟩ := HAT.out (by intro e; rw [e] at hlo; simp at hlo)
      obtain ⟨⟨np, nc, hnv⟩, -, k0, k1, k2, k3, k4, k5⟩ := hcs (w.drewN m).drew (below_drewN (below_drewN (Below.refl _ _) m) 1) j _ (List.getElem?_eq_getElem hlo)
      rw [hnv] at k5
      generalize (ss[j]).names.length = xl at *
      generalize (ss[j]).path = xp at *
      generalize (ss[j]).data = xd at *
      have HL := hid_in hlt
      have hlt2 : (j : Int) < (n : Int) := by omega
      clear hj hlt hlo hnv hcs k1 k2 k4
      go_upto_region 5 with fail
      refine wp_region_held_drew (S := fun W => W.cell? ⟨b, o + j * 6, none⟩ = some (.string xp) ∧ W.cell? ⟨b, o + j * 6 + 3, none⟩ = some (.string xd) ∧ W.cell? ⟨b, o + j * 6 + 5, none⟩ = some (.slice np xl nc)) (by kernel_rfl) ⟨k0, k3, k5⟩ (fun hHeld => ?_)
      refine take_put (i := 0) (d := 11) (v := ?_) rfl rfl (by kernel_rfl) (by kernel_rfl) (by kernel_rfl) (fun _ _ _ h => h) (Or.inl ⟨by kernel_rfl, ?_⟩) hHeld ?_
      rotate_left
      · (intro w hSw; (try dsimp only at hSw); go_simp; (try with_reducible rfl))
      simp only [Act.put, List.setIfInBounds_toArray, List.set_cons_zero, List.set_cons_succ]
      refine take_put (i := 1) (d := 12) (v := ?_) rfl rfl (by kernel_rfl) (by kernel_rfl) (by kernel_rfl) (fun _ _ _ h => h) (Or.inl ⟨by kernel_rfl, ?_⟩) hHeld ?_
      rotate_left
      · (intro w hSw; (try dsimp only at hSw); go_simp; (try with_reducible rfl))
      simp only [Act.put, List.setIfInBounds_toArray, List.set_cons_zero, List.set_cons_succ]
      refine take_put (i := 2) (d := 13) (v := ?_) rfl rfl (by kernel_rfl) (by kernel_rfl) (by kernel_rfl) (fun _ _ _ h => h) (Or.inl ⟨by kernel_rfl, ?_⟩) hHeld ?_
      rotate_left
      · (intro w hSw; (try dsimp only at hSw); go_simp; (try with_reducible rfl))
      simp only [Act.put, List.setIfInBounds_toArray, List.set_cons_zero, List.set_cons_succ]
      refine take_put (i := 3) (d := 14) (v := ?_) rfl rfl (by kernel_rfl) (by kernel_rfl) (by kernel_rfl) (fun _ _ _ h => h) (Or.inl ⟨by kernel_rfl, ?_⟩) hHeld ?_
      rotate_left
      · (intro w hSw; (try dsimp only at hSw); go_simp; (try with_reducible rfl))
      simp only [Act.put, List.setIfInBounds_toArray, List.set_cons_zero, List.set_cons_succ]
      refine take_put (i := 4) (d := 15) (v := ?_) rfl rfl (by kernel_rfl) (by kernel_rfl) (by kernel_rfl) (fun _ _ _ h => h) (Or.inl ⟨by kernel_rfl, ?_⟩) hHeld ?_
      rotate_left
      · (intro w hSw; (try dsimp only at hSw); go_simp; (try with_reducible rfl))
      simp only [Act.put, List.setIfInBounds_toArray, List.set_cons_zero, List.set_cons_succ]
      refine take_put (i := 5) (d := 16) (v := ?_) rfl rfl (by kernel_rfl) (by kernel_rfl) (by kernel_rfl) (fun _ _ _ h => h) (Or.inl ⟨by kernel_rfl, ?_⟩) hHeld ?_
      rotate_left
      · (intro w hSw; (try dsimp only at hSw); go_simp; (try with_reducible rfl))
      simp only [Act.put, List.setIfInBounds_toArray, List.set_cons_zero, List.set_cons_succ]
      refine take_put (i := 6) (d := 17) (v := ?_) rfl rfl (by kernel_rfl) (by kernel_rfl) (by kernel_rfl) (fun _ _ _ h => h) (Or.inl ⟨by kernel_rfl, ?_⟩) hHeld ?_
      rotate_left
      · (intro w hSw; (try dsimp only at hSw); go_simp; (try with_reducible rfl))
      simp only [Act.put, List.setIfInBounds_toArray, List.set_cons_zero, List.set_cons_succ]
      refine take_put (i := 7) (d := 18) (v := ?_) rfl rfl (by kernel_rfl) (by kernel_rfl) (by kernel_rfl) (fun _ _ _ h => h) (Or.inl ⟨by kernel_rfl, ?_⟩) hHeld ?_
      rotate_left
      · (intro w hSw; (try dsimp only at hSw); go_simp; (try with_reducible rfl))
      simp only [Act.put, List.setIfInBounds_toArray, List.set_cons_zero, List.set_cons_succ]
      refine take_put (i := 8) (d := 19) (v := ?_) rfl rfl (by kernel_rfl) (by kernel_rfl) (by kernel_rfl) (fun _ _ _ h => h) (Or.inl ⟨by kernel_rfl, ?_⟩) hHeld ?_
      rotate_left
      · (intro w hSw; (try dsimp only at hSw); go_simp; (try with_reducible rfl))
      simp only [Act.put, List.setIfInBounds_toArray, List.set_cons_zero, List.set_cons_succ]
      refine take_put (i := 9) (d := 20) (v := ?_) rfl rfl (by kernel_rfl) (by kernel_rfl) (by kernel_rfl) (fun _ _ _ h => h) (Or.inl ⟨by kernel_rfl, ?_⟩) hHeld ?_
      rotate_left
      · (intro w hSw; (try dsimp only at hSw); go_simp; (try with_reducible rfl))
      simp only [Act.put, List.setIfInBounds_toArray, List.set_cons_zero, List.set_cons_succ]
      refine take_put (i := 10) (d := 21) (v := ?_) rfl rfl (by kernel_rfl) (by kernel_rfl) (by kernel_rfl) (fun _ _ _ h => h) (Or.inl ⟨by kernel_rfl, ?_⟩) hHeld ?_
      rotate_left
      · (intro w hSw; (try dsimp only at hSw); go_simp; (try with_reducible rfl))
      simp only [Act.put, List.setIfInBounds_toArray, List.set_cons_zero, List.set_cons_succ]
      refine take_put (i := 11) (d := 22) (v := ?_) rfl rfl (by kernel_rfl) (by kernel_rfl) (by kernel_rfl) (fun _ _ _ h => h) (Or.inl ⟨by kernel_rfl, ?_⟩) hHeld ?_
      rotate_left
      · (intro w hSw; (try dsimp only at hSw); go_simp; (try with_reducible rfl))
      simp only [Act.put, List.setIfInBounds_toArray, List.set_cons_zero, List.set_cons_succ]
      refine take_put (i := 12) (d := 23) (v := ?_) rfl rfl (by kernel_rfl) (by kernel_rfl) (by kernel_rfl) (fun _ _ _ h => h) (Or.inl ⟨by kernel_rfl, ?_⟩) hHeld ?_
      rotate_left
      · (intro w hSw; (try dsimp only at hSw); go_simp; (try with_reducible rfl))
      simp only [Act.put, List.setIfInBounds_toArray, List.set_cons_zero, List.set_cons_succ]
      refine take_put (i := 13) (d := 24) (v := ?_) rfl rfl (by kernel_rfl) (by kernel_rfl) (by kernel_rfl) (fun _ _ _ h => h) (Or.inl ⟨by kernel_rfl, ?_⟩) hHeld ?_
      rotate_left
      · (intro w hSw; (try dsimp only at hSw); go_simp; (try with_reducible rfl))
      simp only [Act.put, List.setIfInBounds_toArray, List.set_cons_zero, List.set_cons_succ]
      refine take_put (i := 14) (d := 25) (v := ?_) rfl rfl (by kernel_rfl) (by kernel_rfl) (by kernel_rfl) (fun _ _ _ h => h) (Or.inl ⟨by kernel_rfl, ?_⟩) hHeld ?_
      rotate_left
      · (intro w hSw; (try dsimp only at hSw); go_simp; (try with_reducible rfl))
      simp only [Act.put, List.setIfInBounds_toArray, List.set_cons_zero, List.set_cons_succ]
      refine take_put (i := 15) (d := 26) (v := ?_) rfl rfl (by kernel_rfl) (by kernel_rfl) (by kernel_rfl) (fun _ _ _ h => h) (Or.inl ⟨by kernel_rfl, ?_⟩) hHeld ?_
      rotate_left
      · (intro w hSw; (try dsimp only at hSw); go_simp; (try with_reducible rfl))
      simp only [Act.put, List.setIfInBounds_toArray, List.set_cons_zero, List.set_cons_succ]
      refine take_put (i := 16) (d := 27) (v := ?_) rfl rfl (by kernel_rfl) (by kernel_rfl) (by kernel_rfl) (fun _ _ _ h => h) (Or.inl ⟨by kernel_rfl, ?_⟩) hHeld ?_
      rotate_left
      · (intro w hSw; (try dsimp only at hSw); go_simp; (try with_reducible rfl))
      simp only [Act.put, List.setIfInBounds_toArray, List.set_cons_zero, List.set_cons_succ]
      refine take_put (i := 17) (d := 28) (v := ?_) rfl rfl (by kernel_rfl) (by kernel_rfl) (by kernel_rfl) (fun _ _ _ h => h) (Or.inl ⟨by kernel_rfl, ?_⟩) hHeld ?_
      rotate_left
      · (intro w hSw; (try dsimp only at hSw); go_simp; (try with_reducible rfl))
      simp only [Act.put, List.setIfInBounds_toArray, List.set_cons_zero, List.set_cons_succ]
      refine take_put (i := 18) (d := 29) (v := ?_) rfl rfl (by kernel_rfl) (by kernel_rfl) (by kernel_rfl) (fun _ _ _ h => h) (Or.inl ⟨by kernel_rfl, ?_⟩) hHeld ?_
      rotate_left
      · (intro w hSw; (try dsimp only at hSw); go_simp; (try with_reducible rfl))
      simp only [Act.put, List.setIfInBounds_toArray, List.set_cons_zero, List.set_cons_succ]
      refine take_put (i := 19) (d := 30) (v := ?_) rfl rfl (by kernel_rfl) (by kernel_rfl) (by kernel_rfl) (fun _ _ _ h => h) (Or.inl ⟨by kernel_rfl, ?_⟩) hHeld ?_
      rotate_left
      · (intro w hSw; (try dsimp only at hSw); go_simp; (try with_reducible rfl))
      simp only [Act.put, List.setIfInBounds_toArray, List.set_cons_zero, List.set_cons_succ]
      refine take_put (i := 20) (d := 31) (v := ?_) rfl rfl (by kernel_rfl) (by kernel_rfl) (by kernel_rfl) (fun _ _ _ h => h) (Or.inl ⟨by kernel_rfl, ?_⟩) hHeld ?_
      rotate_left
      · (intro w hSw; (try dsimp only at hSw); go_simp; (try with_reducible rfl))
      simp only [Act.put, List.setIfInBounds_toArray, List.set_cons_zero, List.set_cons_succ]
      refine take_put (i := 21) (d := 32) (v := ?_) rfl rfl (by kernel_rfl) (by kernel_rfl) (by kernel_rfl) (fun _ _ _ h => h) (Or.inl ⟨by kernel_rfl, ?_⟩) hHeld ?_
      rotate_left
      · (intro w hSw; (try dsimp only at hSw); go_simp; (try with_reducible rfl))
      simp only [Act.put, List.setIfInBounds_toArray, List.set_cons_zero, List.set_cons_succ]
      refine take_put (i := 22) (d := 33) (v := ?_) rfl rfl (by kernel_rfl) (by kernel_rfl) (by kernel_rfl) (fun _ _ _ h => h) (Or.inl ⟨by kernel_rfl, ?_⟩) hHeld ?_
      rotate_left
      · (intro w hSw; (try dsimp only at hSw); go_simp; (try with_reducible rfl))
      simp only [Act.put, List.setIfInBounds_toArray, List.set_cons_zero, List.set_cons_succ]
      refine take_put (i := 23) (d := 34) (v := ?_) rfl rfl (by kernel_rfl) (by kernel_rfl) (by kernel_rfl) (fun _ _ _ h => h) (Or.inl ⟨by kernel_rfl, ?_⟩) hHeld ?_
      rotate_left
      · (intro w hSw; (try dsimp only at hSw); go_simp; (try with_reducible rfl))
      simp only [Act.put, List.setIfInBounds_toArray, List.set_cons_zero, List.set_cons_succ]
      refine take_put (i := 24) (d := 35) (v := ?_) rfl rfl (by kernel_rfl) (by kernel_rfl) (by kernel_rfl) (fun _ _ _ h => h) (Or.inl ⟨by kernel_rfl, ?_⟩) hHeld ?_
      rotate_left
      · (intro w hSw; (try dsimp only at hSw); go_simp; (try with_reducible rfl))
      simp only [Act.put, List.setIfInBounds_toArray, List.set_cons_zero, List.set_cons_succ]
      refine take_put (i := 25) (d := 36) (v := ?_) rfl rfl (by kernel_rfl) (by kernel_rfl) (by kernel_rfl) (fun _ _ _ h => h) (Or.inl ⟨by kernel_rfl, ?_⟩) hHeld ?_
      rotate_left
      · (intro w hSw; (try dsimp only at hSw); go_simp; (try with_reducible rfl))
      simp only [Act.put, List.setIfInBounds_toArray, List.set_cons_zero, List.set_cons_succ]
      refine take_put (i := 26) (d := 3) (v := ?_) rfl rfl (by kernel_rfl) (by kernel_rfl) (by kernel_rfl) (fun _ _ _ h => h) (Or.inl ⟨by kernel_rfl, ?_⟩) hHeld ?_
      rotate_left
      · (intro w hSw; (try dsimp only at hSw); go_simp; (try with_reducible rfl))
      simp only [Act.put, List.setIfInBounds_toArray, List.set_cons_zero, List.set_cons_succ]
      refine wpAnyH_done (by kernel_rfl) ?_ _
      go_wp2
      go_roundw
      case rel => exact ⟨⟨m + 1, rfl⟩, j + 1, _, by have := HL.out; omega, by go_num, rfl⟩
      case measure => have := HL.out; simp [intOf]; omega
    · obtain rfl : j = n := by omega
      clear hj hlt
      go_wp2
      go_ret
      exact ⟨⟨_, rfl⟩, below_drewN (Below.refl _ _) m⟩
end Go.Proofs.YtglfeocfhlmloaaGreat.Up
namespace Go.Proofs.YtglfeocfhlmloaaGreat.Up
open Go.RowKit
open Vp (Str B bl Val cmpL parseS showS withinS IsPath checkS)
open Nd (Row wp_world post_Row post_Row2 grownBy_setCell below_of_grown Sl u8v)
/-- rows of cells stay -/
def CK (w w' : World) : Prop := ∀ (b : Nat) (cs : Array Value) (t : TypeId) (fr : Nat × Nat), w.heap[b]? = some (.cells cs t fr) → w'.heap[b]? = some (.cells cs t fr)
theorem CK.trans {a b c : World} (h : CK a b) (k : CK b c) : CK a c := fun x cs t fr e => k x cs t fr (h x cs t fr e)
theorem ck_below {w w' : World} (h : Below w.heap.size w w') : CK w w' := fun b cs t fr e => by
  rw [h.block b (Array.getElem?_eq_some_iff.1 e).1, e]
theorem ck_map {w w' : World} {m : Nat} {L : List Spot} (h : MapP w m L) (hg : w.grownBy w' (some m)) : CK w w' := fun b cs t fr e => by
  obtain ⟨es, clock, hb, _⟩ := h.ex
  rw [hg.block b (Array.getElem?_eq_some_iff.1 e).1 (fun e2 => ?_), e]
  obtain rfl := Option.some.inj e2
  rw [hb] at e
  cases e
theorem encI_lt (f : Fil) (h1 : f.path.size ≤ 200) (h2 : f.kind ≤ 3) (h3 : f.data.size ≤ 1024) : ∀ x ∈ encI f, x < 256 := by
  intro x hx
  unfold encI at hx
  simp only [List.mem_append, List.mem_singleton] at hx
  rcases hx with (((hx | hx) | hx) | hx) | (hx | hx)
  · exact Nd.num_lt _ (by omega) x hx
  · exact Nd.bytesS_lt _ x hx
  · exact Nd.num_lt _ (by omega) x hx
  · rw [hx]; split <;> omega
  · exact Nd.num_lt _ (by omega) x hx
  · exact Nd.bytesS_lt _ x hx
theorem enc_lt {N Z k : Nat} {fs : List Fil} (hN : N ≤ 128) (hZ : Z ≤ 8192) (hk : k ≤ 100000) (h : ∀ f ∈ fs, f.path.size ≤ 200 ∧ f.kind ≤ 3 ∧ f.data.size ≤ 1024) : ∀ x ∈ encU N Z k fs, x < 256 := by
  intro x hx
  unfold encU at hx
  simp only [List.mem_append, List.mem_flatMap] at hx
  rcases hx with ((hx | hx) | hx) | ⟨f, hf, hx⟩
  · exact Nd.num_lt _ (by omega) x hx
  · exact Nd.num_lt _ (by omega) x hx
  · exact Nd.num_lt _ (by omega) x hx
  · obtain ⟨h1, h2, h3⟩ := h f hf
    exact encI_lt f h1 h2 h3 x hx
theorem kind_ok {k : Int} {q : Bool} {d : ByteArray} (h : formE k q d = 0) : d.size ≤ 1024 ∧ 0 ≤ k ∧ k ≤ 3 := by
  refine ⟨form_small h, ?_⟩
  unfold formE at h
  split at h
  · rename_i h1; exact absurd h h1
  · rename_i h1
    have h1 : kindE k q d = 0 := Classical.byContradiction h1
    unfold kindE at h1
    split at h1
    · omega
    split at h1
    · omega
    split at h1
    · omega
    · cases h1
end Go.Proofs.YtglfeocfhlmloaaGreat.Up
