/-
  What comes in: bytes, numbers, truth values, slices of bytes, calls.
-/
import Derived.ProofKit
import Derived.OpenShut
import Derived.ShutString
import Derived.ChangeOld
import Derived.Deep.DeepHandedRow
import Derived.SizedLaws
import Derived.Lib.LaidTab
import Derived.Deep.Matrix
import Derived.Deep.Slices
import Derived.Test.YtcdmdmbdgmihfaaA00
import Derived.Test.YtcdmdmbdgmihfaaA01
import Derived.Test.YtcdmdmbdgmihfaaA02
import Derived.Test.YtcdmdmbdgmihfaaA03
import Derived.Test.YtcdmdmbdgmihfaaA04
import Derived.Test.YtcdmdmbdgmihfaaA05
import Derived.Test.YtcdmdmbdgmihfaaA06
import Derived.Test.YtcdmdmbdgmihfaaA07
import Derived.Test.YtcdmdmbdgmihfaaA08
import Derived.Test.YtcdmdmbdgmihfaaA09
import Derived.Test.YtcdmdmbdgmihfaaA10
import Derived.Test.YtcdmdmbdgmihfaaA11
import Derived.Test.YtcdmdmbdgmihfaaA14
namespace Go.Proofs.Ytcdmdmbdgmihfaa.Pt
open Go.ChangeShapes Go.WideShapes Go.ChangeAt Go.RowKit Go.Deep
open Nd (Sl u8v)
theorem bulk_pos {H : Type} (d : DataW H) : 1 ≤ Rows.uptoBulk d := by
  cases d with
  | lit l => cases l <;> simp [Rows.uptoBulk]
  | _ => simp [Rows.uptoBulk]
theorem bulkAll_len {H : Type} : ∀ (l : List (DataW H)), l.length ≤ Rows.uptoBulkAll l
  | [] => by simp [Rows.uptoBulkAll]
  | d :: r => by
    have := bulk_pos d
    have := bulkAll_len r
    simp only [List.length_cons, Rows.uptoBulkAll]
    omega
theorem bulkAll_mem {H : Type} {d : DataW H} : ∀ {l : List (DataW H)}, d ∈ l → Rows.uptoBulk d ≤ Rows.uptoBulkAll l
  | x :: r, h => by
    simp only [Rows.uptoBulkAll]
    rcases List.mem_cons.1 h with rfl | h
    · omega
    · have := bulkAll_mem h
      omega
theorem none_of_cell {W : World} {x : Addr} {len : Nat} (h : 0 < len → ∃ v, W.cell? x = some v) : ∃ b o, 0 < len → x = ⟨b, o, none⟩ := by
  by_cases h0 : 0 < len
  · obtain ⟨v, hc⟩ := h h0
    obtain ⟨b', o', sp⟩ := x
    have hspot : sp = none := by simpa using World.cell?_spot hc
    subst hspot
    exact ⟨b', o', fun _ => rfl⟩
  · exact ⟨0, 0, fun h => absurd h h0⟩
theorem cells3 : Try.prog.cellsOf 3 = 1 := by kernel_rfl
theorem cells4 : Try.prog.cellsOf 4 = 1 := by kernel_rfl
theorem cells5 : Try.prog.cellsOf 5 = 1 := by kernel_rfl
theorem cells34 : Try.prog.cellsOf 34 = 1 := by kernel_rfl
theorem cells35 : Try.prog.cellsOf 35 = 1 := by kernel_rfl
theorem cells37 : Try.prog.cellsOf 37 = 5 := by kernel_rfl
theorem add_zero' (x : Addr) : x.add 0 = x := by cases x; simp [Addr.add]
/-- bytes that come in -/
theorem bytes_in {H : Type} {enc : TypeId × Value → H} {W : World} {fuel : Nat} {cs : List Value} {d : DataW H} {p : List MemPlace} (hf : DataW.trod enc Try.prog W 0 (fun _ => true) true fuel 34 cs = some (d, p)) :
    ∃ (a : Option Addr) (xs : List Nat) (cap b off : Nat), cs = [.slice a xs.length cap] ∧ Sl W a xs cap b off ∧ (a = none → xs.length = 0 ∧ cap = 0) ∧ xs.length ≤ Rows.uptoBulk d := by
  rcases open_ints Try.underlying34 Try.underlying5 cells5 hf with ⟨hcs, _⟩ | ⟨x, len, cap, zs, hcs, _, h1, h2, hz, hx, h4, h5⟩
  · exact ⟨none, [], 0, 0, 0, hcs, ⟨by simp, by simp, by simp, fun h => by simp at h, fun j hj => by simp at hj⟩, fun _ => ⟨rfl, rfl⟩, by simp⟩
  · simp only [if_true] at hz
    simp only [Prod.mk.injEq] at hx
    obtain ⟨hd, _⟩ := hx
    have h2' : cap ≤ 9223372036854775807 := by unfold maxLen at h2; omega
    have hl : ((zs.take len).map Int.toNat).length = len := by simp; omega
    have hb : ∀ y ∈ (zs.take len).map Int.toNat, y < 256 := by
      intro y hy
      simp only [List.mem_map] at hy
      obtain ⟨n, hn, rfl⟩ := hy
      have := bounds_u8 (h5 n (List.mem_of_mem_take hn))
      omega
    have hbk : len ≤ Rows.uptoBulk d := by
      rw [hd]
      have e := bulkAll_len (H := H) (lits .u8 (zs.take len))
      have e2 : (lits (H := H) .u8 (zs.take len)).length = len := by simp [lits]; omega
      simp only [Rows.uptoBulk]
      omega
    by_cases hp : 0 < zs.length
    · obtain ⟨b, off, rfl, hc⟩ := ints_at h4 hp
      refine ⟨some ⟨b, off, none⟩, (zs.take len).map Int.toNat, cap, b, off, by rw [hcs, hl], ⟨hb, by omega, h2', fun _ => rfl, fun j hj => ?_⟩, (fun h => by cases h), by omega⟩
      rw [hl] at hj
      rw [hc j (by omega)]
      have hz2 : j < zs.length := by omega
      have hbd := bounds_u8 (h5 zs[j] (List.getElem_mem hz2))
      have e : (((zs.take len).map Int.toNat).getD j 0 : Nat) = (zs.getD j 0).toNat := by
        simp [hj, hz2]
      unfold u8v
      rw [e]
      simp [hz2]
      omega
    · exact ⟨some x, (zs.take len).map Int.toNat, cap, 0, 0, by rw [hcs, hl], ⟨hb, by omega, h2', fun h => by omega, fun j hj => by omega⟩, (fun h => by cases h), by omega⟩
/-- numbers that come in -/
theorem ints_in {H : Type} {enc : TypeId × Value → H} {W : World} {fuel : Nat} {cs : List Value} {d : DataW H} {p : List MemPlace} (hf : DataW.trod enc Try.prog W 0 (fun _ => true) true fuel 35 cs = some (d, p)) :
    ∃ v ks, cs = [v] ∧ Kin W v ks := by
  rcases open_slice Try.underlying35 hf with ⟨hcs, hx⟩ | ⟨x, l, c, m, n, D, Pl, hcs, _, hl, hm, hmm, hx, hr⟩
  · exact ⟨_, [], hcs, ⟨none, 0, 0, 0, rfl, by simp, fun h => absurd rfl h, fun i s h => by simp at h⟩⟩
  · simp only [if_true] at hmm
    subst hmm
    rw [cells3] at hr
    have each : ∀ r, r < l → ∃ k : Int, W.cell? (x.add r) = some (.int .i64 k) := by
      intro r hlt
      obtain ⟨cs', h1, h2⟩ := hr r (by omega)
      obtain ⟨_, hlen, hcell⟩ := World.cells?_some h1
      obtain ⟨k, e2, _, hk⟩ := DataW.trod_int Try.underlying3 h2
      subst e2
      refine ⟨k, ?_⟩
      have := hcell 0 (by omega)
      rw [Nat.mul_one, add_zero'] at this
      simpa using this
    obtain ⟨y, hy⟩ := choose_lt each
    obtain ⟨b, o, hpx⟩ := none_of_cell (W := W) (x := x) (len := l) (fun h0 => ⟨_, by have := hy 0 h0; rwa [add_zero'] at this⟩)
    have hcap : m ≤ 9223372036854775807 := by unfold maxLen at hm; omega
    refine ⟨_, (List.range l).map y, hcs, ⟨some x, m, b, o, by simp, by simp; omega, fun hne => ?_, fun i s hi => ?_⟩⟩
    · have h0 : 0 < l := by
        rcases Nat.eq_zero_or_pos l with h | h
        · subst h; exact absurd rfl hne
        · exact h
      have hc := hy 0 h0
      rw [add_zero', hpx h0] at hc
      exact ⟨by rw [hpx h0], World.block_lt_of_cell? W _ hc⟩
    · have hlt : i < l := by have := (List.getElem?_eq_some_iff.1 hi).1; simpa using this
      simp [hlt] at hi
      subst hi
      have hc := hy i hlt
      rw [hpx (by omega), Addr.add_mid] at hc
      exact hc
/-- a call that comes in -/
theorem cl1_in {H : Type} {enc : TypeId × Value → H} {W : World} {fuel : Nat} {cs : List Value} {d : DataW H} {p : List MemPlace} (hf : DataW.trod enc Try.prog W 0 (fun _ => true) true fuel 37 cs = some (d, p)) :
    ∃ c : Cl1, cs = c.cells ∧ c.ok W ∧ c.xs.length ≤ Rows.uptoBulk d := by
  obtain ⟨zs, n2, _, hxy, hl2, hzl, hg2⟩ := DataW.trod_struct Try.underlying37 hf
  have hzl' : zs.length = 5 := hzl
  rw [cells37] at hl2
  match zs, hzl', cs, hl2 with
  | [z0, z1, z2, z3, z4], _, [v0, v1, v2, v3, v4], _ =>
    have k0 := hg2 0 _ rfl
    have k1 := hg2 1 _ rfl
    have k2 := hg2 2 _ rfl
    have k3 := hg2 3 _ rfl
    have k4 := hg2 4 _ rfl
    obtain ⟨K, f0, _, _⟩ := DataW.trod_int Try.underlying3 k0
    obtain ⟨A, f1, _, _⟩ := DataW.trod_int Try.underlying3 k1
    obtain ⟨a, xs, cap, b, off, f2, hsl, hno, hbk⟩ := bytes_in k2
    obtain ⟨N, f3, _, hN⟩ := DataW.trod_int Try.underlying3 k3
    obtain ⟨kv, ks, f4, hk⟩ := ints_in k4
    simp [cells3, cells34, cells35] at f0 f1 f2 f3 f4
    subst f0 f1 f2 f3 f4
    simp only [Prod.mk.injEq] at hxy
    obtain ⟨hd, _⟩ := hxy
    have m2 := bulkAll_mem (d := z2.1) (l := [z0.1, z1.1, z2.1, z3.1, z4.1]) (by simp)
    have hb : Rows.uptoBulkAll [z0.1, z1.1, z2.1, z3.1, z4.1] ≤ Rows.uptoBulk d := by
      rw [hd]
      simp only [List.map_cons, List.map_nil, Rows.uptoBulk]
      omega
    exact ⟨⟨K, A, .slice a xs.length cap, N, v4, xs, ks⟩, rfl, ⟨⟨a, cap, b, off, rfl, hsl, hno⟩, hk, (bounds_i64 hN).2⟩, by simp only; omega⟩
/-- a script that comes in -/
theorem cls_in {H : Type} {enc : TypeId × Value → H} {W : World} {a : Option Addr} {len cap : Nat} {d : DataW H} {p : List MemPlace} (h : DataW.Trod enc Try.prog W 0 (fun _ => true) true 22 (.slice a len cap) d p) :
    ∃ ss : List Cl1, Cls W (.slice a len cap) ss ∧ ∀ x ∈ ss, x.xs.length ≤ Rows.uptoBulk d := by
  obtain ⟨fuel, hf⟩ := h
  rcases open_slice Try.underlying22 hf with ⟨hcs, hx⟩ | ⟨x, l, c, m, n, D, Pl, hcs, _, hl, hm, hmm, hx, hr⟩
  · simp [Value.cells] at hcs
    obtain ⟨rfl, rfl, rfl⟩ := hcs
    exact ⟨[], ⟨none, 0, 0, 0, rfl, by simp, by omega, fun h => absurd rfl h, fun i f hi => by simp at hi, fun f hf => by cases hf⟩, fun f hf => by cases hf⟩
  · simp [Value.cells] at hcs
    obtain ⟨rfl, rfl, rfl⟩ := hcs
    simp only [if_true] at hmm
    subst hmm
    simp only [Prod.mk.injEq] at hx
    obtain ⟨hd, _⟩ := hx
    rw [cells37] at hr
    have each : ∀ r, r < len → ∃ f : Cl1, f.ok W ∧ f.xs.length ≤ Rows.uptoBulk (D r) ∧ ∀ (j : Nat) u, f.cells[j]? = some u → W.cell? ((x.add (r * 5)).add j) = some u := by
      intro r hlt
      obtain ⟨cs', h1, h2⟩ := hr r (by omega)
      obtain ⟨_, hlen, hcell⟩ := World.cells?_some h1
      obtain ⟨o, rfl, ho, hob⟩ := cl1_in h2
      refine ⟨o, ho, hob, fun j u hj => ?_⟩
      have hj5 : j < 5 := by have := (List.getElem?_eq_some_iff.1 hj).1; exact this
      have := hcell j hj5
      rw [this]
      exact hj
    haveI : Inhabited Cl1 := ⟨⟨0, 0, .slice none 0 0, 0, .slice none 0 0, [], []⟩⟩
    obtain ⟨y, hy⟩ := choose_lt each
    have hcap : m ≤ 9223372036854775807 := by unfold maxLen at hm; omega
    obtain ⟨b, o, hpx⟩ : ∃ b o, 0 < len → x = ⟨b, o, none⟩ ∧ b < W.heap.size := by
      by_cases h0 : 0 < len
      · have hc := (hy 0 h0).2.2 0 _ rfl
        obtain ⟨b', o', sp⟩ := x
        have hspot : sp = none := by simpa [Addr.add] using World.cell?_spot hc
        subst hspot
        rw [Addr.add_mid, Addr.add_mid] at hc
        exact ⟨b', o', fun _ => ⟨rfl, World.block_lt_of_cell? W _ hc⟩⟩
      · exact ⟨0, 0, fun h => absurd h h0⟩
    refine ⟨(List.range len).map y, ⟨some x, m, b, o, by simp, by simpa using hl, hcap, fun h => ?_, fun j f hj => ?_, fun f hf => ?_⟩, fun f hf => ?_⟩
    · have h0 : 0 < len := by
        rcases Nat.eq_zero_or_pos len with h1 | h1
        · subst h1; exact absurd rfl h
        · exact h1
      exact ⟨by rw [(hpx h0).1], (hpx h0).2⟩
    · have hi : j < len := by have := (List.getElem?_eq_some_iff.1 hj).1; simpa using this
      simp [hi] at hj
      subst hj
      intro i u hu
      have := (hy j hi).2.2 i u hu
      rw [(hpx (by omega)).1, Addr.add_mid, Addr.add_mid] at this
      exact this
    · obtain ⟨r, hr2, rfl⟩ := List.mem_map.1 hf
      exact (hy r (by simpa using hr2)).1
    · obtain ⟨r, hr2, rfl⟩ := List.mem_map.1 hf
      have hr3 : r < len := by simpa using hr2
      have h1 := bulkAll_mem (d := D r) (l := (List.range len).map D) (List.mem_map.2 ⟨r, by simpa using hr3, rfl⟩)
      have h2 := (hy r hr3).2.1
      rw [hd]
      simp only [Rows.uptoBulk]
      omega
theorem bytes5 : Try.prog.bytesOf 5 = 1 := by kernel_rfl
theorem slice_len {H : Type} {enc : TypeId × Value → H} {W : World} {a : Option Addr} {len cap : Nat} {d : DataW H} {p : List MemPlace} (h : DataW.Trod enc Try.prog W 0 (fun _ => true) true 34 (.slice a len cap) d p) : (d = .nil ∧ len = 0) ∨ ∃ es sp, d = .slice es sp ∧ es.length = len := by
  obtain ⟨fuel, hf⟩ := h
  rcases open_ints Try.underlying34 Try.underlying5 cells5 hf with ⟨hcs, hx⟩ | ⟨x, l, c, zs, hcs, _, hl, hm, hz, hx, hcell, hwz⟩
  · simp [Value.cells] at hcs
    obtain ⟨rfl, rfl, rfl⟩ := hcs
    simp only [Prod.mk.injEq] at hx
    exact .inl ⟨hx.1, rfl⟩
  · simp [Value.cells] at hcs
    obtain ⟨rfl, rfl, rfl⟩ := hcs
    simp only [Prod.mk.injEq] at hx
    refine .inr ⟨_, _, hx.1, ?_⟩
    simp at hz
    simp [lits, hz]
    omega
theorem slice_reach {H : Type} {enc : TypeId × Value → H} {W : World} {a : Option Addr} {len cap : Nat} {d : DataW H} {p : List MemPlace} (h : DataW.Trod enc Try.prog W 0 (fun _ => true) true 34 (.slice a len cap) d p)
    {ts : List TypeId} {ds : List (DataW H)} (hsz : (DataW.weightsEach Try.prog ts ds).all (· ≤ reachBytes) = true) (j : Nat) (ht : ts[j]? = some 34) (hd : ds[j]? = some d) : len ≤ 140737488351232 := by
  obtain ⟨_, rfl⟩ | ⟨es, sp, rfl, rfl⟩ := slice_len h
  · omega
  · have := sized_slice hsz ht hd Try.underlying34
    rw [bytes5] at this
    unfold reachBytes at this
    omega
theorem slice_in {H : Type} {enc : TypeId × Value → H} {W : World} {a : Option Addr} {len cap : Nat} {d : DataW H} {p : List MemPlace} (h : DataW.Trod enc Try.prog W 0 (fun _ => true) true 34 (.slice a len cap) d p) : ∃ (xs : List Nat) (b off : Nat), xs.length = len ∧ Sl W a xs cap b off ∧ (a = none → xs.length = 0 ∧ cap = 0) := by
  obtain ⟨fuel, hf⟩ := h
  obtain ⟨a', xs, cap', b, off, e, h1, h2, -⟩ := bytes_in hf
  simp [Value.cells] at e
  obtain ⟨rfl, rfl, rfl⟩ := e
  exact ⟨xs, b, off, rfl, h1, h2⟩
theorem numbers_in {H : Type} {enc : TypeId × Value → H} {W : World} {a : Option Addr} {len cap : Nat} {d : DataW H} {p : List MemPlace} (h : DataW.Trod enc Try.prog W 0 (fun _ => true) true 35 (.slice a len cap) d p) : ∃ ks, Kin W (.slice a len cap) ks := by
  obtain ⟨fuel, hf⟩ := h
  obtain ⟨v, ks, e, h1⟩ := ints_in hf
  simp [Value.cells] at e
  subst e
  exact ⟨ks, h1⟩
end Go.Proofs.Ytcdmdmbdgmihfaa.Pt
