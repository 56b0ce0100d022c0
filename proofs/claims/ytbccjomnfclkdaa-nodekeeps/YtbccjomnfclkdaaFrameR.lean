/-
  Plain data of a node that come in.
-/
import Derived.Test.YtbccjomnfclkdaaFrame
import Derived.Test.YtbccjomnfclkdaaN23d
import Derived.Deep.Matrix
import Derived.Deep.Slices
namespace Go.Proofs.Ytbccjomnfclkdaa
open Go.ChangeShapes Go.WideShapes Go.ChangeAt Go.RowKit Go.Deep
theorem bulk_pos {H : Type} (d : DataW H) : 1 ≤ Rows.uptoBulk d := by
  cases d with
  | lit l => cases l <;> simp [Rows.uptoBulk]
  | _ => simp [Rows.uptoBulk]
theorem bulkAll_len {H : Type} : ∀ (l : List (DataW H)), l.length ≤ Rows.uptoBulkAll l
  | [] => by simp [Rows.uptoBulkAll]
  | d :: r => by
    have := bulk_pos d
    have := bulkAll_len r
    simp only [List.length_cons, Rows.uptoBulkAll]
    omega
theorem bulkAll_mem {H : Type} {d : DataW H} : ∀ {l : List (DataW H)}, d ∈ l → Rows.uptoBulk d ≤ Rows.uptoBulkAll l
  | x :: r, h => by
    simp only [Rows.uptoBulkAll]
    rcases List.mem_cons.1 h with rfl | h
    · omega
    · have := bulkAll_mem h
      omega
theorem none_of_cell {W : World} {x : Addr} {len : Nat} (h : 0 < len → ∃ v, W.cell? x = some v) : ∃ b o, 0 < len → x = ⟨b, o, none⟩ := by
  by_cases h0 : 0 < len
  · obtain ⟨v, hc⟩ := h h0
    obtain ⟨b', o', sp⟩ := x
    have hspot : sp = none := by simpa using World.cell?_spot hc
    subst hspot
    exact ⟨b', o', fun _ => rfl⟩
  · exact ⟨0, 0, fun h => absurd h h0⟩
theorem cells9 : Try.prog.cellsOf 9 = 1 := by kernel_rfl
theorem cells3 : Try.prog.cellsOf 3 = 1 := by kernel_rfl
theorem add_zero' (x : Addr) : x.add 0 = x := by cases x; simp [Addr.add]
instance : Inhabited ByteArray := ⟨ByteArray.empty⟩
theorem strs_in {H : Type} {enc : TypeId × Value → H} {W : World} {fuel : Nat} {cs : List Value} {d : DataW H} {p : List MemPlace} (hf : DataW.trod enc Try.prog W 0 (fun _ => true) true fuel 23 cs = some (d, p)) :
    ∃ v ns, cs = [v] ∧ Strs W v ns ∧ ns.length ≤ Rows.uptoBulk d ∧ ∀ s ∈ ns, s.size ≤ Rows.uptoBulk d := by
  rcases open_slice Try.underlying23 hf with ⟨hcs, hx⟩ | ⟨x, l, c, m, n, D, Pl, hcs, _, hl, hm, hmm, hx, hr⟩
  · exact ⟨_, [], hcs, ⟨none, 0, 0, 0, rfl, by simp, by omega, fun h => absurd rfl h, fun i s h => by simp at h⟩, by simp, fun s h => by cases h⟩
  · simp only [if_true] at hmm
    subst hmm
    simp only [Prod.mk.injEq] at hx
    obtain ⟨hd, _⟩ := hx
    rw [cells9] at hr
    have each : ∀ r, r < l → ∃ s : ByteArray, W.cell? (x.add r) = some (.string s) ∧ Rows.uptoBulk (D r) = s.size + 1 := by
      intro r hlt
      obtain ⟨cs', h1, h2⟩ := hr r (by omega)
      obtain ⟨_, hlen, hcell⟩ := World.cells?_some h1
      obtain ⟨S, e2, x2, _⟩ := DataW.trod_string Try.underlying9 h2
      subst e2
      refine ⟨S, ?_, ?_⟩
      · have := hcell 0 (by omega)
        rw [Nat.mul_one, add_zero'] at this
        simpa using this
      · simp only [Prod.mk.injEq] at x2
        rw [x2.1]
        rfl
    obtain ⟨y, hy⟩ := choose_lt each
    obtain ⟨b, o, hpx⟩ := none_of_cell (W := W) (x := x) (len := l) (fun h0 => ⟨_, by have := (hy 0 h0).1; rwa [add_zero'] at this⟩)
    have hcap : m ≤ 9223372036854775807 := by unfold maxLen at hm; omega
    refine ⟨_, (List.range l).map y, hcs, ⟨some x, m, b, o, by simp, by simpa using hl, hcap, fun hne => ?_, fun i s hi => ?_⟩, ?_, fun s hs => ?_⟩
    · have h0 : 0 < l := by
        rcases Nat.eq_zero_or_pos l with h | h
        · subst h; exact absurd rfl hne
        · exact h
      have hc := (hy 0 h0).1
      rw [add_zero', hpx h0] at hc
      exact ⟨by rw [hpx h0], World.block_lt_of_cell? W _ hc⟩
    · have hlt : i < l := by have := (List.getElem?_eq_some_iff.1 hi).1; simpa using this
      simp [hlt] at hi
      subst hi
      have hc := (hy i hlt).1
      rw [hpx (by omega), Addr.add_mid] at hc
      exact hc
    · rw [hd]
      have := bulkAll_len ((List.range l).map D)
      simp only [List.length_map, List.length_range, Rows.uptoBulk] at this ⊢
      omega
    · simp only [List.mem_map, List.mem_range] at hs
      obtain ⟨i, hi, rfl⟩ := hs
      have h1 := bulkAll_mem (d := D i) (l := (List.range l).map D) (List.mem_map.2 ⟨i, by simpa using hi, rfl⟩)
      rw [(hy i hi).2] at h1
      rw [hd]
      simp only [Rows.uptoBulk]
      omega
theorem ints_in {H : Type} {enc : TypeId × Value → H} {W : World} {fuel : Nat} {cs : List Value} {d : DataW H} {p : List MemPlace} (hf : DataW.trod enc Try.prog W 0 (fun _ => true) true fuel 24 cs = some (d, p)) :
    ∃ v ks, cs = [v] ∧ Ints W v ks ∧ ks.length ≤ Rows.uptoBulk d ∧ ∀ k ∈ ks, -9223372036854775808 ≤ k ∧ k ≤ 9223372036854775807 := by
  rcases open_slice Try.underlying24 hf with ⟨hcs, hx⟩ | ⟨x, l, c, m, n, D, Pl, hcs, _, hl, hm, hmm, hx, hr⟩
  · exact ⟨_, [], hcs, ⟨none, 0, 0, 0, rfl, by simp, by omega, fun h => absurd rfl h, fun i s h => by simp at h⟩, by simp, fun s h => by cases h⟩
  · simp only [if_true] at hmm
    subst hmm
    simp only [Prod.mk.injEq] at hx
    obtain ⟨hd, _⟩ := hx
    rw [cells3] at hr
    have each : ∀ r, r < l → ∃ k : Int, W.cell? (x.add r) = some (.int .i64 k) ∧ -9223372036854775808 ≤ k ∧ k ≤ 9223372036854775807 := by
      intro r hlt
      obtain ⟨cs', h1, h2⟩ := hr r (by omega)
      obtain ⟨_, hlen, hcell⟩ := World.cells?_some h1
      obtain ⟨k, e2, _, hk⟩ := DataW.trod_int Try.underlying3 h2
      subst e2
      refine ⟨k, ?_, bounds_i64 hk⟩
      have := hcell 0 (by omega)
      rw [Nat.mul_one, add_zero'] at this
      simpa using this
    obtain ⟨y, hy⟩ := choose_lt each
    obtain ⟨b, o, hpx⟩ := none_of_cell (W := W) (x := x) (len := l) (fun h0 => ⟨_, by have := (hy 0 h0).1; rwa [add_zero'] at this⟩)
    have hcap : m ≤ 9223372036854775807 := by unfold maxLen at hm; omega
    refine ⟨_, (List.range l).map y, hcs, ⟨some x, m, b, o, by simp, by simpa using hl, hcap, fun hne => ?_, fun i s hi => ?_⟩, ?_, fun s hs => ?_⟩
    · have h0 : 0 < l := by
        rcases Nat.eq_zero_or_pos l with h | h
        · subst h; exact absurd rfl hne
        · exact h
      have hc := (hy 0 h0).1
      rw [add_zero', hpx h0] at hc
      exact ⟨by rw [hpx h0], World.block_lt_of_cell? W _ hc⟩
    · have hlt : i < l := by have := (List.getElem?_eq_some_iff.1 hi).1; simpa using this
      simp [hlt] at hi
      subst hi
      have hc := (hy i hlt).1
      rw [hpx (by omega), Addr.add_mid] at hc
      exact hc
    · rw [hd]
      have := bulkAll_len ((List.range l).map D)
      simp only [List.length_map, List.length_range, Rows.uptoBulk] at this ⊢
      omega
    · simp only [List.mem_map, List.mem_range] at hs
      obtain ⟨i, hi, rfl⟩ := hs
      exact (hy i hi).2
theorem cells33 : Try.prog.cellsOf 33 = 1 := by kernel_rfl
theorem cells5 : Try.prog.cellsOf 5 = 1 := by kernel_rfl
instance : Inhabited (Option Addr × List Nat × Nat × Nat × Nat) := ⟨(none, [], 0, 0, 0)⟩
theorem bytes_in {H : Type} {enc : TypeId × Value → H} {W : World} {fuel : Nat} {cs : List Value} {d : DataW H} {p : List MemPlace} (hf : DataW.trod enc Try.prog W 0 (fun _ => true) true fuel 33 cs = some (d, p)) :
    ∃ y : Option Addr × List Nat × Nat × Nat × Nat, cs = [.slice y.1 y.2.1.length y.2.2.1] ∧ Sl W y.1 y.2.1 y.2.2.1 y.2.2.2.1 y.2.2.2.2 := by
  rcases open_ints Try.underlying33 Try.underlying5 cells5 hf with ⟨hcs, _⟩ | ⟨a, len, cap, zs, hcs, _, hl, hm, hz, _, hcell, hw⟩
  · exact ⟨(none, [], 0, 0, 0), hcs, ⟨by simp, by simp, by simp, fun h => by simp at h, fun j hj => by simp at hj⟩⟩
  · simp only [if_true] at hz
    obtain ⟨bs, b, off, hb, hsl⟩ := sl_of (w := W) (a := some a) (len := len) (cap := cap) (zs := zs) (.inr ⟨a, rfl, hl, hm, hz, hcell, hw⟩)
    exact ⟨(some a, bs, cap, b, off), by rw [hcs]; simp only [hb], hsl⟩
theorem bss_in {H : Type} {enc : TypeId × Value → H} {W : World} {fuel : Nat} {cs : List Value} {d : DataW H} {p : List MemPlace} (hf : DataW.trod enc Try.prog W 0 (fun _ => true) true fuel 22 cs = some (d, p)) :
    ∃ v ps, cs = [v] ∧ Bss W v ps ∧ ps.length ≤ Rows.uptoBulk d := by
  rcases open_slice Try.underlying22 hf with ⟨hcs, hx⟩ | ⟨x, l, c, m, n, D, Pl, hcs, _, hl, hm, hmm, hx, hr⟩
  · exact ⟨_, [], hcs, ⟨none, 0, 0, 0, rfl, by simp, by omega, fun h => absurd rfl h, fun i s h => by simp at h⟩, by simp⟩
  · simp only [if_true] at hmm
    subst hmm
    simp only [Prod.mk.injEq] at hx
    obtain ⟨hd, _⟩ := hx
    rw [cells33] at hr
    have each : ∀ r, r < l → ∃ y : Option Addr × List Nat × Nat × Nat × Nat, W.cell? (x.add r) = some (.slice y.1 y.2.1.length y.2.2.1) ∧ Sl W y.1 y.2.1 y.2.2.1 y.2.2.2.1 y.2.2.2.2 := by
      intro r hlt
      obtain ⟨cs', h1, h2⟩ := hr r (by omega)
      obtain ⟨_, hlen, hcell⟩ := World.cells?_some h1
      obtain ⟨y, e2, hsl⟩ := bytes_in h2
      subst e2
      refine ⟨y, ?_, hsl⟩
      have := hcell 0 (by omega)
      rw [Nat.mul_one, add_zero'] at this
      simpa using this
    obtain ⟨y, hy⟩ := choose_lt each
    obtain ⟨b, o, hpx⟩ := none_of_cell (W := W) (x := x) (len := l) (fun h0 => ⟨_, by have := (hy 0 h0).1; rwa [add_zero'] at this⟩)
    have hcap : m ≤ 9223372036854775807 := by unfold maxLen at hm; omega
    refine ⟨_, (List.range l).map (fun i => (y i).2.1), hcs, ⟨some x, m, b, o, by simp, by simpa using hl, hcap, fun hne => ?_, fun i s hi => ?_⟩, ?_⟩
    · have h0 : 0 < l := by
        rcases Nat.eq_zero_or_pos l with h | h
        · subst h; exact absurd rfl hne
        · exact h
      have hc := (hy 0 h0).1
      rw [add_zero', hpx h0] at hc
      exact ⟨by rw [hpx h0], World.block_lt_of_cell? W _ hc⟩
    · have hlt : i < l := by have := (List.getElem?_eq_some_iff.1 hi).1; simpa using this
      simp [hlt] at hi
      subst hi
      obtain ⟨hc, hs⟩ := hy i hlt
      rw [hpx (by omega), Addr.add_mid] at hc
      exact ⟨_, _, _, _, hc, hs⟩
    · rw [hd]
      have := bulkAll_len ((List.range l).map D)
      simp only [List.length_map, List.length_range, Rows.uptoBulk] at this ⊢
      omega
theorem cells22 : Try.prog.cellsOf 22 = 1 := by kernel_rfl
theorem cells23 : Try.prog.cellsOf 23 = 1 := by kernel_rfl
theorem cells24 : Try.prog.cellsOf 24 = 1 := by kernel_rfl
theorem cells26 : Try.prog.cellsOf 26 = 7 := by kernel_rfl
theorem raw_inT {H : Type} {enc : TypeId × Value → H} {W : World} {fuel : Nat} {T : TypeId} {cs : List Value} {d : DataW H} {p : List MemPlace} (hT : Try.prog.underlying T = Try.prog.underlying 26) (hf : DataW.trod enc Try.prog W 0 (fun _ => true) true fuel T cs = some (d, p)) (hc : Try.prog.cellsOf T = 7) :
    ∃ (k : Int) (s : ByteArray) (z : Int) (vP vN vK vS : Value) (ps : List (List Nat)) (ns : List ByteArray) (ks : List Int) (ss : List (List Nat)), cs = [.int .i64 k, .string s, .int .i64 z, vP, vN, vK, vS] ∧ Bss W vP ps ∧ Strs W vN ns ∧ Ints W vK ks ∧ Bss W vS ss ∧
      (-9223372036854775808 ≤ k ∧ k ≤ 9223372036854775807) ∧ (-9223372036854775808 ≤ z ∧ z ≤ 9223372036854775807) ∧ (∀ k ∈ ks, -9223372036854775808 ≤ k ∧ k ≤ 9223372036854775807) ∧
      s.size ≤ Rows.uptoBulk d ∧ ps.length ≤ Rows.uptoBulk d ∧ ns.length ≤ Rows.uptoBulk d ∧ (∀ n ∈ ns, n.size ≤ Rows.uptoBulk d) := by
  obtain ⟨xs, n, _, hxy, hl, hxl, hg⟩ := DataW.trod_struct (hT.trans Try.underlying26) hf
  have hxl' : xs.length = 7 := hxl
  rw [hc] at hl
  match xs, hxl', cs, hl with
  | [y0, y1, y2, y3, y4, y5, y6], _, [v0, v1, v2, v3, v4, v5, v6], _ =>
    have g0 := hg 0 _ rfl
    have g1 := hg 1 _ rfl
    have g2 := hg 2 _ rfl
    have g3 := hg 3 _ rfl
    have g4 := hg 4 _ rfl
    have g5 := hg 5 _ rfl
    have g6 := hg 6 _ rfl
    obtain ⟨K, e0, _, hK⟩ := DataW.trod_int Try.underlying3 g0
    obtain ⟨S, e1, x1, _⟩ := DataW.trod_string Try.underlying9 g1
    obtain ⟨Z, e2, _, hZ⟩ := DataW.trod_int Try.underlying3 g2
    obtain ⟨w3, ps, e3, h3, b3⟩ := bss_in g3
    obtain ⟨w4, ns, e4, h4, b4, c4⟩ := strs_in g4
    obtain ⟨w5, ks, e5, h5, _, c5⟩ := ints_in g5
    obtain ⟨w6, ss, e6, h6, _⟩ := bss_in g6
    simp [cells3, cells9, cells22, cells23, cells24] at e0 e1 e2 e3 e4 e5 e6
    subst e0 e1 e2 e3 e4 e5 e6
    simp only [Prod.mk.injEq] at hxy x1
    obtain ⟨hd, _⟩ := hxy
    have m1 := bulkAll_mem (d := y1.1) (l := [y0.1, y1.1, y2.1, y3.1, y4.1, y5.1, y6.1]) (by simp)
    have m3 := bulkAll_mem (d := y3.1) (l := [y0.1, y1.1, y2.1, y3.1, y4.1, y5.1, y6.1]) (by simp)
    have m4 := bulkAll_mem (d := y4.1) (l := [y0.1, y1.1, y2.1, y3.1, y4.1, y5.1, y6.1]) (by simp)
    have hb : Rows.uptoBulkAll [y0.1, y1.1, y2.1, y3.1, y4.1, y5.1, y6.1] ≤ Rows.uptoBulk d := by
      rw [hd]
      simp only [List.map_cons, List.map_nil, Rows.uptoBulk]
      omega
    refine ⟨K, S, Z, _, _, _, _, ps, ns, ks, ss, rfl, h3, h4, h5, h6, bounds_i64 hK, bounds_i64 hZ, c5, ?_, by omega, by omega, fun n hn => ?_⟩
    · have hs : Rows.uptoBulk y1.1 = S.size + 1 := by
        rw [x1]
        rfl
      omega
    · have := c4 n hn
      omega
end Go.Proofs.Ytbccjomnfclkdaa
