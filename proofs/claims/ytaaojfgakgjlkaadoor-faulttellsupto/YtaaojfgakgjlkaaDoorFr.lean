/-
  What the proofs of the cards have in common: the variables that are laid, and the steps that come in.
-/
import Derived.Test.YtaaojfgakgjlkaaDoorCards
import Derived.Test.YtaaojfgakgjlkaaDoorTie
import Derived.Test.YtaaojfgakgjlkaaDoorH1
import Derived.WalkKit
import Derived.ProofKit
import Derived.OpenShut
import Derived.ShutString
import Derived.ChangeOld
import Derived.Deep.Slices
import Derived.Deep.MidRow
import Derived.Deep.DeepHandedRow
import Derived.Lib.LaidTab
import Derived.LaidHandle
namespace Go.Proofs.YtaaojfgakgjlkaaDoor
open Go.ChangeShapes Go.WideShapes Go.ChangeAt Go.RowKit Go.Deep

theorem own : ownKnob Tryd.prog.godebug = none := by kernel_rfl
theorem laidOut : laidOutB Tryd.prog = true := by kernel_rfl
theorem gPow : Tryd.prog.globalNamed "internal/strconv.uint64pow10" = some 1 := by kernel_rfl
theorem gPowType : (Tryd.prog.globals[1]?).map (·.type) = some 112 := by kernel_rfl
theorem cells112 : Tryd.prog.cellsOf 112 = 20 := by kernel_rfl
theorem cells104 : Tryd.prog.cellsOf 104 = 1 := by kernel_rfl
theorem gErr : Tryd.prog.globalNamed "errors.errorType" = some 0 := by kernel_rfl
theorem rtype87 : (Tryd.prog.cutTypes.find? (·.1 == "internal/reflectlite.rtype")).map (·.2) = some 87 := by kernel_rfl
theorem oneRow : ((List.range 147).filter fun t => Tryd.prog.rowNamed t [101, 114, 114, 111, 114]) = [30] := by kernel_rfl
theorem typesSize : Tryd.prog.types.size = 147 := by kernel_rfl
abbrev laid4 : List (String × DataW Unit) := [("math/bits.deBruijn32tab", Rows.laid_math_bits_deBruijn32tab), ("math/bits.deBruijn64tab", Rows.laid_math_bits_deBruijn64tab), ("internal/strconv.uint64pow10", Rows.laid_internal_strconv_uint64pow10), ("errors.errorType", Rows.laid_errors_errorType)]
theorem laid_parts {W : World} (h : laidMetH Tryd.prog laid4 W) : laidMet Tryd.prog [("math/bits.deBruijn32tab", Rows.laid_math_bits_deBruijn32tab), ("math/bits.deBruijn64tab", Rows.laid_math_bits_deBruijn64tab), ("internal/strconv.uint64pow10", Rows.laid_internal_strconv_uint64pow10)] W ∧ handlesMet Tryd.prog [("errors.errorType", Rows.laid_errors_errorType)] W := h
theorem handle_of {W : World} (h : laidMetH Tryd.prog laid4 W) : W.cell? ⟨0, 0, none⟩ = some (.iface 87 (.agg #[.pointer (some ⟨4, 30, none⟩)])) := by
  obtain ⟨name, u, ty, e1, e2, e3, e4, e5⟩ := (laid_parts h).2 _ (List.mem_singleton.2 rfl)
  have en : name = [101, 114, 114, 111, 114] := (Option.some.inj e1).symm
  subst en
  obtain rfl := Option.some.inj (rtype87.symm.trans e2)
  have hm : ty ∈ (List.range 147).filter fun t => Tryd.prog.rowNamed t [101, 114, 114, 111, 114] := List.mem_filter.2 ⟨List.mem_range.2 (by rw [← typesSize]; exact e3), e4⟩
  rw [oneRow] at hm
  obtain rfl := List.mem_singleton.1 hm
  have hh : typeHandle Tryd.prog 30 = .pointer (some ⟨4, 30, none⟩) := by kernel_rfl
  rw [hh] at e5
  simpa using World.var?_cell gErr e5 0
theorem pow_data : (Rows.laid_internal_strconv_uint64pow10 : DataW Unit) = Lib.tabData .u64 Lib.pow10Tab := by kernel_rfl
set_option maxRecDepth 100000 in
theorem laid_third {W : World} {n1 n2 n3 : String} {d1 d2 d3 : DataW Unit} (h : laidMet Tryd.prog [(n1, d1), (n2, d2), (n3, d3)] W) : ∃ g t cs fuel p, Tryd.prog.globalNamed n3 = some g ∧ (Tryd.prog.globals[g]?).map (·.type) = some t ∧ W.var? Tryd.prog n3 = some cs ∧ DataW.trod (fun _ => ()) Tryd.prog W 0 (fun _ => true) false fuel t cs.toList = some (d3, p) := by
  obtain ⟨ps, h, _⟩ := h
  obtain ⟨_, _, _, _, _, _, _, _, _, _, h, _⟩ := h
  obtain ⟨_, _, _, _, _, _, _, _, _, _, h, _⟩ := h
  obtain ⟨g', t', cs, fuel, p, q, hg', ht', hvar, hd, _, _⟩ := h
  exact ⟨g', t', cs, fuel, p, hg', ht', hvar, hd⟩
theorem tab_third {W : World} {zs : List Int} {d : DataW Unit} (hz : d = Lib.tabData .u64 zs) (h : ∃ g t cs fuel p, Tryd.prog.globalNamed "internal/strconv.uint64pow10" = some g ∧ (Tryd.prog.globals[g]?).map (·.type) = some t ∧ W.var? Tryd.prog "internal/strconv.uint64pow10" = some cs ∧ DataW.trod (fun _ => ()) Tryd.prog W 0 (fun _ => true) false fuel t cs.toList = some (d, p)) : Lib.TabIs Tryd.prog W "internal/strconv.uint64pow10" .u64 zs := by
  subst hz
  obtain ⟨g', t', cs, fuel, p, hg', ht', hvar, hd⟩ := h
  obtain rfl := Option.some.inj (gPow.symm.trans hg')
  obtain rfl := Option.some.inj (gPowType.symm.trans ht')
  unfold Lib.TabIs
  rw [hvar, ← Lib.cells_of_tab Tryd.underlying112 Tryd.underlying104 cells104 cells112 hd]
theorem pow_of {W : World} (h : laidMetH Tryd.prog laid4 W) : Lib.TabIs Tryd.prog W "internal/strconv.uint64pow10" .u64 Lib.pow10Tab := tab_third pow_data (laid_third (laid_parts h).1)
theorem gBru : Tryd.prog.globalNamed "math/bits.deBruijn64tab" = some 3 := by kernel_rfl
theorem var_lt {W : World} {n : String} {g : Nat} {cs : Array Value} (hg : Tryd.prog.globalNamed n = some g) (h : W.var? Tryd.prog n = some cs) : g < W.heap.size := by
  unfold World.var? at h
  rw [hg] at h
  simp only [Option.bind_some] at h
  rcases Nat.lt_or_ge g W.heap.size with h1 | h1
  · exact h1
  · rw [Array.getElem?_eq_none h1] at h
    cases h
theorem laid_second {W : World} {n1 n2 n3 : String} {d1 d2 d3 : DataW Unit} (h : laidMet Tryd.prog [(n1, d1), (n2, d2), (n3, d3)] W) : ∃ cs, W.var? Tryd.prog n2 = some cs := by
  obtain ⟨ps, h, _⟩ := h
  obtain ⟨_, _, _, _, _, _, _, _, _, _, h, _⟩ := h
  obtain ⟨_, _, cs, _, _, _, _, _, hv, _, _, _⟩ := h
  exact ⟨cs, hv⟩
theorem size_of {W : World} (h : laidMetH Tryd.prog laid4 W) : 4 ≤ W.heap.size := by
  obtain ⟨cs, hv⟩ := laid_second (laid_parts h).1
  exact var_lt gBru hv
theorem cells3 : Tryd.prog.cellsOf 3 = 1 := by kernel_rfl
theorem cells9 : Tryd.prog.cellsOf 9 = 1 := by kernel_rfl
theorem cells54 : Tryd.prog.cellsOf 54 = 5 := by kernel_rfl
instance : Inhabited St := ⟨⟨0, [], [], 0, 0⟩⟩
set_option maxRecDepth 100000 in
theorem step_in {H : Type} {enc : TypeId × Value → H} {W : World} {fuel : Nat} {a : Addr} {cs : List Value} {d : DataW H} {p : List MemPlace} (hc : W.cells? 0 a 5 = some cs) (h : DataW.trod enc Tryd.prog W 0 (fun _ => true) true fuel 54 cs = some (d, p)) :
    ∃ s : St, W.cell? (a.add 0) = some (.int .i64 s.K) ∧ W.cell? (a.add 1) = some (.string (B s.op)) ∧ W.cell? (a.add 2) = some (.string (B s.path)) ∧ W.cell? (a.add 3) = some (.int .i64 s.code) ∧ W.cell? (a.add 4) = some (.int .i64 s.N) ∧ s.op.length + s.path.length + 2 ≤ Rows.uptoBulk d := by
  obtain ⟨_, hlen, hcell⟩ := World.cells?_some hc
  obtain ⟨xs, k, _, hxy, _, hxl, hf⟩ := DataW.trod_struct Tryd.underlying54 h
  have hxl' : xs.length = 5 := hxl
  match xs, hxl', cs, hlen with
  | [y0, y1, y2, y3, y4], _, [v0, v1, v2, v3, v4], _ =>
    have g0 := hf 0 _ rfl
    have g1 := hf 1 _ rfl
    have g2 := hf 2 _ rfl
    have g3 := hf 3 _ rfl
    have g4 := hf 4 _ rfl
    obtain ⟨K, e0, x0, _⟩ := DataW.trod_int Tryd.underlying3 g0
    obtain ⟨S, e1, x1, _⟩ := DataW.trod_string Tryd.underlying9 g1
    obtain ⟨P, e2, x2, _⟩ := DataW.trod_string Tryd.underlying9 g2
    obtain ⟨C, e3, x3, _⟩ := DataW.trod_int Tryd.underlying3 g3
    obtain ⟨N, e4, x4, _⟩ := DataW.trod_int Tryd.underlying3 g4
    simp [cells3, cells9] at e0 e1 e2 e3 e4
    subst e0 e1 e2 e3 e4
    have hd : d = .agg [y0.1, y1.1, y2.1, y3.1, y4.1] := by
      simp only [Prod.mk.injEq] at hxy
      simpa using hxy.1
    refine ⟨⟨K, bl S, bl P, C, N⟩, ?_, ?_, ?_, ?_, ?_, ?_⟩
    · simpa using hcell 0 (by omega)
    · simpa [B_bl] using hcell 1 (by omega)
    · simpa [B_bl] using hcell 2 (by omega)
    · simpa using hcell 3 (by omega)
    · simpa using hcell 4 (by omega)
    · rw [hd, x0, x1, x2, x3, x4]
      simp only [Rows.uptoBulk, Rows.uptoBulkAll, bl]
      omega
theorem bulk_steps {H : Type} (xs : List Nat) (D : Nat → DataW H) (y : Nat → St) (h : ∀ r ∈ xs, (y r).op.length + (y r).path.length + 2 ≤ Rows.uptoBulk (D r)) : ((xs.map y).map fun s => s.op.length + s.path.length + 2).sum ≤ Rows.uptoBulkAll (xs.map D) := by
  induction xs with
  | nil => simp
  | cons x r ih =>
    have h1 := h x (by simp)
    have h2 := ih (fun z hz => h z (by simp [hz]))
    simp only [List.map_cons, Rows.uptoBulkAll, List.sum_cons] at h2 ⊢
    omega
theorem steps_in {H : Type} {enc : TypeId × Value → H} {W : World} {a : Option Addr} {len cap : Nat} {d : DataW H} {p : List MemPlace} (h : DataW.Trod enc Tryd.prog W 0 (fun _ => true) true 22 (.slice a len cap) d p) :
    ∃ (ss : List St) (b o : Nat), ss.length = len ∧ Steps W b o ss ∧ (ss ≠ [] → a = some ⟨b, o, none⟩ ∧ b < W.heap.size) ∧ ss.length ≤ cap ∧ cap ≤ 9223372036854775807 ∧ (ss.map fun s => s.op.length + s.path.length + 2).sum ≤ Rows.uptoBulk d := by
  obtain ⟨fuel, hf⟩ := h
  rcases open_slice Tryd.underlying22 hf with ⟨hcs, hx⟩ | ⟨x, l, c, m, n, D, Pl, hcs, _, hl, hm, hmm, hx, hr⟩
  · simp [Value.cells] at hcs
    obtain ⟨rfl, rfl, rfl⟩ := hcs
    exact ⟨[], 0, 0, rfl, fun j s hs => (by simp at hs), fun h => absurd rfl h, by simp, by omega, by simp⟩
  · simp [Value.cells] at hcs
    obtain ⟨rfl, rfl, rfl⟩ := hcs
    simp only [if_true] at hmm
    subst hmm
    simp only [Prod.mk.injEq] at hx
    obtain ⟨hd, _⟩ := hx
    rw [cells54] at hr
    have each : ∀ r, r < len → ∃ s : St, W.cell? ((x.add (r * 5)).add 0) = some (.int .i64 s.K) ∧ W.cell? ((x.add (r * 5)).add 1) = some (.string (B s.op)) ∧ W.cell? ((x.add (r * 5)).add 2) = some (.string (B s.path)) ∧ W.cell? ((x.add (r * 5)).add 3) = some (.int .i64 s.code) ∧ W.cell? ((x.add (r * 5)).add 4) = some (.int .i64 s.N) ∧ s.op.length + s.path.length + 2 ≤ Rows.uptoBulk (D r) := by
      intro r hlt
      obtain ⟨cs', h1, h2⟩ := hr r (by omega)
      exact step_in h1 h2
    obtain ⟨y, hy⟩ := choose_lt each
    have hcap : m ≤ 9223372036854775807 := by unfold maxLen at hm; omega
    obtain ⟨b, o, hpx⟩ : ∃ b o, 0 < len → x = ⟨b, o, none⟩ ∧ b < W.heap.size := by
      by_cases h0 : 0 < len
      · have hc := (hy 0 h0).1
        obtain ⟨b', o', sp⟩ := x
        have hspot : sp = none := by simpa [Addr.add] using World.cell?_spot hc
        subst hspot
        rw [Addr.add_mid, Addr.add_mid] at hc
        exact ⟨b', o', fun _ => ⟨rfl, World.block_lt_of_cell? W _ hc⟩⟩
      · exact ⟨0, 0, fun h => absurd h h0⟩
    refine ⟨(List.range len).map y, b, o, by simp, fun j s hs => ?_, fun h => ?_, by simpa using hl, hcap, ?_⟩
    · have hi : j < len := by have := (List.getElem?_eq_some_iff.1 hs).1; simpa using this
      simp [hi] at hs
      subst hs
      obtain ⟨h0, h1, h2, h3, h4, _⟩ := hy j hi
      rw [(hpx (by omega)).1, Addr.add_mid, Addr.add_mid] at h0 h1 h2 h3 h4
      exact ⟨by simpa using h0, h1, h2, h3, h4⟩
    · have h0 : 0 < len := by
        rcases Nat.eq_zero_or_pos len with h1 | h1
        · subst h1; exact absurd rfl h
        · exact h1
      exact ⟨by rw [(hpx h0).1], (hpx h0).2⟩
    · rw [hd]
      have := bulk_steps (List.range len) D y (fun r hrr => (hy r (by simpa using hrr)).2.2.2.2.2)
      simp only [Rows.uptoBulk]
      omega
/-- a table's cells -/
def tabCells : DataW Unit → Array Value
  | .agg l => (l.map fun d => match d with
    | .lit (.int k z) => Value.int k z
    | _ => Value.int .i64 0).toArray
  | _ => #[]
/-- a world for the witness: the variables hold what the text lays -/
def laidOn (w : World) : World :=
  { w with heap := (((w.heap.modify 0 fun
      | .cells _ t frozen => .cells #[.iface 87 (.agg #[.pointer (some ⟨4, 30, none⟩)])] t frozen
      | o => o).modify 1 fun
      | .cells _ t frozen => .cells (tabCells Rows.laid_internal_strconv_uint64pow10) t frozen
      | o => o).modify 2 fun
      | .cells _ t frozen => .cells (tabCells Rows.laid_math_bits_deBruijn32tab) t frozen
      | o => o).modify 3 fun
      | .cells _ t frozen => .cells (tabCells Rows.laid_math_bits_deBruijn64tab) t frozen
      | o => o }
end Go.Proofs.YtaaojfgakgjlkaaDoor
