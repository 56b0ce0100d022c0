/-
  Calls on a hash that is not there; its length; bytes as a string; a slice's beginning; append of several values.
-/
import Derived.Test.YtmjccokocklgiaaDoorL1
import Derived.Laws.BytesArg
namespace Go.Proofs.YtmjccokocklgiaaDoor
open Go.RowKit

theorem len_nil (w : World) : Calls Tryd.prog 13 #[.pointer none] w fun e w' => e = .returned (.int .i64 0) ∧ w' = w := by
  go_enter Tryd.func13, Tryd.ntmps13
  go_wp2
  go_ret
  exact ⟨rfl, rfl⟩
theorem len_fed (g : Nat) (m : List Nat) (w : World) (hfed : Fed w g m) : Calls Tryd.prog 13 #[.pointer (some ⟨g, 0, none⟩)] w fun e w' => e = .returned (.int .i64 (m.length : Int)) ∧ w' = w := by
  obtain ⟨s, bl, hrow, hs, hl, hby, hbl, hok⟩ := hfed
  have c72 : w.cell? ⟨g, 72, none⟩ = some (.int .i64 (m.length : Int)) := by rw [hrow.cell, hc_total s bl _ hl]
  clear hs hl hby hbl hok hrow
  go_enter Tryd.func13, Tryd.ntmps13
  go_wp2
  go_ret
  exact ⟨rfl, rfl⟩
theorem write_nil (p : Option Addr) (n c : Nat) (w : World) : Calls Tryd.prog 15 #[.pointer none, .slice p n c] w fun e w' => e = .returned (.tuple #[]) ∧ w' = w := by
  go_enter Tryd.func15, Tryd.ntmps15
  go_wp2
  exact bodyPost_ret (results_none Tryd.results15 _ _ _) rfl ⟨rfl, rfl⟩
set_option maxRecDepth 100000 in
theorem hsum_nil (V : List Value) (hV : Hid (V = (Sha.sum []).map u8v)) (w : World) (htab : Tab w) : Calls Tryd.prog 14 #[.pointer none] w fun e w' => e = .returned (.agg V.toArray) ∧ Below w.heap.size w w' := by
  have hvl : V.length = 32 := by rw [hV.out, List.length_map, sum_length]
  have hv1 : ∀ v ∈ V, v.oneCell' = true := by rw [hV.out]; exact one_u8 _
  have hpos := htab.pos
  go_enter Tryd.func14, Tryd.ntmps14
  go_wp2_with fail
  have hb0 : Below w.heap.size w (w.alloc (.cells ((List.replicate 32 0).map u8v).toArray 25)) := (Below.refl _ _).alloc (Nat.le_refl _) _
  have hr0 : Row (w.alloc (.cells ((List.replicate 32 0).map u8v).toArray 25)) w.heap.size ((List.replicate 32 0).map u8v) 25 := Row.newAt w _ _ 25 rfl
  refine (sum_V [] V hV (fun _ h => by cases h) none 0 0 0 _ (htab.below hb0 hpos) (by decide) (by decide) (by decide) (fun h => by simp at h) (fun j h => by simp at h)).mono ?_
  rintro e w1 ⟨rfl, hb1⟩
  have hr1 := hr0.below hb1 hr0.lt
  have hbw1 : Below w.heap.size w w1 := hb0.trans (hb1.mono hb0.size)
  clear hr0 hb0 hb1
  go_wp2_with (first | (refine wpList_store_Row rfl 25 _ _ rfl w.heap.size 0 V rfl rfl 25 _ hr1 32 info25 hvl (by simp) hv1 ?_; intro w7 hr7 hg7 hs7))
  refine post_Row 2 25 Tryd.results14 w.heap.size rfl 25 _ hr7 _ Tryd.underlying25 rfl 32 info25 (by rw [splice_all _ _ (by simpa using hvl)]; exact hvl) rfl ⟨?_, below_of_grown hbw1 hg7 hbw1.size (Nat.le_refl _)⟩
  rw [splice_all _ _ (by simpa using hvl)]

theorem conv_sl {w : World} {p : Option Addr} {bs : List Nat} {cap b off : Nat} (h : Sl w p bs cap b off) : (convert 22 9 (.slice p bs.length cap)).run Tryd.prog w = .ok (.string (str bs)) w := by
  by_cases h0 : 0 < bs.length
  · obtain rfl := h.at_ h0
    rw [run_convert_bytes_arg w 22 5 Tryd.underlying22 Tryd.underlying5 b off bs.length cap (bs.map fun (n : Nat) => (n : Int)) (by simp) (fun i hi => by rw [h.src i hi]; simp [u8v, hi]) 9 Tryd.underlying9]
    congr 2
    simp [strOfNums, str, Function.comp_def]
  · obtain rfl : bs = [] := List.eq_nil_of_length_eq_zero (by omega)
    rcases p with _ | ⟨b', o', m'⟩
    · exact run_convert_bytes_nil w 22 5 Tryd.underlying22 Tryd.underlying5 0 cap 9 Tryd.underlying9
    · rw [run_convert_bytes_string w 22 9 5 _ _ _ Tryd.underlying22 Tryd.underlying5 Tryd.underlying9]
      rw [List.length_nil, run_bytesToString w _ 0 cap [] (by simp [loadCells, loadCellsFrom, Sem.run_pure])]
      rfl
/-- append of values that were just laid into a block of their own -/
theorem wpList_append_lit {P : Program} {w : World} {ops : Array Oper} {rest : List Oper} {o : Oper} {a : Act} {Q : Exit → Act → World → Prop} (hgd : o.guard = none) (s x : Operand) (t : TypeId)
    (ho : o.op = .call { callee := .builtin .append, args := #[s, x], argTypes := #[t, t] })
    (base : Nat) (e : TypeId) (i : TypeInfo) (z : Value) (ht : P.underlying t = some (.slice e)) (hi : P.info? e = some i) (hz : i.zero = some z)
    (hsize : i.size = 1) (hby : i.bytes = 1) (hzs : z.cells.size = 1)
    (v : Value) (n : Nat) (xs : List Value) (hs : a.eval s = v) (hown : w.ownsRow base e 1 v n xs) (e' : TypeId) (us : List Value) (hu : ∀ u ∈ us, u.oneCell' = true) (m : Nat) (hm : us.length = m)
    (hx : a.eval x = .slice (some ⟨w.heap.size, 0, none⟩) m m) (hbytes : n + m ≤ 140737488355328) (hbase : base ≤ w.heap.size)
    (h : ∀ v' w', w'.ownsRow base e 1 v' (n + m) (xs ++ us) → (∀ a0, Below base a0 w → Below base a0 w') → base ≤ w'.heap.size → wpList P ops Q rest (a.put o.dst v') w') : wpList P ops Q (o :: rest) a (w.alloc (.cells us.toArray e')) := by
  have hs1 : base ≤ (w.alloc (.cells us.toArray e')).heap.size := by rw [World.size_alloc]; omega
  refine wpList_append_any hgd s x t ho base e i z ht hi hz hsize hby hzs v n xs hs (hown.alloc _) (some ⟨w.heap.size, 0, none⟩) m m us hx hm (fun h => by cases h) ?_ hu hbytes hs1 ?_
  · intro ad had j u' hj
    cases had
    rw [Addr.add_mid, (Row.newAt w w.heap.size us e' rfl).cell, Nat.zero_add]
    exact hj
  · intro v' w' h2 h3
    refine h v' w' h2 (fun a0 hb => own_step (hb.alloc hbase _) h3 hs1 rfl (hown.alloc (.cells us.toArray e'))) (Nat.le_trans hs1 h3.size)
theorem slice_to (b o L C n : Nat) (h1 : n ≤ C) (w : World) : (Instr.slice 22 (.slice (some ⟨b, o, none⟩) L C) none (some (.int .i64 (n : Int))) none).run Tryd.prog w = .ok (.slice (some ⟨b, o, none⟩) n C) w := by
  have ht : Tryd.prog.underlying 22 = some (.slice (Tryd.prog.elem 22)) := by kernel_rfl
  have he : Tryd.prog.elem 22 = 5 := by kernel_rfl
  have hsz : (sizeOf 5).run Tryd.prog w = .ok 1 w := by kernel_rfl
  rw [run_slice_h w 22 (some ⟨b, o, none⟩) L C ht .i64 (n : Int) (by omega) (by omega), he, hsz]
  simp [sliced, Addr.add_mid]
end Go.Proofs.YtmjccokocklgiaaDoor
