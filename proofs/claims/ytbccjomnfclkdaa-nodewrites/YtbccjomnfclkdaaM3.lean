/-
  The walks of the reference's Encode and of NodeWrites.
-/
import Derived.Test.YtbccjomnfclkdaaM0
import Derived.Test.YtbccjomnfclkdaaV2
import Derived.Test.YtbccjomnfclkdaaV4
import Derived.Deep.CutRange
import Derived.Test.YtbccjomnfclkdaaN22
namespace Go.Proofs.Ytbccjomnfclkdaa
open Go.RowKit
theorem wpList_app {ops : Array Oper} {rest : List Oper} {o : Oper} {a : Act} {w : World} {Q : Exit → Act → World → Prop} (B : Nat) (hgd : o.guard = none) (s x : Operand) (ho : o.op = .call { callee := .builtin .append, args := #[s, x], argTypes := #[33, 33] })
    (v : Value) (xs ys : List Nat) (hs : a.eval s = v) (hown : w.ownsRow B 5 1 v xs.length (xs.map u8v)) (p : Option Addr) (c b off : Nat) (n : Nat) (hx : a.eval x = .slice p n c) (hn : ys.length = n) (hsl : Sl w p ys c b off) (hno : p = none → ys.length = 0 ∧ c = 0) (hlen : xs.length + ys.length ≤ 140737488355328) (hB : B ≤ w.heap.size)
    (h : ∀ v' w', w'.ownsRow B 5 1 v' (xs ++ ys).length ((xs ++ ys).map u8v) → w.grownBy w' v.ownBlock → wpList Try.prog ops Q rest (a.put o.dst v') w') : wpList Try.prog ops Q (o :: rest) a w := by
  subst hn
  obtain ⟨i5i, HI5, HE1, HE2, HE3⟩ := i5h
  refine wpList_append_any hgd s x 33 ho B 5 i5i (.int .u8 0) Try.underlying33 HI5.out HE3.out HE1.out HE2.out rfl v xs.length (xs.map u8v) hs hown p ys.length c (ys.map u8v) hx (by simp) hno hsl.news (one_u8 ys) hlen hB ?_
  intro v' w' h1 h2
  refine h v' w' ?_ h2
  rw [List.length_append, List.map_append]
  exact h1
/-- bytes that the call itself gathers -/
structure RE (W0 W : World) (v : Value) (xs : List Nat) : Prop where
  own : W.ownsRow W0.heap.size 5 1 v xs.length (xs.map u8v)
  bel : Below W0.heap.size W0 W
theorem RE.below {W0 W W' : World} {v : Value} {xs : List Nat} (h : RE W0 W v xs) (hb : Below W.heap.size W W') : RE W0 W' v xs := ⟨own_belowK h.own hb, h.bel.trans (hb.mono h.bel.size)⟩
theorem RE.more {W0 W W' : World} {v v' : Value} {xs ys : List Nat} (h : RE W0 W v xs) (ho : W'.ownsRow W0.heap.size 5 1 v' (xs ++ ys).length ((xs ++ ys).map u8v)) (hg : W.grownBy W' v.ownBlock) : RE W0 W' v' (xs ++ ys) := ⟨ho, own_step h.bel hg h.bel.size rfl h.own⟩
theorem num_c (W : World) (n : Nat) (hn : n < 18446744073709551616) : Calls Try.prog 30 #[.int .u64 (n : Int)] W fun e w' => ∃ p c b, e = .returned (.slice p (Wire.num n).length c) ∧ Sl w' p (Wire.num n) c b 0 ∧ (p = none → (Wire.num n).length = 0 ∧ c = 0) ∧ w'.ownsRow W.heap.size 5 1 (.slice p (Wire.num n).length c) (Wire.num n).length ((Wire.num n).map u8v) ∧ Below W.heap.size W w' := by
  refine (rwnum_any W n hn).mono ?_
  rintro e w' ⟨v, rfl, ho, hb⟩
  obtain ⟨p, c, b, rfl, hs, hno⟩ := own_sl (num_lt n hn) ho
  exact ⟨p, c, b, rfl, hs, hno, ho, hb⟩
theorem text_c (W : World) (s : ByteArray) (hn : s.size ≤ 1000) : Calls Try.prog 31 #[.string s] W fun e w' => ∃ p c b, e = .returned (.slice p (Wire.num s.size ++ bytesS s).length c) ∧ Sl w' p (Wire.num s.size ++ bytesS s) c b 0 ∧ (p = none → (Wire.num s.size ++ bytesS s).length = 0 ∧ c = 0) ∧ Below W.heap.size W w' := by
  refine (rwtext_any W s (by omega)).mono ?_
  rintro e w' ⟨v, rfl, ho, hb⟩
  obtain ⟨p, c, b, rfl, hs, hno⟩ := own_sl (app_lt (num_lt s.size (by omega)) (bytesS_lt s)) ho
  exact ⟨p, c, b, rfl, hs, hno, hb⟩
theorem text_len (s : ByteArray) (hn : s.size ≤ 1000) : (Wire.num s.size ++ bytesS s).length ≤ 1010 := by
  have := num_length s.size
  rw [List.length_append, bytesS_length]
  omega
theorem slice_arrO (g o : Nat) (w : World) : (Instr.sliceAt 49 (.pointer (some ⟨g, o, none⟩)) none none none).run Try.prog w = .ok (.slice (some ⟨g, o, none⟩) 32 32) w := by kernel_rfl
theorem dig_sl {w : World} {b o : Nat} {d : List Nat} (h : w.rangeAt b o (dcells d)) (hd : Dg d) : Sl w (some ⟨b, o, none⟩) d 32 b o :=
  ⟨hd.2, by rw [hd.1]; exact Nat.le_refl _, by decide, fun _ => rfl, fun j hj => h j _ (by simp [dcells, hj])⟩
theorem own_base {W : World} {B B' : Nat} {e : TypeId} {size n : Nat} {v : Value} {xs : List Value} (h : W.ownsRow B e size v n xs) (hb : B' ≤ B) : W.ownsRow B' e size v n xs := by
  obtain ⟨h1, h2 | ⟨g, cap, cur, rfl, hB, r⟩⟩ := h
  · exact ⟨h1, .inl h2⟩
  · exact ⟨h1, .inr ⟨g, cap, cur, rfl, Nat.le_trans hb hB, r⟩⟩
theorem RE.fin {w W0 W : World} {v : Value} {xs : List Nat} (h : RE W0 W v xs) (hb : Below w.heap.size w W0) : W.ownsRow w.heap.size 5 1 v xs.length (xs.map u8v) ∧ Below w.heap.size w W := ⟨own_base h.own hb.size, hb.trans (h.bel.mono hb.size)⟩
theorem RE.row {W0 W : World} {v : Value} {xs : List Nat} (h : RE W0 W v xs) {g : Nat} {vs : List Value} {t : TypeId} (hr : Row W0 g vs t) : Row W g vs t := hr.below h.bel hr.lt
set_option maxHeartbeats 2000000 in
set_option maxRecDepth 100000 in
/-- a chunk -/
theorem renc1 (w : World) (nd : ByteArray) (ns : Int) (hd : nd.size ≤ 64) (pp pi : Option Addr) (lp cp li ci : Nat) :
    Calls Try.prog 14 #[.agg #[.int .i64 1, .string nd, .int .i64 ns, .slice pp lp cp, .slice pi li ci]] w fun e w' => ∃ u, e = .returned u ∧ w'.ownsRow w.heap.size 5 1 u (Wire.num 1 ++ (Wire.num nd.size ++ bytesS nd)).length ((Wire.num 1 ++ (Wire.num nd.size ++ bytesS nd)).map u8v) ∧ Below w.heap.size w w' := by
  go_enter Try.func14, Try.ntmps14
  go_upto_region 1 with fail
  obtain ⟨W0, HW0, HR0, HB0, HS0⟩ := node_row w 1 ns nd (.slice pp lp cp) (.slice pi li ci)
  refine wp_world HW0.out ?_
  clear HW0
  have a0 : W0.cell? ⟨w.heap.size, 0, none⟩ = some (.int .i64 1) := HR0.out.cell 0
  have HN := hid_in (num_c W0 1 (by decide))
  have HTL : Hid ((Wire.num 1).length ≤ 10) := num_length 1
  have HTT : Hid ((Wire.num nd.size ++ bytesS nd).length ≤ 1010) := text_len nd (by omega)
  have HND := hid_in hd
  clear hd
  go_upto_region 2 with (first | (go_at_call 30; refine HN.out.mono ?_; rintro e w1 ⟨p1, c1, b1, rfl, hs1, hn1, ho1, hb1⟩; have HRE1 : Hid (RE W0 w1 _ (Wire.num 1)) := ⟨ho1, hb1⟩; clear hs1 hn1 ho1 hb1))
  have hr1 := HRE1.out.row HR0.out
  have b0 : w1.cell? ⟨w.heap.size, 0, none⟩ = some (.int .i64 1) := hr1.cell 0
  have b1 : w1.cell? ⟨w.heap.size, 1, none⟩ = some (.string nd) := hr1.cell 1
  have HT := hid_in (text_c w1 nd (by have := HND.out; omega))
  obtain ⟨TB, HTB⟩ : ∃ TB, Hid (Wire.num nd.size ++ bytesS nd = TB) := ⟨_, rfl⟩
  rw [HTB.out] at HT HTT
  clear a0 hr1 HN
  go_wp2_with (first | (go_at_call 31; refine HT.out.mono ?_; rintro e w2 ⟨p2, c2, b2, rfl, hs2, hn2, hb2⟩; have HRE2 := hid_in (HRE1.out.below hb2); have HS2 := hid_in hs2; have HN2 := hid_in hn2; clear hs2 hn2 hb2) | (at_builtin; refine wpList_app W0.heap.size rfl _ _ rfl _ (Wire.num 1) TB rfl HRE2.out.own _ _ _ _ _ rfl rfl HS2.out HN2.out (by have := HTL.out; have := HTT.out; omega) HRE2.out.bel.size ?_; intro v3 w3 ho3 hg3; have HRE3 := hid_in (HRE2.out.more ho3 hg3); clear ho3 hg3))
  go_ret
  have h := HRE3.out.fin HB0.out
  rw [HTB.out]
  exact ⟨_, rfl, h.1, h.2⟩
set_option maxHeartbeats 2000000 in
set_option maxRecDepth 100000 in
/-- a file -/
theorem renc2 (w : World) (nd : ByteArray) (m : Nat) (hm : m ≤ 1024) (pp pi : Option Addr) (cp li ci : Nat) (np : List (List Nat)) (hl : np.length ≤ 1000) (hp : Els w (.slice pp np.length cp) 32 (np.map dcells)) (hok : ∀ d ∈ np, Dg d) :
    Calls Try.prog 14 #[.agg #[.int .i64 2, .string nd, .int .i64 (m : Int), .slice pp np.length cp, .slice pi li ci]] w fun e w' => ∃ u, e = .returned u ∧ w'.ownsRow w.heap.size 5 1 u (Wire.num 2 ++ Wire.num m ++ np.flatten).length ((Wire.num 2 ++ Wire.num m ++ np.flatten).map u8v) ∧ Below w.heap.size w w' := by
  obtain ⟨p', cap', bp, op, hv, hc1, hc2, hpp, hat⟩ := hp.ex
  rw [List.length_map] at hv hc1
  simp only [Value.slice.injEq, true_and] at hv
  obtain ⟨rfl, rfl⟩ := hv
  have HPP := hid_in hpp
  have HAT := hid_in hat
  have HOK := hid_in hok
  clear hp hpp hat hok
  go_enter Try.func14, Try.ntmps14
  go_upto_region 1 with fail
  obtain ⟨W0, HW0, HR0, HB0, HS0⟩ := node_row w 2 (m : Int) nd (.slice pp np.length cp) (.slice pi li ci)
  refine wp_world HW0.out ?_
  clear HW0
  have a0 : W0.cell? ⟨w.heap.size, 0, none⟩ = some (.int .i64 2) := HR0.out.cell 0
  have HN := hid_in (num_c W0 2 (by decide))
  have HTL : Hid ((Wire.num 2).length ≤ 10) := num_length 2
  have HTT : Hid ((Wire.num m).length ≤ 10) := num_length m
  go_upto_region 2 with (first | (go_at_call 30; refine HN.out.mono ?_; rintro e w1 ⟨p1, c1, b1, rfl, hs1, hn1, ho1, hb1⟩; have HRE1 : Hid (RE W0 w1 _ (Wire.num 2)) := ⟨ho1, hb1⟩; clear hs1 hn1 ho1 hb1))
  have hr1 := HRE1.out.row HR0.out
  have b0 : w1.cell? ⟨w.heap.size, 0, none⟩ = some (.int .i64 2) := hr1.cell 0
  have b2 : w1.cell? ⟨w.heap.size, 2, none⟩ = some (.int .i64 (m : Int)) := hr1.cell 2
  have HT := hid_in (num_c w1 m (by omega))
  have hwm : IntKind.u64.wrap (m : Int) = (m : Int) := by rw [IntKind.wrap_u64]; omega
  clear a0 hr1 HN
  go_upto_region 6 with (first | (go_at_call 30; refine HT.out.mono ?_; rintro e w2 ⟨p2, c2, b2, rfl, hs2, hn2, _, hb2⟩; have HRE2 := hid_in (HRE1.out.below hb2); have HS2 := hid_in hs2; have HN2 := hid_in hn2; clear hs2 hn2 hb2) | (at_builtin; refine wpList_app W0.heap.size rfl _ _ rfl _ (Wire.num 2) (Wire.num m) rfl HRE2.out.own _ _ _ _ _ rfl rfl HS2.out HN2.out (by have := HTL.out; have := HTT.out; omega) HRE2.out.bel.size ?_; intro v3 w3 ho3 hg3; have HRE3 := hid_in (HRE2.out.more ho3 hg3); clear ho3 hg3))
  have HPL : Hid ((Wire.num 2 ++ Wire.num m).length ≤ 20) := by show _ ≤ _; rw [List.length_append]; have := HTL.out; have := HTT.out; omega
  clear b0 b2 HT HRE1 HRE2 HS2 HN2 HTL HTT hwm
  generalize hpre : Wire.num 2 ++ Wire.num m = pre at *
  go_wp2_with fail
  go_loopw [3, 4] (fun v vi W => ∃ j : Nat, vi = .int .i64 (j : Int) ∧ j ≤ np.length ∧ Hid (RE W0 W v (pre ++ (np.take j).flatten))) (fun _ vi _ => np.length - (intOf vi).toNat)
  case atStart => exact ⟨0, rfl, by omega, by simpa using HRE3⟩
  case round =>
    obtain ⟨j, rfl, hj, hRE⟩ := hrel
    have hr1 := hRE.out.row HR0.out
    have c3 : wr.cell? ⟨w.heap.size, 3, none⟩ = some (.slice pp np.length cp) := hr1.cell 3
    clear hr1
    by_cases hlt : j < np.length
    · obtain ⟨d, hdd⟩ : ∃ d, np[j]? = some d := ⟨_, List.getElem?_eq_getElem hlt⟩
      have hne : np.map dcells ≠ [] := by intro h; simp at h; rw [h] at hdd; simp at hdd
      obtain ⟨hq1, hq2⟩ := HPP.out hne
      subst hq1
      have hDd := HOK.out d (List.mem_of_getElem? hdd)
      have hbw : Below w.heap.size w wr := HB0.out.trans (hRE.out.bel.mono HB0.out.size)
      have HSD := hid_in (dig_sl (rangeAt_below (HAT.out j (dcells d) (by simp [hdd])) hbw hq2) hDd)
      have HDL := hid_in hDd.1
      have HTK := hid_in (take_succ_flatten hdd)
      have HLN : Hid ((pre ++ (np.take j).flatten).length ≤ 40000) := by
        show _ ≤ _
        rw [List.length_append, flatten_len (fun x hx => HOK.out x (List.mem_of_mem_take hx))]
        have : (np.take j).length ≤ 1000 := by rw [List.length_take]; omega
        have := HPL.out
        omega
      have hsa := slice_arrO bp (op + j * 32)
      clear hdd hne hDd hbw hq2
      go_wp2_with (first | (at_builtin; refine wpList_app W0.heap.size rfl _ _ rfl _ (pre ++ (np.take j).flatten) d rfl hRE.out.own _ _ _ _ 32 rfl HDL.out HSD.out (fun h => by cases h) (by have := HLN.out; have := HDL.out; omega) hRE.out.bel.size ?_; intro v4 w4 ho4 hg4; have HRE4 := hid_in (hRE.out.more ho4 hg4); clear ho4 hg4))
      go_roundw
      case measure => simp [intOf]; omega
      case rel =>
        go_light
        refine ⟨j + 1, by go_num, by omega, ?_⟩
        show RE _ _ _ _
        rw [HTK.out, ← List.append_assoc]
        exact HRE4.out
    · obtain rfl : j = np.length := by omega
      go_wp2_with fail
      go_ret
      have h := hRE.out.fin HB0.out
      rw [List.take_length] at h
      rw [hpre]
      exact ⟨_, rfl, h.1, h.2⟩
theorem take_succ_flatMap {l : List It} {i : Nat} {x : It} (h : l[i]? = some x) : (l.take (i + 1)).flatMap It.bytes = (l.take i).flatMap It.bytes ++ It.bytes x := by
  rw [List.take_add_one, h]
  simp
theorem range_drop {w : World} {b o : Nat} {cs : List Value} (h : w.rangeAt b o cs) (k : Nat) : w.rangeAt b (o + k) (cs.drop k) := fun j v hv => by
  rw [List.getElem?_drop] at hv
  rw [Nat.add_assoc]
  exact h (k + j) v hv
theorem It.bytes_len {x : It} (h : itemOk x = true) (hs : x.ok) : (It.bytes x).length ≤ 100 := by
  have h1 := name_len h
  have h2 := num_length x.name.size
  have h3 := num_length x.kind.toNat
  unfold It.bytes
  simp only [List.length_append, bytesS_length, hs.sum.1]
  omega
set_option maxHeartbeats 4000000 in
set_option maxRecDepth 100000 in
/-- a directory -/
theorem renc3 (w : World) (nd : ByteArray) (ns : Int) (pp pi : Option Addr) (lp cp ci : Nat) (ni : List It) (hI : itemsOk ni) (hp : Els w (.slice pi ni.length ci) 34 (ni.map It.cells)) (hok : ∀ x ∈ ni, x.ok) :
    Calls Try.prog 14 #[.agg #[.int .i64 3, .string nd, .int .i64 ns, .slice pp lp cp, .slice pi ni.length ci]] w fun e w' => ∃ u, e = .returned u ∧ w'.ownsRow w.heap.size 5 1 u (Wire.num 3 ++ Wire.num ni.length ++ ni.flatMap It.bytes).length ((Wire.num 3 ++ Wire.num ni.length ++ ni.flatMap It.bytes).map u8v) ∧ Below w.heap.size w w' := by
  obtain ⟨p', cap', bp, op, hv, hc1, hc2, hpp, hat⟩ := hp.ex
  rw [List.length_map] at hv hc1
  simp only [Value.slice.injEq, true_and] at hv
  obtain ⟨rfl, rfl⟩ := hv
  have hl := hI.1
  have HPP := hid_in hpp
  have HAT := hid_in hat
  have HOK := hid_in hok
  have HI := hid_in hI
  clear hp hpp hat hok hI
  go_enter Try.func14, Try.ntmps14
  go_upto_region 1 with fail
  obtain ⟨W0, HW0, HR0, HB0, HS0⟩ := node_row w 3 ns nd (.slice pp lp cp) (.slice pi ni.length ci)
  refine wp_world HW0.out ?_
  clear HW0
  have a0 : W0.cell? ⟨w.heap.size, 0, none⟩ = some (.int .i64 3) := HR0.out.cell 0
  have HN := hid_in (num_c W0 3 (by decide))
  have HTL : Hid ((Wire.num 3).length ≤ 10) := num_length 3
  have HTT : Hid ((Wire.num ni.length).length ≤ 10) := num_length ni.length
  go_upto_region 2 with (first | (go_at_call 30; refine HN.out.mono ?_; rintro e w1 ⟨p1, c1, b1, rfl, hs1, hn1, ho1, hb1⟩; have HRE1 : Hid (RE W0 w1 _ (Wire.num 3)) := ⟨ho1, hb1⟩; clear hs1 hn1 ho1 hb1))
  have hr1 := HRE1.out.row HR0.out
  have b0 : w1.cell? ⟨w.heap.size, 0, none⟩ = some (.int .i64 3) := hr1.cell 0
  have b4 : w1.cell? ⟨w.heap.size, 4, none⟩ = some (.slice pi ni.length ci) := hr1.cell 4
  have HT := hid_in (num_c w1 ni.length (by omega))
  have hwm : IntKind.u64.wrap (ni.length : Int) = (ni.length : Int) := by rw [IntKind.wrap_u64]; omega
  clear a0 hr1 HN
  go_upto_region 12 with (first | (go_at_call 30; refine HT.out.mono ?_; rintro e w2 ⟨p2, c2, b2, rfl, hs2, hn2, _, hb2⟩; have HRE2 := hid_in (HRE1.out.below hb2); have HS2 := hid_in hs2; have HN2 := hid_in hn2; clear hs2 hn2 hb2) | (at_builtin; refine wpList_app W0.heap.size rfl _ _ rfl _ (Wire.num 3) (Wire.num ni.length) rfl HRE2.out.own _ _ _ _ _ rfl rfl HS2.out HN2.out (by have := HTL.out; have := HTT.out; omega) HRE2.out.bel.size ?_; intro v3 w3 ho3 hg3; have HRE3 := hid_in (HRE2.out.more ho3 hg3); clear ho3 hg3))
  have HPL : Hid ((Wire.num 3 ++ Wire.num ni.length).length ≤ 20) := by show _ ≤ _; rw [List.length_append]; have := HTL.out; have := HTT.out; omega
  clear b0 b4 HT HRE1 HRE2 HS2 HN2 HTL HTT hwm
  generalize hpre : Wire.num 3 ++ Wire.num ni.length = pre at *
  go_wp2_with fail
  go_loopw [3, 5] (fun v vi W => ∃ j : Nat, vi = .int .i64 (j : Int) ∧ j ≤ ni.length ∧ Hid (RE W0 W v (pre ++ (ni.take j).flatMap It.bytes))) (fun _ vi _ => ni.length - (intOf vi).toNat)
  case atStart => exact ⟨0, rfl, by omega, by simpa using HRE3⟩
  case round =>
    obtain ⟨j, rfl, hj, hRE⟩ := hrel
    have hr1 := hRE.out.row HR0.out
    have c4 : wr.cell? ⟨w.heap.size, 4, none⟩ = some (.slice pi ni.length ci) := hr1.cell 4
    clear hr1
    by_cases hlt : j < ni.length
    · obtain ⟨x, hdd⟩ : ∃ x, ni[j]? = some x := ⟨_, List.getElem?_eq_getElem hlt⟩
      have hne : ni.map It.cells ≠ [] := by intro h; simp at h; rw [h] at hdd; simp at hdd
      obtain ⟨hq1, hq2⟩ := HPP.out hne
      subst hq1
      have hmem := List.mem_of_getElem? hdd
      have hxo := HOK.out x hmem
      have hxi := itemsOk_mem HI.out hmem
      have HNL := hid_in (name_len hxi)
      have HRNG : Hid (∀ W, Below w.heap.size w W → W.cell? ⟨bp, op + j * 34, none⟩ = some (.string x.name) ∧ W.cell? ⟨bp, op + j * 34 + 1, none⟩ = some (.int .i64 x.kind) ∧ Sl W (some ⟨bp, op + j * 34 + 2, none⟩) x.sum 32 bp (op + j * 34 + 2)) := fun W hW => by
        have h := rangeAt_below (HAT.out j x.cells (by simp [hdd])) hW hq2
        exact ⟨h 0 _ rfl, h 1 _ rfl, dig_sl (range_drop h 2) hxo.sum⟩
      have HBR : Hid (Below w.heap.size w wr) := HB0.out.trans (hRE.out.bel.mono HB0.out.size)
      have HKD : Hid (x.kind = ((x.kind.toNat : Nat) : Int) ∧ x.kind.toNat ≤ 3) := by rcases kind_cases hxi with h | h <;> rw [h] <;> exact ⟨rfl, by decide⟩
      have HDL := hid_in hxo.sum.1
      have HTK := hid_in (take_succ_flatMap hdd)
      have HLN : Hid ((pre ++ (ni.take j).flatMap It.bytes).length ≤ 10000) := by
        show _ ≤ _
        have h1 := flat_len It.bytes 100 (ni.take j) (fun y hy => It.bytes_len (itemsOk_mem HI.out (List.mem_of_mem_take hy)) (HOK.out y (List.mem_of_mem_take hy)))
        have h2 : (ni.take j).length * 100 ≤ 64 * 100 := Nat.mul_le_mul_right _ (by rw [List.length_take]; omega)
        rw [List.length_append]
        have := HPL.out
        omega
      have hsa := slice_arrO bp (op + j * 34 + 2)
      obtain ⟨nm, kd, sm⟩ := x
      simp only at HNL HRNG HKD HDL
      obtain ⟨kn, hkn⟩ : ∃ kn, kn = kd.toNat := ⟨_, rfl⟩
      have HKN := hid_in hkn
      have hk1 : kd = (kn : Int) := by rw [hkn]; exact HKD.out.1
      have hk2 : kn ≤ 3 := by rw [hkn]; exact HKD.out.2
      clear hkn HKD
      subst hk1
      have hwk : IntKind.u64.wrap (kn : Int) = (kn : Int) := by rw [IntKind.wrap_u64]; omega
      have n0 := (HRNG.out wr HBR.out).1
      obtain ⟨TB, HTB⟩ : ∃ TB, Hid (Wire.num nm.size ++ bytesS nm = TB) := ⟨_, rfl⟩
      have HT := hid_in (text_c wr nm (by have := HNL.out; omega))
      have HTT : Hid ((Wire.num nm.size ++ bytesS nm).length ≤ 1010) := text_len nm (by have := HNL.out; omega)
      rw [HTB.out] at HT HTT
      obtain ⟨X, HX⟩ : ∃ X, Hid (pre ++ (ni.take j).flatMap It.bytes = X) := ⟨_, rfl⟩
      rw [HX.out] at hRE HLN
      clear hdd hne hq2 hmem hxo hxi
      go_upto_region 16 with (first | (go_at_call 31; refine HT.out.mono ?_; rintro e w4 ⟨p4, c4', b4, rfl, hs4, hn4, hb4⟩; have HRE4 := hid_in (hRE.out.below hb4); have HS4 := hid_in hs4; have HN4 := hid_in hn4; clear hs4 hn4 hb4) | (at_builtin; refine wpList_app W0.heap.size rfl _ _ rfl _ X TB rfl HRE4.out.own _ _ _ _ _ rfl rfl HS4.out HN4.out (by have := HLN.out; have := HTT.out; omega) HRE4.out.bel.size ?_; intro v5 w5 ho5 hg5; have HRE5 := hid_in (HRE4.out.more ho5 hg5); clear ho5 hg5))
      have HB5 : Hid (Below w.heap.size w w5) := HB0.out.trans (HRE5.out.bel.mono HB0.out.size)
      have hr5 := HRE5.out.row HR0.out
      have d4 : w5.cell? ⟨w.heap.size, 4, none⟩ = some (.slice (some ⟨bp, op, none⟩) ni.length ci) := hr5.cell 4
      have n1 := (HRNG.out w5 HB5.out).2.1
      have HT2 := hid_in (num_c w5 kn (by omega))
      have HT3 : Hid ((Wire.num kn).length ≤ 10) := num_length kn
      have HL5 : Hid ((X ++ TB).length ≤ 12000) := by show _ ≤ _; rw [List.length_append]; have := HLN.out; have := HTT.out; omega
      clear c4 n0 HT HRE4 HS4 HN4 hr5
      go_upto_region 17 with (first | (go_at_call 30; refine HT2.out.mono ?_; rintro e w6 ⟨p6, c6, b6, rfl, hs6, hn6, _, hb6⟩; have HRE6 := hid_in (HRE5.out.below hb6); have HS6 := hid_in hs6; have HN6 := hid_in hn6; clear hs6 hn6 hb6) | (at_builtin; refine wpList_app W0.heap.size rfl _ _ rfl _ (X ++ TB) (Wire.num kn) rfl HRE6.out.own _ _ _ _ _ rfl rfl HS6.out HN6.out (by have := HL5.out; have := HT3.out; omega) HRE6.out.bel.size ?_; intro v7 w7 ho7 hg7; have HRE7 := hid_in (HRE6.out.more ho7 hg7); clear ho7 hg7))
      have HB7 : Hid (Below w.heap.size w w7) := HB0.out.trans (HRE7.out.bel.mono HB0.out.size)
      have hr7 := HRE7.out.row HR0.out
      have e4 : w7.cell? ⟨w.heap.size, 4, none⟩ = some (.slice (some ⟨bp, op, none⟩) ni.length ci) := hr7.cell 4
      have HS7 := hid_in (HRNG.out w7 HB7.out).2.2
      have HL7 : Hid ((X ++ TB ++ Wire.num kn).length ≤ 13000) := by show _ ≤ _; rw [List.length_append]; have := HL5.out; have := HT3.out; omega
      clear d4 n1 HT2 HRE5 HRE6 HS6 HN6 hr7
      go_wp2_with (first | (at_builtin; refine wpList_app W0.heap.size rfl _ _ rfl _ (X ++ TB ++ Wire.num kn) sm rfl HRE7.out.own _ _ _ _ 32 rfl HDL.out HS7.out (fun h => by cases h) (by have := HL7.out; have := HDL.out; omega) HRE7.out.bel.size ?_; intro v8 w8 ho8 hg8; have HRE8 := hid_in (HRE7.out.more ho8 hg8); clear ho8 hg8))
      go_roundw
      case measure => simp [intOf]; omega
      case rel =>
        go_light
        refine ⟨j + 1, by go_num, by omega, ?_⟩
        show RE _ _ _ _
        rw [HTK.out, ← List.append_assoc, HX.out]
        have h := HRE8.out
        rw [← HTB.out, HKN.out] at h
        simpa [It.bytes, List.append_assoc] using h
    · obtain rfl : j = ni.length := by omega
      go_wp2_with fail
      go_ret
      have h := hRE.out.fin HB0.out
      rw [List.take_length] at h
      rw [hpre]
      exact ⟨_, rfl, h.1, h.2⟩
theorem rencode_any (w : World) (v : Value) (n : Nd) (h : IsN w v n) (hr : right n) :
    Calls Try.prog 14 #[v] w fun e w' => ∃ u, e = .returned u ∧ w'.ownsRow w.heap.size 5 1 u (enc n).length ((enc n).map u8v) ∧ Below w.heap.size w w' := by
  have hok := h.ok
  obtain ⟨pp, cp, pi, ci, rfl⟩ := h.form
  obtain ⟨vp, vi, hv, hp, hi⟩ := h.ex
  simp only [Value.agg.injEq, Array.mk.injEq, List.cons.injEq, and_true, true_and] at hv
  obtain ⟨rfl, rfl⟩ := hv
  obtain ⟨nk, nd, ns, np, ni⟩ := n
  rcases hr with ⟨hk, hd1, hd2, hs, hp0, hi0⟩ | ⟨hk, hd, hs0, hs1, hpl, hi0⟩ | ⟨hk, hd, hs, hp0, hI⟩
  · simp only at hk
    subst hk
    rw [enc_1 rfl]
    exact renc1 w nd ns hd2 pp pi _ cp _ ci
  · simp only at hk hs0 hs1 hpl
    subst hk
    obtain ⟨m, rfl⟩ := Int.eq_ofNat_of_zero_le hs0
    rw [enc_2 rfl]
    exact renc2 w nd m (by omega) pp pi cp _ ci np (by rw [hpl]; unfold pieces; omega) hp hok.parts
  · simp only at hk hI
    subst hk
    rw [enc_3 rfl]
    exact renc3 w nd ns pp pi _ cp ci ni hI hi hok.items
theorem check_yes (w : World) (v : Value) (n : Nd) (h : IsN w v n) (hs : n.short) (hr : right n) : Calls Try.prog 13 #[v] w fun e w' => e = .returned (.int .i64 0) ∧ Below w.heap.size w w' := by
  refine (check_any w v n h hs).mono ?_
  rintro e w' ⟨⟨r, rfl, ⟨rfl, _⟩ | ⟨_, k⟩⟩, hb⟩
  · exact ⟨rfl, hb⟩
  · exact absurd hr k
theorem check_no (w : World) (v : Value) (n : Nd) (h : IsN w v n) (hs : n.short) (hr : ¬ right n) : Calls Try.prog 13 #[v] w fun e w' => e = .returned (.int .i64 21) ∧ Below w.heap.size w w' := by
  refine (check_any w v n h hs).mono ?_
  rintro e w' ⟨⟨r, rfl, ⟨_, k⟩ | ⟨rfl, _⟩⟩, hb⟩
  · exact absurd k hr
  · exact ⟨rfl, hb⟩
theorem rcheck_c (w : World) (v : Value) (n : Nd) (h : IsN w v n) (hs : n.short) (R : Bool) (hr : R = true ↔ right n) : Calls Try.prog 12 #[v] w fun e w' => e = .returned (.bool R) ∧ Below w.heap.size w w' := by
  refine (rcheck_any w v n h hs).mono ?_
  rintro e w' ⟨hs, hb⟩
  rcases hs.cases with ⟨rfl, k⟩ | ⟨rfl, k⟩
  · rw [hr.2 k]; exact ⟨rfl, hb⟩
  · cases R
    · exact ⟨rfl, hb⟩
    · exact absurd (hr.1 rfl) k
theorem encode_yes (w : World) (v : Value) (n : Nd) (h : IsN w v n) (hs : n.short) (hr : right n) : Calls Try.prog 11 #[v] w fun e w' => (∃ p c b, e = .returned (.tuple #[.slice p (enc n).length c, .int .i64 0]) ∧ Sl w' p (enc n) c b 0 ∧ (p = none → (enc n).length = 0 ∧ c = 0) ∧ w'.ownsRow w.heap.size 5 1 (.slice p (enc n).length c) (enc n).length ((enc n).map u8v)) ∧ Below w.heap.size w w' := by
  refine (encode_any w v n h hs).mono ?_
  rintro e w' ⟨⟨u, k, rfl, ⟨rfl, _, ho⟩ | ⟨_, k2, _⟩⟩, hb⟩
  · obtain ⟨p, c, b, rfl, h1, h2⟩ := own_sl (enc_lt hr h.ok) ho
    exact ⟨⟨p, c, b, rfl, h1, h2, ho⟩, hb⟩
  · exact absurd hr k2
theorem encode_no (w : World) (v : Value) (n : Nd) (h : IsN w v n) (hs : n.short) (hr : ¬ right n) : Calls Try.prog 11 #[v] w fun e w' => e = .returned (.tuple #[.slice none 0 0, .int .i64 21]) ∧ Below w.heap.size w w' := by
  refine (encode_any w v n h hs).mono ?_
  rintro e w' ⟨⟨u, k, rfl, ⟨_, k2, _⟩ | ⟨rfl, _, rfl⟩⟩, hb⟩
  · exact absurd k2 hr
  · exact ⟨rfl, hb⟩
theorem rencode_c (w : World) (v : Value) (n : Nd) (h : IsN w v n) (hr : right n) : Calls Try.prog 14 #[v] w fun e w' => (∃ p c b, e = .returned (.slice p (enc n).length c) ∧ Sl w' p (enc n) c b 0) ∧ Below w.heap.size w w' := by
  refine (rencode_any w v n h hr).mono ?_
  rintro e w' ⟨u, rfl, ho, hb⟩
  obtain ⟨p, c, b, rfl, h1, h2⟩ := own_sl (enc_lt hr h.ok) ho
  exact ⟨⟨p, c, b, rfl, h1⟩, hb⟩
set_option maxHeartbeats 8000000 in
set_option maxRecDepth 100000 in
theorem nwrites_any (w : World) (k s : Int) (d : ByteArray) (pP : Option Addr) (lP cP : Nat) (pN : Option Addr) (lN cN : Nat) (pK : Option Addr) (lK cK : Nat) (pS : Option Addr) (lS cS : Nat) (n : Nd) (hsh : n.short)
    (hC : NodeC w (.agg #[.int .i64 k, .string d, .int .i64 s, .slice pP lP cP, .slice pN lN cN, .slice pK lK cK, .slice pS lS cS]) n) :
    Calls Try.prog 3 #[.agg #[.int .i64 k, .string d, .int .i64 s, .slice pP lP cP, .slice pN lN cN, .slice pK lK cK, .slice pS lS cS]] w fun e w' => e = .returned (.bool true) ∧ Below w.heap.size w w' := by
  have HC := hid_in hC
  have HSH := hid_in hsh
  clear hC hsh
  go_enter Try.func3, Try.ntmps3
  go_upto_region 1 with fail
  obtain ⟨W0, HW0, HR0, HB0, HS0⟩ := raw_row w k s d (.slice pP lP cP) (.slice pN lN cN) (.slice pK lK cK) (.slice pS lS cS)
  refine wp_world HW0.out ?_
  clear HW0
  go_upto_region 3 with (first | (go_at_call 9; refine (awake_any W0).mono ?_; rintro e w1 ⟨rfl, hb1⟩; have HB1 := hid_in hb1; clear hb1))
  have hr1 := HR0.out.below HB1.out HR0.out.lt
  have HBW1 : Hid (Below w.heap.size w w1) := HB0.out.trans (HB1.out.mono HB0.out.size)
  have r0 : w1.cell? ⟨w.heap.size, 0, none⟩ = some (.int .i64 k) := hr1.cell 0
  have r1 : w1.cell? ⟨w.heap.size, 1, none⟩ = some (.string d) := hr1.cell 1
  have r2 : w1.cell? ⟨w.heap.size, 2, none⟩ = some (.int .i64 s) := hr1.cell 2
  have r3 : w1.cell? ⟨w.heap.size, 3, none⟩ = some (.slice pP lP cP) := hr1.cell 3
  have r4 : w1.cell? ⟨w.heap.size, 4, none⟩ = some (.slice pN lN cN) := hr1.cell 4
  have r5 : w1.cell? ⟨w.heap.size, 5, none⟩ = some (.slice pK lK cK) := hr1.cell 5
  have r6 : w1.cell? ⟨w.heap.size, 6, none⟩ = some (.slice pS lS cS) := hr1.cell 6
  clear hr1
  obtain ⟨nk, nd, ns, np, ni⟩ := n
  have HC1 := hid_in (HC.out w1 HBW1.out)
  clear HC
  simp only at HC1
  go_upto_region 4 with (first | (go_at_call 10; refine HC1.out.mono ?_; rintro e w2 ⟨⟨pp, cp, pi, ci, rfl, hn2, _⟩, hb2⟩; have HN2 := hid_in hn2; have HB2 := hid_in (HBW1.out.trans (hb2.mono HBW1.out.size)); clear hn2 hb2))
  obtain ⟨W2, HW2, HR2, HBW2, HS2⟩ := node_row w2 nk ns nd (.slice pp np.length cp) (.slice pi ni.length ci)
  refine wp_world HW2.out ?_
  clear HW2
  have HB3 : Hid (Below w.heap.size w W2) := HB2.out.trans (HBW2.out.mono HB2.out.size)
  have a0 : W2.cell? ⟨w2.heap.size, 0, none⟩ = some (.int .i64 nk) := HR2.out.cell 0
  have a1 : W2.cell? ⟨w2.heap.size, 1, none⟩ = some (.string nd) := HR2.out.cell 1
  have a2 : W2.cell? ⟨w2.heap.size, 2, none⟩ = some (.int .i64 ns) := HR2.out.cell 2
  have a3 : W2.cell? ⟨w2.heap.size, 3, none⟩ = some (.slice pp np.length cp) := HR2.out.cell 3
  have a4 : W2.cell? ⟨w2.heap.size, 4, none⟩ = some (.slice pi ni.length ci) := HR2.out.cell 4
  have HN3 := hid_in (HN2.out.below HBW2.out)
  clear r0 r1 r2 r3 r4 r5 r6 HC1 HN2
  by_cases hR : right ⟨nk, nd, ns, np, ni⟩
  · have HE := hid_in (encode_yes W2 _ _ HN3.out HSH.out hR)
    go_upto_region 5 with (first | (go_at_call 11; refine HE.out.mono ?_; rintro e w4 ⟨⟨pe, ce, be, rfl, hs4, _, _⟩, hb4⟩; have HB4 := hid_in hb4; have HS4 := hid_in hs4; clear hb4 hs4))
    have HB5 : Hid (Below w.heap.size w w4) := HB3.out.trans (HB4.out.mono HB3.out.size)
    have HR4 := hid_in (HR2.out.below HB4.out HR2.out.lt)
    have HN4 := hid_in (HN3.out.below HB4.out)
    clear a0 a1 a2 a3 a4 HE HR2 HN3
    have a0 : w4.cell? ⟨w2.heap.size, 0, none⟩ = some (.int .i64 nk) := HR4.out.cell 0
    have a1 : w4.cell? ⟨w2.heap.size, 1, none⟩ = some (.string nd) := HR4.out.cell 1
    have a2 : w4.cell? ⟨w2.heap.size, 2, none⟩ = some (.int .i64 ns) := HR4.out.cell 2
    have a3 : w4.cell? ⟨w2.heap.size, 3, none⟩ = some (.slice pp np.length cp) := HR4.out.cell 3
    have a4 : w4.cell? ⟨w2.heap.size, 4, none⟩ = some (.slice pi ni.length ci) := HR4.out.cell 4
    have HRC := hid_in (rcheck_c w4 _ _ HN4.out HSH.out true ⟨fun _ => hR, fun _ => rfl⟩)
    go_upto_region 7 with (first | (go_at_call 12; refine HRC.out.mono ?_; rintro e w5 ⟨rfl, hb5⟩; have HB45 := hid_in hb5; clear hb5))
    have HB6 : Hid (Below w.heap.size w w5) := HB5.out.trans (HB45.out.mono HB5.out.size)
    have HR5 := hid_in (HR4.out.below HB45.out HR4.out.lt)
    have HN5 := hid_in (HN4.out.below HB45.out)
    have HS5 := hid_in (HS4.out.below HB45.out)
    clear a0 a1 a2 a3 a4 HR4 HN4 HS4 HRC
    have HBD : Hid (Below w5.heap.size w5 w5.drew) := below_drewN (Below.refl _ w5) 1
    have HCK := hid_in (check_yes w5.drew _ _ (HN5.out.below HBD.out) HSH.out hR)
    have HEN := hid_in (fun W (hW : Below w5.heap.size w5 W) => rencode_c W _ _ (HN5.out.below hW) hR)
    obtain ⟨F, HF⟩ : ∃ F, Hid (enc ⟨nk, nd, ns, np, ni⟩ = F) := ⟨_, rfl⟩
    rw [HF.out] at HS5 HEN ⊢
    obtain ⟨SA, HSA⟩ : ∃ SA, Hid (str F = SA) := ⟨_, rfl⟩
    have HCV : Hid (∀ W p c b, Sl W p F c b 0 → (convert 33 9 (.slice p F.length c)).run Try.prog W = .ok (.string SA) W) := fun W p c b h => by rw [← HSA.out]; exact conv_sl h
    have HKK : Hid (∀ W, Below w5.heap.size w5 W → (convert 33 9 (.slice pe F.length ce)).run Try.prog W = .ok (.string SA) W ∧ W.cell? ⟨w2.heap.size, 0, none⟩ = some (.int .i64 nk) ∧ W.cell? ⟨w2.heap.size, 1, none⟩ = some (.string nd) ∧ W.cell? ⟨w2.heap.size, 2, none⟩ = some (.int .i64 ns) ∧ W.cell? ⟨w2.heap.size, 3, none⟩ = some (.slice pp np.length cp) ∧ W.cell? ⟨w2.heap.size, 4, none⟩ = some (.slice pi ni.length ci)) := fun W hW => by
      have h1 := HR5.out.below hW HR5.out.lt
      exact ⟨HCV.out _ _ _ _ (HS5.out.below hW), h1.cell 0, h1.cell 1, h1.cell 2, h1.cell 3, h1.cell 4⟩
    clear hR HF HSA HN5 HR5 HS5
    refine wp_region_held_drew (S := (fun W => (convert 33 9 (.slice pe F.length ce)).run Try.prog W = .ok (.string SA) W ∧ W.cell? ⟨w2.heap.size, 0, none⟩ = some (.int .i64 nk) ∧ W.cell? ⟨w2.heap.size, 1, none⟩ = some (.string nd) ∧ W.cell? ⟨w2.heap.size, 2, none⟩ = some (.int .i64 ns) ∧ W.cell? ⟨w2.heap.size, 3, none⟩ = some (.slice pp np.length cp) ∧ W.cell? ⟨w2.heap.size, 4, none⟩ = some (.slice pi ni.length ci))) (by kernel_rfl) (HKK.out _ HBD.out) (fun hHeld => ?_)
    refine take_put (i := 0) (d := 30) (v := ?_) rfl rfl (by kernel_rfl) (by kernel_rfl) (by kernel_rfl) (fun _ _ _ h => h) (Or.inl ⟨by kernel_rfl, ?_⟩) hHeld ?_
    rotate_left
    · (intro w hSw; (try dsimp only at hSw); go_simp; (try with_reducible rfl))
    simp only [Act.put, List.setIfInBounds_toArray, List.set_cons_zero, List.set_cons_succ]
    refine take_put (i := 1) (d := 31) (v := ?_) rfl rfl (by kernel_rfl) (by kernel_rfl) (by kernel_rfl) (fun _ _ _ h => h) (Or.inl ⟨by kernel_rfl, ?_⟩) hHeld ?_
    rotate_left
    · (intro w hSw; (try dsimp only at hSw); go_simp; (try with_reducible rfl))
    simp only [Act.put, List.setIfInBounds_toArray, List.set_cons_zero, List.set_cons_succ]
    refine take_put (i := 2) (d := 32) (v := ?_) rfl rfl (by kernel_rfl) (by kernel_rfl) (by kernel_rfl) (fun _ _ _ h => h) (Or.inl ⟨by kernel_rfl, ?_⟩) hHeld ?_
    rotate_left
    · (intro w hSw; (try dsimp only at hSw); go_simp; (try with_reducible rfl))
    simp only [Act.put, List.setIfInBounds_toArray, List.set_cons_zero, List.set_cons_succ]
    refine take_put (i := 3) (d := 33) (v := ?_) rfl rfl (by kernel_rfl) (by kernel_rfl) (by kernel_rfl) (fun _ _ _ h => h) (Or.inl ⟨by kernel_rfl, ?_⟩) hHeld ?_
    rotate_left
    · (intro w hSw; (try dsimp only at hSw); go_simp; (try with_reducible rfl))
    simp only [Act.put, List.setIfInBounds_toArray, List.set_cons_zero, List.set_cons_succ]
    refine wpAnyH_ready (rs := [4]) (by kernel_rfl) (by simp) ?_
    refine AllReadyH.cons rfl (fun K hK => ?_) AllReadyH.nil
    rw [if_pos (by rfl)]
    go_simp
    refine HCK.out.mono ?_
    rintro e w6 ⟨rfl, hb6⟩
    have HB56 : Hid (Below w5.heap.size w5 w6) := HBD.out.trans (hb6.mono HBD.out.size)
    clear hb6
    go_simp
    refine hK.out _ _ (HKK.out _ HB56.out) (fun hHeld => ?_)
    clear hK K
    refine take_put (i := 5) (d := 35) (v := ?_) rfl rfl (by kernel_rfl) (by kernel_rfl) (by kernel_rfl) (fun _ _ _ h => h) (Or.inl ⟨by kernel_rfl, ?_⟩) hHeld ?_
    rotate_left
    · (intro w hSw; (try dsimp only at hSw); go_simp; (try with_reducible rfl))
    simp only [Act.put, List.setIfInBounds_toArray, List.set_cons_zero, List.set_cons_succ]
    refine take_put (i := 6) (d := 36) (v := ?_) rfl rfl (by kernel_rfl) (by kernel_rfl) (by kernel_rfl) (fun _ _ _ h => h) (Or.inl ⟨by kernel_rfl, ?_⟩) hHeld ?_
    rotate_left
    · (intro w hSw; (try dsimp only at hSw); go_simp; (try with_reducible rfl))
    simp only [Act.put, List.setIfInBounds_toArray, List.set_cons_zero, List.set_cons_succ]
    refine take_put (i := 7) (d := 37) (v := ?_) rfl rfl (by kernel_rfl) (by kernel_rfl) (by kernel_rfl) (fun _ _ _ h => h) (Or.inl ⟨by kernel_rfl, ?_⟩) hHeld ?_
    rotate_left
    · (intro w hSw; (try dsimp only at hSw); go_simp; (try with_reducible rfl))
    simp only [Act.put, List.setIfInBounds_toArray, List.set_cons_zero, List.set_cons_succ]
    refine take_put (i := 8) (d := 38) (v := ?_) rfl rfl (by kernel_rfl) (by kernel_rfl) (by kernel_rfl) (fun _ _ _ h => h) (Or.inl ⟨by kernel_rfl, ?_⟩) hHeld ?_
    rotate_left
    · (intro w hSw; (try dsimp only at hSw); go_simp; (try with_reducible rfl))
    simp only [Act.put, List.setIfInBounds_toArray, List.set_cons_zero, List.set_cons_succ]
    refine take_put (i := 9) (d := 39) (v := ?_) rfl rfl (by kernel_rfl) (by kernel_rfl) (by kernel_rfl) (fun _ _ _ h => h) (Or.inl ⟨by kernel_rfl, ?_⟩) hHeld ?_
    rotate_left
    · (intro w hSw; (try dsimp only at hSw); go_simp; (try with_reducible rfl))
    simp only [Act.put, List.setIfInBounds_toArray, List.set_cons_zero, List.set_cons_succ]
    refine take_put (i := 10) (d := 40) (v := ?_) rfl rfl (by kernel_rfl) (by kernel_rfl) (by kernel_rfl) (fun _ _ _ h => h) (Or.inl ⟨by kernel_rfl, ?_⟩) hHeld ?_
    rotate_left
    · (intro w hSw; (try dsimp only at hSw); go_simp; (try with_reducible rfl))
    simp only [Act.put, List.setIfInBounds_toArray, List.set_cons_zero, List.set_cons_succ]
    refine wpAnyH_ready (rs := [11]) (by kernel_rfl) (by simp) ?_
    refine AllReadyH.cons rfl (fun K hK => ?_) AllReadyH.nil
    rw [if_pos (by rfl)]
    go_simp
    refine (HEN.out _ HB56.out).mono ?_
    rintro e w7 ⟨⟨p7, c7, b7, rfl, hs7⟩, hb7⟩
    have HB57 : Hid (Below w5.heap.size w5 w7) := HB56.out.trans (hb7.mono HB56.out.size)
    have hcv := HCV.out _ _ _ _ hs7
    clear hb7 hs7
    go_simp
    refine hK.out _ _ (HKK.out _ HB57.out) (fun hHeld => ?_)
    clear hK K
    refine wpAnyH_ready (rs := [12]) (by kernel_rfl) (by simp) ?_
    refine AllReadyH.cons rfl (fun K hK => ?_) AllReadyH.nil
    rw [if_pos (by rfl)]
    go_simp
    refine hK.out _ _ (HKK.out _ HB57.out) (fun hHeld => ?_)
    clear hK K
    refine take_put (i := 13) (d := 43) (v := ?_) rfl rfl (by kernel_rfl) (by kernel_rfl) (by kernel_rfl) (fun _ _ _ h => h) (Or.inl ⟨by kernel_rfl, ?_⟩) hHeld ?_
    rotate_left
    · (intro w hSw; (try dsimp only at hSw); go_simp; (try with_reducible rfl))
    simp only [Act.put, List.setIfInBounds_toArray, List.set_cons_zero, List.set_cons_succ]
    refine take_put (i := 14) (d := 44) (v := ?_) rfl rfl (by kernel_rfl) (by kernel_rfl) (by kernel_rfl) (fun _ _ _ h => h) (Or.inl ⟨by kernel_rfl, ?_⟩) hHeld ?_
    rotate_left
    · (intro w hSw; (try dsimp only at hSw); go_simp; (try with_reducible rfl))
    simp only [Act.put, List.setIfInBounds_toArray, List.set_cons_zero, List.set_cons_succ]
    refine take_put (i := 15) (d := 2) (v := ?_) rfl rfl (by kernel_rfl) (by kernel_rfl) (by kernel_rfl) (fun _ _ _ h => h) (Or.inl ⟨by kernel_rfl, ?_⟩) hHeld ?_
    rotate_left
    · (intro w hSw; (try dsimp only at hSw); go_simp; (try with_reducible rfl))
    simp only [Act.put, List.setIfInBounds_toArray, List.set_cons_zero, List.set_cons_succ]
    refine wpAnyH_done (by kernel_rfl) ?_ _
    go_wp2_with fail
    go_ret
    exact ⟨rfl, HB6.out.trans (HB57.out.mono HB6.out.size)⟩
  · have HE := hid_in (encode_no W2 _ _ HN3.out HSH.out hR)
    go_upto_region 5 with (first | (go_at_call 11; refine HE.out.mono ?_; rintro e w4 ⟨rfl, hb4⟩; have HB4 := hid_in hb4; clear hb4))
    have HB5 : Hid (Below w.heap.size w w4) := HB3.out.trans (HB4.out.mono HB3.out.size)
    have HR4 := hid_in (HR2.out.below HB4.out HR2.out.lt)
    have HN4 := hid_in (HN3.out.below HB4.out)
    clear a0 a1 a2 a3 a4 HE HR2 HN3
    have a0 : w4.cell? ⟨w2.heap.size, 0, none⟩ = some (.int .i64 nk) := HR4.out.cell 0
    have a1 : w4.cell? ⟨w2.heap.size, 1, none⟩ = some (.string nd) := HR4.out.cell 1
    have a2 : w4.cell? ⟨w2.heap.size, 2, none⟩ = some (.int .i64 ns) := HR4.out.cell 2
    have a3 : w4.cell? ⟨w2.heap.size, 3, none⟩ = some (.slice pp np.length cp) := HR4.out.cell 3
    have a4 : w4.cell? ⟨w2.heap.size, 4, none⟩ = some (.slice pi ni.length ci) := HR4.out.cell 4
    have HRC := hid_in (rcheck_c w4 _ _ HN4.out HSH.out false ⟨fun h => (by cases h), fun h => absurd h hR⟩)
    go_upto_region 6 with (first | (go_at_call 12; refine HRC.out.mono ?_; rintro e w5 ⟨rfl, hb5⟩; have HB45 := hid_in hb5; clear hb5))
    have HB6 : Hid (Below w.heap.size w w5) := HB5.out.trans (HB45.out.mono HB5.out.size)
    have HR5 := hid_in (HR4.out.below HB45.out HR4.out.lt)
    have HN5 := hid_in (HN4.out.below HB45.out)
    clear a0 a1 a2 a3 a4 HR4 HN4 HRC
    have a0 : w5.cell? ⟨w2.heap.size, 0, none⟩ = some (.int .i64 nk) := HR5.out.cell 0
    have a1 : w5.cell? ⟨w2.heap.size, 1, none⟩ = some (.string nd) := HR5.out.cell 1
    have a2 : w5.cell? ⟨w2.heap.size, 2, none⟩ = some (.int .i64 ns) := HR5.out.cell 2
    have a3 : w5.cell? ⟨w2.heap.size, 3, none⟩ = some (.slice pp np.length cp) := HR5.out.cell 3
    have a4 : w5.cell? ⟨w2.heap.size, 4, none⟩ = some (.slice pi ni.length ci) := HR5.out.cell 4
    have HCK := hid_in (check_no w5 _ _ HN5.out HSH.out hR)
    go_wp2_with (first | (go_at_call 13; refine HCK.out.mono ?_; rintro e w6 ⟨rfl, hb6⟩; have HB7 := hid_in (HB6.out.trans (hb6.mono HB6.out.size)); clear hb6))
    go_ret
    exact ⟨rfl, HB7.out⟩
end Go.Proofs.Ytbccjomnfclkdaa
