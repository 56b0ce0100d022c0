/-
  The walks of the texts of errors: a number's, a fault's, a list's.
-/
import Derived.Test.YtaaojfgakgjlkaaDoorA0
namespace Go.Proofs.YtaaojfgakgjlkaaDoor
open Go.RowKit

/-- the table of powers of ten lies where it was laid, below n -/
def Tab (n : Nat) (W : World) : Prop := 4 ≤ n ∧ Lib.TabIs Tryd.prog W "internal/strconv.uint64pow10" .u64 Lib.pow10Tab
theorem tab_at : ∃ g, Tryd.prog.globalNamed "internal/strconv.uint64pow10" = some g ∧ g < 4 := ⟨1, by kernel_rfl, by decide⟩
theorem Tab.below {n : Nat} {W W' : World} (h : Tab n W) (hb : Below n W W') : Tab n W' := by
  refine ⟨h.1, ?_⟩
  obtain ⟨g, hg, hg4⟩ := tab_at
  have h2 := h.2
  unfold Lib.TabIs World.var? at h2 ⊢
  rw [hg] at h2 ⊢
  simp only [Option.bind_some] at h2 ⊢
  rw [hb.block g (by have := h.1; omega)]
  exact h2
theorem below_grow (w : World) (k : Nat) (os : Array Obj) : Below w.heap.size w (Sort.grow (w.drewN k) os) := by
  refine (below_drewN (Below.refl _ _) k).trans ?_
  refine ⟨rfl, rfl, rfl, by simp [Sort.grow], fun j hj => ?_⟩
  simp only [Sort.grow]
  rw [Array.getElem?_append_left (by simpa using hj)]

theorem dec_len (u : Nat) : (Lib.decDigits u).length ≤ u + 1 := by
  induction u using Nat.strongRecOn with
  | ind u ih =>
    unfold Lib.decDigits
    split
    · simp
    · have := ih (u / 10) (by omega)
      simp; omega
theorem itoa_len (k : Nat) : (Lib.itoa (k : Int)).length ≤ k + 1 := by
  unfold Lib.itoa
  rw [if_neg (by omega)]
  have := dec_len k
  simpa using this

set_option maxHeartbeats 400000 in
set_option maxRecDepth 100000 in
theorem err_any (k : Nat) (hk : k ≤ 300) (n : Nat) (w : World) (ht : Tab n w) : Calls Tryd.prog 27 #[.int .i64 (k : Int)] w fun e w' => e = .returned (.string (B (errS ++ Lib.itoa (k : Int)))) ∧ Below w.heap.size w w' := by
  have HI := hid_in (Tryd.strconv_Itoa (k : Int) (by omega) (by omega) w ht.2)
  have hlen : (Lib.itoa (k : Int)).length ≤ 1000 := by have := itoa_len k; omega
  have hA : Hid (B errS ++ B (Lib.itoa (k : Int)) = B (errS ++ Lib.itoa (k : Int))) := append_B _ _
  have hA2 : Hid (({ data := #[118, 101, 110, 101, 101, 114, 58, 32, 101, 114, 114, 111, 114, 32] } : ByteArray) ++ B (Lib.itoa (k : Int)) = B (errS ++ Lib.itoa (k : Int))) := hA
  have hsz : (B (Lib.itoa (k : Int))).size ≤ 1000 := by rw [B_size]; exact hlen
  have HI2 : Hid (Calls Tryd.prog 35 #[.int .i64 (k : Int)] w fun e w' => e = .returned (.string (B (Lib.itoa (k : Int)))) ∧ ∃ m os, w' = Sort.grow (w.drewN m) os) := HI
  clear HI hA hlen ht
  generalize B (Lib.itoa (k : Int)) = s at hA2 hsz HI2
  generalize B (errS ++ Lib.itoa (k : Int)) = r at hA2 ⊢
  have hn : ¬ 9223372036854775807 < 14 + s.size := by omega
  go_enter Tryd.func27, Tryd.ntmps27
  go_wp2_with (go_at_call 35; refine HI2.out.mono ?_; rintro e w' ⟨rfl, m, os, hw⟩; have HW := hid_in hw; clear hw)
  go_ret
  refine ⟨?_, by rw [HW.out]; exact below_grow w m os⟩
  rw [← hA2.out]; rfl

/-- the texts of several errors, with a sign between -/
def joinT : List Tr → Str
  | [] => []
  | t :: ts => textS t ++ (ts.map fun u => [59, 32] ++ textS u).flatten
theorem textT_eq (ts : TrL) : textT ts = (ts.list.map fun u => [59, 32] ++ textS u).flatten := by
  refine TrL.rec (motive_1 := fun _ => True) (motive_2 := fun ts => textT ts = (ts.list.map fun u => [59, 32] ++ textS u).flatten) ?_ ?_ ?_ ?_ ?_ ts
  · intro _; trivial
  · intro _ _ _ _; trivial
  · intro _ _; trivial
  · rfl
  · intro t ts _ ih
    simp only [textT, TrL.list, List.map_cons, List.flatten_cons, ih]
theorem text_lst (ts : TrL) : textS (.lst ts) = joinT ts.list := by
  cases ts with
  | nil => rfl
  | cons t ts => simp only [textS, TrL.list, joinT, textT_eq]
theorem joinT_snoc (xs : List Tr) (t : Tr) : joinT (xs ++ [t]) = joinT xs ++ (if xs = [] then [] else [59, 32]) ++ textS t := by
  cases xs with
  | nil => simp [joinT]
  | cons x xs => simp [joinT]
theorem joinT_le (xs ys : List Tr) : (joinT xs).length ≤ (joinT (xs ++ ys)).length := by
  cases xs with
  | nil => simp [joinT]
  | cons x xs => simp [joinT]

/-- what the builder's contract says, over texts -/
theorem write_any (Bb b : Nat) (l x : Str) (w : World) (h : Lib.IsBuilder 83 5 Bb b (Lib.byteCells l) w) (hl : l.length + x.length ≤ 140737488355328) (hB : Bb ≤ w.heap.size) :
    Calls Tryd.prog 45 #[.pointer (some ⟨b, 0, none⟩), .string (B x)] w fun e w' => e = .returned (.tuple #[.int .i64 x.length, .nilIface]) ∧ Lib.IsBuilder 83 5 Bb b (Lib.byteCells (l ++ x)) w' ∧ Below Bb w w' := by
  refine (Tryd.Builder_WriteString Bb b (Lib.byteCells l) (B x) w h (by rw [Lib.byteCells_length, B_size]; exact hl) hB).mono fun e w' ⟨he, hb, hw⟩ => ⟨by rw [he, B_size], .inr ?_, hw⟩
  have e1 : Lib.byteCells (l ++ x) = Lib.byteCells l ++ Lib.strCells (B x) := by
    rw [Lib.strCells_eq, show (B x).data.toList = x from bl_B x]
    simp [Lib.byteCells]
  rw [e1]
  exact hb

theorem builder_below {Bb b : Nat} {bs : List Value} {w W : World} (h : Below w.heap.size w W) (hb : Lib.IsBuilder 83 5 Bb b bs w) : Lib.IsBuilder 83 5 Bb b bs W := by
  have key : ∀ p, Lib.BuilderAt 83 5 Bb b p bs w → Lib.BuilderAt 83 5 Bb b p bs W := by
    rintro p ⟨h1, v, h2, h3, h4⟩
    refine ⟨h1, v, (h.block b (Array.getElem?_eq_some_iff.1 h2).1).trans h2, ⟨h3.1, ?_⟩, h4⟩
    rcases h3.2 with h5 | ⟨g, cap, cur, e1, e2, e3, rest⟩
    · exact .inl h5
    · exact .inr ⟨g, cap, cur, e1, e2, (h.block g (Array.getElem?_eq_some_iff.1 e3).1).trans e3, rest⟩
  exact hb.elim (fun x => .inl (key _ x)) (fun x => .inr (key _ x))
/-- what tell does with an error -/
def Tells (T : Tr) : Prop := ∀ (n Bb b : Nat) (l : Str) (w : World) (v : Value), IsE n w T v → n ≤ Bb → Tab n w → Lib.IsBuilder 83 5 Bb b (Lib.byteCells l) w → Bb ≤ w.heap.size → l.length + (textS T).length ≤ 140737488355328 →
  Calls Tryd.prog 36 #[.pointer (some ⟨b, 0, none⟩), v] w fun e w' => e = .returned (.tuple #[]) ∧ Lib.IsBuilder 83 5 Bb b (Lib.byteCells (l ++ textS T)) w' ∧ Below Bb w w'

theorem ta31_42 (x : Value) (w : World) : (Instr.typeAssert (.iface 31 x) 30 42 true).run Tryd.prog w = .ok (.tuple #[.pointer none, .bool false]) w := by kernel_rfl
theorem ta31_44 (x : Value) (w : World) : (Instr.typeAssert (.iface 31 x) 30 44 true).run Tryd.prog w = .ok (.tuple #[.pointer none, .bool false]) w := by kernel_rfl
theorem ta42_42 (x : Value) (w : World) : (Instr.typeAssert (.iface 42 x) 30 42 true).run Tryd.prog w = .ok (.tuple #[x, .bool true]) w := by kernel_rfl
theorem ta42_44 (x : Value) (w : World) : (Instr.typeAssert (.iface 42 x) 30 44 true).run Tryd.prog w = .ok (.tuple #[.pointer none, .bool false]) w := by kernel_rfl
theorem ta44_42 (x : Value) (w : World) : (Instr.typeAssert (.iface 44 x) 30 42 true).run Tryd.prog w = .ok (.tuple #[.pointer none, .bool false]) w := by kernel_rfl
theorem ta44_44 (x : Value) (w : World) : (Instr.typeAssert (.iface 44 x) 30 44 true).run Tryd.prog w = .ok (.tuple #[x, .bool true]) w := by kernel_rfl

theorem mE31 (x : Value) (w : World) : (Go.method 247 31 x "Error").run Tryd.prog w = .ok (27, x) w := by kernel_rfl
theorem mE42 (x : Value) (w : World) : (Go.method 247 42 x "Error").run Tryd.prog w = .ok (16, x) w := by kernel_rfl
theorem mE44 (x : Value) (w : World) : (Go.method 247 44 x "Error").run Tryd.prog w = .ok (18, x) w := by kernel_rfl

set_option maxHeartbeats 400000 in
set_option maxRecDepth 100000 in
theorem tell_num (k : Nat) : Tells (.num k) := by
  intro n Bb b l w v hv hn ht hb hB hl
  unfold IsE at hv
  obtain ⟨rfl, hk0, hk⟩ := hv
  simp only [textS] at hl ⊢
  have HE := hid_in (err_any k hk n w ht)
  have HB := hid_in hb
  have HL := hid_in hl
  have t1 := ta31_42
  have t2 := ta31_44
  have m1 := mE31
  clear hb hl ht
  have HWR := hid_in (fun (W : World) (h : Below w.heap.size w W) => write_any Bb b l (errS ++ Lib.itoa (k : Int)) W (builder_below h HB.out) HL.out (Nat.le_trans hB h.size))
  generalize B (errS ++ Lib.itoa (k : Int)) = s at HE HWR
  go_enter Tryd.func36, Tryd.ntmps36
  go_wp2_with (first
    | (go_at_call 27; refine HE.out.mono ?_; rintro e w1 ⟨rfl, hbel⟩; have HBL := hid_in hbel; clear hbel)
    | (go_at_call 45; refine (HWR.out _ HBL.out).mono ?_; rintro e w2 ⟨rfl, hb2, hbel⟩; have HB2 := hid_in hb2; have HBL2 := hid_in hbel; clear hb2 hbel))
  go_end0
  exact ⟨rfl, HB2.out, (HBL.out.mono hB).trans HBL2.out⟩

theorem write_s {Bb b : Nat} {l : Str} {s : ByteArray} {w : World} (h : Lib.IsBuilder 83 5 Bb b (Lib.byteCells l) w) (hl : l.length + s.size ≤ 140737488355328) (hB : Bb ≤ w.heap.size) :
    Calls Tryd.prog 45 #[.pointer (some ⟨b, 0, none⟩), .string s] w fun e w' => e = .returned (.tuple #[.int .i64 s.size, .nilIface]) ∧ Lib.IsBuilder 83 5 Bb b (Lib.byteCells (l ++ bl s)) w' ∧ Below Bb w w' := by
  have h1 := write_any Bb b l (bl s) w h (by rw [bl_length]; exact hl) hB
  rw [B_bl, bl_length] at h1
  exact h1
theorem cell_row3 {w : World} {g : Nat} {x y z : Value} {t : TypeId} (h : w.heap[g]? = some (.cells #[x, y, z] t (0, 0))) : w.cell? ⟨g, 0, none⟩ = some x ∧ w.cell? ⟨g, 1, none⟩ = some y ∧ w.cell? ⟨g, 2, none⟩ = some z := by
  refine ⟨?_, ?_, ?_⟩
  · rw [cell_of_row w g 0 _ t (0, 0) h]; rfl
  · rw [cell_of_row w g 1 _ t (0, 0) h]; rfl
  · rw [cell_of_row w g 2 _ t (0, 0) h]; rfl
theorem sz32 : ({ data := #[32] } : ByteArray).size = 1 := rfl
theorem sz58 : ({ data := #[58, 32] } : ByteArray).size = 2 := rfl
theorem sz59 : ({ data := #[59, 32] } : ByteArray).size = 2 := rfl
theorem len32 : (bl { data := #[32] }).length = 1 := rfl
theorem len58 : (bl { data := #[58, 32] }).length = 2 := rfl

set_option maxHeartbeats 1000000 in
set_option maxRecDepth 100000 in
theorem tellFault_any (op path : Str) (t : Tr) (ih : Tells t) (n Bb b g : Nat) (ev : Value) (l : Str) (w : World) (hg : g < n) (hrow : w.heap[g]? = some (.cells #[.string (B op), .string (B path), ev] 47 (0, 0))) (hkid : IsE n w t ev) (hn : n ≤ Bb) (ht : Tab n w)
    (hb : Lib.IsBuilder 83 5 Bb b (Lib.byteCells l) w) (hB : Bb ≤ w.heap.size) (hl : l.length + (op ++ pathS path ++ [58, 32] ++ textS t).length ≤ 140737488355328) :
    Calls Tryd.prog 43 #[.pointer (some ⟨b, 0, none⟩), .pointer (some ⟨g, 0, none⟩)] w fun e w' => e = .returned (.tuple #[]) ∧ Lib.IsBuilder 83 5 Bb b (Lib.byteCells (l ++ (op ++ pathS path ++ [58, 32] ++ textS t))) w' ∧ Below Bb w w' := by
  obtain ⟨c0, c1, c2⟩ := cell_row3 hrow
  have hgB : g < Bb := by omega
  have HKID := hid_in hkid
  have HTAB := hid_in ht
  have HIH := hid_in ih
  have hsO : (B op).size = op.length := B_size _
  have hsP : (B path).size = path.length := B_size _
  have tP := toL path
  have EO := hid_in (bl_B op)
  have EP := hid_in (bl_B path)
  have HBW : Hid (Below Bb w w) := Below.refl _ _
  have hlen : l.length + op.length + (pathS path).length + 2 + (textS t).length ≤ 140737488355328 := by
    simp only [List.length_append, List.length_cons, List.length_nil] at hl; omega
  clear hrow hkid ht ih hl
  by_cases hp : path = []
  · have HP : Hid (l ++ (op ++ pathS path ++ [58, 32] ++ textS t) = ((l ++ bl (B op)) ++ bl { data := #[58, 32] }) ++ textS t) := by
      show _ = _
      rw [EO.out, hp]
      simp [pathS, bl]
    rw [HP.out]
    subst hp
    have hp0 : (pathS []).length = 0 := rfl
    rw [hp0] at hlen
    clear hp0 EP hsP
    have HL1 : Hid ((bl (B op)).length = op.length) := by show _ = _; rw [EO.out]
    have Hlen := hid_in hlen
    generalize B op = so at c0 hsO HL1 HP ⊢
    generalize B [] = sp at c1 tP
    clear HP EO
    have HSO := hid_in hsO
    clear hsO hlen
    go_enter Tryd.func43, Tryd.ntmps43
    go_wp2_with (first
      | (go_at_call 45; refine (write_s (by assumption) (by have := Hlen.out; have := HL1.out; have := HSO.out; have := sz58; (try simp only [List.length_append]); omega) (by have := HBW.out.size; omega)).mono ?_; rintro e w1 ⟨rfl, hb1, hbel⟩; have c0 := (hbel.cell (p := ⟨g, 0, none⟩) hgB).trans c0; have c1 := (hbel.cell (p := ⟨g, 1, none⟩) hgB).trans c1; have c2 := (hbel.cell (p := ⟨g, 2, none⟩) hgB).trans c2; have HBW := hid_in (HBW.out.trans hbel); clear hbel)
      | (go_at_call 36; refine (HIH.out n Bb b _ _ ev (isE_below (HBW.out.mono hn) _ _ HKID.out) hn (HTAB.out.below (HBW.out.mono hn)) (by assumption) (by have := HBW.out.size; omega) (by have := Hlen.out; have := HL1.out; have := len58; (try simp only [List.length_append]); omega)).mono ?_; rintro e w1 ⟨rfl, hb1, hbel⟩; have HB1 := hid_in hb1; have HBW := hid_in (HBW.out.trans hbel); clear hbel hb1))
    go_end0
    exact ⟨rfl, HB1.out, HBW.out⟩
  · have HP : Hid (l ++ (op ++ pathS path ++ [58, 32] ++ textS t) = ((((l ++ bl (B op)) ++ bl { data := #[32] }) ++ bl (B path)) ++ bl { data := #[58, 32] }) ++ textS t) := by
      show _ = _
      rw [EO.out, EP.out]
      simp [pathS, bl, hp]
    rw [HP.out]
    have hp0 : (pathS path).length = path.length + 1 := by simp [pathS, hp]
    rw [hp0] at hlen
    have HL1 : Hid ((bl (B op)).length = op.length) := by show _ = _; rw [EO.out]
    have HL2 : Hid ((bl (B path)).length = path.length) := by show _ = _; rw [EP.out]
    have Hlen := hid_in hlen
    have tP0 : (B path).toList.isEmpty = false := by rw [tP]; simpa using hp
    generalize B op = so at c0 hsO HL1 HP ⊢
    generalize B path = sp at c1 tP0 hsP HL2 HP ⊢
    clear HP EO EP hp0 tP hp
    have HSO := hid_in hsO
    have HSP := hid_in hsP
    clear hsO hsP hlen
    go_enter Tryd.func43, Tryd.ntmps43
    go_wp2_with (first
      | (go_at_call 45; refine (write_s (by assumption) (by have := Hlen.out; have := HL1.out; have := HL2.out; have := HSO.out; have := HSP.out; have := sz58; have := sz32; have := len32; (try simp only [List.length_append]); omega) (by have := HBW.out.size; omega)).mono ?_; rintro e w1 ⟨rfl, hb1, hbel⟩; have c0 := (hbel.cell (p := ⟨g, 0, none⟩) hgB).trans c0; have c1 := (hbel.cell (p := ⟨g, 1, none⟩) hgB).trans c1; have c2 := (hbel.cell (p := ⟨g, 2, none⟩) hgB).trans c2; have HBW := hid_in (HBW.out.trans hbel); clear hbel)
      | (go_at_call 36; refine (HIH.out n Bb b _ _ ev (isE_below (HBW.out.mono hn) _ _ HKID.out) hn (HTAB.out.below (HBW.out.mono hn)) (by assumption) (by have := HBW.out.size; omega) (by have := Hlen.out; have := HL1.out; have := HL2.out; have := len58; have := len32; (try simp only [List.length_append]); omega)).mono ?_; rintro e w1 ⟨rfl, hb1, hbel⟩; have HB1 := hid_in hb1; have HBW := hid_in (HBW.out.trans hbel); clear hbel hb1))
    go_end0
    exact ⟨rfl, HB1.out, HBW.out⟩

set_option maxHeartbeats 400000 in
set_option maxRecDepth 100000 in
theorem tell_flt (op path : Str) (t : Tr) (ih : Tells t) : Tells (.flt op path t) := by
  intro n Bb b l w v hv hn ht hb hB hl
  unfold IsE at hv
  obtain ⟨g, ev, rfl, hg, hrow, hkid⟩ := hv
  simp only [textS] at hl ⊢
  have HF := hid_in (tellFault_any op path t ih n Bb b g ev l w hg hrow hkid hn ht hb hB hl)
  have t1 := ta42_42
  clear hrow hkid ht hb hl
  go_enter Tryd.func36, Tryd.ntmps36
  go_wp2_with (first
    | (go_at_call 43; refine HF.out.mono ?_; rintro e w1 ⟨rfl, hb1, hbel⟩; have HB1 := hid_in hb1; have HBW := hid_in hbel; clear hb1 hbel))
  go_end0
  exact ⟨rfl, HB1.out, HBW.out⟩

theorem take_snocT {xs : List Tr} {i : Nat} {x : Tr} (h : xs[i]? = some x) : xs.take (i + 1) = xs.take i ++ [x] := by
  rw [List.take_add_one, h]; rfl
theorem joinT_take {xs : List Tr} {i : Nat} {x : Tr} (h : xs[i]? = some x) : joinT (xs.take (i + 1)) = joinT (xs.take i) ++ (if i = 0 then [] else [59, 32]) ++ textS x := by
  rw [take_snocT h, joinT_snoc]
  by_cases h0 : i = 0
  · subst h0; simp
  · have hlt := (List.getElem?_eq_some_iff.1 h).1
    rw [if_neg h0, if_neg (by intro e; have := congrArg List.length e; rw [List.length_take, List.length_nil] at this; omega)]
theorem joinT_takele (xs : List Tr) (i : Nat) : (joinT (xs.take i)).length ≤ (joinT xs).length := by
  conv => rhs; rw [← List.take_append_drop i xs]
  exact joinT_le _ _

set_option maxHeartbeats 1000000 in
set_option maxRecDepth 100000 in
theorem tellList_any (ts : TrL) (ih : ∀ t ∈ ts.list, Tells t) (n Bb b g h cap : Nat) (vs : List Value) (l : Str) (w : World) (_hg : g < n) (hh : h < n) (hrow : w.heap[g]? = some (.cells #[.slice (some ⟨h, 0, none⟩) vs.length cap] 65 (0, 0)))
    (hcap : vs.length ≤ cap) (hbig : cap ≤ 9223372036854775807) (hcell : ∀ (j : Nat) u, vs[j]? = some u → w.cell? ⟨h, j, none⟩ = some u) (hkids : IsEs n w ts vs) (hn : n ≤ Bb) (ht : Tab n w)
    (hb : Lib.IsBuilder 83 5 Bb b (Lib.byteCells l) w) (hB : Bb ≤ w.heap.size) (hl : l.length + (joinT ts.list).length ≤ 140737488355328) :
    Calls Tryd.prog 44 #[.pointer (some ⟨b, 0, none⟩), .pointer (some ⟨g, 0, none⟩)] w fun e w' => e = .returned (.tuple #[]) ∧ Lib.IsBuilder 83 5 Bb b (Lib.byteCells (l ++ joinT ts.list)) w' ∧ Below Bb w w' := by
  obtain ⟨hlen, hkid⟩ := isEs_list hkids
  generalize ts.list = xs at ih hl hlen hkid ⊢
  have c0 : w.cell? ⟨g, 0, none⟩ = some (.slice (some ⟨h, 0, none⟩) vs.length cap) := by rw [cell_of_row w g 0 _ 65 (0, 0) hrow]; rfl
  have HCE := hid_in hcell
  have HKID := hid_in hkid
  have HTAB := hid_in ht
  have HIH := hid_in ih
  have HL := hid_in hl
  have HBB := hid_in hb
  have hhB : h < Bb := by omega
  generalize hvn : vs.length = k at *
  have Hvn := hid_in hvn
  have Hlen := hid_in hlen
  clear hrow hcell hkids hkid ht ih hl hb hlen hvn
  go_enter Tryd.func44, Tryd.ntmps44
  go_wp2_with fail
  go_loopw [13] (fun vi W => Hid (Below Bb w W) ∧ ∃ i : Nat, i ≤ k ∧ vi = .int .i64 (i : Int) ∧ Hid (Lib.IsBuilder 83 5 Bb b (Lib.byteCells (l ++ joinT (xs.take i))) W)) (fun vi _ => k - (intOf vi).toNat)
  case atStart => exact ⟨Below.refl _ _, 0, by omega, rfl, by show Lib.IsBuilder _ _ _ _ _ _; simpa [joinT] using HBB.out⟩
  case round =>
    obtain ⟨hbw, i, hi, rfl, hbi⟩ := hrel
    by_cases hlt : i < k
    · obtain ⟨u, hu⟩ : ∃ u, vs[i]? = some u := ⟨_, List.getElem?_eq_getElem (by rw [Hvn.out]; exact hlt)⟩
      obtain ⟨x, hx, hE⟩ := HKID.out i u hu
      have cu : wr.cell? ⟨h, i, none⟩ = some u := (hbw.out.cell (p := ⟨h, i, none⟩) hhB).trans (HCE.out i u hu)
      have HX := hid_in hx
      have HE := hid_in hE
      have HT := hid_in (HIH.out x (List.mem_of_getElem? hx))
      have HJ := hid_in (joinT_take hx)
      have HJL := hid_in (joinT_takele xs (i + 1))
      clear hu hx hE
      have hbp := hbi.out
      obtain ⟨m, hm⟩ : ∃ m, Hid (m = joinT (xs.take i)) := ⟨_, rfl⟩
      rw [← hm.out] at hbp HJ
      by_cases h0 : i = 0
      · have HL2 : Hid ((l ++ m).length + (textS x).length ≤ 140737488355328) := by
          show _ ≤ _
          have h1 := HJ.out; have h2 := HJL.out; have h3 := HL.out
          rw [if_pos h0] at h1
          rw [h1] at h2
          simp at h2 ⊢; omega
        have HJ0 : Hid (joinT (xs.take (i + 1)) = m ++ textS x) := by show _ = _; rw [HJ.out, if_pos h0, List.append_nil]
        clear HJ
        subst h0
        go_wp2_with (first
          | (go_at_call 36; refine (HT.out n Bb b _ _ u (isE_below (hbw.out.mono hn) _ _ HE.out) hn (HTAB.out.below (hbw.out.mono hn)) hbp (by have := hbw.out.size; omega) HL2.out).mono ?_; rintro e w1 ⟨rfl, hb1, hbel⟩; have HB1 := hid_in hb1; have HBW := hid_in (hbw.out.trans hbel); clear hbel hb1))
        go_roundw
        case rel =>
          go_light
          refine ⟨HBW, 1, by omega, by go_num, ?_⟩
          have h1 : joinT (xs.take 1) = m ++ textS x := HJ0.out
          show Lib.IsBuilder 83 5 Bb b (Lib.byteCells (l ++ joinT (xs.take 1))) w1
          rw [h1, ← List.append_assoc]; exact HB1.out
        case measure => simp [intOf]; omega
      · have HL2 : Hid (((l ++ m) ++ bl { data := #[59, 32] }).length + (textS x).length ≤ 140737488355328) := by
          show _ ≤ _
          have h1 := HJ.out; have h2 := HJL.out; have h3 := HL.out
          rw [if_neg h0] at h1
          rw [h1] at h2
          simp [bl] at h2 ⊢; omega
        have hi0 : 0 < i := by omega
        have HL3 : Hid ((l ++ m).length + 2 ≤ 140737488355328) := by
          show _ ≤ _
          have h1 := HL2.out
          simp only [List.length_append] at h1 ⊢
          have h2 : (bl { data := #[59, 32] }).length = 2 := rfl
          omega
        have HJ0 : Hid (joinT (xs.take (i + 1)) = m ++ [59, 32] ++ textS x) := by show _ = _; rw [HJ.out, if_neg h0]
        clear h0 HJ
        go_wp2_with (first
          | (go_at_call 45; refine (write_s hbp (by rw [sz59]; exact HL3.out) (by have := hbw.out.size; omega)).mono ?_; rintro e w1 ⟨rfl, hb1, hbel⟩; have HBW := hid_in (hbw.out.trans hbel); clear hbel)
          | (go_at_call 36; refine (HT.out n Bb b _ _ u (isE_below (HBW.out.mono hn) _ _ HE.out) hn (HTAB.out.below (HBW.out.mono hn)) hb1 (by have := HBW.out.size; omega) HL2.out).mono ?_; rintro e w2 ⟨rfl, hb2, hbel⟩; have HB2 := hid_in hb2; have HBW2 := hid_in (HBW.out.trans hbel); clear hbel hb2))
        go_roundw
        case rel =>
          go_light
          refine ⟨HBW2, i + 1, by omega, by go_num, ?_⟩
          show Lib.IsBuilder 83 5 Bb b (Lib.byteCells (l ++ joinT (xs.take (i + 1)))) w2
          rw [HJ0.out, ← List.append_assoc, ← List.append_assoc]; exact HB2.out
        case measure => simp [intOf]; omega
    · have hik : i = k := by omega
      subst hik
      have hbf := hbi.out
      rw [List.take_of_length_le (by rw [← Hlen.out]; omega)] at hbf
      have HBF := hid_in hbf
      clear hbf
      go_wp2_with fail
      go_end0
      exact ⟨rfl, HBF.out, hbw.out⟩
end Go.Proofs.YtaaojfgakgjlkaaDoor
