/-
  Fields that are written; the walks of writeParts and writeItems.
-/
import Derived.Test.YtbccjomnfclkdaaN9
namespace Go.Proofs.Ytbccjomnfclkdaa
open Go.RowKit
theorem Els.own {w : World} {v : Value} {k : Nat} {xs : List (List Value)} (h : Els w v k xs) (hne : xs ≠ []) : ∀ q, v.ownBlock = some q → q < w.heap.size := by
  obtain ⟨p, cap, b, o, rfl, _, _, h3, _⟩ := h.ex
  obtain ⟨rfl, hb⟩ := h3 hne
  intro q hq
  cases hq
  exact hb
/-- the Out at block g has made the bytes xs, in blocks from B on -/
def OutB (w : World) (B g : Nat) (xs : List Nat) : Prop := ∃ v, OutIs w B g v xs
theorem OutB.below {w w' : World} {B g : Nat} {xs : List Nat} (h : OutB w B g xs) (hb : Below w.heap.size w w') : OutB w' B g xs := by
  obtain ⟨v, hv⟩ := h
  exact ⟨v, hv.below hb⟩
theorem OutB.base {w : World} {B g : Nat} {xs : List Nat} (h : OutB w B g xs) : B ≤ w.heap.size := by
  obtain ⟨v, hv⟩ := h
  exact hv.base
theorem out_below {w w' : World} {B g : Nat} {v : Value} {xs : List Nat} (hg : B ≤ g) (ho : OutIs w B g v xs) (h : Grew w w' (OutS g v)) : Below B w w' :=
  h.below (Below.refl _ _) ho.base (outS_ge ho hg)
theorem num_o (w : World) (B g : Nat) (xs : List Nat) (n : Nat) (hn : n < 18446744073709551616) (hg : B ≤ g) (ho : OutB w B g xs) (hl : xs.length + 10 ≤ 140737488355328) :
    Calls Try.prog 23 #[.pointer (some ⟨g, 0, none⟩), .int .u64 (n : Int)] w fun e w' => e = .returned (.tuple #[]) ∧ OutB w' B g (xs ++ Wire.num n) ∧ Below B w w' := by
  obtain ⟨v, hv⟩ := ho
  refine (onum_any w B g v xs n hn hv hl).mono ?_
  rintro e w' ⟨rfl, v', h1, h2, _⟩
  exact ⟨rfl, ⟨v', h1⟩, out_below hg hv h2⟩
theorem text_o (w : World) (B g : Nat) (xs : List Nat) (s : ByteArray) (hg : B ≤ g) (ho : OutB w B g xs) (hl : xs.length + 10 + s.size ≤ 140737488355328) :
    Calls Try.prog 24 #[.pointer (some ⟨g, 0, none⟩), .string s] w fun e w' => e = .returned (.tuple #[]) ∧ OutB w' B g (xs ++ (Wire.num s.size ++ bytesS s)) ∧ Below B w w' := by
  obtain ⟨v, hv⟩ := ho
  refine (otext_any w B g v xs s hv hl).mono ?_
  rintro e w' ⟨rfl, v', h1, h2, _⟩
  exact ⟨rfl, ⟨v', h1⟩, out_below hg hv h2⟩
theorem dig_o (w : World) (B g : Nat) (xs : List Nat) (D : List Nat) (hD : Dg D) (hg : B ≤ g) (ho : OutB w B g xs) (hl : xs.length + 32 ≤ 140737488355328) :
    Calls Try.prog 41 #[.pointer (some ⟨g, 0, none⟩), .agg (dcells D).toArray] w fun e w' => e = .returned (.tuple #[]) ∧ OutB w' B g (xs ++ D) ∧ Below B w w' := by
  obtain ⟨v, hv⟩ := ho
  refine (odigest_any w B g v xs D hD.1 hD.2 hv hl).mono ?_
  rintro e w' ⟨rfl, v', h1, h2, _⟩
  exact ⟨rfl, ⟨v', h1⟩, out_below hg hv h2⟩
/-- the same, apart from block I -/
def OutA (w : World) (B g : Nat) (xs : List Nat) (I : Nat) : Prop := ∃ v, OutIs w B g v xs ∧ v.ownBlock ≠ some I
theorem OutB.toA {w : World} {B g I : Nat} {xs : List Nat} (h : OutB w B g xs) (hI : w.heap.size ≤ I) : OutA w B g xs I := by
  obtain ⟨v, hv⟩ := h
  refine ⟨v, hv, fun e => ?_⟩
  obtain ⟨_, ⟨rfl, _⟩ | ⟨g', cap, cur, rfl, _, hh, _⟩⟩ := hv.own
  · cases e
  · have := (Array.getElem?_eq_some_iff.1 hh).1
    have e2 : g' = I := by simpa [Value.ownBlock] using e
    omega
theorem OutA.toB {w : World} {B g I : Nat} {xs : List Nat} (h : OutA w B g xs I) : OutB w B g xs := by
  obtain ⟨v, hv, _⟩ := h
  exact ⟨v, hv⟩
theorem OutA.below {w w' : World} {B g I : Nat} {xs : List Nat} (h : OutA w B g xs I) (hb : Below w.heap.size w w') : OutA w' B g xs I := by
  obtain ⟨v, hv, hn⟩ := h
  exact ⟨v, hv.below hb, hn⟩
theorem outA_step {w w' : World} {B g I : Nat} {v v' : Value} {xs ys : List Nat} (hg : B ≤ g) (hI : I < w.heap.size) (hgI : g ≠ I) (hv : OutIs w B g v xs) (hn : v.ownBlock ≠ some I) (h1 : OutIs w' B g v' ys) (h2 : Grew w w' (OutS g v)) (h3 : Moved w v v') : OutA w' B g ys I ∧ Below B w w' ∧ w'.heap[I]? = w.heap[I]? := by
  refine ⟨⟨v', h1, fun e => ?_⟩, out_below hg hv h2, h2.block I hI (fun h => ?_)⟩
  · rcases h3 with h3 | ⟨q, h3, h4⟩
    · exact hn (h3 ▸ e)
    · rw [h3] at e
      cases e
      omega
  · rcases h with h | h
    · exact hgI h.symm
    · exact hn h.symm
theorem num_a (w : World) (B g I : Nat) (xs : List Nat) (n : Nat) (hn : n < 18446744073709551616) (hg : B ≤ g) (hI : I < w.heap.size) (hgI : g ≠ I) (ho : OutA w B g xs I) (hl : xs.length + 10 ≤ 140737488355328) :
    Calls Try.prog 23 #[.pointer (some ⟨g, 0, none⟩), .int .u64 (n : Int)] w fun e w' => e = .returned (.tuple #[]) ∧ OutA w' B g (xs ++ Wire.num n) I ∧ Below B w w' ∧ w'.heap[I]? = w.heap[I]? := by
  obtain ⟨v, hv, ha⟩ := ho
  refine (onum_any w B g v xs n hn hv hl).mono ?_
  rintro e w' ⟨rfl, v', h1, h2, h3⟩
  exact ⟨rfl, outA_step hg hI hgI hv ha h1 h2 h3⟩
theorem text_a (w : World) (B g I : Nat) (xs : List Nat) (s : ByteArray) (hg : B ≤ g) (hI : I < w.heap.size) (hgI : g ≠ I) (ho : OutA w B g xs I) (hl : xs.length + 10 + s.size ≤ 140737488355328) :
    Calls Try.prog 24 #[.pointer (some ⟨g, 0, none⟩), .string s] w fun e w' => e = .returned (.tuple #[]) ∧ OutA w' B g (xs ++ (Wire.num s.size ++ bytesS s)) I ∧ Below B w w' ∧ w'.heap[I]? = w.heap[I]? := by
  obtain ⟨v, hv, ha⟩ := ho
  refine (otext_any w B g v xs s hv hl).mono ?_
  rintro e w' ⟨rfl, v', h1, h2, h3⟩
  exact ⟨rfl, outA_step hg hI hgI hv ha h1 h2 h3⟩
theorem OutB.blk {w : World} {B g : Nat} {xs : List Nat} (h : OutB w B g xs) : g < w.heap.size := by
  obtain ⟨v, hv⟩ := h
  exact hv.row.lt
theorem take_succ_flatten {ps : List (List Nat)} {i : Nat} {d : List Nat} (h : ps[i]? = some d) : (ps.take (i + 1)).flatten = (ps.take i).flatten ++ d := by
  rw [List.take_add_one, h]
  simp
theorem flatten_len {ps : List (List Nat)} (h : ∀ d ∈ ps, Dg d) : ps.flatten.length = 32 * ps.length := by
  induction ps with
  | nil => rfl
  | cons d r ih =>
    rw [List.flatten_cons, List.length_append, (h d (by simp)).1, ih (fun x hx => h x (by simp [hx])), List.length_cons]
    omega
set_option maxHeartbeats 2000000 in
set_option maxRecDepth 100000 in
theorem writeParts_any (w : World) (B g : Nat) (xs : List Nat) (ps : List (List Nat)) (v : Value) (hg : B ≤ g) (ho : OutB w B g xs) (hp : Els w v 32 (ps.map dcells)) (hv : ps.map dcells ≠ [] → ∀ q, v.ownBlock = some q → q < B) (hd : ∀ d ∈ ps, Dg d) (hl : ps.length ≤ 1000) (hx : xs.length ≤ 1000) :
    Calls Try.prog 25 #[.pointer (some ⟨g, 0, none⟩), v] w fun e w' => e = .returned (.tuple #[]) ∧ OutB w' B g (xs ++ ps.flatten) ∧ Below B w w' := by
  obtain ⟨p, cap, b, o, rfl, hc1, hc2, hpp, hat⟩ := hp.ex
  rw [List.length_map] at *
  have HP := hid_in (fun h => (hpp h).1)
  have HV := hid_in hv
  have HAT := hid_in (fun (i : Nat) d (h : ps[i]? = some d) => hat i (dcells d) (by simp [h]))
  have HO := hid_in ho
  have HD := hid_in hd
  have HG := hid_in hg
  generalize hn : ps.length = n at *
  have Hn := hid_in hn
  clear hn hp hpp hat ho hd hv hg
  go_enter Try.func25, Try.ntmps25
  go_wp2_with fail
  go_loopw [8] (fun vi W => ∃ i : Nat, i ≤ n ∧ vi = .int .i64 (i : Int) ∧ Hid (OutB W B g (xs ++ (ps.take i).flatten)) ∧ Hid (Below B w W)) (fun vi _ => n - (intOf vi).toNat)
  case atStart => exact ⟨0, by omega, rfl, (by show OutB _ _ _ _; simpa using HO.out), Below.refl _ _⟩
  case round =>
    obtain ⟨i, hi, rfl, hO, hB⟩ := hrel
    by_cases hlt : i < n
    · obtain ⟨d, hdd⟩ : ∃ d, ps[i]? = some d := ⟨_, List.getElem?_eq_getElem (by rw [Hn.out]; exact hlt)⟩
      have hne : ps.map dcells ≠ [] := by intro h; simp at h; rw [h] at hdd; simp at hdd
      obtain rfl := HP.out hne
      have hbl : b < B := HV.out hne b rfl
      have hDd := HD.out d (List.mem_of_getElem? hdd)
      have HR : Hid (wr.rangeAt b (o + i * 32) (dcells d)) := rangeAt_below (HAT.out i d hdd) hB.out hbl
      have HDL : Hid ((dcells d).length = 32) := dcells_length hDd.1
      have HD1 : Hid (∀ v ∈ dcells d, v.oneCell' = true) := one_u8 _
      have HTK := hid_in (take_succ_flatten hdd)
      have HLN : Hid ((xs ++ (ps.take i).flatten).length ≤ 40000) := by
        show _ ≤ _
        rw [List.length_append, flatten_len (fun x hx => HD.out x (List.mem_of_mem_take hx))]
        have : (ps.take i).length ≤ 1000 := by rw [List.length_take, Hn.out]; omega
        omega
      have HW := hid_in (fun W (h : OutB W B g (xs ++ (ps.take i).flatten)) => dig_o W B g _ d hDd HG.out h (by have := HLN.out; omega))
      generalize hV : dcells d = V at *
      clear hdd hne hDd hV
      go_wp2_with (first | (refine wpList_load_mid rfl 49 _ rfl b _ rfl V _ HR.out Try.underlying49 rfl (by rw [info49, HDL.out]) ?_) | (refine wpList_store_new rfl rfl 49 32 _ _ rfl _ V info49 rfl HDL HD1 rfl rfl ?_; intro w5 hr5 hb5 hs5; have HB5 := hid_in hb5; clear hb5 hs5) | (refine wpList_load_Row rfl 49 _ rfl wr.heap.size rfl 49 _ hr5 _ Try.underlying49 rfl 32 info49 HDL.out ?_) | (go_at_call 41; refine (HW.out _ (hO.out.below HB5.out)).mono ?_; rintro e w6 ⟨rfl, h1, h2⟩; have H1 := hid_in h1; have H2 := hid_in ((hB.out.trans (HB5.out.mono hO.out.base)).trans h2); clear h1 h2))
      go_roundw
      case rel =>
        go_light
        refine ⟨i + 1, by omega, by go_num, ?_, H2⟩
        show OutB _ _ _ _
        rw [HTK.out, ← List.append_assoc]
        exact H1.out
      case measure => simp [intOf]; omega
    · obtain rfl : i = n := by omega
      go_wp2_with fail
      go_end0
      refine ⟨rfl, ?_, hB.out⟩
      have := hO.out
      rw [← Hn.out, List.take_length] at this
      exact this
theorem take_succ_items {l : List It} {i : Nat} {x : It} (h : l[i]? = some x) : (l.take (i + 1)).flatMap It.bytes = (l.take i).flatMap It.bytes ++ (((Wire.num x.name.size ++ bytesS x.name) ++ Wire.num x.kind.toNat) ++ x.sum) := by
  rw [List.take_add_one, h]
  simp [It.bytes]
theorem items_len (l : List It) (h : ∀ x ∈ l, x.ok) (m : Nat) (hm : ∀ x ∈ l, x.name.size ≤ m) : (l.flatMap It.bytes).length ≤ (m + 52) * l.length := by
  induction l with
  | nil => simp
  | cons x r ih =>
    have h1 := ih (fun y hy => h y (by simp [hy])) (fun y hy => hm y (by simp [hy]))
    have h2 := hm x (by simp)
    have h3 := num_length x.name.size
    have h4 := num_length x.kind.toNat
    have h5 := (h x (by simp)).sum.1
    rw [List.flatMap_cons, List.length_append, List.length_cons, Nat.mul_add]
    simp only [It.bytes, List.length_append, bytesS_length]
    omega
set_option maxHeartbeats 2000000 in
set_option maxRecDepth 100000 in
theorem writeItems_any (w : World) (B g : Nat) (xs : List Nat) (l : List It) (v : Value) (hg : B ≤ g) (ho : OutB w B g xs) (hp : Els w v 34 (l.map It.cells)) (hv : l.map It.cells ≠ [] → ∀ q, v.ownBlock = some q → q < B) (hd : ∀ x ∈ l, x.ok) (hk : ∀ x ∈ l, 0 ≤ x.kind ∧ x.name.size ≤ 16) (hl : l.length ≤ 1000) (hx : xs.length ≤ 1000) :
    Calls Try.prog 26 #[.pointer (some ⟨g, 0, none⟩), v] w fun e w' => e = .returned (.tuple #[]) ∧ OutB w' B g (xs ++ l.flatMap It.bytes) ∧ Below B w w' := by
  obtain ⟨p, cap, b, o, rfl, hc1, hc2, hpp, hat⟩ := hp.ex
  rw [List.length_map] at *
  have HP := hid_in (fun h => (hpp h).1)
  have HV := hid_in hv
  have HAT := hid_in (fun (i : Nat) x (h : l[i]? = some x) => hat i x.cells (by simp [h]))
  have HO := hid_in ho
  have HD := hid_in hd
  have HKK := hid_in hk
  have HG := hid_in hg
  generalize hn : l.length = n at *
  have Hn := hid_in hn
  clear hn hp hpp hat ho hd hv hg hk
  go_enter Try.func26, Try.ntmps26
  go_wp2_with fail
  go_loopw [8] (fun vi W => ∃ i : Nat, i ≤ n ∧ vi = .int .i64 (i : Int) ∧ Hid (OutB W B g (xs ++ (l.take i).flatMap It.bytes)) ∧ Hid (Below B w W)) (fun vi _ => n - (intOf vi).toNat)
  case atStart => exact ⟨0, by omega, rfl, (by show OutB _ _ _ _; simpa using HO.out), Below.refl _ _⟩
  case round =>
    obtain ⟨i, hi, rfl, hO, hB⟩ := hrel
    by_cases hlt : i < n
    · obtain ⟨x, hdd⟩ : ∃ x, l[i]? = some x := ⟨_, List.getElem?_eq_getElem (by rw [Hn.out]; exact hlt)⟩
      have hne : l.map It.cells ≠ [] := by intro h; simp at h; rw [h] at hdd; simp at hdd
      obtain rfl := HP.out hne
      have hbl : b < B := HV.out hne b rfl
      have hDd := HD.out x (List.mem_of_getElem? hdd)
      obtain ⟨hk0, hk16⟩ := HKK.out x (List.mem_of_getElem? hdd)
      have HR : Hid (wr.rangeAt b (o + i * 34) x.cells) := rangeAt_below (HAT.out i x hdd) hB.out hbl
      have HDL : Hid (x.cells.length = 34) := It.cells_length x hDd.sum.1
      have HDL2 : Hid ((dcells x.sum).length = 32) := dcells_length hDd.sum.1
      have HD1 : Hid (∀ v ∈ x.cells, v.oneCell' = true) := x.one
      have HTK := hid_in (take_succ_items hdd)
      have HLN : Hid ((xs ++ (l.take i).flatMap It.bytes).length ≤ 100000) := by
        show _ ≤ _
        rw [List.length_append]
        have h1 := items_len (l.take i) (fun x hx => HD.out x (List.mem_of_mem_take hx)) 16 (fun x hx => (HKK.out x (List.mem_of_mem_take hx)).2)
        have : (l.take i).length ≤ 1000 := by rw [List.length_take, Hn.out]; omega
        omega
      obtain ⟨ys, HYS⟩ : ∃ ys, Hid (xs ++ (l.take i).flatMap It.bytes = ys) := ⟨_, rfl⟩
      rw [HYS.out] at hO HLN
      have HYE := hid_in (show xs ++ ((l.take i).flatMap It.bytes ++ (((Wire.num x.name.size ++ bytesS x.name) ++ Wire.num x.kind.toNat) ++ x.sum)) = ((ys ++ (Wire.num x.name.size ++ bytesS x.name)) ++ Wire.num x.kind.toNat) ++ x.sum by rw [← HYS.out]; simp only [List.append_assoc])
      have h3 := num_length x.name.size
      have h4 := num_length x.kind.toNat
      have hkk : ((x.kind.toNat : Nat) : Int) = x.kind := by omega
      have hk64 : x.kind.toNat < 18446744073709551616 := by have := hDd.kind.2; omega
      have HW1 := hid_in (fun (W : World) I (hI : I < W.heap.size) (hgI : g ≠ I) (h : OutA W B g ys I) => text_a W B g I _ x.name HG.out hI hgI h (by have := HLN.out; omega))
      have HW2 := hid_in (fun (W : World) I (hI : I < W.heap.size) (hgI : g ≠ I) (h : OutA W B g (ys ++ (Wire.num x.name.size ++ bytesS x.name)) I) => num_a W B g I _ x.kind.toNat hk64 HG.out hI hgI h (by have := HLN.out; simp only [List.length_append, bytesS_length]; omega))
      have HW3 := hid_in (fun W (h : OutB W B g ((ys ++ (Wire.num x.name.size ++ bytesS x.name)) ++ Wire.num x.kind.toNat)) => dig_o W B g _ x.sum hDd.sum HG.out h (by have := HLN.out; simp only [List.length_append, bytesS_length]; omega))
      rw [hkk] at HW2
      have HC : Hid (∀ (W : World), Row W wr.heap.size x.cells 51 → W.cell? ⟨wr.heap.size, 0, none⟩ = some (.string x.name) ∧ W.cell? ⟨wr.heap.size, 1, none⟩ = some (.int .i64 x.kind) ∧ W.rangeAt wr.heap.size 2 (dcells x.sum)) := fun W h => ⟨h.cell 0, h.cell 1, fun j u hu => by
        rw [h.cell (2 + j)]
        show (Value.string x.name :: Value.int .i64 x.kind :: dcells x.sum)[2 + j]? = some u
        rw [show 2 + j = j + 1 + 1 by omega, List.getElem?_cons_succ, List.getElem?_cons_succ]
        exact hu⟩
      have hki := hDd.kind
      generalize hV : x.cells = V at *
      generalize hV2 : dcells x.sum = V2 at *
      generalize hV3 : x.name = nm at *
      have hwk : IntKind.u64.wrap x.kind = x.kind := by rw [IntKind.wrap_u64]; have := hki.2; omega
      generalize hV4 : x.kind = K at *
      have HKI := hid_in hki
      clear hdd hne hDd hV hV2 hV3 hV4 hki h3 h4 hkk hk64 hk16
      have HGW : Hid (g < wr.heap.size) := hO.out.blk
      go_wp2_with (first | (refine wpList_load_mid rfl 51 _ rfl b _ rfl V _ HR.out Try.underlying51 rfl (by rw [info51, HDL.out]) ?_) | (refine wpList_store_new rfl rfl 51 34 _ _ rfl _ V info51 rfl HDL HD1 rfl rfl ?_; intro w5 hr5 hb5 hs5; have HR5 := hid_in hr5; have HB5 := hid_in hb5; have HS5 := hid_in hs5; have c0 := (HC.out _ hr5).1; clear hr5 hb5 hs5) | (go_at_call 24; refine (HW1.out _ wr.heap.size (by rw [HS5.out]; omega) (by have := HGW.out; omega) ((hO.out.toA (Nat.le_refl _)).below HB5.out)).mono ?_; rintro e w6 ⟨rfl, h1, h2, h3⟩; have H1 := hid_in h1; have H2 := hid_in h2; have hr6 := HR5.out.of_block h3; have HR6 := hid_in hr6; have c1 := (HC.out _ hr6).2.1; clear h1 h2 c0 h3 hr6) | (go_at_call 23; refine (HW2.out _ wr.heap.size HR6.out.lt (by have := HGW.out; omega) H1.out).mono ?_; rintro e w7 ⟨rfl, h1, h2, h3⟩; have H3 := hid_in h1; have H4 := hid_in (H2.out.trans h2); have hr7 := HR6.out.of_block h3; have HR7 := hid_in (HC.out _ hr7).2.2; clear h1 h2 c1 h3 hr7) | (refine wpList_load_mid rfl 49 _ rfl wr.heap.size _ rfl V2 _ HR7.out Try.underlying49 rfl (by rw [info49, HDL2.out]) ?_) | (go_at_call 41; refine (HW3.out _ H3.out.toB).mono ?_; rintro e w8 ⟨rfl, h1, h2⟩; have H5 := hid_in h1; have H6 := hid_in ((hB.out.trans (HB5.out.mono hO.out.base)).trans (H4.out.trans h2)); clear h1 h2))
      go_roundw
      case rel =>
        go_light
        refine ⟨i + 1, by omega, by go_num, ?_, H6⟩
        show OutB _ _ _ _
        rw [HTK.out, HYE.out]
        exact H5.out
      case measure => simp [intOf]; omega
    · obtain rfl : i = n := by omega
      go_wp2_with fail
      go_end0
      refine ⟨rfl, ?_, hB.out⟩
      have := hO.out
      rw [← Hn.out, List.take_length] at this
      exact this
end Go.Proofs.Ytbccjomnfclkdaa
