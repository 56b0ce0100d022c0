/-
  Fields that are written; the walks of writeParts and writeItems. The walk of node.Encode. A batch of blobs: what it is in memory, and what its calls leave as it was.
-/
import Derived.OwnWalk
import Derived.Test.YtamaejlbojbbeaaGreatDoorQ00
import Derived.Test.YtamaejlbojbbeaaGreatDoorQ01
import Derived.Test.YtamaejlbojbbeaaGreatDoorQ02
import Derived.Test.YtamaejlbojbbeaaGreatDoorQ03
import Derived.Test.YtamaejlbojbbeaaGreatDoorQ04
import Derived.Test.YtamaejlbojbbeaaGreatDoorQ05
import Derived.Test.YtamaejlbojbbeaaGreatDoorQ06
import Derived.Test.YtamaejlbojbbeaaGreatDoorQ07
import Derived.Test.YtamaejlbojbbeaaGreatDoorQ08
import Derived.Test.YtamaejlbojbbeaaGreatDoorQ09
import Derived.Test.YtamaejlbojbbeaaGreatDoorQ10
import Derived.Test.YtamaejlbojbbeaaGreatDoorQ11
namespace Go.Proofs.YtamaejlbojbbeaaGreatDoor.Nd
open Go.RowKit
theorem Els.own {w : World} {v : Value} {k : Nat} {xs : List (List Value)} (h : Els w v k xs) (hne : xs ≠ []) : ∀ q, v.ownBlock = some q → q < w.heap.size := by
  obtain ⟨p, cap, b, o, rfl, _, _, h3, _⟩ := h.ex
  obtain ⟨rfl, hb⟩ := h3 hne
  intro q hq
  cases hq
  exact hb
/-- the Out at block g has made the bytes xs, in blocks from B on -/
def OutB (w : World) (B g : Nat) (xs : List Nat) : Prop := ∃ v, OutIs w B g v xs
theorem OutB.below {w w' : World} {B g : Nat} {xs : List Nat} (h : OutB w B g xs) (hb : Below w.heap.size w w') : OutB w' B g xs := by
  obtain ⟨v, hv⟩ := h
  exact ⟨v, hv.below hb⟩
theorem OutB.base {w : World} {B g : Nat} {xs : List Nat} (h : OutB w B g xs) : B ≤ w.heap.size := by
  obtain ⟨v, hv⟩ := h
  exact hv.base
theorem out_below {w w' : World} {B g : Nat} {v : Value} {xs : List Nat} (hg : B ≤ g) (ho : OutIs w B g v xs) (h : Grew w w' (OutS g v)) : Below B w w' :=
  h.below (Below.refl _ _) ho.base (outS_ge ho hg)
theorem num_o (w : World) (B g : Nat) (xs : List Nat) (n : Nat) (hn : n < 18446744073709551616) (hg : B ≤ g) (ho : OutB w B g xs) (hl : xs.length + 10 ≤ 140737488355328) :
    Calls Tryz.prog 190 #[.pointer (some ⟨g, 0, none⟩), .int .u64 (n : Int)] w fun e w' => e = .returned (.tuple #[]) ∧ OutB w' B g (xs ++ Wire.num n) ∧ Below B w w' := by
  obtain ⟨v, hv⟩ := ho
  refine (onum_any w B g v xs n hn hv hl).mono ?_
  rintro e w' ⟨rfl, v', h1, h2, _⟩
  exact ⟨rfl, ⟨v', h1⟩, out_below hg hv h2⟩
theorem text_o (w : World) (B g : Nat) (xs : List Nat) (s : ByteArray) (hg : B ≤ g) (ho : OutB w B g xs) (hl : xs.length + 10 + s.size ≤ 140737488355328) :
    Calls Tryz.prog 191 #[.pointer (some ⟨g, 0, none⟩), .string s] w fun e w' => e = .returned (.tuple #[]) ∧ OutB w' B g (xs ++ (Wire.num s.size ++ bytesS s)) ∧ Below B w w' := by
  obtain ⟨v, hv⟩ := ho
  refine (otext_any w B g v xs s hv hl).mono ?_
  rintro e w' ⟨rfl, v', h1, h2, _⟩
  exact ⟨rfl, ⟨v', h1⟩, out_below hg hv h2⟩
theorem dig_o (w : World) (B g : Nat) (xs : List Nat) (D : List Nat) (hD : Dg D) (hg : B ≤ g) (ho : OutB w B g xs) (hl : xs.length + 32 ≤ 140737488355328) :
    Calls Tryz.prog 211 #[.pointer (some ⟨g, 0, none⟩), .agg (dcells D).toArray] w fun e w' => e = .returned (.tuple #[]) ∧ OutB w' B g (xs ++ D) ∧ Below B w w' := by
  obtain ⟨v, hv⟩ := ho
  refine (odigest_any w B g v xs D hD.1 hD.2 hv hl).mono ?_
  rintro e w' ⟨rfl, v', h1, h2, _⟩
  exact ⟨rfl, ⟨v', h1⟩, out_below hg hv h2⟩
/-- the same, apart from block I -/
def OutA (w : World) (B g : Nat) (xs : List Nat) (I : Nat) : Prop := ∃ v, OutIs w B g v xs ∧ v.ownBlock ≠ some I
theorem OutB.toA {w : World} {B g I : Nat} {xs : List Nat} (h : OutB w B g xs) (hI : w.heap.size ≤ I) : OutA w B g xs I := by
  obtain ⟨v, hv⟩ := h
  refine ⟨v, hv, fun e => ?_⟩
  obtain ⟨_, ⟨rfl, _⟩ | ⟨g', cap, cur, rfl, _, hh, _⟩⟩ := hv.own
  · cases e
  · have := (Array.getElem?_eq_some_iff.1 hh).1
    have e2 : g' = I := by simpa [Value.ownBlock] using e
    omega
theorem OutA.toB {w : World} {B g I : Nat} {xs : List Nat} (h : OutA w B g xs I) : OutB w B g xs := by
  obtain ⟨v, hv, _⟩ := h
  exact ⟨v, hv⟩
theorem OutA.below {w w' : World} {B g I : Nat} {xs : List Nat} (h : OutA w B g xs I) (hb : Below w.heap.size w w') : OutA w' B g xs I := by
  obtain ⟨v, hv, hn⟩ := h
  exact ⟨v, hv.below hb, hn⟩
theorem outA_step {w w' : World} {B g I : Nat} {v v' : Value} {xs ys : List Nat} (hg : B ≤ g) (hI : I < w.heap.size) (hgI : g ≠ I) (hv : OutIs w B g v xs) (hn : v.ownBlock ≠ some I) (h1 : OutIs w' B g v' ys) (h2 : Grew w w' (OutS g v)) (h3 : Moved w v v') : OutA w' B g ys I ∧ Below B w w' ∧ w'.heap[I]? = w.heap[I]? := by
  refine ⟨⟨v', h1, fun e => ?_⟩, out_below hg hv h2, h2.block I hI (fun h => ?_)⟩
  · rcases h3 with h3 | ⟨q, h3, h4⟩
    · exact hn (h3 ▸ e)
    · rw [h3] at e
      cases e
      omega
  · rcases h with h | h
    · exact hgI h.symm
    · exact hn h.symm
theorem num_a (w : World) (B g I : Nat) (xs : List Nat) (n : Nat) (hn : n < 18446744073709551616) (hg : B ≤ g) (hI : I < w.heap.size) (hgI : g ≠ I) (ho : OutA w B g xs I) (hl : xs.length + 10 ≤ 140737488355328) :
    Calls Tryz.prog 190 #[.pointer (some ⟨g, 0, none⟩), .int .u64 (n : Int)] w fun e w' => e = .returned (.tuple #[]) ∧ OutA w' B g (xs ++ Wire.num n) I ∧ Below B w w' ∧ w'.heap[I]? = w.heap[I]? := by
  obtain ⟨v, hv, ha⟩ := ho
  refine (onum_any w B g v xs n hn hv hl).mono ?_
  rintro e w' ⟨rfl, v', h1, h2, h3⟩
  exact ⟨rfl, outA_step hg hI hgI hv ha h1 h2 h3⟩
theorem text_a (w : World) (B g I : Nat) (xs : List Nat) (s : ByteArray) (hg : B ≤ g) (hI : I < w.heap.size) (hgI : g ≠ I) (ho : OutA w B g xs I) (hl : xs.length + 10 + s.size ≤ 140737488355328) :
    Calls Tryz.prog 191 #[.pointer (some ⟨g, 0, none⟩), .string s] w fun e w' => e = .returned (.tuple #[]) ∧ OutA w' B g (xs ++ (Wire.num s.size ++ bytesS s)) I ∧ Below B w w' ∧ w'.heap[I]? = w.heap[I]? := by
  obtain ⟨v, hv, ha⟩ := ho
  refine (otext_any w B g v xs s hv hl).mono ?_
  rintro e w' ⟨rfl, v', h1, h2, h3⟩
  exact ⟨rfl, outA_step hg hI hgI hv ha h1 h2 h3⟩
theorem OutB.blk {w : World} {B g : Nat} {xs : List Nat} (h : OutB w B g xs) : g < w.heap.size := by
  obtain ⟨v, hv⟩ := h
  exact hv.row.lt
theorem take_succ_flatten {ps : List (List Nat)} {i : Nat} {d : List Nat} (h : ps[i]? = some d) : (ps.take (i + 1)).flatten = (ps.take i).flatten ++ d := by
  rw [List.take_add_one, h]
  simp
theorem flatten_len {ps : List (List Nat)} (h : ∀ d ∈ ps, Dg d) : ps.flatten.length = 32 * ps.length := by
  induction ps with
  | nil => rfl
  | cons d r ih =>
    rw [List.flatten_cons, List.length_append, (h d (by simp)).1, ih (fun x hx => h x (by simp [hx])), List.length_cons]
    omega
set_option maxHeartbeats 2000000 in
set_option maxRecDepth 100000 in
theorem writeParts_any (w : World) (B g : Nat) (xs : List Nat) (ps : List (List Nat)) (v : Value) (hg : B ≤ g) (ho : OutB w B g xs) (hp : Els w v 32 (ps.map dcells)) (hv : ps.map dcells ≠ [] → ∀ q, v.ownBlock = some q → q < B) (hd : ∀ d ∈ ps, Dg d) (hl : ps.length ≤ 1000) (hx : xs.length ≤ 1000) :
    Calls Tryz.prog 192 #[.pointer (some ⟨g, 0, none⟩), v] w fun e w' => e = .returned (.tuple #[]) ∧ OutB w' B g (xs ++ ps.flatten) ∧ Below B w w' := by
  obtain ⟨p, cap, b, o, rfl, hc1, hc2, hpp, hat⟩ := hp.ex
  rw [List.length_map] at *
  have HP := hid_in (fun h => (hpp h).1)
  have HV := hid_in hv
  have HAT := hid_in (fun (i : Nat) d (h : ps[i]? = some d) => hat i (dcells d) (by simp [h]))
  have HO := hid_in ho
  have HD := hid_in hd
  have HG := hid_in hg
  generalize hn : ps.length = n at *
  have Hn := hid_in hn
  clear hn hp hpp hat ho hd hv hg
  go_enter Tryz.func192, Tryz.ntmps192
  go_wp2_with fail
  go_loopw [8] (fun vi W => ∃ i : Nat, i ≤ n ∧ vi = .int .i64 (i : Int) ∧ Hid (OutB W B g (xs ++ (ps.take i).flatten)) ∧ Hid (Below B w W)) (fun vi _ => n - (intOf vi).toNat)
  case atStart => exact ⟨0, by omega, rfl, (by show OutB _ _ _ _; simpa using HO.out), Below.refl _ _⟩
  case round =>
    obtain ⟨i, hi, rfl, hO, hB⟩ := hrel
    by_cases hlt : i < n
    · obtain ⟨d, hdd⟩ : ∃ d, ps[i]? = some d := ⟨_, List.getElem?_eq_getElem (by rw [Hn.out]; exact hlt)⟩
      have hne : ps.map dcells ≠ [] := by intro h; simp at h; rw [h] at hdd; simp at hdd
      obtain rfl := HP.out hne
      have hbl : b < B := HV.out hne b rfl
      have hDd := HD.out d (List.mem_of_getElem? hdd)
      have HR : Hid (wr.rangeAt b (o + i * 32) (dcells d)) := rangeAt_below (HAT.out i d hdd) hB.out hbl
      have HDL : Hid ((dcells d).length = 32) := dcells_length hDd.1
      have HD1 : Hid (∀ v ∈ dcells d, v.oneCell' = true) := one_u8 _
      have HTK := hid_in (take_succ_flatten hdd)
      have HLN : Hid ((xs ++ (ps.take i).flatten).length ≤ 40000) := by
        show _ ≤ _
        rw [List.length_append, flatten_len (fun x hx => HD.out x (List.mem_of_mem_take hx))]
        have : (ps.take i).length ≤ 1000 := by rw [List.length_take, Hn.out]; omega
        omega
      have HW := hid_in (fun W (h : OutB W B g (xs ++ (ps.take i).flatten)) => dig_o W B g _ d hDd HG.out h (by have := HLN.out; omega))
      generalize hV : dcells d = V at *
      clear hdd hne hDd hV
      go_wp2_with (first | (refine wpList_load_mid rfl 30 _ rfl b _ rfl V _ HR.out Tryz.underlying30 rfl (by rw [info49, HDL.out]) ?_) | (refine wpList_store_new rfl rfl 30 32 _ _ rfl _ V info49 rfl HDL HD1 rfl rfl ?_; intro w5 hr5 hb5 hs5; have HB5 := hid_in hb5; clear hb5 hs5) | (refine wpList_load_Row rfl 30 _ rfl wr.heap.size rfl 30 _ hr5 _ Tryz.underlying30 rfl 32 info49 HDL.out ?_) | (go_at_call 211; refine (HW.out _ (hO.out.below HB5.out)).mono ?_; rintro e w6 ⟨rfl, h1, h2⟩; have H1 := hid_in h1; have H2 := hid_in ((hB.out.trans (HB5.out.mono hO.out.base)).trans h2); clear h1 h2))
      go_roundw
      case rel =>
        go_light
        refine ⟨i + 1, by omega, by go_num, ?_, H2⟩
        show OutB _ _ _ _
        rw [HTK.out, ← List.append_assoc]
        exact H1.out
      case measure => simp [intOf]; omega
    · obtain rfl : i = n := by omega
      go_wp2_with fail
      go_end0
      refine ⟨rfl, ?_, hB.out⟩
      have := hO.out
      rw [← Hn.out, List.take_length] at this
      exact this
theorem take_succ_items {l : List It} {i : Nat} {x : It} (h : l[i]? = some x) : (l.take (i + 1)).flatMap It.bytes = (l.take i).flatMap It.bytes ++ (((Wire.num x.name.size ++ bytesS x.name) ++ Wire.num x.kind.toNat) ++ x.sum) := by
  rw [List.take_add_one, h]
  simp [It.bytes]
theorem items_len (l : List It) (h : ∀ x ∈ l, x.ok) (m : Nat) (hm : ∀ x ∈ l, x.name.size ≤ m) : (l.flatMap It.bytes).length ≤ (m + 52) * l.length := by
  induction l with
  | nil => simp
  | cons x r ih =>
    have h1 := ih (fun y hy => h y (by simp [hy])) (fun y hy => hm y (by simp [hy]))
    have h2 := hm x (by simp)
    have h3 := num_length x.name.size
    have h4 := num_length x.kind.toNat
    have h5 := (h x (by simp)).sum.1
    rw [List.flatMap_cons, List.length_append, List.length_cons, Nat.mul_add]
    simp only [It.bytes, List.length_append, bytesS_length]
    omega
set_option maxHeartbeats 2000000 in
set_option maxRecDepth 100000 in
theorem writeItems_any (w : World) (B g : Nat) (xs : List Nat) (l : List It) (v : Value) (hg : B ≤ g) (ho : OutB w B g xs) (hp : Els w v 34 (l.map It.cells)) (hv : l.map It.cells ≠ [] → ∀ q, v.ownBlock = some q → q < B) (hd : ∀ x ∈ l, x.ok) (hk : ∀ x ∈ l, 0 ≤ x.kind ∧ x.name.size ≤ 16) (hl : l.length ≤ 1000) (hx : xs.length ≤ 1000) :
    Calls Tryz.prog 193 #[.pointer (some ⟨g, 0, none⟩), v] w fun e w' => e = .returned (.tuple #[]) ∧ OutB w' B g (xs ++ l.flatMap It.bytes) ∧ Below B w w' := by
  obtain ⟨p, cap, b, o, rfl, hc1, hc2, hpp, hat⟩ := hp.ex
  rw [List.length_map] at *
  have HP := hid_in (fun h => (hpp h).1)
  have HV := hid_in hv
  have HAT := hid_in (fun (i : Nat) x (h : l[i]? = some x) => hat i x.cells (by simp [h]))
  have HO := hid_in ho
  have HD := hid_in hd
  have HKK := hid_in hk
  have HG := hid_in hg
  generalize hn : l.length = n at *
  have Hn := hid_in hn
  clear hn hp hpp hat ho hd hv hg hk
  go_enter Tryz.func193, Tryz.ntmps193
  go_wp2_with fail
  go_loopw [8] (fun vi W => ∃ i : Nat, i ≤ n ∧ vi = .int .i64 (i : Int) ∧ Hid (OutB W B g (xs ++ (l.take i).flatMap It.bytes)) ∧ Hid (Below B w W)) (fun vi _ => n - (intOf vi).toNat)
  case atStart => exact ⟨0, by omega, rfl, (by show OutB _ _ _ _; simpa using HO.out), Below.refl _ _⟩
  case round =>
    obtain ⟨i, hi, rfl, hO, hB⟩ := hrel
    by_cases hlt : i < n
    · obtain ⟨x, hdd⟩ : ∃ x, l[i]? = some x := ⟨_, List.getElem?_eq_getElem (by rw [Hn.out]; exact hlt)⟩
      have hne : l.map It.cells ≠ [] := by intro h; simp at h; rw [h] at hdd; simp at hdd
      obtain rfl := HP.out hne
      have hbl : b < B := HV.out hne b rfl
      have hDd := HD.out x (List.mem_of_getElem? hdd)
      obtain ⟨hk0, hk16⟩ := HKK.out x (List.mem_of_getElem? hdd)
      have HR : Hid (wr.rangeAt b (o + i * 34) x.cells) := rangeAt_below (HAT.out i x hdd) hB.out hbl
      have HDL : Hid (x.cells.length = 34) := It.cells_length x hDd.sum.1
      have HDL2 : Hid ((dcells x.sum).length = 32) := dcells_length hDd.sum.1
      have HD1 : Hid (∀ v ∈ x.cells, v.oneCell' = true) := x.one
      have HTK := hid_in (take_succ_items hdd)
      have HLN : Hid ((xs ++ (l.take i).flatMap It.bytes).length ≤ 100000) := by
        show _ ≤ _
        rw [List.length_append]
        have h1 := items_len (l.take i) (fun x hx => HD.out x (List.mem_of_mem_take hx)) 16 (fun x hx => (HKK.out x (List.mem_of_mem_take hx)).2)
        have : (l.take i).length ≤ 1000 := by rw [List.length_take, Hn.out]; omega
        omega
      obtain ⟨ys, HYS⟩ : ∃ ys, Hid (xs ++ (l.take i).flatMap It.bytes = ys) := ⟨_, rfl⟩
      rw [HYS.out] at hO HLN
      have HYE := hid_in (show xs ++ ((l.take i).flatMap It.bytes ++ (((Wire.num x.name.size ++ bytesS x.name) ++ Wire.num x.kind.toNat) ++ x.sum)) = ((ys ++ (Wire.num x.name.size ++ bytesS x.name)) ++ Wire.num x.kind.toNat) ++ x.sum by rw [← HYS.out]; simp only [List.append_assoc])
      have h3 := num_length x.name.size
      have h4 := num_length x.kind.toNat
      have hkk : ((x.kind.toNat : Nat) : Int) = x.kind := by omega
      have hk64 : x.kind.toNat < 18446744073709551616 := by have := hDd.kind.2; omega
      have HW1 := hid_in (fun (W : World) I (hI : I < W.heap.size) (hgI : g ≠ I) (h : OutA W B g ys I) => text_a W B g I _ x.name HG.out hI hgI h (by have := HLN.out; omega))
      have HW2 := hid_in (fun (W : World) I (hI : I < W.heap.size) (hgI : g ≠ I) (h : OutA W B g (ys ++ (Wire.num x.name.size ++ bytesS x.name)) I) => num_a W B g I _ x.kind.toNat hk64 HG.out hI hgI h (by have := HLN.out; simp only [List.length_append, bytesS_length]; omega))
      have HW3 := hid_in (fun W (h : OutB W B g ((ys ++ (Wire.num x.name.size ++ bytesS x.name)) ++ Wire.num x.kind.toNat)) => dig_o W B g _ x.sum hDd.sum HG.out h (by have := HLN.out; simp only [List.length_append, bytesS_length]; omega))
      rw [hkk] at HW2
      have HC : Hid (∀ (W : World), Row W wr.heap.size x.cells 114 → W.cell? ⟨wr.heap.size, 0, none⟩ = some (.string x.name) ∧ W.cell? ⟨wr.heap.size, 1, none⟩ = some (.int .i64 x.kind) ∧ W.rangeAt wr.heap.size 2 (dcells x.sum)) := fun W h => ⟨h.cell 0, h.cell 1, fun j u hu => by
        rw [h.cell (2 + j)]
        show (Value.string x.name :: Value.int .i64 x.kind :: dcells x.sum)[2 + j]? = some u
        rw [show 2 + j = j + 1 + 1 by omega, List.getElem?_cons_succ, List.getElem?_cons_succ]
        exact hu⟩
      have hki := hDd.kind
      generalize hV : x.cells = V at *
      generalize hV2 : dcells x.sum = V2 at *
      generalize hV3 : x.name = nm at *
      have hwk : IntKind.u64.wrap x.kind = x.kind := by rw [IntKind.wrap_u64]; have := hki.2; omega
      generalize hV4 : x.kind = K at *
      have HKI := hid_in hki
      clear hdd hne hDd hV hV2 hV3 hV4 hki h3 h4 hkk hk64 hk16
      have HGW : Hid (g < wr.heap.size) := hO.out.blk
      go_wp2_with (first | (refine wpList_load_mid rfl 114 _ rfl b _ rfl V _ HR.out Tryz.underlying114 rfl (by rw [info51, HDL.out]) ?_) | (refine wpList_store_new rfl rfl 114 34 _ _ rfl _ V info51 rfl HDL HD1 rfl rfl ?_; intro w5 hr5 hb5 hs5; have HR5 := hid_in hr5; have HB5 := hid_in hb5; have HS5 := hid_in hs5; have c0 := (HC.out _ hr5).1; clear hr5 hb5 hs5) | (go_at_call 191; refine (HW1.out _ wr.heap.size (by rw [HS5.out]; omega) (by have := HGW.out; omega) ((hO.out.toA (Nat.le_refl _)).below HB5.out)).mono ?_; rintro e w6 ⟨rfl, h1, h2, h3⟩; have H1 := hid_in h1; have H2 := hid_in h2; have hr6 := HR5.out.of_block h3; have HR6 := hid_in hr6; have c1 := (HC.out _ hr6).2.1; clear h1 h2 c0 h3 hr6) | (go_at_call 190; refine (HW2.out _ wr.heap.size HR6.out.lt (by have := HGW.out; omega) H1.out).mono ?_; rintro e w7 ⟨rfl, h1, h2, h3⟩; have H3 := hid_in h1; have H4 := hid_in (H2.out.trans h2); have hr7 := HR6.out.of_block h3; have HR7 := hid_in (HC.out _ hr7).2.2; clear h1 h2 c1 h3 hr7) | (refine wpList_load_mid rfl 30 _ rfl wr.heap.size _ rfl V2 _ HR7.out Tryz.underlying30 rfl (by rw [info49, HDL2.out]) ?_) | (go_at_call 211; refine (HW3.out _ H3.out.toB).mono ?_; rintro e w8 ⟨rfl, h1, h2⟩; have H5 := hid_in h1; have H6 := hid_in ((hB.out.trans (HB5.out.mono hO.out.base)).trans (H4.out.trans h2)); clear h1 h2))
      go_roundw
      case rel =>
        go_light
        refine ⟨i + 1, by omega, by go_num, ?_, H6⟩
        show OutB _ _ _ _
        rw [HTK.out, HYE.out]
        exact H5.out
      case measure => simp [intOf]; omega
    · obtain rfl : i = n := by omega
      go_wp2_with fail
      go_end0
      refine ⟨rfl, ?_, hB.out⟩
      have := hO.out
      rw [← Hn.out, List.take_length] at this
      exact this
end Go.Proofs.YtamaejlbojbbeaaGreatDoor.Nd
namespace Go.Proofs.YtamaejlbojbbeaaGreatDoor.Nd
open Go.RowKit
theorem Els.keep {w w' : World} {v : Value} {k B : Nat} {xs : List (List Value)} (h : Els w v k xs) (hb : Below B w w') (hB : w.heap.size ≤ B) : Els w' v k xs := h.below (hb.mono hB)
theorem enc_1 {n : Nd} (h : n.kind = 1) : enc n = Wire.num 1 ++ (Wire.num n.data.size ++ bytesS n.data) := by simp [enc, h]
theorem enc_2 {n : Nd} (h : n.kind = 2) : enc n = Wire.num 2 ++ Wire.num n.size.toNat ++ n.parts.flatten := by simp [enc, h]
theorem enc_3 {n : Nd} (h : n.kind = 3) : enc n = Wire.num 3 ++ Wire.num n.items.length ++ n.items.flatMap It.bytes := by simp [enc, h]
theorem itemsOk_kind {l : List It} (h : itemsOk l) : ∀ x ∈ l, 0 ≤ x.kind ∧ x.name.size ≤ 16 := by
  intro x hx
  obtain ⟨i, hi, rfl⟩ := List.getElem_of_mem hx
  have h1 := (h.2 i hi _ (List.getElem?_eq_getElem hi)).1
  unfold itemOk at h1
  simp only [Bool.and_eq_true, Bool.or_eq_true, beq_iff_eq] at h1
  obtain ⟨h2, h3⟩ := h1
  unfold isNameS at h3
  simp only [Bool.and_eq_true, decide_eq_true_eq] at h3
  have h4 := h3.1.2
  rw [bl_length] at h4
  exact ⟨by rcases h2 with h | h <;> omega, h4⟩
set_option maxHeartbeats 2000000 in
set_option maxRecDepth 100000 in
theorem encode_any (w : World) (v : Value) (n : Nd) (h : IsN w v n) (hs : n.short) :
    Calls Tryz.prog 156 #[v] w fun e w' => (∃ u k, e = .returned (.tuple #[u, .int .i64 k]) ∧ ((k = 0 ∧ right n ∧ w'.ownsRow w.heap.size 5 1 u (enc n).length ((enc n).map u8v)) ∨ (k = 21 ∧ ¬ right n ∧ u = .slice none 0 0))) ∧ Below w.heap.size w w' := by
  obtain ⟨vp, vi, hv, hp, hi⟩ := h.ex
  obtain ⟨pp, cp, pi, ci, hform⟩ := h.form
  rw [hv] at hform
  simp only [Value.agg.injEq, Array.mk.injEq, List.cons.injEq, and_true, true_and] at hform
  obtain ⟨rfl, rfl⟩ := hform
  have HC := hid_in (fun W (hW : Below w.heap.size w W) => check_any W v n (h.below hW) hs)
  rw [hv] at HC ⊢
  obtain ⟨W0, H0, HR0, HB0, HZ0⟩ := node_row w n.kind n.size n.data (.slice pp n.parts.length cp) (.slice pi n.items.length ci)
  have HP := hid_in hp
  have HI := hid_in hi
  have HOK := hid_in h.ok
  have HSH := hid_in hs
  clear h hv hp hi hs
  have c0 : W0.cell? ⟨w.heap.size, 0, none⟩ = some (.int .i64 n.kind) := HR0.out.cell 0
  have c1 : W0.cell? ⟨w.heap.size, 1, none⟩ = some (.string n.data) := HR0.out.cell 1
  have c2 : W0.cell? ⟨w.heap.size, 2, none⟩ = some (.int .i64 n.size) := HR0.out.cell 2
  have c3 : W0.cell? ⟨w.heap.size, 3, none⟩ = some (.slice pp n.parts.length cp) := HR0.out.cell 3
  have c4 : W0.cell? ⟨w.heap.size, 4, none⟩ = some (.slice pi n.items.length ci) := HR0.out.cell 4
  have HCK := hid_in (HC.out W0 HB0.out)
  clear HC
  go_enter Tryz.func156, Tryz.ntmps156
  go_upto_region 1 with fail
  refine wp_world H0.out ?_
  clear H0
  go_upto_region 5 with (first | (go_at_call 127; refine HCK.out.mono ?_; rintro e w1 ⟨⟨r, rfl, hr⟩, hb1⟩; have HR1 := hid_in (HR0.out.below hb1 HR0.out.lt); have HB1 := hid_in (HB0.out.trans (hb1.mono HB0.out.size)); clear hb1 c0 c1 c2 c3 c4; rcases hr with ⟨rfl, hP⟩ | ⟨rfl, hP⟩; all_goals (have HPP := hid_in hP; clear hP)))
  · have HSZ : Hid (w.heap.size < w1.heap.size) := HR1.out.lt
    obtain ⟨W2, HW2⟩ : ∃ W2, Hid (w1.alloc (.cells #[.slice none 0 0] 279) = W2) := ⟨_, rfl⟩
    have HO2 : Hid (OutB W2 w1.heap.size w1.heap.size []) := ⟨.slice none 0 0, by rw [← HW2.out]; exact out_new w1⟩
    have HBB : Hid (Below w1.heap.size w1 W2) := by show Below _ _ _; rw [← HW2.out]; exact (Below.refl _ _).alloc (Nat.le_refl _) _
    refine wp_world HW2.out ?_
    clear HW2
    generalize w1.heap.size = B at *
    have HBE : Hid (∀ W, Below B w1 W → Row W w.heap.size [.int .i64 n.kind, .string n.data, .int .i64 n.size, .slice pp n.parts.length cp, .slice pi n.items.length ci] 108) := fun W hW => HR1.out.below hW HSZ.out
    have HBF : Hid (∀ W W', Below B w1 W → Below W.heap.size W W' → Below w.heap.size w W') := fun W W' h1 h2 => by
      have h3 : Below w.heap.size w W := HB1.out.trans (h1.mono (Nat.le_of_lt HSZ.out))
      exact h3.trans (h2.mono h3.size)
    have hr2 := HBE.out W2 HBB.out
    have c0 : W2.cell? ⟨w.heap.size, 0, none⟩ = some (.int .i64 n.kind) := hr2.cell 0
    clear hr2
    rcases HPP.out with ⟨hk, hd1, hd2, hs0, hp0, hi0⟩ | ⟨hk, hd0, hs0, hs1, hp0, hi0⟩ | ⟨hk, hd0, hs0, hp0, hi0⟩
    · have HK := hid_in hk
      rw [hk] at c0 HBE
      have HEN : Hid (enc n = ([] ++ Wire.num 1) ++ (Wire.num n.data.size ++ bytesS n.data)) := enc_1 HK.out
      have HLEN : Hid ((([] ++ Wire.num 1) ++ (Wire.num n.data.size ++ bytesS n.data)).length ≤ 140737488355328) := by
        have h1 := num_length 1
        have h2 := num_length n.data.size
        show _ ≤ _
        simp only [List.length_append, List.length_nil, bytesS_length]
        omega
      have HL1 : Hid (([] ++ Wire.num 1 : List Nat).length + 10 + n.data.size ≤ 140737488355328) := by
        have h1 := num_length 1
        show _ ≤ _
        simp only [List.length_append, List.length_nil]
        omega
      clear hk hd1 hd2 hs0 hp0 hi0
      go_wp2_with (first | (go_at_call 190; refine (num_o _ B B [] 1 (by decide) (Nat.le_refl _) HO2.out (by decide)).mono ?_; rintro e w3 ⟨rfl, h1, h2⟩; have HO3 := hid_in h1; have HB3 := hid_in (HBB.out.trans h2); clear h1 h2 c0 HO2; have hr3 := HBE.out w3 HB3.out; have c0 : w3.cell? ⟨w.heap.size, 0, none⟩ = some (.int .i64 1) := hr3.cell 0; have c1 : w3.cell? ⟨w.heap.size, 1, none⟩ = some (.string n.data) := hr3.cell 1; have c2 : w3.cell? ⟨w.heap.size, 2, none⟩ = some (.int .i64 n.size) := hr3.cell 2; have c3 : w3.cell? ⟨w.heap.size, 3, none⟩ = some (.slice pp n.parts.length cp) := hr3.cell 3; have c4 : w3.cell? ⟨w.heap.size, 4, none⟩ = some (.slice pi n.items.length ci) := hr3.cell 4; clear hr3) | (go_at_call 191; refine (text_o _ B B _ n.data (Nat.le_refl _) HO3.out HL1.out).mono ?_; rintro e w4 ⟨rfl, h1, h2⟩; have HO4 := hid_in h1; have HB4 := hid_in (HB3.out.trans h2); clear h1 h2) | (go_at_call 194; obtain ⟨v9, hv9⟩ := HO4.out; refine (obytes_any w4 B B v9 _ hv9 HLEN.out).mono ?_; rintro e w9 ⟨u9, rfl, h1, h2⟩; have HW9 := hid_in h1; have HB9 := hid_in h2; have HE9 := hid_in HB4.out; clear h1 h2 hv9))
      go_ret2
      refine ⟨⟨_, 0, rfl, .inl ⟨rfl, HPP.out, ?_⟩⟩, HBF.out _ _ HE9.out HB9.out⟩
      have h9 := own_mono HW9.out (Nat.le_trans HB1.out.size (Nat.le_trans HE9.out.size (Nat.le_refl _)))
      rw [HEN.out]
      exact h9
    · have HK := hid_in hk
      rw [hk] at c0 HBE
      have HEN : Hid (enc n = ([] ++ Wire.num 2) ++ Wire.num n.size.toNat ++ n.parts.flatten) := enc_2 HK.out
      have HNP : Hid (n.parts.length ≤ 1000) := by show _ ≤ _; rw [hp0]; unfold pieces; omega
      have HX1 : Hid ((([] ++ Wire.num 2) ++ Wire.num n.size.toNat).length ≤ 1000) := by
        have h1 := num_length 2
        have h2 := num_length n.size.toNat
        show _ ≤ _
        simp only [List.length_append, List.length_nil]
        omega
      have HLEN : Hid ((([] ++ Wire.num 2) ++ Wire.num n.size.toNat ++ n.parts.flatten).length ≤ 140737488355328) := by
        show _ ≤ _
        rw [List.length_append, flatten_len HOK.out.parts]
        have := HX1.out
        have := HNP.out
        omega
      have HL1 : Hid (([] ++ Wire.num 2 : List Nat).length + 10 ≤ 140737488355328) := by
        have h1 := num_length 2
        show _ ≤ _
        simp only [List.length_append, List.length_nil]
        omega
      have hkk : ((n.size.toNat : Nat) : Int) = n.size := by omega
      have hwk : IntKind.u64.wrap n.size = n.size := by rw [IntKind.wrap_u64]; omega
      have HNU := hid_in (fun W (h : OutB W B B ([] ++ Wire.num 2)) => num_o W B B _ n.size.toNat (by omega) (Nat.le_refl _) h HL1.out)
      rw [hkk] at HNU
      have HVP := hid_in (fun hne q hq => Nat.lt_trans (HP.out.own hne q hq) HSZ.out)
      have HPW := hid_in (fun W (hW : Below B w1 W) (h : OutB W B B (([] ++ Wire.num 2) ++ Wire.num n.size.toNat)) => writeParts_any W B B _ n.parts _ (Nat.le_refl _) h (HP.out.keep (HB1.out.trans (hW.mono (Nat.le_of_lt HSZ.out))) (Nat.le_refl _)) HVP.out HOK.out.parts HNP.out HX1.out)
      clear hk hs0 hs1 hp0 hi0 hkk
      go_wp2_with (first | (go_at_call 190; refine (num_o _ B B [] 2 (by decide) (Nat.le_refl _) HO2.out (by decide)).mono ?_; rintro e w3 ⟨rfl, h1, h2⟩; have HO3 := hid_in h1; have HB3 := hid_in (HBB.out.trans h2); clear h1 h2 c0 HO2; have hr3 := HBE.out w3 HB3.out; have c0 : w3.cell? ⟨w.heap.size, 0, none⟩ = some (.int .i64 2) := hr3.cell 0; have c1 : w3.cell? ⟨w.heap.size, 1, none⟩ = some (.string n.data) := hr3.cell 1; have c2 : w3.cell? ⟨w.heap.size, 2, none⟩ = some (.int .i64 n.size) := hr3.cell 2; have c3 : w3.cell? ⟨w.heap.size, 3, none⟩ = some (.slice pp n.parts.length cp) := hr3.cell 3; have c4 : w3.cell? ⟨w.heap.size, 4, none⟩ = some (.slice pi n.items.length ci) := hr3.cell 4; clear hr3) | (go_at_call 190; refine (HNU.out _ HO3.out).mono ?_; rintro e w4 ⟨rfl, h1, h2⟩; have HO4 := hid_in h1; have HB4 := hid_in (HB3.out.trans h2); clear h1 h2 c0 c1 c2 c3 c4; have hr3 := HBE.out w4 HB4.out; have c0 : w4.cell? ⟨w.heap.size, 0, none⟩ = some (.int .i64 2) := hr3.cell 0; have c1 : w4.cell? ⟨w.heap.size, 1, none⟩ = some (.string n.data) := hr3.cell 1; have c2 : w4.cell? ⟨w.heap.size, 2, none⟩ = some (.int .i64 n.size) := hr3.cell 2; have c3 : w4.cell? ⟨w.heap.size, 3, none⟩ = some (.slice pp n.parts.length cp) := hr3.cell 3; have c4 : w4.cell? ⟨w.heap.size, 4, none⟩ = some (.slice pi n.items.length ci) := hr3.cell 4; clear hr3) | (go_at_call 192; refine (HPW.out _ HB4.out HO4.out).mono ?_; rintro e w5 ⟨rfl, h1, h2⟩; have HO5 := hid_in h1; have HB5 := hid_in (HB4.out.trans h2); clear h1 h2) | (go_at_call 194; obtain ⟨v9, hv9⟩ := HO5.out; refine (obytes_any w5 B B v9 _ hv9 HLEN.out).mono ?_; rintro e w9 ⟨u9, rfl, h1, h2⟩; have HW9 := hid_in h1; have HB9 := hid_in h2; have HE9 := hid_in HB5.out; clear h1 h2 hv9))
      go_ret2
      refine ⟨⟨_, 0, rfl, .inl ⟨rfl, HPP.out, ?_⟩⟩, HBF.out _ _ HE9.out HB9.out⟩
      have h9 := own_mono HW9.out (Nat.le_trans HB1.out.size (Nat.le_trans HE9.out.size (Nat.le_refl _)))
      rw [HEN.out]
      exact h9
    · have HK := hid_in hk
      rw [hk] at c0 HBE
      have HEN : Hid (enc n = ([] ++ Wire.num 3) ++ Wire.num n.items.length ++ n.items.flatMap It.bytes) := enc_3 HK.out
      have HNP : Hid (n.items.length ≤ 64) := hi0.1
      have HKI := hid_in (itemsOk_kind hi0)
      have HX1 : Hid ((([] ++ Wire.num 3) ++ Wire.num n.items.length).length ≤ 1000) := by
        have h1 := num_length 3
        have h2 := num_length n.items.length
        show _ ≤ _
        simp only [List.length_append, List.length_nil]
        omega
      have HLEN : Hid ((([] ++ Wire.num 3) ++ Wire.num n.items.length ++ n.items.flatMap It.bytes).length ≤ 140737488355328) := by
        show _ ≤ _
        rw [List.length_append]
        have h1 := items_len n.items HOK.out.items 16 (fun x hx => (HKI.out x hx).2)
        have := HX1.out
        have := HNP.out
        omega
      have HL1 : Hid (([] ++ Wire.num 3 : List Nat).length + 10 ≤ 140737488355328) := by
        have h1 := num_length 3
        show _ ≤ _
        simp only [List.length_append, List.length_nil]
        omega
      have hnl := HNP.out
      have HNU := hid_in (fun W (h : OutB W B B ([] ++ Wire.num 3)) => num_o W B B _ n.items.length (by omega) (Nat.le_refl _) h HL1.out)
      have HVP := hid_in (fun hne q hq => Nat.lt_trans (HI.out.own hne q hq) HSZ.out)
      have HPW := hid_in (fun W (hW : Below B w1 W) (h : OutB W B B (([] ++ Wire.num 3) ++ Wire.num n.items.length)) => writeItems_any W B B _ n.items _ (Nat.le_refl _) h (HI.out.keep (HB1.out.trans (hW.mono (Nat.le_of_lt HSZ.out))) (Nat.le_refl _)) HVP.out HOK.out.items HKI.out (by omega) HX1.out)
      clear hk hs0 hp0 hi0
      go_wp2_with (first | (go_at_call 190; refine (num_o _ B B [] 3 (by decide) (Nat.le_refl _) HO2.out (by decide)).mono ?_; rintro e w3 ⟨rfl, h1, h2⟩; have HO3 := hid_in h1; have HB3 := hid_in (HBB.out.trans h2); clear h1 h2 c0 HO2; have hr3 := HBE.out w3 HB3.out; have c0 : w3.cell? ⟨w.heap.size, 0, none⟩ = some (.int .i64 3) := hr3.cell 0; have c1 : w3.cell? ⟨w.heap.size, 1, none⟩ = some (.string n.data) := hr3.cell 1; have c2 : w3.cell? ⟨w.heap.size, 2, none⟩ = some (.int .i64 n.size) := hr3.cell 2; have c3 : w3.cell? ⟨w.heap.size, 3, none⟩ = some (.slice pp n.parts.length cp) := hr3.cell 3; have c4 : w3.cell? ⟨w.heap.size, 4, none⟩ = some (.slice pi n.items.length ci) := hr3.cell 4; clear hr3) | (go_at_call 190; refine (HNU.out _ HO3.out).mono ?_; rintro e w4 ⟨rfl, h1, h2⟩; have HO4 := hid_in h1; have HB4 := hid_in (HB3.out.trans h2); clear h1 h2 c0 c1 c2 c3 c4; have hr3 := HBE.out w4 HB4.out; have c0 : w4.cell? ⟨w.heap.size, 0, none⟩ = some (.int .i64 3) := hr3.cell 0; have c1 : w4.cell? ⟨w.heap.size, 1, none⟩ = some (.string n.data) := hr3.cell 1; have c2 : w4.cell? ⟨w.heap.size, 2, none⟩ = some (.int .i64 n.size) := hr3.cell 2; have c3 : w4.cell? ⟨w.heap.size, 3, none⟩ = some (.slice pp n.parts.length cp) := hr3.cell 3; have c4 : w4.cell? ⟨w.heap.size, 4, none⟩ = some (.slice pi n.items.length ci) := hr3.cell 4; clear hr3) | (go_at_call 193; refine (HPW.out _ HB4.out HO4.out).mono ?_; rintro e w5 ⟨rfl, h1, h2⟩; have HO5 := hid_in h1; have HB5 := hid_in (HB4.out.trans h2); clear h1 h2) | (go_at_call 194; obtain ⟨v9, hv9⟩ := HO5.out; refine (obytes_any w5 B B v9 _ hv9 HLEN.out).mono ?_; rintro e w9 ⟨u9, rfl, h1, h2⟩; have HW9 := hid_in h1; have HB9 := hid_in h2; have HE9 := hid_in HB5.out; clear h1 h2 hv9))
      go_ret2
      refine ⟨⟨_, 0, rfl, .inl ⟨rfl, HPP.out, ?_⟩⟩, HBF.out _ _ HE9.out HB9.out⟩
      have h9 := own_mono HW9.out (Nat.le_trans HB1.out.size (Nat.le_trans HE9.out.size (Nat.le_refl _)))
      rw [HEN.out]
      exact h9
  · go_wp2_with fail
    go_ret2
    exact ⟨⟨_, 21, rfl, .inr ⟨rfl, HPP.out, rfl⟩⟩, HB1.out⟩
end Go.Proofs.YtamaejlbojbbeaaGreatDoor.Nd
namespace Go.Proofs.YtamaejlbojbbeaaGreatDoor.Tr
open Go.RowKit
open Sb (hid_in Row Sl T5 BL u8v Tab wp_world grownBy_setCell below_of_grown info39 one_u8 splice_all)
/-- block k is a row of slices of bytes -/
def T51 (w : World) (k : Nat) : Prop := ∃ cs fr, w.heap[k]? = some (.cells cs 51 fr)
/-- block k is the row of the batch's list -/
def ownB (w : World) (g k : Nat) : Prop := ∃ v, Row w g [v] 97 ∧ v.ownBlock = some k
/-- of what was there nothing has turned but the blocks S, and the batch g with the row of its list -/
structure Fr (S : Nat → Prop) (g : Nat) (w w' : World) : Prop where
  os : w'.os = w.os
  tape : w'.tape = w.tape
  output : w'.output = w.output
  size : w.heap.size ≤ w'.heap.size
  block : ∀ k, k < w.heap.size → ¬ S k → k ≠ g → ¬ ownB w g k → w'.heap[k]? = w.heap[k]?
  own : ∀ k, k < w.heap.size → ownB w' g k → ownB w g k
theorem Fr.refl (S : Nat → Prop) (g : Nat) (w : World) : Fr S g w w := ⟨rfl, rfl, rfl, Nat.le_refl _, fun _ _ _ _ _ => rfl, fun _ _ h => h⟩
theorem Fr.trans {S : Nat → Prop} {g : Nat} {a b c : World} (h : Fr S g a b) (k : Fr S g b c) : Fr S g a c :=
  ⟨k.os.trans h.os, k.tape.trans h.tape, k.output.trans h.output, Nat.le_trans h.size k.size, fun j hj hs hg ht => by
    rw [k.block j (Nat.lt_of_lt_of_le hj h.size) hs hg (fun e => ht (h.own j hj e))]
    exact h.block j hj hs hg ht, fun j hj e => h.own j hj (k.own j (Nat.lt_of_lt_of_le hj h.size) e)⟩
theorem row_back {w w' : World} {g : Nat} (h : w'.heap[g]? = w.heap[g]?) {k : Nat} (e : ownB w' g k) : ownB w g k := by
  obtain ⟨v, h1, h2⟩ := e
  exact ⟨v, h1.of_block h.symm, h2⟩
theorem Fr.of_below {S : Nat → Prop} {g : Nat} {w w' : World} (h : Below w.heap.size w w') (hg : g < w.heap.size) : Fr S g w w' := ⟨h.os, h.tape, h.output, h.size, fun k hk _ _ _ => h.block k hk, fun _ _ e => row_back (h.block g hg) e⟩
theorem Fr.mono {S T : Nat → Prop} {g : Nat} {w w' : World} (h : Fr S g w w') (hS : ∀ k, S k → T k) : Fr T g w w' := ⟨h.os, h.tape, h.output, h.size, fun k hk h1 h2 h3 => h.block k hk (fun e => h1 (hS k e)) h2 h3, h.own⟩
theorem Fr.below {S : Nat → Prop} {g B : Nat} {w w' : World} (h : Fr S g w w') (hB : ∀ k, ownB w g k → B ≤ k) (hg : B ≤ g) (hS : ∀ k, S k → B ≤ k) (hw : B ≤ w.heap.size) : Below B w w' := ⟨h.os, h.tape, h.output, h.size, fun k hk => h.block k (by omega) (fun e => by have := hS k e; omega) (by omega) (fun e => by have := hB k e; omega)⟩
theorem Fr.of_grown {S : Nat → Prop} {g b : Nat} {w w' : World} (e : w.grownBy w' (some b)) (h : S b) (hg : g < w.heap.size) (hb : b ≠ g) : Fr S g w w' :=
  ⟨e.os, e.tape, e.output, e.size, fun k hk hs _ _ => e.block k hk (fun e => hs (Option.some.inj e ▸ h)), fun _ _ e2 => row_back (e.block g hg (fun e => hb (Option.some.inj e).symm)) e2⟩
/-- nothing old is turned behind a beginning -/
theorem Fr.of_new {S : Nat → Prop} {g b : Nat} {w w1 w' : World} (h : Fr S g w w1) (e : w1.grownBy w' (some b)) (hb : w.heap.size ≤ b) (hg : g < w.heap.size) : Fr S g w w' :=
  ⟨e.os.trans h.os, e.tape.trans h.tape, e.output.trans h.output, Nat.le_trans h.size e.size, fun k hk hs h2 h3 => by
    rw [e.block k (Nat.lt_of_lt_of_le hk h.size) (fun e => by have := Option.some.inj e; omega)]
    exact h.block k hk hs h2 h3, fun k hk e2 => h.own k hk (row_back (e.block g (Nat.lt_of_lt_of_le hg h.size) (fun e => by have := Option.some.inj e; omega)) e2)⟩
theorem own51 {w : World} {base n : Nat} {v : Value} {xs : List Value} (h : w.ownsRow base 51 1 v n xs) (k : Nat) (hk : v.ownBlock = some k) : base ≤ k ∧ T51 w k := by
  rcases h.2 with ⟨rfl, _⟩ | ⟨g, cap, cur, rfl, hb, hg, _⟩
  · cases hk
  · obtain rfl : g = k := by simpa [Value.ownBlock] using hk
    exact ⟨hb, _, _, hg⟩
theorem row_one {w : World} {g : Nat} {t : TypeId} {v v' : Value} (h : Row w g [v] t) (h' : Row w g [v'] t) : v = v' := by
  unfold Row at h h'
  rw [h] at h'
  simpa using h'
theorem ownB_of {w : World} {base n g : Nat} {v : Value} {xs : List Value} (hr : Row w g [v] 97) (h : w.ownsRow base 51 1 v n xs) {k : Nat} (e : ownB w g k) : v.ownBlock = some k ∧ base ≤ k ∧ T51 w k := by
  obtain ⟨v', h1, h2⟩ := e
  obtain rfl := row_one hr h1
  exact ⟨h2, own51 h k h2⟩
/-- a batch: its block, its blobs -/
structure Bt (w : World) (base g : Nat) (L : List (List Nat)) : Prop where
  le : base ≤ g
  ex : ∃ v cs, Row w g [v] 97 ∧ w.ownsRow base 51 1 v L.length cs ∧ ∀ (i : Nat) bs, L[i]? = some bs → ∃ pi ci bi oi, cs[i]? = some (.slice pi bs.length ci) ∧ Sl w pi bs ci bi oi ∧ (pi = none → bs.length = 0 ∧ ci = 0) ∧ (0 < bs.length → T5 w bi)
theorem Bt.lt {w : World} {base g : Nat} {L : List (List Nat)} (h : Bt w base g L) : g < w.heap.size := by
  obtain ⟨v, cs, hr, _⟩ := h.ex; exact hr.lt
theorem not5_97 {w : World} {g : Nat} {vs : List Value} {t : TypeId} (h : Row w g vs t) (ht : t ≠ 5) : ¬ T5 w g := fun ⟨cs, fr, e⟩ => by
  rw [show w.heap[g]? = _ from h] at e; cases e; exact ht rfl
theorem not51 {w : World} {g : Nat} {vs : List Value} {t : TypeId} (h : Row w g vs t) (ht : t ≠ 51) : ¬ T51 w g := fun ⟨cs, fr, e⟩ => by
  rw [show w.heap[g]? = _ from h] at e; cases e; exact ht rfl
theorem Bt.own {w : World} {base g : Nat} {L : List (List Nat)} (h : Bt w base g L) {k : Nat} (e : ownB w g k) : base ≤ k ∧ T51 w k := by
  obtain ⟨v, cs, hr, ho, _⟩ := h.ex
  exact (ownB_of hr ho e).2
/-- a block of another type stays -/
theorem Fr.typed {S : Nat → Prop} {base g b : Nat} {L : List (List Nat)} {w w' : World} (h : Fr S g w w') (hB : Bt w base g L) {cs : Array Value} {t : TypeId} {fr : Nat × Nat} (hb : w.heap[b]? = some (.cells cs t fr)) (ht : t ≠ 51) (ht2 : t ≠ 97) (hS : ¬ S b) : w'.heap[b]? = some (.cells cs t fr) := by
  have hlt : b < w.heap.size := (Array.getElem?_eq_some_iff.1 hb).1
  rw [h.block b hlt hS (fun e => ?_) (fun e => ?_)]
  · exact hb
  · subst e
    obtain ⟨v, cs', hr, _⟩ := hB.ex
    rw [show w.heap[b]? = _ from hr] at hb; cases hb; exact ht2 rfl
  · obtain ⟨_, cs', fr', e2⟩ := hB.own e
    rw [hb] at e2; cases e2; exact ht rfl
theorem Fr.row {S : Nat → Prop} {base g b : Nat} {L : List (List Nat)} {w w' : World} (h : Fr S g w w') (hB : Bt w base g L) {vs : List Value} {t : TypeId} (hb : Row w b vs t) (ht : t ≠ 51) (ht2 : t ≠ 97) (hS : ¬ S b) : Row w' b vs t := h.typed hB hb ht ht2 hS
theorem Fr.t5 {S : Nat → Prop} {base g b : Nat} {L : List (List Nat)} {w w' : World} (h : Fr S g w w') (hB : Bt w base g L) (hb : T5 w b) (hS : ¬ S b) : w'.heap[b]? = w.heap[b]? := by
  obtain ⟨cs, fr, e⟩ := hb
  rw [h.typed hB e (by decide) (by decide) hS, e]
theorem Fr.sl {S : Nat → Prop} {base g b off cap : Nat} {L : List (List Nat)} {w w' : World} {p : Option Addr} {bs : List Nat} (h : Fr S g w w') (hB : Bt w base g L) (hs : Sl w p bs cap b off) (ht : 0 < bs.length → T5 w b) (hS : ∀ k, S k → ¬ T5 w k) : Sl w' p bs cap b off ∧ (0 < bs.length → T5 w' b) := by
  have key : 0 < bs.length → w'.heap[b]? = w.heap[b]? := fun h0 => h.t5 hB (ht h0) (fun e => hS b e (ht h0))
  refine ⟨⟨hs.lt, hs.cap1, hs.cap2, hs.at_, fun j hj => ?_⟩, fun h0 => (ht h0).of_block (key h0)⟩
  have e := hs.src j hj
  have k2 := key (by omega)
  unfold World.cell? at *
  simp only [k2]
  exact e
theorem Fr.tab {S : Nat → Prop} {base g : Nat} {L : List (List Nat)} {w w' : World} (h : Fr S g w w') (hB : Bt w base g L) (ht : Tab w) (hb : 0 < base) (hS : ∀ k, S k → 0 < k) : Tab w' := ht.below (h.below (B := 1) (fun k e => by have := (hB.own e).1; omega) (by have := hB.le; omega) hS ht.pos) (by decide)
theorem Bt.new (w : World) (base : Nat) (hb : base ≤ w.heap.size) : Bt (w.alloc (.cells #[.slice none 0 0] 97)) base w.heap.size [] :=
  ⟨hb, _, [], Row.new w [.slice none 0 0] 97, World.ownsRow_nil _ _ _ _, fun i bs h => by simp at h⟩
/-- what doesn't turn the batch leaves it -/
theorem Bt.other {w w' : World} {base g : Nat} {L : List (List Nat)} (h : Bt w base g L) {row : Option Nat} (hg : w.grownBy w' row) (hr : ∀ k, row = some k → k ≠ g ∧ ¬ T51 w k ∧ ¬ T5 w k) : Bt w' base g L := by
  obtain ⟨v, cs, hrow, hown, hall⟩ := h.ex
  refine ⟨h.le, v, cs, hrow.grown hg (fun e => (hr g e.symm).1 rfl), ?_, fun i bs hi => ?_⟩
  · refine World.ownsRow.kept hown hg ?_
    cases hv : v.ownBlock with
    | none =>
      rcases hown.2 with ⟨rfl, _⟩ | ⟨g', cap, cur, rfl, _⟩
      · exact .inl rfl
      · simp [Value.ownBlock] at hv
    | some k => exact .inr (fun e => (hr k e.symm).2.1 (own51 hown k hv).2)
  · obtain ⟨pi, ci, bi, oi, h1, h2, h3, h4⟩ := hall i bs hi
    have key : 0 < bs.length → w'.heap[bi]? = w.heap[bi]? := fun h0 => by
      obtain ⟨cs', fr, e⟩ := h4 h0
      exact hg.block bi (Array.getElem?_eq_some_iff.1 e).1 (fun e2 => (hr bi e2.symm).2.2 ⟨cs', fr, e⟩)
    refine ⟨pi, ci, bi, oi, h1, ⟨h2.lt, h2.cap1, h2.cap2, h2.at_, fun j hj => ?_⟩, h3, fun h0 => (h4 h0).of_block (key h0)⟩
    have e := h2.src j hj
    have k2 := key (by omega)
    unfold World.cell? at *
    simp only [k2]
    exact e
theorem grown_of_below {w w' : World} (h : Below w.heap.size w w') : w.grownBy w' none := ⟨h.os, h.tape, h.output, h.size, fun k hk _ => h.block k hk⟩
theorem Bt.below {w w' : World} {base g : Nat} {L : List (List Nat)} (h : Bt w base g L) (hb : Below w.heap.size w w') : Bt w' base g L := h.other (grown_of_below hb) (fun k e => by cases e)
/-- the list of a batch's blobs -/
theorem Bt.bl {w : World} {base g : Nat} {L : List (List Nat)} (h : Bt w base g L) : ∃ v, Row w g [v] 97 ∧ BL w v L := by
  obtain ⟨v, cs, hrow, hown, hall⟩ := h.ex
  refine ⟨v, hrow, ?_⟩
  rcases hown.2 with ⟨rfl, h0⟩ | ⟨g', cap, cur, rfl, hb, hg, hn, hm, hs, ht⟩
  · have hL : L = [] := List.eq_nil_of_length_eq_zero h0
    subst hL
    exact ⟨none, 0, 0, 0, rfl, by simp, by omega, fun h => absurd rfl h, fun i bs hi => by simp at hi⟩
  · refine ⟨_, cap, g', 0, rfl, hn, by unfold maxLen at hm; omega, fun _ => ⟨rfl, (Array.getElem?_eq_some_iff.1 hg).1⟩, fun i bs hi => ?_⟩
    obtain ⟨pi, ci, bi, oi, h1, h2, h3, _⟩ := hall i bs hi
    refine ⟨pi, ci, bi, oi, ?_, h2, h3⟩
    rw [show 0 + i = i by omega, cell_of_row _ _ _ _ _ _ hg, ← Array.getElem?_toList]
    have hlt : i < L.length := (List.getElem?_eq_some_iff.1 hi).1
    rw [← ht, List.getElem?_take] at h1
    rw [if_pos (by omega)] at h1
    exact h1
end Go.Proofs.YtamaejlbojbbeaaGreatDoor.Tr
