/-
  The walks of Errno, New, Wrap.
-/
import Derived.Test.YtaaojfgakgjlkaaDoorD0
import Derived.Deep.AppendLies
import Derived.Maps.AppendAt
namespace Go.Proofs.YtaaojfgakgjlkaaDoor
open Go.RowKit

theorem u64_nonneg (k : Int) : 0 ≤ IntKind.u64.wrap k := by
  have e : IntKind.u64.wrap k = k % 18446744073709551616 := by unfold IntKind.wrap; rfl
  rw [e]; omega
set_option maxHeartbeats 400000 in
theorem errno_any (k : Int) (w : World) : Calls Tryd.prog 22 #[.int .i64 k] w fun e w' => e = .returned (.int .i64 ((eno k : Nat) : Int)) ∧ w' = w := by
  obtain ⟨u, hu⟩ : ∃ u : Nat, Hid ((u : Int) = IntKind.u64.wrap k) := ⟨(IntKind.u64.wrap k).toNat, by show _ = _; have := u64_nonneg k; omega⟩
  have he : Hid (eno k = u % 301) := by show _ = _; unfold eno uint; rw [← hu.out]; rfl
  go_enter Tryd.func22, Tryd.ntmps22
  go_wp2
  rw [← hu.out]
  go_ret
  refine ⟨congrArg (fun z => Ending.returned (Value.int .i64 z)) ?_, rfl⟩
  show wrap64 ((u : Int).tmod 301) = _
  rw [he.out, Int.tmod_eq_emod_of_nonneg (by omega)]
  unfold wrap64
  omega
set_option maxHeartbeats 400000 in
theorem new_ok (so sp : ByteArray) (w : World) : Calls Tryd.prog 21 #[.string so, .string sp, .int .i64 0] w fun e w' => e = .returned .nilIface ∧ w' = w := by
  go_enter Tryd.func21, Tryd.ntmps21
  go_wp2
  go_ret
  exact ⟨rfl, rfl⟩
set_option maxHeartbeats 400000 in
theorem new_err (so sp : ByteArray) (k : Nat) (hk : 0 < k) (w : World) : Calls Tryd.prog 21 #[.string so, .string sp, .int .i64 (k : Int)] w fun e w' => e = .returned (.iface 42 (.pointer (some ⟨w.heap.size, 0, none⟩))) ∧ w' = w.alloc (.cells #[.string so, .string sp, .iface 31 (.int .i64 (k : Int))] 47) := by
  have h0 : ((k : Int) == 0) = false := by rw [beq_eq_false_iff_ne]; omega
  go_enter Tryd.func21, Tryd.ntmps21
  go_wp2
  go_ret
  exact ⟨rfl, rfl⟩
set_option maxHeartbeats 400000 in
theorem wrap_none (so : ByteArray) (w : World) : Calls Tryd.prog 20 #[.string so, .nilIface] w fun e w' => e = .returned .nilIface ∧ w' = w := by
  go_enter Tryd.func20, Tryd.ntmps20
  go_wp2
  go_ret
  exact ⟨rfl, rfl⟩
set_option maxHeartbeats 400000 in
theorem wrap_some (so : ByteArray) (t : TypeId) (x : Value) (w : World) : Calls Tryd.prog 20 #[.string so, .iface t x] w fun e w' => e = .returned (.iface 42 (.pointer (some ⟨w.heap.size, 0, none⟩))) ∧ w' = w.alloc (.cells #[.string so, .string { data := #[] }, .iface t x] 47) := by
  go_enter Tryd.func20, Tryd.ntmps20
  go_wp2
  go_ret
  exact ⟨rfl, rfl⟩

theorem info30 : (Tryd.prog.info? 30).map (fun i => (i.zero, i.size, i.bytes)) = some (some .nilIface, 1, 16) := by kernel_rfl
/-- the slice reads as these errors, in blocks of A -/
structure Errs (A : Nat → Prop) (W : World) (p : Option Addr) (cap : Nat) (os : List (Option Tr)) (us : List Value) : Prop where
  len : us.length = os.length
  le : us.length ≤ cap
  big : cap ≤ 9223372036854775807
  nil : p = none → us = [] ∧ cap = 0
  cells : ∃ b o, (us ≠ [] → p = some ⟨b, o, none⟩ ∧ b < W.heap.size) ∧ ∀ (j : Nat) u, us[j]? = some u → W.cell? ⟨b, o + j, none⟩ = some u
  are : ∀ (j : Nat) o u, os[j]? = some o → us[j]? = some u → IsOA A W o u

theorem take_snocO {α : Type} {xs : List α} {i : Nat} {x : α} (h : xs[i]? = some x) : xs.take (i + 1) = xs.take i ++ [x] := by
  rw [List.take_add_one, h]; rfl
theorem own_ge {W : World} {base : Nat} {e : TypeId} {size n : Nat} {v : Value} {xs : List Value} (h : W.ownsRow base e size v n xs) (k : Nat) (hk : v.ownBlock = some k) : base ≤ k := by
  rcases h.2 with ⟨rfl, _⟩ | ⟨g, cap, cur, rfl, hb, _⟩
  · simp [Value.ownBlock] at hk
  · obtain rfl : g = k := by simpa [Value.ownBlock] using hk
    exact hb
/-- what has been kept -/
def kept (os : List (Option Tr)) : List Tr := os.filterMap id
theorem kept_none {os : List (Option Tr)} {i : Nat} (h : os[i]? = some none) : kept (os.take (i + 1)) = kept (os.take i) := by
  unfold kept; rw [take_snocO h]; simp
theorem kept_some {os : List (Option Tr)} {i : Nat} {t : Tr} (h : os[i]? = some (some t)) : kept (os.take (i + 1)) = kept (os.take i) ++ [t] := by
  unfold kept; rw [take_snocO h]; simp
theorem kept_le (os : List (Option Tr)) (i : Nat) : (kept (os.take i)).length ≤ i := by
  unfold kept
  have := List.length_filterMap_le id (os.take i)
  have h2 : (os.take i).length ≤ i := by rw [List.length_take]; omega
  omega

set_option maxHeartbeats 2000000 in
set_option maxRecDepth 100000 in
theorem all_any (A : Nat → Prop) (p : Option Addr) (cap : Nat) (os : List (Option Tr)) (us : List Value) (w : World) (he : Errs A w p cap os us) (hA : ∀ b, A b → b < w.heap.size) (hl : us.length ≤ 1000) :
    Calls Tryd.prog 23 #[.slice p us.length cap] w fun e w' => ∃ r, e = .returned r ∧ IsOA (fun b => A b ∨ (w.heap.size ≤ b ∧ b < w'.heap.size)) w' (allO os) r ∧ Below w.heap.size w w' := by
  obtain ⟨b, o, hp, hcell⟩ := he.cells
  obtain ⟨i30, hi30, hz0, hz1, hz2⟩ := info_parts info30
  have HP := hid_in (fun h => (hp h).1)
  have HPB := hid_in (fun h => (hp h).2)
  have HC := hid_in hcell
  have HARE := hid_in he.are
  have HLEN := hid_in he.len
  have hbig := he.big
  have hcapl := he.le
  have HAA := hid_in hA
  generalize hn : us.length = n at *
  have Hn := hid_in hn
  clear hn hp hcell he hA
  go_enter Tryd.func23, Tryd.ntmps23
  go_wp2_with fail
  go_loopw [3, 8] (fun v3 vi W => ∃ i : Nat, i ≤ n ∧ vi = .int .i64 (i : Int) ∧ Hid (Below w.heap.size w W) ∧ Hid (∃ ks, W.ownsRow w.heap.size 30 1 v3 ks.length ks ∧ ks.length = (kept (os.take i)).length ∧ (∀ u ∈ ks, u.oneCell' = true) ∧ ∀ (j : Nat) t u, (kept (os.take i))[j]? = some t → ks[j]? = some u → IsA A w t u)) (fun _ vi _ => n - (intOf vi).toNat)
  case atStart => exact ⟨0, by omega, rfl, Below.refl _ _, [], World.ownsRow_nil _ _ _ _, rfl, (fun u hu => by cases hu), fun j t u h => by simp [kept] at h⟩
  case round =>
    obtain ⟨i, hi, rfl, hbw, hks⟩ := hrel
    by_cases hlt : i < n
    · obtain ⟨u, hu⟩ : ∃ u, us[i]? = some u := ⟨_, List.getElem?_eq_getElem (by rw [Hn.out]; exact hlt)⟩
      obtain ⟨x, hx⟩ : ∃ x, os[i]? = some x := ⟨_, List.getElem?_eq_getElem (by rw [← HLEN.out]; exact hlt)⟩
      have hne : us ≠ [] := by rintro rfl; simp at hu
      obtain rfl := HP.out hne
      have cu : wr.cell? ⟨b, o + i, none⟩ = some u := (hbw.out.cell (p := ⟨b, o + i, none⟩) (HPB.out hne)).trans (HC.out i u hu)
      have hE := HARE.out i x u hx hu
      cases x with
      | none =>
        obtain rfl : u = .nilIface := hE
        have HK := hid_in (kept_none hx)
        clear hu hx hne
        go_wp2_with fail
        go_roundw
        case rel =>
          go_light
          refine ⟨i + 1, by omega, by go_num, hbw, ?_⟩
          have h1 := hks.out
          rw [← HK.out] at h1
          exact h1
        case measure => simp [intOf]; omega
      | some T =>
        have hE' : IsA A w T u := hE
        obtain ⟨tt, xx, rfl⟩ := isA_iface hE'
        have HE := hid_in hE'
        have HK := hid_in (kept_some hx)
        have HKL := hid_in (kept_le os i)
        obtain ⟨ks, hown, hkl, hk1, hk2⟩ := hks.out
        have HOWN := hid_in hown
        have HKK := hid_in hkl
        have HK1 := hid_in hk1
        have HK2 := hid_in hk2
        clear hu hx hne hE hE' hown hkl hk1 hk2 hks
        obtain ⟨m, hm⟩ : ∃ m, Hid (m = ks.length) := ⟨_, rfl⟩
        rw [← hm.out] at HOWN
        have hml : m ≤ i := by rw [hm.out, HKK.out]; exact HKL.out
        have hmx : m + 1 ≤ maxLen := by unfold maxLen; omega
        have hws : w.heap.size ≤ wr.heap.size := hbw.out.size
        go_wp2_with (first | (at_builtin; refine wpList_append_own _ rfl _ _ 25 rfl w.heap.size 30 i30 .nilIface 1 16 Tryd.underlying25 hi30 hz0 hz1 hz2 rfl (by decide) u3 m ks rfl (HOWN.out.alloc _) ⟨wr.heap.size, 0, none⟩ 1 1 [.iface tt xx] rfl rfl (cell_one_new _ _ _) (by simp [Value.oneCell']) hmx (by omega) (by simp; omega) ?_; intro v' w1 hown' hgrow _; have HO := hid_in hown'; have HG := hid_in hgrow; clear hown' hgrow))
        have HB1 : Hid (Below w.heap.size w w1) := (hbw.out.alloc hws _).grown HG.out (by simp; omega) (fun k e => own_ge HOWN.out k e)
        refine ⟨⟨i + 1, by omega, by go_num, HB1, ks ++ [.iface tt xx], ?_, ?_, ?_, ?_⟩, by simp [intOf]; omega⟩
        · rw [List.length_append, ← hm.out]; exact HO.out
        · rw [HK.out, List.length_append, List.length_append, HKK.out]; rfl
        · intro u hu
          rcases List.mem_append.1 hu with hu | hu
          · exact HK1.out u hu
          · simp at hu; subst hu; rfl
        · intro j t u h1 h2
          rw [HK.out] at h1
          by_cases hj : j < ks.length
          · rw [List.getElem?_append_left (by rw [← HKK.out]; exact hj)] at h1
            rw [List.getElem?_append_left hj] at h2
            exact HK2.out j t u h1 h2
          · have hj2 : j = ks.length := by
              have := (List.getElem?_eq_some_iff.1 h2).1
              simp at this; omega
            subst hj2
            rw [List.getElem?_append_right (by rw [HKK.out]; exact Nat.le_refl _), HKK.out, Nat.sub_self] at h1
            rw [List.getElem?_append_right (Nat.le_refl _), Nat.sub_self] at h2
            simp at h1 h2
            subst h1 h2
            exact HE.out
    · have hin : i = n := by omega
      subst hin
      obtain ⟨ks, hown, hkl, hk1, hk2⟩ := hks.out
      have hti : os.take i = os := List.take_of_length_le (by rw [← HLEN.out]; exact Nat.le_refl _)
      rw [hti] at hkl hk2
      have hml : ks.length ≤ 1000 := by rw [hkl]; have := kept_le os i; rw [hti] at this; omega
      have hsz := hbw.out.size
      have hkeep : ∀ b, A b → wr.heap[b]? = w.heap[b]? := fun b hb => hbw.out.block b (HAA.out b hb)
      have HAL : Hid (allO os = match kept os with | [] => none | [t] => some t | ts => some (.lst (TrL.of ts))) := rfl
      generalize kept os = kk at hkl hk2 HAL
      clear hks hti
      match kk, ks, hkl with
      | [], [], _ =>
        obtain ⟨pp, cc, rfl⟩ : ∃ pp cc, u3 = .slice pp 0 cc := by
          rcases hown.2 with ⟨rfl, _⟩ | ⟨g, c, cur, rfl, _⟩
          · exact ⟨_, _, rfl⟩
          · exact ⟨_, _, rfl⟩
        clear hown hk2 hk1 hkeep
        go_wp2_with fail
        go_ret
        exact ⟨_, rfl, by rw [HAL.out]; exact rfl, hbw.out⟩
      | [t], [u], _ =>
        rcases hown.2 with ⟨_, h0⟩ | ⟨g, c, cur, rfl, hgb, hgr, hgc, hgm, hgs, hgt⟩
        · simp at h0
        have hc0 : wr.cell? ⟨g, 0, none⟩ = some u := by
          rw [cell_of_row wr g 0 _ _ (0, 0) hgr]
          have h1 : (cur.toList.take ([u].length * 1))[0]? = [u][0]? := by rw [hgt]
          simpa using h1
        have HE := hid_in (hk2 0 t u rfl rfl)
        have HKE := hid_in hkeep
        clear hown hk2 hk1 hkeep hgr hgt hgs
        have hone : [u].length = 1 := rfl
        rw [hone] at hgc
        go_wp2_with fail
        go_ret
        refine ⟨_, rfl, ?_, hbw.out⟩
        rw [HAL.out]
        exact isA_keep (fun b hb => .inl hb) HKE.out t u HE.out
      | t1 :: t2 :: tr, v1 :: v2 :: vr, hkl =>
        rcases hown.2 with ⟨_, h0⟩ | ⟨g, c, cur, rfl, hgb, hgr, hgc, hgm, hgs, hgt⟩
        · simp at h0
        have HCE : Hid (∀ (j : Nat) z, (v1 :: v2 :: vr)[j]? = some z → wr.cell? ⟨g, j, none⟩ = some z) := by
          intro j z hz
          rw [cell_of_row wr g j _ _ (0, 0) hgr]
          have hj := (List.getElem?_eq_some_iff.1 hz).1
          have h1 : (cur.toList.take ((v1 :: v2 :: vr).length * 1))[j]? = (v1 :: v2 :: vr)[j]? := by rw [hgt]
          rw [Nat.mul_one, List.getElem?_take, if_pos hj, Array.getElem?_toList] at h1
          rw [h1, hz]
        have hgl : g < wr.heap.size := (Array.getElem?_eq_some_iff.1 hgr).1
        have HK2 := hid_in hk2
        have HKE := hid_in hkeep
        have HKL := hid_in hkl
        have hc9 : c ≤ 9223372036854775807 := by unfold maxLen at hgm; omega
        have Hgc := hid_in hgc
        clear hown hk2 hk1 hkeep hgr hgt hgs hkl hgm hgc
        obtain ⟨m, hm⟩ : ∃ m, Hid (m = (v1 :: v2 :: vr).length) := ⟨_, rfl⟩
        rw [← hm.out] at hml ⊢
        have hm2 : 2 ≤ m := by rw [hm.out]; simp
        have hq0 : ((m : Int) == 0) = false := by rw [beq_eq_false_iff_ne]; omega
        have hq1 : ((m : Int) == 1) = false := by rw [beq_eq_false_iff_ne]; omega
        go_wp2_with fail
        go_ret
        have hbel : Below w.heap.size w (wr.alloc (.cells #[.slice (some ⟨g, 0, none⟩) m c] 65)) := hbw.out.alloc hsz _
        refine ⟨_, rfl, ?_, hbel⟩
        rw [HAL.out]
        show IsA _ _ (.lst (TrL.of (t1 :: t2 :: tr))) _
        unfold IsA
        refine ⟨wr.heap.size, g, c, v1 :: v2 :: vr, rfl, .inr ⟨hsz, by simp⟩, by rw [← hm.out]; exact World.alloc_heap_new wr _, .inr ⟨hgb, by simp; omega⟩, by simp, Hgc.out, hc9, fun j z hz => ?_, ?_⟩
        · rw [Below.cell (Below.alloc (Below.refl wr.heap.size wr) (Nat.le_refl _) _) (p := ⟨g, j, none⟩) hgl]
          exact HCE.out j z hz
        · refine isAs_of (by rw [HKL.out]) (fun j t u h1 h2 => isA_keep (fun b hb => .inl hb) (fun b hb => ?_) t u (HK2.out j t u h1 h2))
          exact (Below.heap_alloc wr _ b (Nat.lt_of_lt_of_le (HAA.out b hb) hsz)).trans (HKE.out b hb)
end Go.Proofs.YtaaojfgakgjlkaaDoor
