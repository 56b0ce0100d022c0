/-
  Renamed there and back, all is as it was. . The words of the kinds: the walks of Word, the program's and the reference's, Reads and Kind.
-/
import Derived.Lib.SlBytesConst
import Derived.Lib.AppendZeros
import Derived.Deep.DrawnRows
import Derived.Laws.Tables
import Derived.Laws.CopyOwn
import Derived.Deep.RegionLaw
import Derived.Test.YtngehkmdanhgpaaGreatS00
import Derived.Test.YtngehkmdanhgpaaGreatS01
import Derived.Test.YtngehkmdanhgpaaGreatS02
import Derived.Test.YtngehkmdanhgpaaGreatS03
import Derived.Test.YtngehkmdanhgpaaGreatS04
import Derived.Test.YtngehkmdanhgpaaGreatS05
import Derived.Test.YtngehkmdanhgpaaGreatS06
import Derived.Test.YtngehkmdanhgpaaGreatS07
import Derived.Test.YtngehkmdanhgpaaGreatS08
import Derived.Test.YtngehkmdanhgpaaGreatS09
import Derived.Test.YtngehkmdanhgpaaGreatS10
import Derived.Test.YtngehkmdanhgpaaGreatS11
import Derived.Test.YtngehkmdanhgpaaGreatS12
import Derived.Test.YtngehkmdanhgpaaGreatS13
import Derived.Test.YtngehkmdanhgpaaGreatS14
import Derived.Test.YtngehkmdanhgpaaGreatS15
import Derived.Test.YtngehkmdanhgpaaGreatS16
import Derived.Test.YtngehkmdanhgpaaGreatS17
import Derived.Test.YtngehkmdanhgpaaGreatS18
import Derived.Test.YtngehkmdanhgpaaGreatS19
import Derived.Test.YtngehkmdanhgpaaGreatS20
import Derived.Test.YtngehkmdanhgpaaGreatS21
import Derived.Test.YtngehkmdanhgpaaGreatS22
import Derived.Test.YtngehkmdanhgpaaGreatS23
import Derived.Test.YtngehkmdanhgpaaGreatS24
import Derived.Test.YtngehkmdanhgpaaGreatS25
import Derived.Test.YtngehkmdanhgpaaGreatS26
import Derived.Test.YtngehkmdanhgpaaGreatS27
import Derived.Test.YtngehkmdanhgpaaGreatS28
import Derived.Test.YtngehkmdanhgpaaGreatS29
import Derived.Test.YtngehkmdanhgpaaGreatS30
import Derived.Test.YtngehkmdanhgpaaGreatS31
import Derived.Test.YtngehkmdanhgpaaGreatS32
namespace Go.Proofs.YtngehkmdanhgpaaGreat.Pl
open Vp (Str B bl Val cmpL parseS showS splitS withinS IsPath)
theorem mem_putA : ∀ (A : List Ent) (e t : Ent), t ∈ putA A e → t = e ∨ t ∈ A
  | [], e, t, h => by simpa [putA] using h
  | a :: r, e, t, h => by
    simp only [putA] at h
    split at h
    · rcases List.mem_cons.1 h with h | h
      · exact .inl h
      · exact .inr (List.mem_cons_of_mem _ h)
    · rcases List.mem_cons.1 h with h | h
      · exact .inr (by simp [h])
      · rcases mem_putA r e t h with h | h
        · exact .inl h
        · exact .inr (List.mem_cons_of_mem _ h)
theorem nodup_putA : ∀ (A : List Ent) (e : Ent), (A.map (·.names)).Nodup → ((putA A e).map (·.names)).Nodup
  | [], e, _ => by simp [putA]
  | a :: r, e, h => by
    simp only [List.map_cons, List.nodup_cons] at h
    simp only [putA]
    split
    · rename_i he
      simp only [List.map_cons, List.nodup_cons]
      exact ⟨he ▸ h.1, h.2⟩
    · rename_i he
      simp only [List.map_cons, List.nodup_cons]
      refine ⟨fun hm => ?_, nodup_putA r e h.2⟩
      obtain ⟨t, ht, hn⟩ := List.mem_map.1 hm
      rcases mem_putA r e t ht with rfl | ht
      · exact he hn.symm
      · exact h.1 (List.mem_map.2 ⟨t, ht, hn⟩)
theorem nodup_moves {p q : List Str} : ∀ (es A : List Ent), (A.map (·.names)).Nodup → ((movesA p q es A).map (·.names)).Nodup
  | [], _, h => h
  | e :: es, A, h => nodup_moves es (stepA p q A e) (nodup_putA _ _ (h.sublist (List.filter_sublist.map _)))
theorem rn_ok {A : List Ent} {p q : List Str} (h : rnE A p q = 0) : p ≠ [] ∧ q ≠ [] ∧ (∃ x, entAt A p = some x) ∧ (∃ d, entAt A q.dropLast = some d ∧ d.dir = true) ∧ (p ≠ q → withinS q p = false) := by
  unfold rnE at h
  split at h
  · rename_i hn
    exact absurd h hn
  · rename_i hn
    have he : endsE A p q = 0 := Classical.byContradiction hn
    unfold endsE at he
    split at he
    · cases he
    · rename_i h0
      split at he
      · rename_i h1
        exact absurd he h1
      · rename_i h1
        have h1 : (findA A p).2 = 0 := Classical.byContradiction h1
        refine ⟨fun e => h0 (.inl e), fun e => h0 (.inr e), ⟨_, findA_at h1⟩, findDA_at he, fun hpq => ?_⟩
        rw [if_neg hpq] at h
        unfold mvE at h
        split at h
        · cases h
        · rename_i hw
          simpa using hw
theorem tree_moved {A A' : List Ent} {p q : List Str} (hT : Tree A) (hpq : Apart p q) (hp0 : p ≠ []) (hq0 : q ≠ [])
    (hd : ∃ d, entAt A q.dropLast = some d ∧ d.dir = true)
    (h1 : ∀ s, entAt A' (q ++ s) = (entAt A (p ++ s)).map (renE (q ++ s))) (h2 : ∀ s, entAt A' (p ++ s) = none)
    (h3 : ∀ n, withinS n p = false → withinS n q = false → entAt A' n = entAt A n) : Tree A' := by
  have up : ∀ (n p : List Str), withinS n.dropLast p = true → withinS n p = true := fun n p h => by
    obtain ⟨s, hs⟩ := within_iff.1 h
    by_cases hn : n = []
    · rw [hn] at h ⊢
      exact h
    · exact within_iff.2 ⟨s ++ [n.getLast hn], by rw [← List.append_assoc, ← hs, List.dropLast_concat_getLast]⟩
  have self : ∀ n : List Str, n ≠ [] → withinS n.dropLast n = false := fun n hn => by
    cases h : withinS n.dropLast n with
    | false => rfl
    | true =>
      obtain ⟨s, hs⟩ := within_iff.1 h
      have := congrArg List.length hs
      have h0 := List.length_pos_iff.2 hn
      simp only [List.length_dropLast, List.length_append] at this
      omega
  have nf : ∀ {n p : List Str}, withinS n p = false → withinS n.dropLast p = false := fun {n p} h => by
    cases hc : withinS n.dropLast p with
    | false => rfl
    | true =>
      rw [up n p hc] at h
      cases h
  have nilF : ∀ p : List Str, p ≠ [] → withinS [] p = false := fun p hp => by
    cases h : withinS [] p with
    | false => rfl
    | true =>
      obtain ⟨s, hs⟩ := within_iff.1 h
      exact absurd (List.append_eq_nil_iff.1 hs.symm).1 hp
  refine ⟨?_, fun n e he hn => ?_⟩
  · rw [h3 [] (nilF p hp0) (nilF q hq0)]
    exact hT.root
  · by_cases hq : withinS n q = true
    · obtain ⟨s, rfl⟩ := within_iff.1 hq
      by_cases hs : s = []
      · rw [hs, List.append_nil]
        rw [h3 q.dropLast (nf hpq.2) (self q hq0)]
        exact hd
      · rw [List.dropLast_append_of_ne_nil hs, h1]
        rw [h1] at he
        obtain ⟨t, ht, _⟩ := Option.map_eq_some_iff.1 he
        obtain ⟨d, hd1, hd2⟩ := hT.up _ t ht (by simp [hs])
        rw [List.dropLast_append_of_ne_nil hs] at hd1
        rw [hd1]
        exact ⟨_, rfl, hd2⟩
    · have hq := Bool.eq_false_iff.2 hq
      by_cases hp : withinS n p = true
      · obtain ⟨s, rfl⟩ := within_iff.1 hp
        rw [h2] at he
        cases he
      · have hp := Bool.eq_false_iff.2 hp
        rw [h3 n hp hq] at he
        rw [h3 _ (nf hp) (nf hq)]
        exact hT.up n e he hn
theorem back_ok {A A' : List Ent} {p q : List Str} (hT : Tree A) (hA : (A.map (·.names)).Nodup) (hl : ∀ e ∈ A, e.names.length ≤ 8) (hr : rnE A p q = 0) (hq : entAt A q = none) (hm : Moved A p q A') :
    entAt A' p = none ∧ Tree A' ∧ rnE A' q p = 0 ∧ A'.length = A.length ∧ ∀ A'', (A''.map (·.names)).Nodup → Moved A' q p A'' → A''.Perm A := by
  obtain ⟨hp0, hq0, ⟨x, hx⟩, hd, hw⟩ := rn_ok hr
  have hne : p ≠ q := fun e => by
    rw [← e, hx] at hq
    cases hq
  have hw := hw hne
  have hqs : ∀ s, entAt A (q ++ s) = none := fun s => hT.none hq _ s rfl
  have hwp : withinS p q = false := by
    cases h : withinS p q with
    | false => rfl
    | true =>
      obtain ⟨s, hs⟩ := within_iff.1 h
      rw [hs, hqs s] at hx
      cases hx
  have hpq : Apart p q := ⟨hwp, hw⟩
  obtain ⟨x', es, hx', hp, e⟩ := hm.2 ⟨hr, hne⟩
  obtain ⟨h1, h2, h3⟩ := at_moved hA hx' hp hpq hqs
  rw [← e] at h1 h2 h3
  have hA' : (A'.map (·.names)).Nodup := by
    rw [e]
    exact nodup_moves _ _ hA
  have hT' := tree_moved hT hpq hp0 hq0 hd h1 h2 h3
  have hnone : entAt A' p = none := by
    have := h2 []
    rwa [List.append_nil] at this
  have hqx : entAt A' q = some (renE q x) := by
    have := h1 []
    rw [List.append_nil, List.append_nil, hx] at this
    exact this
  obtain ⟨d, hd1, hd2⟩ := hT.up p x hx hp0
  have hpd : entAt A' p.dropLast = some d := by
    rw [h3 _ ?_ ?_]
    · exact hd1
    · cases h : withinS p.dropLast p with
      | false => rfl
      | true =>
        obtain ⟨s, hs⟩ := within_iff.1 h
        have := congrArg List.length hs
        have h0 := List.length_pos_iff.2 hp0
        simp only [List.length_dropLast, List.length_append] at this
        omega
    · cases h : withinS p.dropLast q with
      | false => rfl
      | true =>
        obtain ⟨s, hs⟩ := within_iff.1 h
        rw [hs, hqs s] at hd1
        cases hd1
  have hr' : rnE A' q p = 0 := by
    have he : endsE A' q p = 0 := by
      unfold endsE
      rw [if_neg (by simp [hp0, hq0]), hT'.find hqx, if_neg (by simp)]
      exact hT'.findD hpd hd2
    unfold rnE
    rw [he, if_neg (by simp), if_neg (fun e => hne e.symm)]
    unfold mvE
    have hcv : cvE A' q p = 0 := by
      unfold cvE
      rw [hnone]
    rw [hwp, hcv, if_neg (by simp), if_neg (by simp), if_neg]
    intro hany
    obtain ⟨t, ht, hdeep⟩ := List.any_eq_true.1 hany
    obtain ⟨htm, htb⟩ := List.mem_filter.1 ht
    obtain ⟨s, _, hs⟩ := below_iff.1 htb
    have hat := at_mem hA' htm
    rw [hs, h1] at hat
    obtain ⟨u, hu, _⟩ := Option.map_eq_some_iff.1 hat
    obtain ⟨hun, hum⟩ := at_names hu
    have h8 := hl u hum
    have := of_decide_eq_true hdeep
    rw [hun, List.length_append] at h8
    rw [hs, List.length_append] at this
    omega
  have hperm : ∀ A'', (A''.map (·.names)).Nodup → Moved A' q p A'' → A''.Perm A := fun A'' hA'' hm' => by
    obtain ⟨y, fs, hy, hpf, e'⟩ := hm'.2 ⟨hr', fun e => hne e.symm⟩
    obtain ⟨k1, k2, k3⟩ := at_moved hA' hy hpf ⟨hw, hwp⟩ h2
    rw [← e'] at k1 k2 k3
    refine perm_at hA'' hA fun n => ?_
    by_cases hnp : withinS n p = true
    · obtain ⟨s, rfl⟩ := within_iff.1 hnp
      rw [k1, h1]
      cases hc : entAt A (p ++ s) with
      | none => rfl
      | some t =>
        have := (at_names hc).1
        simp only [Option.map_some, renE]
        rw [← this]
    · have hnp := Bool.eq_false_iff.2 hnp
      by_cases hnq : withinS n q = true
      · obtain ⟨s, rfl⟩ := within_iff.1 hnq
        rw [k2, hqs]
      · have hnq := Bool.eq_false_iff.2 hnq
        rw [k3 n hnq hnp, h3 n hnp hnq]
  refine ⟨hnone, hT', hr', ?_, hperm⟩
  have hex : Moved A' q p (movesA q p (A'.filter (belowE q) ++ [renE q x]) A') :=
    ⟨fun h => h.elim (fun k => absurd hr' k) (fun k => absurd k.symm hne), fun _ => ⟨renE q x, _, hqx, List.Perm.refl _, rfl⟩⟩
  have l1 := len_moved hA hm
  have l2 := len_moved hA' hex
  have l3 := (hperm _ (nodup_moves _ _ hA') hex).length_eq
  omega
end Go.Proofs.YtngehkmdanhgpaaGreat.Pl
namespace Go.Proofs.YtngehkmdanhgpaaGreat.Nd
open Go.RowKit
def zs : List Value := [.int .i64 0, .string ⟨#[]⟩, .int .i64 0, .slice none 0 0, .slice none 0 0]
end Go.Proofs.YtngehkmdanhgpaaGreat.Nd
namespace Go.Proofs.YtngehkmdanhgpaaGreat.Nd
open Go.RowKit
/-- the word of a kind -/
def wordOf (k : Int) : ByteArray :=
  if k = 1 then ⟨#[109, 107, 100, 105, 114]⟩ else if k = 2 then ⟨#[99, 114, 101, 97, 116, 101]⟩ else if k = 3 then ⟨#[119, 114, 105, 116, 101]⟩ else
  if k = 4 then ⟨#[116, 114, 117, 110, 99, 97, 116, 101]⟩ else if k = 5 then ⟨#[117, 110, 108, 105, 110, 107]⟩ else if k = 6 then ⟨#[114, 109, 100, 105, 114]⟩ else
  if k = 7 then ⟨#[114, 101, 110, 97, 109, 101]⟩ else if k = 8 then ⟨#[114, 101, 97, 100]⟩ else if k = 9 then ⟨#[108, 105, 115, 116]⟩ else
  if k = 10 then ⟨#[115, 116, 97, 116]⟩ else if k = 11 then ⟨#[102, 111, 114, 103, 101, 116]⟩ else ⟨#[]⟩
theorem kinds_split (k : Int) : k = 1 ∨ k = 2 ∨ k = 3 ∨ k = 4 ∨ k = 5 ∨ k = 6 ∨ k = 7 ∨ k = 8 ∨ k = 9 ∨ k = 10 ∨ k = 11 ∨ (k ≠ 1 ∧ k ≠ 2 ∧ k ≠ 3 ∧ k ≠ 4 ∧ k ≠ 5 ∧ k ≠ 6 ∧ k ≠ 7 ∧ k ≠ 8 ∧ k ≠ 9 ∧ k ≠ 10 ∧ k ≠ 11) := by omega
set_option maxHeartbeats 1000000 in
set_option maxRecDepth 100000 in
theorem word_any (k : Int) (w : World) : Calls Tryz.prog 59 #[.int .i64 k] w fun e w' => e = .returned (.string (wordOf k)) ∧ w' = w := by
  rcases kinds_split k with rfl | rfl | rfl | rfl | rfl | rfl | rfl | rfl | rfl | rfl | rfl | ⟨h1, h2, h3, h4, h5, h6, h7, h8, h9, h10, h11⟩
  case inr.inr.inr.inr.inr.inr.inr.inr.inr.inr.inr =>
    have HV : Hid (wordOf k = ⟨#[]⟩) := by show _ = _; simp [wordOf, h1, h2, h3, h4, h5, h6, h7, h8, h9, h10, h11]
    go_enter Tryz.func59, Tryz.ntmps59
    go_wp2
    go_ret
    rw [HV.out]
    exact ⟨rfl, rfl⟩
  all_goals
    go_enter Tryz.func59, Tryz.ntmps59
    go_wp2
    go_ret
    exact ⟨rfl, rfl⟩
theorem toL_inj {a b : ByteArray} (h : a.toList = b.toList) : a = b := by
  rw [Lib.toList_data, Lib.toList_data] at h
  exact ByteArray.ext (Array.toList_inj.1 h)
end Go.Proofs.YtngehkmdanhgpaaGreat.Nd
