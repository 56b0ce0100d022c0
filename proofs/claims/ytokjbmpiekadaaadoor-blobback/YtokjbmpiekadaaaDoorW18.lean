/-
  The walk of the reference's Sum.
-/
import Derived.Test.YtokjbmpiekadaaaDoorR1
import Derived.Test.YtokjbmpiekadaaaDoorR2
import Derived.Test.YtokjbmpiekadaaaDoorR3
import Derived.Test.YtokjbmpiekadaaaDoorR9
namespace Go.Proofs.YtokjbmpiekadaaaDoor
open Go.RowKit
attribute [local go_sem] noPanic_exit noPanic_normal

set_option maxHeartbeats 1000000 in
set_option maxRecDepth 1000000 in
theorem rsum_any (bs : List Nat) (hbs : ∀ x ∈ bs, x < 256) (p : Option Addr) (b off cap : Nat) (w : World) (hcap2 : bs.length ≤ 140737488351232)
    (hpn : p = none → bs.length = 0 ∧ cap = 0) (hp : 0 < bs.length → p = some ⟨b, off, none⟩) (hsrc : ∀ j, j < bs.length → w.cell? ⟨b, off + j, none⟩ = some (u8v (bs.getD j 0))) :
    Calls Tryd.prog 14 #[.slice p bs.length cap] w fun e w' => e = .returned (.agg ((Sha.sum bs).map u8v).toArray) ∧ Below w.heap.size w w' := by
  obtain ⟨i5i, hi5, he5⟩ := Option.map_eq_some_iff.1 i5
  simp only [Prod.mk.injEq] at he5
  obtain ⟨e1, e2, e3⟩ := he5
  have HI5 : Hid (Tryd.prog.info? 5 = some i5i) := hi5
  have HE1 : Hid (i5i.size = 1) := e1
  have HE2 : Hid (i5i.bytes = 1) := e2
  have HE3 : Hid (i5i.zero = some (.int .u8 0)) := e3
  clear hi5 e1 e2 e3
  have hpos : True := trivial
  obtain ⟨B, hB⟩ : ∃ B, B = w.heap.size + 1 := ⟨_, rfl⟩
  have HB : Hid (B = w.heap.size + 1) := hB
  have hown0 : ((w.alloc (.cells ((List.replicate 32 0).map u8v).toArray 39)).alloc (.cells #[] 5)).ownsRow B 5 1 (.slice (some ⟨w.heap.size + 1, 0, none⟩) 0 0) 0 [] := by
    have h := World.ownsRow_made (base := B) (e := 5) (size := 1) (w.alloc (.cells ((List.replicate 32 0).map u8v).toArray 39)) #[] 0 (by rw [hB]; simp) (by simp) rfl
    rwa [World.size_alloc] at h
  have hb0 : Below B (w.alloc (.cells ((List.replicate 32 0).map u8v).toArray 39)) ((w.alloc (.cells ((List.replicate 32 0).map u8v).toArray 39)).alloc (.cells #[] 5)) := (Below.refl _ _).alloc (by rw [hB]; simp) _
  clear hB
  have hsrc0 : ∀ ad, p = some ad → ∀ j u, (bs.map u8v)[j]? = some u → ((w.alloc (.cells ((List.replicate 32 0).map u8v).toArray 39)).alloc (.cells #[] 5)).cell? (ad.add j) = some u := by
    intro ad hpa j u hu
    have hj : j < bs.length := by simpa using (List.getElem?_eq_some_iff.1 hu).1
    obtain rfl : ad = ⟨b, off, none⟩ := by have := hp (by omega); rw [hpa] at this; exact Option.some.inj this
    have hc := hsrc j hj
    have hlt := World.block_lt_of_cell? w _ hc
    rw [Addr.add_mid, (((Below.refl w.heap.size w).alloc (Nat.le_refl _) _).alloc (by simp) _).cell hlt, hc]
    simp [hj] at hu
    rw [← hu]
    simp [hj]
  have hBs : B ≤ ((w.alloc (.cells ((List.replicate 32 0).map u8v).toArray 39)).alloc (.cells #[] 5)).heap.size := by rw [HB.out]; simp only [World.size_alloc]; omega
  have hfit0 : 0 + bs.length ≤ 140737488355328 := by omega
  have hfit1 : bs.length + 1 ≤ 140737488355328 := by omega
  have hl0 : (bs.map u8v).length = bs.length := by simp
  obtain ⟨z, hz⟩ : ∃ z, Hid (z = (119 - bs.length % 64) % 64) := ⟨_, rfl⟩
  clear hp hsrc
  go_enter Tryd.func14, Tryd.ntmps14
  go_wp2_with (first | (at_builtin; refine wpList_append_any rfl _ _ 30 rfl B 5 i5i (.int .u8 0) Tryd.underlying30 HI5.out HE3.out HE1.out HE2.out rfl _ 0 [] rfl hown0 p bs.length cap (bs.map u8v) rfl hl0 hpn hsrc0 (one_u8 bs) hfit0 hBs ?_; intro v1 w1 hown1 hg1; have hb1 := own_step hb0 hg1 hBs rfl hown0; have hs1 : B ≤ w1.heap.size := Nat.le_trans hBs hg1.size; rw [Nat.zero_add, List.nil_append] at hown1) | (at_builtin; refine wpList_append_one rfl _ _ 30 rfl B 5 i5i (.int .u8 0) Tryd.underlying30 HI5.out HE3.out HE1.out HE2.out rfl _ _ _ rfl hown1 5 _ rfl rfl hfit1 hs1 ?_; intro v2 w2 hown2 hb2 hs2))
  have hown2' : w2.ownsRow B 5 1 v2 (bs.length + 1) ((bs ++ (Sha.ending bs.length).take 1).map u8v) := by simpa [Sha.ending, u8v] using hown2
  have hb2' := hb2 _ hb1
  clear hown0 hb0 hsrc0 hBs hown1 hg1 hb1 hs1 hown2 hb2 hpn hl0 hfit0 hfit1
  refine rloop1 bs z hz B v2 (w.alloc (.cells ((List.replicate 32 0).map u8v).toArray 39)) w2 _ _ _ _ _ _ _ _ _ _ _ _ _ _ _ _ _ _ _ _ _ _ _ _ _ _ _ _ _ _ _ _ _ _ _ _ _ _ _ _ _ _ _ _ _ _ _ _ _ _ _ _ _ _ _ _ _ _ _ _ _ _ _ _ _ _ _ _ _ _ _ _ _ _ _ _ _ _ _ _ _ _ _ _ _ _ _ _ _ _ _ _ _ _ _ _ _ _ _ _ _ _ _ _ _ _ _ _ _ _ _ _ _ _ _ _ _ _ _ _ _ _ _ _ _ _ _ _ _ _ _ _ _ _ _ _ _ _ _ _ _ _ _ _ _ _ _ _ _ _ _ _ _ _ _ _ _ _ _ _ _ _ _ _ _ _ _ _ _ _ _ _ _ _ _ _ _ _ _ _ _ _ _ _ _ _ _ _ _ _ _ _ _ _ _ _ _ _ _ _ _ _ _ _ _ _ _ _ _ _ _ _ _ _ _ _ _ _ _ _ _ _ _ _ _ _ _ _ _ _ _ _ _ _ _ _ _ _ _ hcap2 hown2' hb2' hs2 ?_
  clear hown2' hb2' hs2
  intro v3 _ _ _ _ _ _ _ w3 ⟨hown3, hb3, hs3⟩
  have HOWN3 : Hid (w3.ownsRow B 5 1 v3 (bs.length + (1 + z)) ((bs ++ (Sha.ending bs.length).take (1 + z)).map u8v)) := hown3
  clear hown3
  go_wp2
  refine rloop2 bs z hz B v3 (w.alloc (.cells ((List.replicate 32 0).map u8v).toArray 39)) w3 _ _ _ _ _ _ _ _ _ _ _ _ _ _ _ _ _ _ _ _ _ _ _ _ _ _ _ _ _ _ _ _ _ _ _ _ _ _ _ _ _ _ _ _ _ _ _ _ _ _ _ _ _ _ _ _ _ _ _ _ _ _ _ _ _ _ _ _ _ _ _ _ _ _ _ _ _ _ _ _ _ _ _ _ _ _ _ _ _ _ _ _ _ _ _ _ _ _ _ _ _ _ _ _ _ _ _ _ _ _ _ _ _ _ _ _ _ _ _ _ _ _ _ _ _ _ _ _ _ _ _ _ _ _ _ _ _ _ _ _ _ _ _ _ _ _ _ _ _ _ _ _ _ _ _ _ _ _ _ _ _ _ _ _ _ _ _ _ _ _ _ _ _ _ _ _ _ _ _ _ _ _ _ _ _ _ _ _ _ _ _ _ _ _ _ _ _ _ _ _ _ _ _ _ _ _ _ _ _ _ _ _ _ _ _ _ _ _ _ _ _ _ _ _ _ _ _ _ _ _ _ _ _ _ _ _ _ hcap2 HOWN3.out hb3 hs3 ?_
  clear HOWN3 hb3 hs3
  intro v3 _ _ _ _ _ _ _ _ _ _ _ _ _ _ _ w4 ⟨hown4, hb4, hs4⟩
  obtain ⟨M, HM⟩ : ∃ M, Hid (M = bs ++ Sha.ending bs.length) := ⟨_, rfl⟩
  have hML : M.length = bs.length + (1 + z + 8) := by rw [HM.out, List.length_append, ending_length, ← hz.out]; omega
  rw [← HM.out, ← hML] at hown4
  obtain ⟨g, cap4, rfl, hgB, hglt⟩ := hown4.form (by omega)
  have hsrc4 : ∀ j, j < M.length → w4.cell? ⟨g, 0 + j, none⟩ = some (u8v (M.getD j 0)) := by
    intro j hj
    rw [Nat.zero_add, hown4.cellAt j (by omega)]
    simp [hj]
  have hM : ∀ x ∈ M, x < 256 := by
    intro x hx
    rw [HM.out] at hx
    rcases List.mem_append.1 hx with h | h
    · exact hbs x h
    · exact ending_bytes _ x h
  obtain ⟨nb, hnb, HNB⟩ : ∃ nb, M.length = 64 * nb ∧ Hid (nb = M.length / 64) := ⟨M.length / 64, by have := hz.out; omega, rfl⟩
  obtain ⟨n, hn⟩ : ∃ n, Hid (n = 64) := ⟨64, rfl⟩
  have hM2 : M.length ≤ 281474976710656 := by have := hz.out; omega
  have hr04 : Row w4 w.heap.size ((List.replicate 32 0).map u8v) 39 := (Row.newAt w _ ((List.replicate 32 0).map u8v) 39 rfl).below hb4 (by rw [HB.out]; omega)
  have hbw4 : Below w.heap.size w w4 := ((Below.refl _ _).alloc (Nat.le_refl _) _).trans (hb4.mono (by rw [HB.out]; omega))
  have HS : Hid (Sha.digestOf (Sha.run M nb) = Sha.sum bs) := by show _ = _; rw [HNB.out, HM.out]; rfl
  have hs04 := hr04.lt
  clear hown4 hb4 hs4 hML HM HNB hbs hcap2 HI5 HE1 HE2 HE3 HB
  go_wp2
  refine rloop3 M hM nb hnb n hn g 0 cap4 w4.heap.size (w4.heap.size + 1) w4.heap.size _ _ _ _ _ _ _ _ _ _ _ _ _ _ _ _ _ _ _ _ _ _ _ _ _ _ _ _ _ _ _ _ _ _ _ _ _ _ _ _ _ _ _ _ _ _ _ _ _ _ _ _ _ _ _ _ _ _ _ _ _ _ _ _ _ _ _ _ _ _ _ _ _ _ _ _ _ _ _ _ _ _ _ _ _ _ _ _ _ _ _ _ _ _ _ _ _ _ _ _ _ _ _ _ _ _ _ _ _ _ _ _ _ _ _ _ _ _ _ _ _ _ _ _ _ _ _ _ _ _ _ _ _ _ _ _ _ _ _ _ _ _ _ _ _ _ _ _ _ _ _ _ _ _ _ _ _ _ _ _ _ _ _ _ _ _ _ _ _ _ _ _ _ _ _ _ _ _ _ _ _ _ _ _ _ _ _ _ _ _ _ _ _ _ _ _ _ _ _ _ _ _ _ _ _ _ _ _ _ _ _ _ _ _ _ _ _ _ _ _ _ _ _ _ _ _ _ _ _ _ _ _ _ _ _ _ _ hglt (Nat.le_refl _) (by omega) (by omega) hM2 ((Row.newAt w4 _ _ 68 rfl).alloc _) (Row.newAt (w4.alloc _) _ ((List.replicate 64 0).map u32v) 69 (by simp)) ?_ ?_
  · intro j hj
    rw [(((Below.refl w4.heap.size w4).alloc (Nat.le_refl _) _).alloc (by simp) _).cell hglt]
    exact hsrc4 j hj
  intro _ _ _ _ _ _ _ _ _ _ _ _ _ _ _ _ _ _ _ _ _ _ _ _ _ _ _ _ _ _ _ _ _ _ _ _ _ _ _ _ _ _ _ _ _ _ _ _ _ _ _ _ _ _ _ _ _ _ _ _ _ _ _ _ _ _ _ _ _ _ _ _ _ _ _ _ _ _ _ _ _ _ _ _ _ _ _ _ _ _ _ _ _ _ _ _ _ _ _ _ _ _ _ _ _ _ _ _ _ _ _ _ _ _ _ _ _ _ _ _ _ _ _ _ _ _ _ _ _ _ _ _ _ _ _ _ _ _ _ _ _ _ _ _ _ _ _ _ _ _ _ _ _ _ _ _ _ _ _ _ _ _ _ _ _ _ _ _ _ _ _ _ _ _ _ _ _ _ _ w5 ⟨hr5, hb5⟩
  have hr05 : Row w5 w.heap.size ((List.replicate 32 0).map u8v) 39 := ((hr04.alloc _).alloc _).below hb5 hs04
  have hbw5 : Below w.heap.size w w5 := ((hbw4.alloc hbw4.size _).alloc (by simp; have := hbw4.size; omega) _).trans (hb5.mono hbw4.size)
  have hok := run_ok M nb
  have hs5 := hr5.lt
  clear hsrc4 hM hnb hb5 hr04 hbw4
  generalize Sha.run M nb = s at hr5 hok HS
  go_wp2
  refine rloop9 s w4.heap.size w5.heap.size _ _ _ _ _ _ _ _ _ _ _ _ _ _ _ _ _ _ _ _ _ _ _ _ _ _ _ _ _ _ _ _ _ _ _ _ _ _ _ _ _ _ _ _ _ _ _ _ _ _ _ _ _ _ _ _ _ _ _ _ _ _ _ _ _ _ _ _ _ _ _ _ _ _ _ _ _ _ _ _ _ _ _ _ _ _ _ _ _ _ _ _ _ _ _ _ _ _ _ _ _ _ _ _ _ _ _ _ _ _ _ _ _ _ _ _ _ _ _ _ _ _ _ _ _ _ _ _ _ _ _ _ _ _ _ _ _ _ _ _ _ _ _ _ _ _ _ _ _ _ _ _ _ _ _ _ _ _ _ _ _ _ _ _ _ _ _ _ _ _ _ _ _ _ _ _ _ _ _ _ _ _ _ _ _ _ _ _ _ _ _ _ _ _ _ _ _ _ _ _ _ _ _ _ _ _ _ _ _ _ _ _ _ _ _ _ _ _ _ _ _ _ _ _ _ _ _ _ _ _ _ _ _ _ _ _ _ _ hok (by omega) (hr5.alloc _) (Row.newAt w5 _ ((List.replicate 32 0).map u8v) 39 rfl) ?_
  intro _ _ _ _ _ _ _ _ _ _ _ _ _ _ _ _ _ _ w6 ⟨hr6, hg6, hs6⟩
  have hr06 := (hr05.alloc _).grown hg6 (by simp; omega)
  have hbw6 : Below w.heap.size w w6 := below_of_grown (hbw5.alloc hbw5.size _) hg6 (by simp; omega) (by omega)
  have hdl := digestOf_length s
  generalize Sha.digestOf s = D at hr6 HS hdl
  clear hr5 hr05 hbw5 hg6 hok
  go_wp2_with (first | (refine wpList_load_Row rfl 39 _ rfl w5.heap.size rfl 39 _ hr6 _ Tryd.underlying39 rfl 32 info39 (by simpa using hdl) ?_) | (refine wpList_store_Row rfl 39 _ _ rfl w.heap.size 0 (D.map u8v) rfl rfl 39 _ hr06 32 info39 (by simpa using hdl) (by simp) (one_u8 D) ?_; intro w7 hr7 hg7 hs7))
  refine post_Row 2 39 Tryd.results14 w.heap.size rfl 39 _ hr7 _ Tryd.underlying39 rfl 32 info39 (by rw [splice_all _ _ (by simpa using hdl)]; simpa using hdl) rfl ⟨?_, below_of_grown hbw6 hg7 hbw6.size (Nat.le_refl _)⟩
  rw [splice_all _ _ (by simpa using hdl), HS.out]
end Go.Proofs.YtokjbmpiekadaaaDoor
