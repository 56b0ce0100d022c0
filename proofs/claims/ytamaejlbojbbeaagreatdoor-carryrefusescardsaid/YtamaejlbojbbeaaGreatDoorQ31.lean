/-
  The reference's Sum: the loop over the blocks. The reference's Sum: the loop that writes the digest. The walk of the reference's Sum.
-/
import Derived.Test.YtamaejlbojbbeaaGreatDoorQ00
import Derived.Test.YtamaejlbojbbeaaGreatDoorQ01
import Derived.Test.YtamaejlbojbbeaaGreatDoorQ02
import Derived.Test.YtamaejlbojbbeaaGreatDoorQ03
import Derived.Test.YtamaejlbojbbeaaGreatDoorQ29
import Derived.Test.YtamaejlbojbbeaaGreatDoorQ30
namespace Go.Proofs.YtamaejlbojbbeaaGreatDoor.Sb
open Go.RowKit
attribute [local go_sem] noPanic_exit noPanic_normal
theorem block_at (M : List Nat) (q j : Nat) (hj : j < 64) : ((M.drop (64 * q)).take 64).getD j 0 = M.getD (64 * q + j) 0 := by
  simp [hj]
theorem block_lt {M : List Nat} (hM : ∀ x ∈ M, x < 256) (q : Nat) : ∀ x ∈ (M.drop (64 * q)).take 64, x < 256 := fun x hx => hM x (List.mem_of_mem_drop (List.mem_of_mem_take hx))
theorem run_step (M : List Nat) (q n : Nat) (hn : Hid (n = 64)) (bl : List Nat) (hbl : Hid (bl = (M.drop (64 * q)).take 64)) : Sha.run M (q + 1) = Sha.plus (Sha.run M q) (Sha.rounds (Sha.run M q) (Sha.wl bl n) n) := by
  rw [hn.out, hbl.out]; rfl
theorem wl_facts (bl : List Nat) (h : ∀ x ∈ bl, x < 256) (n : Nat) (hn : Hid (n = 64)) : (Sha.wl bl n).length = 64 ∧ ∀ x ∈ Sha.wl bl n, x < 4294967296 :=
  ⟨by rw [wl_length, hn.out], wl_lt bl h n⟩
set_option maxHeartbeats 1000000 in
set_option maxRecDepth 1000000 in
theorem rloop3 (M : List Nat) (hM : ∀ x ∈ M, x < 256) (nb : Nat) (hnb : M.length = 64 * nb) (n : Nat) (hn : Hid (n = 64)) (g off C hb wb B : Nat) (w : World) (c0 c1 c2 c4 c5 c9 c10 c11 c12 c13 c14 c15 c16 c17 c18 c19 c20 c21 c22 c23 c24 c25 c26 c27 c28 c29 c30 c31 c32 c33 c34 c35 c36 c37 c38 c39 c40 c41 c42 c43 c44 c45 c46 c47 c48 c49 c50 c51 c52 c53 c54 c55 c56 c57 c58 c59 c60 c61 c62 c63 c64 c65 c66 c67 c68 c69 c70 c71 c72 c73 c74 c75 c76 c77 c78 c79 c80 c81 c82 c83 c84 c85 c86 c87 c88 c89 c90 c91 c92 c93 c94 c95 c96 c97 c98 c99 c100 c101 c102 c103 c104 c105 c106 c107 c108 c109 c110 c111 c112 c113 c114 c115 c116 c117 c118 c119 c120 c121 c122 c123 c124 c125 c126 c127 c128 c129 c130 c131 c132 c133 c134 c135 c136 c137 c138 c139 c140 c141 c142 c143 c144 c145 c146 c147 c148 c149 c150 c151 c152 c153 c154 c155 c156 c157 c158 c159 c160 c161 c162 c163 c164 c165 c166 c167 c168 c169 c170 c171 c172 c173 c174 c175 c176 c177 c178 c179 c180 c181 c182 c183 c184 c185 c186 c187 c188 c189 c190 c191 c192 c193 c194 c195 c196 c197 c198 c199 c200 c201 c202 c203 c204 c205 c206 c207 c208 c209 c210 c211 c212 c213 c214 c215 c216 c217 c218 c219 c220 c221 c222 c223 c224 c225 c226 c227 c228 c229 c230 c231 c232 c233 c234 c235 c236 c237 c238 : Value) (Q : Exit → Act → World → Prop)
    (hgB : g < B) (hBh : B ≤ hb) (hBw : B ≤ wb) (hne : hb ≠ wb) (hL : M.length ≤ 281474976710656) (hrow : Row w hb (Sha.H0.list.map u32v) 156) (hrw : Row w wb ((List.replicate 64 0).map u32v) 157) (hsrc : ∀ j, j < M.length → w.cell? ⟨g, off + j, none⟩ = some (u8v (M.getD j 0)))
    (hexit : ∀ (v8 v9 v10 v11 v12 v13 v14 v15 v16 v17 v18 v19 v20 v55 v56 v57 v58 v59 v60 v61 v62 v63 v64 v65 v66 v67 v68 v69 v70 v71 v72 v73 v74 v75 v76 v77 v78 v79 v80 v81 v82 v83 v84 v85 v86 v87 v88 v89 v90 v91 v92 v93 v94 v95 v96 v97 v98 v99 v100 v101 v102 v103 v104 v105 v106 v107 v108 v109 v110 v111 v112 v113 v114 v115 v116 v117 v118 v119 v120 v121 v122 v123 v124 v125 v126 v127 v128 v129 v130 v131 v132 v133 v134 v135 v136 v137 v138 v139 v140 v141 v142 v143 v144 v145 v146 v147 v148 v149 v150 v151 v152 v153 v154 v155 v156 v157 v158 v159 v160 v161 v162 v163 v164 v165 v166 v167 v168 v169 v170 v171 v172 v173 v174 v175 v176 v177 v178 v179 v180 v181 v182 v183 v184 v185 v186 v187 v188 v189 v190 v191 v192 v193 v194 v195 v196 v197 v198 v199 v200 v201 v202 v203 v204 v205 v206 v207 v208 v209 v210 v211 v212 v213 v214 v215 v216 v217 v218 v219 v220 : Value) (w' : World), Row w' hb ((Sha.run M nb).list.map u32v) 156 ∧ Below B w w' → Q (.exit 4) ⟨List.toArray (c0 :: c1 :: c2 :: .slice (some ⟨g, off, none⟩) M.length C :: c4 :: c5 :: .pointer (some ⟨hb, 0, none⟩) :: .pointer (some ⟨wb, 0, none⟩) :: v8 :: v9 :: v10 :: v11 :: v12 :: v13 :: v14 :: v15 :: v16 :: v17 :: v18 :: v19 :: v20 :: c21 :: c22 :: c23 :: c24 :: c25 :: c26 :: c27 :: c28 :: c29 :: c30 :: c31 :: c32 :: c33 :: c34 :: c35 :: c36 :: c37 :: c38 :: c39 :: c40 :: c41 :: c42 :: c43 :: c44 :: c45 :: c46 :: c47 :: c48 :: c49 :: c50 :: c51 :: c52 :: c53 :: c54 :: v55 :: v56 :: v57 :: v58 :: v59 :: v60 :: v61 :: v62 :: v63 :: v64 :: v65 :: v66 :: v67 :: v68 :: v69 :: v70 :: v71 :: v72 :: v73 :: v74 :: v75 :: v76 :: v77 :: v78 :: v79 :: v80 :: v81 :: v82 :: v83 :: v84 :: v85 :: v86 :: v87 :: v88 :: v89 :: v90 :: v91 :: v92 :: v93 :: v94 :: v95 :: v96 :: v97 :: v98 :: v99 :: v100 :: v101 :: v102 :: v103 :: v104 :: v105 :: v106 :: v107 :: v108 :: v109 :: v110 :: v111 :: v112 :: v113 :: v114 :: v115 :: v116 :: v117 :: v118 :: v119 :: v120 :: v121 :: v122 :: v123 :: v124 :: v125 :: v126 :: v127 :: v128 :: v129 :: v130 :: v131 :: v132 :: v133 :: v134 :: v135 :: v136 :: v137 :: v138 :: v139 :: v140 :: v141 :: v142 :: v143 :: v144 :: v145 :: v146 :: v147 :: v148 :: v149 :: v150 :: v151 :: v152 :: v153 :: v154 :: v155 :: v156 :: v157 :: v158 :: v159 :: v160 :: v161 :: v162 :: v163 :: v164 :: v165 :: v166 :: v167 :: v168 :: v169 :: v170 :: v171 :: v172 :: v173 :: v174 :: v175 :: v176 :: v177 :: v178 :: v179 :: v180 :: v181 :: v182 :: v183 :: v184 :: v185 :: v186 :: v187 :: v188 :: v189 :: v190 :: v191 :: v192 :: v193 :: v194 :: v195 :: v196 :: v197 :: v198 :: v199 :: v200 :: v201 :: v202 :: v203 :: v204 :: v205 :: v206 :: v207 :: v208 :: v209 :: v210 :: v211 :: v212 :: v213 :: v214 :: v215 :: v216 :: v217 :: v218 :: v219 :: v220 :: c221 :: c222 :: c223 :: c224 :: c225 :: c226 :: c227 :: c228 :: c229 :: c230 :: c231 :: c232 :: c233 :: c234 :: c235 :: c236 :: c237 :: c238 :: []), []⟩ w') :
    Code.wp Tryz.prog (.loop ((loopsIn (Tryz.f34.body.getD .skip)).getD 2 .skip)) Q ⟨List.toArray (c0 :: c1 :: c2 :: .slice (some ⟨g, off, none⟩) M.length C :: c4 :: c5 :: .pointer (some ⟨hb, 0, none⟩) :: .pointer (some ⟨wb, 0, none⟩) :: .int .i64 0 :: c9 :: c10 :: c11 :: c12 :: c13 :: c14 :: c15 :: c16 :: c17 :: c18 :: c19 :: c20 :: c21 :: c22 :: c23 :: c24 :: c25 :: c26 :: c27 :: c28 :: c29 :: c30 :: c31 :: c32 :: c33 :: c34 :: c35 :: c36 :: c37 :: c38 :: c39 :: c40 :: c41 :: c42 :: c43 :: c44 :: c45 :: c46 :: c47 :: c48 :: c49 :: c50 :: c51 :: c52 :: c53 :: c54 :: c55 :: c56 :: c57 :: c58 :: c59 :: c60 :: c61 :: c62 :: c63 :: c64 :: c65 :: c66 :: c67 :: c68 :: c69 :: c70 :: c71 :: c72 :: c73 :: c74 :: c75 :: c76 :: c77 :: c78 :: c79 :: c80 :: c81 :: c82 :: c83 :: c84 :: c85 :: c86 :: c87 :: c88 :: c89 :: c90 :: c91 :: c92 :: c93 :: c94 :: c95 :: c96 :: c97 :: c98 :: c99 :: c100 :: c101 :: c102 :: c103 :: c104 :: c105 :: c106 :: c107 :: c108 :: c109 :: c110 :: c111 :: c112 :: c113 :: c114 :: c115 :: c116 :: c117 :: c118 :: c119 :: c120 :: c121 :: c122 :: c123 :: c124 :: c125 :: c126 :: c127 :: c128 :: c129 :: c130 :: c131 :: c132 :: c133 :: c134 :: c135 :: c136 :: c137 :: c138 :: c139 :: c140 :: c141 :: c142 :: c143 :: c144 :: c145 :: c146 :: c147 :: c148 :: c149 :: c150 :: c151 :: c152 :: c153 :: c154 :: c155 :: c156 :: c157 :: c158 :: c159 :: c160 :: c161 :: c162 :: c163 :: c164 :: c165 :: c166 :: c167 :: c168 :: c169 :: c170 :: c171 :: c172 :: c173 :: c174 :: c175 :: c176 :: c177 :: c178 :: c179 :: c180 :: c181 :: c182 :: c183 :: c184 :: c185 :: c186 :: c187 :: c188 :: c189 :: c190 :: c191 :: c192 :: c193 :: c194 :: c195 :: c196 :: c197 :: c198 :: c199 :: c200 :: c201 :: c202 :: c203 :: c204 :: c205 :: c206 :: c207 :: c208 :: c209 :: c210 :: c211 :: c212 :: c213 :: c214 :: c215 :: c216 :: c217 :: c218 :: c219 :: c220 :: c221 :: c222 :: c223 :: c224 :: c225 :: c226 :: c227 :: c228 :: c229 :: c230 :: c231 :: c232 :: c233 :: c234 :: c235 :: c236 :: c237 :: c238 :: []), []⟩ w := by
  conv => arg 2; arg 1; whnf
  refine Code.wp_mono (noPanic_of Q) ?_
  go_loopw [8] (fun v w' => ∃ (q : Nat) (cs : List Nat), q ≤ nb ∧ v = .int .i64 ((64 * q : Nat) : Int) ∧ cs.length = 64 ∧ Row w' hb ((Sha.run M q).list.map u32v) 156 ∧ Row w' wb (cs.map u32v) 157 ∧ Below B w w') (fun v _ => M.length - (intOf v).toNat)
  case atStart => exact ⟨0, List.replicate 64 0, by omega, rfl, rfl, hrow, hrw, Below.refl _ _⟩
  case round =>
    clear hrow hrw
    obtain ⟨q, cs, hq, rfl, hc, hr, hrw, hb0⟩ := hrel
    obtain ⟨at_, hat⟩ : ∃ at_, at_ = 64 * q := ⟨_, rfl⟩
    obtain ⟨L, hLL⟩ : ∃ L, L = M.length := ⟨_, rfl⟩
    obtain ⟨s, hs, hsok⟩ : ∃ s, Hid (s = Sha.run M q) ∧ Ok s := ⟨_, rfl, run_ok M q⟩
    rw [← hs.out] at hr
    rw [← hat, ← hLL]
    have HAT : Hid (at_ = 64 * q) := hat
    have HLL : Hid (L = M.length) := hLL
    have HNB : Hid (M.length = 64 * nb) := hnb
    have HB0 : Hid (Below B w wr) := hb0
    by_cases hlt : q < nb
    · obtain ⟨bl, hbl⟩ : ∃ bl, Hid (bl = (M.drop (64 * q)).take 64) := ⟨_, rfl⟩
      have hby : ∀ x ∈ bl, x < 256 := by rw [hbl.out]; exact block_lt hM q
      have hsrc' : ∀ j, j < 64 → wr.cell? ⟨g, off + (at_ + j), none⟩ = some (u8v (bl.getD j 0)) := by
        intro j hj
        rw [hb0.cell (p := ⟨g, off + (at_ + j), none⟩) hgB, hsrc (at_ + j) (by omega), hbl.out, block_at M q j hj, hat]
      have hatL : at_ + 64 ≤ L := by omega
      have hL' : L ≤ 281474976710656 := by omega
      have k1 : (at_ : Int) < (L : Int) := by omega
      obtain ⟨hWl, hWb⟩ := wl_facts bl hby n hn
      have hrun := run_step M q n hn bl hbl
      rw [← hs.out] at hrun
      have HRUN : Hid (Sha.run M (q + 1) = Sha.plus s (Sha.rounds s (Sha.wl bl n) n)) := hrun
      have hsz := hb0.size
      have hhr := hr.lt
      clear hexit hsrc hM hnb hat hLL hL hrun hb0
      go_wp2
      refine rloop4 bl hby n hn g off L C wb at_ cs wr _ _ _ _ _ _ _ _ _ _ _ _ _ _ _ _ _ _ _ _ _ _ _ _ _ _ _ _ _ _ _ _ _ _ _ _ _ _ _ _ _ _ _ _ _ _ _ _ _ _ _ _ _ _ _ _ _ _ _ _ _ _ _ _ _ _ _ _ _ _ _ _ _ _ _ _ _ _ _ _ _ _ _ _ _ _ _ _ _ _ _ _ _ _ _ _ _ _ _ _ _ _ _ _ _ _ _ _ _ _ _ _ _ _ _ _ _ _ _ _ _ _ _ _ _ _ _ _ _ _ _ _ _ _ _ _ _ _ _ _ _ _ _ _ _ _ _ _ _ _ _ _ _ _ _ _ _ _ _ _ _ _ _ _ _ _ _ _ _ _ _ _ _ _ _ _ _ _ _ _ _ _ _ _ _ _ _ _ _ _ _ _ _ _ _ _ _ _ _ _ _ _ _ _ _ _ _ _ _ _ _ _ _ _ _ _ _ _ _ _ _ _ _ _ _ _ _ _ _ _ _ _ _ _ _ _ (by omega) hatL hL' hc hrw hsrc' ?_
      clear hsrc' hrw
      intro _ _ _ _ _ _ _ _ _ _ _ _ _ _ _ _ _ _ _ _ _ _ _ _ _ _ _ _ _ _ _ _ _ _ _ _ _ _ _ _ _ _ _ _ _ _ _ _ _ _ _ _ _ _ _ _ _ _ _ _ _ _ _ _ _ _ _ _ _ _ w2 ⟨hrw2, hg2, hs2⟩
      have hr2 := hr.grown hg2 (by simp; omega)
      generalize Sha.wl bl n = W at hWl hWb HRUN hrw2
      clear hr
      have HS2 : Hid (w2.heap.size = wr.heap.size) := hs2
      clear hs2
      have HB2 : Hid (Below B w w2) := below_of_grown HB0.out hg2 (by omega) hBw
      go_wp2_with (first | (refine wpList_load_Row rfl 156 _ rfl hb rfl 156 _ hr2 _ Tryz.underlying156 rfl 8 info68 rfl ?_) | (refine wpList_store_Row rfl 156 _ _ rfl w2.heap.size 0 (s.list.map u32v) rfl rfl 156 ((List.replicate 8 0).map u32v) (Row.newAt w2 _ _ 156 rfl) 8 info68 rfl (by simp) (one_u32 _) ?_; intro w3 hr3 hg3 hs3))
      rw [splice_all _ _ (by rfl)] at hr3
      have hhlt := hr2.lt
      have hwlt := hrw2.lt
      have hh3 := (hr2.alloc _).grown hg3 (by simp; omega)
      have hw3 := (hrw2.alloc _).grown hg3 (by simp; omega)
      have HB3 : Hid (Below B w w3) := below_of_grown (HB2.out.alloc (by omega) _) hg3 (by simp; omega) (by omega)
      have HS3 : Hid (w3.heap.size = (w2.alloc (.cells ((List.replicate 8 0).map u32v).toArray 156)).heap.size) := hs3
      clear hs3 hr2 hrw2 hg2
      refine rloop6 s hsok W hWl hWb n hn wb w2.heap.size w3 _ _ _ _ _ _ _ _ _ _ _ _ _ _ _ _ _ _ _ _ _ _ _ _ _ _ _ _ _ _ _ _ _ _ _ _ _ _ _ _ _ _ _ _ _ _ _ _ _ _ _ _ _ _ _ _ _ _ _ _ _ _ _ _ _ _ _ _ _ _ _ _ _ _ _ _ _ _ _ _ _ _ _ _ _ _ _ _ _ _ _ _ _ _ _ _ _ _ _ _ _ _ _ _ _ _ _ _ _ _ _ _ _ _ _ _ _ _ _ _ _ _ _ _ _ _ _ _ _ _ _ _ _ _ _ _ _ _ _ _ _ _ _ _ _ _ _ _ _ _ _ _ _ _ _ _ _ _ _ _ _ _ _ _ _ _ _ _ _ _ _ _ _ _ _ _ _ _ _ _ _ _ _ _ _ _ _ _ _ _ _ _ _ _ _ _ _ _ _ _ _ _ _ _ _ _ _ _ _ _ _ _ _ _ _ _ _ _ _ _ _ _ _ _ _ _ _ _ _ _ _ _ _ _ _ _ _ (by omega) hr3 hw3 ?_
      clear hr3 hw3 hg3
      intro _ _ _ _ _ _ _ _ _ _ _ _ _ _ _ _ _ _ _ _ _ _ _ _ _ _ _ _ _ _ _ _ _ _ _ _ _ _ _ _ _ _ _ _ _ _ _ _ _ _ _ _ _ _ _ _ _ _ _ _ _ _ _ _ _ _ _ _ _ _ _ _ _ _ _ _ _ _ _ _ _ _ _ _ _ _ w4 ⟨hr4, hw4, hg4⟩
      have hh4 := hh3.grown hg4 (by simp; omega)
      have HB4 : Hid (Below B w w4) := below_of_grown HB3.out hg4 (by have := hh3.lt; omega) (by omega)
      generalize Sha.rounds s W n = r at hr4 HRUN
      clear hh3 hg4
      go_wp2
      refine rloop8 s r hb w2.heap.size w4 _ _ _ _ _ _ _ _ _ _ _ _ _ _ _ _ _ _ _ _ _ _ _ _ _ _ _ _ _ _ _ _ _ _ _ _ _ _ _ _ _ _ _ _ _ _ _ _ _ _ _ _ _ _ _ _ _ _ _ _ _ _ _ _ _ _ _ _ _ _ _ _ _ _ _ _ _ _ _ _ _ _ _ _ _ _ _ _ _ _ _ _ _ _ _ _ _ _ _ _ _ _ _ _ _ _ _ _ _ _ _ _ _ _ _ _ _ _ _ _ _ _ _ _ _ _ _ _ _ _ _ _ _ _ _ _ _ _ _ _ _ _ _ _ _ _ _ _ _ _ _ _ _ _ _ _ _ _ _ _ _ _ _ _ _ _ _ _ _ _ _ _ _ _ _ _ _ _ _ _ _ _ _ _ _ _ _ _ _ _ _ _ _ _ _ _ _ _ _ _ _ _ _ _ _ _ _ _ _ _ _ _ _ _ _ _ _ _ _ _ _ _ _ _ _ _ _ _ _ _ _ _ _ _ _ _ _ (by omega) hh4 hr4 ?_
      clear hh4 hr4
      intro _ _ _ _ _ _ _ _ _ _ _ _ _ _ w5 ⟨hr5, hg5, hs5⟩
      have hw5 := hw4.grown hg5 (by simp; omega)
      have HB5 : Hid (Below B w w5) := below_of_grown HB4.out hg5 (by have := hw4.lt; omega) (by omega)
      clear hg5 hs5 hw4
      go_wp2
      go_roundw
      case rel =>
        go_light
        have eA := HAT.out
        refine ⟨q + 1, W, by omega, by go_num, hWl, ?_, hw5, HB5.out⟩
        rw [HRUN.out]; exact hr5
      case measure =>
        have eA := HAT.out
        have eL := HLL.out
        have eN := HNB.out
        simp [intOf]; omega
    · have HK : Hid (q = nb) := by show q = nb; omega
      have k1 : (L : Int) ≤ (at_ : Int) := by omega
      clear hsrc hM hat hLL
      go_wp2
      obtain rfl := HLL.out
      rw [hs.out, HK.out] at hr
      exact hexit _ _ _ _ _ _ _ _ _ _ _ _ _ _ _ _ _ _ _ _ _ _ _ _ _ _ _ _ _ _ _ _ _ _ _ _ _ _ _ _ _ _ _ _ _ _ _ _ _ _ _ _ _ _ _ _ _ _ _ _ _ _ _ _ _ _ _ _ _ _ _ _ _ _ _ _ _ _ _ _ _ _ _ _ _ _ _ _ _ _ _ _ _ _ _ _ _ _ _ _ _ _ _ _ _ _ _ _ _ _ _ _ _ _ _ _ _ _ _ _ _ _ _ _ _ _ _ _ _ _ _ _ _ _ _ _ _ _ _ _ _ _ _ _ _ _ _ _ _ _ _ _ _ _ _ _ _ _ _ _ _ _ _ _ _ _ _ _ _ _ _ _ _ _ _ _ _ _ _ _ ⟨hr, HB0.out⟩
end Go.Proofs.YtamaejlbojbbeaaGreatDoor.Sb
namespace Go.Proofs.YtamaejlbojbbeaaGreatDoor.Sb
open Go.RowKit
attribute [local go_sem] noPanic_exit noPanic_normal
/-- the digest while its first i bytes have been written -/
def dd (s : Sha.St) (i : Nat) : List Nat := (Sha.digestOf s).take i ++ List.replicate (32 - i) 0
theorem digestOf_length (s : Sha.St) : (Sha.digestOf s).length = 32 := rfl
theorem dd_length (s : Sha.St) (i : Nat) (h : i ≤ 32) : (dd s i).length = 32 := by simp [dd, digestOf_length]; omega
theorem dd_set (s : Sha.St) (i : Nat) (h : i < 32) : (dd s i).set i ((Sha.digestOf s).getD i 0) = dd s (i + 1) := by
  have hl := digestOf_length s
  unfold dd
  rw [show 32 - i = (32 - (i + 1)) + 1 by omega, List.replicate_succ, set_mid _ _ _ _ _ (by simp [hl]; omega)]
  have e : (Sha.digestOf s).getD i 0 = (Sha.digestOf s)[i] := by rw [List.getD_eq_getElem?_getD, List.getElem?_eq_getElem (by omega)]; rfl
  rw [e, List.take_succ_eq_append_getElem (by omega), List.append_assoc]
  rfl
theorem dd_all (s : Sha.St) : dd s 32 = Sha.digestOf s := by rfl
theorem dig_at (s : Sha.St) (i : Nat) (h : i < 32) : (Sha.digestOf s).getD i 0 = s.list.getD (i / 4) 0 / 2 ^ (24 - 8 * (i % 4)) % 256 := by
  have : ∀ i : Fin 32, (Sha.digestOf s).getD i.1 0 = s.list.getD (i.1 / 4) 0 / 2 ^ (24 - 8 * (i.1 % 4)) % 256 := by
    intro i
    obtain ⟨i, hi⟩ := i
    rcases lt8 (show i / 4 < 8 by omega) with h | h | h | h | h | h | h | h <;>
    (obtain h2 | h2 | h2 | h2 : i % 4 = 0 ∨ i % 4 = 1 ∨ i % 4 = 2 ∨ i % 4 = 3 := by omega) <;>
    (have e : i = 4 * (i / 4) + i % 4 := by omega) <;> rw [h, h2] at e <;> subst e <;> simp [Sha.digestOf, Sha.St.list, Sha.bytesOf]
  exact this ⟨i, h⟩
set_option maxHeartbeats 1000000 in
set_option maxRecDepth 1000000 in
theorem rloop9 (s : Sha.St) (hb db : Nat) (w : World) (c0 c1 c2 c3 c4 c5 c7 c8 c9 c10 c11 c12 c13 c14 c15 c16 c17 c18 c19 c20 c23 c24 c25 c26 c27 c28 c29 c30 c31 c32 c33 c34 c35 c36 c37 c38 c39 c40 c41 c42 c43 c44 c45 c46 c47 c48 c49 c50 c51 c52 c53 c54 c55 c56 c57 c58 c59 c60 c61 c62 c63 c64 c65 c66 c67 c68 c69 c70 c71 c72 c73 c74 c75 c76 c77 c78 c79 c80 c81 c82 c83 c84 c85 c86 c87 c88 c89 c90 c91 c92 c93 c94 c95 c96 c97 c98 c99 c100 c101 c102 c103 c104 c105 c106 c107 c108 c109 c110 c111 c112 c113 c114 c115 c116 c117 c118 c119 c120 c121 c122 c123 c124 c125 c126 c127 c128 c129 c130 c131 c132 c133 c134 c135 c136 c137 c138 c139 c140 c141 c142 c143 c144 c145 c146 c147 c148 c149 c150 c151 c152 c153 c154 c155 c156 c157 c158 c159 c160 c161 c162 c163 c164 c165 c166 c167 c168 c169 c170 c171 c172 c173 c174 c175 c176 c177 c178 c179 c180 c181 c182 c183 c184 c185 c186 c187 c188 c189 c190 c191 c192 c193 c194 c195 c196 c197 c198 c199 c200 c201 c202 c203 c204 c205 c206 c207 c208 c209 c210 c211 c212 c213 c214 c215 c216 c217 c218 c219 c220 c221 c222 c223 c224 c225 c226 c227 c228 c229 c230 c231 c232 c233 c234 c235 c236 c237 c238 : Value) (Q : Exit → Act → World → Prop)
    (hok : Ok s) (hne : hb ≠ db) (hrow : Row w hb (s.list.map u32v) 156) (hrs : Row w db ((List.replicate 32 0).map u8v) 30)
    (hexit : ∀ (v22 v221 v222 v223 v224 v225 v226 v227 v228 v229 v230 v231 v232 v233 v234 v235 v236 v237 : Value) (w' : World), Row w' db ((Sha.digestOf s).map u8v) 30 ∧ w.grownBy w' (some db) ∧ w'.heap.size = w.heap.size → Q (.exit 16) ⟨List.toArray (c0 :: c1 :: c2 :: c3 :: c4 :: c5 :: .pointer (some ⟨hb, 0, none⟩) :: c7 :: c8 :: c9 :: c10 :: c11 :: c12 :: c13 :: c14 :: c15 :: c16 :: c17 :: c18 :: c19 :: c20 :: .pointer (some ⟨db, 0, none⟩) :: v22 :: c23 :: c24 :: c25 :: c26 :: c27 :: c28 :: c29 :: c30 :: c31 :: c32 :: c33 :: c34 :: c35 :: c36 :: c37 :: c38 :: c39 :: c40 :: c41 :: c42 :: c43 :: c44 :: c45 :: c46 :: c47 :: c48 :: c49 :: c50 :: c51 :: c52 :: c53 :: c54 :: c55 :: c56 :: c57 :: c58 :: c59 :: c60 :: c61 :: c62 :: c63 :: c64 :: c65 :: c66 :: c67 :: c68 :: c69 :: c70 :: c71 :: c72 :: c73 :: c74 :: c75 :: c76 :: c77 :: c78 :: c79 :: c80 :: c81 :: c82 :: c83 :: c84 :: c85 :: c86 :: c87 :: c88 :: c89 :: c90 :: c91 :: c92 :: c93 :: c94 :: c95 :: c96 :: c97 :: c98 :: c99 :: c100 :: c101 :: c102 :: c103 :: c104 :: c105 :: c106 :: c107 :: c108 :: c109 :: c110 :: c111 :: c112 :: c113 :: c114 :: c115 :: c116 :: c117 :: c118 :: c119 :: c120 :: c121 :: c122 :: c123 :: c124 :: c125 :: c126 :: c127 :: c128 :: c129 :: c130 :: c131 :: c132 :: c133 :: c134 :: c135 :: c136 :: c137 :: c138 :: c139 :: c140 :: c141 :: c142 :: c143 :: c144 :: c145 :: c146 :: c147 :: c148 :: c149 :: c150 :: c151 :: c152 :: c153 :: c154 :: c155 :: c156 :: c157 :: c158 :: c159 :: c160 :: c161 :: c162 :: c163 :: c164 :: c165 :: c166 :: c167 :: c168 :: c169 :: c170 :: c171 :: c172 :: c173 :: c174 :: c175 :: c176 :: c177 :: c178 :: c179 :: c180 :: c181 :: c182 :: c183 :: c184 :: c185 :: c186 :: c187 :: c188 :: c189 :: c190 :: c191 :: c192 :: c193 :: c194 :: c195 :: c196 :: c197 :: c198 :: c199 :: c200 :: c201 :: c202 :: c203 :: c204 :: c205 :: c206 :: c207 :: c208 :: c209 :: c210 :: c211 :: c212 :: c213 :: c214 :: c215 :: c216 :: c217 :: c218 :: c219 :: c220 :: v221 :: v222 :: v223 :: v224 :: v225 :: v226 :: v227 :: v228 :: v229 :: v230 :: v231 :: v232 :: v233 :: v234 :: v235 :: v236 :: v237 :: c238 :: []), []⟩ w') :
    Code.wp Tryz.prog (.loop ((loopsIn (Tryz.f34.body.getD .skip)).getD 3 .skip)) Q ⟨List.toArray (c0 :: c1 :: c2 :: c3 :: c4 :: c5 :: .pointer (some ⟨hb, 0, none⟩) :: c7 :: c8 :: c9 :: c10 :: c11 :: c12 :: c13 :: c14 :: c15 :: c16 :: c17 :: c18 :: c19 :: c20 :: .pointer (some ⟨db, 0, none⟩) :: .int .i64 0 :: c23 :: c24 :: c25 :: c26 :: c27 :: c28 :: c29 :: c30 :: c31 :: c32 :: c33 :: c34 :: c35 :: c36 :: c37 :: c38 :: c39 :: c40 :: c41 :: c42 :: c43 :: c44 :: c45 :: c46 :: c47 :: c48 :: c49 :: c50 :: c51 :: c52 :: c53 :: c54 :: c55 :: c56 :: c57 :: c58 :: c59 :: c60 :: c61 :: c62 :: c63 :: c64 :: c65 :: c66 :: c67 :: c68 :: c69 :: c70 :: c71 :: c72 :: c73 :: c74 :: c75 :: c76 :: c77 :: c78 :: c79 :: c80 :: c81 :: c82 :: c83 :: c84 :: c85 :: c86 :: c87 :: c88 :: c89 :: c90 :: c91 :: c92 :: c93 :: c94 :: c95 :: c96 :: c97 :: c98 :: c99 :: c100 :: c101 :: c102 :: c103 :: c104 :: c105 :: c106 :: c107 :: c108 :: c109 :: c110 :: c111 :: c112 :: c113 :: c114 :: c115 :: c116 :: c117 :: c118 :: c119 :: c120 :: c121 :: c122 :: c123 :: c124 :: c125 :: c126 :: c127 :: c128 :: c129 :: c130 :: c131 :: c132 :: c133 :: c134 :: c135 :: c136 :: c137 :: c138 :: c139 :: c140 :: c141 :: c142 :: c143 :: c144 :: c145 :: c146 :: c147 :: c148 :: c149 :: c150 :: c151 :: c152 :: c153 :: c154 :: c155 :: c156 :: c157 :: c158 :: c159 :: c160 :: c161 :: c162 :: c163 :: c164 :: c165 :: c166 :: c167 :: c168 :: c169 :: c170 :: c171 :: c172 :: c173 :: c174 :: c175 :: c176 :: c177 :: c178 :: c179 :: c180 :: c181 :: c182 :: c183 :: c184 :: c185 :: c186 :: c187 :: c188 :: c189 :: c190 :: c191 :: c192 :: c193 :: c194 :: c195 :: c196 :: c197 :: c198 :: c199 :: c200 :: c201 :: c202 :: c203 :: c204 :: c205 :: c206 :: c207 :: c208 :: c209 :: c210 :: c211 :: c212 :: c213 :: c214 :: c215 :: c216 :: c217 :: c218 :: c219 :: c220 :: c221 :: c222 :: c223 :: c224 :: c225 :: c226 :: c227 :: c228 :: c229 :: c230 :: c231 :: c232 :: c233 :: c234 :: c235 :: c236 :: c237 :: c238 :: []), []⟩ w := by
  conv => arg 2; arg 1; whnf
  refine Code.wp_mono (noPanic_of Q) ?_
  go_loopw [22] (fun v w' => ∃ i : Nat, i ≤ 32 ∧ v = .int .i64 (i : Int) ∧ Row w' hb (s.list.map u32v) 156 ∧ Row w' db ((dd s i).map u8v) 30 ∧ w.grownBy w' (some db) ∧ w'.heap.size = w.heap.size) (fun v _ => 32 - (intOf v).toNat)
  case atStart => exact ⟨0, by omega, rfl, hrow, hrs, grownBy_refl _ _, rfl⟩
  case round =>
    clear hrow hrs
    obtain ⟨i, hi, rfl, hr, hrs, hg, hs⟩ := hrel
    have HG : Hid (w.grownBy wr (some db)) := hg
    have HS : Hid (wr.heap.size = w.heap.size) := hs
    by_cases hlt : i < 32
    · have c0 : wr.cell? ⟨hb, i / 4, none⟩ = some (.int .u32 ((s.list.getD (i / 4) 0 : Nat) : Int)) := hr.cellMap _ (by simp [Sha.St.list]; omega)
      have c1 : wr.cell? ⟨db, i, none⟩ = some (.int .u8 (((dd s i).getD i 0 : Nat) : Int)) := hrs.cellMap i (by rw [dd_length s i hi]; omega)
      have f1 := hrs.frozen i
      have HP : Hid ((dd s i).set i (s.list.getD (i / 4) 0 / 2 ^ (24 - 8 * (i % 4)) % 256) = dd s (i + 1)) := by show _ = _; rw [← dig_at s i hlt]; exact dd_set s i hlt
      have k1 : (i : Int) < 32 := by omega
      have bx : s.list.getD (i / 4) 0 < 4294967296 := getD_lt (list_lt hok) _
      generalize s.list.getD (i / 4) 0 = x at c0 HP bx
      generalize (dd s i).getD i 0 = y at c1
      clear hexit hg hs hok
      go_wp2
      go_roundw
      case rel =>
        go_light
        have e0 : (x : Int) / 2 ^ (24 - 8 * (i % 4)) % 256 = ((x / 2 ^ (24 - 8 * (i % 4)) % 256 : Nat) : Int) := by simp
        rw [e0]
        refine ⟨i + 1, by omega, by go_num, hr.set_other _ _ (by simp; omega), ?_, ?_, ?_⟩
        · rw [← HP.out, List.map_set]; exact hrs.set_same i _
        · exact grownBy_trans HG.out (grownBy_setCell wr ⟨db, i, none⟩ _)
        · simpa [World.setCell] using HS.out
      case measure => simp [intOf]; omega
    · have HK : Hid (i = 32) := by show i = 32; omega
      go_wp2
      rw [HK.out, dd_all] at hrs
      exact hexit _ _ _ _ _ _ _ _ _ _ _ _ _ _ _ _ _ _ _ ⟨hrs, HG.out, HS.out⟩
end Go.Proofs.YtamaejlbojbbeaaGreatDoor.Sb
namespace Go.Proofs.YtamaejlbojbbeaaGreatDoor.Sb
open Go.RowKit
attribute [local go_sem] noPanic_exit noPanic_normal
set_option maxHeartbeats 1000000 in
set_option maxRecDepth 1000000 in
theorem rsum_any (bs : List Nat) (hbs : ∀ x ∈ bs, x < 256) (p : Option Addr) (b off cap : Nat) (w : World) (hcap2 : bs.length ≤ 140737488351232)
    (hpn : p = none → bs.length = 0 ∧ cap = 0) (hp : 0 < bs.length → p = some ⟨b, off, none⟩) (hsrc : ∀ j, j < bs.length → w.cell? ⟨b, off + j, none⟩ = some (u8v (bs.getD j 0))) :
    Calls Tryz.prog 34 #[.slice p bs.length cap] w fun e w' => e = .returned (.agg ((Sha.sum bs).map u8v).toArray) ∧ Below w.heap.size w w' := by
  obtain ⟨i5i, hi5, he5⟩ := Option.map_eq_some_iff.1 i5
  simp only [Prod.mk.injEq] at he5
  obtain ⟨e1, e2, e3⟩ := he5
  have HI5 : Hid (Tryz.prog.info? 5 = some i5i) := hi5
  have HE1 : Hid (i5i.size = 1) := e1
  have HE2 : Hid (i5i.bytes = 1) := e2
  have HE3 : Hid (i5i.zero = some (.int .u8 0)) := e3
  clear hi5 e1 e2 e3
  have hpos : True := trivial
  obtain ⟨B, hB⟩ : ∃ B, B = w.heap.size + 1 := ⟨_, rfl⟩
  have HB : Hid (B = w.heap.size + 1) := hB
  have hown0 : ((w.alloc (.cells ((List.replicate 32 0).map u8v).toArray 30)).alloc (.cells #[] 5)).ownsRow B 5 1 (.slice (some ⟨w.heap.size + 1, 0, none⟩) 0 0) 0 [] := by
    have h := World.ownsRow_made (base := B) (e := 5) (size := 1) (w.alloc (.cells ((List.replicate 32 0).map u8v).toArray 30)) #[] 0 (by rw [hB]; simp) (by simp) rfl
    rwa [World.size_alloc] at h
  have hb0 : Below B (w.alloc (.cells ((List.replicate 32 0).map u8v).toArray 30)) ((w.alloc (.cells ((List.replicate 32 0).map u8v).toArray 30)).alloc (.cells #[] 5)) := (Below.refl _ _).alloc (by rw [hB]; simp) _
  clear hB
  have hsrc0 : ∀ ad, p = some ad → ∀ j u, (bs.map u8v)[j]? = some u → ((w.alloc (.cells ((List.replicate 32 0).map u8v).toArray 30)).alloc (.cells #[] 5)).cell? (ad.add j) = some u := by
    intro ad hpa j u hu
    have hj : j < bs.length := by simpa using (List.getElem?_eq_some_iff.1 hu).1
    obtain rfl : ad = ⟨b, off, none⟩ := by have := hp (by omega); rw [hpa] at this; exact Option.some.inj this
    have hc := hsrc j hj
    have hlt := World.block_lt_of_cell? w _ hc
    rw [Addr.add_mid, (((Below.refl w.heap.size w).alloc (Nat.le_refl _) _).alloc (by simp) _).cell hlt, hc]
    simp [hj] at hu
    rw [← hu]
    simp [hj]
  have hBs : B ≤ ((w.alloc (.cells ((List.replicate 32 0).map u8v).toArray 30)).alloc (.cells #[] 5)).heap.size := by rw [HB.out]; simp only [World.size_alloc]; omega
  have hfit0 : 0 + bs.length ≤ 140737488355328 := by omega
  have hfit1 : bs.length + 1 ≤ 140737488355328 := by omega
  have hl0 : (bs.map u8v).length = bs.length := by simp
  obtain ⟨z, hz⟩ : ∃ z, Hid (z = (119 - bs.length % 64) % 64) := ⟨_, rfl⟩
  clear hp hsrc
  go_enter Tryz.func34, Tryz.ntmps34
  go_wp2_with (first | (at_builtin; refine wpList_append_any rfl _ _ 51 rfl B 5 i5i (.int .u8 0) Tryz.underlying51 HI5.out HE3.out HE1.out HE2.out rfl _ 0 [] rfl hown0 p bs.length cap (bs.map u8v) rfl hl0 hpn hsrc0 (one_u8 bs) hfit0 hBs ?_; intro v1 w1 hown1 hg1; have hb1 := own_step hb0 hg1 hBs rfl hown0; have hs1 : B ≤ w1.heap.size := Nat.le_trans hBs hg1.size; rw [Nat.zero_add, List.nil_append] at hown1) | (at_builtin; refine wpList_append_one rfl _ _ 51 rfl B 5 i5i (.int .u8 0) Tryz.underlying51 HI5.out HE3.out HE1.out HE2.out rfl _ _ _ rfl hown1 5 _ rfl rfl hfit1 hs1 ?_; intro v2 w2 hown2 hb2 hs2))
  have hown2' : w2.ownsRow B 5 1 v2 (bs.length + 1) ((bs ++ (Sha.ending bs.length).take 1).map u8v) := by simpa [Sha.ending, u8v] using hown2
  have hb2' := hb2 _ hb1
  clear hown0 hb0 hsrc0 hBs hown1 hg1 hb1 hs1 hown2 hb2 hpn hl0 hfit0 hfit1
  refine rloop1 bs z hz B v2 (w.alloc (.cells ((List.replicate 32 0).map u8v).toArray 30)) w2 _ _ _ _ _ _ _ _ _ _ _ _ _ _ _ _ _ _ _ _ _ _ _ _ _ _ _ _ _ _ _ _ _ _ _ _ _ _ _ _ _ _ _ _ _ _ _ _ _ _ _ _ _ _ _ _ _ _ _ _ _ _ _ _ _ _ _ _ _ _ _ _ _ _ _ _ _ _ _ _ _ _ _ _ _ _ _ _ _ _ _ _ _ _ _ _ _ _ _ _ _ _ _ _ _ _ _ _ _ _ _ _ _ _ _ _ _ _ _ _ _ _ _ _ _ _ _ _ _ _ _ _ _ _ _ _ _ _ _ _ _ _ _ _ _ _ _ _ _ _ _ _ _ _ _ _ _ _ _ _ _ _ _ _ _ _ _ _ _ _ _ _ _ _ _ _ _ _ _ _ _ _ _ _ _ _ _ _ _ _ _ _ _ _ _ _ _ _ _ _ _ _ _ _ _ _ _ _ _ _ _ _ _ _ _ _ _ _ _ _ _ _ _ _ _ _ _ _ _ _ _ _ _ _ _ _ _ _ _ hcap2 hown2' hb2' hs2 ?_
  clear hown2' hb2' hs2
  intro v3 _ _ _ _ _ _ _ w3 ⟨hown3, hb3, hs3⟩
  have HOWN3 : Hid (w3.ownsRow B 5 1 v3 (bs.length + (1 + z)) ((bs ++ (Sha.ending bs.length).take (1 + z)).map u8v)) := hown3
  clear hown3
  go_wp2
  refine rloop2 bs z hz B v3 (w.alloc (.cells ((List.replicate 32 0).map u8v).toArray 30)) w3 _ _ _ _ _ _ _ _ _ _ _ _ _ _ _ _ _ _ _ _ _ _ _ _ _ _ _ _ _ _ _ _ _ _ _ _ _ _ _ _ _ _ _ _ _ _ _ _ _ _ _ _ _ _ _ _ _ _ _ _ _ _ _ _ _ _ _ _ _ _ _ _ _ _ _ _ _ _ _ _ _ _ _ _ _ _ _ _ _ _ _ _ _ _ _ _ _ _ _ _ _ _ _ _ _ _ _ _ _ _ _ _ _ _ _ _ _ _ _ _ _ _ _ _ _ _ _ _ _ _ _ _ _ _ _ _ _ _ _ _ _ _ _ _ _ _ _ _ _ _ _ _ _ _ _ _ _ _ _ _ _ _ _ _ _ _ _ _ _ _ _ _ _ _ _ _ _ _ _ _ _ _ _ _ _ _ _ _ _ _ _ _ _ _ _ _ _ _ _ _ _ _ _ _ _ _ _ _ _ _ _ _ _ _ _ _ _ _ _ _ _ _ _ _ _ _ _ _ _ _ _ _ _ _ _ _ _ hcap2 HOWN3.out hb3 hs3 ?_
  clear HOWN3 hb3 hs3
  intro v3 _ _ _ _ _ _ _ _ _ _ _ _ _ _ _ w4 ⟨hown4, hb4, hs4⟩
  obtain ⟨M, HM⟩ : ∃ M, Hid (M = bs ++ Sha.ending bs.length) := ⟨_, rfl⟩
  have hML : M.length = bs.length + (1 + z + 8) := by rw [HM.out, List.length_append, ending_length, ← hz.out]; omega
  rw [← HM.out, ← hML] at hown4
  obtain ⟨g, cap4, rfl, hgB, hglt⟩ := hown4.form (by omega)
  have hsrc4 : ∀ j, j < M.length → w4.cell? ⟨g, 0 + j, none⟩ = some (u8v (M.getD j 0)) := by
    intro j hj
    rw [Nat.zero_add, hown4.cellAt j (by omega)]
    simp [hj]
  have hM : ∀ x ∈ M, x < 256 := by
    intro x hx
    rw [HM.out] at hx
    rcases List.mem_append.1 hx with h | h
    · exact hbs x h
    · exact ending_bytes _ x h
  obtain ⟨nb, hnb, HNB⟩ : ∃ nb, M.length = 64 * nb ∧ Hid (nb = M.length / 64) := ⟨M.length / 64, by have := hz.out; omega, rfl⟩
  obtain ⟨n, hn⟩ : ∃ n, Hid (n = 64) := ⟨64, rfl⟩
  have hM2 : M.length ≤ 281474976710656 := by have := hz.out; omega
  have hr04 : Row w4 w.heap.size ((List.replicate 32 0).map u8v) 30 := (Row.newAt w _ ((List.replicate 32 0).map u8v) 30 rfl).below hb4 (by rw [HB.out]; omega)
  have hbw4 : Below w.heap.size w w4 := ((Below.refl _ _).alloc (Nat.le_refl _) _).trans (hb4.mono (by rw [HB.out]; omega))
  have HS : Hid (Sha.digestOf (Sha.run M nb) = Sha.sum bs) := by show _ = _; rw [HNB.out, HM.out]; rfl
  have hs04 := hr04.lt
  clear hown4 hb4 hs4 hML HM HNB hbs hcap2 HI5 HE1 HE2 HE3 HB
  go_wp2
  refine rloop3 M hM nb hnb n hn g 0 cap4 w4.heap.size (w4.heap.size + 1) w4.heap.size _ _ _ _ _ _ _ _ _ _ _ _ _ _ _ _ _ _ _ _ _ _ _ _ _ _ _ _ _ _ _ _ _ _ _ _ _ _ _ _ _ _ _ _ _ _ _ _ _ _ _ _ _ _ _ _ _ _ _ _ _ _ _ _ _ _ _ _ _ _ _ _ _ _ _ _ _ _ _ _ _ _ _ _ _ _ _ _ _ _ _ _ _ _ _ _ _ _ _ _ _ _ _ _ _ _ _ _ _ _ _ _ _ _ _ _ _ _ _ _ _ _ _ _ _ _ _ _ _ _ _ _ _ _ _ _ _ _ _ _ _ _ _ _ _ _ _ _ _ _ _ _ _ _ _ _ _ _ _ _ _ _ _ _ _ _ _ _ _ _ _ _ _ _ _ _ _ _ _ _ _ _ _ _ _ _ _ _ _ _ _ _ _ _ _ _ _ _ _ _ _ _ _ _ _ _ _ _ _ _ _ _ _ _ _ _ _ _ _ _ _ _ _ _ _ _ _ _ _ _ _ _ _ _ _ _ _ hglt (Nat.le_refl _) (by omega) (by omega) hM2 ((Row.newAt w4 _ _ 156 rfl).alloc _) (Row.newAt (w4.alloc _) _ ((List.replicate 64 0).map u32v) 157 (by simp)) ?_ ?_
  · intro j hj
    rw [(((Below.refl w4.heap.size w4).alloc (Nat.le_refl _) _).alloc (by simp) _).cell hglt]
    exact hsrc4 j hj
  intro _ _ _ _ _ _ _ _ _ _ _ _ _ _ _ _ _ _ _ _ _ _ _ _ _ _ _ _ _ _ _ _ _ _ _ _ _ _ _ _ _ _ _ _ _ _ _ _ _ _ _ _ _ _ _ _ _ _ _ _ _ _ _ _ _ _ _ _ _ _ _ _ _ _ _ _ _ _ _ _ _ _ _ _ _ _ _ _ _ _ _ _ _ _ _ _ _ _ _ _ _ _ _ _ _ _ _ _ _ _ _ _ _ _ _ _ _ _ _ _ _ _ _ _ _ _ _ _ _ _ _ _ _ _ _ _ _ _ _ _ _ _ _ _ _ _ _ _ _ _ _ _ _ _ _ _ _ _ _ _ _ _ _ _ _ _ _ _ _ _ _ _ _ _ _ _ _ _ _ w5 ⟨hr5, hb5⟩
  have hr05 : Row w5 w.heap.size ((List.replicate 32 0).map u8v) 30 := ((hr04.alloc _).alloc _).below hb5 hs04
  have hbw5 : Below w.heap.size w w5 := ((hbw4.alloc hbw4.size _).alloc (by simp; have := hbw4.size; omega) _).trans (hb5.mono hbw4.size)
  have hok := run_ok M nb
  have hs5 := hr5.lt
  clear hsrc4 hM hnb hb5 hr04 hbw4
  generalize Sha.run M nb = s at hr5 hok HS
  go_wp2
  refine rloop9 s w4.heap.size w5.heap.size _ _ _ _ _ _ _ _ _ _ _ _ _ _ _ _ _ _ _ _ _ _ _ _ _ _ _ _ _ _ _ _ _ _ _ _ _ _ _ _ _ _ _ _ _ _ _ _ _ _ _ _ _ _ _ _ _ _ _ _ _ _ _ _ _ _ _ _ _ _ _ _ _ _ _ _ _ _ _ _ _ _ _ _ _ _ _ _ _ _ _ _ _ _ _ _ _ _ _ _ _ _ _ _ _ _ _ _ _ _ _ _ _ _ _ _ _ _ _ _ _ _ _ _ _ _ _ _ _ _ _ _ _ _ _ _ _ _ _ _ _ _ _ _ _ _ _ _ _ _ _ _ _ _ _ _ _ _ _ _ _ _ _ _ _ _ _ _ _ _ _ _ _ _ _ _ _ _ _ _ _ _ _ _ _ _ _ _ _ _ _ _ _ _ _ _ _ _ _ _ _ _ _ _ _ _ _ _ _ _ _ _ _ _ _ _ _ _ _ _ _ _ _ _ _ _ _ _ _ _ _ _ _ _ _ _ _ _ hok (by omega) (hr5.alloc _) (Row.newAt w5 _ ((List.replicate 32 0).map u8v) 30 rfl) ?_
  intro _ _ _ _ _ _ _ _ _ _ _ _ _ _ _ _ _ _ w6 ⟨hr6, hg6, hs6⟩
  have hr06 := (hr05.alloc _).grown hg6 (by simp; omega)
  have hbw6 : Below w.heap.size w w6 := below_of_grown (hbw5.alloc hbw5.size _) hg6 (by simp; omega) (by omega)
  have hdl := digestOf_length s
  generalize Sha.digestOf s = D at hr6 HS hdl
  clear hr5 hr05 hbw5 hg6 hok
  go_wp2_with (first | (refine wpList_load_Row rfl 30 _ rfl w5.heap.size rfl 30 _ hr6 _ Tryz.underlying30 rfl 32 info39 (by simpa using hdl) ?_) | (refine wpList_store_Row rfl 30 _ _ rfl w.heap.size 0 (D.map u8v) rfl rfl 30 _ hr06 32 info39 (by simpa using hdl) (by simp) (one_u8 D) ?_; intro w7 hr7 hg7 hs7))
  refine post_Row 2 30 Tryz.results34 w.heap.size rfl 30 _ hr7 _ Tryz.underlying30 rfl 32 info39 (by rw [splice_all _ _ (by simpa using hdl)]; simpa using hdl) rfl ⟨?_, below_of_grown hbw6 hg7 hbw6.size (Nat.le_refl _)⟩
  rw [splice_all _ _ (by simpa using hdl), HS.out]
end Go.Proofs.YtamaejlbojbbeaaGreatDoor.Sb
