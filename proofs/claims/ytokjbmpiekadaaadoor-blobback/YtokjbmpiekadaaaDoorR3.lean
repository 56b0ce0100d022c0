/-
  The reference's Sum: the loop over the blocks.
-/
import Derived.Test.YtokjbmpiekadaaaDoorR4
import Derived.Test.YtokjbmpiekadaaaDoorR6
import Derived.Test.YtokjbmpiekadaaaDoorR8
namespace Go.Proofs.YtokjbmpiekadaaaDoor
open Go.RowKit
attribute [local go_sem] noPanic_exit noPanic_normal

theorem block_at (M : List Nat) (q j : Nat) (hj : j < 64) : ((M.drop (64 * q)).take 64).getD j 0 = M.getD (64 * q + j) 0 := by
  simp [hj]
theorem block_lt {M : List Nat} (hM : ∀ x ∈ M, x < 256) (q : Nat) : ∀ x ∈ (M.drop (64 * q)).take 64, x < 256 := fun x hx => hM x (List.mem_of_mem_drop (List.mem_of_mem_take hx))
theorem run_step (M : List Nat) (q n : Nat) (hn : Hid (n = 64)) (bl : List Nat) (hbl : Hid (bl = (M.drop (64 * q)).take 64)) : Sha.run M (q + 1) = Sha.plus (Sha.run M q) (Sha.rounds (Sha.run M q) (Sha.wl bl n) n) := by
  rw [hn.out, hbl.out]; rfl
theorem wl_facts (bl : List Nat) (h : ∀ x ∈ bl, x < 256) (n : Nat) (hn : Hid (n = 64)) : (Sha.wl bl n).length = 64 ∧ ∀ x ∈ Sha.wl bl n, x < 4294967296 :=
  ⟨by rw [wl_length, hn.out], wl_lt bl h n⟩
set_option maxHeartbeats 1000000 in
set_option maxRecDepth 1000000 in
theorem rloop3 (M : List Nat) (hM : ∀ x ∈ M, x < 256) (nb : Nat) (hnb : M.length = 64 * nb) (n : Nat) (hn : Hid (n = 64)) (g off C hb wb B : Nat) (w : World) (c0 c1 c2 c4 c5 c9 c10 c11 c12 c13 c14 c15 c16 c17 c18 c19 c20 c21 c22 c23 c24 c25 c26 c27 c28 c29 c30 c31 c32 c33 c34 c35 c36 c37 c38 c39 c40 c41 c42 c43 c44 c45 c46 c47 c48 c49 c50 c51 c52 c53 c54 c55 c56 c57 c58 c59 c60 c61 c62 c63 c64 c65 c66 c67 c68 c69 c70 c71 c72 c73 c74 c75 c76 c77 c78 c79 c80 c81 c82 c83 c84 c85 c86 c87 c88 c89 c90 c91 c92 c93 c94 c95 c96 c97 c98 c99 c100 c101 c102 c103 c104 c105 c106 c107 c108 c109 c110 c111 c112 c113 c114 c115 c116 c117 c118 c119 c120 c121 c122 c123 c124 c125 c126 c127 c128 c129 c130 c131 c132 c133 c134 c135 c136 c137 c138 c139 c140 c141 c142 c143 c144 c145 c146 c147 c148 c149 c150 c151 c152 c153 c154 c155 c156 c157 c158 c159 c160 c161 c162 c163 c164 c165 c166 c167 c168 c169 c170 c171 c172 c173 c174 c175 c176 c177 c178 c179 c180 c181 c182 c183 c184 c185 c186 c187 c188 c189 c190 c191 c192 c193 c194 c195 c196 c197 c198 c199 c200 c201 c202 c203 c204 c205 c206 c207 c208 c209 c210 c211 c212 c213 c214 c215 c216 c217 c218 c219 c220 c221 c222 c223 c224 c225 c226 c227 c228 c229 c230 c231 c232 c233 c234 c235 c236 c237 c238 : Value) (Q : Exit → Act → World → Prop)
    (hgB : g < B) (hBh : B ≤ hb) (hBw : B ≤ wb) (hne : hb ≠ wb) (hL : M.length ≤ 281474976710656) (hrow : Row w hb (Sha.H0.list.map u32v) 68) (hrw : Row w wb ((List.replicate 64 0).map u32v) 69) (hsrc : ∀ j, j < M.length → w.cell? ⟨g, off + j, none⟩ = some (u8v (M.getD j 0)))
    (hexit : ∀ (v8 v9 v10 v11 v12 v13 v14 v15 v16 v17 v18 v19 v20 v55 v56 v57 v58 v59 v60 v61 v62 v63 v64 v65 v66 v67 v68 v69 v70 v71 v72 v73 v74 v75 v76 v77 v78 v79 v80 v81 v82 v83 v84 v85 v86 v87 v88 v89 v90 v91 v92 v93 v94 v95 v96 v97 v98 v99 v100 v101 v102 v103 v104 v105 v106 v107 v108 v109 v110 v111 v112 v113 v114 v115 v116 v117 v118 v119 v120 v121 v122 v123 v124 v125 v126 v127 v128 v129 v130 v131 v132 v133 v134 v135 v136 v137 v138 v139 v140 v141 v142 v143 v144 v145 v146 v147 v148 v149 v150 v151 v152 v153 v154 v155 v156 v157 v158 v159 v160 v161 v162 v163 v164 v165 v166 v167 v168 v169 v170 v171 v172 v173 v174 v175 v176 v177 v178 v179 v180 v181 v182 v183 v184 v185 v186 v187 v188 v189 v190 v191 v192 v193 v194 v195 v196 v197 v198 v199 v200 v201 v202 v203 v204 v205 v206 v207 v208 v209 v210 v211 v212 v213 v214 v215 v216 v217 v218 v219 v220 : Value) (w' : World), Row w' hb ((Sha.run M nb).list.map u32v) 68 ∧ Below B w w' → Q (.exit 4) ⟨List.toArray (c0 :: c1 :: c2 :: .slice (some ⟨g, off, none⟩) M.length C :: c4 :: c5 :: .pointer (some ⟨hb, 0, none⟩) :: .pointer (some ⟨wb, 0, none⟩) :: v8 :: v9 :: v10 :: v11 :: v12 :: v13 :: v14 :: v15 :: v16 :: v17 :: v18 :: v19 :: v20 :: c21 :: c22 :: c23 :: c24 :: c25 :: c26 :: c27 :: c28 :: c29 :: c30 :: c31 :: c32 :: c33 :: c34 :: c35 :: c36 :: c37 :: c38 :: c39 :: c40 :: c41 :: c42 :: c43 :: c44 :: c45 :: c46 :: c47 :: c48 :: c49 :: c50 :: c51 :: c52 :: c53 :: c54 :: v55 :: v56 :: v57 :: v58 :: v59 :: v60 :: v61 :: v62 :: v63 :: v64 :: v65 :: v66 :: v67 :: v68 :: v69 :: v70 :: v71 :: v72 :: v73 :: v74 :: v75 :: v76 :: v77 :: v78 :: v79 :: v80 :: v81 :: v82 :: v83 :: v84 :: v85 :: v86 :: v87 :: v88 :: v89 :: v90 :: v91 :: v92 :: v93 :: v94 :: v95 :: v96 :: v97 :: v98 :: v99 :: v100 :: v101 :: v102 :: v103 :: v104 :: v105 :: v106 :: v107 :: v108 :: v109 :: v110 :: v111 :: v112 :: v113 :: v114 :: v115 :: v116 :: v117 :: v118 :: v119 :: v120 :: v121 :: v122 :: v123 :: v124 :: v125 :: v126 :: v127 :: v128 :: v129 :: v130 :: v131 :: v132 :: v133 :: v134 :: v135 :: v136 :: v137 :: v138 :: v139 :: v140 :: v141 :: v142 :: v143 :: v144 :: v145 :: v146 :: v147 :: v148 :: v149 :: v150 :: v151 :: v152 :: v153 :: v154 :: v155 :: v156 :: v157 :: v158 :: v159 :: v160 :: v161 :: v162 :: v163 :: v164 :: v165 :: v166 :: v167 :: v168 :: v169 :: v170 :: v171 :: v172 :: v173 :: v174 :: v175 :: v176 :: v177 :: v178 :: v179 :: v180 :: v181 :: v182 :: v183 :: v184 :: v185 :: v186 :: v187 :: v188 :: v189 :: v190 :: v191 :: v192 :: v193 :: v194 :: v195 :: v196 :: v197 :: v198 :: v199 :: v200 :: v201 :: v202 :: v203 :: v204 :: v205 :: v206 :: v207 :: v208 :: v209 :: v210 :: v211 :: v212 :: v213 :: v214 :: v215 :: v216 :: v217 :: v218 :: v219 :: v220 :: c221 :: c222 :: c223 :: c224 :: c225 :: c226 :: c227 :: c228 :: c229 :: c230 :: c231 :: c232 :: c233 :: c234 :: c235 :: c236 :: c237 :: c238 :: []), []⟩ w') :
    Code.wp Tryd.prog (.loop ((loopsIn (Tryd.f14.body.getD .skip)).getD 2 .skip)) Q ⟨List.toArray (c0 :: c1 :: c2 :: .slice (some ⟨g, off, none⟩) M.length C :: c4 :: c5 :: .pointer (some ⟨hb, 0, none⟩) :: .pointer (some ⟨wb, 0, none⟩) :: .int .i64 0 :: c9 :: c10 :: c11 :: c12 :: c13 :: c14 :: c15 :: c16 :: c17 :: c18 :: c19 :: c20 :: c21 :: c22 :: c23 :: c24 :: c25 :: c26 :: c27 :: c28 :: c29 :: c30 :: c31 :: c32 :: c33 :: c34 :: c35 :: c36 :: c37 :: c38 :: c39 :: c40 :: c41 :: c42 :: c43 :: c44 :: c45 :: c46 :: c47 :: c48 :: c49 :: c50 :: c51 :: c52 :: c53 :: c54 :: c55 :: c56 :: c57 :: c58 :: c59 :: c60 :: c61 :: c62 :: c63 :: c64 :: c65 :: c66 :: c67 :: c68 :: c69 :: c70 :: c71 :: c72 :: c73 :: c74 :: c75 :: c76 :: c77 :: c78 :: c79 :: c80 :: c81 :: c82 :: c83 :: c84 :: c85 :: c86 :: c87 :: c88 :: c89 :: c90 :: c91 :: c92 :: c93 :: c94 :: c95 :: c96 :: c97 :: c98 :: c99 :: c100 :: c101 :: c102 :: c103 :: c104 :: c105 :: c106 :: c107 :: c108 :: c109 :: c110 :: c111 :: c112 :: c113 :: c114 :: c115 :: c116 :: c117 :: c118 :: c119 :: c120 :: c121 :: c122 :: c123 :: c124 :: c125 :: c126 :: c127 :: c128 :: c129 :: c130 :: c131 :: c132 :: c133 :: c134 :: c135 :: c136 :: c137 :: c138 :: c139 :: c140 :: c141 :: c142 :: c143 :: c144 :: c145 :: c146 :: c147 :: c148 :: c149 :: c150 :: c151 :: c152 :: c153 :: c154 :: c155 :: c156 :: c157 :: c158 :: c159 :: c160 :: c161 :: c162 :: c163 :: c164 :: c165 :: c166 :: c167 :: c168 :: c169 :: c170 :: c171 :: c172 :: c173 :: c174 :: c175 :: c176 :: c177 :: c178 :: c179 :: c180 :: c181 :: c182 :: c183 :: c184 :: c185 :: c186 :: c187 :: c188 :: c189 :: c190 :: c191 :: c192 :: c193 :: c194 :: c195 :: c196 :: c197 :: c198 :: c199 :: c200 :: c201 :: c202 :: c203 :: c204 :: c205 :: c206 :: c207 :: c208 :: c209 :: c210 :: c211 :: c212 :: c213 :: c214 :: c215 :: c216 :: c217 :: c218 :: c219 :: c220 :: c221 :: c222 :: c223 :: c224 :: c225 :: c226 :: c227 :: c228 :: c229 :: c230 :: c231 :: c232 :: c233 :: c234 :: c235 :: c236 :: c237 :: c238 :: []), []⟩ w := by
  conv => arg 2; arg 1; whnf
  refine Code.wp_mono (noPanic_of Q) ?_
  go_loopw [8] (fun v w' => ∃ (q : Nat) (cs : List Nat), q ≤ nb ∧ v = .int .i64 ((64 * q : Nat) : Int) ∧ cs.length = 64 ∧ Row w' hb ((Sha.run M q).list.map u32v) 68 ∧ Row w' wb (cs.map u32v) 69 ∧ Below B w w') (fun v _ => M.length - (intOf v).toNat)
  case atStart => exact ⟨0, List.replicate 64 0, by omega, rfl, rfl, hrow, hrw, Below.refl _ _⟩
  case round =>
    clear hrow hrw
    obtain ⟨q, cs, hq, rfl, hc, hr, hrw, hb0⟩ := hrel
    obtain ⟨at_, hat⟩ : ∃ at_, at_ = 64 * q := ⟨_, rfl⟩
    obtain ⟨L, hLL⟩ : ∃ L, L = M.length := ⟨_, rfl⟩
    obtain ⟨s, hs, hsok⟩ : ∃ s, Hid (s = Sha.run M q) ∧ Ok s := ⟨_, rfl, run_ok M q⟩
    rw [← hs.out] at hr
    rw [← hat, ← hLL]
    have HAT : Hid (at_ = 64 * q) := hat
    have HLL : Hid (L = M.length) := hLL
    have HNB : Hid (M.length = 64 * nb) := hnb
    have HB0 : Hid (Below B w wr) := hb0
    by_cases hlt : q < nb
    · obtain ⟨bl, hbl⟩ : ∃ bl, Hid (bl = (M.drop (64 * q)).take 64) := ⟨_, rfl⟩
      have hby : ∀ x ∈ bl, x < 256 := by rw [hbl.out]; exact block_lt hM q
      have hsrc' : ∀ j, j < 64 → wr.cell? ⟨g, off + (at_ + j), none⟩ = some (u8v (bl.getD j 0)) := by
        intro j hj
        rw [hb0.cell (p := ⟨g, off + (at_ + j), none⟩) hgB, hsrc (at_ + j) (by omega), hbl.out, block_at M q j hj, hat]
      have hatL : at_ + 64 ≤ L := by omega
      have hL' : L ≤ 281474976710656 := by omega
      have k1 : (at_ : Int) < (L : Int) := by omega
      obtain ⟨hWl, hWb⟩ := wl_facts bl hby n hn
      have hrun := run_step M q n hn bl hbl
      rw [← hs.out] at hrun
      have HRUN : Hid (Sha.run M (q + 1) = Sha.plus s (Sha.rounds s (Sha.wl bl n) n)) := hrun
      have hsz := hb0.size
      have hhr := hr.lt
      clear hexit hsrc hM hnb hat hLL hL hrun hb0
      go_wp2
      refine rloop4 bl hby n hn g off L C wb at_ cs wr _ _ _ _ _ _ _ _ _ _ _ _ _ _ _ _ _ _ _ _ _ _ _ _ _ _ _ _ _ _ _ _ _ _ _ _ _ _ _ _ _ _ _ _ _ _ _ _ _ _ _ _ _ _ _ _ _ _ _ _ _ _ _ _ _ _ _ _ _ _ _ _ _ _ _ _ _ _ _ _ _ _ _ _ _ _ _ _ _ _ _ _ _ _ _ _ _ _ _ _ _ _ _ _ _ _ _ _ _ _ _ _ _ _ _ _ _ _ _ _ _ _ _ _ _ _ _ _ _ _ _ _ _ _ _ _ _ _ _ _ _ _ _ _ _ _ _ _ _ _ _ _ _ _ _ _ _ _ _ _ _ _ _ _ _ _ _ _ _ _ _ _ _ _ _ _ _ _ _ _ _ _ _ _ _ _ _ _ _ _ _ _ _ _ _ _ _ _ _ _ _ _ _ _ _ _ _ _ _ _ _ _ _ _ _ _ _ _ _ _ _ _ _ _ _ _ _ _ _ _ _ _ _ _ _ _ (by omega) hatL hL' hc hrw hsrc' ?_
      clear hsrc' hrw
      intro _ _ _ _ _ _ _ _ _ _ _ _ _ _ _ _ _ _ _ _ _ _ _ _ _ _ _ _ _ _ _ _ _ _ _ _ _ _ _ _ _ _ _ _ _ _ _ _ _ _ _ _ _ _ _ _ _ _ _ _ _ _ _ _ _ _ _ _ _ _ w2 ⟨hrw2, hg2, hs2⟩
      have hr2 := hr.grown hg2 (by simp; omega)
      generalize Sha.wl bl n = W at hWl hWb HRUN hrw2
      clear hr
      have HS2 : Hid (w2.heap.size = wr.heap.size) := hs2
      clear hs2
      have HB2 : Hid (Below B w w2) := below_of_grown HB0.out hg2 (by omega) hBw
      go_wp2_with (first | (refine wpList_load_Row rfl 68 _ rfl hb rfl 68 _ hr2 _ Tryd.underlying68 rfl 8 info68 rfl ?_) | (refine wpList_store_Row rfl 68 _ _ rfl w2.heap.size 0 (s.list.map u32v) rfl rfl 68 ((List.replicate 8 0).map u32v) (Row.newAt w2 _ _ 68 rfl) 8 info68 rfl (by simp) (one_u32 _) ?_; intro w3 hr3 hg3 hs3))
      rw [splice_all _ _ (by rfl)] at hr3
      have hhlt := hr2.lt
      have hwlt := hrw2.lt
      have hh3 := (hr2.alloc _).grown hg3 (by simp; omega)
      have hw3 := (hrw2.alloc _).grown hg3 (by simp; omega)
      have HB3 : Hid (Below B w w3) := below_of_grown (HB2.out.alloc (by omega) _) hg3 (by simp; omega) (by omega)
      have HS3 : Hid (w3.heap.size = (w2.alloc (.cells ((List.replicate 8 0).map u32v).toArray 68)).heap.size) := hs3
      clear hs3 hr2 hrw2 hg2
      refine rloop6 s hsok W hWl hWb n hn wb w2.heap.size w3 _ _ _ _ _ _ _ _ _ _ _ _ _ _ _ _ _ _ _ _ _ _ _ _ _ _ _ _ _ _ _ _ _ _ _ _ _ _ _ _ _ _ _ _ _ _ _ _ _ _ _ _ _ _ _ _ _ _ _ _ _ _ _ _ _ _ _ _ _ _ _ _ _ _ _ _ _ _ _ _ _ _ _ _ _ _ _ _ _ _ _ _ _ _ _ _ _ _ _ _ _ _ _ _ _ _ _ _ _ _ _ _ _ _ _ _ _ _ _ _ _ _ _ _ _ _ _ _ _ _ _ _ _ _ _ _ _ _ _ _ _ _ _ _ _ _ _ _ _ _ _ _ _ _ _ _ _ _ _ _ _ _ _ _ _ _ _ _ _ _ _ _ _ _ _ _ _ _ _ _ _ _ _ _ _ _ _ _ _ _ _ _ _ _ _ _ _ _ _ _ _ _ _ _ _ _ _ _ _ _ _ _ _ _ _ _ _ _ _ _ _ _ _ _ _ _ _ _ _ _ _ _ _ _ _ _ _ (by omega) hr3 hw3 ?_
      clear hr3 hw3 hg3
      intro _ _ _ _ _ _ _ _ _ _ _ _ _ _ _ _ _ _ _ _ _ _ _ _ _ _ _ _ _ _ _ _ _ _ _ _ _ _ _ _ _ _ _ _ _ _ _ _ _ _ _ _ _ _ _ _ _ _ _ _ _ _ _ _ _ _ _ _ _ _ _ _ _ _ _ _ _ _ _ _ _ _ _ _ _ _ w4 ⟨hr4, hw4, hg4⟩
      have hh4 := hh3.grown hg4 (by simp; omega)
      have HB4 : Hid (Below B w w4) := below_of_grown HB3.out hg4 (by have := hh3.lt; omega) (by omega)
      generalize Sha.rounds s W n = r at hr4 HRUN
      clear hh3 hg4
      go_wp2
      refine rloop8 s r hb w2.heap.size w4 _ _ _ _ _ _ _ _ _ _ _ _ _ _ _ _ _ _ _ _ _ _ _ _ _ _ _ _ _ _ _ _ _ _ _ _ _ _ _ _ _ _ _ _ _ _ _ _ _ _ _ _ _ _ _ _ _ _ _ _ _ _ _ _ _ _ _ _ _ _ _ _ _ _ _ _ _ _ _ _ _ _ _ _ _ _ _ _ _ _ _ _ _ _ _ _ _ _ _ _ _ _ _ _ _ _ _ _ _ _ _ _ _ _ _ _ _ _ _ _ _ _ _ _ _ _ _ _ _ _ _ _ _ _ _ _ _ _ _ _ _ _ _ _ _ _ _ _ _ _ _ _ _ _ _ _ _ _ _ _ _ _ _ _ _ _ _ _ _ _ _ _ _ _ _ _ _ _ _ _ _ _ _ _ _ _ _ _ _ _ _ _ _ _ _ _ _ _ _ _ _ _ _ _ _ _ _ _ _ _ _ _ _ _ _ _ _ _ _ _ _ _ _ _ _ _ _ _ _ _ _ _ _ _ _ _ _ (by omega) hh4 hr4 ?_
      clear hh4 hr4
      intro _ _ _ _ _ _ _ _ _ _ _ _ _ _ w5 ⟨hr5, hg5, hs5⟩
      have hw5 := hw4.grown hg5 (by simp; omega)
      have HB5 : Hid (Below B w w5) := below_of_grown HB4.out hg5 (by have := hw4.lt; omega) (by omega)
      clear hg5 hs5 hw4
      go_wp2
      go_roundw
      case rel =>
        go_light
        have eA := HAT.out
        refine ⟨q + 1, W, by omega, by go_num, hWl, ?_, hw5, HB5.out⟩
        rw [HRUN.out]; exact hr5
      case measure =>
        have eA := HAT.out
        have eL := HLL.out
        have eN := HNB.out
        simp [intOf]; omega
    · have HK : Hid (q = nb) := by show q = nb; omega
      have k1 : (L : Int) ≤ (at_ : Int) := by omega
      clear hsrc hM hat hLL
      go_wp2
      obtain rfl := HLL.out
      rw [hs.out, HK.out] at hr
      exact hexit _ _ _ _ _ _ _ _ _ _ _ _ _ _ _ _ _ _ _ _ _ _ _ _ _ _ _ _ _ _ _ _ _ _ _ _ _ _ _ _ _ _ _ _ _ _ _ _ _ _ _ _ _ _ _ _ _ _ _ _ _ _ _ _ _ _ _ _ _ _ _ _ _ _ _ _ _ _ _ _ _ _ _ _ _ _ _ _ _ _ _ _ _ _ _ _ _ _ _ _ _ _ _ _ _ _ _ _ _ _ _ _ _ _ _ _ _ _ _ _ _ _ _ _ _ _ _ _ _ _ _ _ _ _ _ _ _ _ _ _ _ _ _ _ _ _ _ _ _ _ _ _ _ _ _ _ _ _ _ _ _ _ _ _ _ _ _ _ _ _ _ _ _ _ _ _ _ _ _ _ ⟨hr, HB0.out⟩

end Go.Proofs.YtokjbmpiekadaaaDoor
