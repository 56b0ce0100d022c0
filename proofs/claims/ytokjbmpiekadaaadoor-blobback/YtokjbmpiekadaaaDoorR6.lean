/-
  The reference's Sum: the loop of the rounds.
-/
import Derived.Test.YtokjbmpiekadaaaDoorR7
namespace Go.Proofs.YtokjbmpiekadaaaDoor
open Go.RowKit
attribute [local go_sem] noPanic_exit noPanic_normal
attribute [local go_sem ↓] Go.wp_at_zero Go.wp_at_succ

theorem ch_form2 (e f g : Nat) (he : e < 4294967296) (hf : f < 4294967296) (hg : g < 4294967296) :
    bits .xor .u32 (bits .and .u32 (e : Int) (f : Int)) (bits .and .u32 (bits .xor .u32 4294967295 (e : Int)) (g : Int)) = (Sha.ch e f g : Int) := ch_form e f g he hf hg
theorem rd_form (r : Sha.St) (kt wt : Nat) : ((r.d : Int) + ((r.h : Int) + (Sha.S1 r.e : Int) + (Sha.ch r.e r.f r.g : Int) + (kt : Int) + (wt : Int))) % 4294967296 = (((r.d + Sha.t1 r kt wt) % 4294967296 : Nat) : Int) := by
  unfold Sha.t1; omega
theorem ra_form (r : Sha.St) (kt wt : Nat) : ((r.h : Int) + (Sha.S1 r.e : Int) + (Sha.ch r.e r.f r.g : Int) + (kt : Int) + (wt : Int) + ((Sha.S0 r.a : Int) + (Sha.maj r.a r.b r.c : Int))) % 4294967296 = (((Sha.t1 r kt wt + Sha.t2 r) % 4294967296 : Nat) : Int) := by
  unfold Sha.t1 Sha.t2; omega
theorem grownBy_drewN (w : World) (n : Nat) (row : Option Nat) : w.grownBy (w.drewN n) row := grown_of_below (below_drewN (Below.refl _ _) n)
theorem constant_kt (t kt : Nat) (ht : t < 64) (hk : Hid (kt = Sha.K.getD t 0)) (w : World) :
    Calls Tryd.prog 28 #[.int .i64 (t : Int)] w fun e w' => e = .returned (.int .u32 (kt : Int)) ∧ Below w.heap.size w w' := by
  have h := constant_any t ht w
  rw [← hk.out] at h
  exact h
set_option maxHeartbeats 1000000 in
set_option maxRecDepth 1000000 in
theorem rloop6 (s : Sha.St) (hok : Ok s) (W : List Nat) (hWl : W.length = 64) (hWb : ∀ x ∈ W, x < 4294967296) (n : Nat) (hn : Hid (n = 64)) (wb sb : Nat) (w : World) (c0 c1 c2 c3 c4 c5 c6 c8 c9 c10 c11 c12 c15 c16 c17 c18 c19 c20 c21 c22 c23 c24 c25 c26 c27 c28 c29 c30 c31 c32 c33 c34 c35 c36 c37 c38 c39 c40 c41 c42 c43 c44 c45 c46 c47 c48 c49 c50 c51 c52 c53 c54 c55 c56 c57 c58 c59 c60 c61 c62 c63 c64 c65 c66 c67 c68 c69 c70 c71 c72 c73 c74 c75 c76 c77 c78 c79 c80 c81 c82 c83 c84 c85 c86 c87 c88 c89 c90 c91 c92 c93 c94 c95 c96 c97 c98 c99 c100 c101 c102 c103 c104 c105 c106 c107 c108 c109 c110 c111 c112 c113 c114 c115 c116 c117 c118 c119 c120 c121 c122 c123 c124 c125 c126 c127 c128 c129 c130 c131 c132 c133 c134 c135 c136 c137 c138 c139 c140 c141 c142 c143 c144 c145 c146 c147 c148 c149 c150 c151 c152 c153 c154 c155 c156 c157 c158 c159 c160 c161 c162 c163 c164 c165 c166 c167 c168 c169 c170 c171 c172 c173 c174 c175 c176 c177 c178 c179 c180 c181 c182 c183 c184 c185 c186 c187 c188 c189 c190 c191 c192 c193 c194 c195 c196 c197 c198 c199 c200 c201 c202 c203 c204 c205 c206 c207 c208 c209 c210 c211 c212 c213 c214 c215 c216 c217 c218 c219 c220 c221 c222 c223 c224 c225 c226 c227 c228 c229 c230 c231 c232 c233 c234 c235 c236 c237 c238 : Value) (Q : Exit → Act → World → Prop)
    (hne : sb ≠ wb) (hrow : Row w sb (s.list.map u32v) 68) (hrw : Row w wb (W.map u32v) 69)
    (hexit : ∀ (v14 v15 v16 v17 v18 v19 v128 v129 v130 v131 v132 v133 v134 v135 v136 v137 v138 v139 v140 v141 v142 v143 v144 v145 v146 v147 v148 v149 v150 v151 v152 v153 v154 v155 v156 v157 v158 v159 v160 v161 v162 v163 v164 v165 v166 v167 v168 v169 v170 v171 v172 v173 v174 v175 v176 v177 v178 v179 v180 v181 v182 v183 v184 v185 v186 v187 v188 v189 v190 v191 v192 v193 v194 v195 v196 v197 v198 v199 v200 v201 v202 v203 v204 v205 v206 v207 : Value) (w' : World), Row w' sb ((Sha.rounds s W n).list.map u32v) 68 ∧ Row w' wb (W.map u32v) 69 ∧ w.grownBy w' (some sb) → Q (.exit 10) ⟨List.toArray (c0 :: c1 :: c2 :: c3 :: c4 :: c5 :: c6 :: .pointer (some ⟨wb, 0, none⟩) :: c8 :: c9 :: c10 :: c11 :: c12 :: .pointer (some ⟨sb, 0, none⟩) :: v14 :: v15 :: v16 :: v17 :: v18 :: v19 :: c20 :: c21 :: c22 :: c23 :: c24 :: c25 :: c26 :: c27 :: c28 :: c29 :: c30 :: c31 :: c32 :: c33 :: c34 :: c35 :: c36 :: c37 :: c38 :: c39 :: c40 :: c41 :: c42 :: c43 :: c44 :: c45 :: c46 :: c47 :: c48 :: c49 :: c50 :: c51 :: c52 :: c53 :: c54 :: c55 :: c56 :: c57 :: c58 :: c59 :: c60 :: c61 :: c62 :: c63 :: c64 :: c65 :: c66 :: c67 :: c68 :: c69 :: c70 :: c71 :: c72 :: c73 :: c74 :: c75 :: c76 :: c77 :: c78 :: c79 :: c80 :: c81 :: c82 :: c83 :: c84 :: c85 :: c86 :: c87 :: c88 :: c89 :: c90 :: c91 :: c92 :: c93 :: c94 :: c95 :: c96 :: c97 :: c98 :: c99 :: c100 :: c101 :: c102 :: c103 :: c104 :: c105 :: c106 :: c107 :: c108 :: c109 :: c110 :: c111 :: c112 :: c113 :: c114 :: c115 :: c116 :: c117 :: c118 :: c119 :: c120 :: c121 :: c122 :: c123 :: c124 :: c125 :: c126 :: c127 :: v128 :: v129 :: v130 :: v131 :: v132 :: v133 :: v134 :: v135 :: v136 :: v137 :: v138 :: v139 :: v140 :: v141 :: v142 :: v143 :: v144 :: v145 :: v146 :: v147 :: v148 :: v149 :: v150 :: v151 :: v152 :: v153 :: v154 :: v155 :: v156 :: v157 :: v158 :: v159 :: v160 :: v161 :: v162 :: v163 :: v164 :: v165 :: v166 :: v167 :: v168 :: v169 :: v170 :: v171 :: v172 :: v173 :: v174 :: v175 :: v176 :: v177 :: v178 :: v179 :: v180 :: v181 :: v182 :: v183 :: v184 :: v185 :: v186 :: v187 :: v188 :: v189 :: v190 :: v191 :: v192 :: v193 :: v194 :: v195 :: v196 :: v197 :: v198 :: v199 :: v200 :: v201 :: v202 :: v203 :: v204 :: v205 :: v206 :: v207 :: c208 :: c209 :: c210 :: c211 :: c212 :: c213 :: c214 :: c215 :: c216 :: c217 :: c218 :: c219 :: c220 :: c221 :: c222 :: c223 :: c224 :: c225 :: c226 :: c227 :: c228 :: c229 :: c230 :: c231 :: c232 :: c233 :: c234 :: c235 :: c236 :: c237 :: c238 :: []), []⟩ w') :
    Code.wp Tryd.prog (.loop ((loopsIn ((loopsIn (Tryd.f14.body.getD .skip)).getD 2 .skip)).getD 1 .skip)) Q ⟨List.toArray (c0 :: c1 :: c2 :: c3 :: c4 :: c5 :: c6 :: .pointer (some ⟨wb, 0, none⟩) :: c8 :: c9 :: c10 :: c11 :: c12 :: .pointer (some ⟨sb, 0, none⟩) :: .int .i64 0 :: c15 :: c16 :: c17 :: c18 :: c19 :: c20 :: c21 :: c22 :: c23 :: c24 :: c25 :: c26 :: c27 :: c28 :: c29 :: c30 :: c31 :: c32 :: c33 :: c34 :: c35 :: c36 :: c37 :: c38 :: c39 :: c40 :: c41 :: c42 :: c43 :: c44 :: c45 :: c46 :: c47 :: c48 :: c49 :: c50 :: c51 :: c52 :: c53 :: c54 :: c55 :: c56 :: c57 :: c58 :: c59 :: c60 :: c61 :: c62 :: c63 :: c64 :: c65 :: c66 :: c67 :: c68 :: c69 :: c70 :: c71 :: c72 :: c73 :: c74 :: c75 :: c76 :: c77 :: c78 :: c79 :: c80 :: c81 :: c82 :: c83 :: c84 :: c85 :: c86 :: c87 :: c88 :: c89 :: c90 :: c91 :: c92 :: c93 :: c94 :: c95 :: c96 :: c97 :: c98 :: c99 :: c100 :: c101 :: c102 :: c103 :: c104 :: c105 :: c106 :: c107 :: c108 :: c109 :: c110 :: c111 :: c112 :: c113 :: c114 :: c115 :: c116 :: c117 :: c118 :: c119 :: c120 :: c121 :: c122 :: c123 :: c124 :: c125 :: c126 :: c127 :: c128 :: c129 :: c130 :: c131 :: c132 :: c133 :: c134 :: c135 :: c136 :: c137 :: c138 :: c139 :: c140 :: c141 :: c142 :: c143 :: c144 :: c145 :: c146 :: c147 :: c148 :: c149 :: c150 :: c151 :: c152 :: c153 :: c154 :: c155 :: c156 :: c157 :: c158 :: c159 :: c160 :: c161 :: c162 :: c163 :: c164 :: c165 :: c166 :: c167 :: c168 :: c169 :: c170 :: c171 :: c172 :: c173 :: c174 :: c175 :: c176 :: c177 :: c178 :: c179 :: c180 :: c181 :: c182 :: c183 :: c184 :: c185 :: c186 :: c187 :: c188 :: c189 :: c190 :: c191 :: c192 :: c193 :: c194 :: c195 :: c196 :: c197 :: c198 :: c199 :: c200 :: c201 :: c202 :: c203 :: c204 :: c205 :: c206 :: c207 :: c208 :: c209 :: c210 :: c211 :: c212 :: c213 :: c214 :: c215 :: c216 :: c217 :: c218 :: c219 :: c220 :: c221 :: c222 :: c223 :: c224 :: c225 :: c226 :: c227 :: c228 :: c229 :: c230 :: c231 :: c232 :: c233 :: c234 :: c235 :: c236 :: c237 :: c238 :: []), []⟩ w := by
  conv => arg 2; arg 1; whnf
  refine Code.wp_mono (noPanic_of Q) ?_
  go_loopw [14] (fun v w' => ∃ (t : Nat) (r : Sha.St), t ≤ 64 ∧ v = .int .i64 (t : Int) ∧ r = Sha.rounds s W t ∧ Row w' sb (r.list.map u32v) 68 ∧ Row w' wb (W.map u32v) 69 ∧ w.grownBy w' (some sb)) (fun v _ => 64 - (intOf v).toNat)
  case atStart => exact ⟨0, s, by omega, rfl, rfl, hrow, hrw, grownBy_refl _ _⟩
  case round =>
    clear hrow hrw
    obtain ⟨t, r, ht, rfl, hrr, hr, hrw, hg⟩ := hrel
    have HG : Hid (w.grownBy wr (some sb)) := hg
    have HR : Hid (r = Sha.rounds s W t) := hrr
    have hrok : Ok r := by rw [hrr]; exact rounds_ok hok W t
    clear hg hrr
    by_cases hlt : t < 64
    · obtain ⟨oa, ob, oc, od, oe, of, og, oh⟩ := hrok
      obtain ⟨kt, hkt, hktb⟩ : ∃ kt, Hid (kt = Sha.K.getD t 0) ∧ kt < 4294967296 := ⟨_, rfl, getD_lt (by decide) t⟩
      have hstep : Hid (Sha.rounds s W (t + 1) = Sha.rnd r kt (W.getD t 0)) := by show _ = _; rw [HR.out, hkt.out]; rfl
      have hwt : W.getD t 0 < 4294967296 := getD_lt hWb t
      have c0 : wr.cell? ⟨sb, 0, none⟩ = some (.int .u32 (r.a : Int)) := hr.cell 0
      have c1 : wr.cell? ⟨sb, 1, none⟩ = some (.int .u32 (r.b : Int)) := hr.cell 1
      have c2 : wr.cell? ⟨sb, 2, none⟩ = some (.int .u32 (r.c : Int)) := hr.cell 2
      have c4 : wr.cell? ⟨sb, 4, none⟩ = some (.int .u32 (r.e : Int)) := hr.cell 4
      have c5 : wr.cell? ⟨sb, 5, none⟩ = some (.int .u32 (r.f : Int)) := hr.cell 5
      have c6 : wr.cell? ⟨sb, 6, none⟩ = some (.int .u32 (r.g : Int)) := hr.cell 6
      have c7 : wr.cell? ⟨sb, 7, none⟩ = some (.int .u32 (r.h : Int)) := hr.cell 7
      have cw : wr.cell? ⟨wb, t, none⟩ = some (.int .u32 ((W.getD t 0 : Nat) : Int)) := hrw.cellMap t (by omega)
      generalize W.getD t 0 = wt at cw hstep hwt
      have hrd : Row wr.drew sb (r.list.map u32v) 68 := hr
      have hwd : Row wr.drew wb (W.map u32v) 69 := hrw
      have k1 : (0 : Int) ≤ (t : Int) := by omega
      have k2 : (t : Int) < 64 := by omega
      have HWB : Hid (∀ x ∈ W, x < 4294967296) := hWb
      clear hexit hWb hok hr hrw
      go_wp2
      go_region_held3 (fun w' => w'.cell? ⟨sb, 5, none⟩ = some (.int .u32 (r.f : Int)) ∧ w'.cell? ⟨sb, 6, none⟩ = some (.int .u32 (r.g : Int)) ∧ w'.cell? ⟨sb, 7, none⟩ = some (.int .u32 (r.h : Int)) ∧ w'.cell? ⟨wb, t, none⟩ = some (.int .u32 (wt : Int))) (go_keep) (first | (go_at_call 27; refine (turn_k _ _ (by assumption) (by decide) (by decide) _).mono ?_; rintro e w' ⟨rfl, rfl⟩) | (go_at_call 28; refine (constant_kt t kt hlt hkt wr.drew).mono ?_; rintro e w3 ⟨rfl, hbk⟩; have hr3 := Row.below hrd hbk hrd.lt; have hw3 := Row.below hwd hbk hwd.lt; have q1 : w3.cell? ⟨sb, 1, none⟩ = some (.int .u32 (r.b : Int)) := hr3.cell 1; have q2 : w3.cell? ⟨sb, 2, none⟩ = some (.int .u32 (r.c : Int)) := hr3.cell 2; have q5 : w3.cell? ⟨sb, 5, none⟩ = some (.int .u32 (r.f : Int)) := hr3.cell 5; have q6 : w3.cell? ⟨sb, 6, none⟩ = some (.int .u32 (r.g : Int)) := hr3.cell 6; have q7 : w3.cell? ⟨sb, 7, none⟩ = some (.int .u32 (r.h : Int)) := hr3.cell 7; have qw : w3.cell? ⟨wb, t, none⟩ = some (.int .u32 (wt : Int)) := (hbk.cell (World.block_lt_of_cell? wr.drew ⟨wb, t, none⟩ cw)).trans cw))
      clear c0 c1 c2 c4 c5 c6 c7 cw hrd hwd
      go_wp2
      go_quiet ((go_at_call 27; exact Calls.quiet_of_same (turn_k _ _ (by assumption) (by decide) (by decide) _)))
      go_wp2
      refine rloop7 r sb _ _ _ _ _ _ _ _ _ _ _ _ _ _ _ _ _ _ _ _ _ _ _ _ _ _ _ _ _ _ _ _ _ _ _ _ _ _ _ _ _ _ _ _ _ _ _ _ _ _ _ _ _ _ _ _ _ _ _ _ _ _ _ _ _ _ _ _ _ _ _ _ _ _ _ _ _ _ _ _ _ _ _ _ _ _ _ _ _ _ _ _ _ _ _ _ _ _ _ _ _ _ _ _ _ _ _ _ _ _ _ _ _ _ _ _ _ _ _ _ _ _ _ _ _ _ _ _ _ _ _ _ _ _ _ _ _ _ _ _ _ _ _ _ _ _ _ _ _ _ _ _ _ _ _ _ _ _ _ _ _ _ _ _ _ _ _ _ _ _ _ _ _ _ _ _ _ _ _ _ _ _ _ _ _ _ _ _ _ _ _ _ _ _ _ _ _ _ _ _ _ _ _ _ _ _ _ _ _ _ _ _ _ _ _ _ _ _ _ _ _ _ _ _ _ _ _ _ _ _ _ _ _ _ _ _ _ _ _ (hr3.drewN _) ?_
      intro _ _ _ _ _ _ _ _ _ _ _ w4 ⟨hr4, hg4, hs4⟩
      have d0 : w4.cell? ⟨sb, 0, none⟩ = some (.int .u32 (r.a : Int)) := hr4.cell 0
      have d4 : w4.cell? ⟨sb, 4, none⟩ = some (.int .u32 (r.d : Int)) := hr4.cell 4
      have f0 := hr4.frozen 0
      have f4 := hr4.frozen 4
      clear q1 q2 q5 q6 q7 qw
      go_wp2
      go_roundw
      case rel =>
        go_light
        rw [S1_form r.e oe, S0_form r.a oa, maj_form r.a r.b r.c oa ob oc, ch_form2 r.e r.f r.g oe of og, rd_form, ra_form]
        refine ⟨t + 1, Sha.rnd r kt wt, by omega, by go_num, hstep.out.symm, (hr4.set_same 4 _).set_same 0 _, ?_, ?_⟩
        · exact (((hw3.drewN _).grown hg4 (by simp; omega)).set_other _ _ (by simp; omega)).set_other _ _ (by simp; omega)
        · exact grownBy_trans (grownBy_trans (grownBy_trans (grownBy_trans (grownBy_trans (grownBy_trans HG.out (grownBy_drew wr _)) (grown_of_below hbk)) (grownBy_drewN w3 _ _)) hg4) (grownBy_setCell w4 ⟨sb, 4, none⟩ _)) (grownBy_setCell _ ⟨sb, 0, none⟩ _)
      case measure => simp [intOf]; omega
    · have HK : Hid (t = 64) := by show t = 64; omega
      go_wp2
      rw [HR.out, HK.out, ← hn.out] at hr
      exact hexit _ _ _ _ _ _ _ _ _ _ _ _ _ _ _ _ _ _ _ _ _ _ _ _ _ _ _ _ _ _ _ _ _ _ _ _ _ _ _ _ _ _ _ _ _ _ _ _ _ _ _ _ _ _ _ _ _ _ _ _ _ _ _ _ _ _ _ _ _ _ _ _ _ _ _ _ _ _ _ _ _ _ _ _ _ _ _ ⟨hr, hrw, HG.out⟩

end Go.Proofs.YtokjbmpiekadaaaDoor
