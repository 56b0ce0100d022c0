/-
  The reference's Sum: the loop that makes a block's words.
-/
import Derived.Test.YtokjbmpiekadaaaDoorR5
namespace Go.Proofs.YtokjbmpiekadaaaDoor
open Go.RowKit
attribute [local go_sem] noPanic_exit noPanic_normal
attribute [local go_sem ↓] Go.wp_at_zero Go.wp_at_succ

theorem wnext_form2 (y2 y7 y15 y16 : Nat) : ((((Sha.s1 y2 : Int) + (y7 : Int)) % 4294967296 + (Sha.s0 y15 : Int)) % 4294967296 + (y16 : Int)) % 4294967296 = (((Sha.s1 y2 + y7 + Sha.s0 y15 + y16) % 4294967296 : Nat) : Int) := by omega
set_option maxHeartbeats 1000000 in
set_option maxRecDepth 1000000 in
theorem rloop4 (bl : List Nat) (hby : ∀ x ∈ bl, x < 256) (n : Nat) (hn : Hid (n = 64)) (g off L C wb at_ : Nat) (cs0 : List Nat) (w : World) (c0 c1 c2 c4 c5 c6 c10 c11 c12 c13 c14 c15 c16 c17 c18 c19 c20 c21 c22 c23 c24 c25 c26 c27 c28 c29 c30 c31 c32 c33 c34 c35 c36 c37 c38 c39 c40 c41 c42 c43 c44 c45 c46 c47 c48 c49 c50 c51 c52 c53 c54 c55 c56 c57 c58 c59 c60 c61 c62 c63 c64 c65 c66 c67 c68 c69 c70 c71 c72 c73 c74 c75 c76 c77 c78 c79 c80 c81 c82 c83 c84 c85 c86 c87 c88 c89 c90 c91 c92 c93 c94 c95 c96 c97 c98 c99 c100 c101 c102 c103 c104 c105 c106 c107 c108 c109 c110 c111 c112 c113 c114 c115 c116 c117 c118 c119 c120 c121 c122 c123 c124 c125 c126 c127 c128 c129 c130 c131 c132 c133 c134 c135 c136 c137 c138 c139 c140 c141 c142 c143 c144 c145 c146 c147 c148 c149 c150 c151 c152 c153 c154 c155 c156 c157 c158 c159 c160 c161 c162 c163 c164 c165 c166 c167 c168 c169 c170 c171 c172 c173 c174 c175 c176 c177 c178 c179 c180 c181 c182 c183 c184 c185 c186 c187 c188 c189 c190 c191 c192 c193 c194 c195 c196 c197 c198 c199 c200 c201 c202 c203 c204 c205 c206 c207 c208 c209 c210 c211 c212 c213 c214 c215 c216 c217 c218 c219 c220 c221 c222 c223 c224 c225 c226 c227 c228 c229 c230 c231 c232 c233 c234 c235 c236 c237 c238 : Value) (Q : Exit → Act → World → Prop)
    (hne : wb ≠ g) (hat : at_ + 64 ≤ L) (hL : L ≤ 281474976710656) (hc : cs0.length = 64) (hrow : Row w wb (cs0.map u32v) 69) (hsrc : ∀ j, j < 64 → w.cell? ⟨g, off + (at_ + j), none⟩ = some (u8v (bl.getD j 0)))
    (hexit : ∀ (v9 v10 v11 v12 v61 v62 v63 v64 v65 v66 v67 v68 v69 v70 v71 v72 v73 v74 v75 v76 v77 v78 v79 v80 v81 v82 v83 v84 v85 v86 v87 v88 v89 v90 v91 v92 v93 v94 v95 v96 v97 v98 v99 v100 v101 v102 v103 v104 v105 v106 v107 v108 v109 v110 v111 v112 v113 v114 v115 v116 v117 v118 v119 v120 v121 v122 v123 v124 v125 v126 : Value) (w' : World), Row w' wb ((Sha.wl bl n).map u32v) 69 ∧ w.grownBy w' (some wb) ∧ w'.heap.size = w.heap.size → Q (.exit 6) ⟨List.toArray (c0 :: c1 :: c2 :: .slice (some ⟨g, off, none⟩) L C :: c4 :: c5 :: c6 :: .pointer (some ⟨wb, 0, none⟩) :: .int .i64 (at_ : Int) :: v9 :: v10 :: v11 :: v12 :: c13 :: c14 :: c15 :: c16 :: c17 :: c18 :: c19 :: c20 :: c21 :: c22 :: c23 :: c24 :: c25 :: c26 :: c27 :: c28 :: c29 :: c30 :: c31 :: c32 :: c33 :: c34 :: c35 :: c36 :: c37 :: c38 :: c39 :: c40 :: c41 :: c42 :: c43 :: c44 :: c45 :: c46 :: c47 :: c48 :: c49 :: c50 :: c51 :: c52 :: c53 :: c54 :: c55 :: c56 :: c57 :: c58 :: c59 :: c60 :: v61 :: v62 :: v63 :: v64 :: v65 :: v66 :: v67 :: v68 :: v69 :: v70 :: v71 :: v72 :: v73 :: v74 :: v75 :: v76 :: v77 :: v78 :: v79 :: v80 :: v81 :: v82 :: v83 :: v84 :: v85 :: v86 :: v87 :: v88 :: v89 :: v90 :: v91 :: v92 :: v93 :: v94 :: v95 :: v96 :: v97 :: v98 :: v99 :: v100 :: v101 :: v102 :: v103 :: v104 :: v105 :: v106 :: v107 :: v108 :: v109 :: v110 :: v111 :: v112 :: v113 :: v114 :: v115 :: v116 :: v117 :: v118 :: v119 :: v120 :: v121 :: v122 :: v123 :: v124 :: v125 :: v126 :: c127 :: c128 :: c129 :: c130 :: c131 :: c132 :: c133 :: c134 :: c135 :: c136 :: c137 :: c138 :: c139 :: c140 :: c141 :: c142 :: c143 :: c144 :: c145 :: c146 :: c147 :: c148 :: c149 :: c150 :: c151 :: c152 :: c153 :: c154 :: c155 :: c156 :: c157 :: c158 :: c159 :: c160 :: c161 :: c162 :: c163 :: c164 :: c165 :: c166 :: c167 :: c168 :: c169 :: c170 :: c171 :: c172 :: c173 :: c174 :: c175 :: c176 :: c177 :: c178 :: c179 :: c180 :: c181 :: c182 :: c183 :: c184 :: c185 :: c186 :: c187 :: c188 :: c189 :: c190 :: c191 :: c192 :: c193 :: c194 :: c195 :: c196 :: c197 :: c198 :: c199 :: c200 :: c201 :: c202 :: c203 :: c204 :: c205 :: c206 :: c207 :: c208 :: c209 :: c210 :: c211 :: c212 :: c213 :: c214 :: c215 :: c216 :: c217 :: c218 :: c219 :: c220 :: c221 :: c222 :: c223 :: c224 :: c225 :: c226 :: c227 :: c228 :: c229 :: c230 :: c231 :: c232 :: c233 :: c234 :: c235 :: c236 :: c237 :: c238 :: []), []⟩ w') :
    Code.wp Tryd.prog (.loop ((loopsIn ((loopsIn (Tryd.f14.body.getD .skip)).getD 2 .skip)).getD 0 .skip)) Q ⟨List.toArray (c0 :: c1 :: c2 :: .slice (some ⟨g, off, none⟩) L C :: c4 :: c5 :: c6 :: .pointer (some ⟨wb, 0, none⟩) :: .int .i64 (at_ : Int) :: .int .i64 0 :: c10 :: c11 :: c12 :: c13 :: c14 :: c15 :: c16 :: c17 :: c18 :: c19 :: c20 :: c21 :: c22 :: c23 :: c24 :: c25 :: c26 :: c27 :: c28 :: c29 :: c30 :: c31 :: c32 :: c33 :: c34 :: c35 :: c36 :: c37 :: c38 :: c39 :: c40 :: c41 :: c42 :: c43 :: c44 :: c45 :: c46 :: c47 :: c48 :: c49 :: c50 :: c51 :: c52 :: c53 :: c54 :: c55 :: c56 :: c57 :: c58 :: c59 :: c60 :: c61 :: c62 :: c63 :: c64 :: c65 :: c66 :: c67 :: c68 :: c69 :: c70 :: c71 :: c72 :: c73 :: c74 :: c75 :: c76 :: c77 :: c78 :: c79 :: c80 :: c81 :: c82 :: c83 :: c84 :: c85 :: c86 :: c87 :: c88 :: c89 :: c90 :: c91 :: c92 :: c93 :: c94 :: c95 :: c96 :: c97 :: c98 :: c99 :: c100 :: c101 :: c102 :: c103 :: c104 :: c105 :: c106 :: c107 :: c108 :: c109 :: c110 :: c111 :: c112 :: c113 :: c114 :: c115 :: c116 :: c117 :: c118 :: c119 :: c120 :: c121 :: c122 :: c123 :: c124 :: c125 :: c126 :: c127 :: c128 :: c129 :: c130 :: c131 :: c132 :: c133 :: c134 :: c135 :: c136 :: c137 :: c138 :: c139 :: c140 :: c141 :: c142 :: c143 :: c144 :: c145 :: c146 :: c147 :: c148 :: c149 :: c150 :: c151 :: c152 :: c153 :: c154 :: c155 :: c156 :: c157 :: c158 :: c159 :: c160 :: c161 :: c162 :: c163 :: c164 :: c165 :: c166 :: c167 :: c168 :: c169 :: c170 :: c171 :: c172 :: c173 :: c174 :: c175 :: c176 :: c177 :: c178 :: c179 :: c180 :: c181 :: c182 :: c183 :: c184 :: c185 :: c186 :: c187 :: c188 :: c189 :: c190 :: c191 :: c192 :: c193 :: c194 :: c195 :: c196 :: c197 :: c198 :: c199 :: c200 :: c201 :: c202 :: c203 :: c204 :: c205 :: c206 :: c207 :: c208 :: c209 :: c210 :: c211 :: c212 :: c213 :: c214 :: c215 :: c216 :: c217 :: c218 :: c219 :: c220 :: c221 :: c222 :: c223 :: c224 :: c225 :: c226 :: c227 :: c228 :: c229 :: c230 :: c231 :: c232 :: c233 :: c234 :: c235 :: c236 :: c237 :: c238 :: []), []⟩ w := by
  conv => arg 2; arg 1; whnf
  refine Code.wp_mono (noPanic_of Q) ?_
  go_loopw [9] (fun v w' => ∃ (t : Nat) (cs : List Nat), t ≤ 64 ∧ v = .int .i64 (t : Int) ∧ cs.length = 64 ∧ cs.take t = Sha.wl bl t ∧ Row w' wb (cs.map u32v) 69 ∧ w.grownBy w' (some wb) ∧ w'.heap.size = w.heap.size) (fun v _ => 64 - (intOf v).toNat)
  case atStart => exact ⟨0, cs0, by omega, rfl, hc, rfl, hrow, grownBy_refl _ _, rfl⟩
  case round =>
    clear hrow hc
    obtain ⟨t, cs, ht, rfl, hc, htk, hr, hg, hs⟩ := hrel
    have HG : Hid (w.grownBy wr (some wb)) := hg
    have HS : Hid (wr.heap.size = w.heap.size) := hs
    have HTK : Hid (cs.take t = Sha.wl bl t) := htk
    by_cases hlt : t < 64
    · by_cases h16 : t < 16
      · have c4 : wr.cell? ⟨wb, t, none⟩ = some (.int .u32 ((cs.getD t 0 : Nat) : Int)) := hr.cellMap t (by omega)
        have c5 := hr.frozen t
        have k1 : (t : Int) < 16 := by omega
        generalize cs.getD t 0 = y at c4
        have hr0 : Row (wr.setCell ⟨wb, t, none⟩ (.int .u32 0)) wb ((cs.set t 0).map u32v) 69 := by rw [List.map_set]; exact hr.set_same t _
        have hg0 : w.grownBy (wr.setCell ⟨wb, t, none⟩ (.int .u32 0)) (some wb) := grownBy_trans hg (grownBy_setCell wr ⟨wb, t, none⟩ _)
        have hsrc0 : ∀ j, j < 64 → (wr.setCell ⟨wb, t, none⟩ (.int .u32 0)).cell? ⟨g, off + (at_ + j), none⟩ = some (u8v (bl.getD j 0)) := fun j hj => hg0.cell (hsrc j hj) (by simp; omega)
        have hc0 : (cs.set t 0).length = 64 := by simpa using hc
        have h00 : (cs.set t 0).getD t 0 = 0 := by simp [show t < cs.length by omega]
        have HG0 : Hid (w.grownBy (wr.setCell ⟨wb, t, none⟩ (.int .u32 0)) (some wb)) := hg0
        have HR0 := rloop5 bl hby g off L C wb at_ t (cs.set t 0) (wr.setCell ⟨wb, t, none⟩ (.int .u32 0))
        clear hexit hsrc hg hs htk hg0
        go_wp2
        refine HR0 _ _ _ _ _ _ _ _ _ _ _ _ _ _ _ _ _ _ _ _ _ _ _ _ _ _ _ _ _ _ _ _ _ _ _ _ _ _ _ _ _ _ _ _ _ _ _ _ _ _ _ _ _ _ _ _ _ _ _ _ _ _ _ _ _ _ _ _ _ _ _ _ _ _ _ _ _ _ _ _ _ _ _ _ _ _ _ _ _ _ _ _ _ _ _ _ _ _ _ _ _ _ _ _ _ _ _ _ _ _ _ _ _ _ _ _ _ _ _ _ _ _ _ _ _ _ _ _ _ _ _ _ _ _ _ _ _ _ _ _ _ _ _ _ _ _ _ _ _ _ _ _ _ _ _ _ _ _ _ _ _ _ _ _ _ _ _ _ _ _ _ _ _ _ _ _ _ _ _ _ _ _ _ _ _ _ _ _ _ _ _ _ _ _ _ _ _ _ _ _ _ _ _ _ _ _ _ _ _ _ _ _ _ _ _ _ _ _ _ _ _ _ _ _ _ _ _ _ _ _ _ _ _ _ _ h16 hne hat hL hc0 hr0 h00 hsrc0 ?_
        clear HR0 hr0 hsrc0 c4 c5
        intro _ _ _ _ _ _ _ _ _ _ _ _ _ _ _ _ _ _ _ _ _ _ w2 ⟨hr2, hg2, hs2⟩
        go_wp2
        go_roundw
        case rel =>
          go_light
          rw [List.set_set] at hr2
          refine ⟨t + 1, cs.set t (Sha.word0 bl t), by omega, by go_num, by simpa using hc, ?_, hr2, grownBy_trans HG0.out hg2, ?_⟩
          · rw [take_set_succ _ (by omega), wl_step0 bl t h16, HTK.out]
          · rw [hs2]; simpa [World.setCell] using HS.out
        case measure => simp [intOf]; omega
      · have hwl := wl_lt bl hby t
        have ht0 : 16 ≤ t := by omega
        have c0 : wr.cell? ⟨wb, t - 15, none⟩ = some (.int .u32 (((Sha.wl bl t).getD (t - 15) 0 : Nat) : Int)) := by
          rw [← htk, getD_take (by omega)]; exact hr.cellMap (t - 15) (by omega)
        have c1 : wr.cell? ⟨wb, t - 2, none⟩ = some (.int .u32 (((Sha.wl bl t).getD (t - 2) 0 : Nat) : Int)) := by
          rw [← htk, getD_take (by omega)]; exact hr.cellMap (t - 2) (by omega)
        have c2 : wr.cell? ⟨wb, t - 7, none⟩ = some (.int .u32 (((Sha.wl bl t).getD (t - 7) 0 : Nat) : Int)) := by
          rw [← htk, getD_take (by omega)]; exact hr.cellMap (t - 7) (by omega)
        have c3 : wr.cell? ⟨wb, t - 16, none⟩ = some (.int .u32 (((Sha.wl bl t).getD (t - 16) 0 : Nat) : Int)) := by
          rw [← htk, getD_take (by omega)]; exact hr.cellMap (t - 16) (by omega)
        have c4 : wr.cell? ⟨wb, t, none⟩ = some (.int .u32 ((cs.getD t 0 : Nat) : Int)) := hr.cellMap t (by omega)
        have c5 := hr.frozen t
        have b0 : (Sha.wl bl t).getD (t - 15) 0 < 4294967296 := getD_lt hwl _
        have b1 : (Sha.wl bl t).getD (t - 2) 0 < 4294967296 := getD_lt hwl _
        have b2 : (Sha.wl bl t).getD (t - 7) 0 < 4294967296 := getD_lt hwl _
        have b3 : (Sha.wl bl t).getD (t - 16) 0 < 4294967296 := getD_lt hwl _
        have hw0 : Hid (Sha.wnext (Sha.wl bl t) t = (Sha.s1 ((Sha.wl bl t).getD (t - 2) 0) + (Sha.wl bl t).getD (t - 7) 0 + Sha.s0 ((Sha.wl bl t).getD (t - 15) 0) + (Sha.wl bl t).getD (t - 16) 0) % 4294967296) := rfl
        clear hwl htk hexit hsrc hg hs
        generalize (Sha.wl bl t).getD (t - 15) 0 = y15 at c0 b0 hw0
        generalize (Sha.wl bl t).getD (t - 2) 0 = y2 at c1 b1 hw0
        generalize (Sha.wl bl t).getD (t - 7) 0 = y7 at c2 b2 hw0
        generalize (Sha.wl bl t).getD (t - 16) 0 = y16 at c3 b3 hw0
        generalize cs.getD t 0 = y0 at c4
        have f0 := s0_form y15 b0
        have f1 := s1_form y2 b1
        have k1 : (16 : Int) ≤ (t : Int) := by omega
        have k2 : (t : Int) < 64 := by omega
        have k3 : (7 : Int) ≤ (t : Int) := by omega
        have k4 : (t : Int) - 7 < 64 := by omega
        have k5 : (t : Int) - 16 < 64 := by omega
        have k6 : (0 : Int) ≤ (t : Int) - 7 := by omega
        have k7 : (0 : Int) ≤ (t : Int) - 16 := by omega
        have k8 : ((t : Int) - 7).toNat = t - 7 := by omega
        have k9 : ((t : Int) - 16).toNat = t - 16 := by omega
        have k10 : IntKind.i64.wrap ((t : Int) - 7) = (t : Int) - 7 := IntWalk.i64_in _ (by omega)
        have k11 : IntKind.i64.wrap ((t : Int) - 16) = (t : Int) - 16 := IntWalk.i64_in _ (by omega)
        have n7 : Hid (∀ v, (wr.setCell ⟨wb, t, none⟩ v).drew.cell? ⟨wb, t - 7, none⟩ = some (.int .u32 (y7 : Int))) := fun v => by
          show (wr.setCell ⟨wb, t, none⟩ v).cell? _ = _
          rw [World.cell?_setCell_other _ _ _ _ (by simp only [ne_eq, Addr.mk.injEq]; omega)]; exact c2
        have n16 : Hid (∀ v, (wr.setCell ⟨wb, t, none⟩ v).drew.cell? ⟨wb, t - 16, none⟩ = some (.int .u32 (y16 : Int))) := fun v => by
          show (wr.setCell ⟨wb, t, none⟩ v).cell? _ = _
          rw [World.cell?_setCell_other _ _ _ _ (by simp only [ne_eq, Addr.mk.injEq]; omega)]; exact c3
        go_wp2
        go_region_held3 (fun w' => w'.cell? ⟨wb, t - 7, none⟩ = some (.int .u32 (y7 : Int)) ∧ w'.cell? ⟨wb, t - 16, none⟩ = some (.int .u32 (y16 : Int))) (first | exact ⟨n7.out _, n16.out _⟩ | go_keep) (first | (go_at_call 27; refine (turn_k _ _ (by assumption) (by decide) (by decide) _).mono ?_; rintro e w' ⟨rfl, rfl⟩))
        go_wp2
        go_roundw
        case rel =>
          go_light
          rw [wnext_form2 y2 y7 y15 y16, ← hw0.out]
          refine ⟨t + 1, cs.set t (Sha.wnext (Sha.wl bl t) t), by omega, by go_num, by simpa using hc, ?_, ?_, ?_, ?_⟩
          · rw [take_set_succ _ (by omega), wl_step1 bl t ht0, HTK.out]
          · rw [List.map_set]; exact (hr.set_same t _).drew
          · exact grownBy_trans (grownBy_trans HG.out (grownBy_setCell wr ⟨wb, t, none⟩ _)) (grownBy_drew _ _)
          · simpa [World.setCell] using HS.out
        case measure => simp [intOf]; omega
    · have HK : Hid (t = 64) := by show t = 64; omega
      have e : cs = Sha.wl bl n := by rw [hn.out, ← HK.out, ← HTK.out, List.take_of_length_le (by rw [HK.out]; omega)]
      clear hsrc htk
      go_wp2
      rw [e] at hr
      exact hexit _ _ _ _ _ _ _ _ _ _ _ _ _ _ _ _ _ _ _ _ _ _ _ _ _ _ _ _ _ _ _ _ _ _ _ _ _ _ _ _ _ _ _ _ _ _ _ _ _ _ _ _ _ _ _ _ _ _ _ _ _ _ _ _ _ _ _ _ _ _ _ ⟨hr, HG.out, HS.out⟩

end Go.Proofs.YtokjbmpiekadaaaDoor
