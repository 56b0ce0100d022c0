/-
  The reference's Sum: the loop that lays four bytes into a word.
-/
import Derived.Test.YtokjbmpiekadaaaDoorR0
namespace Go.Proofs.YtokjbmpiekadaaaDoor
open Go.RowKit
attribute [local go_sem] noPanic_exit noPanic_normal
set_option maxHeartbeats 1000000 in
set_option maxRecDepth 1000000 in
theorem rloop5 (bl : List Nat) (hby : ∀ x ∈ bl, x < 256) (g off L C wb at_ t : Nat) (cs : List Nat) (w : World) (c0 c1 c2 c4 c5 c6 c11 c12 c13 c14 c15 c16 c17 c18 c19 c20 c21 c22 c23 c24 c25 c26 c27 c28 c29 c30 c31 c32 c33 c34 c35 c36 c37 c38 c39 c40 c41 c42 c43 c44 c45 c46 c47 c48 c49 c50 c51 c52 c53 c54 c55 c56 c57 c58 c59 c60 c61 c62 c63 c64 c65 c66 c67 c68 c69 c70 c71 c72 c73 c74 c75 c76 c77 c78 c79 c80 c81 c82 c83 c84 c85 c86 c87 c88 c89 c90 c91 c92 c93 c94 c95 c96 c97 c98 c99 c100 c101 c102 c103 c104 c105 c106 c107 c108 c109 c110 c111 c112 c113 c114 c115 c116 c117 c118 c119 c120 c121 c122 c123 c124 c125 c126 c127 c128 c129 c130 c131 c132 c133 c134 c135 c136 c137 c138 c139 c140 c141 c142 c143 c144 c145 c146 c147 c148 c149 c150 c151 c152 c153 c154 c155 c156 c157 c158 c159 c160 c161 c162 c163 c164 c165 c166 c167 c168 c169 c170 c171 c172 c173 c174 c175 c176 c177 c178 c179 c180 c181 c182 c183 c184 c185 c186 c187 c188 c189 c190 c191 c192 c193 c194 c195 c196 c197 c198 c199 c200 c201 c202 c203 c204 c205 c206 c207 c208 c209 c210 c211 c212 c213 c214 c215 c216 c217 c218 c219 c220 c221 c222 c223 c224 c225 c226 c227 c228 c229 c230 c231 c232 c233 c234 c235 c236 c237 c238 : Value) (Q : Exit → Act → World → Prop)
    (ht : t < 16) (hne : wb ≠ g) (hat : at_ + 64 ≤ L) (hL : L ≤ 281474976710656) (hc : cs.length = 64) (hrow : Row w wb (cs.map u32v) 69) (h0 : cs.getD t 0 = 0) (hsrc : ∀ j, j < 64 → w.cell? ⟨g, off + (at_ + j), none⟩ = some (u8v (bl.getD j 0)))
    (hexit : ∀ (v10 v69 v70 v71 v72 v73 v74 v75 v76 v77 v78 v79 v80 v81 v82 v83 v84 v85 v86 v87 v88 v89 : Value) (w' : World), Row w' wb ((cs.set t (Sha.word0 bl t)).map u32v) 69 ∧ w.grownBy w' (some wb) ∧ w'.heap.size = w.heap.size → Q (.exit 8) ⟨List.toArray (c0 :: c1 :: c2 :: .slice (some ⟨g, off, none⟩) L C :: c4 :: c5 :: c6 :: .pointer (some ⟨wb, 0, none⟩) :: .int .i64 (at_ : Int) :: .int .i64 (t : Int) :: v10 :: c11 :: c12 :: c13 :: c14 :: c15 :: c16 :: c17 :: c18 :: c19 :: c20 :: c21 :: c22 :: c23 :: c24 :: c25 :: c26 :: c27 :: c28 :: c29 :: c30 :: c31 :: c32 :: c33 :: c34 :: c35 :: c36 :: c37 :: c38 :: c39 :: c40 :: c41 :: c42 :: c43 :: c44 :: c45 :: c46 :: c47 :: c48 :: c49 :: c50 :: c51 :: c52 :: c53 :: c54 :: c55 :: c56 :: c57 :: c58 :: c59 :: c60 :: c61 :: c62 :: c63 :: c64 :: c65 :: c66 :: c67 :: c68 :: v69 :: v70 :: v71 :: v72 :: v73 :: v74 :: v75 :: v76 :: v77 :: v78 :: v79 :: v80 :: v81 :: v82 :: v83 :: v84 :: v85 :: v86 :: v87 :: v88 :: v89 :: c90 :: c91 :: c92 :: c93 :: c94 :: c95 :: c96 :: c97 :: c98 :: c99 :: c100 :: c101 :: c102 :: c103 :: c104 :: c105 :: c106 :: c107 :: c108 :: c109 :: c110 :: c111 :: c112 :: c113 :: c114 :: c115 :: c116 :: c117 :: c118 :: c119 :: c120 :: c121 :: c122 :: c123 :: c124 :: c125 :: c126 :: c127 :: c128 :: c129 :: c130 :: c131 :: c132 :: c133 :: c134 :: c135 :: c136 :: c137 :: c138 :: c139 :: c140 :: c141 :: c142 :: c143 :: c144 :: c145 :: c146 :: c147 :: c148 :: c149 :: c150 :: c151 :: c152 :: c153 :: c154 :: c155 :: c156 :: c157 :: c158 :: c159 :: c160 :: c161 :: c162 :: c163 :: c164 :: c165 :: c166 :: c167 :: c168 :: c169 :: c170 :: c171 :: c172 :: c173 :: c174 :: c175 :: c176 :: c177 :: c178 :: c179 :: c180 :: c181 :: c182 :: c183 :: c184 :: c185 :: c186 :: c187 :: c188 :: c189 :: c190 :: c191 :: c192 :: c193 :: c194 :: c195 :: c196 :: c197 :: c198 :: c199 :: c200 :: c201 :: c202 :: c203 :: c204 :: c205 :: c206 :: c207 :: c208 :: c209 :: c210 :: c211 :: c212 :: c213 :: c214 :: c215 :: c216 :: c217 :: c218 :: c219 :: c220 :: c221 :: c222 :: c223 :: c224 :: c225 :: c226 :: c227 :: c228 :: c229 :: c230 :: c231 :: c232 :: c233 :: c234 :: c235 :: c236 :: c237 :: c238 :: []), []⟩ w') :
    Code.wp Tryd.prog (.loop ((loopsIn ((loopsIn ((loopsIn (Tryd.f14.body.getD .skip)).getD 2 .skip)).getD 0 .skip)).getD 0 .skip)) Q ⟨List.toArray (c0 :: c1 :: c2 :: .slice (some ⟨g, off, none⟩) L C :: c4 :: c5 :: c6 :: .pointer (some ⟨wb, 0, none⟩) :: .int .i64 (at_ : Int) :: .int .i64 (t : Int) :: .int .i64 0 :: c11 :: c12 :: c13 :: c14 :: c15 :: c16 :: c17 :: c18 :: c19 :: c20 :: c21 :: c22 :: c23 :: c24 :: c25 :: c26 :: c27 :: c28 :: c29 :: c30 :: c31 :: c32 :: c33 :: c34 :: c35 :: c36 :: c37 :: c38 :: c39 :: c40 :: c41 :: c42 :: c43 :: c44 :: c45 :: c46 :: c47 :: c48 :: c49 :: c50 :: c51 :: c52 :: c53 :: c54 :: c55 :: c56 :: c57 :: c58 :: c59 :: c60 :: c61 :: c62 :: c63 :: c64 :: c65 :: c66 :: c67 :: c68 :: c69 :: c70 :: c71 :: c72 :: c73 :: c74 :: c75 :: c76 :: c77 :: c78 :: c79 :: c80 :: c81 :: c82 :: c83 :: c84 :: c85 :: c86 :: c87 :: c88 :: c89 :: c90 :: c91 :: c92 :: c93 :: c94 :: c95 :: c96 :: c97 :: c98 :: c99 :: c100 :: c101 :: c102 :: c103 :: c104 :: c105 :: c106 :: c107 :: c108 :: c109 :: c110 :: c111 :: c112 :: c113 :: c114 :: c115 :: c116 :: c117 :: c118 :: c119 :: c120 :: c121 :: c122 :: c123 :: c124 :: c125 :: c126 :: c127 :: c128 :: c129 :: c130 :: c131 :: c132 :: c133 :: c134 :: c135 :: c136 :: c137 :: c138 :: c139 :: c140 :: c141 :: c142 :: c143 :: c144 :: c145 :: c146 :: c147 :: c148 :: c149 :: c150 :: c151 :: c152 :: c153 :: c154 :: c155 :: c156 :: c157 :: c158 :: c159 :: c160 :: c161 :: c162 :: c163 :: c164 :: c165 :: c166 :: c167 :: c168 :: c169 :: c170 :: c171 :: c172 :: c173 :: c174 :: c175 :: c176 :: c177 :: c178 :: c179 :: c180 :: c181 :: c182 :: c183 :: c184 :: c185 :: c186 :: c187 :: c188 :: c189 :: c190 :: c191 :: c192 :: c193 :: c194 :: c195 :: c196 :: c197 :: c198 :: c199 :: c200 :: c201 :: c202 :: c203 :: c204 :: c205 :: c206 :: c207 :: c208 :: c209 :: c210 :: c211 :: c212 :: c213 :: c214 :: c215 :: c216 :: c217 :: c218 :: c219 :: c220 :: c221 :: c222 :: c223 :: c224 :: c225 :: c226 :: c227 :: c228 :: c229 :: c230 :: c231 :: c232 :: c233 :: c234 :: c235 :: c236 :: c237 :: c238 :: []), []⟩ w := by
  conv => arg 2; arg 1; whnf
  refine Code.wp_mono (noPanic_of Q) ?_
  go_loopw [10] (fun v w' => ∃ k : Nat, k ≤ 4 ∧ v = .int .i64 (k : Int) ∧ Row w' wb ((cs.set t (pw bl t k)).map u32v) 69 ∧ w.grownBy w' (some wb) ∧ w'.heap.size = w.heap.size) (fun v _ => 4 - (intOf v).toNat)
  case atStart =>
    refine ⟨0, by omega, rfl, ?_, grownBy_refl _ _, rfl⟩
    have e : cs.set t (pw bl t 0) = cs := by
      refine List.ext_getElem? fun j => ?_
      rw [List.getElem?_set]
      split
      · rename_i hj
        subst hj
        rw [if_pos (by omega), pw, ← h0]
        simp [show t < cs.length by omega]
      · rfl
    rw [e]; exact hrow
  case round =>
    obtain ⟨k, hk, rfl, hr, hg, hs⟩ := hrel
    have HG : Hid (w.grownBy wr (some wb)) := hg
    have HS : Hid (wr.heap.size = w.heap.size) := hs
    by_cases hlt : k < 4
    · have c1 : wr.cell? ⟨wb, t, none⟩ = some (.int .u32 ((pw bl t k : Nat) : Int)) := by
        rw [hr.cellMap t (by simp; omega)]; simp [show t < cs.length by omega, u32v]
      have f1 := hr.frozen t
      have c2 : wr.cell? ⟨g, off + (at_ + 4 * t + k), none⟩ = some (.int .u8 ((bl.getD (4 * t + k) 0 : Nat) : Int)) := by
        rw [Nat.add_assoc at_]
        exact hg.cell (hsrc (4 * t + k) (by omega)) (by simp; omega)
      have b1 := pw_lt bl hby t k hlt
      have b2 : bl.getD (4 * t + k) 0 < 256 := getD_lt hby _
      have HP : Hid (pw bl t (k + 1) = pw bl t k * 256 + bl.getD (4 * t + k) 0) := rfl
      generalize bl.getD (4 * t + k) 0 = y at c2 b2 HP
      generalize hx : pw bl t k = x at c1 b1 HP hr
      clear hexit hsrc h0 hg hs hx hrow
      go_wp2
      go_region
      go_wp2
      go_roundw
      case rel =>
        go_light
        rw [pw_form x y b1 b2, ← HP.out]
        refine ⟨k + 1, by omega, by go_num, ?_, ?_, ?_⟩
        · have := hr.set_same t (u32v (pw bl t (k + 1)))
          rw [← List.map_set, List.set_set] at this
          exact this.drew
        · exact grownBy_trans (grownBy_trans HG.out (grownBy_setCell wr ⟨wb, t, none⟩ _)) (grownBy_drew _ _)
        · simpa [World.setCell] using HS.out
      case measure => simp [intOf]; omega
    · have HK : Hid (k = 4) := by show k = 4; omega
      go_wp2
      rw [HK.out, pw_all] at hr
      exact hexit _ _ _ _ _ _ _ _ _ _ _ _ _ _ _ _ _ _ _ _ _ _ _ ⟨hr, HG.out, HS.out⟩

end Go.Proofs.YtokjbmpiekadaaaDoor
