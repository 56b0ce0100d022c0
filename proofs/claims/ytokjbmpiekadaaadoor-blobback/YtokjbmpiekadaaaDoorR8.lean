/-
  The reference's Sum: the loop that adds the state.
-/
import Derived.Test.YtokjbmpiekadaaaDoorR0
namespace Go.Proofs.YtokjbmpiekadaaaDoor
open Go.RowKit
attribute [local go_sem] noPanic_exit noPanic_normal
set_option maxHeartbeats 1000000 in
set_option maxRecDepth 1000000 in
theorem rloop8 (s r : Sha.St) (hb sb : Nat) (w : World) (c0 c1 c2 c3 c4 c5 c7 c8 c9 c10 c11 c12 c14 c15 c16 c17 c18 c19 c21 c22 c23 c24 c25 c26 c27 c28 c29 c30 c31 c32 c33 c34 c35 c36 c37 c38 c39 c40 c41 c42 c43 c44 c45 c46 c47 c48 c49 c50 c51 c52 c53 c54 c55 c56 c57 c58 c59 c60 c61 c62 c63 c64 c65 c66 c67 c68 c69 c70 c71 c72 c73 c74 c75 c76 c77 c78 c79 c80 c81 c82 c83 c84 c85 c86 c87 c88 c89 c90 c91 c92 c93 c94 c95 c96 c97 c98 c99 c100 c101 c102 c103 c104 c105 c106 c107 c108 c109 c110 c111 c112 c113 c114 c115 c116 c117 c118 c119 c120 c121 c122 c123 c124 c125 c126 c127 c128 c129 c130 c131 c132 c133 c134 c135 c136 c137 c138 c139 c140 c141 c142 c143 c144 c145 c146 c147 c148 c149 c150 c151 c152 c153 c154 c155 c156 c157 c158 c159 c160 c161 c162 c163 c164 c165 c166 c167 c168 c169 c170 c171 c172 c173 c174 c175 c176 c177 c178 c179 c180 c181 c182 c183 c184 c185 c186 c187 c188 c189 c190 c191 c192 c193 c194 c195 c196 c197 c198 c199 c200 c201 c202 c203 c204 c205 c206 c207 c208 c209 c210 c211 c212 c213 c214 c215 c216 c217 c218 c219 c220 c221 c222 c223 c224 c225 c226 c227 c228 c229 c230 c231 c232 c233 c234 c235 c236 c237 c238 : Value) (Q : Exit → Act → World → Prop)
    (hne : hb ≠ sb) (hrow : Row w hb (s.list.map u32v) 68) (hrs : Row w sb (r.list.map u32v) 68)
    (hexit : ∀ (v20 v208 v209 v210 v211 v212 v213 v214 v215 v216 v217 v218 v219 v220 : Value) (w' : World), Row w' hb ((Sha.plus s r).list.map u32v) 68 ∧ w.grownBy w' (some hb) ∧ w'.heap.size = w.heap.size → Q (.exit 14) ⟨List.toArray (c0 :: c1 :: c2 :: c3 :: c4 :: c5 :: .pointer (some ⟨hb, 0, none⟩) :: c7 :: c8 :: c9 :: c10 :: c11 :: c12 :: .pointer (some ⟨sb, 0, none⟩) :: c14 :: c15 :: c16 :: c17 :: c18 :: c19 :: v20 :: c21 :: c22 :: c23 :: c24 :: c25 :: c26 :: c27 :: c28 :: c29 :: c30 :: c31 :: c32 :: c33 :: c34 :: c35 :: c36 :: c37 :: c38 :: c39 :: c40 :: c41 :: c42 :: c43 :: c44 :: c45 :: c46 :: c47 :: c48 :: c49 :: c50 :: c51 :: c52 :: c53 :: c54 :: c55 :: c56 :: c57 :: c58 :: c59 :: c60 :: c61 :: c62 :: c63 :: c64 :: c65 :: c66 :: c67 :: c68 :: c69 :: c70 :: c71 :: c72 :: c73 :: c74 :: c75 :: c76 :: c77 :: c78 :: c79 :: c80 :: c81 :: c82 :: c83 :: c84 :: c85 :: c86 :: c87 :: c88 :: c89 :: c90 :: c91 :: c92 :: c93 :: c94 :: c95 :: c96 :: c97 :: c98 :: c99 :: c100 :: c101 :: c102 :: c103 :: c104 :: c105 :: c106 :: c107 :: c108 :: c109 :: c110 :: c111 :: c112 :: c113 :: c114 :: c115 :: c116 :: c117 :: c118 :: c119 :: c120 :: c121 :: c122 :: c123 :: c124 :: c125 :: c126 :: c127 :: c128 :: c129 :: c130 :: c131 :: c132 :: c133 :: c134 :: c135 :: c136 :: c137 :: c138 :: c139 :: c140 :: c141 :: c142 :: c143 :: c144 :: c145 :: c146 :: c147 :: c148 :: c149 :: c150 :: c151 :: c152 :: c153 :: c154 :: c155 :: c156 :: c157 :: c158 :: c159 :: c160 :: c161 :: c162 :: c163 :: c164 :: c165 :: c166 :: c167 :: c168 :: c169 :: c170 :: c171 :: c172 :: c173 :: c174 :: c175 :: c176 :: c177 :: c178 :: c179 :: c180 :: c181 :: c182 :: c183 :: c184 :: c185 :: c186 :: c187 :: c188 :: c189 :: c190 :: c191 :: c192 :: c193 :: c194 :: c195 :: c196 :: c197 :: c198 :: c199 :: c200 :: c201 :: c202 :: c203 :: c204 :: c205 :: c206 :: c207 :: v208 :: v209 :: v210 :: v211 :: v212 :: v213 :: v214 :: v215 :: v216 :: v217 :: v218 :: v219 :: v220 :: c221 :: c222 :: c223 :: c224 :: c225 :: c226 :: c227 :: c228 :: c229 :: c230 :: c231 :: c232 :: c233 :: c234 :: c235 :: c236 :: c237 :: c238 :: []), []⟩ w') :
    Code.wp Tryd.prog (.loop ((loopsIn ((loopsIn (Tryd.f14.body.getD .skip)).getD 2 .skip)).getD 2 .skip)) Q ⟨List.toArray (c0 :: c1 :: c2 :: c3 :: c4 :: c5 :: .pointer (some ⟨hb, 0, none⟩) :: c7 :: c8 :: c9 :: c10 :: c11 :: c12 :: .pointer (some ⟨sb, 0, none⟩) :: c14 :: c15 :: c16 :: c17 :: c18 :: c19 :: .int .i64 0 :: c21 :: c22 :: c23 :: c24 :: c25 :: c26 :: c27 :: c28 :: c29 :: c30 :: c31 :: c32 :: c33 :: c34 :: c35 :: c36 :: c37 :: c38 :: c39 :: c40 :: c41 :: c42 :: c43 :: c44 :: c45 :: c46 :: c47 :: c48 :: c49 :: c50 :: c51 :: c52 :: c53 :: c54 :: c55 :: c56 :: c57 :: c58 :: c59 :: c60 :: c61 :: c62 :: c63 :: c64 :: c65 :: c66 :: c67 :: c68 :: c69 :: c70 :: c71 :: c72 :: c73 :: c74 :: c75 :: c76 :: c77 :: c78 :: c79 :: c80 :: c81 :: c82 :: c83 :: c84 :: c85 :: c86 :: c87 :: c88 :: c89 :: c90 :: c91 :: c92 :: c93 :: c94 :: c95 :: c96 :: c97 :: c98 :: c99 :: c100 :: c101 :: c102 :: c103 :: c104 :: c105 :: c106 :: c107 :: c108 :: c109 :: c110 :: c111 :: c112 :: c113 :: c114 :: c115 :: c116 :: c117 :: c118 :: c119 :: c120 :: c121 :: c122 :: c123 :: c124 :: c125 :: c126 :: c127 :: c128 :: c129 :: c130 :: c131 :: c132 :: c133 :: c134 :: c135 :: c136 :: c137 :: c138 :: c139 :: c140 :: c141 :: c142 :: c143 :: c144 :: c145 :: c146 :: c147 :: c148 :: c149 :: c150 :: c151 :: c152 :: c153 :: c154 :: c155 :: c156 :: c157 :: c158 :: c159 :: c160 :: c161 :: c162 :: c163 :: c164 :: c165 :: c166 :: c167 :: c168 :: c169 :: c170 :: c171 :: c172 :: c173 :: c174 :: c175 :: c176 :: c177 :: c178 :: c179 :: c180 :: c181 :: c182 :: c183 :: c184 :: c185 :: c186 :: c187 :: c188 :: c189 :: c190 :: c191 :: c192 :: c193 :: c194 :: c195 :: c196 :: c197 :: c198 :: c199 :: c200 :: c201 :: c202 :: c203 :: c204 :: c205 :: c206 :: c207 :: c208 :: c209 :: c210 :: c211 :: c212 :: c213 :: c214 :: c215 :: c216 :: c217 :: c218 :: c219 :: c220 :: c221 :: c222 :: c223 :: c224 :: c225 :: c226 :: c227 :: c228 :: c229 :: c230 :: c231 :: c232 :: c233 :: c234 :: c235 :: c236 :: c237 :: c238 :: []), []⟩ w := by
  conv => arg 2; arg 1; whnf
  refine Code.wp_mono (noPanic_of Q) ?_
  go_loopw [20] (fun v w' => ∃ i : Nat, i ≤ 8 ∧ v = .int .i64 (i : Int) ∧ Row w' hb ((acc s r i).map u32v) 68 ∧ Row w' sb (r.list.map u32v) 68 ∧ w.grownBy w' (some hb) ∧ w'.heap.size = w.heap.size) (fun v _ => 8 - (intOf v).toNat)
  case atStart => exact ⟨0, by omega, rfl, hrow, hrs, grownBy_refl _ _, rfl⟩
  case round =>
    clear hrow hrs
    obtain ⟨i, hi, rfl, hr, hrs, hg, hs⟩ := hrel
    have HG : Hid (w.grownBy wr (some hb)) := hg
    have HS : Hid (wr.heap.size = w.heap.size) := hs
    by_cases hlt : i < 8
    · have c0 : wr.cell? ⟨hb, i, none⟩ = some (.int .u32 ((s.list.getD i 0 : Nat) : Int)) := by
        rw [← acc_at s r i hlt]; exact hr.cellMap i (by rw [acc_length s r i hi]; exact hlt)
      have f0 := hr.frozen i
      have c1 : wr.cell? ⟨sb, i, none⟩ = some (.int .u32 ((r.list.getD i 0 : Nat) : Int)) := hrs.cellMap i hlt
      have HP : Hid ((acc s r i).set i ((s.list.getD i 0 + r.list.getD i 0) % 4294967296) = acc s r (i + 1)) := acc_set s r i hlt
      have k1 : (i : Int) < 8 := by omega
      generalize s.list.getD i 0 = x at c0 HP
      generalize r.list.getD i 0 = y at c1 HP
      clear hexit hg hs
      go_wp2
      go_region
      go_wp2
      go_roundw
      case rel =>
        go_light
        rw [add_form x y]
        refine ⟨i + 1, by omega, by go_num, ?_, (hrs.set_other _ _ (by simp; omega)).drew, ?_, ?_⟩
        · rw [← HP.out, List.map_set]; exact (hr.set_same i _).drew
        · exact grownBy_trans (grownBy_trans HG.out (grownBy_setCell wr ⟨hb, i, none⟩ _)) (grownBy_drew _ _)
        · simpa [World.setCell] using HS.out
      case measure => simp [intOf]; omega
    · have HK : Hid (i = 8) := by show i = 8; omega
      have e : acc s r i = (Sha.plus s r).list := by rw [HK.out]; rfl
      go_wp2
      rw [e] at hr
      exact hexit _ _ _ _ _ _ _ _ _ _ _ _ _ _ _ ⟨hr, HG.out, HS.out⟩

end Go.Proofs.YtokjbmpiekadaaaDoor
