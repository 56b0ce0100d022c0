/-
  The reference's Sum: the loop of the noughts.
-/
import Derived.Test.YtokjbmpiekadaaaDoorA1
namespace Go.Proofs.YtokjbmpiekadaaaDoor
open Go.RowKit
attribute [local go_sem] noPanic_exit noPanic_normal
set_option maxHeartbeats 1000000 in
set_option maxRecDepth 1000000 in
theorem rloop1 (bs : List Nat) (z : Nat) (hz : Hid (z = (119 - bs.length % 64) % 64)) (B : Nat) (v0 : Value) (a0 w : World) (c0 c1 c2 c4 c5 c6 c7 c8 c9 c10 c11 c12 c13 c14 c15 c16 c17 c18 c19 c20 c21 c22 c23 c24 c25 c26 c27 c28 c29 c30 c31 c32 c33 c34 c35 c36 c37 c38 c39 c40 c41 c42 c43 c44 c45 c46 c47 c48 c49 c50 c51 c52 c53 c54 c55 c56 c57 c58 c59 c60 c61 c62 c63 c64 c65 c66 c67 c68 c69 c70 c71 c72 c73 c74 c75 c76 c77 c78 c79 c80 c81 c82 c83 c84 c85 c86 c87 c88 c89 c90 c91 c92 c93 c94 c95 c96 c97 c98 c99 c100 c101 c102 c103 c104 c105 c106 c107 c108 c109 c110 c111 c112 c113 c114 c115 c116 c117 c118 c119 c120 c121 c122 c123 c124 c125 c126 c127 c128 c129 c130 c131 c132 c133 c134 c135 c136 c137 c138 c139 c140 c141 c142 c143 c144 c145 c146 c147 c148 c149 c150 c151 c152 c153 c154 c155 c156 c157 c158 c159 c160 c161 c162 c163 c164 c165 c166 c167 c168 c169 c170 c171 c172 c173 c174 c175 c176 c177 c178 c179 c180 c181 c182 c183 c184 c185 c186 c187 c188 c189 c190 c191 c192 c193 c194 c195 c196 c197 c198 c199 c200 c201 c202 c203 c204 c205 c206 c207 c208 c209 c210 c211 c212 c213 c214 c215 c216 c217 c218 c219 c220 c221 c222 c223 c224 c225 c226 c227 c228 c229 c230 c231 c232 c233 c234 c235 c236 c237 c238 : Value) (Q : Exit → Act → World → Prop)
    (hlen : bs.length ≤ 140737488351232) (hown : w.ownsRow B 5 1 v0 (bs.length + 1) ((bs ++ (Sha.ending bs.length).take 1).map u8v)) (hbel : Below B a0 w) (hBs : B ≤ w.heap.size)
    (hexit : ∀ (v3 v29 v30 v31 v32 v33 v34 v35 : Value) (w' : World), w'.ownsRow B 5 1 v3 (bs.length + (1 + z)) ((bs ++ (Sha.ending bs.length).take (1 + z)).map u8v) ∧ Below B a0 w' ∧ B ≤ w'.heap.size → Q (.exit 0) ⟨List.toArray (c0 :: c1 :: c2 :: v3 :: c4 :: c5 :: c6 :: c7 :: c8 :: c9 :: c10 :: c11 :: c12 :: c13 :: c14 :: c15 :: c16 :: c17 :: c18 :: c19 :: c20 :: c21 :: c22 :: c23 :: c24 :: c25 :: c26 :: c27 :: c28 :: v29 :: v30 :: v31 :: v32 :: v33 :: v34 :: v35 :: c36 :: c37 :: c38 :: c39 :: c40 :: c41 :: c42 :: c43 :: c44 :: c45 :: c46 :: c47 :: c48 :: c49 :: c50 :: c51 :: c52 :: c53 :: c54 :: c55 :: c56 :: c57 :: c58 :: c59 :: c60 :: c61 :: c62 :: c63 :: c64 :: c65 :: c66 :: c67 :: c68 :: c69 :: c70 :: c71 :: c72 :: c73 :: c74 :: c75 :: c76 :: c77 :: c78 :: c79 :: c80 :: c81 :: c82 :: c83 :: c84 :: c85 :: c86 :: c87 :: c88 :: c89 :: c90 :: c91 :: c92 :: c93 :: c94 :: c95 :: c96 :: c97 :: c98 :: c99 :: c100 :: c101 :: c102 :: c103 :: c104 :: c105 :: c106 :: c107 :: c108 :: c109 :: c110 :: c111 :: c112 :: c113 :: c114 :: c115 :: c116 :: c117 :: c118 :: c119 :: c120 :: c121 :: c122 :: c123 :: c124 :: c125 :: c126 :: c127 :: c128 :: c129 :: c130 :: c131 :: c132 :: c133 :: c134 :: c135 :: c136 :: c137 :: c138 :: c139 :: c140 :: c141 :: c142 :: c143 :: c144 :: c145 :: c146 :: c147 :: c148 :: c149 :: c150 :: c151 :: c152 :: c153 :: c154 :: c155 :: c156 :: c157 :: c158 :: c159 :: c160 :: c161 :: c162 :: c163 :: c164 :: c165 :: c166 :: c167 :: c168 :: c169 :: c170 :: c171 :: c172 :: c173 :: c174 :: c175 :: c176 :: c177 :: c178 :: c179 :: c180 :: c181 :: c182 :: c183 :: c184 :: c185 :: c186 :: c187 :: c188 :: c189 :: c190 :: c191 :: c192 :: c193 :: c194 :: c195 :: c196 :: c197 :: c198 :: c199 :: c200 :: c201 :: c202 :: c203 :: c204 :: c205 :: c206 :: c207 :: c208 :: c209 :: c210 :: c211 :: c212 :: c213 :: c214 :: c215 :: c216 :: c217 :: c218 :: c219 :: c220 :: c221 :: c222 :: c223 :: c224 :: c225 :: c226 :: c227 :: c228 :: c229 :: c230 :: c231 :: c232 :: c233 :: c234 :: c235 :: c236 :: c237 :: c238 :: []), []⟩ w') :
    Code.wp Tryd.prog (.loop ((loopsIn (Tryd.f14.body.getD .skip)).getD 0 .skip)) Q ⟨List.toArray (c0 :: c1 :: c2 :: v0 :: c4 :: c5 :: c6 :: c7 :: c8 :: c9 :: c10 :: c11 :: c12 :: c13 :: c14 :: c15 :: c16 :: c17 :: c18 :: c19 :: c20 :: c21 :: c22 :: c23 :: c24 :: c25 :: c26 :: c27 :: c28 :: c29 :: c30 :: c31 :: c32 :: c33 :: c34 :: c35 :: c36 :: c37 :: c38 :: c39 :: c40 :: c41 :: c42 :: c43 :: c44 :: c45 :: c46 :: c47 :: c48 :: c49 :: c50 :: c51 :: c52 :: c53 :: c54 :: c55 :: c56 :: c57 :: c58 :: c59 :: c60 :: c61 :: c62 :: c63 :: c64 :: c65 :: c66 :: c67 :: c68 :: c69 :: c70 :: c71 :: c72 :: c73 :: c74 :: c75 :: c76 :: c77 :: c78 :: c79 :: c80 :: c81 :: c82 :: c83 :: c84 :: c85 :: c86 :: c87 :: c88 :: c89 :: c90 :: c91 :: c92 :: c93 :: c94 :: c95 :: c96 :: c97 :: c98 :: c99 :: c100 :: c101 :: c102 :: c103 :: c104 :: c105 :: c106 :: c107 :: c108 :: c109 :: c110 :: c111 :: c112 :: c113 :: c114 :: c115 :: c116 :: c117 :: c118 :: c119 :: c120 :: c121 :: c122 :: c123 :: c124 :: c125 :: c126 :: c127 :: c128 :: c129 :: c130 :: c131 :: c132 :: c133 :: c134 :: c135 :: c136 :: c137 :: c138 :: c139 :: c140 :: c141 :: c142 :: c143 :: c144 :: c145 :: c146 :: c147 :: c148 :: c149 :: c150 :: c151 :: c152 :: c153 :: c154 :: c155 :: c156 :: c157 :: c158 :: c159 :: c160 :: c161 :: c162 :: c163 :: c164 :: c165 :: c166 :: c167 :: c168 :: c169 :: c170 :: c171 :: c172 :: c173 :: c174 :: c175 :: c176 :: c177 :: c178 :: c179 :: c180 :: c181 :: c182 :: c183 :: c184 :: c185 :: c186 :: c187 :: c188 :: c189 :: c190 :: c191 :: c192 :: c193 :: c194 :: c195 :: c196 :: c197 :: c198 :: c199 :: c200 :: c201 :: c202 :: c203 :: c204 :: c205 :: c206 :: c207 :: c208 :: c209 :: c210 :: c211 :: c212 :: c213 :: c214 :: c215 :: c216 :: c217 :: c218 :: c219 :: c220 :: c221 :: c222 :: c223 :: c224 :: c225 :: c226 :: c227 :: c228 :: c229 :: c230 :: c231 :: c232 :: c233 :: c234 :: c235 :: c236 :: c237 :: c238 :: []), []⟩ w := by
  conv => arg 2; arg 1; whnf
  refine Code.wp_mono (noPanic_of Q) ?_
  obtain ⟨i5i, hi5, he5⟩ := Option.map_eq_some_iff.1 i5
  simp only [Prod.mk.injEq] at he5
  obtain ⟨e1, e2, e3⟩ := he5
  have HI5 : Hid (Tryd.prog.info? 5 = some i5i) := hi5
  have HE1 : Hid (i5i.size = 1) := e1
  have HE2 : Hid (i5i.bytes = 1) := e2
  have HE3 : Hid (i5i.zero = some (.int .u8 0)) := e3
  clear hi5 e1 e2 e3
  go_loopw [3] (fun v w' => ∃ t : Nat, 1 ≤ t ∧ t ≤ 1 + z ∧ w'.ownsRow B 5 1 v (bs.length + t) ((bs ++ (Sha.ending bs.length).take t).map u8v) ∧ Below B a0 w' ∧ B ≤ w'.heap.size) (fun v _ => bs.length + 1 + z - (match v with | .slice _ n _ => n | _ => 0))
  case atStart => exact ⟨1, by omega, by omega, hown, hbel, hBs⟩
  case round =>
    clear hown hbel hBs
    obtain ⟨t, h1, h2, hown, hbel, hBs⟩ := hrel
    obtain ⟨g, cap, rfl, _, _⟩ := hown.form (by omega)
    obtain ⟨N, hN⟩ : ∃ N, N = bs.length + t := ⟨_, rfl⟩
    have HN : Hid (N = bs.length + t) := hN
    have HZ := hz.out
    have HOWN : Hid (wr.ownsRow B 5 1 (.slice (some ⟨g, 0, none⟩) N cap) N ((bs ++ (Sha.ending bs.length).take t).map u8v)) := by rw [hN]; exact hown
    have HBEL : Hid (Below B a0 wr) := hbel
    rw [← hN]
    clear hown hbel
    by_cases hlt : t < 1 + z
    · have k1 : ¬ ((N : Int) % 64 = 56) := by omega
      have k2 : N + 1 ≤ 140737488355328 := by omega
      have HT : Hid ((Sha.ending bs.length).take (t + 1) = (Sha.ending bs.length).take t ++ [0]) := by
        show _ = _
        rw [ending_take_succ _ _ (by rw [ending_length]; omega), ending_zero _ _ h1 (by omega)]
      clear hexit hN HZ hlen
      go_wp2_with (at_builtin; refine wpList_append_one rfl _ _ 30 rfl B 5 i5i (.int .u8 0) Tryd.underlying30 HI5.out HE3.out HE1.out HE2.out rfl _ _ _ rfl HOWN.out 5 _ rfl rfl k2 hBs ?_; intro v1 w1 hown1 hb1 hs1)
      go_roundw
      case rel =>
        go_light
        refine ⟨t + 1, by omega, by omega, ?_, hb1 _ HBEL.out, hs1⟩
        have e := HN.out
        rw [HT.out, ← List.append_assoc, List.map_append, show bs.length + (t + 1) = N + 1 by omega]
        exact hown1
      case measure =>
        have e := HN.out
        obtain ⟨g', cap', rfl, _, _⟩ := hown1.form (by omega)
        simp; omega
    · have k1 : (N : Int) % 64 = 56 := by omega
      have HT : Hid (t = 1 + z) := by show t = _; omega
      clear hN HZ hlen
      go_wp2
      refine hexit _ _ _ _ _ _ _ _ _ ⟨?_, HBEL.out, hBs⟩
      have := HOWN.out
      rw [HT.out] at this
      rw [HN.out, HT.out] at this ⊢
      exact this

end Go.Proofs.YtokjbmpiekadaaaDoor
