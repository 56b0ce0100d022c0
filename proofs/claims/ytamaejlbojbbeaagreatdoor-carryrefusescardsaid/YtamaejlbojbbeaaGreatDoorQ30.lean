/-
  The reference's Sum: the loop that makes a block's words. The reference's Sum: the loop that moves the state's words up. The reference's Sum: the loop of the rounds. The reference's Sum: the loop that adds the state.
-/
import Derived.Test.YtamaejlbojbbeaaGreatDoorQ00
import Derived.Test.YtamaejlbojbbeaaGreatDoorQ01
import Derived.Test.YtamaejlbojbbeaaGreatDoorQ02
import Derived.Test.YtamaejlbojbbeaaGreatDoorQ03
import Derived.Test.YtamaejlbojbbeaaGreatDoorQ29
namespace Go.Proofs.YtamaejlbojbbeaaGreatDoor.Sb
open Go.RowKit
attribute [local go_sem] noPanic_exit noPanic_normal
attribute [local go_sem ↓] Go.wp_at_zero Go.wp_at_succ
theorem wnext_form2 (y2 y7 y15 y16 : Nat) : ((((Sha.s1 y2 : Int) + (y7 : Int)) % 4294967296 + (Sha.s0 y15 : Int)) % 4294967296 + (y16 : Int)) % 4294967296 = (((Sha.s1 y2 + y7 + Sha.s0 y15 + y16) % 4294967296 : Nat) : Int) := by omega
set_option maxHeartbeats 1000000 in
set_option maxRecDepth 1000000 in
theorem rloop4 (bl : List Nat) (hby : ∀ x ∈ bl, x < 256) (n : Nat) (hn : Hid (n = 64)) (g off L C wb at_ : Nat) (cs0 : List Nat) (w : World) (c0 c1 c2 c4 c5 c6 c10 c11 c12 c13 c14 c15 c16 c17 c18 c19 c20 c21 c22 c23 c24 c25 c26 c27 c28 c29 c30 c31 c32 c33 c34 c35 c36 c37 c38 c39 c40 c41 c42 c43 c44 c45 c46 c47 c48 c49 c50 c51 c52 c53 c54 c55 c56 c57 c58 c59 c60 c61 c62 c63 c64 c65 c66 c67 c68 c69 c70 c71 c72 c73 c74 c75 c76 c77 c78 c79 c80 c81 c82 c83 c84 c85 c86 c87 c88 c89 c90 c91 c92 c93 c94 c95 c96 c97 c98 c99 c100 c101 c102 c103 c104 c105 c106 c107 c108 c109 c110 c111 c112 c113 c114 c115 c116 c117 c118 c119 c120 c121 c122 c123 c124 c125 c126 c127 c128 c129 c130 c131 c132 c133 c134 c135 c136 c137 c138 c139 c140 c141 c142 c143 c144 c145 c146 c147 c148 c149 c150 c151 c152 c153 c154 c155 c156 c157 c158 c159 c160 c161 c162 c163 c164 c165 c166 c167 c168 c169 c170 c171 c172 c173 c174 c175 c176 c177 c178 c179 c180 c181 c182 c183 c184 c185 c186 c187 c188 c189 c190 c191 c192 c193 c194 c195 c196 c197 c198 c199 c200 c201 c202 c203 c204 c205 c206 c207 c208 c209 c210 c211 c212 c213 c214 c215 c216 c217 c218 c219 c220 c221 c222 c223 c224 c225 c226 c227 c228 c229 c230 c231 c232 c233 c234 c235 c236 c237 c238 : Value) (Q : Exit → Act → World → Prop)
    (hne : wb ≠ g) (hat : at_ + 64 ≤ L) (hL : L ≤ 281474976710656) (hc : cs0.length = 64) (hrow : Row w wb (cs0.map u32v) 157) (hsrc : ∀ j, j < 64 → w.cell? ⟨g, off + (at_ + j), none⟩ = some (u8v (bl.getD j 0)))
    (hexit : ∀ (v9 v10 v11 v12 v61 v62 v63 v64 v65 v66 v67 v68 v69 v70 v71 v72 v73 v74 v75 v76 v77 v78 v79 v80 v81 v82 v83 v84 v85 v86 v87 v88 v89 v90 v91 v92 v93 v94 v95 v96 v97 v98 v99 v100 v101 v102 v103 v104 v105 v106 v107 v108 v109 v110 v111 v112 v113 v114 v115 v116 v117 v118 v119 v120 v121 v122 v123 v124 v125 v126 : Value) (w' : World), Row w' wb ((Sha.wl bl n).map u32v) 157 ∧ w.grownBy w' (some wb) ∧ w'.heap.size = w.heap.size → Q (.exit 6) ⟨List.toArray (c0 :: c1 :: c2 :: .slice (some ⟨g, off, none⟩) L C :: c4 :: c5 :: c6 :: .pointer (some ⟨wb, 0, none⟩) :: .int .i64 (at_ : Int) :: v9 :: v10 :: v11 :: v12 :: c13 :: c14 :: c15 :: c16 :: c17 :: c18 :: c19 :: c20 :: c21 :: c22 :: c23 :: c24 :: c25 :: c26 :: c27 :: c28 :: c29 :: c30 :: c31 :: c32 :: c33 :: c34 :: c35 :: c36 :: c37 :: c38 :: c39 :: c40 :: c41 :: c42 :: c43 :: c44 :: c45 :: c46 :: c47 :: c48 :: c49 :: c50 :: c51 :: c52 :: c53 :: c54 :: c55 :: c56 :: c57 :: c58 :: c59 :: c60 :: v61 :: v62 :: v63 :: v64 :: v65 :: v66 :: v67 :: v68 :: v69 :: v70 :: v71 :: v72 :: v73 :: v74 :: v75 :: v76 :: v77 :: v78 :: v79 :: v80 :: v81 :: v82 :: v83 :: v84 :: v85 :: v86 :: v87 :: v88 :: v89 :: v90 :: v91 :: v92 :: v93 :: v94 :: v95 :: v96 :: v97 :: v98 :: v99 :: v100 :: v101 :: v102 :: v103 :: v104 :: v105 :: v106 :: v107 :: v108 :: v109 :: v110 :: v111 :: v112 :: v113 :: v114 :: v115 :: v116 :: v117 :: v118 :: v119 :: v120 :: v121 :: v122 :: v123 :: v124 :: v125 :: v126 :: c127 :: c128 :: c129 :: c130 :: c131 :: c132 :: c133 :: c134 :: c135 :: c136 :: c137 :: c138 :: c139 :: c140 :: c141 :: c142 :: c143 :: c144 :: c145 :: c146 :: c147 :: c148 :: c149 :: c150 :: c151 :: c152 :: c153 :: c154 :: c155 :: c156 :: c157 :: c158 :: c159 :: c160 :: c161 :: c162 :: c163 :: c164 :: c165 :: c166 :: c167 :: c168 :: c169 :: c170 :: c171 :: c172 :: c173 :: c174 :: c175 :: c176 :: c177 :: c178 :: c179 :: c180 :: c181 :: c182 :: c183 :: c184 :: c185 :: c186 :: c187 :: c188 :: c189 :: c190 :: c191 :: c192 :: c193 :: c194 :: c195 :: c196 :: c197 :: c198 :: c199 :: c200 :: c201 :: c202 :: c203 :: c204 :: c205 :: c206 :: c207 :: c208 :: c209 :: c210 :: c211 :: c212 :: c213 :: c214 :: c215 :: c216 :: c217 :: c218 :: c219 :: c220 :: c221 :: c222 :: c223 :: c224 :: c225 :: c226 :: c227 :: c228 :: c229 :: c230 :: c231 :: c232 :: c233 :: c234 :: c235 :: c236 :: c237 :: c238 :: []), []⟩ w') :
    Code.wp Tryz.prog (.loop ((loopsIn ((loopsIn (Tryz.f34.body.getD .skip)).getD 2 .skip)).getD 0 .skip)) Q ⟨List.toArray (c0 :: c1 :: c2 :: .slice (some ⟨g, off, none⟩) L C :: c4 :: c5 :: c6 :: .pointer (some ⟨wb, 0, none⟩) :: .int .i64 (at_ : Int) :: .int .i64 0 :: c10 :: c11 :: c12 :: c13 :: c14 :: c15 :: c16 :: c17 :: c18 :: c19 :: c20 :: c21 :: c22 :: c23 :: c24 :: c25 :: c26 :: c27 :: c28 :: c29 :: c30 :: c31 :: c32 :: c33 :: c34 :: c35 :: c36 :: c37 :: c38 :: c39 :: c40 :: c41 :: c42 :: c43 :: c44 :: c45 :: c46 :: c47 :: c48 :: c49 :: c50 :: c51 :: c52 :: c53 :: c54 :: c55 :: c56 :: c57 :: c58 :: c59 :: c60 :: c61 :: c62 :: c63 :: c64 :: c65 :: c66 :: c67 :: c68 :: c69 :: c70 :: c71 :: c72 :: c73 :: c74 :: c75 :: c76 :: c77 :: c78 :: c79 :: c80 :: c81 :: c82 :: c83 :: c84 :: c85 :: c86 :: c87 :: c88 :: c89 :: c90 :: c91 :: c92 :: c93 :: c94 :: c95 :: c96 :: c97 :: c98 :: c99 :: c100 :: c101 :: c102 :: c103 :: c104 :: c105 :: c106 :: c107 :: c108 :: c109 :: c110 :: c111 :: c112 :: c113 :: c114 :: c115 :: c116 :: c117 :: c118 :: c119 :: c120 :: c121 :: c122 :: c123 :: c124 :: c125 :: c126 :: c127 :: c128 :: c129 :: c130 :: c131 :: c132 :: c133 :: c134 :: c135 :: c136 :: c137 :: c138 :: c139 :: c140 :: c141 :: c142 :: c143 :: c144 :: c145 :: c146 :: c147 :: c148 :: c149 :: c150 :: c151 :: c152 :: c153 :: c154 :: c155 :: c156 :: c157 :: c158 :: c159 :: c160 :: c161 :: c162 :: c163 :: c164 :: c165 :: c166 :: c167 :: c168 :: c169 :: c170 :: c171 :: c172 :: c173 :: c174 :: c175 :: c176 :: c177 :: c178 :: c179 :: c180 :: c181 :: c182 :: c183 :: c184 :: c185 :: c186 :: c187 :: c188 :: c189 :: c190 :: c191 :: c192 :: c193 :: c194 :: c195 :: c196 :: c197 :: c198 :: c199 :: c200 :: c201 :: c202 :: c203 :: c204 :: c205 :: c206 :: c207 :: c208 :: c209 :: c210 :: c211 :: c212 :: c213 :: c214 :: c215 :: c216 :: c217 :: c218 :: c219 :: c220 :: c221 :: c222 :: c223 :: c224 :: c225 :: c226 :: c227 :: c228 :: c229 :: c230 :: c231 :: c232 :: c233 :: c234 :: c235 :: c236 :: c237 :: c238 :: []), []⟩ w := by
  conv => arg 2; arg 1; whnf
  refine Code.wp_mono (noPanic_of Q) ?_
  go_loopw [9] (fun v w' => ∃ (t : Nat) (cs : List Nat), t ≤ 64 ∧ v = .int .i64 (t : Int) ∧ cs.length = 64 ∧ cs.take t = Sha.wl bl t ∧ Row w' wb (cs.map u32v) 157 ∧ w.grownBy w' (some wb) ∧ w'.heap.size = w.heap.size) (fun v _ => 64 - (intOf v).toNat)
  case atStart => exact ⟨0, cs0, by omega, rfl, hc, rfl, hrow, grownBy_refl _ _, rfl⟩
  case round =>
    clear hrow hc
    obtain ⟨t, cs, ht, rfl, hc, htk, hr, hg, hs⟩ := hrel
    have HG : Hid (w.grownBy wr (some wb)) := hg
    have HS : Hid (wr.heap.size = w.heap.size) := hs
    have HTK : Hid (cs.take t = Sha.wl bl t) := htk
    by_cases hlt : t < 64
    · by_cases h16 : t < 16
      · have c4 : wr.cell? ⟨wb, t, none⟩ = some (.int .u32 ((cs.getD t 0 : Nat) : Int)) := hr.cellMap t (by omega)
        have c5 := hr.frozen t
        have k1 : (t : Int) < 16 := by omega
        generalize cs.getD t 0 = y at c4
        have hr0 : Row (wr.setCell ⟨wb, t, none⟩ (.int .u32 0)) wb ((cs.set t 0).map u32v) 157 := by rw [List.map_set]; exact hr.set_same t _
        have hg0 : w.grownBy (wr.setCell ⟨wb, t, none⟩ (.int .u32 0)) (some wb) := grownBy_trans hg (grownBy_setCell wr ⟨wb, t, none⟩ _)
        have hsrc0 : ∀ j, j < 64 → (wr.setCell ⟨wb, t, none⟩ (.int .u32 0)).cell? ⟨g, off + (at_ + j), none⟩ = some (u8v (bl.getD j 0)) := fun j hj => hg0.cell (hsrc j hj) (by simp; omega)
        have hc0 : (cs.set t 0).length = 64 := by simpa using hc
        have h00 : (cs.set t 0).getD t 0 = 0 := by simp [show t < cs.length by omega]
        have HG0 : Hid (w.grownBy (wr.setCell ⟨wb, t, none⟩ (.int .u32 0)) (some wb)) := hg0
        have HR0 := rloop5 bl hby g off L C wb at_ t (cs.set t 0) (wr.setCell ⟨wb, t, none⟩ (.int .u32 0))
        clear hexit hsrc hg hs htk hg0
        go_wp2
        refine HR0 _ _ _ _ _ _ _ _ _ _ _ _ _ _ _ _ _ _ _ _ _ _ _ _ _ _ _ _ _ _ _ _ _ _ _ _ _ _ _ _ _ _ _ _ _ _ _ _ _ _ _ _ _ _ _ _ _ _ _ _ _ _ _ _ _ _ _ _ _ _ _ _ _ _ _ _ _ _ _ _ _ _ _ _ _ _ _ _ _ _ _ _ _ _ _ _ _ _ _ _ _ _ _ _ _ _ _ _ _ _ _ _ _ _ _ _ _ _ _ _ _ _ _ _ _ _ _ _ _ _ _ _ _ _ _ _ _ _ _ _ _ _ _ _ _ _ _ _ _ _ _ _ _ _ _ _ _ _ _ _ _ _ _ _ _ _ _ _ _ _ _ _ _ _ _ _ _ _ _ _ _ _ _ _ _ _ _ _ _ _ _ _ _ _ _ _ _ _ _ _ _ _ _ _ _ _ _ _ _ _ _ _ _ _ _ _ _ _ _ _ _ _ _ _ _ _ _ _ _ _ _ _ _ _ _ h16 hne hat hL hc0 hr0 h00 hsrc0 ?_
        clear HR0 hr0 hsrc0 c4 c5
        intro _ _ _ _ _ _ _ _ _ _ _ _ _ _ _ _ _ _ _ _ _ _ w2 ⟨hr2, hg2, hs2⟩
        go_wp2
        go_roundw
        case rel =>
          go_light
          rw [List.set_set] at hr2
          refine ⟨t + 1, cs.set t (Sha.word0 bl t), by omega, by go_num, by simpa using hc, ?_, hr2, grownBy_trans HG0.out hg2, ?_⟩
          · rw [take_set_succ _ (by omega), wl_step0 bl t h16, HTK.out]
          · rw [hs2]; simpa [World.setCell] using HS.out
        case measure => simp [intOf]; omega
      · have hwl := wl_lt bl hby t
        have ht0 : 16 ≤ t := by omega
        have c0 : wr.cell? ⟨wb, t - 15, none⟩ = some (.int .u32 (((Sha.wl bl t).getD (t - 15) 0 : Nat) : Int)) := by
          rw [← htk, getD_take (by omega)]; exact hr.cellMap (t - 15) (by omega)
        have c1 : wr.cell? ⟨wb, t - 2, none⟩ = some (.int .u32 (((Sha.wl bl t).getD (t - 2) 0 : Nat) : Int)) := by
          rw [← htk, getD_take (by omega)]; exact hr.cellMap (t - 2) (by omega)
        have c2 : wr.cell? ⟨wb, t - 7, none⟩ = some (.int .u32 (((Sha.wl bl t).getD (t - 7) 0 : Nat) : Int)) := by
          rw [← htk, getD_take (by omega)]; exact hr.cellMap (t - 7) (by omega)
        have c3 : wr.cell? ⟨wb, t - 16, none⟩ = some (.int .u32 (((Sha.wl bl t).getD (t - 16) 0 : Nat) : Int)) := by
          rw [← htk, getD_take (by omega)]; exact hr.cellMap (t - 16) (by omega)
        have c4 : wr.cell? ⟨wb, t, none⟩ = some (.int .u32 ((cs.getD t 0 : Nat) : Int)) := hr.cellMap t (by omega)
        have c5 := hr.frozen t
        have b0 : (Sha.wl bl t).getD (t - 15) 0 < 4294967296 := getD_lt hwl _
        have b1 : (Sha.wl bl t).getD (t - 2) 0 < 4294967296 := getD_lt hwl _
        have b2 : (Sha.wl bl t).getD (t - 7) 0 < 4294967296 := getD_lt hwl _
        have b3 : (Sha.wl bl t).getD (t - 16) 0 < 4294967296 := getD_lt hwl _
        have hw0 : Hid (Sha.wnext (Sha.wl bl t) t = (Sha.s1 ((Sha.wl bl t).getD (t - 2) 0) + (Sha.wl bl t).getD (t - 7) 0 + Sha.s0 ((Sha.wl bl t).getD (t - 15) 0) + (Sha.wl bl t).getD (t - 16) 0) % 4294967296) := rfl
        clear hwl htk hexit hsrc hg hs
        generalize (Sha.wl bl t).getD (t - 15) 0 = y15 at c0 b0 hw0
        generalize (Sha.wl bl t).getD (t - 2) 0 = y2 at c1 b1 hw0
        generalize (Sha.wl bl t).getD (t - 7) 0 = y7 at c2 b2 hw0
        generalize (Sha.wl bl t).getD (t - 16) 0 = y16 at c3 b3 hw0
        generalize cs.getD t 0 = y0 at c4
        have f0 := s0_form y15 b0
        have f1 := s1_form y2 b1
        have k1 : (16 : Int) ≤ (t : Int) := by omega
        have k2 : (t : Int) < 64 := by omega
        have k3 : (7 : Int) ≤ (t : Int) := by omega
        have k4 : (t : Int) - 7 < 64 := by omega
        have k5 : (t : Int) - 16 < 64 := by omega
        have k6 : (0 : Int) ≤ (t : Int) - 7 := by omega
        have k7 : (0 : Int) ≤ (t : Int) - 16 := by omega
        have k8 : ((t : Int) - 7).toNat = t - 7 := by omega
        have k9 : ((t : Int) - 16).toNat = t - 16 := by omega
        have k10 : IntKind.i64.wrap ((t : Int) - 7) = (t : Int) - 7 := IntWalk.i64_in _ (by omega)
        have k11 : IntKind.i64.wrap ((t : Int) - 16) = (t : Int) - 16 := IntWalk.i64_in _ (by omega)
        have n7 : Hid (∀ v, (wr.setCell ⟨wb, t, none⟩ v).drew.cell? ⟨wb, t - 7, none⟩ = some (.int .u32 (y7 : Int))) := fun v => by
          show (wr.setCell ⟨wb, t, none⟩ v).cell? _ = _
          rw [World.cell?_setCell_other _ _ _ _ (by simp only [ne_eq, Addr.mk.injEq]; omega)]; exact c2
        have n16 : Hid (∀ v, (wr.setCell ⟨wb, t, none⟩ v).drew.cell? ⟨wb, t - 16, none⟩ = some (.int .u32 (y16 : Int))) := fun v => by
          show (wr.setCell ⟨wb, t, none⟩ v).cell? _ = _
          rw [World.cell?_setCell_other _ _ _ _ (by simp only [ne_eq, Addr.mk.injEq]; omega)]; exact c3
        go_wp2
        go_region_held3 (fun w' => w'.cell? ⟨wb, t - 7, none⟩ = some (.int .u32 (y7 : Int)) ∧ w'.cell? ⟨wb, t - 16, none⟩ = some (.int .u32 (y16 : Int))) (first | exact ⟨n7.out _, n16.out _⟩ | go_keep) (first | (go_at_call 78; refine (turn_k _ _ (by assumption) (by decide) (by decide) _).mono ?_; rintro e w' ⟨rfl, rfl⟩))
        go_wp2
        go_roundw
        case rel =>
          go_light
          rw [wnext_form2 y2 y7 y15 y16, ← hw0.out]
          refine ⟨t + 1, cs.set t (Sha.wnext (Sha.wl bl t) t), by omega, by go_num, by simpa using hc, ?_, ?_, ?_, ?_⟩
          · rw [take_set_succ _ (by omega), wl_step1 bl t ht0, HTK.out]
          · rw [List.map_set]; exact (hr.set_same t _).drew
          · exact grownBy_trans (grownBy_trans HG.out (grownBy_setCell wr ⟨wb, t, none⟩ _)) (grownBy_drew _ _)
          · simpa [World.setCell] using HS.out
        case measure => simp [intOf]; omega
    · have HK : Hid (t = 64) := by show t = 64; omega
      have e : cs = Sha.wl bl n := by rw [hn.out, ← HK.out, ← HTK.out, List.take_of_length_le (by rw [HK.out]; omega)]
      clear hsrc htk
      go_wp2
      rw [e] at hr
      exact hexit _ _ _ _ _ _ _ _ _ _ _ _ _ _ _ _ _ _ _ _ _ _ _ _ _ _ _ _ _ _ _ _ _ _ _ _ _ _ _ _ _ _ _ _ _ _ _ _ _ _ _ _ _ _ _ _ _ _ _ _ _ _ _ _ _ _ _ _ _ _ _ ⟨hr, HG.out, HS.out⟩
end Go.Proofs.YtamaejlbojbbeaaGreatDoor.Sb
namespace Go.Proofs.YtamaejlbojbbeaaGreatDoor.Sb
open Go.RowKit
attribute [local go_sem] noPanic_exit noPanic_normal
/-- a state while its words above the k-th have been moved up by one place -/
def sh (s : Sha.St) (k : Nat) : List Nat := s.list.take (k + 1) ++ (s.list.take 7).drop k
theorem lt7 {k : Nat} (h : k ≤ 7) (h0 : 0 < k) : k = 1 ∨ k = 2 ∨ k = 3 ∨ k = 4 ∨ k = 5 ∨ k = 6 ∨ k = 7 := by omega
theorem sh_length (s : Sha.St) (k : Nat) (h : k ≤ 7) : (sh s k).length = 8 := by simp [sh, Sha.St.list]; omega
theorem sh_set (s : Sha.St) (k : Nat) (h : k ≤ 7) (h0 : 0 < k) : (sh s k).set k ((sh s k).getD (k - 1) 0) = sh s (k - 1) := by
  rcases lt7 h h0 with rfl | rfl | rfl | rfl | rfl | rfl | rfl <;> rfl
set_option maxHeartbeats 1000000 in
set_option maxRecDepth 1000000 in
theorem rloop7 (s : Sha.St) (sb : Nat) (w : World) (c0 c1 c2 c3 c4 c5 c6 c7 c8 c9 c10 c11 c12 c14 c15 c16 c17 c18 c20 c21 c22 c23 c24 c25 c26 c27 c28 c29 c30 c31 c32 c33 c34 c35 c36 c37 c38 c39 c40 c41 c42 c43 c44 c45 c46 c47 c48 c49 c50 c51 c52 c53 c54 c55 c56 c57 c58 c59 c60 c61 c62 c63 c64 c65 c66 c67 c68 c69 c70 c71 c72 c73 c74 c75 c76 c77 c78 c79 c80 c81 c82 c83 c84 c85 c86 c87 c88 c89 c90 c91 c92 c93 c94 c95 c96 c97 c98 c99 c100 c101 c102 c103 c104 c105 c106 c107 c108 c109 c110 c111 c112 c113 c114 c115 c116 c117 c118 c119 c120 c121 c122 c123 c124 c125 c126 c127 c128 c129 c130 c131 c132 c133 c134 c135 c136 c137 c138 c139 c140 c141 c142 c143 c144 c145 c146 c147 c148 c149 c150 c151 c152 c153 c154 c155 c156 c157 c158 c159 c160 c161 c162 c163 c164 c165 c166 c167 c168 c169 c170 c171 c172 c173 c174 c175 c176 c177 c178 c179 c180 c181 c182 c183 c184 c185 c186 c187 c188 c189 c190 c191 c192 c193 c194 c195 c196 c197 c198 c199 c200 c201 c202 c203 c204 c205 c206 c207 c208 c209 c210 c211 c212 c213 c214 c215 c216 c217 c218 c219 c220 c221 c222 c223 c224 c225 c226 c227 c228 c229 c230 c231 c232 c233 c234 c235 c236 c237 c238 : Value) (Q : Exit → Act → World → Prop)
    (hrow : Row w sb (s.list.map u32v) 156)
    (hexit : ∀ (v19 v189 v190 v191 v192 v193 v194 v195 v196 v197 v198 : Value) (w' : World), Row w' sb ((sh s 0).map u32v) 156 ∧ w.grownBy w' (some sb) ∧ w'.heap.size = w.heap.size → Q (.exit 12) ⟨List.toArray (c0 :: c1 :: c2 :: c3 :: c4 :: c5 :: c6 :: c7 :: c8 :: c9 :: c10 :: c11 :: c12 :: .pointer (some ⟨sb, 0, none⟩) :: c14 :: c15 :: c16 :: c17 :: c18 :: v19 :: c20 :: c21 :: c22 :: c23 :: c24 :: c25 :: c26 :: c27 :: c28 :: c29 :: c30 :: c31 :: c32 :: c33 :: c34 :: c35 :: c36 :: c37 :: c38 :: c39 :: c40 :: c41 :: c42 :: c43 :: c44 :: c45 :: c46 :: c47 :: c48 :: c49 :: c50 :: c51 :: c52 :: c53 :: c54 :: c55 :: c56 :: c57 :: c58 :: c59 :: c60 :: c61 :: c62 :: c63 :: c64 :: c65 :: c66 :: c67 :: c68 :: c69 :: c70 :: c71 :: c72 :: c73 :: c74 :: c75 :: c76 :: c77 :: c78 :: c79 :: c80 :: c81 :: c82 :: c83 :: c84 :: c85 :: c86 :: c87 :: c88 :: c89 :: c90 :: c91 :: c92 :: c93 :: c94 :: c95 :: c96 :: c97 :: c98 :: c99 :: c100 :: c101 :: c102 :: c103 :: c104 :: c105 :: c106 :: c107 :: c108 :: c109 :: c110 :: c111 :: c112 :: c113 :: c114 :: c115 :: c116 :: c117 :: c118 :: c119 :: c120 :: c121 :: c122 :: c123 :: c124 :: c125 :: c126 :: c127 :: c128 :: c129 :: c130 :: c131 :: c132 :: c133 :: c134 :: c135 :: c136 :: c137 :: c138 :: c139 :: c140 :: c141 :: c142 :: c143 :: c144 :: c145 :: c146 :: c147 :: c148 :: c149 :: c150 :: c151 :: c152 :: c153 :: c154 :: c155 :: c156 :: c157 :: c158 :: c159 :: c160 :: c161 :: c162 :: c163 :: c164 :: c165 :: c166 :: c167 :: c168 :: c169 :: c170 :: c171 :: c172 :: c173 :: c174 :: c175 :: c176 :: c177 :: c178 :: c179 :: c180 :: c181 :: c182 :: c183 :: c184 :: c185 :: c186 :: c187 :: c188 :: v189 :: v190 :: v191 :: v192 :: v193 :: v194 :: v195 :: v196 :: v197 :: v198 :: c199 :: c200 :: c201 :: c202 :: c203 :: c204 :: c205 :: c206 :: c207 :: c208 :: c209 :: c210 :: c211 :: c212 :: c213 :: c214 :: c215 :: c216 :: c217 :: c218 :: c219 :: c220 :: c221 :: c222 :: c223 :: c224 :: c225 :: c226 :: c227 :: c228 :: c229 :: c230 :: c231 :: c232 :: c233 :: c234 :: c235 :: c236 :: c237 :: c238 :: []), []⟩ w') :
    Code.wp Tryz.prog (.loop ((loopsIn ((loopsIn ((loopsIn (Tryz.f34.body.getD .skip)).getD 2 .skip)).getD 1 .skip)).getD 0 .skip)) Q ⟨List.toArray (c0 :: c1 :: c2 :: c3 :: c4 :: c5 :: c6 :: c7 :: c8 :: c9 :: c10 :: c11 :: c12 :: .pointer (some ⟨sb, 0, none⟩) :: c14 :: c15 :: c16 :: c17 :: c18 :: .int .i64 7 :: c20 :: c21 :: c22 :: c23 :: c24 :: c25 :: c26 :: c27 :: c28 :: c29 :: c30 :: c31 :: c32 :: c33 :: c34 :: c35 :: c36 :: c37 :: c38 :: c39 :: c40 :: c41 :: c42 :: c43 :: c44 :: c45 :: c46 :: c47 :: c48 :: c49 :: c50 :: c51 :: c52 :: c53 :: c54 :: c55 :: c56 :: c57 :: c58 :: c59 :: c60 :: c61 :: c62 :: c63 :: c64 :: c65 :: c66 :: c67 :: c68 :: c69 :: c70 :: c71 :: c72 :: c73 :: c74 :: c75 :: c76 :: c77 :: c78 :: c79 :: c80 :: c81 :: c82 :: c83 :: c84 :: c85 :: c86 :: c87 :: c88 :: c89 :: c90 :: c91 :: c92 :: c93 :: c94 :: c95 :: c96 :: c97 :: c98 :: c99 :: c100 :: c101 :: c102 :: c103 :: c104 :: c105 :: c106 :: c107 :: c108 :: c109 :: c110 :: c111 :: c112 :: c113 :: c114 :: c115 :: c116 :: c117 :: c118 :: c119 :: c120 :: c121 :: c122 :: c123 :: c124 :: c125 :: c126 :: c127 :: c128 :: c129 :: c130 :: c131 :: c132 :: c133 :: c134 :: c135 :: c136 :: c137 :: c138 :: c139 :: c140 :: c141 :: c142 :: c143 :: c144 :: c145 :: c146 :: c147 :: c148 :: c149 :: c150 :: c151 :: c152 :: c153 :: c154 :: c155 :: c156 :: c157 :: c158 :: c159 :: c160 :: c161 :: c162 :: c163 :: c164 :: c165 :: c166 :: c167 :: c168 :: c169 :: c170 :: c171 :: c172 :: c173 :: c174 :: c175 :: c176 :: c177 :: c178 :: c179 :: c180 :: c181 :: c182 :: c183 :: c184 :: c185 :: c186 :: c187 :: c188 :: c189 :: c190 :: c191 :: c192 :: c193 :: c194 :: c195 :: c196 :: c197 :: c198 :: c199 :: c200 :: c201 :: c202 :: c203 :: c204 :: c205 :: c206 :: c207 :: c208 :: c209 :: c210 :: c211 :: c212 :: c213 :: c214 :: c215 :: c216 :: c217 :: c218 :: c219 :: c220 :: c221 :: c222 :: c223 :: c224 :: c225 :: c226 :: c227 :: c228 :: c229 :: c230 :: c231 :: c232 :: c233 :: c234 :: c235 :: c236 :: c237 :: c238 :: []), []⟩ w := by
  conv => arg 2; arg 1; whnf
  refine Code.wp_mono (noPanic_of Q) ?_
  go_loopw [19] (fun v w' => ∃ k : Nat, k ≤ 7 ∧ v = .int .i64 (k : Int) ∧ Row w' sb ((sh s k).map u32v) 156 ∧ w.grownBy w' (some sb) ∧ w'.heap.size = w.heap.size) (fun v _ => (intOf v).toNat)
  case atStart => exact ⟨7, by omega, rfl, hrow, grownBy_refl _ _, rfl⟩
  case round =>
    obtain ⟨k, hk, rfl, hr, hg, hs⟩ := hrel
    have HG : Hid (w.grownBy wr (some sb)) := hg
    have HS : Hid (wr.heap.size = w.heap.size) := hs
    by_cases hlt : 0 < k
    · have hl := sh_length s k hk
      have c1 : wr.cell? ⟨sb, k - 1, none⟩ = some (.int .u32 (((sh s k).getD (k - 1) 0 : Nat) : Int)) := hr.cellMap _ (by omega)
      have c2 : wr.cell? ⟨sb, k, none⟩ = some (.int .u32 (((sh s k).getD k 0 : Nat) : Int)) := hr.cellMap _ (by omega)
      have f2 := hr.frozen k
      have HP : Hid ((sh s k).set k ((sh s k).getD (k - 1) 0) = sh s (k - 1)) := sh_set s k hk hlt
      have k0 : (0 : Int) < (k : Int) := by omega
      have k1 : (k : Int) ≤ 7 := by omega
      generalize (sh s k).getD (k - 1) 0 = x at c1 HP
      generalize (sh s k).getD k 0 = y at c2
      clear hexit hg hs hrow hl
      go_wp2
      go_roundw
      case rel =>
        go_light
        refine ⟨k - 1, by omega, by go_num, ?_, ?_, ?_⟩
        · rw [← HP.out, List.map_set]; exact hr.set_same k _
        · exact grownBy_trans HG.out (grownBy_setCell wr ⟨sb, k, none⟩ _)
        · simpa [World.setCell] using HS.out
      case measure => simp [intOf]; omega
    · have HK : Hid (k = 0) := by show k = 0; omega
      go_wp2
      rw [HK.out] at hr
      exact hexit _ _ _ _ _ _ _ _ _ _ _ _ ⟨hr, HG.out, HS.out⟩
end Go.Proofs.YtamaejlbojbbeaaGreatDoor.Sb
namespace Go.Proofs.YtamaejlbojbbeaaGreatDoor.Sb
open Go.RowKit
attribute [local go_sem] noPanic_exit noPanic_normal
attribute [local go_sem ↓] Go.wp_at_zero Go.wp_at_succ
theorem ch_form2 (e f g : Nat) (he : e < 4294967296) (hf : f < 4294967296) (hg : g < 4294967296) :
    bits .xor .u32 (bits .and .u32 (e : Int) (f : Int)) (bits .and .u32 (bits .xor .u32 4294967295 (e : Int)) (g : Int)) = (Sha.ch e f g : Int) := ch_form e f g he hf hg
theorem rd_form (r : Sha.St) (kt wt : Nat) : ((r.d : Int) + ((r.h : Int) + (Sha.S1 r.e : Int) + (Sha.ch r.e r.f r.g : Int) + (kt : Int) + (wt : Int))) % 4294967296 = (((r.d + Sha.t1 r kt wt) % 4294967296 : Nat) : Int) := by
  unfold Sha.t1; omega
theorem ra_form (r : Sha.St) (kt wt : Nat) : ((r.h : Int) + (Sha.S1 r.e : Int) + (Sha.ch r.e r.f r.g : Int) + (kt : Int) + (wt : Int) + ((Sha.S0 r.a : Int) + (Sha.maj r.a r.b r.c : Int))) % 4294967296 = (((Sha.t1 r kt wt + Sha.t2 r) % 4294967296 : Nat) : Int) := by
  unfold Sha.t1 Sha.t2; omega
theorem grownBy_drewN (w : World) (n : Nat) (row : Option Nat) : w.grownBy (w.drewN n) row := grown_of_below (below_drewN (Below.refl _ _) n)
theorem constant_kt (t kt : Nat) (ht : t < 64) (hk : Hid (kt = Sha.K.getD t 0)) (w : World) :
    Calls Tryz.prog 79 #[.int .i64 (t : Int)] w fun e w' => e = .returned (.int .u32 (kt : Int)) ∧ Below w.heap.size w w' := by
  have h := constant_any t ht w
  rw [← hk.out] at h
  exact h
set_option maxHeartbeats 1000000 in
set_option maxRecDepth 1000000 in
theorem rloop6 (s : Sha.St) (hok : Ok s) (W : List Nat) (hWl : W.length = 64) (hWb : ∀ x ∈ W, x < 4294967296) (n : Nat) (hn : Hid (n = 64)) (wb sb : Nat) (w : World) (c0 c1 c2 c3 c4 c5 c6 c8 c9 c10 c11 c12 c15 c16 c17 c18 c19 c20 c21 c22 c23 c24 c25 c26 c27 c28 c29 c30 c31 c32 c33 c34 c35 c36 c37 c38 c39 c40 c41 c42 c43 c44 c45 c46 c47 c48 c49 c50 c51 c52 c53 c54 c55 c56 c57 c58 c59 c60 c61 c62 c63 c64 c65 c66 c67 c68 c69 c70 c71 c72 c73 c74 c75 c76 c77 c78 c79 c80 c81 c82 c83 c84 c85 c86 c87 c88 c89 c90 c91 c92 c93 c94 c95 c96 c97 c98 c99 c100 c101 c102 c103 c104 c105 c106 c107 c108 c109 c110 c111 c112 c113 c114 c115 c116 c117 c118 c119 c120 c121 c122 c123 c124 c125 c126 c127 c128 c129 c130 c131 c132 c133 c134 c135 c136 c137 c138 c139 c140 c141 c142 c143 c144 c145 c146 c147 c148 c149 c150 c151 c152 c153 c154 c155 c156 c157 c158 c159 c160 c161 c162 c163 c164 c165 c166 c167 c168 c169 c170 c171 c172 c173 c174 c175 c176 c177 c178 c179 c180 c181 c182 c183 c184 c185 c186 c187 c188 c189 c190 c191 c192 c193 c194 c195 c196 c197 c198 c199 c200 c201 c202 c203 c204 c205 c206 c207 c208 c209 c210 c211 c212 c213 c214 c215 c216 c217 c218 c219 c220 c221 c222 c223 c224 c225 c226 c227 c228 c229 c230 c231 c232 c233 c234 c235 c236 c237 c238 : Value) (Q : Exit → Act → World → Prop)
    (hne : sb ≠ wb) (hrow : Row w sb (s.list.map u32v) 156) (hrw : Row w wb (W.map u32v) 157)
    (hexit : ∀ (v14 v15 v16 v17 v18 v19 v128 v129 v130 v131 v132 v133 v134 v135 v136 v137 v138 v139 v140 v141 v142 v143 v144 v145 v146 v147 v148 v149 v150 v151 v152 v153 v154 v155 v156 v157 v158 v159 v160 v161 v162 v163 v164 v165 v166 v167 v168 v169 v170 v171 v172 v173 v174 v175 v176 v177 v178 v179 v180 v181 v182 v183 v184 v185 v186 v187 v188 v189 v190 v191 v192 v193 v194 v195 v196 v197 v198 v199 v200 v201 v202 v203 v204 v205 v206 v207 : Value) (w' : World), Row w' sb ((Sha.rounds s W n).list.map u32v) 156 ∧ Row w' wb (W.map u32v) 157 ∧ w.grownBy w' (some sb) → Q (.exit 10) ⟨List.toArray (c0 :: c1 :: c2 :: c3 :: c4 :: c5 :: c6 :: .pointer (some ⟨wb, 0, none⟩) :: c8 :: c9 :: c10 :: c11 :: c12 :: .pointer (some ⟨sb, 0, none⟩) :: v14 :: v15 :: v16 :: v17 :: v18 :: v19 :: c20 :: c21 :: c22 :: c23 :: c24 :: c25 :: c26 :: c27 :: c28 :: c29 :: c30 :: c31 :: c32 :: c33 :: c34 :: c35 :: c36 :: c37 :: c38 :: c39 :: c40 :: c41 :: c42 :: c43 :: c44 :: c45 :: c46 :: c47 :: c48 :: c49 :: c50 :: c51 :: c52 :: c53 :: c54 :: c55 :: c56 :: c57 :: c58 :: c59 :: c60 :: c61 :: c62 :: c63 :: c64 :: c65 :: c66 :: c67 :: c68 :: c69 :: c70 :: c71 :: c72 :: c73 :: c74 :: c75 :: c76 :: c77 :: c78 :: c79 :: c80 :: c81 :: c82 :: c83 :: c84 :: c85 :: c86 :: c87 :: c88 :: c89 :: c90 :: c91 :: c92 :: c93 :: c94 :: c95 :: c96 :: c97 :: c98 :: c99 :: c100 :: c101 :: c102 :: c103 :: c104 :: c105 :: c106 :: c107 :: c108 :: c109 :: c110 :: c111 :: c112 :: c113 :: c114 :: c115 :: c116 :: c117 :: c118 :: c119 :: c120 :: c121 :: c122 :: c123 :: c124 :: c125 :: c126 :: c127 :: v128 :: v129 :: v130 :: v131 :: v132 :: v133 :: v134 :: v135 :: v136 :: v137 :: v138 :: v139 :: v140 :: v141 :: v142 :: v143 :: v144 :: v145 :: v146 :: v147 :: v148 :: v149 :: v150 :: v151 :: v152 :: v153 :: v154 :: v155 :: v156 :: v157 :: v158 :: v159 :: v160 :: v161 :: v162 :: v163 :: v164 :: v165 :: v166 :: v167 :: v168 :: v169 :: v170 :: v171 :: v172 :: v173 :: v174 :: v175 :: v176 :: v177 :: v178 :: v179 :: v180 :: v181 :: v182 :: v183 :: v184 :: v185 :: v186 :: v187 :: v188 :: v189 :: v190 :: v191 :: v192 :: v193 :: v194 :: v195 :: v196 :: v197 :: v198 :: v199 :: v200 :: v201 :: v202 :: v203 :: v204 :: v205 :: v206 :: v207 :: c208 :: c209 :: c210 :: c211 :: c212 :: c213 :: c214 :: c215 :: c216 :: c217 :: c218 :: c219 :: c220 :: c221 :: c222 :: c223 :: c224 :: c225 :: c226 :: c227 :: c228 :: c229 :: c230 :: c231 :: c232 :: c233 :: c234 :: c235 :: c236 :: c237 :: c238 :: []), []⟩ w') :
    Code.wp Tryz.prog (.loop ((loopsIn ((loopsIn (Tryz.f34.body.getD .skip)).getD 2 .skip)).getD 1 .skip)) Q ⟨List.toArray (c0 :: c1 :: c2 :: c3 :: c4 :: c5 :: c6 :: .pointer (some ⟨wb, 0, none⟩) :: c8 :: c9 :: c10 :: c11 :: c12 :: .pointer (some ⟨sb, 0, none⟩) :: .int .i64 0 :: c15 :: c16 :: c17 :: c18 :: c19 :: c20 :: c21 :: c22 :: c23 :: c24 :: c25 :: c26 :: c27 :: c28 :: c29 :: c30 :: c31 :: c32 :: c33 :: c34 :: c35 :: c36 :: c37 :: c38 :: c39 :: c40 :: c41 :: c42 :: c43 :: c44 :: c45 :: c46 :: c47 :: c48 :: c49 :: c50 :: c51 :: c52 :: c53 :: c54 :: c55 :: c56 :: c57 :: c58 :: c59 :: c60 :: c61 :: c62 :: c63 :: c64 :: c65 :: c66 :: c67 :: c68 :: c69 :: c70 :: c71 :: c72 :: c73 :: c74 :: c75 :: c76 :: c77 :: c78 :: c79 :: c80 :: c81 :: c82 :: c83 :: c84 :: c85 :: c86 :: c87 :: c88 :: c89 :: c90 :: c91 :: c92 :: c93 :: c94 :: c95 :: c96 :: c97 :: c98 :: c99 :: c100 :: c101 :: c102 :: c103 :: c104 :: c105 :: c106 :: c107 :: c108 :: c109 :: c110 :: c111 :: c112 :: c113 :: c114 :: c115 :: c116 :: c117 :: c118 :: c119 :: c120 :: c121 :: c122 :: c123 :: c124 :: c125 :: c126 :: c127 :: c128 :: c129 :: c130 :: c131 :: c132 :: c133 :: c134 :: c135 :: c136 :: c137 :: c138 :: c139 :: c140 :: c141 :: c142 :: c143 :: c144 :: c145 :: c146 :: c147 :: c148 :: c149 :: c150 :: c151 :: c152 :: c153 :: c154 :: c155 :: c156 :: c157 :: c158 :: c159 :: c160 :: c161 :: c162 :: c163 :: c164 :: c165 :: c166 :: c167 :: c168 :: c169 :: c170 :: c171 :: c172 :: c173 :: c174 :: c175 :: c176 :: c177 :: c178 :: c179 :: c180 :: c181 :: c182 :: c183 :: c184 :: c185 :: c186 :: c187 :: c188 :: c189 :: c190 :: c191 :: c192 :: c193 :: c194 :: c195 :: c196 :: c197 :: c198 :: c199 :: c200 :: c201 :: c202 :: c203 :: c204 :: c205 :: c206 :: c207 :: c208 :: c209 :: c210 :: c211 :: c212 :: c213 :: c214 :: c215 :: c216 :: c217 :: c218 :: c219 :: c220 :: c221 :: c222 :: c223 :: c224 :: c225 :: c226 :: c227 :: c228 :: c229 :: c230 :: c231 :: c232 :: c233 :: c234 :: c235 :: c236 :: c237 :: c238 :: []), []⟩ w := by
  conv => arg 2; arg 1; whnf
  refine Code.wp_mono (noPanic_of Q) ?_
  go_loopw [14] (fun v w' => ∃ (t : Nat) (r : Sha.St), t ≤ 64 ∧ v = .int .i64 (t : Int) ∧ r = Sha.rounds s W t ∧ Row w' sb (r.list.map u32v) 156 ∧ Row w' wb (W.map u32v) 157 ∧ w.grownBy w' (some sb)) (fun v _ => 64 - (intOf v).toNat)
  case atStart => exact ⟨0, s, by omega, rfl, rfl, hrow, hrw, grownBy_refl _ _⟩
  case round =>
    clear hrow hrw
    obtain ⟨t, r, ht, rfl, hrr, hr, hrw, hg⟩ := hrel
    have HG : Hid (w.grownBy wr (some sb)) := hg
    have HR : Hid (r = Sha.rounds s W t) := hrr
    have hrok : Ok r := by rw [hrr]; exact rounds_ok hok W t
    clear hg hrr
    by_cases hlt : t < 64
    · obtain ⟨oa, ob, oc, od, oe, of, og, oh⟩ := hrok
      obtain ⟨kt, hkt, hktb⟩ : ∃ kt, Hid (kt = Sha.K.getD t 0) ∧ kt < 4294967296 := ⟨_, rfl, getD_lt (by decide) t⟩
      have hstep : Hid (Sha.rounds s W (t + 1) = Sha.rnd r kt (W.getD t 0)) := by show _ = _; rw [HR.out, hkt.out]; rfl
      have hwt : W.getD t 0 < 4294967296 := getD_lt hWb t
      have c0 : wr.cell? ⟨sb, 0, none⟩ = some (.int .u32 (r.a : Int)) := hr.cell 0
      have c1 : wr.cell? ⟨sb, 1, none⟩ = some (.int .u32 (r.b : Int)) := hr.cell 1
      have c2 : wr.cell? ⟨sb, 2, none⟩ = some (.int .u32 (r.c : Int)) := hr.cell 2
      have c4 : wr.cell? ⟨sb, 4, none⟩ = some (.int .u32 (r.e : Int)) := hr.cell 4
      have c5 : wr.cell? ⟨sb, 5, none⟩ = some (.int .u32 (r.f : Int)) := hr.cell 5
      have c6 : wr.cell? ⟨sb, 6, none⟩ = some (.int .u32 (r.g : Int)) := hr.cell 6
      have c7 : wr.cell? ⟨sb, 7, none⟩ = some (.int .u32 (r.h : Int)) := hr.cell 7
      have cw : wr.cell? ⟨wb, t, none⟩ = some (.int .u32 ((W.getD t 0 : Nat) : Int)) := hrw.cellMap t (by omega)
      generalize W.getD t 0 = wt at cw hstep hwt
      have hrd : Row wr.drew sb (r.list.map u32v) 156 := hr
      have hwd : Row wr.drew wb (W.map u32v) 157 := hrw
      have k1 : (0 : Int) ≤ (t : Int) := by omega
      have k2 : (t : Int) < 64 := by omega
      have HWB : Hid (∀ x ∈ W, x < 4294967296) := hWb
      clear hexit hWb hok hr hrw
      go_wp2
      go_region_held3 (fun w' => w'.cell? ⟨sb, 5, none⟩ = some (.int .u32 (r.f : Int)) ∧ w'.cell? ⟨sb, 6, none⟩ = some (.int .u32 (r.g : Int)) ∧ w'.cell? ⟨sb, 7, none⟩ = some (.int .u32 (r.h : Int)) ∧ w'.cell? ⟨wb, t, none⟩ = some (.int .u32 (wt : Int))) (go_keep) (first | (go_at_call 78; refine (turn_k _ _ (by assumption) (by decide) (by decide) _).mono ?_; rintro e w' ⟨rfl, rfl⟩) | (go_at_call 79; refine (constant_kt t kt hlt hkt wr.drew).mono ?_; rintro e w3 ⟨rfl, hbk⟩; have hr3 := Row.below hrd hbk hrd.lt; have hw3 := Row.below hwd hbk hwd.lt; have q1 : w3.cell? ⟨sb, 1, none⟩ = some (.int .u32 (r.b : Int)) := hr3.cell 1; have q2 : w3.cell? ⟨sb, 2, none⟩ = some (.int .u32 (r.c : Int)) := hr3.cell 2; have q5 : w3.cell? ⟨sb, 5, none⟩ = some (.int .u32 (r.f : Int)) := hr3.cell 5; have q6 : w3.cell? ⟨sb, 6, none⟩ = some (.int .u32 (r.g : Int)) := hr3.cell 6; have q7 : w3.cell? ⟨sb, 7, none⟩ = some (.int .u32 (r.h : Int)) := hr3.cell 7; have qw : w3.cell? ⟨wb, t, none⟩ = some (.int .u32 (wt : Int)) := (hbk.cell (World.block_lt_of_cell? wr.drew ⟨wb, t, none⟩ cw)).trans cw))
      clear c0 c1 c2 c4 c5 c6 c7 cw hrd hwd
      go_wp2
      go_quiet ((go_at_call 78; exact Calls.quiet_of_same (turn_k _ _ (by assumption) (by decide) (by decide) _)))
      go_wp2
      refine rloop7 r sb _ _ _ _ _ _ _ _ _ _ _ _ _ _ _ _ _ _ _ _ _ _ _ _ _ _ _ _ _ _ _ _ _ _ _ _ _ _ _ _ _ _ _ _ _ _ _ _ _ _ _ _ _ _ _ _ _ _ _ _ _ _ _ _ _ _ _ _ _ _ _ _ _ _ _ _ _ _ _ _ _ _ _ _ _ _ _ _ _ _ _ _ _ _ _ _ _ _ _ _ _ _ _ _ _ _ _ _ _ _ _ _ _ _ _ _ _ _ _ _ _ _ _ _ _ _ _ _ _ _ _ _ _ _ _ _ _ _ _ _ _ _ _ _ _ _ _ _ _ _ _ _ _ _ _ _ _ _ _ _ _ _ _ _ _ _ _ _ _ _ _ _ _ _ _ _ _ _ _ _ _ _ _ _ _ _ _ _ _ _ _ _ _ _ _ _ _ _ _ _ _ _ _ _ _ _ _ _ _ _ _ _ _ _ _ _ _ _ _ _ _ _ _ _ _ _ _ _ _ _ _ _ _ _ _ _ _ _ _ (hr3.drewN _) ?_
      intro _ _ _ _ _ _ _ _ _ _ _ w4 ⟨hr4, hg4, hs4⟩
      have d0 : w4.cell? ⟨sb, 0, none⟩ = some (.int .u32 (r.a : Int)) := hr4.cell 0
      have d4 : w4.cell? ⟨sb, 4, none⟩ = some (.int .u32 (r.d : Int)) := hr4.cell 4
      have f0 := hr4.frozen 0
      have f4 := hr4.frozen 4
      clear q1 q2 q5 q6 q7 qw
      go_wp2
      go_roundw
      case rel =>
        go_light
        rw [S1_form r.e oe, S0_form r.a oa, maj_form r.a r.b r.c oa ob oc, ch_form2 r.e r.f r.g oe of og, rd_form, ra_form]
        refine ⟨t + 1, Sha.rnd r kt wt, by omega, by go_num, hstep.out.symm, (hr4.set_same 4 _).set_same 0 _, ?_, ?_⟩
        · exact (((hw3.drewN _).grown hg4 (by simp; omega)).set_other _ _ (by simp; omega)).set_other _ _ (by simp; omega)
        · exact grownBy_trans (grownBy_trans (grownBy_trans (grownBy_trans (grownBy_trans (grownBy_trans HG.out (grownBy_drew wr _)) (grown_of_below hbk)) (grownBy_drewN w3 _ _)) hg4) (grownBy_setCell w4 ⟨sb, 4, none⟩ _)) (grownBy_setCell _ ⟨sb, 0, none⟩ _)
      case measure => simp [intOf]; omega
    · have HK : Hid (t = 64) := by show t = 64; omega
      go_wp2
      rw [HR.out, HK.out, ← hn.out] at hr
      exact hexit _ _ _ _ _ _ _ _ _ _ _ _ _ _ _ _ _ _ _ _ _ _ _ _ _ _ _ _ _ _ _ _ _ _ _ _ _ _ _ _ _ _ _ _ _ _ _ _ _ _ _ _ _ _ _ _ _ _ _ _ _ _ _ _ _ _ _ _ _ _ _ _ _ _ _ _ _ _ _ _ _ _ _ _ _ _ _ ⟨hr, hrw, HG.out⟩
end Go.Proofs.YtamaejlbojbbeaaGreatDoor.Sb
namespace Go.Proofs.YtamaejlbojbbeaaGreatDoor.Sb
open Go.RowKit
attribute [local go_sem] noPanic_exit noPanic_normal
set_option maxHeartbeats 1000000 in
set_option maxRecDepth 1000000 in
theorem rloop8 (s r : Sha.St) (hb sb : Nat) (w : World) (c0 c1 c2 c3 c4 c5 c7 c8 c9 c10 c11 c12 c14 c15 c16 c17 c18 c19 c21 c22 c23 c24 c25 c26 c27 c28 c29 c30 c31 c32 c33 c34 c35 c36 c37 c38 c39 c40 c41 c42 c43 c44 c45 c46 c47 c48 c49 c50 c51 c52 c53 c54 c55 c56 c57 c58 c59 c60 c61 c62 c63 c64 c65 c66 c67 c68 c69 c70 c71 c72 c73 c74 c75 c76 c77 c78 c79 c80 c81 c82 c83 c84 c85 c86 c87 c88 c89 c90 c91 c92 c93 c94 c95 c96 c97 c98 c99 c100 c101 c102 c103 c104 c105 c106 c107 c108 c109 c110 c111 c112 c113 c114 c115 c116 c117 c118 c119 c120 c121 c122 c123 c124 c125 c126 c127 c128 c129 c130 c131 c132 c133 c134 c135 c136 c137 c138 c139 c140 c141 c142 c143 c144 c145 c146 c147 c148 c149 c150 c151 c152 c153 c154 c155 c156 c157 c158 c159 c160 c161 c162 c163 c164 c165 c166 c167 c168 c169 c170 c171 c172 c173 c174 c175 c176 c177 c178 c179 c180 c181 c182 c183 c184 c185 c186 c187 c188 c189 c190 c191 c192 c193 c194 c195 c196 c197 c198 c199 c200 c201 c202 c203 c204 c205 c206 c207 c208 c209 c210 c211 c212 c213 c214 c215 c216 c217 c218 c219 c220 c221 c222 c223 c224 c225 c226 c227 c228 c229 c230 c231 c232 c233 c234 c235 c236 c237 c238 : Value) (Q : Exit → Act → World → Prop)
    (hne : hb ≠ sb) (hrow : Row w hb (s.list.map u32v) 156) (hrs : Row w sb (r.list.map u32v) 156)
    (hexit : ∀ (v20 v208 v209 v210 v211 v212 v213 v214 v215 v216 v217 v218 v219 v220 : Value) (w' : World), Row w' hb ((Sha.plus s r).list.map u32v) 156 ∧ w.grownBy w' (some hb) ∧ w'.heap.size = w.heap.size → Q (.exit 14) ⟨List.toArray (c0 :: c1 :: c2 :: c3 :: c4 :: c5 :: .pointer (some ⟨hb, 0, none⟩) :: c7 :: c8 :: c9 :: c10 :: c11 :: c12 :: .pointer (some ⟨sb, 0, none⟩) :: c14 :: c15 :: c16 :: c17 :: c18 :: c19 :: v20 :: c21 :: c22 :: c23 :: c24 :: c25 :: c26 :: c27 :: c28 :: c29 :: c30 :: c31 :: c32 :: c33 :: c34 :: c35 :: c36 :: c37 :: c38 :: c39 :: c40 :: c41 :: c42 :: c43 :: c44 :: c45 :: c46 :: c47 :: c48 :: c49 :: c50 :: c51 :: c52 :: c53 :: c54 :: c55 :: c56 :: c57 :: c58 :: c59 :: c60 :: c61 :: c62 :: c63 :: c64 :: c65 :: c66 :: c67 :: c68 :: c69 :: c70 :: c71 :: c72 :: c73 :: c74 :: c75 :: c76 :: c77 :: c78 :: c79 :: c80 :: c81 :: c82 :: c83 :: c84 :: c85 :: c86 :: c87 :: c88 :: c89 :: c90 :: c91 :: c92 :: c93 :: c94 :: c95 :: c96 :: c97 :: c98 :: c99 :: c100 :: c101 :: c102 :: c103 :: c104 :: c105 :: c106 :: c107 :: c108 :: c109 :: c110 :: c111 :: c112 :: c113 :: c114 :: c115 :: c116 :: c117 :: c118 :: c119 :: c120 :: c121 :: c122 :: c123 :: c124 :: c125 :: c126 :: c127 :: c128 :: c129 :: c130 :: c131 :: c132 :: c133 :: c134 :: c135 :: c136 :: c137 :: c138 :: c139 :: c140 :: c141 :: c142 :: c143 :: c144 :: c145 :: c146 :: c147 :: c148 :: c149 :: c150 :: c151 :: c152 :: c153 :: c154 :: c155 :: c156 :: c157 :: c158 :: c159 :: c160 :: c161 :: c162 :: c163 :: c164 :: c165 :: c166 :: c167 :: c168 :: c169 :: c170 :: c171 :: c172 :: c173 :: c174 :: c175 :: c176 :: c177 :: c178 :: c179 :: c180 :: c181 :: c182 :: c183 :: c184 :: c185 :: c186 :: c187 :: c188 :: c189 :: c190 :: c191 :: c192 :: c193 :: c194 :: c195 :: c196 :: c197 :: c198 :: c199 :: c200 :: c201 :: c202 :: c203 :: c204 :: c205 :: c206 :: c207 :: v208 :: v209 :: v210 :: v211 :: v212 :: v213 :: v214 :: v215 :: v216 :: v217 :: v218 :: v219 :: v220 :: c221 :: c222 :: c223 :: c224 :: c225 :: c226 :: c227 :: c228 :: c229 :: c230 :: c231 :: c232 :: c233 :: c234 :: c235 :: c236 :: c237 :: c238 :: []), []⟩ w') :
    Code.wp Tryz.prog (.loop ((loopsIn ((loopsIn (Tryz.f34.body.getD .skip)).getD 2 .skip)).getD 2 .skip)) Q ⟨List.toArray (c0 :: c1 :: c2 :: c3 :: c4 :: c5 :: .pointer (some ⟨hb, 0, none⟩) :: c7 :: c8 :: c9 :: c10 :: c11 :: c12 :: .pointer (some ⟨sb, 0, none⟩) :: c14 :: c15 :: c16 :: c17 :: c18 :: c19 :: .int .i64 0 :: c21 :: c22 :: c23 :: c24 :: c25 :: c26 :: c27 :: c28 :: c29 :: c30 :: c31 :: c32 :: c33 :: c34 :: c35 :: c36 :: c37 :: c38 :: c39 :: c40 :: c41 :: c42 :: c43 :: c44 :: c45 :: c46 :: c47 :: c48 :: c49 :: c50 :: c51 :: c52 :: c53 :: c54 :: c55 :: c56 :: c57 :: c58 :: c59 :: c60 :: c61 :: c62 :: c63 :: c64 :: c65 :: c66 :: c67 :: c68 :: c69 :: c70 :: c71 :: c72 :: c73 :: c74 :: c75 :: c76 :: c77 :: c78 :: c79 :: c80 :: c81 :: c82 :: c83 :: c84 :: c85 :: c86 :: c87 :: c88 :: c89 :: c90 :: c91 :: c92 :: c93 :: c94 :: c95 :: c96 :: c97 :: c98 :: c99 :: c100 :: c101 :: c102 :: c103 :: c104 :: c105 :: c106 :: c107 :: c108 :: c109 :: c110 :: c111 :: c112 :: c113 :: c114 :: c115 :: c116 :: c117 :: c118 :: c119 :: c120 :: c121 :: c122 :: c123 :: c124 :: c125 :: c126 :: c127 :: c128 :: c129 :: c130 :: c131 :: c132 :: c133 :: c134 :: c135 :: c136 :: c137 :: c138 :: c139 :: c140 :: c141 :: c142 :: c143 :: c144 :: c145 :: c146 :: c147 :: c148 :: c149 :: c150 :: c151 :: c152 :: c153 :: c154 :: c155 :: c156 :: c157 :: c158 :: c159 :: c160 :: c161 :: c162 :: c163 :: c164 :: c165 :: c166 :: c167 :: c168 :: c169 :: c170 :: c171 :: c172 :: c173 :: c174 :: c175 :: c176 :: c177 :: c178 :: c179 :: c180 :: c181 :: c182 :: c183 :: c184 :: c185 :: c186 :: c187 :: c188 :: c189 :: c190 :: c191 :: c192 :: c193 :: c194 :: c195 :: c196 :: c197 :: c198 :: c199 :: c200 :: c201 :: c202 :: c203 :: c204 :: c205 :: c206 :: c207 :: c208 :: c209 :: c210 :: c211 :: c212 :: c213 :: c214 :: c215 :: c216 :: c217 :: c218 :: c219 :: c220 :: c221 :: c222 :: c223 :: c224 :: c225 :: c226 :: c227 :: c228 :: c229 :: c230 :: c231 :: c232 :: c233 :: c234 :: c235 :: c236 :: c237 :: c238 :: []), []⟩ w := by
  conv => arg 2; arg 1; whnf
  refine Code.wp_mono (noPanic_of Q) ?_
  go_loopw [20] (fun v w' => ∃ i : Nat, i ≤ 8 ∧ v = .int .i64 (i : Int) ∧ Row w' hb ((acc s r i).map u32v) 156 ∧ Row w' sb (r.list.map u32v) 156 ∧ w.grownBy w' (some hb) ∧ w'.heap.size = w.heap.size) (fun v _ => 8 - (intOf v).toNat)
  case atStart => exact ⟨0, by omega, rfl, hrow, hrs, grownBy_refl _ _, rfl⟩
  case round =>
    clear hrow hrs
    obtain ⟨i, hi, rfl, hr, hrs, hg, hs⟩ := hrel
    have HG : Hid (w.grownBy wr (some hb)) := hg
    have HS : Hid (wr.heap.size = w.heap.size) := hs
    by_cases hlt : i < 8
    · have c0 : wr.cell? ⟨hb, i, none⟩ = some (.int .u32 ((s.list.getD i 0 : Nat) : Int)) := by
        rw [← acc_at s r i hlt]; exact hr.cellMap i (by rw [acc_length s r i hi]; exact hlt)
      have f0 := hr.frozen i
      have c1 : wr.cell? ⟨sb, i, none⟩ = some (.int .u32 ((r.list.getD i 0 : Nat) : Int)) := hrs.cellMap i hlt
      have HP : Hid ((acc s r i).set i ((s.list.getD i 0 + r.list.getD i 0) % 4294967296) = acc s r (i + 1)) := acc_set s r i hlt
      have k1 : (i : Int) < 8 := by omega
      generalize s.list.getD i 0 = x at c0 HP
      generalize r.list.getD i 0 = y at c1 HP
      clear hexit hg hs
      go_wp2
      go_region
      go_wp2
      go_roundw
      case rel =>
        go_light
        rw [add_form x y]
        refine ⟨i + 1, by omega, by go_num, ?_, (hrs.set_other _ _ (by simp; omega)).drew, ?_, ?_⟩
        · rw [← HP.out, List.map_set]; exact (hr.set_same i _).drew
        · exact grownBy_trans (grownBy_trans HG.out (grownBy_setCell wr ⟨hb, i, none⟩ _)) (grownBy_drew _ _)
        · simpa [World.setCell] using HS.out
      case measure => simp [intOf]; omega
    · have HK : Hid (i = 8) := by show i = 8; omega
      have e : acc s r i = (Sha.plus s r).list := by rw [HK.out]; rfl
      go_wp2
      rw [e] at hr
      exact hexit _ _ _ _ _ _ _ _ _ _ _ _ _ _ _ ⟨hr, HG.out, HS.out⟩
end Go.Proofs.YtamaejlbojbbeaaGreatDoor.Sb
