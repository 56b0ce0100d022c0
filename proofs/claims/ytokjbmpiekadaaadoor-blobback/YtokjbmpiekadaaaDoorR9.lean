/-
  The reference's Sum: the loop that writes the digest.
-/
import Derived.Test.YtokjbmpiekadaaaDoorR0
namespace Go.Proofs.YtokjbmpiekadaaaDoor
open Go.RowKit
attribute [local go_sem] noPanic_exit noPanic_normal

/-- the digest while its first i bytes have been written -/
def dd (s : Sha.St) (i : Nat) : List Nat := (Sha.digestOf s).take i ++ List.replicate (32 - i) 0
theorem digestOf_length (s : Sha.St) : (Sha.digestOf s).length = 32 := rfl
theorem dd_length (s : Sha.St) (i : Nat) (h : i ≤ 32) : (dd s i).length = 32 := by simp [dd, digestOf_length]; omega
theorem dd_set (s : Sha.St) (i : Nat) (h : i < 32) : (dd s i).set i ((Sha.digestOf s).getD i 0) = dd s (i + 1) := by
  have hl := digestOf_length s
  unfold dd
  rw [show 32 - i = (32 - (i + 1)) + 1 by omega, List.replicate_succ, set_mid _ _ _ _ _ (by simp [hl]; omega)]
  have e : (Sha.digestOf s).getD i 0 = (Sha.digestOf s)[i] := by rw [List.getD_eq_getElem?_getD, List.getElem?_eq_getElem (by omega)]; rfl
  rw [e, List.take_succ_eq_append_getElem (by omega), List.append_assoc]
  rfl
theorem dd_all (s : Sha.St) : dd s 32 = Sha.digestOf s := by rfl
theorem dig_at (s : Sha.St) (i : Nat) (h : i < 32) : (Sha.digestOf s).getD i 0 = s.list.getD (i / 4) 0 / 2 ^ (24 - 8 * (i % 4)) % 256 := by
  have : ∀ i : Fin 32, (Sha.digestOf s).getD i.1 0 = s.list.getD (i.1 / 4) 0 / 2 ^ (24 - 8 * (i.1 % 4)) % 256 := by
    intro i
    obtain ⟨i, hi⟩ := i
    rcases lt8 (show i / 4 < 8 by omega) with h | h | h | h | h | h | h | h <;>
    (obtain h2 | h2 | h2 | h2 : i % 4 = 0 ∨ i % 4 = 1 ∨ i % 4 = 2 ∨ i % 4 = 3 := by omega) <;>
    (have e : i = 4 * (i / 4) + i % 4 := by omega) <;> rw [h, h2] at e <;> subst e <;> simp [Sha.digestOf, Sha.St.list, Sha.bytesOf]
  exact this ⟨i, h⟩
set_option maxHeartbeats 1000000 in
set_option maxRecDepth 1000000 in
theorem rloop9 (s : Sha.St) (hb db : Nat) (w : World) (c0 c1 c2 c3 c4 c5 c7 c8 c9 c10 c11 c12 c13 c14 c15 c16 c17 c18 c19 c20 c23 c24 c25 c26 c27 c28 c29 c30 c31 c32 c33 c34 c35 c36 c37 c38 c39 c40 c41 c42 c43 c44 c45 c46 c47 c48 c49 c50 c51 c52 c53 c54 c55 c56 c57 c58 c59 c60 c61 c62 c63 c64 c65 c66 c67 c68 c69 c70 c71 c72 c73 c74 c75 c76 c77 c78 c79 c80 c81 c82 c83 c84 c85 c86 c87 c88 c89 c90 c91 c92 c93 c94 c95 c96 c97 c98 c99 c100 c101 c102 c103 c104 c105 c106 c107 c108 c109 c110 c111 c112 c113 c114 c115 c116 c117 c118 c119 c120 c121 c122 c123 c124 c125 c126 c127 c128 c129 c130 c131 c132 c133 c134 c135 c136 c137 c138 c139 c140 c141 c142 c143 c144 c145 c146 c147 c148 c149 c150 c151 c152 c153 c154 c155 c156 c157 c158 c159 c160 c161 c162 c163 c164 c165 c166 c167 c168 c169 c170 c171 c172 c173 c174 c175 c176 c177 c178 c179 c180 c181 c182 c183 c184 c185 c186 c187 c188 c189 c190 c191 c192 c193 c194 c195 c196 c197 c198 c199 c200 c201 c202 c203 c204 c205 c206 c207 c208 c209 c210 c211 c212 c213 c214 c215 c216 c217 c218 c219 c220 c221 c222 c223 c224 c225 c226 c227 c228 c229 c230 c231 c232 c233 c234 c235 c236 c237 c238 : Value) (Q : Exit → Act → World → Prop)
    (hok : Ok s) (hne : hb ≠ db) (hrow : Row w hb (s.list.map u32v) 68) (hrs : Row w db ((List.replicate 32 0).map u8v) 39)
    (hexit : ∀ (v22 v221 v222 v223 v224 v225 v226 v227 v228 v229 v230 v231 v232 v233 v234 v235 v236 v237 : Value) (w' : World), Row w' db ((Sha.digestOf s).map u8v) 39 ∧ w.grownBy w' (some db) ∧ w'.heap.size = w.heap.size → Q (.exit 16) ⟨List.toArray (c0 :: c1 :: c2 :: c3 :: c4 :: c5 :: .pointer (some ⟨hb, 0, none⟩) :: c7 :: c8 :: c9 :: c10 :: c11 :: c12 :: c13 :: c14 :: c15 :: c16 :: c17 :: c18 :: c19 :: c20 :: .pointer (some ⟨db, 0, none⟩) :: v22 :: c23 :: c24 :: c25 :: c26 :: c27 :: c28 :: c29 :: c30 :: c31 :: c32 :: c33 :: c34 :: c35 :: c36 :: c37 :: c38 :: c39 :: c40 :: c41 :: c42 :: c43 :: c44 :: c45 :: c46 :: c47 :: c48 :: c49 :: c50 :: c51 :: c52 :: c53 :: c54 :: c55 :: c56 :: c57 :: c58 :: c59 :: c60 :: c61 :: c62 :: c63 :: c64 :: c65 :: c66 :: c67 :: c68 :: c69 :: c70 :: c71 :: c72 :: c73 :: c74 :: c75 :: c76 :: c77 :: c78 :: c79 :: c80 :: c81 :: c82 :: c83 :: c84 :: c85 :: c86 :: c87 :: c88 :: c89 :: c90 :: c91 :: c92 :: c93 :: c94 :: c95 :: c96 :: c97 :: c98 :: c99 :: c100 :: c101 :: c102 :: c103 :: c104 :: c105 :: c106 :: c107 :: c108 :: c109 :: c110 :: c111 :: c112 :: c113 :: c114 :: c115 :: c116 :: c117 :: c118 :: c119 :: c120 :: c121 :: c122 :: c123 :: c124 :: c125 :: c126 :: c127 :: c128 :: c129 :: c130 :: c131 :: c132 :: c133 :: c134 :: c135 :: c136 :: c137 :: c138 :: c139 :: c140 :: c141 :: c142 :: c143 :: c144 :: c145 :: c146 :: c147 :: c148 :: c149 :: c150 :: c151 :: c152 :: c153 :: c154 :: c155 :: c156 :: c157 :: c158 :: c159 :: c160 :: c161 :: c162 :: c163 :: c164 :: c165 :: c166 :: c167 :: c168 :: c169 :: c170 :: c171 :: c172 :: c173 :: c174 :: c175 :: c176 :: c177 :: c178 :: c179 :: c180 :: c181 :: c182 :: c183 :: c184 :: c185 :: c186 :: c187 :: c188 :: c189 :: c190 :: c191 :: c192 :: c193 :: c194 :: c195 :: c196 :: c197 :: c198 :: c199 :: c200 :: c201 :: c202 :: c203 :: c204 :: c205 :: c206 :: c207 :: c208 :: c209 :: c210 :: c211 :: c212 :: c213 :: c214 :: c215 :: c216 :: c217 :: c218 :: c219 :: c220 :: v221 :: v222 :: v223 :: v224 :: v225 :: v226 :: v227 :: v228 :: v229 :: v230 :: v231 :: v232 :: v233 :: v234 :: v235 :: v236 :: v237 :: c238 :: []), []⟩ w') :
    Code.wp Tryd.prog (.loop ((loopsIn (Tryd.f14.body.getD .skip)).getD 3 .skip)) Q ⟨List.toArray (c0 :: c1 :: c2 :: c3 :: c4 :: c5 :: .pointer (some ⟨hb, 0, none⟩) :: c7 :: c8 :: c9 :: c10 :: c11 :: c12 :: c13 :: c14 :: c15 :: c16 :: c17 :: c18 :: c19 :: c20 :: .pointer (some ⟨db, 0, none⟩) :: .int .i64 0 :: c23 :: c24 :: c25 :: c26 :: c27 :: c28 :: c29 :: c30 :: c31 :: c32 :: c33 :: c34 :: c35 :: c36 :: c37 :: c38 :: c39 :: c40 :: c41 :: c42 :: c43 :: c44 :: c45 :: c46 :: c47 :: c48 :: c49 :: c50 :: c51 :: c52 :: c53 :: c54 :: c55 :: c56 :: c57 :: c58 :: c59 :: c60 :: c61 :: c62 :: c63 :: c64 :: c65 :: c66 :: c67 :: c68 :: c69 :: c70 :: c71 :: c72 :: c73 :: c74 :: c75 :: c76 :: c77 :: c78 :: c79 :: c80 :: c81 :: c82 :: c83 :: c84 :: c85 :: c86 :: c87 :: c88 :: c89 :: c90 :: c91 :: c92 :: c93 :: c94 :: c95 :: c96 :: c97 :: c98 :: c99 :: c100 :: c101 :: c102 :: c103 :: c104 :: c105 :: c106 :: c107 :: c108 :: c109 :: c110 :: c111 :: c112 :: c113 :: c114 :: c115 :: c116 :: c117 :: c118 :: c119 :: c120 :: c121 :: c122 :: c123 :: c124 :: c125 :: c126 :: c127 :: c128 :: c129 :: c130 :: c131 :: c132 :: c133 :: c134 :: c135 :: c136 :: c137 :: c138 :: c139 :: c140 :: c141 :: c142 :: c143 :: c144 :: c145 :: c146 :: c147 :: c148 :: c149 :: c150 :: c151 :: c152 :: c153 :: c154 :: c155 :: c156 :: c157 :: c158 :: c159 :: c160 :: c161 :: c162 :: c163 :: c164 :: c165 :: c166 :: c167 :: c168 :: c169 :: c170 :: c171 :: c172 :: c173 :: c174 :: c175 :: c176 :: c177 :: c178 :: c179 :: c180 :: c181 :: c182 :: c183 :: c184 :: c185 :: c186 :: c187 :: c188 :: c189 :: c190 :: c191 :: c192 :: c193 :: c194 :: c195 :: c196 :: c197 :: c198 :: c199 :: c200 :: c201 :: c202 :: c203 :: c204 :: c205 :: c206 :: c207 :: c208 :: c209 :: c210 :: c211 :: c212 :: c213 :: c214 :: c215 :: c216 :: c217 :: c218 :: c219 :: c220 :: c221 :: c222 :: c223 :: c224 :: c225 :: c226 :: c227 :: c228 :: c229 :: c230 :: c231 :: c232 :: c233 :: c234 :: c235 :: c236 :: c237 :: c238 :: []), []⟩ w := by
  conv => arg 2; arg 1; whnf
  refine Code.wp_mono (noPanic_of Q) ?_
  go_loopw [22] (fun v w' => ∃ i : Nat, i ≤ 32 ∧ v = .int .i64 (i : Int) ∧ Row w' hb (s.list.map u32v) 68 ∧ Row w' db ((dd s i).map u8v) 39 ∧ w.grownBy w' (some db) ∧ w'.heap.size = w.heap.size) (fun v _ => 32 - (intOf v).toNat)
  case atStart => exact ⟨0, by omega, rfl, hrow, hrs, grownBy_refl _ _, rfl⟩
  case round =>
    clear hrow hrs
    obtain ⟨i, hi, rfl, hr, hrs, hg, hs⟩ := hrel
    have HG : Hid (w.grownBy wr (some db)) := hg
    have HS : Hid (wr.heap.size = w.heap.size) := hs
    by_cases hlt : i < 32
    · have c0 : wr.cell? ⟨hb, i / 4, none⟩ = some (.int .u32 ((s.list.getD (i / 4) 0 : Nat) : Int)) := hr.cellMap _ (by simp [Sha.St.list]; omega)
      have c1 : wr.cell? ⟨db, i, none⟩ = some (.int .u8 (((dd s i).getD i 0 : Nat) : Int)) := hrs.cellMap i (by rw [dd_length s i hi]; omega)
      have f1 := hrs.frozen i
      have HP : Hid ((dd s i).set i (s.list.getD (i / 4) 0 / 2 ^ (24 - 8 * (i % 4)) % 256) = dd s (i + 1)) := by show _ = _; rw [← dig_at s i hlt]; exact dd_set s i hlt
      have k1 : (i : Int) < 32 := by omega
      have bx : s.list.getD (i / 4) 0 < 4294967296 := getD_lt (list_lt hok) _
      generalize s.list.getD (i / 4) 0 = x at c0 HP bx
      generalize (dd s i).getD i 0 = y at c1
      clear hexit hg hs hok
      go_wp2
      go_roundw
      case rel =>
        go_light
        have e0 : (x : Int) / 2 ^ (24 - 8 * (i % 4)) % 256 = ((x / 2 ^ (24 - 8 * (i % 4)) % 256 : Nat) : Int) := by simp
        rw [e0]
        refine ⟨i + 1, by omega, by go_num, hr.set_other _ _ (by simp; omega), ?_, ?_, ?_⟩
        · rw [← HP.out, List.map_set]; exact hrs.set_same i _
        · exact grownBy_trans HG.out (grownBy_setCell wr ⟨db, i, none⟩ _)
        · simpa [World.setCell] using HS.out
      case measure => simp [intOf]; omega
    · have HK : Hid (i = 32) := by show i = 32; omega
      go_wp2
      rw [HK.out, dd_all] at hrs
      exact hexit _ _ _ _ _ _ _ _ _ _ _ _ _ _ _ _ _ _ _ ⟨hrs, HG.out, HS.out⟩

end Go.Proofs.YtokjbmpiekadaaaDoor
