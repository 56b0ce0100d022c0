/-
  What a platter is: two areas of bytes, which of them is live, whether the power is gone, in which change it goes. What a change is refused for; the calls that only tell; Arm, New. What a change is refused for; begin; Arm, New.
-/
import Derived.Laws.Tables
import Derived.OwnWalk
import Derived.Lib.SlBytesConst
import Derived.Deep.RegionLaw
import Derived.Deep.CutRange
import Derived.Laws.StructEq
import Derived.Laws.CopyOwn
import Derived.Deep.DrawnRows
import Derived.Test.YtjjofjnhhajjjaaC00
import Derived.Test.YtjjofjnhhajjjaaC01
import Derived.Test.YtjjofjnhhajjjaaC02
import Derived.Test.YtjjofjnhhajjjaaC03
import Derived.Test.YtjjofjnhhajjjaaC04
import Derived.Test.YtjjofjnhhajjjaaC05
import Derived.Test.YtjjofjnhhajjjaaC06
namespace Go.Proofs.Ytjjofjnhhajjjaa.Pt
open Go.RowKit
open Nd (Row wp_world post_Row grownBy_setCell below_of_grown grownBy_trans grown_of_below grownBy_refl u8v Grew Moved Sl hid_in i5h)
/-- an area: its bytes, and how many of them last -/
structure Ar where
  bs : List Nat
  sy : Nat
structure Dk where
  a0 : Ar
  a1 : Ar
  live : Bool
  down : Bool
  left : Nat
def Ar.ok (x : Ar) : Prop := x.sy ≤ x.bs.length ∧ (∀ b ∈ x.bs, b < 256) ∧ x.bs.length ≤ 140737488355328
structure Dk.ok (d : Dk) : Prop where
  o0 : d.a0.ok
  o1 : d.a1.ok
  left : d.left ≤ 9223372036854775807
def liv (b : Bool) : Int := if b then 1 else 0
def newD : Dk := ⟨⟨[], 0⟩, ⟨[], 0⟩, false, false, 0⟩
theorem newD_ok : newD.ok := ⟨⟨by decide, by simp [newD], by simp [newD]⟩, ⟨by decide, by simp [newD], by simp [newD]⟩, by decide⟩
/-- the cells of a platter -/
def pcells (v0 v1 : Value) (d : Dk) : List Value := [v0, .int .i64 (d.a0.sy : Int), v1, .int .i64 (d.a1.sy : Int), .int .i64 (liv d.live), .bool d.down, .int .i64 (d.left : Int)]
/-- block g is a platter that has d; its bytes are v0 and v1, in blocks of their own from B on -/
structure PtV (w : World) (B g : Nat) (v0 v1 : Value) (d : Dk) : Prop where
  row : Row w g (pcells v0 v1 d) 60
  w0 : w.ownsRow B 5 1 v0 d.a0.bs.length (d.a0.bs.map u8v)
  w1 : w.ownsRow B 5 1 v1 d.a1.bs.length (d.a1.bs.map u8v)
  n0 : v0.ownBlock ≠ some g
  n1 : v1.ownBlock ≠ some g
  ap : ∀ q, v0.ownBlock = some q → v1.ownBlock ≠ some q
  base : B ≤ g
  ok : d.ok
/-- the blocks of a platter -/
def FS (g : Nat) (v0 v1 : Value) : Nat → Prop := fun k => k = g ∨ some k = v0.ownBlock ∨ some k = v1.ownBlock
def Sub (w : World) (S T : Nat → Prop) : Prop := ∀ k, T k → S k ∨ w.heap.size ≤ k
theorem PtV.lt {w : World} {B g : Nat} {v0 v1 : Value} {d : Dk} (h : PtV w B g v0 v1 d) : g < w.heap.size := h.row.lt
theorem own_keepG {w w' : World} {B n : Nat} {v : Value} {xs : List Value} {S : Nat → Prop} (h : w.ownsRow B 5 1 v n xs) (hg : Grew w w' S) (hn : ∀ q, v.ownBlock = some q → ¬ S q) : w'.ownsRow B 5 1 v n xs := by
  refine ⟨h.1, ?_⟩
  rcases h.2 with h2 | ⟨g, cap, cur, rfl, hB, hh, r⟩
  · exact .inl h2
  · refine .inr ⟨g, cap, cur, rfl, hB, ?_, r⟩
    rw [hg.block g (Array.getElem?_eq_some_iff.1 hh).1 (hn g rfl)]
    exact hh
theorem PtV.keep {w w' : World} {B g : Nat} {v0 v1 : Value} {d : Dk} {S : Nat → Prop} (h : PtV w B g v0 v1 d) (hg : Grew w w' S) (hn : ∀ k, FS g v0 v1 k → ¬ S k) : PtV w' B g v0 v1 d :=
  ⟨h.row.grew hg (hn g (.inl rfl)), own_keepG h.w0 hg (fun q hq => hn q (.inr (.inl hq.symm))), own_keepG h.w1 hg (fun q hq => hn q (.inr (.inr hq.symm))), h.n0, h.n1, h.ap, h.base, h.ok⟩
theorem PtV.below {w w' : World} {B g : Nat} {v0 v1 : Value} {d : Dk} (h : PtV w B g v0 v1 d) (hb : Below w.heap.size w w') : PtV w' B g v0 v1 d :=
  h.keep (Grew.of_below (fun _ => False) hb) (fun _ _ h => h)
theorem PtV.fs_lt {w : World} {B g : Nat} {v0 v1 : Value} {d : Dk} (h : PtV w B g v0 v1 d) : ∀ k, FS g v0 v1 k → B ≤ k ∧ k < w.heap.size := by
  rintro k (rfl | h1 | h1)
  · exact ⟨h.base, h.lt⟩
  · exact h.w0.lt k h1.symm
  · exact h.w1.lt k h1.symm
theorem own_type {w : World} {B n k : Nat} {v : Value} {xs : List Value} (h : w.ownsRow B 5 1 v n xs) (hk : v.ownBlock = some k) : ∃ cur, w.heap[k]? = some (.cells cur 5 (0, 0)) := by
  rcases h.2 with ⟨rfl, _⟩ | ⟨g, cap, cur, rfl, hB, hh, r⟩
  · cases hk
  · have e : g = k := by simpa [Value.ownBlock] using hk
    subst e
    exact ⟨cur, hh⟩
/-- a row of another type is no block of the platter -/
theorem PtV.typed {w : World} {B g b : Nat} {v0 v1 : Value} {d : Dk} {vs : List Value} {t : TypeId} (h : PtV w B g v0 v1 d) (hr : Row w b vs t) (h5 : t ≠ 5) (h58 : t ≠ 60) : ¬ FS g v0 v1 b := by
  rintro (rfl | h1 | h1)
  · have h2 := h.row
    unfold Row at h2 hr
    rw [hr] at h2
    injection h2 with h2
    injection h2 with _ h2
    exact h58 h2
  · obtain ⟨cur, h2⟩ := own_type h.w0 h1.symm
    unfold Row at hr
    rw [hr] at h2
    injection h2 with h2
    injection h2 with _ h2
    exact h5 h2
  · obtain ⟨cur, h2⟩ := own_type h.w1 h1.symm
    unfold Row at hr
    rw [hr] at h2
    injection h2 with h2
    injection h2 with _ h2
    exact h5 h2
/-- what a call leaves of a platter: it has d', and nothing but its own blocks was turned -/
def Stp (w w' : World) (B g : Nat) (v0 v1 : Value) (d' : Dk) : Prop := ∃ u0 u1, PtV w' B g u0 u1 d' ∧ Grew w w' (FS g v0 v1) ∧ Sub w (FS g v0 v1) (FS g u0 u1)
theorem Stp.refl {w : World} {B g : Nat} {v0 v1 : Value} {d : Dk} (h : PtV w B g v0 v1 d) : Stp w w B g v0 v1 d := ⟨v0, v1, h, Grew.refl _ _, fun _ h => .inl h⟩
theorem Stp.of_below {w w' : World} {B g : Nat} {v0 v1 : Value} {d : Dk} (h : PtV w B g v0 v1 d) (hb : Below w.heap.size w w') : Stp w w' B g v0 v1 d := ⟨v0, v1, h.below hb, Grew.of_below _ hb, fun _ h => .inl h⟩
theorem Stp.trans {a b c : World} {B g : Nat} {v0 v1 u0 u1 : Value} {d e : Dk} (_hp : PtV b B g u0 u1 d) (hg : Grew a b (FS g v0 v1)) (hs : Sub a (FS g v0 v1) (FS g u0 u1)) (k : Stp b c B g u0 u1 e) : Stp a c B g v0 v1 e := by
  obtain ⟨x0, x1, h1, h2, h3⟩ := k
  refine ⟨x0, x1, h1, hg.trans h2 (fun q hq hT => ?_), fun q hq => ?_⟩
  · rcases hs q hT with h | h
    · exact h
    · omega
  · rcases h3 q hq with h | h
    · exact hs q h
    · exact .inr (Nat.le_trans hg.size h)
theorem Stp.then {a b c : World} {B g : Nat} {v0 v1 : Value} {d e : Dk} (h : Stp a b B g v0 v1 d) (k : ∀ u0 u1, PtV b B g u0 u1 d → Stp b c B g u0 u1 e) : Stp a c B g v0 v1 e := by
  obtain ⟨u0, u1, h1, h2, h3⟩ := h
  exact Stp.trans h1 h2 h3 (k u0 u1 h1)
theorem Stp.pt {a b : World} {B g : Nat} {v0 v1 : Value} {d : Dk} (h : Stp a b B g v0 v1 d) : ∃ u0 u1, PtV b B g u0 u1 d := by
  obtain ⟨u0, u1, h1, _⟩ := h
  exact ⟨u0, u1, h1⟩
theorem Stp.size {a b : World} {B g : Nat} {v0 v1 : Value} {d : Dk} (h : Stp a b B g v0 v1 d) : a.heap.size ≤ b.heap.size := by
  obtain ⟨u0, u1, _, h2, _⟩ := h
  exact h2.size
theorem Stp.row {w w' : World} {B g b : Nat} {v0 v1 : Value} {d d' : Dk} {vs : List Value} {t : TypeId} (hp : PtV w B g v0 v1 d) (h : Stp w w' B g v0 v1 d') (hr : Row w b vs t) (h5 : t ≠ 5) (h58 : t ≠ 60) : Row w' b vs t := by
  obtain ⟨u0, u1, _, h2, _⟩ := h
  exact hr.grew h2 (hp.typed hr h5 h58)
/-- the same call, one world ahead (only new memory came) -/
theorem Stp.ahead {a b c : World} {B g : Nat} {v0 v1 : Value} {d : Dk} (hb : Below a.heap.size a b) (h : Stp b c B g v0 v1 d) : Stp a c B g v0 v1 d := by
  obtain ⟨u0, u1, h1, h2, h3⟩ := h
  refine ⟨u0, u1, h1, (Grew.of_below (FS g v0 v1) hb).trans h2 (fun q _ hq => hq), fun k hk => ?_⟩
  rcases h3 k hk with h | h
  · exact .inl h
  · exact .inr (Nat.le_trans hb.size h)
theorem Stp.behind {a b c : World} {B g : Nat} {v0 v1 : Value} {d : Dk} (h : Stp a b B g v0 v1 d) (hb : Below b.heap.size b c) : Stp a c B g v0 v1 d :=
  h.then (fun _ _ hp => Stp.of_below hp hb)
/-- where a row of bytes lies -/
theorem own_some {w : World} {B n : Nat} {v : Value} {xs : List Value} (h : w.ownsRow B 5 1 v n xs) : ∃ p c, v = .slice p n c ∧ (p = none → n = 0 ∧ c = 0) ∧ n ≤ c := by
  rcases h.2 with ⟨rfl, rfl⟩ | ⟨g, cap, cur, rfl, hB, hh, hn, r⟩
  · exact ⟨none, 0, rfl, fun _ => ⟨rfl, rfl⟩, Nat.le_refl _⟩
  · exact ⟨_, cap, rfl, (fun h => by cases h), hn⟩
/-- fewer of the bytes -/
theorem own_less {w : World} {B n m c : Nat} {p : Option Addr} {xs : List Value} (h : w.ownsRow B 5 1 (.slice p n c) n xs) (hm : m ≤ n) : w.ownsRow B 5 1 (.slice p m c) m (xs.take m) := by
  obtain ⟨h1, h2⟩ := h
  refine ⟨by rw [List.length_take, h1]; omega, ?_⟩
  rcases h2 with ⟨h2, rfl⟩ | ⟨g, cap, cur, h2, hB, hh, hn, hm2, hs, ht⟩
  · obtain rfl : m = 0 := by omega
    exact .inl ⟨h2, rfl⟩
  · injection h2 with e1 e2 e3
    subst e1 e3
    refine .inr ⟨g, c, cur, rfl, hB, hh, by omega, hm2, hs, ?_⟩
    rw [← ht, List.take_take, Nat.min_eq_left (by omega), Nat.mul_one]
/-- append of bytes to a row of one's own -/
theorem wp_app34 {o : Oper} {a : Act} {K : Act → World → Prop} {Q : Exit → Act → World → Prop} (w : World) (s x : Operand)
    (ho : o.op = .call { callee := .builtin .append, args := #[s, x], argTypes := #[54, 54] })
    (B : Nat) (v : Value) (n : Nat) (xs : List Value) (hs : a.eval s = v) (hown : w.ownsRow B 5 1 v n xs)
    (p : Option Addr) (m c : Nat) (news : List Value) (hx : a.eval x = .slice p m c) (hl : news.length = m) (hno : p = none → m = 0 ∧ c = 0) (hnews : ∀ ad, p = some ad → ∀ j u, news[j]? = some u → w.cell? (ad.add j) = some u) (h1 : ∀ u ∈ news, u.oneCell' = true)
    (hbytes : n + m ≤ 140737488355328) (hbase : B ≤ w.heap.size)
    (h : ∀ v' w', w'.ownsRow B 5 1 v' (n + m) (xs ++ news) → w.grownBy w' v.ownBlock → Moved w v v' → K (a.put o.dst v') w') : o.wp Try.prog a w K Q := by
  obtain ⟨i5i, HI5, HE1, HE2, HE3⟩ := i5h
  rcases p with _ | ad
  · obtain ⟨rfl, rfl⟩ := hno rfl
    obtain rfl : news = [] := List.eq_nil_of_length_eq_zero hl
    have hrun := run_append_owned_none (P := Try.prog) (w := w) B 54 o.type 5 i5i 1 Try.underlying54 HI5.out v n xs hown
    unfold Oper.wp
    simp [execOp, ho, resolve, invoke, builtin, hs, hx, hrun, Result.andThen]
    exact h v w (by simpa using hown) (grownBy_refl w _) (Moved.refl _ _)
  · obtain ⟨v', w', hr, h2, h3, h4, h5⟩ := run_append_own_at (P := Try.prog) w B 54 o.type 5 i5i (.int .u8 0) 1 1 Try.underlying54 HI5.out HE3.out HE1.out HE2.out rfl (by decide) v n xs hown ad m c news (by omega) (hnews ad rfl) h1 (by unfold maxLen; omega) (by omega) hbase
    unfold Oper.wp execOp
    simp only [ho, resolve, invoke, builtin, Sem.run_bind, Sem.run_pure, Result.andThen_ok, List.map_toArray, List.map_cons, List.map_nil, hs, hx, hr]
    refine h v' w' h2 h3 ?_
    rcases h5 with h5 | h5
    · exact .inl h5
    · exact .inr ⟨_, h5, Nat.le_refl _⟩
end Go.Proofs.Ytjjofjnhhajjjaa.Pt
namespace Go.Proofs.Ytjjofjnhhajjjaa.Pt
open Go.RowKit
open Nd (Row wp_world post_Row grownBy_setCell below_of_grown grownBy_trans grown_of_below grownBy_refl u8v Grew Moved Sl hid_in i5h)
def isA (a : Int) : Bool := (a == 0) || (a == 1)
theorem isArea_any (a : Int) (w : World) : Calls Try.prog 41 #[.int .i64 a] w fun e w' => e = .returned (.bool (isA a)) ∧ w' = w := by
  by_cases h0 : a = 0
  · subst h0
    go_enter Try.func41, Try.ntmps41
    go_wp2
    go_ret
    exact ⟨rfl, rfl⟩
  · have h1 : (a == 0) = false := by simpa using h0
    obtain ⟨b, hb⟩ : ∃ b, (a == 1) = b := ⟨_, rfl⟩
    have hr : isA a = b := by unfold isA; rw [h1, hb]; rfl
    rw [hr]
    clear hr h0
    rcases b with _ | _
    all_goals
      go_enter Try.func41, Try.ntmps41
      go_wp2
      go_ret
      exact ⟨rfl, rfl⟩
theorem live_any {w : World} {B g : Nat} {v0 v1 : Value} {d : Dk} (h : PtV w B g v0 v1 d) : Calls Try.prog 26 #[.pointer (some ⟨g, 0, none⟩)] w fun e w' => e = .returned (.int .i64 (liv d.live)) ∧ w' = w := by
  have c4 := h.row.cell 4
  simp only [pcells, List.getElem?_cons_succ, List.getElem?_cons_zero] at c4
  generalize liv d.live = l at *
  clear h
  go_enter Try.func26, Try.ntmps26
  go_wp2
  go_ret
  exact ⟨rfl, rfl⟩
theorem down_any {w : World} {B g : Nat} {v0 v1 : Value} {d : Dk} (h : PtV w B g v0 v1 d) : Calls Try.prog 15 #[.pointer (some ⟨g, 0, none⟩)] w fun e w' => e = .returned (.bool d.down) ∧ w' = w := by
  have c5 := h.row.cell 5
  simp only [pcells, List.getElem?_cons_succ, List.getElem?_cons_zero] at c5
  generalize d.down = l at *
  clear h
  go_enter Try.func15, Try.ntmps15
  go_wp2
  go_ret
  exact ⟨rfl, rfl⟩
def arOf (a : Int) (d : Dk) : Ar := if a = 0 then d.a0 else d.a1
/-- a cell of the platter is another one -/
theorem PtV.set {w : World} {B g : Nat} {v0 v1 : Value} {d d' : Dk} (h : PtV w B g v0 v1 d) (j : Nat) (u : Value) (hc : (pcells v0 v1 d).set j u = pcells v0 v1 d') (h0 : d'.a0.bs = d.a0.bs) (h1 : d'.a1.bs = d.a1.bs) (hk : d'.ok) : Stp w (w.setCell ⟨g, j, none⟩ u) B g v0 v1 d' := by
  have hg := grownBy_setCell w ⟨g, j, none⟩ u
  have hk0 : ∀ v : Value, v.ownBlock ≠ some g → v.ownBlock = none ∨ v.ownBlock ≠ some g := fun v hv => .inr hv
  refine ⟨v0, v1, ⟨by rw [← hc]; exact h.row.set_same j u, by rw [h0]; exact h.w0.kept hg (hk0 _ h.n0), by rw [h1]; exact h.w1.kept hg (hk0 _ h.n1), h.n0, h.n1, h.ap, h.base, hk⟩, (Grew.of_grown hg).mono ?_, fun _ h => .inl h⟩
  rintro q hq
  exact .inl (Option.some.inj hq)
def spendE (d : Dk) : Int := if d.left = 1 then 170 else 0
def spendD (d : Dk) : Dk := if d.left = 1 then { d with left := 0, down := true } else { d with left := d.left - 1 }
theorem spend_any {w : World} {B g : Nat} {v0 v1 : Value} {d : Dk} (h : PtV w B g v0 v1 d) : Calls Try.prog 58 #[.pointer (some ⟨g, 0, none⟩)] w fun e w' => e = .returned (.int .i64 (spendE d)) ∧ Stp w w' B g v0 v1 (spendD d) := by
  have c6 := h.row.cell 6
  simp only [pcells, List.getElem?_cons_succ, List.getElem?_cons_zero] at c6
  have f6 := h.row.frozen 6
  have f5 := h.row.frozen 5
  have hl := h.ok.left
  have c5 := h.row.cell 5
  simp only [pcells, List.getElem?_cons_succ, List.getElem?_cons_zero] at c5
  have HH := hid_in h
  by_cases h0 : d.left = 0
  · have e1 : spendE d = 0 := by unfold spendE; rw [if_neg (by omega)]
    have e2 : spendD d = d := by unfold spendD; rw [if_neg (by omega)]; cases d; simp at h0; subst h0; rfl
    rw [e1, e2]
    rw [h0] at c6
    clear h hl e1 e2 h0
    go_enter Try.func58, Try.ntmps58
    go_wp2
    go_ret
    exact ⟨rfl, Stp.refl HH.out⟩
  · by_cases h1 : d.left = 1
    · have e1 : spendE d = 170 := by unfold spendE; rw [if_pos h1]
      have e2 : spendD d = { d with left := 0, down := true } := by unfold spendD; rw [if_pos h1]
      have S1 := hid_in (h.set (d' := { d with left := 0 }) 6 (.int .i64 0) rfl rfl rfl ⟨h.ok.o0, h.ok.o1, by simp⟩)
      have S2 := hid_in (S1.out.then (fun u0 u1 hp => hp.set (d' := { d with left := 0, down := true }) 5 (.bool true) rfl rfl rfl ⟨h.ok.o0, h.ok.o1, by simp⟩))
      rw [e1, e2]
      rw [h1] at c6
      clear h hl e1 e2 h0 h1
      go_enter Try.func58, Try.ntmps58
      go_wp2
      go_ret
      exact ⟨rfl, S2.out⟩
    · obtain ⟨l, hl2⟩ : ∃ l : Nat, d.left = l + 2 := ⟨d.left - 2, by omega⟩
      have e1 : spendE d = 0 := by unfold spendE; rw [if_neg h1]
      have e2 : spendD d = { d with left := l + 1 } := by unfold spendD; rw [if_neg h1, hl2]; rfl
      have S1 := hid_in (h.set (d' := { d with left := l + 1 }) 6 (.int .i64 ((l : Int) + 1)) (by simp [pcells]) rfl rfl ⟨h.ok.o0, h.ok.o1, by simp; omega⟩)
      rw [e1, e2]
      rw [hl2] at c6
      have q1 : ((l + 2 : Nat) : Int) = (l : Int) + 2 := by omega
      rw [q1] at c6
      have hl3 : (l : Int) + 2 ≤ 9223372036854775807 := by omega
      have z1 : wrap64 ((l : Int) + 2 - 1) = (l : Int) + 1 := by unfold wrap64; omega
      have z2 : IntKind.i64.wrap ((l : Int) + 2 - 1) = (l : Int) + 1 := by rw [IntKind.wrap_i64]; omega
      have y1 : ((l : Int) + 2 == 0) = false := by simp; omega
      have y2 : 0 < (l : Int) + 1 := by omega
      clear h hl e1 e2 h0 h1 hl2 q1 hl3
      go_enter Try.func58, Try.ntmps58
      go_wp2
      go_ret
      exact ⟨rfl, S1.out⟩
end Go.Proofs.Ytjjofjnhhajjjaa.Pt
namespace Go.Proofs.Ytjjofjnhhajjjaa.Pt
open Go.RowKit
open Nd (Row wp_world post_Row grownBy_setCell below_of_grown grownBy_trans grown_of_below grownBy_refl u8v Grew Moved Sl hid_in i5h)
/-- what a change of an area is refused for -/
def refE (k a : Int) (d : Dk) : Int := if isA a = false then 1 else if d.down then 170 else if k = 2 ∧ a = liv d.live then 6 else if k = 3 ∧ (arOf a d).sy < (arOf a d).bs.length then 6 else 0
theorem refusal_any {w : World} {B g : Nat} {v0 v1 : Value} {d : Dk} (h : PtV w B g v0 v1 d) (k a : Int) : Calls Try.prog 57 #[.pointer (some ⟨g, 0, none⟩), .int .i64 k, .int .i64 a] w fun e w' => e = .returned (.int .i64 (refE k a d)) ∧ Below w.heap.size w w' := by
  have c1 := h.row.cell 1
  have c3 := h.row.cell 3
  have c4 := h.row.cell 4
  have c5 := h.row.cell 5
  have c0 := h.row.cell 0
  have c2 := h.row.cell 2
  simp only [pcells, List.getElem?_cons_succ, List.getElem?_cons_zero] at c0 c1 c2 c3 c4 c5
  have HA := hid_in (isArea_any a w)
  obtain ⟨p0, q0, hv0, -, -⟩ := own_some h.w0
  obtain ⟨p1, q1, hv1, -, -⟩ := own_some h.w1
  subst hv0 hv1
  have HB := hid_in (fun n => Nd.below_drewN (Below.refl w.heap.size w) n)
  unfold refE
  by_cases ha : isA a = true
  · rw [ha] at HA
    rw [if_neg (by rw [ha]; simp)]
    by_cases hd : d.down = true
    · rw [hd] at c5
      rw [if_pos hd]
      clear h hd ha
      go_enter Try.func57, Try.ntmps57
      go_wp2_with (first | (go_at_call 41; refine HA.out.mono ?_; rintro e w1 ⟨rfl, rfl⟩))
      go_ret
      exact ⟨rfl, Below.refl _ _⟩
    · have hd' : d.down = false := by simpa using hd
      rw [hd'] at c5
      rw [if_neg hd]
      by_cases h2 : k = 2
      · subst h2
        by_cases hl : a = liv d.live
        · rw [if_pos ⟨rfl, hl⟩]
          have y1 : (a == liv d.live) = true := by simpa using hl
          generalize liv d.live = l at *
          clear h hd hd' ha hl
          go_enter Try.func57, Try.ntmps57
          go_wp2_with (first | (go_at_call 41; refine HA.out.mono ?_; rintro e w1 ⟨rfl, rfl⟩))
          go_ret
          exact ⟨rfl, Below.refl _ _⟩
        · rw [if_neg (fun h => hl h.2), if_neg (fun h => absurd h.1 (by decide))]
          have y1 : (a == liv d.live) = false := by simpa using hl
          generalize liv d.live = l at *
          clear h hd hd' ha hl
          go_enter Try.func57, Try.ntmps57
          go_upto_region 5 with (first | (go_at_call 41; refine HA.out.mono ?_; rintro e w1 ⟨rfl, rfl⟩))
          go_quiet (fail)
          go_wp2_with fail
          go_ret
          exact ⟨rfl, HB.out _⟩
      · rw [if_neg (fun h => h2 h.1)]
        have y2 : (k == 2) = false := by simpa using h2
        by_cases h3 : k = 3
        · subst h3
          have hk2 : isA a = true := ha
          have ha2 : a = 0 ∨ a = 1 := by simpa [isA] using hk2
          have hlt : ((3 : Int) = 3 ∧ (arOf a d).sy < (arOf a d).bs.length) ↔ (arOf a d).sy < (arOf a d).bs.length := by simp
          rcases ha2 with rfl | rfl
          · have e : arOf 0 d = d.a0 := rfl
            rw [e] at *
            by_cases hs : d.a0.sy < d.a0.bs.length
            · rw [if_pos ⟨rfl, hs⟩]
              have y3 : decide ((d.a0.sy : Int) < (d.a0.bs.length : Int)) = true := by simpa using hs
              generalize (d.a0.sy : Int) = s0 at *
              generalize (d.a0.bs.length) = l0 at *
              clear h hd hd' ha hs hk2 hlt e
              go_enter Try.func57, Try.ntmps57
              go_upto_region 5 with (first | (go_at_call 41; refine HA.out.mono ?_; rintro e w1 ⟨rfl, rfl⟩))
              go_quiet (fail)
              go_wp2_with fail
              go_ret
              exact ⟨rfl, HB.out _⟩
            · rw [if_neg (fun h => hs h.2)]
              have y3 : decide ((d.a0.sy : Int) < (d.a0.bs.length : Int)) = false := by simpa using hs
              generalize (d.a0.sy : Int) = s0 at *
              generalize (d.a0.bs.length) = l0 at *
              clear h hd hd' ha hs hk2 hlt e
              go_enter Try.func57, Try.ntmps57
              go_upto_region 5 with (first | (go_at_call 41; refine HA.out.mono ?_; rintro e w1 ⟨rfl, rfl⟩))
              go_quiet (fail)
              go_wp2_with fail
              go_ret
              exact ⟨rfl, HB.out _⟩
          · have e : arOf 1 d = d.a1 := rfl
            rw [e] at *
            by_cases hs : d.a1.sy < d.a1.bs.length
            · rw [if_pos ⟨rfl, hs⟩]
              have y3 : decide ((d.a1.sy : Int) < (d.a1.bs.length : Int)) = true := by simpa using hs
              generalize (d.a1.sy : Int) = s0 at *
              generalize (d.a1.bs.length) = l0 at *
              clear h hd hd' ha hs hk2 hlt e
              go_enter Try.func57, Try.ntmps57
              go_upto_region 5 with (first | (go_at_call 41; refine HA.out.mono ?_; rintro e w1 ⟨rfl, rfl⟩))
              go_quiet (fail)
              go_wp2_with fail
              go_ret
              exact ⟨rfl, HB.out _⟩
            · rw [if_neg (fun h => hs h.2)]
              have y3 : decide ((d.a1.sy : Int) < (d.a1.bs.length : Int)) = false := by simpa using hs
              generalize (d.a1.sy : Int) = s0 at *
              generalize (d.a1.bs.length) = l0 at *
              clear h hd hd' ha hs hk2 hlt e
              go_enter Try.func57, Try.ntmps57
              go_upto_region 5 with (first | (go_at_call 41; refine HA.out.mono ?_; rintro e w1 ⟨rfl, rfl⟩))
              go_quiet (fail)
              go_wp2_with fail
              go_ret
              exact ⟨rfl, HB.out _⟩
        · rw [if_neg (fun h => h3 h.1)]
          have y3 : (k == 3) = false := by simpa using h3
          clear h hd hd' ha h2 h3
          go_enter Try.func57, Try.ntmps57
          go_upto_region 5 with (first | (go_at_call 41; refine HA.out.mono ?_; rintro e w1 ⟨rfl, rfl⟩))
          go_quiet (fail)
          go_wp2_with fail
          go_ret
          exact ⟨rfl, HB.out _⟩
  · have ha' : isA a = false := by simpa using ha
    rw [ha'] at HA
    rw [if_pos ha']
    clear h ha ha'
    go_enter Try.func57, Try.ntmps57
    go_wp2_with (first | (go_at_call 41; refine HA.out.mono ?_; rintro e w1 ⟨rfl, rfl⟩))
    go_ret
    exact ⟨rfl, Below.refl _ _⟩
theorem refusal_nil (k a : Int) (w : World) : Calls Try.prog 57 #[.pointer none, .int .i64 k, .int .i64 a] w fun e w' => e = .returned (.int .i64 7) ∧ w' = w := by
  go_enter Try.func57, Try.ntmps57
  go_wp2
  go_ret
  exact ⟨rfl, rfl⟩
def begE (k a : Int) (d : Dk) : Int := if refE k a d = 0 then spendE d else refE k a d
def begD (k a : Int) (d : Dk) : Dk := if refE k a d = 0 then spendD d else d
theorem begin_any {w : World} {B g : Nat} {v0 v1 : Value} {d : Dk} (h : PtV w B g v0 v1 d) (k a : Int) : Calls Try.prog 39 #[.pointer (some ⟨g, 0, none⟩), .int .i64 k, .int .i64 a] w fun e w' => e = .returned (.int .i64 (begE k a d)) ∧ Stp w w' B g v0 v1 (begD k a d) := by
  have HR := hid_in (refusal_any h k a)
  have HH := hid_in h
  unfold begE begD
  by_cases h0 : refE k a d = 0
  · rw [if_pos h0, if_pos h0]
    rw [h0] at HR
    clear h h0
    go_enter Try.func39, Try.ntmps39
    go_wp2_with (first | (go_at_call 57; refine HR.out.mono ?_; rintro e w1 ⟨rfl, hb1⟩; have HB1 := hid_in hb1; clear hb1) | (go_at_call 58; refine (spend_any (HH.out.below HB1.out)).mono ?_; rintro e w2 ⟨rfl, hs2⟩; have HS2 := hid_in hs2; clear hs2))
    go_ret
    exact ⟨rfl, Stp.ahead HB1.out HS2.out⟩
  · rw [if_neg h0, if_neg h0]
    have y0 : (refE k a d != 0) = true := by simpa using h0
    generalize refE k a d = r at *
    clear h h0
    go_enter Try.func39, Try.ntmps39
    go_wp2_with (first | (go_at_call 57; refine HR.out.mono ?_; rintro e w1 ⟨rfl, hb1⟩; have HB1 := hid_in hb1; clear hb1))
    go_ret
    exact ⟨rfl, Stp.of_below HH.out HB1.out⟩
def armD (n : Int) (d : Dk) : Dk := if d.down then d else { d with left := n.toNat }
theorem arm_any {w : World} {B g : Nat} {v0 v1 : Value} {d : Dk} (h : PtV w B g v0 v1 d) (n : Int) (hn : n ≤ 9223372036854775807) : Calls Try.prog 13 #[.pointer (some ⟨g, 0, none⟩), .int .i64 n] w fun e w' => e = .returned (.tuple #[]) ∧ Stp w w' B g v0 v1 (armD n d) := by
  have c5 := h.row.cell 5
  have c6 := h.row.cell 6
  have f6 := h.row.frozen 6
  simp only [pcells, List.getElem?_cons_succ, List.getElem?_cons_zero] at c5 c6
  have HH := hid_in h
  unfold armD
  by_cases hd : d.down = true
  · rw [if_pos hd]
    rw [hd] at c5
    clear h hd
    go_enter Try.func13, Try.ntmps13
    go_wp2
    go_end0
    exact ⟨rfl, Stp.refl HH.out⟩
  · rw [if_neg hd]
    have hd' : d.down = false := by simpa using hd
    rw [hd'] at c5
    generalize (d.left : Int) = l at *
    rcases Int.lt_trichotomy n 0 with h0 | h0 | h0
    · have hz : n.toNat = 0 := by omega
      have S1 := hid_in (h.set (d' := { d with left := n.toNat }) 6 (.int .i64 0) (by simp [pcells, hz]) rfl rfl ⟨h.ok.o0, h.ok.o1, by simp; omega⟩)
      have hm : max n 0 = 0 := by omega
      clear h hd hd' hn hz
      go_enter Try.func13, Try.ntmps13
      go_wp2
      go_end0
      exact ⟨rfl, S1.out⟩
    · subst h0
      have S1 := hid_in (h.set (d' := { d with left := 0 }) 6 (.int .i64 0) (by simp [pcells]) rfl rfl ⟨h.ok.o0, h.ok.o1, by simp⟩)
      clear h hd hd' hn
      go_enter Try.func13, Try.ntmps13
      go_wp2
      all_goals
        go_end0
        exact ⟨rfl, S1.out⟩
    · have hz : ((n.toNat : Nat) : Int) = n := by omega
      have S1 := hid_in (h.set (d' := { d with left := n.toNat }) 6 (.int .i64 n) (by simp only [pcells, List.set_cons_succ, List.set_cons_zero, hz]) rfl rfl ⟨h.ok.o0, h.ok.o1, by simp; omega⟩)
      have hm : max n 0 = n := by omega
      clear h hd hd' hn hz
      go_enter Try.func13, Try.ntmps13
      go_wp2
      go_end0
      exact ⟨rfl, S1.out⟩
theorem new_any (w : World) : Calls Try.prog 8 #[] w fun e w' => ∃ g, e = .returned (.pointer (some ⟨g, 0, none⟩)) ∧ PtV w' w.heap.size g (.slice none 0 0) (.slice none 0 0) newD ∧ Below w.heap.size w w' := by
  have HP : Hid (PtV (w.alloc (.cells (pcells (.slice none 0 0) (.slice none 0 0) newD).toArray 60)) w.heap.size w.heap.size (.slice none 0 0) (.slice none 0 0) newD) :=
    hid_in ⟨Row.new w _ 60, World.ownsRow_nil _ _ _ _, World.ownsRow_nil _ _ _ _, (fun h => by cases h), (fun h => by cases h), (fun q h => by cases h), Nat.le_refl _, newD_ok⟩
  go_enter Try.func8, Try.ntmps8
  go_wp2
  go_ret
  exact ⟨_, rfl, HP.out, (Below.refl _ _).alloc (Nat.le_refl _) _⟩
end Go.Proofs.Ytjjofjnhhajjjaa.Pt
