/-
  The walk of the statement WireFrames.
-/
import Derived.Test.YtjaplfdcdokhfaaF4
import Derived.Test.YtjaplfdcdokhfaaT4
namespace Go.Proofs.Ytjaplfdcdokhfaa
open Go.RowKit

/-- append to a row of the call's own, from a slice that may be nil, where the operation's guard says yes -/
theorem wpList_append_anyG {P : Program} {w : World} {ops : Array Oper} {rest : List Oper} {o : Oper} {a : Act} {Q : Exit → Act → World → Prop} (hw : Region.wanted o (yielded ops a.tmps) = true) (s x : Operand) (t : TypeId)
    (ho : o.op = .call { callee := .builtin .append, args := #[s, x], argTypes := #[t, t] })
    (base : Nat) (e : TypeId) (i : TypeInfo) (z : Value) (ht : P.underlying t = some (.slice e)) (hi : P.info? e = some i) (hz : i.zero = some z)
    (hsize : i.size = 1) (hby : i.bytes = 1) (hzs : z.cells.size = 1)
    (v : Value) (n : Nat) (xs : List Value) (hs : a.eval s = v) (hown : w.ownsRow base e 1 v n xs)
    (p : Option Addr) (m c : Nat) (news : List Value) (hx : a.eval x = .slice p m c) (hl : news.length = m) (hpn : p = none → m = 0 ∧ c = 0) (hnews : ∀ ad, p = some ad → ∀ j u, news[j]? = some u → w.cell? (ad.add j) = some u) (h1 : ∀ u ∈ news, u.oneCell' = true)
    (hbytes : n + m ≤ 140737488355328) (hbase : base ≤ w.heap.size)
    (h : ∀ v' w', w'.ownsRow base e 1 v' (n + m) (xs ++ news) → w.grownBy w' v.ownBlock → wpList P ops Q rest (a.put o.dst v') w') : wpList P ops Q (o :: rest) a w := by
  rcases p with _ | ad
  · obtain ⟨rfl, rfl⟩ := hpn rfl
    obtain rfl : news = [] := List.eq_nil_of_length_eq_zero hl
    refine BigFrame.wpList_want hw fun K hK => ?_
    have hrun := run_append_owned_none (P := P) (w := w) base t o.type e i 1 ht hi v n xs hown
    unfold Oper.wp
    simp [execOp, ho, resolve, invoke, builtin, hs, hx, hrun, Result.andThen]
    exact hK _ _ (h v w (by simpa using hown) (grownBy_refl w _))
  · refine BigFrame.wpList_want hw fun K hK => ?_
    exact wp_append_own w s x t ho base e i z 1 1 ht hi hz hsize hby hzs (by decide) v n xs hs hown ad m c news hx (by omega) (hnews ad rfl) h1 (by unfold maxLen; omega) (by omega) hbase fun v' w' h2 h3 _ => hK _ _ (h v' w' h2 h3)

/-- what Frame answers -/
def framed (bs : List Nat) : List Nat × Nat := if 262144 < bs.length then ([], 2) else (Wire.frame bs, 0)
theorem framed_lt {bs : List Nat} (h : ∀ x ∈ bs, x < 256) : ∀ x ∈ (framed bs).1, x < 256 := by
  unfold framed
  split
  · intro x hx; cases hx
  · exact Wire.frame_lt h
theorem framed_of {bs : List Nat} {w w' : World} {e : Ending} (h : Below w.heap.size w w' ∧
      ((262144 < bs.length ∧ e = .returned (.tuple #[.slice none 0 0, .int .i64 2])) ∨
       (bs.length ≤ 262144 ∧ ∃ v, e = .returned (.tuple #[v, .int .i64 0]) ∧ w'.ownsRow w.heap.size 5 1 v (Wire.frame bs).length ((Wire.frame bs).map u8v)))) :
    ∃ v, e = .returned (.tuple #[v, .int .i64 ((framed bs).2 : Int)]) ∧ w'.ownsRow w.heap.size 5 1 v (framed bs).1.length ((framed bs).1.map u8v) ∧ Below w.heap.size w w' := by
  obtain ⟨hb, ⟨hL, rfl⟩ | ⟨hL, v, rfl, hown⟩⟩ := h
  · have e : framed bs = ([], 2) := by unfold framed; rw [if_pos hL]
    rw [e]
    exact ⟨_, rfl, World.ownsRow_nil _ _ _ _, hb⟩
  · have e : framed bs = (Wire.frame bs, 0) := by unfold framed; rw [if_neg (by omega)]
    rw [e]
    exact ⟨_, rfl, hown, hb⟩
theorem next_lt {bs : List Nat} (h : ∀ x ∈ bs, x < 256) : ∀ x ∈ (Wire.next bs).1, x < 256 := by
  intro x hx
  by_cases hX : (Wire.next bs).2.2 = 0
  · rw [(Wire.next_ok hX).2.2.1] at hx
    exact h x (List.mem_of_mem_drop (List.mem_of_mem_take hx))
  · rw [(next_err' bs hX).2] at hx
    cases hx

set_option maxHeartbeats 1000000 in
set_option maxRecDepth 100000 in
theorem frames_any (bs cs : List Nat) (p q : Option Addr) (ca cb b off b2 off2 : Nat) (w : World) (hsl : Sl w p bs ca b off) (hno : p = none → bs.length = 0 ∧ ca = 0) (hsl2 : Sl w q cs cb b2 off2) (hno2 : q = none → cs.length = 0 ∧ cb = 0) (hre : bs.length + cs.length ≤ 1099511627776) :
    Calls Try.prog 6 #[.slice p bs.length ca, .slice q cs.length cb] w fun e w' => e = .returned (.bool true) ∧ Below w.heap.size w w' := by
  obtain ⟨i5i, HI5, HE1, HE2, HE3⟩ := i5h
  have HA := hid_in hsl
  have HB := hid_in hsl2
  clear hsl hsl2
  go_enter Try.func6, Try.ntmps6
  go_wp2_with fail
  refine (awake_any w).mono ?_
  rintro e w1 ⟨rfl, hb1⟩
  go_wp2_with fail
  refine (frame_any bs p ca b off w1 (HA.out.below hb1) hno).mono ?_
  intro e w2 h2
  obtain ⟨v2, rfl, hown2, hb2⟩ := framed_of h2
  clear h2
  have hlF := framed_lt HA.out.lt
  have hlN := next_lt HB.out.lt
  obtain ⟨X, HX⟩ : ∃ X, Hid (framed bs = X) := ⟨_, rfl⟩
  rw [HX.out] at hown2 hlF ⊢
  obtain ⟨F, fe⟩ := X
  simp only at hown2 hlF ⊢
  obtain ⟨p2, c2, g2, rfl, hs2, _⟩ := own_sl hlF hown2
  have HF2 := hid_in hs2
  have hbw2 : Below w.heap.size w w2 := hb1.trans (hb2.mono hb1.size)
  clear hown2 hs2 hb2 hb1
  go_wp2_with fail
  refine (rframe_any bs p ca b off w2 (HA.out.below hbw2) hno).mono ?_
  intro e w3 h3
  obtain ⟨v3, rfl, hown3, hb3⟩ := framed_of h3
  clear h3
  rw [HX.out] at hown3 ⊢
  simp only at hown3 ⊢
  obtain ⟨p3, c3, g3, rfl, hs3, _⟩ := own_sl hlF hown3
  have HF3 := hid_in hs3
  have HF2 := hid_in (HF2.out.below hb3)
  have hbw3 : Below w.heap.size w w3 := hbw2.trans (hb3.mono hbw2.size)
  clear hown3 hs3 hb3 hbw2
  go_wp2_with fail
  refine (next_any cs q cb b2 off2 w3 (HB.out.below hbw3)).mono ?_
  rintro e w4 ⟨v4, rfl, hown4, hb4⟩
  obtain ⟨Y, HY⟩ : ∃ Y, Hid (Wire.next cs = Y) := ⟨_, rfl⟩
  rw [HY.out] at hown4 hlN ⊢
  obtain ⟨PL, N, E⟩ := Y
  simp only at hown4 hlN ⊢
  obtain ⟨p4, c4, g4, rfl, hs4, _⟩ := own_sl hlN hown4
  have HF4 := hid_in hs4
  have HF2 := hid_in (HF2.out.below hb4)
  have HF3 := hid_in (HF3.out.below hb4)
  have hbw4 : Below w.heap.size w w4 := hbw3.trans (hb4.mono hbw3.size)
  clear hown4 hs4 hb4 hbw3
  go_wp2_with fail
  refine (rnext_any cs q cb b2 off2 w4 (HB.out.below hbw4)).mono ?_
  rintro e w5 ⟨v5, rfl, hown5, hb5⟩
  rw [HY.out] at hown5 ⊢
  simp only at hown5 ⊢
  obtain ⟨p5, c5, g5, rfl, hs5, _⟩ := own_sl hlN hown5
  have HF5 := hid_in hs5
  have HF2 := hid_in (HF2.out.below hb5)
  have HF3 := hid_in (HF3.out.below hb5)
  have HF4 := hid_in (HF4.out.below hb5)
  have hbw5 : Below w.heap.size w w5 := hbw4.trans (hb5.mono hbw4.size)
  clear hown5 hs5 hb5 hbw4
  go_wp2_with fail
  refine (scan_any cs q cb b2 off2 w5 (HB.out.below hbw5) (by omega)).mono ?_
  rintro e w6 ⟨v6, ps6, rfl, hh6, hm6, hb6⟩
  obtain ⟨Z, HZ⟩ : ∃ Z, Hid (Wire.scan cs = Z) := ⟨_, rfl⟩
  rw [HZ.out] at hm6 ⊢
  obtain ⟨LL, at_⟩ := Z
  simp only at hm6 ⊢
  have HM6 := hid_in hm6
  have HH6 := hid_in hh6
  have HF2 := hid_in (HF2.out.below hb6)
  have HF3 := hid_in (HF3.out.below hb6)
  have HF4 := hid_in (HF4.out.below hb6)
  have HF5 := hid_in (HF5.out.below hb6)
  have hbw6 : Below w.heap.size w w6 := hbw5.trans (hb6.mono hbw5.size)
  clear hh6 hm6 hb6 hbw5
  go_wp2_with fail
  refine (rscan_any cs q cb b2 off2 w6 (HB.out.below hbw6) (by omega)).mono ?_
  rintro e w7 ⟨v7, ps7, rfl, hh7, hm7, hb7⟩
  rw [HZ.out] at hm7 ⊢
  simp only at hm7 ⊢
  obtain ⟨p7, c7, a7, rfl, hp7, hpa7⟩ := hh7.parts
  obtain ⟨p6, c6, a6, rfl, hp6, hpa6⟩ := (HH6.out.below hb7).parts
  have HF2 := hid_in (HF2.out.below hb7)
  have HF3 := hid_in (HF3.out.below hb7)
  have HF4 := hid_in (HF4.out.below hb7)
  have HF5 := hid_in (HF5.out.below hb7)
  have hbw7 : Below w.heap.size w w7 := hbw6.trans (hb7.mono hbw6.size)
  have hlen6 : ps6.length * 8 ≤ cs.length := by
    have h := Wire.scan_le cs
    rw [HZ.out] at h
    have h' := congrArg List.length HM6.out
    simp only [List.length_map] at h'
    simp only at h
    omega
  have hli := lists_any ps6 ps7 p6 p7 c6 c7 a6 0 a7 0 w7 hp6 hp7 hpa6 hpa7 (HM6.out.trans hm7.symm) (by omega)
  obtain ⟨S, HS⟩ : ∃ S : ByteArray, Hid (S = str F) := ⟨_, rfl⟩
  obtain ⟨S2, HS2⟩ : ∃ S : ByteArray, Hid (S = str PL) := ⟨_, rfl⟩
  have hc2 := conv_sl HF2.out
  have hc3 := conv_sl HF3.out
  have hc4 := conv_sl HF4.out
  have hc5 := conv_sl HF5.out
  rw [← HS.out] at hc2 hc3
  rw [← HS2.out] at hc4 hc5
  have hss : (S.toList == S.toList) = true := by simp
  have hss2 : (S2.toList == S2.toList) = true := by simp
  clear hh7 hm7 hb7 hbw6 hp6 hp7 hpa6 hpa7 HF2 HF3 HF4 HF5 HH6 HM6 hlF hlN hlen6
  go_wp2_with fail
  refine hli.mono ?_
  rintro e w8 ⟨rfl, hb8⟩
  have hbw8 : Below w.heap.size w w8 := hbw7.trans (hb8.mono hbw7.size)
  clear hli hb8 hbw7 hc2 hc3 hc4 hc5
  have hbA : Below w8.heap.size w8 (w8.alloc (.cells #[.slice p bs.length ca, .slice none 0 0, .slice q cs.length cb] 25)) := (Below.refl _ _).alloc (Nat.le_refl _) _
  have hps : Parts (w8.alloc (.cells #[.slice p bs.length ca, .slice none 0 0, .slice q cs.length cb] 25)) w8.heap.size 0 [⟨p, bs, ca, b, off⟩, ⟨none, [], 0, 0, 0⟩, ⟨q, cs, cb, b2, off2⟩] := by
    refine parts_row (Row.newAt w8 _ _ 25 rfl) ?_ ?_
    · intro x hx
      simp only [List.mem_cons, List.not_mem_nil, or_false] at hx
      rcases hx with rfl | rfl | rfl
      · exact Sl.below (HA.out.below hbw8) hbA
      · exact ⟨fun _ h => (by cases h), Nat.le_refl _, Nat.zero_le _, fun h => (by simp at h), fun j hj => (by simp at hj)⟩
      · exact Sl.below (HB.out.below hbw8) hbA
    · intro x hx
      simp only [List.mem_cons, List.not_mem_nil, or_false] at hx
      rcases hx with rfl | rfl | rfl
      · exact hno
      · exact fun _ => ⟨rfl, rfl⟩
      · exact hno2
  have hck := check_any _ _ 0 3 _ hps (by simp)
  have eB : bytesOf [⟨p, bs, ca, b, off⟩, ⟨none, [], 0, 0, 0⟩, ⟨q, cs, cb, b2, off2⟩] = bs ++ cs := by simp [bytesOf]
  rw [eB] at hck
  clear hps eB
  go_wp2_with fail
  refine hck.mono ?_
  rintro e w9 ⟨rfl, hw9⟩
  have hbw9 : Below w.heap.size w w9 := by rw [hw9]; exact hbw8.trans (hbA.mono hbw8.size)
  clear hw9 hck hbA hbw8
  have hown0 := own_empty w9
  have hbE : Below w9.heap.size w9 (w9.alloc (.cells #[] 5)) := (Below.refl _ _).alloc (Nat.le_refl _) _
  have hn1 := ((HA.out.below hbw9).below hbE).news
  have hl1 : (bs.map u8v).length = bs.length := by simp
  have hl2 : (cs.map u8v).length = cs.length := by simp
  have hf1 : 0 + bs.length ≤ 140737488355328 := by omega
  have hf2 : bs.length + cs.length ≤ 140737488355328 := by omega
  have hBs : w9.heap.size ≤ (w9.alloc (.cells #[] 5)).heap.size := by simp
  have hcl : Wire.check (bs ++ cs) < 4294967296 := Wire.check_lt (fun x hx => by
    rcases List.mem_append.1 hx with hx | hx
    · exact HA.out.lt x hx
    · exact HB.out.lt x hx)
  obtain ⟨c, HC⟩ : ∃ c, Hid (Wire.check (bs ++ cs) = c) := ⟨_, rfl⟩
  rw [HC.out] at hcl ⊢
  go_wp2_with (first | (at_builtin; refine wpList_append_anyG rfl _ _ 25 rfl w9.heap.size 5 i5i (.int .u8 0) Try.underlying25 HI5.out HE3.out HE1.out HE2.out rfl _ 0 [] rfl hown0 p bs.length ca (bs.map u8v) rfl hl1 hno hn1 (one_u8 bs) hf1 hBs ?_; intro v10 w10 hown10 hg10; rw [Nat.zero_add, List.nil_append] at hown10; have hb10 := own_step hbE hg10 hBs rfl hown0; have hsz10 : w9.heap.size ≤ w10.heap.size := hb10.size; have hn2 := ((HB.out.below hbw9).below hb10).news) | (at_builtin; refine wpList_append_anyG rfl _ _ 25 rfl w9.heap.size 5 i5i (.int .u8 0) Try.underlying25 HI5.out HE3.out HE1.out HE2.out rfl _ _ _ rfl hown10 q cs.length cb (cs.map u8v) rfl hl2 hno2 hn2 (one_u8 cs) hf2 hsz10 ?_; intro v11 w11 hown11 hg11; have hb11 := own_step hb10 hg11 hsz10 rfl hown10))
  have hX : ∀ x ∈ bs ++ cs, x < 256 := fun x hx => by
    rcases List.mem_append.1 hx with hx | hx
    · exact HA.out.lt x hx
    · exact HB.out.lt x hx
  have hown11' : w11.ownsRow w9.heap.size 5 1 v11 (bs ++ cs).length ((bs ++ cs).map u8v) := by rw [List.length_append, List.map_append]; exact hown11
  obtain ⟨p11, c11, g11, rfl, hs11, _⟩ := own_sl hX hown11'
  have hrc := rcheck_any _ _ _ _ _ _ hs11
  rw [HC.out] at hrc
  have hbw11 : Below w.heap.size w w11 := hbw9.trans (hb11.mono hbw9.size)
  refine hrc.mono ?_
  rintro e w12 ⟨rfl, hw12⟩
  have hw12' := hw12.symm
  subst hw12'
  clear hrc hs11 hown11 hown11' hown10 hown0 hn1 hn2 hw12
  go_wp2
  go_ret
  exact ⟨rfl, hbw11⟩
end Go.Proofs.Ytjaplfdcdokhfaa
