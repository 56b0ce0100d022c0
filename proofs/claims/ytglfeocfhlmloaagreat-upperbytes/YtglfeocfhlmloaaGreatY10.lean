/-
  The walks of the reference's Num, Int, Text and Flag. The walks of Int and Flag, written and read, of wire and of the reference. The walk of Node: the node that plain data mean. Plain facts on a right node's bytes, and what comes in with a Raw in later worlds. The walk of the reference's Encode. Int and Flag that are written and read, by states.
-/
import Derived.Laws.CopyOwn
import Derived.Deep.RegionLaw
import Derived.Deep.DrawnRows
import Derived.Laws.Tables
import Derived.Laws.BitsAllLaws
import Derived.Deep.CutRange
import Derived.Test.YtglfeocfhlmloaaGreatY00
import Derived.Test.YtglfeocfhlmloaaGreatY01
import Derived.Test.YtglfeocfhlmloaaGreatY02
import Derived.Test.YtglfeocfhlmloaaGreatY03
import Derived.Test.YtglfeocfhlmloaaGreatY04
import Derived.Test.YtglfeocfhlmloaaGreatY05
import Derived.Test.YtglfeocfhlmloaaGreatY06
import Derived.Test.YtglfeocfhlmloaaGreatY07
import Derived.Test.YtglfeocfhlmloaaGreatY08
import Derived.Test.YtglfeocfhlmloaaGreatY09
namespace Go.Proofs.YtglfeocfhlmloaaGreat.Nd
open Go.RowKit
set_option maxHeartbeats 1000000 in
set_option maxRecDepth 100000 in
theorem rwnum_any (w : World) (n : Nat) (hn : n < 18446744073709551616) :
    Calls Tryz.prog 26 #[.int .u64 (n : Int)] w fun e w' => ∃ v, e = .returned v ∧ w'.ownsRow w.heap.size 5 1 v (Wire.num n).length ((Wire.num n).map u8v) ∧ Below w.heap.size w w' := by
  obtain ⟨i5i, HI5, HE1, HE2, HE3⟩ := i5h
  go_enter Tryz.func26, Tryz.ntmps26
  go_wp2_with fail
  go_loopw [0, 3] (fun u v w' => ∃ (k m : Nat) (pre : List Nat), u = .int .u64 (m : Int) ∧ m < 128 ^ (k + 1) ∧ m < 18446744073709551616 ∧ pre.length + (k + 1) ≤ 10 ∧ pre ++ Wire.numF k m = Wire.num n ∧ w'.ownsRow w.heap.size 5 1 v pre.length (pre.map u8v) ∧ Below w.heap.size w w' ∧ w.heap.size ≤ w'.heap.size) (fun u _ _ => (intOf u).toNat)
  case atStart => exact ⟨9, n, [], rfl, by omega, hn, by simp, rfl, World.ownsRow_nil _ _ _ _, Below.refl _ _, Nat.le_refl _⟩
  case round =>
    obtain ⟨k, m, pre, rfl, hm, hm64, hpl, hpre, hown, hbel, hsz⟩ := hrel
    have HP := hid_in hpre
    have HB := hid_in hbel
    have hfit : pre.length + 1 ≤ 140737488355328 := by omega
    clear hpre hbel
    by_cases h128 : 128 ≤ m
    · have hk0 : k ≠ 0 := by intro h; subst h; simp at hm; omega
      obtain ⟨k', rfl⟩ : ∃ k', k = k' + 1 := ⟨k - 1, by omega⟩
      have k1 : (128 : Int) ≤ (m : Int) := by omega
      have HM2 : Hid (m / 128 < 128 ^ (k' + 1)) := by show _ < _; rw [Nat.div_lt_iff_lt_mul (by decide)]; rw [Nat.pow_succ] at hm; exact hm
      clear hm hk0
      go_wp2_with (at_builtin; refine wpList_append_one rfl _ _ 23 rfl w.heap.size 5 i5i (.int .u8 0) Tryz.underlying23 HI5.out HE3.out HE1.out HE2.out rfl _ _ _ rfl hown 5 _ rfl rfl hfit hsz ?_; intro v1 w1 hown1 hb1 hs1; have HB1 := hid_in hb1; clear hb1)
      go_roundw
      case rel =>
        go_light
        have e0 : (m : Int) / 128 = ((m / 128 : Nat) : Int) := by simp
        have e1 : (m : Int) % 128 + 128 = ((m % 128 + 128 : Nat) : Int) := by omega
        rw [e0]
        rw [e1] at hown1
        refine ⟨k', m / 128, pre ++ [m % 128 + 128], rfl, HM2.out, by omega, by rw [List.length_append]; simp; omega, ?_, ?_, HB1.out _ HB.out, hs1⟩
        · rw [← HP.out, List.append_assoc]
          congr 1
          simp only [Wire.numF]
          rw [if_neg (by omega)]
          rfl
        · rw [List.length_append, List.map_append]; exact hown1
      case measure => simp [intOf]; omega
    · have k1 : (m : Int) < 128 := by omega
      have HN : Hid (Wire.numF k m = [m]) := by
        show _ = _
        rcases k with _ | k
        · rfl
        · simp only [Wire.numF]; rw [if_pos (by omega)]
      clear hm
      go_wp2_with (at_builtin; refine wpList_append_one rfl _ _ 23 rfl w.heap.size 5 i5i (.int .u8 0) Tryz.underlying23 HI5.out HE3.out HE1.out HE2.out rfl _ _ _ rfl hown 5 _ rfl rfl hfit hsz ?_; intro v1 w1 hown1 hb1 hs1; have HB1 := hid_in hb1; clear hb1)
      go_ret
      refine ⟨_, rfl, ?_, HB1.out _ HB.out⟩
      rw [← HP.out, HN.out, List.length_append, List.map_append]
      exact hown1
set_option maxHeartbeats 1000000 in
theorem rwtext_any (w : World) (s : ByteArray) (hl : 10 + s.size ≤ 140737488355328) :
    Calls Tryz.prog 27 #[.string s] w fun e w' => ∃ v, e = .returned v ∧ w'.ownsRow w.heap.size 5 1 v (Wire.num s.size ++ bytesS s).length ((Wire.num s.size ++ bytesS s).map u8v) ∧ Below w.heap.size w w' := by
  obtain ⟨i5i, HI5, HE1, HE2, HE3⟩ := i5h
  have hnum := rwnum_any w s.size (by omega)
  have ks : (s.size : Int) ≤ 140737488355328 := by omega
  have hnl := num_length s.size
  go_enter Tryz.func27, Tryz.ntmps27
  go_wp2_with fail
  refine hnum.mono ?_
  rintro e w1 ⟨v1, rfl, hown, hb⟩
  have HB := hid_in hb
  have hbase : w.heap.size ≤ w1.heap.size := hb.size
  have hfit : (Wire.num s.size).length + s.size ≤ 140737488355328 := by omega
  clear hnum hb
  go_wp2_with (at_builtin; refine wpList_append_string_at rfl _ _ 23 9 rfl w.heap.size 5 i5i Tryz.underlying23 Tryz.underlying9 HI5.out HE3.out HE1.out HE2.out _ _ _ rfl hown s rfl hfit hbase ?_; intro v2 w2 hown2 hg2 hm2; have HG2 : Hid (w1.grownBy w2 v1.ownBlock) := hg2; clear hm2)
  go_ret
  refine ⟨_, rfl, ?_, own_step HB.out HG2.out hbase rfl hown⟩
  rw [List.length_append, List.map_append, bytesS_length, ← strCells_bytes]
  exact hown2
end Go.Proofs.YtglfeocfhlmloaaGreat.Nd
namespace Go.Proofs.YtglfeocfhlmloaaGreat.Nd
open Go.RowKit
namespace Wire
/-- a flag that is read: what it is, what is left, what is wrong -/
def rflag : List Nat → Bool × List Nat × Nat
  | [] => (false, [], 20)
  | c :: r => if 1 < c then (false, [], 21) else (decide (c = 1), r, 0)
end Wire
set_option maxHeartbeats 1000000 in
set_option maxRecDepth 100000 in
theorem oflag_any (w : World) (B g : Nat) (v : Value) (xs : List Nat) (fl : Bool) (ho : OutIs w B g v xs) (hl : xs.length + 1 ≤ 140737488355328) :
    Calls Tryz.prog 24 #[.pointer (some ⟨g, 0, none⟩), .bool fl] w fun e w' => e = .returned (.tuple #[]) ∧ ∃ v', OutIs w' B g v' (xs ++ [if fl then 1 else 0]) ∧ Grew w w' (OutS g v) ∧ Moved w v v' := by
  obtain ⟨i5i, HI5, HE1, HE2, HE3⟩ := i5h
  have c0 : w.cell? ⟨g, 0, none⟩ = some v := ho.row.cell 0
  have f0 := ho.row.frozen 0
  have hown := ho.own
  have hbase := ho.base
  have HO := hid_in ho
  clear ho
  cases fl
  · go_enter Tryz.func24, Tryz.ntmps24
    go_wp2_with (at_builtin; refine wpList_append_one_at rfl _ _ 23 rfl B 5 i5i (.int .u8 0) Tryz.underlying23 HI5.out HE3.out HE1.out HE2.out rfl _ _ _ rfl hown 5 _ rfl rfl hl hbase ?_; intro v1 w1 hown1 hg1 hm1; have HM1 := hid_in hm1; clear hm1; obtain ⟨q1, cq1, rfl, _, _⟩ := hown1.form (Nat.succ_pos _); have cg : w1.cell? ⟨g, 0, none⟩ = some v := (HO.out.row.grew hg1 (fun h => HO.out.apart h.symm)).cell 0; have fg := (HO.out.row.grew hg1 (fun h => HO.out.apart h.symm)).frozen 0)
    exact bodyPost_end (results_none Tryz.results24 _ _ _) rfl ⟨rfl, _, (out_step (y := 0) (by omega) HO.out hown1 hg1 HM1.out rfl).1, (out_step (y := 0) (by omega) HO.out hown1 hg1 HM1.out rfl).2, HM1.out⟩
  · go_enter Tryz.func24, Tryz.ntmps24
    go_wp2_with (at_builtin; refine wpList_append_one_at rfl _ _ 23 rfl B 5 i5i (.int .u8 0) Tryz.underlying23 HI5.out HE3.out HE1.out HE2.out rfl _ _ _ rfl hown 5 _ rfl rfl hl hbase ?_; intro v1 w1 hown1 hg1 hm1; have HM1 := hid_in hm1; clear hm1; obtain ⟨q1, cq1, rfl, _, _⟩ := hown1.form (Nat.succ_pos _); have cg : w1.cell? ⟨g, 0, none⟩ = some v := (HO.out.row.grew hg1 (fun h => HO.out.apart h.symm)).cell 0; have fg := (HO.out.row.grew hg1 (fun h => HO.out.apart h.symm)).frozen 0)
    exact bodyPost_ret (results_none Tryz.results24 _ _ _) rfl ⟨rfl, _, (out_step (y := 1) (by omega) HO.out hown1 hg1 HM1.out rfl).1, (out_step (y := 1) (by omega) HO.out hown1 hg1 HM1.out rfl).2, HM1.out⟩
theorem iflag_bad {B : Nat} (w : World) (g e : Nat) (bs : List Nat) (he : e ≠ 0) (hi : InIs B w g bs e) :
    Calls Tryz.prog 74 #[.pointer (some ⟨g, 0, none⟩)] w fun r w' => r = .returned (.bool false) ∧ w' = w := by
  have HI := hid_in hi
  clear hi
  go_enter Tryz.func74, Tryz.ntmps74
  go_wp2_with fail
  refine (take_bad _ g e 1 bs he HI.out).mono ?_
  rintro e w1 ⟨rfl, rfl⟩
  go_wp2
  go_ret
  exact ⟨rfl, rfl⟩
set_option maxHeartbeats 400000 in
theorem iflag_any {B : Nat} (w : World) (g : Nat) (bs : List Nat) (hlt : ∀ x ∈ bs, x < 256) (hi : InIs B w g bs 0) :
    Calls Tryz.prog 74 #[.pointer (some ⟨g, 0, none⟩)] w fun r w' => r = .returned (.bool (Wire.rflag bs).1) ∧ InIs B w' g (Wire.rflag bs).2.1 (Wire.rflag bs).2.2 ∧ w.grownBy w' (some g) ∧ w'.heap.size = w.heap.size := by
  have HI := hid_in hi
  clear hi
  go_enter Tryz.func74, Tryz.ntmps74
  rcases bs with _ | ⟨c, r⟩
  · go_wp2_with fail
    refine (take_short _ g 1 [] (by simp) HI.out).mono ?_
    rintro e w1 ⟨rfl, h1, h2, h3⟩
    have H1 := hid_in h1
    have H2 := hid_in h2
    have H3 := hid_in h3
    clear h1 h2 h3
    go_wp2
    go_ret
    exact ⟨rfl, H1.out, H2.out, H3.out⟩
  · have hc := hlt c (by simp)
    clear hlt
    go_wp2_with fail
    refine (take_some _ g 1 (c :: r) (by omega) (by simp) HI.out).mono ?_
    rintro e w1 ⟨b, off, cap, rfl, hsl, h1, h2, h3⟩
    have c0 : w1.cell? ⟨b, off, none⟩ = some (.int .u8 (c : Int)) := hsl.src 0 (by simp)
    have H1 : Hid (InIs B w1 g r 0) := h1
    have H2 := hid_in h2
    have H3 := hid_in h3
    have HF1 := hid_in (h1.ex)
    clear h1 h2 h3 hsl HI
    by_cases hbad : 1 < c
    · have k0 : ¬ ((c : Int) = 0) := by omega
      have k1 : ((c : Int) != 0) = true := by rw [bne_iff_ne]; omega
      have k2 : ((c : Int) != 1) = true := by rw [bne_iff_ne]; omega
      have HV : Hid (Wire.rflag (c :: r) = (false, [], 21)) := by show _ = _; unfold Wire.rflag; simp only; rw [if_pos hbad]
      obtain ⟨p2, cap2, b2, off2, hrow, _, _, _⟩ := HF1.out
      have HFF := hid_in (fail_any (B := B) w1 g 21 _ _ hrow)
      clear hrow HF1 hbad
      go_wp2_with fail
      refine HFF.out.mono ?_
      rintro e w2 ⟨rfl, h1, h2, h3⟩
      have H4 := hid_in h1
      have H5 := hid_in h2
      have H6 := hid_in h3
      clear h1 h2 h3
      go_wp2
      go_ret
      rw [HV.out]
      exact ⟨rfl, H4.out, grownBy_trans H2.out H5.out, H6.out.trans H3.out⟩
    · have HV : Hid (Wire.rflag (c :: r) = (decide (c = 1), r, 0)) := by show _ = _; unfold Wire.rflag; simp only; rw [if_neg hbad]
      obtain rfl | rfl : c = 0 ∨ c = 1 := by omega
      · clear hbad hc
        go_wp2
        go_ret
        rw [HV.out]
        exact ⟨rfl, H1.out, H2.out, H3.out⟩
      · clear hbad hc
        go_wp2
        go_ret
        rw [HV.out]
        exact ⟨rfl, H1.out, H2.out, H3.out⟩
end Go.Proofs.YtglfeocfhlmloaaGreat.Nd
namespace Go.Proofs.YtglfeocfhlmloaaGreat.Nd
open Go.RowKit
/-- a slice of slices of bytes -/
def Bss (w : World) (v : Value) (ps : List (List Nat)) : Prop := ∃ p cap b o, v = .slice p ps.length cap ∧ ps.length ≤ cap ∧ cap ≤ 9223372036854775807 ∧ (ps ≠ [] → p = some ⟨b, o, none⟩ ∧ b < w.heap.size) ∧ ∀ (i : Nat) bs, ps[i]? = some bs → ∃ q c b' o', w.cell? ⟨b, o + i, none⟩ = some (.slice q bs.length c) ∧ Sl w q bs c b' o'
/-- a slice of texts -/
def Strs (w : World) (v : Value) (ns : List ByteArray) : Prop := ∃ p cap b o, v = .slice p ns.length cap ∧ ns.length ≤ cap ∧ cap ≤ 9223372036854775807 ∧ (ns ≠ [] → p = some ⟨b, o, none⟩ ∧ b < w.heap.size) ∧ ∀ (i : Nat) s, ns[i]? = some s → w.cell? ⟨b, o + i, none⟩ = some (.string s)
/-- a slice of numbers -/
def Ints (w : World) (v : Value) (ks : List Int) : Prop := ∃ p cap b o, v = .slice p ks.length cap ∧ ks.length ≤ cap ∧ cap ≤ 9223372036854775807 ∧ (ks ≠ [] → p = some ⟨b, o, none⟩ ∧ b < w.heap.size) ∧ ∀ (i : Nat) k, ks[i]? = some k → w.cell? ⟨b, o + i, none⟩ = some (.int .i64 k)
theorem Bss.lt {w : World} {v : Value} {ps : List (List Nat)} (h : Bss w v ps) : ∀ bs ∈ ps, ∀ x ∈ bs, x < 256 := by
  obtain ⟨p, cap, b, o, _, _, _, _, hat⟩ := h
  intro bs hbs
  obtain ⟨i, hi, rfl⟩ := List.getElem_of_mem hbs
  obtain ⟨q, c, b', o', _, hs⟩ := hat i _ (List.getElem?_eq_getElem hi)
  exact hs.lt
end Go.Proofs.YtglfeocfhlmloaaGreat.Nd
namespace Go.Proofs.YtglfeocfhlmloaaGreat.Nd
open Go.RowKit
theorem app_lt {a b : List Nat} (ha : ∀ x ∈ a, x < 256) (hb : ∀ x ∈ b, x < 256) : ∀ x ∈ a ++ b, x < 256 := by
  intro x hx
  rcases List.mem_append.1 hx with h | h
  · exact ha x h
  · exact hb x h
theorem kind_cases {x : It} (h : itemOk x = true) : x.kind = 2 ∨ x.kind = 3 := by
  unfold itemOk at h
  simp only [Bool.and_eq_true, Bool.or_eq_true, beq_iff_eq] at h
  exact h.1
theorem name_len {x : It} (h : itemOk x = true) : x.name.size ≤ 16 := by
  unfold itemOk at h
  simp only [Bool.and_eq_true] at h
  have h2 := h.2
  unfold isNameS at h2
  simp only [Bool.and_eq_true, decide_eq_true_eq] at h2
  rw [← bl_length]
  exact h2.1.2
theorem itemsOk_mem {l : List It} (h : itemsOk l) {x : It} (hx : x ∈ l) : itemOk x = true := by
  obtain ⟨i, hi, rfl⟩ := List.getElem_of_mem hx
  exact (h.2 i hi _ (List.getElem?_eq_getElem hi)).1
theorem flat_len {α : Type} (f : α → List Nat) (c : Nat) : ∀ (l : List α), (∀ x ∈ l, (f x).length ≤ c) → (l.flatMap f).length ≤ l.length * c
  | [], _ => by simp
  | x :: r, h => by
    have h1 := flat_len f c r (fun y hy => h y (by simp [hy]))
    have h2 := h x (by simp)
    simp only [List.flatMap_cons, List.length_append, List.length_cons, Nat.add_mul, Nat.one_mul]
    omega
theorem enc_lt {n : Nd} (hr : right n) (hok : n.ok) : ∀ x ∈ enc n, x < 256 := by
  rcases hr with ⟨hk, hd1, hd2, hs, hp, hi⟩ | ⟨hk, hd, hs0, hs1, hp, hi⟩ | ⟨hk, hd, hs, hp, hi⟩
  · rw [enc_1 hk]
    exact app_lt (num_lt 1 (by decide)) (app_lt (num_lt _ (by omega)) (bytesS_lt _))
  · rw [enc_2 hk]
    refine app_lt (app_lt (num_lt 2 (by decide)) (num_lt _ (by omega))) ?_
    intro x hx
    obtain ⟨d, hd, hx⟩ := List.mem_flatten.1 hx
    exact (hok.parts d hd).2 x hx
  · rw [enc_3 hk]
    refine app_lt (app_lt (num_lt 3 (by decide)) (num_lt _ (by have := hi.1; omega))) ?_
    intro x hx
    obtain ⟨y, hy, hx⟩ := List.mem_flatMap.1 hx
    have h1 := itemsOk_mem hi hy
    have h2 := name_len h1
    have h3 : y.kind.toNat < 18446744073709551616 := by rcases kind_cases h1 with h | h <;> rw [h] <;> decide
    exact app_lt (app_lt (app_lt (num_lt y.name.size (by omega)) (bytesS_lt y.name)) (num_lt y.kind.toNat h3)) (hok.items y hy).sum.2 x hx
theorem Bss.below {w w' : World} {v : Value} {ps : List (List Nat)} (h : Bss w v ps) (hb : Below w.heap.size w w') : Bss w' v ps := by
  obtain ⟨p, cap, b, o, rfl, h1, h2, h3, hat⟩ := h
  refine ⟨p, cap, b, o, rfl, h1, h2, fun hne => ⟨(h3 hne).1, Nat.lt_of_lt_of_le (h3 hne).2 hb.size⟩, fun i bs hi => ?_⟩
  obtain ⟨q, c, b', o', hc, hs⟩ := hat i bs hi
  exact ⟨q, c, b', o', (hb.cell (p := ⟨b, o + i, none⟩) (World.block_lt_of_cell? w _ hc)).trans hc, hs.below hb⟩
theorem Strs.below {w w' : World} {v : Value} {ns : List ByteArray} (h : Strs w v ns) (hb : Below w.heap.size w w') : Strs w' v ns := by
  obtain ⟨p, cap, b, o, rfl, h1, h2, h3, hat⟩ := h
  exact ⟨p, cap, b, o, rfl, h1, h2, fun hne => ⟨(h3 hne).1, Nat.lt_of_lt_of_le (h3 hne).2 hb.size⟩, fun i s hi => (hb.cell (p := ⟨b, o + i, none⟩) (World.block_lt_of_cell? w _ (hat i s hi))).trans (hat i s hi)⟩
theorem Ints.below {w w' : World} {v : Value} {ks : List Int} (h : Ints w v ks) (hb : Below w.heap.size w w') : Ints w' v ks := by
  obtain ⟨p, cap, b, o, rfl, h1, h2, h3, hat⟩ := h
  exact ⟨p, cap, b, o, rfl, h1, h2, fun hne => ⟨(h3 hne).1, Nat.lt_of_lt_of_le (h3 hne).2 hb.size⟩, fun i s hi => (hb.cell (p := ⟨b, o + i, none⟩) (World.block_lt_of_cell? w _ (hat i s hi))).trans (hat i s hi)⟩
end Go.Proofs.YtglfeocfhlmloaaGreat.Nd
namespace Go.Proofs.YtglfeocfhlmloaaGreat.Nd
open Go.RowKit
theorem wpList_app {ops : Array Oper} {rest : List Oper} {o : Oper} {a : Act} {w : World} {Q : Exit → Act → World → Prop} (B : Nat) (hgd : o.guard = none) (s x : Operand) (ho : o.op = .call { callee := .builtin .append, args := #[s, x], argTypes := #[23, 23] })
    (v : Value) (xs ys : List Nat) (hs : a.eval s = v) (hown : w.ownsRow B 5 1 v xs.length (xs.map u8v)) (p : Option Addr) (c b off : Nat) (n : Nat) (hx : a.eval x = .slice p n c) (hn : ys.length = n) (hsl : Sl w p ys c b off) (hno : p = none → ys.length = 0 ∧ c = 0) (hlen : xs.length + ys.length ≤ 140737488355328) (hB : B ≤ w.heap.size)
    (h : ∀ v' w', w'.ownsRow B 5 1 v' (xs ++ ys).length ((xs ++ ys).map u8v) → w.grownBy w' v.ownBlock → wpList Tryz.prog ops Q rest (a.put o.dst v') w') : wpList Tryz.prog ops Q (o :: rest) a w := by
  subst hn
  obtain ⟨i5i, HI5, HE1, HE2, HE3⟩ := i5h
  refine wpList_append_any hgd s x 23 ho B 5 i5i (.int .u8 0) Tryz.underlying23 HI5.out HE3.out HE1.out HE2.out rfl v xs.length (xs.map u8v) hs hown p ys.length c (ys.map u8v) hx (by simp) hno hsl.news (one_u8 ys) hlen hB ?_
  intro v' w' h1 h2
  refine h v' w' ?_ h2
  rw [List.length_append, List.map_append]
  exact h1
/-- bytes that the call itself gathers -/
structure RE (W0 W : World) (v : Value) (xs : List Nat) : Prop where
  own : W.ownsRow W0.heap.size 5 1 v xs.length (xs.map u8v)
  bel : Below W0.heap.size W0 W
theorem RE.below {W0 W W' : World} {v : Value} {xs : List Nat} (h : RE W0 W v xs) (hb : Below W.heap.size W W') : RE W0 W' v xs := ⟨own_belowK h.own hb, h.bel.trans (hb.mono h.bel.size)⟩
theorem RE.more {W0 W W' : World} {v v' : Value} {xs ys : List Nat} (h : RE W0 W v xs) (ho : W'.ownsRow W0.heap.size 5 1 v' (xs ++ ys).length ((xs ++ ys).map u8v)) (hg : W.grownBy W' v.ownBlock) : RE W0 W' v' (xs ++ ys) := ⟨ho, own_step h.bel hg h.bel.size rfl h.own⟩
theorem text_len (s : ByteArray) (hn : s.size ≤ 1000) : (Wire.num s.size ++ bytesS s).length ≤ 1010 := by
  have := num_length s.size
  rw [List.length_append, bytesS_length]
  omega
theorem RE.row {W0 W : World} {v : Value} {xs : List Nat} (h : RE W0 W v xs) {g : Nat} {vs : List Value} {t : TypeId} (hr : Row W0 g vs t) : Row W g vs t := hr.below h.bel hr.lt
end Go.Proofs.YtglfeocfhlmloaaGreat.Nd
namespace Go.Proofs.YtglfeocfhlmloaaGreat.Nd
open Go.RowKit
def sFlag (s : Sta) : Bool × Sta := if s.2 = 0 then Wire.rflag s.1 else (false, s)
theorem flag_s (w : World) (g B : Nat) (s : Sta) (hi : In B w g s) : Calls Tryz.prog 74 #[.pointer (some ⟨g, 0, none⟩)] w fun r w' => r = .returned (.bool (sFlag s).1) ∧ In B w' g (sFlag s).2 ∧ Grew w w' (· = g) := by
  obtain ⟨bs, e⟩ := s
  unfold sFlag
  split
  · rename_i h
    obtain rfl : e = 0 := h
    refine (iflag_any w g bs hi.lt hi).mono ?_
    rintro r w' ⟨rfl, h1, h2, _⟩
    exact ⟨rfl, h1, grew_of_grownS h2⟩
  · rename_i h
    refine (iflag_bad w g e bs h hi).mono ?_
    rintro r w' ⟨rfl, rfl⟩
    exact ⟨rfl, hi, Grew.refl _ _⟩
end Go.Proofs.YtglfeocfhlmloaaGreat.Nd
