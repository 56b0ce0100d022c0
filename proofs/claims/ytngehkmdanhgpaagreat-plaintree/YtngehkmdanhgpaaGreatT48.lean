/-
  Plain facts for PlainTree: the kids of all that is listed, told together; the order; sums. A value that reads as operations; fits of a script. The walk of PlainWrites. Stat and list of what is listed.
-/
import Derived.Laws.Tables
import Derived.Lib.SlBytesConst
import Derived.Deep.RegionLaw
import Derived.Deep.DrawnRows
import Derived.Lib.AppendZeros
import Derived.Laws.CopyOwn
import Derived.Test.YtngehkmdanhgpaaGreatT00
import Derived.Test.YtngehkmdanhgpaaGreatT01
import Derived.Test.YtngehkmdanhgpaaGreatT02
import Derived.Test.YtngehkmdanhgpaaGreatT03
import Derived.Test.YtngehkmdanhgpaaGreatT04
import Derived.Test.YtngehkmdanhgpaaGreatT05
import Derived.Test.YtngehkmdanhgpaaGreatT06
import Derived.Test.YtngehkmdanhgpaaGreatT07
import Derived.Test.YtngehkmdanhgpaaGreatT08
import Derived.Test.YtngehkmdanhgpaaGreatT09
import Derived.Test.YtngehkmdanhgpaaGreatT10
import Derived.Test.YtngehkmdanhgpaaGreatT11
import Derived.Test.YtngehkmdanhgpaaGreatT12
import Derived.Test.YtngehkmdanhgpaaGreatT13
import Derived.Test.YtngehkmdanhgpaaGreatT14
import Derived.Test.YtngehkmdanhgpaaGreatT15
import Derived.Test.YtngehkmdanhgpaaGreatT16
import Derived.Test.YtngehkmdanhgpaaGreatT17
import Derived.Test.YtngehkmdanhgpaaGreatT18
import Derived.Test.YtngehkmdanhgpaaGreatT19
import Derived.Test.YtngehkmdanhgpaaGreatT20
import Derived.Test.YtngehkmdanhgpaaGreatT21
import Derived.Test.YtngehkmdanhgpaaGreatT22
import Derived.Test.YtngehkmdanhgpaaGreatT23
import Derived.Test.YtngehkmdanhgpaaGreatT24
import Derived.Test.YtngehkmdanhgpaaGreatT25
import Derived.Test.YtngehkmdanhgpaaGreatT26
import Derived.Test.YtngehkmdanhgpaaGreatT27
import Derived.Test.YtngehkmdanhgpaaGreatT28
import Derived.Test.YtngehkmdanhgpaaGreatT29
import Derived.Test.YtngehkmdanhgpaaGreatT30
import Derived.Test.YtngehkmdanhgpaaGreatT31
import Derived.Test.YtngehkmdanhgpaaGreatT32
import Derived.Test.YtngehkmdanhgpaaGreatT33
import Derived.Test.YtngehkmdanhgpaaGreatT34
import Derived.Test.YtngehkmdanhgpaaGreatT35
import Derived.Test.YtngehkmdanhgpaaGreatT36
import Derived.Test.YtngehkmdanhgpaaGreatT37
import Derived.Test.YtngehkmdanhgpaaGreatT38
import Derived.Test.YtngehkmdanhgpaaGreatT39
import Derived.Test.YtngehkmdanhgpaaGreatT40
import Derived.Test.YtngehkmdanhgpaaGreatT41
import Derived.Test.YtngehkmdanhgpaaGreatT42
import Derived.Test.YtngehkmdanhgpaaGreatT43
import Derived.Test.YtngehkmdanhgpaaGreatT44
import Derived.Test.YtngehkmdanhgpaaGreatT45
import Derived.Test.YtngehkmdanhgpaaGreatT46
import Derived.Test.YtngehkmdanhgpaaGreatT47
namespace Go.Proofs.YtngehkmdanhgpaaGreat.Pl
open Vp (Str B bl Val cmpL parseS showS splitS withinS IsPath)
open Rf (Fil Fls fcells)
open Nd (perr)
theorem sum_split (p : Ent → Bool) (F : Ent → Nat) : ∀ A : List Ent, (A.map F).sum = ((A.filter p).map F).sum + ((A.filter (fun e => !p e)).map F).sum
  | [] => rfl
  | a :: r => by
    have ih := sum_split p F r
    rw [List.map_cons, List.sum_cons, List.filter_cons, List.filter_cons]
    cases h : p a
    · simp only [Bool.not_false, if_true, List.map_cons, List.sum_cons]
      simp only [Bool.false_eq_true, if_false]
      omega
    · simp only [Bool.not_true, if_true, List.map_cons, List.sum_cons]
      simp only [Bool.false_eq_true, if_false]
      omega
theorem root_only {A : List Ent} {r : Ent} (hA : (A.map (·.names)).Nodup) (hr : entAt A [] = some r) : A.filter (fun e => !belowE [] e) = [r] := by
  have hm : r ∈ A.filter (fun e => !belowE [] e) := by
    obtain ⟨h1, h2⟩ := at_names hr
    refine List.mem_filter.2 ⟨h2, ?_⟩
    rw [Bool.not_eq_true', ← Bool.not_eq_true, below_iff]
    rintro ⟨s, hs, e⟩
    rw [h1] at e
    simp at e
    exact hs e
  have hn : ((A.filter (fun e => !belowE [] e)).map (·.names)).Nodup := List.Sublist.nodup (List.filter_sublist.map _) hA
  have hall : ∀ e ∈ A.filter (fun e => !belowE [] e), e.names = [] := by
    intro e he
    have h1 := (List.mem_filter.1 he).2
    rw [Bool.not_eq_true', ← Bool.not_eq_true, below_iff] at h1
    exact Classical.byContradiction fun h => h1 ⟨e.names, h, by simp⟩
  generalize A.filter (fun e => !belowE [] e) = X at *
  match X with
  | [] => cases hm
  | [a] => rw [List.mem_singleton.1 hm]
  | a :: b :: t =>
    have h1 := hall a (by simp)
    have h2 := hall b (by simp)
    simp only [List.map_cons, List.nodup_cons, List.mem_cons] at hn
    exact absurd (.inl (by rw [h1, h2])) hn.1
/-- how many lie in a directory, right below it -/
def kidsN (A : List Ent) (e : Ent) : Nat := (kidsA A e.names).length
theorem kids_sum {A es : List Ent} (hT : Tree A) (hA : (A.map (·.names)).Nodup) (hp : es.Perm (A.filter (belowE []))) : (es.map (kidsN A)).sum + (kidsA A []).length = es.length := by
  have h := kids_all hT hA
  rw [List.map_map] at h
  obtain ⟨r, hr, _⟩ := hT.root
  have h1 := sum_split (belowE []) (kidsN A) A
  rw [root_only hA hr] at h1
  have h2 : ((es.map (kidsN A)).sum) = ((A.filter (belowE [])).map (kidsN A)).sum := (hp.map _).sum_nat
  have h3 : ([r].map (kidsN A)).sum = (kidsA A []).length := by
    simp [kidsN, (at_names hr).1]
  rw [hp.length_eq, ← h, h2, ← h3, ← h1]
  rfl
/-- how many names were told of the first of them -/
def toldN (A es : List Ent) (i : Nat) : Nat := ((es.take i).map (kidsN A)).sum
theorem told_succ {A es : List Ent} {i : Nat} {e : Ent} (h : es[i]? = some e) : toldN A es (i + 1) = toldN A es i + kidsN A e := by
  unfold toldN
  rw [List.take_add_one, h]
  simp
theorem told_all (A es : List Ent) : toldN A es es.length = (es.map (kidsN A)).sum := by
  unfold toldN
  rw [List.take_length]
theorem told_le (A es : List Ent) (i : Nat) : toldN A es i ≤ (es.map (kidsN A)).sum := by
  unfold toldN
  conv => rhs; rw [← List.take_append_drop i es, List.map_append, List.sum_append]
  omega
/-- what is known of one that is listed -/
structure OneE (A : List Ent) (e : Ent) : Prop where
  gp : Gp e.names
  there : entAt A e.names = some e
  up : ∃ d, entAt A e.names.dropLast = some d ∧ d.dir = true
  ne : e.names ≠ []
theorem ones {A es : List Ent} (hT : Tree A) (hA : (A.map (·.names)).Nodup) (hG : ∀ e ∈ A, Gp e.names) (hp : es.Perm (A.filter (belowE []))) : ∀ e ∈ es, OneE A e := by
  intro e he
  obtain ⟨hm, hb⟩ := List.mem_filter.1 (hp.mem_iff.1 he)
  obtain ⟨s, hs, e1⟩ := below_iff.1 hb
  have hne : e.names ≠ [] := by rw [e1]; simpa using hs
  exact ⟨hG e hm, at_mem hA hm, hT.up _ e (at_mem hA hm) hne, hne⟩
theorem order {A es : List Ent} (hA : (A.map (·.names)).Nodup) (hp : es.Perm (A.filter (belowE []))) (ho : es.Pairwise (fun s t => ¬ cmpL t.names s.names < 0)) {i : Nat} {a b : Ent} (ha : es[i]? = some a) (hb : es[i + 1]? = some b) : cmpL a.names b.names < 0 := by
  have hn : (es.map (·.names)).Nodup := by
    rw [(hp.map _).nodup_iff]
    exact List.Sublist.nodup (List.filter_sublist.map _) hA
  obtain ⟨hi, rfl⟩ := List.getElem?_eq_some_iff.1 ha
  obtain ⟨hj, rfl⟩ := List.getElem?_eq_some_iff.1 hb
  have h1 := List.pairwise_iff_getElem.1 ho i (i + 1) hi hj (by omega)
  have h2 := List.pairwise_iff_getElem.1 hn i (i + 1) (by simpa using hi) (by simpa using hj) (by omega)
  rw [List.getElem_map, List.getElem_map] at h2
  have t1 := Vp.cmpL_is.turn es[i].names es[i + 1].names
  have t2 := Vp.cmpL_is.three es[i].names es[i + 1].names
  have t3 : cmpL es[i].names es[i + 1].names ≠ 0 := fun e => h2 ((Vp.cmpL_is.zero _ _).1 e)
  omega
end Go.Proofs.YtngehkmdanhgpaaGreat.Pl
namespace Go.Proofs.YtngehkmdanhgpaaGreat.Pl
open Go.RowKit
open Vp (Str B bl Val cmpL parseS showS splitS withinS IsPath)
open Nd (Row wp_world post_Row post_Row2 grownBy_setCell below_of_grown Opn checkS numsOk namedS pathsS)
open Rf (Fil Fls)
/-- a value that reads as operations -/
def Ops (w : World) (v : Value) (os : List Opn) : Prop := ∃ p cap b o, v = .slice p os.length cap ∧ os.length ≤ cap ∧ cap ≤ 9223372036854775807 ∧ (os ≠ [] → p = some ⟨b, o, none⟩ ∧ b < w.heap.size) ∧ ∀ (i : Nat) x, os[i]? = some x → w.rangeAt b (o + i * 6) x.cells
theorem Ops.below {w w' : World} {v : Value} {os : List Opn} (h : Ops w v os) (hb : Below w.heap.size w w') : Ops w' v os := by
  obtain ⟨p, cap, b, o, h1, h2, h3, h4, h5⟩ := h
  refine ⟨p, cap, b, o, h1, h2, h3, fun hn => ⟨(h4 hn).1, Nat.lt_of_lt_of_le (h4 hn).2 hb.size⟩, fun i x hi j u hj => ?_⟩
  have hne : os ≠ [] := by rintro rfl; simp at hi
  rw [hb.cell (p := ⟨b, _, none⟩) (h4 hne).2]
  exact h5 i x hi j u hj
set_option maxHeartbeats 4000000 in
set_option maxRecDepth 100000 in
theorem fitsO_any (w : World) (v u : Value) (fs : List Fil) (os : List Opn) (h : Fls w v fs) (ho : Ops w u os) :
    Calls Tryz.prog 9 #[v, u] w fun e w' => (∃ t, e = .returned (.bool t) ∧ (t = true → fs.length ≤ 100)) ∧ Below w.heap.size w w' := by
  obtain ⟨p, cap, rfl⟩ := h.form
  have hb : Below w.heap.size w (w.alloc (.cells #[.slice p fs.length cap] 22)) := (Below.refl _ _).alloc (Nat.le_refl _) _
  have HFW := hid_in (few_any (w.alloc (.cells #[.slice p fs.length cap] 22)) (.slice p fs.length cap) fs (h.below hb) w.heap.size ((Row.new w [.slice p fs.length cap] 22).cell 0))
  have HB := hid_in hb
  obtain ⟨p2, cap2, b, o, rfl, h2, h3, h4, h5⟩ := ho.below hb
  have HC : Hid (∀ (j : Nat), j < os.length → ∃ x y z : ByteArray, p2 = some ⟨b, o, none⟩ ∧ (w.alloc (.cells #[.slice p fs.length cap] 22)).cell? ⟨b, o + j * 6 + 1, none⟩ = some (.string x) ∧ (w.alloc (.cells #[.slice p fs.length cap] 22)).cell? ⟨b, o + j * 6 + 2, none⟩ = some (.string y) ∧ (w.alloc (.cells #[.slice p fs.length cap] 22)).cell? ⟨b, o + j * 6 + 3, none⟩ = some (.string z)) := hid_in (fun j hj => by
    have hg := List.getElem?_eq_getElem hj
    exact ⟨os[j].path, os[j].dest, os[j].data, (h4 (by intro e; rw [e] at hj; simp at hj)).1, h5 j _ hg 1 _ rfl, h5 j _ hg 2 _ rfl, h5 j _ hg 3 _ rfl⟩)
  have HM : Hid (os.length ≤ 9223372036854775807) := hid_in (by omega)
  clear hb h ho h2 h3 h4 h5
  obtain ⟨w1, HW1⟩ : ∃ w1, Hid (w.alloc (.cells #[.slice p fs.length cap] 22) = w1) := ⟨_, hid_in rfl⟩
  generalize os.length = N at *
  by_cases hn : 100 < fs.length
  · have j1 : (100 : Int) < (fs.length : Int) := by omega
    go_enter Tryz.func9, Tryz.ntmps9
    go_wp2_with (first | (go_at_call 22; refine HFW.out.mono ?_; rintro e w2 ⟨⟨t, rfl⟩, rfl⟩; rcases t with _ | _))
    all_goals go_ret
    all_goals exact ⟨⟨_, rfl, fun h => by cases h⟩, HB.out⟩
  · have j1 : ¬ (100 : Int) < (fs.length : Int) := by omega
    have HN : Hid (fs.length ≤ 100) := hid_in (by omega)
    go_enter Tryz.func9, Tryz.ntmps9
    go_wp2_with (first | (go_at_call 22; refine HFW.out.mono ?_; rintro e w2 ⟨⟨t, rfl⟩, rfl⟩; rcases t with _ | _))
    · go_ret
      exact ⟨⟨_, rfl, fun h => by cases h⟩, HB.out⟩
    · rw [HW1.out] at HB HC ⊢
      go_loopw [6, 5] (fun vj vs W => (∃ m, W = w1.drewN m) ∧ ∃ (j : Nat) (s : Int), j ≤ N ∧ vj = .int .i64 (j : Int) ∧ vs = .int .i64 s) (fun vj _ _ => N - (intOf vj).toNat)
      case atStart => exact ⟨⟨0, rfl⟩, 0, 0, by omega, rfl, rfl⟩
      case round =>
        obtain ⟨⟨m, rfl⟩, j, s, hj, rfl, rfl⟩ := hrel
        by_cases hlt : j < N
        · obtain ⟨x, y, z, rfl, c1, c2, c3⟩ := HC.out j hlt
          have d1 : (w1.drewN m).drew.cell? ⟨b, o + j * 6 + 1, none⟩ = some (.string x) := c1
          have d2 : (w1.drewN m).drew.cell? ⟨b, o + j * 6 + 2, none⟩ = some (.string y) := c2
          have d3 : (w1.drewN m).drew.cell? ⟨b, o + j * 6 + 3, none⟩ = some (.string z) := c3
          have hN : (N : Int) ≤ 9223372036854775807 := by have := HM.out; omega
          have HL := hid_in hlt
          have hlt2 : (j : Int) < (N : Int) := by omega
          clear hj hlt
          go_upto_region 7 with fail
          go_region
          go_wp2
          go_roundw
          case rel => exact ⟨⟨m + 1, rfl⟩, j + 1, _, by have := HL.out; omega, by go_num, rfl⟩
          case measure => have := HL.out; simp [intOf]; omega
        · obtain rfl : j = N := by omega
          clear hj hlt
          go_wp2
          go_ret
          exact ⟨⟨_, rfl, fun _ => HN.out⟩, Nd.below_drewN HB.out m⟩
end Go.Proofs.YtngehkmdanhgpaaGreat.Pl
namespace Go.Proofs.YtngehkmdanhgpaaGreat.Pl
open Go.RowKit
open Vp (Str B bl Val cmpL parseS showS splitS withinS IsPath)
open Nd (Row wp_world post_Row post_Row2 grownBy_setCell below_of_grown Opn checkS numsOk namedS pathsS)
open Rf (Fil Fls)
theorem store37 (c s : Int) (x : ByteArray) (b : Bool) (p : Option Addr) (n q : Nat) : Hid (∀ v ∈ [Value.int .i64 c, .bool b, .int .i64 s, .string x, .slice p n q], v.oneCell' = true) := by
  intro v hv
  simp only [List.mem_cons, List.not_mem_nil, or_false] at hv
  rcases hv with rfl | rfl | rfl | rfl | rfl <;> rfl
end Go.Proofs.YtngehkmdanhgpaaGreat.Pl
namespace Go.Proofs.YtngehkmdanhgpaaGreat.Pl
open Go.RowKit
open Vp (Str B bl Val cmpL parseS showS splitS withinS IsPath)
open Nd (Row wp_world post_Row post_Row2 grownBy_setCell below_of_grown Opn checkS numsOk namedS pathsS perr)
open Rf (Fil Fls fcells)
theorem show_size {xs : List Str} (h : Gp xs) : (B (showS xs)).size ≤ 9223372036854775807 := by
  have h1 := Vp.show_len xs
  have h2 := h.lens
  have h3 : (B (showS xs)).size = (showS xs).length := by simp [B, ByteArray.size]
  omega
theorem st_one {W : World} {g m : Nat} {A : List Ent} {e : Ent} (h : FsA W g m A) (hn : A.length ≤ 100000) (hT : Tree A) (hg : Gp e.names) (he : entAt A e.names = some e) :
    Calls Tryz.prog 14 #[.pointer (some ⟨g, 0, none⟩), .agg #[.int .i64 10, .string (B (showS e.names)), .string ⟨#[]⟩, .string ⟨#[]⟩, .int .i64 0, .int .i64 0]] W fun x W' => ∃ vp vc, x = .returned (.agg #[.int .i64 0, .bool e.dir, .int .i64 (if e.dir then ((kidsN A e : Nat) : Int) else (e.data.size : Int)), .string ⟨#[]⟩, .slice vp 0 vc]) ∧ FsA W' g m A ∧ W.grownBy W' (some m) := by
  obtain ⟨hp, hnm⟩ := perr_show hg
  refine (w_statF h hn _ (show_size hg) hp).mono ?_
  rintro x W' ⟨vp, vc, rfl, h1, h2⟩
  rw [hnm]
  obtain ⟨e1, e2, e3⟩ := stat_at hT he
  refine ⟨vp, vc, ?_, h1, h2⟩
  simp only [e1, e2, e3, List.length_nil, kidsN]
theorem ls_one {W : World} {g m : Nat} {A : List Ent} {e : Ent} (h : FsA W g m A) (hn : A.length ≤ 100000) (hT : Tree A) (hA : (A.map (·.names)).Nodup) (hg : Gp e.names) (he : entAt A e.names = some e) :
    Calls Tryz.prog 14 #[.pointer (some ⟨g, 0, none⟩), .agg #[.int .i64 9, .string (B (showS e.names)), .string ⟨#[]⟩, .string ⟨#[]⟩, .int .i64 0, .int .i64 0]] W fun x W' => ∃ vp vc, x = .returned (.agg #[.int .i64 (if e.dir then 0 else 70), .bool e.dir, .int .i64 (kidsN A e : Nat), .string ⟨#[]⟩, .slice vp (kidsN A e) vc]) ∧ FsA W' g m A ∧ W.grownBy W' (some m) := by
  obtain ⟨hp, hnm⟩ := perr_show hg
  refine (w_listF h hn _ (show_size hg) hp).mono ?_
  rintro x W' ⟨rc, rd, rs, rx, rn, v, hl, rfl, hv, h1, h2⟩
  rw [hnm] at hl
  obtain ⟨hc, hx, hr⟩ := hl
  simp only at hc hx hr
  obtain ⟨p, c, rfl⟩ := hv.form
  cases hd : e.dir
  · have h70 := ls_file hT he hd
    have hk := kids_file hT hA he hd
    rcases hr with ⟨_, rfl, rfl, rfl⟩ | ⟨h0, _⟩
    · refine ⟨p, c, ?_, h1, h2⟩
      rw [hc, h70, hx]
      simp [kidsN, hk, Res.val]
    · rw [h70] at h0; cases h0
  · have h00 := ls_dir hT he hd
    rcases hr with ⟨h0, _⟩ | ⟨_, rfl, rfl, es, hp, _, rfl⟩
    · exact absurd h00 h0
    · refine ⟨p, c, ?_, h1, h2⟩
      rw [hc, h00, hx]
      simp [kidsN, Res.val, hp.length_eq]
theorem FsA.gp {w : World} {g m : Nat} {A : List Ent} (h : FsA w g m A) : ∀ e ∈ A, Gp e.names := by
  obtain ⟨L, h1, rfl⟩ := h
  intro e he
  obtain ⟨s, hs, rfl⟩ := List.mem_map.1 he
  exact (h1.map.good s hs).2
theorem rnames_one {ns : List Str} (h : Gp ns) (W : World) : Calls Tryz.prog 19 #[.string (B (showS ns))] W fun x W' => ∃ p c, x = .returned (.slice p ns.length c) ∧ Val W' (.slice p ns.length c) ns ∧ Below W.heap.size W W' := by
  refine (Rf.names_any _ (show_size h) W).mono ?_
  rintro x W' ⟨⟨v, rfl, hv⟩, hb⟩
  have e : Rf.nmsOf (B (showS ns)) = ns := (perr_show h).2
  rw [e] at hv
  obtain ⟨p, c, e1, h1⟩ := Vp.Nms.val hv
  exact ⟨p, c, by rw [e1], ⟨p, c, rfl, h1⟩, hb⟩
theorem rshow_one {ns : List Str} (h : Gp ns) {u : Value} {W : World} (hv : Val W u ns) : Calls Tryz.prog 20 #[u] W fun x W' => x = .returned (.string (B (showS ns))) ∧ Below W.heap.size W W' := by
  refine (Vp.rshow_v hv (by have := h.lens; omega)).mono ?_
  rintro x W' ⟨rfl, m, rfl⟩
  exact ⟨rfl, Nd.below_drewN (Below.refl _ _) m⟩
theorem rcomp_one {xs ys : List Str} {u v : Value} {W : World} (hx : Val W u xs) (hy : Val W v ys) : Calls Tryz.prog 21 #[u, v] W fun x W' => x = .returned (.int .i64 (cmpL xs ys)) ∧ Below W.heap.size W W' := by
  refine (Vp.rcompare_v hx hy).mono ?_
  rintro x W' ⟨rfl, m, rfl⟩
  exact ⟨rfl, Nd.below_drewN (Below.refl _ _) m⟩
theorem w_newS {fs : List Fil} {p : Option Addr} {n c : Nat} {w : World} (h : Fls w (.slice p n c) fs) (hn : fs.length ≤ 100) (hp : ∀ f ∈ fs, f.path.size ≤ 9223372036854775807) :
    Calls Tryz.prog 10 #[.slice p n c] w fun e w' => Below w.heap.size w w' ∧ ((∃ k, k ≠ 0 ∧ e = .returned (.tuple #[.pointer none, .int .i64 k])) ∨ (∃ g m A, e = .returned (.tuple #[.pointer (some ⟨g, 0, none⟩), .int .i64 0]) ∧ FsA w' g m A ∧ w.heap.size ≤ m ∧ Tree A ∧ Small A ∧ A.length ≤ 101)) := by
  refine (new_any fs _ w h (by omega) hp).mono ?_
  rintro e w' ⟨hb, ⟨hne, rfl⟩ | ⟨he, g, m, L, rfl, hF, hg, hm, hL⟩⟩
  · exact ⟨hb, .inl ⟨_, hne, rfl⟩⟩
  · refine ⟨hb, .inr ⟨g, m, newA fs, rfl, ⟨L, hF, hL⟩, hm, tree_new he, small_new he, ?_⟩⟩
    simp only [newA, List.length_cons, List.length_map]
    omega
theorem val_map {w W : World} {g m : Nat} {A : List Ent} (h : FsA w g m A) (hg : w.grownBy W (some m)) {v : Value} {xs : List Str} (hv : Val w v xs) : Val W v xs := by
  obtain ⟨L, h1, _⟩ := h
  obtain ⟨es, clock, hb, _⟩ := h1.map.ex
  refine val_kept hv hg.size fun b cs t fr e => ?_
  refine hg.block b (Array.getElem?_eq_some_iff.1 e).1 fun e2 => ?_
  obtain rfl := Option.some.inj e2
  rw [hb] at e
  cases e
theorem fls_ptr {W : World} {p : Option Addr} {n c : Nat} {fs : List Fil} (h : Fls W (.slice p n c) fs) : n = fs.length ∧ (fs ≠ [] → ∃ b o, p = some ⟨b, o, none⟩) := by
  obtain ⟨p', cap, b, o, h1, h2, h3, h4, h5, h6⟩ := h
  simp only [Value.slice.injEq] at h1
  obtain ⟨rfl, rfl, rfl⟩ := h1
  exact ⟨rfl, fun hne => ⟨b, o, (h4 hne).1⟩⟩
theorem fls_at {W : World} {b o n c : Nat} {fs : List Fil} (h : Fls W (.slice (some ⟨b, o, none⟩) n c) fs) {i : Nat} {f : Fil} (hi : fs[i]? = some f) : W.cell? ⟨b, o + i * 3, none⟩ = some (.string f.path) ∧ W.cell? ⟨b, o + i * 3 + 1, none⟩ = some (.bool f.dir) ∧ W.cell? ⟨b, o + i * 3 + 2, none⟩ = some (.string f.data) := by
  obtain ⟨p', cap, b', o', h1, h2, h3, h4, h5, h6⟩ := h
  simp only [Value.slice.injEq] at h1
  obtain ⟨rfl, rfl, rfl⟩ := h1
  have hne : fs ≠ [] := by rintro rfl; simp at hi
  obtain ⟨e1, _⟩ := h4 hne
  simp only [Option.some.injEq, Addr.mk.injEq] at e1
  obtain ⟨rfl, rfl, _⟩ := e1
  have k0 := h5 _ _ (Rf.fcells_at hi 0 _ rfl)
  have k1 := h5 _ _ (Rf.fcells_at hi 1 _ rfl)
  have k2 := h5 _ _ (Rf.fcells_at hi 2 _ rfl)
  exact ⟨k0, k1, k2⟩
theorem ops_at {W : World} {u : Value} {os : List Opn} (h : Ops W u os) : ∃ p c, u = .slice p os.length c ∧ os.length ≤ 9223372036854775807 ∧ (os ≠ [] → ∃ b o, p = some ⟨b, o, none⟩ ∧ ∀ W', Below W.heap.size W W' → ∀ (i : Nat) x, os[i]? = some x → W'.cell? ⟨b, o + i * 6, none⟩ = some (.int .i64 x.kind) ∧ W'.cell? ⟨b, o + i * 6 + 1, none⟩ = some (.string x.path) ∧ W'.cell? ⟨b, o + i * 6 + 2, none⟩ = some (.string x.dest) ∧ W'.cell? ⟨b, o + i * 6 + 3, none⟩ = some (.string x.data) ∧ W'.cell? ⟨b, o + i * 6 + 4, none⟩ = some (.int .i64 x.at_) ∧ W'.cell? ⟨b, o + i * 6 + 5, none⟩ = some (.int .i64 x.size)) := by
  obtain ⟨p, cap, b, o, h1, h2, h3, h4, h5⟩ := h
  refine ⟨p, cap, h1, by omega, fun hne => ⟨b, o, (h4 hne).1, fun W' hb i x hi => ?_⟩⟩
  have hr := h5 i x hi
  have hc : ∀ j, W'.cell? ⟨b, j, none⟩ = W.cell? ⟨b, j, none⟩ := fun j => hb.cell (p := ⟨b, j, none⟩) (h4 hne).2
  simp only [hc]
  exact ⟨hr 0 _ rfl, hr 1 _ rfl, hr 2 _ rfl, hr 3 _ rfl, hr 4 _ rfl, hr 5 _ rfl⟩
end Go.Proofs.YtngehkmdanhgpaaGreat.Pl
