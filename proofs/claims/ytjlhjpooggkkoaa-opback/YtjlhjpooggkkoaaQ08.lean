/-
  An operation's bytes mean it alone. Plain numbers, no program in it. What the statements' proofs have in common: a slice of bytes that comes in, and how long it can be. The walk of op.Encode. The walk of op.Check. The walk of op.Check: where just the fields are set that the kind names.
-/
import Derived.Deep.RegionLaw
import Derived.Deep.DrawnRows
import Derived.Test.YtjlhjpooggkkoaaRows
import Derived.OwnWalk
import Derived.Deep.CutRange
import Derived.Laws.Tables
import Derived.Laws.CopyOwn
import Derived.ProofKit
import Derived.OpenShut
import Derived.ShutString
import Derived.ChangeOld
import Derived.Deep.DeepHandedRow
import Derived.SizedLaws
import Derived.Lib.LaidTab
import Derived.Deep.Matrix
import Derived.Deep.Slices
import Derived.Deep.RegionHeld3
import Derived.Test.YtjlhjpooggkkoaaQ00
import Derived.Test.YtjlhjpooggkkoaaQ01
import Derived.Test.YtjlhjpooggkkoaaQ02
import Derived.Test.YtjlhjpooggkkoaaQ03
import Derived.Test.YtjlhjpooggkkoaaQ04
import Derived.Test.YtjlhjpooggkkoaaQ05
import Derived.Test.YtjlhjpooggkkoaaQ06
import Derived.Test.YtjlhjpooggkkoaaQ07
namespace Go.Proofs.Ytjlhjpooggkkoaa.Nd
open Go.RowKit
theorem zz_unzz (m : Nat) : Wire.zz (Wire.unzz m) = m := by
  unfold Wire.zz Wire.unzz
  by_cases h : m % 2 = 0
  · simp only [if_pos h]
    rw [if_pos (by omega)]
    omega
  · simp only [if_neg h]
    rw [if_neg (by omega)]
    omega
theorem unzz_ok (m : Nat) (h : m < 18446744073709551616) : i64r (Wire.unzz m) := by
  unfold i64r Wire.unzz
  split <;> omega
theorem sInt_int (n : Int) (hn : i64r n) (r : List Nat) : sInt (Wire.num (Wire.zz n) ++ r, 0) = (n, (r, 0)) := by
  unfold sInt
  rw [sNum_num _ r (zz_lt n hn.1 hn.2)]
  simp only [unzz_zz n hn.1 hn.2]
theorem sInt_inv {s : Sta} (hs : okS s) (h : (sInt s).2.2 = 0) : s.2 = 0 ∧ s.1 = Wire.num (Wire.zz (sInt s).1) ++ (sInt s).2.1 ∧ i64r (sInt s).1 := by
  obtain ⟨h1, h2, h3⟩ := sNum_inv hs h
  refine ⟨h1, ?_, unzz_ok _ h3⟩
  show s.1 = Wire.num (Wire.zz (Wire.unzz (sNum s).1)) ++ (sNum s).2.1
  rw [zz_unzz]
  exact h2
theorem rdO_enc {o : Opn} (hok : o.ok) (hs : o.short) (r : List Nat) : rdO (encO o ++ r, 0) = (o, (r, 0)) := by
  have e : encO o ++ r = Wire.num (Wire.zz o.kind) ++ (Wire.num o.path.size ++ bytesS o.path ++ (Wire.num o.dest.size ++ bytesS o.dest ++ (Wire.num o.data.size ++ bytesS o.data ++ (Wire.num (Wire.zz o.at_) ++ (Wire.num (Wire.zz o.size) ++ r))))) := by
    simp [encO]
  rw [e]
  unfold rdO
  simp only [sInt_int _ hok.kind, sText_text 1100 _ _ hs.1 (by decide), sText_text 1100 _ _ hs.2.1 (by decide), sText_text 1100 _ _ hs.2.2 (by decide), sInt_int _ hok.at_, sInt_int _ hok.size, str_bytesS]
theorem sInt_ok {s : Sta} (h : okS s) : okS (sInt s).2 := sNum_ok h
theorem text_inv {m : Nat} {s : Sta} (hs : okS s) (h : (sText m s).2.2 = 0) : s.2 = 0 ∧ s.1 = (Wire.num (str (sText m s).1).size ++ bytesS (str (sText m s).1)) ++ (sText m s).2.1 ∧ (str (sText m s).1).size ≤ m := by
  obtain ⟨h1, h2⟩ := sText_inv hs h
  rw [bytesS_str (sText_bytes hs), str_size]
  exact ⟨h1, h2, sText_len m s⟩
theorem enc_rdO {bs : List Nat} (hlt : ∀ x ∈ bs, x < 256) (h : (rdO (bs, 0)).2 = ([], 0)) : encO (rdO (bs, 0)).1 = bs ∧ (rdO (bs, 0)).1.ok ∧ (rdO (bs, 0)).1.short := by
  have o0 : okS (bs, 0) := hlt
  obtain ⟨a1, s1, E1⟩ : ∃ a s, sInt (bs, 0) = (a, s) := ⟨_, _, rfl⟩
  obtain ⟨y2, s2, E2⟩ : ∃ a s, sText 1100 s1 = (a, s) := ⟨_, _, rfl⟩
  obtain ⟨y3, s3, E3⟩ : ∃ a s, sText 1100 s2 = (a, s) := ⟨_, _, rfl⟩
  obtain ⟨y4, s4, E4⟩ : ∃ a s, sText 1100 s3 = (a, s) := ⟨_, _, rfl⟩
  obtain ⟨a5, s5, E5⟩ : ∃ a s, sInt s4 = (a, s) := ⟨_, _, rfl⟩
  obtain ⟨a6, s6, E6⟩ : ∃ a s, sInt s5 = (a, s) := ⟨_, _, rfl⟩
  have R : rdO (bs, 0) = (⟨a1, str y2, str y3, str y4, a5, a6⟩, s6) := by simp only [rdO, E1, E2, E3, E4, E5, E6]
  rw [R] at h ⊢
  simp only at h ⊢
  have o1 : okS s1 := by have := sInt_ok o0; rw [E1] at this; exact this
  have o2 : okS s2 := by have := sText_ok 1100 o1; rw [E2] at this; exact this
  have o3 : okS s3 := by have := sText_ok 1100 o2; rw [E3] at this; exact this
  have o4 : okS s4 := by have := sText_ok 1100 o3; rw [E4] at this; exact this
  have o5 : okS s5 := by have := sInt_ok o4; rw [E5] at this; exact this
  obtain ⟨p6, q6, r6⟩ := sInt_inv o5 (by rw [E6, h])
  obtain ⟨p5, q5, r5⟩ := sInt_inv o4 (by rw [E5]; exact p6)
  obtain ⟨p4, q4, r4⟩ := text_inv (m := 1100) o3 (by rw [E4]; exact p5)
  obtain ⟨p3, q3, r3⟩ := text_inv (m := 1100) o2 (by rw [E3]; exact p4)
  obtain ⟨p2, q2, r2⟩ := text_inv (m := 1100) o1 (by rw [E2]; exact p3)
  obtain ⟨p1, q1, r1⟩ := sInt_inv o0 (by rw [E1]; exact p2)
  rw [E1] at q1 r1
  rw [E2] at q2 r2
  rw [E3] at q3 r3
  rw [E4] at q4 r4
  rw [E5] at q5 r5
  rw [E6, h] at q6
  rw [E6] at r6
  simp only at q1 q2 q3 q4 q5 q6 r1 r2 r3 r4 r5 r6
  refine ⟨?_, ⟨r1, r5, r6, by show (str y2).size ≤ _; omega, by show (str y3).size ≤ _; omega, by show (str y4).size ≤ _; omega⟩, ⟨r2, r3, r4⟩⟩
  rw [q1, q2, q3, q4, q5, q6]
  simp [encO]
/-- no operation is read of what was cut off -/
theorem rdO_cut {o : Opn} (hok : o.ok) (hs : o.short) (hlt : ∀ x ∈ encO o, x < 256) : (rdO ((encO o).take ((encO o).length - 1), 0)).2 ≠ ([], 0) := by
  intro h
  obtain ⟨e1, e2, e3⟩ := enc_rdO (fun x hx => hlt x (List.mem_of_mem_take hx)) h
  obtain ⟨q, hq⟩ : ∃ q, (rdO ((encO o).take ((encO o).length - 1), 0)).1 = q := ⟨_, rfl⟩
  rw [hq] at e1 e2 e3
  have hpos : 0 < (encO o).length := by
    unfold encO
    simp only [List.length_append]
    have := numF_pos 9 (Wire.zz o.kind)
    show 0 < _
    unfold Wire.num
    omega
  have hd := List.take_append_drop ((encO o).length - 1) (encO o)
  rw [← e1] at hd
  have h1 := rdO_enc e2 e3 ((encO o).drop ((encO o).length - 1))
  rw [hd] at h1
  have h2 := rdO_enc hok hs []
  rw [List.append_nil, h1] at h2
  have h3 := (Prod.mk.inj (Prod.mk.inj h2).2).1
  have h4 := congrArg List.length h3
  simp at h4
  omega
theorem encO_lt {o : Opn} (hok : o.ok) (hs : o.short) : ∀ x ∈ encO o, x < 256 := by
  have z1 := zz_lt o.kind hok.kind.1 hok.kind.2
  have z2 := zz_lt o.at_ hok.at_.1 hok.at_.2
  have z3 := zz_lt o.size hok.size.1 hok.size.2
  obtain ⟨s1, s2, s3⟩ := hs
  unfold encO
  exact app_lt (app_lt (app_lt (app_lt (app_lt (num_lt _ z1) (app_lt (num_lt _ (by omega)) (bytesS_lt _))) (app_lt (num_lt _ (by omega)) (bytesS_lt _))) (app_lt (num_lt _ (by omega)) (bytesS_lt _))) (num_lt _ z2)) (num_lt _ z3)
end Go.Proofs.Ytjlhjpooggkkoaa.Nd
namespace Go.Proofs.Ytjlhjpooggkkoaa.Nd
open Go.ChangeShapes Go.WideShapes Go.ChangeAt Go.RowKit Go.Deep
theorem own : ownKnob Try.prog.godebug = none := by kernel_rfl
theorem laidOut : laidOutB Try.prog = true := by kernel_rfl
/-- what is told of a slice of bytes that came in -/
def IsRow (w : World) (a : Option Addr) (len cap : Nat) (zs : List Int) : Prop :=
  (a = none ∧ len = 0 ∧ cap = 0 ∧ zs = []) ∨
  ∃ x, a = some x ∧ len ≤ cap ∧ cap ≤ maxLen ∧ zs.length = cap ∧ (∀ i, i < zs.length → w.cell? (x.add i) = some (.int .u8 (zs.getD i 0))) ∧ ∀ n ∈ zs, (Lit.int .u8 n).wf = true
theorem sl_of {w : World} {a : Option Addr} {len cap : Nat} {zs : List Int} (h : IsRow w a len cap zs) : ∃ bs b off, bs.length = len ∧ Sl w a bs cap b off := by
  rcases h with ⟨rfl, rfl, rfl, rfl⟩ | ⟨x, rfl, h1, h2, h3, h4, h5⟩
  · exact ⟨[], 0, 0, rfl, ⟨by simp, by simp, by omega, fun h => by simp at h, fun j hj => by simp at hj⟩⟩
  · have h2' : cap ≤ 9223372036854775807 := by unfold maxLen at h2; omega
    have hl : ((zs.take len).map Int.toNat).length = len := by simp; omega
    have hb : ∀ y ∈ (zs.take len).map Int.toNat, y < 256 := by
      intro y hy
      simp only [List.mem_map] at hy
      obtain ⟨n, hn, rfl⟩ := hy
      have := bounds_u8 (h5 n (List.mem_of_mem_take hn))
      omega
    by_cases hp : 0 < zs.length
    · obtain ⟨b, off, rfl, hc⟩ := ints_at h4 hp
      refine ⟨_, b, off, hl, ⟨hb, by omega, h2', fun _ => rfl, fun j hj => ?_⟩⟩
      rw [hl] at hj
      rw [hc j (by omega)]
      have hz : j < zs.length := by omega
      have hbd := bounds_u8 (h5 zs[j] (List.getElem_mem hz))
      have e : (((zs.take len).map Int.toNat).getD j 0 : Nat) = (zs.getD j 0).toNat := by
        simp [hj, hz]
      unfold u8v
      rw [e]
      simp [hz]
      omega
    · refine ⟨_, 0, 0, hl, ⟨hb, by omega, h2', fun h => by omega, fun j hj => by omega⟩⟩
theorem slice_in {H : Type} {enc : TypeId × Value → H} {W : World} {a : Option Addr} {len cap : Nat} {d : DataW H} {p : List MemPlace} (h : DataW.Trod enc Try.prog W 0 (fun _ => true) true 32 (.slice a len cap) d p) : ∃ bs b off, bs.length = len ∧ Sl W a bs cap b off := by
  obtain ⟨fuel, hf⟩ := h
  rcases open_ints Try.underlying32 Try.underlying5 (by kernel_rfl) hf with ⟨hcs, _⟩ | ⟨x, l, c, zs, hcs, _, hl, hm, hz, _, hcell, hwz⟩
  · simp [Value.cells] at hcs
    obtain ⟨rfl, rfl, rfl⟩ := hcs
    exact sl_of (zs := []) (.inl ⟨rfl, rfl, rfl, rfl⟩)
  · simp [Value.cells] at hcs
    obtain ⟨rfl, rfl, rfl⟩ := hcs
    exact sl_of (.inr ⟨_, rfl, hl, hm, by simpa using hz, hcell, hwz⟩)
theorem bytes5 : Try.prog.bytesOf 5 = 1 := by kernel_rfl
theorem slice_in2 {H : Type} {enc : TypeId × Value → H} {W : World} {a : Option Addr} {len cap : Nat} {d : DataW H} {p : List MemPlace} (h : DataW.Trod enc Try.prog W 0 (fun _ => true) true 32 (.slice a len cap) d p) :
    (a = none → len = 0 ∧ cap = 0) ∧ ((d = .nil ∧ len = 0) ∨ ∃ es sp, d = .slice es sp ∧ es.length = len) := by
  obtain ⟨fuel, hf⟩ := h
  rcases open_ints Try.underlying32 Try.underlying5 (by kernel_rfl) hf with ⟨hcs, hx⟩ | ⟨x, l, c, zs, hcs, _, hl, hm, hz, hx, hcell, hwz⟩
  · simp [Value.cells] at hcs
    obtain ⟨rfl, rfl, rfl⟩ := hcs
    simp only [Prod.mk.injEq] at hx
    exact ⟨fun _ => ⟨rfl, rfl⟩, .inl ⟨hx.1, rfl⟩⟩
  · simp [Value.cells] at hcs
    obtain ⟨rfl, rfl, rfl⟩ := hcs
    simp only [Prod.mk.injEq] at hx
    refine ⟨fun h => (by cases h), .inr ⟨_, _, hx.1, ?_⟩⟩
    simp at hz
    simp [lits, hz]
    omega
theorem slice_reach {H : Type} {enc : TypeId × Value → H} {W : World} {a : Option Addr} {len cap : Nat} {d : DataW H} {p : List MemPlace} (h : DataW.Trod enc Try.prog W 0 (fun _ => true) true 32 (.slice a len cap) d p)
    {ts : List TypeId} {ds : List (DataW H)} (hsz : (DataW.weightsEach Try.prog ts ds).all (· ≤ reachBytes) = true) (j : Nat) (ht : ts[j]? = some 32) (hd : ds[j]? = some d) : len ≤ 140737488351232 := by
  obtain ⟨_, ⟨_, rfl⟩ | ⟨es, sp, rfl, rfl⟩⟩ := slice_in2 h
  · omega
  · have := sized_slice hsz ht hd Try.underlying32
    rw [bytes5] at this
    unfold reachBytes at this
    omega
theorem cells9 : Try.prog.cellsOf 9 = 1 := by kernel_rfl
theorem cells3 : Try.prog.cellsOf 3 = 1 := by kernel_rfl
instance : Inhabited ByteArray := ⟨ByteArray.empty⟩
theorem cells23 : Try.prog.cellsOf 23 = 6 := by kernel_rfl
theorem op_in {H : Type} {enc : TypeId × Value → H} {W : World} {fuel : Nat} {cs : List Value} {d : DataW H} {p : List MemPlace} (hf : DataW.trod enc Try.prog W 0 (fun _ => true) true fuel 23 cs = some (d, p)) :
    ∃ o : Opn, cs = o.cells ∧ o.ok := by
  obtain ⟨xs, n, _, hxy, hl, hxl, hg⟩ := DataW.trod_struct Try.underlying23 hf
  have hxl' : xs.length = 6 := hxl
  rw [cells23] at hl
  match xs, hxl', cs, hl with
  | [y0, y1, y2, y3, y4, y5], _, [v0, v1, v2, v3, v4, v5], _ =>
    have g0 := hg 0 _ rfl
    have g1 := hg 1 _ rfl
    have g2 := hg 2 _ rfl
    have g3 := hg 3 _ rfl
    have g4 := hg 4 _ rfl
    have g5 := hg 5 _ rfl
    obtain ⟨K, e0, _, hK⟩ := DataW.trod_int Try.underlying3 g0
    obtain ⟨P, e1, _, hP⟩ := DataW.trod_string Try.underlying9 g1
    obtain ⟨T, e2, _, hT⟩ := DataW.trod_string Try.underlying9 g2
    obtain ⟨D, e3, _, hD⟩ := DataW.trod_string Try.underlying9 g3
    obtain ⟨A, e4, _, hA⟩ := DataW.trod_int Try.underlying3 g4
    obtain ⟨Z, e5, _, hZ⟩ := DataW.trod_int Try.underlying3 g5
    simp [cells3, cells9] at e0 e1 e2 e3 e4 e5
    subst e0 e1 e2 e3 e4 e5
    unfold maxLen at hP hT hD
    exact ⟨⟨K, P, T, D, A, Z⟩, rfl, ⟨bounds_i64 hK, bounds_i64 hA, bounds_i64 hZ, by show P.size ≤ _; omega, by show T.size ≤ _; omega, by show D.size ≤ _; omega⟩⟩
end Go.Proofs.Ytjlhjpooggkkoaa.Nd
namespace Go.Proofs.Ytjlhjpooggkkoaa.Nd
open Go.RowKit
set_option maxHeartbeats 4000000 in
set_option maxRecDepth 100000 in
theorem encode_ok (o : Opn) (hok : o.ok) (hs : o.short) (w : World) : Calls Try.prog 16 #[o.val] w fun e w' => (∃ u, e = .returned (.tuple #[u, .int .i64 0]) ∧ w'.ownsRow w.heap.size 5 1 u (encO o).length ((encO o).map u8v)) ∧ Below w.heap.size w w' := by
  obtain ⟨k, p, t, d, a, z⟩ := o
  simp only [Opn.val]
  obtain ⟨W0, H0, HR0, HB0, HZ0⟩ := op_row w k a z p t d
  have c1 : W0.cell? ⟨w.heap.size, 1, none⟩ = some (.string p) := HR0.out.cell 1
  have c2 : W0.cell? ⟨w.heap.size, 2, none⟩ = some (.string t) := HR0.out.cell 2
  have c3 : W0.cell? ⟨w.heap.size, 3, none⟩ = some (.string d) := HR0.out.cell 3
  have HAF := hid_in (areFields_any _ _ _ (strs3 W0 p t d) (by have h1 := hok.path; have h2 := hok.dest; have h3 := hok.data; simp only at h1 h2 h3; simp [h1, h2, h3]))
  have HYES : Hid (shortS [p, t, d]) := (short3 p t d).2 hs
  have HIk := hid_in hok.kind
  have HIa := hid_in hok.at_
  have HIz := hid_in hok.size
  simp only at HIk HIa HIz
  obtain ⟨z1, z2, z3⟩ := hs
  simp only at z1 z2 z3
  have y1 := num_length (Wire.zz k)
  have y2 := num_length p.size
  have y3 := num_length t.size
  have y4 := num_length d.size
  have y5 := num_length (Wire.zz a)
  have y6 := num_length (Wire.zz z)
  have HL0 : Hid (([] : List Nat).length + 10 ≤ 140737488355328) := by
    show _ ≤ _
    simp only [List.length_nil]
    omega
  have HL1 : Hid ((([] ++ Wire.num (Wire.zz k)) : List Nat).length + 10 + p.size ≤ 140737488355328) := by
    show _ ≤ _
    simp only [List.length_append, List.length_nil]
    omega
  have HL2 : Hid (((([] ++ Wire.num (Wire.zz k)) ++ (Wire.num p.size ++ bytesS p)) : List Nat).length + 10 + t.size ≤ 140737488355328) := by
    show _ ≤ _
    simp only [List.length_append, List.length_nil, bytesS_length]
    omega
  have HL3 : Hid ((((([] ++ Wire.num (Wire.zz k)) ++ (Wire.num p.size ++ bytesS p)) ++ (Wire.num t.size ++ bytesS t)) : List Nat).length + 10 + d.size ≤ 140737488355328) := by
    show _ ≤ _
    simp only [List.length_append, List.length_nil, bytesS_length]
    omega
  have HL4 : Hid (((((([] ++ Wire.num (Wire.zz k)) ++ (Wire.num p.size ++ bytesS p)) ++ (Wire.num t.size ++ bytesS t)) ++ (Wire.num d.size ++ bytesS d)) : List Nat).length + 10 ≤ 140737488355328) := by
    show _ ≤ _
    simp only [List.length_append, List.length_nil, bytesS_length]
    omega
  have HL5 : Hid ((((((([] ++ Wire.num (Wire.zz k)) ++ (Wire.num p.size ++ bytesS p)) ++ (Wire.num t.size ++ bytesS t)) ++ (Wire.num d.size ++ bytesS d)) ++ Wire.num (Wire.zz a)) : List Nat).length + 10 ≤ 140737488355328) := by
    show _ ≤ _
    simp only [List.length_append, List.length_nil, bytesS_length]
    omega
  have HL6 : Hid (((((((([] ++ Wire.num (Wire.zz k)) ++ (Wire.num p.size ++ bytesS p)) ++ (Wire.num t.size ++ bytesS t)) ++ (Wire.num d.size ++ bytesS d)) ++ Wire.num (Wire.zz a)) ++ Wire.num (Wire.zz z)) : List Nat).length ≤ 140737488355328) := by
    show _ ≤ _
    simp only [List.length_append, List.length_nil, bytesS_length]
    omega
  clear hok z1 z2 z3 y1 y2 y3 y4 y5 y6
  go_enter Try.func16, Try.ntmps16
  go_upto_region 1 with fail
  refine wp_world H0.out ?_
  clear H0
  go_upto_region 4 with (first | (go_at_call 29; refine HAF.out.mono ?_; rintro e w1 ⟨hs, hw1⟩; obtain rfl := hs.isYes' HYES.out; have HB1 : Hid (Below w.heap.size w w1) := (by rw [hw1]; exact HB0.out.alloc HB0.out.size _); have HR1 : Hid (Row w1 w.heap.size [.int .i64 k, .string p, .string t, .string d, .int .i64 a, .int .i64 z] 23) := (by rw [hw1]; exact HR0.out.alloc _); clear hs hw1 c1 c2 c3 HAF))
  have HSZ : Hid (w.heap.size < w1.heap.size) := HR1.out.lt
  obtain ⟨W2, HW2⟩ : ∃ W2, Hid (w1.alloc (.cells #[.slice none 0 0] 56) = W2) := ⟨_, rfl⟩
  have HO2 : Hid (OutB W2 w1.heap.size w1.heap.size []) := ⟨.slice none 0 0, by rw [← HW2.out]; exact out_new w1⟩
  have HB2 : Hid (Below w1.heap.size w1 W2) := by show Below _ _ _; rw [← HW2.out]; exact (Below.refl _ _).alloc (Nat.le_refl _) _
  refine wp_world HW2.out ?_
  clear HW2
  generalize w1.heap.size = B at *
  have HBE : Hid (∀ W, Below B w1 W → Row W w.heap.size [.int .i64 k, .string p, .string t, .string d, .int .i64 a, .int .i64 z] 23) := fun W hW => HR1.out.below hW HSZ.out
  have HBF : Hid (∀ W W', Below B w1 W → Below W.heap.size W W' → Below w.heap.size w W') := fun W W' h1 h2 => by
    have h3 : Below w.heap.size w W := HB1.out.trans (h1.mono (Nat.le_of_lt HSZ.out))
    exact h3.trans (h2.mono h3.size)
  have hr2 := HBE.out W2 HB2.out
  have c0_ : W2.cell? ⟨w.heap.size, 0, none⟩ = some (.int .i64 k) := hr2.cell 0
  clear hr2
  go_wp2_with (first | (go_at_call 30; refine (int_o _ B B _ k HIk.out (Nat.le_refl _) HO2.out HL0.out).mono ?_; rintro e w3 ⟨rfl, h1, h2⟩; have HO3 := hid_in h1; have HB3 := hid_in (HB2.out.trans h2); clear h1 h2 c0_ HO2; have hr3 := HBE.out w3 HB3.out; have c1_ : w3.cell? ⟨w.heap.size, 1, none⟩ = some (.string p) := hr3.cell 1; clear hr3) | (go_at_call 31; refine (text_o _ B B _ p (Nat.le_refl _) HO3.out HL1.out).mono ?_; rintro e w4 ⟨rfl, h1, h2⟩; have HO4 := hid_in h1; have HB4 := hid_in (HB3.out.trans h2); clear h1 h2 c1_ HO3; have hr4 := HBE.out w4 HB4.out; have c2_ : w4.cell? ⟨w.heap.size, 2, none⟩ = some (.string t) := hr4.cell 2; clear hr4) | (go_at_call 31; refine (text_o _ B B _ t (Nat.le_refl _) HO4.out HL2.out).mono ?_; rintro e w5 ⟨rfl, h1, h2⟩; have HO5 := hid_in h1; have HB5 := hid_in (HB4.out.trans h2); clear h1 h2 c2_ HO4; have hr5 := HBE.out w5 HB5.out; have c3_ : w5.cell? ⟨w.heap.size, 3, none⟩ = some (.string d) := hr5.cell 3; clear hr5) | (go_at_call 31; refine (text_o _ B B _ d (Nat.le_refl _) HO5.out HL3.out).mono ?_; rintro e w6 ⟨rfl, h1, h2⟩; have HO6 := hid_in h1; have HB6 := hid_in (HB5.out.trans h2); clear h1 h2 c3_ HO5; have hr6 := HBE.out w6 HB6.out; have c4_ : w6.cell? ⟨w.heap.size, 4, none⟩ = some (.int .i64 a) := hr6.cell 4; clear hr6) | (go_at_call 30; refine (int_o _ B B _ a HIa.out (Nat.le_refl _) HO6.out HL4.out).mono ?_; rintro e w7 ⟨rfl, h1, h2⟩; have HO7 := hid_in h1; have HB7 := hid_in (HB6.out.trans h2); clear h1 h2 c4_ HO6; have hr7 := HBE.out w7 HB7.out; have c5_ : w7.cell? ⟨w.heap.size, 5, none⟩ = some (.int .i64 z) := hr7.cell 5; clear hr7) | (go_at_call 30; refine (int_o _ B B _ z HIz.out (Nat.le_refl _) HO7.out HL5.out).mono ?_; rintro e w8 ⟨rfl, h1, h2⟩; have HO8 := hid_in h1; have HB8 := hid_in (HB7.out.trans h2); clear h1 h2 c5_ HO7) | (go_at_call 32; obtain ⟨v9, hv9⟩ := HO8.out; refine (obytes_any w8 B B v9 _ hv9 HL6.out).mono ?_; rintro e w9 ⟨u9, rfl, h1, h2⟩; have HW9 := hid_in h1; have HB9 := hid_in h2; have HE9 := hid_in HB8.out; clear h1 h2 hv9 HO8))
  go_ret2
  refine ⟨⟨_, rfl, ?_⟩, HBF.out _ _ HE9.out HB9.out⟩
  exact own_mono HW9.out (Nat.le_trans HB1.out.size HE9.out.size)
end Go.Proofs.Ytjlhjpooggkkoaa.Nd
namespace Go.Proofs.Ytjlhjpooggkkoaa.Nd
open Go.RowKit
theorem neq_yes (o q : Opn) (h : q ≠ o) (w : World) : (binOp .neq 23 (.agg #[.int .i64 o.kind, .string o.path, .string o.dest, .string o.data, .int .i64 o.at_, .int .i64 o.size]) (.agg #[.int .i64 q.kind, .string q.path, .string q.dest, .string q.data, .int .i64 q.at_, .int .i64 q.size])).run Try.prog w = .ok (.bool true) w := by
  go_simp
  intro h1 h2 h3 h4 h5 h6
  exact h (by cases o; cases q; simp only [Opn.mk.injEq]; exact ⟨h1.symm, (toL_inj h2).symm, (toL_inj h3).symm, (toL_inj h4).symm, h5.symm, h6.symm⟩)
theorem neq_no (o : Opn) (w : World) : (binOp .neq 23 (.agg #[.int .i64 o.kind, .string o.path, .string o.dest, .string o.data, .int .i64 o.at_, .int .i64 o.size]) (.agg #[.int .i64 o.kind, .string o.path, .string o.dest, .string o.data, .int .i64 o.at_, .int .i64 o.size])).run Try.prog w = .ok (.bool false) w := by
  go_simp
theorem kinds_in {k : Int} (h : 1 ≤ k ∧ k ≤ 11) : k = 1 ∨ k = 2 ∨ k = 3 ∨ k = 4 ∨ k = 5 ∨ k = 6 ∨ k = 7 ∨ k = 8 ∨ k = 9 ∨ k = 10 ∨ k = 11 := by omega
theorem named_any (o : Opn) (hk : 1 ≤ o.kind ∧ o.kind ≤ 11) (w : World) : Calls Try.prog 25 #[.agg #[.int .i64 o.kind, .string o.path, .string o.dest, .string o.data, .int .i64 o.at_, .int .i64 o.size]] w fun e w' => e = .returned (.agg #[.int .i64 (namedS o).kind, .string (namedS o).path, .string (namedS o).dest, .string (namedS o).data, .int .i64 (namedS o).at_, .int .i64 (namedS o).size]) ∧ Below w.heap.size w w' := by
  obtain ⟨k, p, t, d, a, z⟩ := o
  simp only at hk ⊢
  rcases kinds_in hk with rfl | rfl | rfl | rfl | rfl | rfl | rfl | rfl | rfl | rfl | rfl
  · exact named_1 p t d a z w
  · exact named_2 p t d a z w
  · exact named_3 p t d a z w
  · exact named_4 p t d a z w
  · exact named_5 p t d a z w
  · exact named_6 p t d a z w
  · exact named_7 p t d a z w
  · exact named_8 p t d a z w
  · exact named_9 p t d a z w
  · exact named_10 p t d a z w
  · exact named_11 p t d a z w
theorem word_none {k : Int} (h : ¬ (1 ≤ k ∧ k ≤ 11)) : wordOf k = ⟨#[]⟩ := by
  unfold wordOf
  repeat rw [if_neg (by omega)]
theorem word_some {k : Int} (h : 1 ≤ k ∧ k ≤ 11) : wordOf k ≠ ⟨#[]⟩ := by
  rcases kinds_in h with rfl | rfl | rfl | rfl | rfl | rfl | rfl | rfl | rfl | rfl | rfl <;> decide
instance (k a z : Int) : Decidable (numsOk k a z) := by unfold numsOk; infer_instance
/-- what Check answers -/
def checkS (o : Opn) : Int :=
  if ¬ (1 ≤ o.kind ∧ o.kind ≤ 11) then 100 else if namedS o ≠ o ∨ ¬ numsOk o.kind o.at_ o.size then 1 else
  if 1024 < o.data.size ∨ 1024 < o.at_ ∨ 1024 < o.size then 134 else pathsS o.kind o.path o.dest
set_option maxHeartbeats 2000000 in
set_option maxRecDepth 100000 in
theorem check_kind (o : Opn) (hk : ¬ (1 ≤ o.kind ∧ o.kind ≤ 11)) (w : World) : Calls Try.prog 10 #[o.val] w fun e w' => e = .returned (.int .i64 100) ∧ Below w.heap.size w w' := by
  obtain ⟨k, p, t, d, a, z⟩ := o
  simp only [Opn.val] at hk ⊢
  obtain ⟨W0, H0, HR0, HB0, HZ0⟩ := op_row w k a z p t d
  have c0 : W0.cell? ⟨w.heap.size, 0, none⟩ = some (.int .i64 k) := HR0.out.cell 0
  have HW := hid_in (fun W => word_any k W)
  rw [word_none hk] at HW
  go_enter Try.func10, Try.ntmps10
  go_upto_region 1 with fail
  refine wp_world H0.out ?_
  clear H0
  go_wp2_with (first | (go_at_call 12; refine (HW.out _).mono ?_; rintro e w1 ⟨rfl, rfl⟩))
  go_ret
  exact ⟨rfl, HB0.out⟩
set_option maxHeartbeats 2000000 in
set_option maxRecDepth 100000 in
theorem check_arg (o : Opn) (hk : 1 ≤ o.kind ∧ o.kind ≤ 11) (hn : namedS o ≠ o) (w : World) : Calls Try.prog 10 #[o.val] w fun e w' => e = .returned (.int .i64 1) ∧ Below w.heap.size w w' := by
  have HNM := hid_in (fun W => named_any o hk W)
  have hne := neq_yes o (namedS o) hn
  have hws := word_some hk
  obtain ⟨k, p, t, d, a, z⟩ := o
  obtain ⟨⟨k', p', t', d', a', z'⟩, HQ⟩ : ∃ q, Hid (namedS ⟨k, p, t, d, a, z⟩ = q) := ⟨_, rfl⟩
  rw [HQ.out] at HNM hne
  simp only [Opn.val] at hk HNM hne hws ⊢
  obtain ⟨W0, H0, HR0, HB0, HZ0⟩ := op_row w k a z p t d
  have c0 : W0.cell? ⟨w.heap.size, 0, none⟩ = some (.int .i64 k) := HR0.out.cell 0
  have c1 : W0.cell? ⟨w.heap.size, 1, none⟩ = some (.string p) := HR0.out.cell 1
  have c2 : W0.cell? ⟨w.heap.size, 2, none⟩ = some (.string t) := HR0.out.cell 2
  have c3 : W0.cell? ⟨w.heap.size, 3, none⟩ = some (.string d) := HR0.out.cell 3
  have c4 : W0.cell? ⟨w.heap.size, 4, none⟩ = some (.int .i64 a) := HR0.out.cell 4
  have c5 : W0.cell? ⟨w.heap.size, 5, none⟩ = some (.int .i64 z) := HR0.out.cell 5
  obtain ⟨WD, HWD⟩ : ∃ WD, Hid (wordOf k = WD) := ⟨_, rfl⟩
  have HW := hid_in (fun W => word_any k W)
  rw [HWD.out] at HW hws
  have hw1 : WD.toList.isEmpty = false := by
    rw [List.isEmpty_eq_false_iff]; exact fun e => hws (toL_inj (b := ⟨#[]⟩) (e.trans (by rw [Lib.toList_data])))
  clear hws HWD HQ hk hn
  go_enter Try.func10, Try.ntmps10
  go_upto_region 1 with fail
  refine wp_world H0.out ?_
  clear H0
  go_upto_region 3 with (first | (go_at_call 12; refine (HW.out _).mono ?_; rintro e w1 ⟨rfl, rfl⟩))
  go_region_with (first | (go_at_call 25; refine (HNM.out _).mono ?_; rintro e w6 ⟨rfl, hb6⟩; have HB6 := hid_in (((Below.refl w1.heap.size w1).drew).trans (hb6.mono (by simp))); have hr6 := HR0.out.below HB6.out HR0.out.lt; have d0 : w6.cell? ⟨w.heap.size, 0, none⟩ = some (.int .i64 k) := hr6.cell 0; have d1 : w6.cell? ⟨w.heap.size, 1, none⟩ = some (.string p) := hr6.cell 1; have d2 : w6.cell? ⟨w.heap.size, 2, none⟩ = some (.string t) := hr6.cell 2; have d3 : w6.cell? ⟨w.heap.size, 3, none⟩ = some (.string d) := hr6.cell 3; have d4 : w6.cell? ⟨w.heap.size, 4, none⟩ = some (.int .i64 a) := hr6.cell 4; have d5 : w6.cell? ⟨w.heap.size, 5, none⟩ = some (.int .i64 z) := hr6.cell 5; clear hb6 hr6))
  all_goals
    go_wp2_with fail
    go_ret
    exact ⟨rfl, HB0.out.trans (HB6.out.mono HB0.out.size)⟩
end Go.Proofs.Ytjlhjpooggkkoaa.Nd
namespace Go.Proofs.Ytjlhjpooggkkoaa.Nd
open Go.RowKit
theorem Says.isNo {e : Ending} {P : Prop} (h : Says e P) (hp : ¬ P) : e = .returned (.bool false) := by
  rcases h.cases with ⟨_, h2⟩ | ⟨h1, _⟩
  · exact absurd h2 hp
  · exact h1
theorem Says.isYes {e : Ending} {P : Prop} (h : Says e P) (hp : P) : e = .returned (.bool true) := by
  rcases h.cases with ⟨h1, _⟩ | ⟨_, h2⟩
  · exact h1
  · exact absurd hp h2
set_option maxHeartbeats 4000000 in
set_option maxRecDepth 100000 in
theorem check_nums (o : Opn) (hk : 1 ≤ o.kind ∧ o.kind ≤ 11) (hn : namedS o = o) (hno : ¬ numsOk o.kind o.at_ o.size) (w : World) : Calls Try.prog 10 #[o.val] w fun e w' => e = .returned (.int .i64 1) ∧ Below w.heap.size w w' := by
  have HNM := hid_in (fun W => named_any o hk W)
  rw [hn] at HNM
  have hne := neq_no o
  have hws := word_some hk
  have HAN := hid_in (fun W => areNumbers_any o.kind o.path o.dest o.data o.at_ o.size W)
  have HNO := hid_in hno
  clear hno
  obtain ⟨k, p, t, d, a, z⟩ := o
  simp only [Opn.val] at *
  obtain ⟨W0, H0, HR0, HB0, HZ0⟩ := op_row w k a z p t d
  have c0 : W0.cell? ⟨w.heap.size, 0, none⟩ = some (.int .i64 k) := HR0.out.cell 0
  have c1 : W0.cell? ⟨w.heap.size, 1, none⟩ = some (.string p) := HR0.out.cell 1
  have c2 : W0.cell? ⟨w.heap.size, 2, none⟩ = some (.string t) := HR0.out.cell 2
  have c3 : W0.cell? ⟨w.heap.size, 3, none⟩ = some (.string d) := HR0.out.cell 3
  have c4 : W0.cell? ⟨w.heap.size, 4, none⟩ = some (.int .i64 a) := HR0.out.cell 4
  have c5 : W0.cell? ⟨w.heap.size, 5, none⟩ = some (.int .i64 z) := HR0.out.cell 5
  obtain ⟨WD, HWD⟩ : ∃ WD, Hid (wordOf k = WD) := ⟨_, rfl⟩
  have HW := hid_in (fun W => word_any k W)
  rw [HWD.out] at HW hws
  have hw1 : WD.toList.isEmpty = false := by
    rw [List.isEmpty_eq_false_iff]; exact fun e => hws (toL_inj (b := ⟨#[]⟩) (e.trans (by rw [Lib.toList_data])))
  clear hws HWD hk hn
  go_enter Try.func10, Try.ntmps10
  go_upto_region 1 with fail
  refine wp_world H0.out ?_
  clear H0
  go_upto_region 3 with (first | (go_at_call 12; refine (HW.out _).mono ?_; rintro e w1 ⟨rfl, rfl⟩))
  go_region_with (first | (go_at_call 25; refine (HNM.out _).mono ?_; rintro e w6 ⟨rfl, hb6⟩; have HB6 := hid_in (((Below.refl w1.heap.size w1).drew).trans (hb6.mono (by simp))); have hr6 := HR0.out.below HB6.out HR0.out.lt; have d0 : w6.cell? ⟨w.heap.size, 0, none⟩ = some (.int .i64 k) := hr6.cell 0; have d1 : w6.cell? ⟨w.heap.size, 1, none⟩ = some (.string p) := hr6.cell 1; have d2 : w6.cell? ⟨w.heap.size, 2, none⟩ = some (.string t) := hr6.cell 2; have d3 : w6.cell? ⟨w.heap.size, 3, none⟩ = some (.string d) := hr6.cell 3; have d4 : w6.cell? ⟨w.heap.size, 4, none⟩ = some (.int .i64 a) := hr6.cell 4; have d5 : w6.cell? ⟨w.heap.size, 5, none⟩ = some (.int .i64 z) := hr6.cell 5; clear hb6 hr6) | (go_at_call 26; refine (HAN.out _).mono ?_; rintro e w7 ⟨hs, hb7⟩; obtain rfl := hs.isNo HNO.out; have HB7 := hid_in (HB6.out.trans (hb7.mono HB6.out.size)); have hr6 := HR0.out.below HB7.out HR0.out.lt; have f0 : w7.cell? ⟨w.heap.size, 0, none⟩ = some (.int .i64 k) := hr6.cell 0; have f1 : w7.cell? ⟨w.heap.size, 1, none⟩ = some (.string p) := hr6.cell 1; have f2 : w7.cell? ⟨w.heap.size, 2, none⟩ = some (.string t) := hr6.cell 2; have f3 : w7.cell? ⟨w.heap.size, 3, none⟩ = some (.string d) := hr6.cell 3; have f4 : w7.cell? ⟨w.heap.size, 4, none⟩ = some (.int .i64 a) := hr6.cell 4; have f5 : w7.cell? ⟨w.heap.size, 5, none⟩ = some (.int .i64 z) := hr6.cell 5; clear hb7 hr6 hs))
  all_goals
    go_wp2_with fail
    go_ret
    exact ⟨rfl, HB0.out.trans (HB7.out.mono HB0.out.size)⟩
set_option maxHeartbeats 4000000 in
set_option maxRecDepth 100000 in
theorem check_data (o : Opn) (hk : 1 ≤ o.kind ∧ o.kind ≤ 11) (hn : namedS o = o) (hno : numsOk o.kind o.at_ o.size) (hd : 1024 < o.data.size) (w : World) : Calls Try.prog 10 #[o.val] w fun e w' => e = .returned (.int .i64 134) ∧ Below w.heap.size w w' := by
  have HNM := hid_in (fun W => named_any o hk W)
  rw [hn] at HNM
  have hne := neq_no o
  have hws := word_some hk
  have HAN := hid_in (fun W => areNumbers_any o.kind o.path o.dest o.data o.at_ o.size W)
  have HNO := hid_in hno
  have k1 : (1024 : Int) < (o.data.size : Int) := by omega
  clear hno hd
  obtain ⟨k, p, t, d, a, z⟩ := o
  simp only [Opn.val] at *
  obtain ⟨W0, H0, HR0, HB0, HZ0⟩ := op_row w k a z p t d
  have c0 : W0.cell? ⟨w.heap.size, 0, none⟩ = some (.int .i64 k) := HR0.out.cell 0
  have c1 : W0.cell? ⟨w.heap.size, 1, none⟩ = some (.string p) := HR0.out.cell 1
  have c2 : W0.cell? ⟨w.heap.size, 2, none⟩ = some (.string t) := HR0.out.cell 2
  have c3 : W0.cell? ⟨w.heap.size, 3, none⟩ = some (.string d) := HR0.out.cell 3
  have c4 : W0.cell? ⟨w.heap.size, 4, none⟩ = some (.int .i64 a) := HR0.out.cell 4
  have c5 : W0.cell? ⟨w.heap.size, 5, none⟩ = some (.int .i64 z) := HR0.out.cell 5
  obtain ⟨WD, HWD⟩ : ∃ WD, Hid (wordOf k = WD) := ⟨_, rfl⟩
  have HW := hid_in (fun W => word_any k W)
  rw [HWD.out] at HW hws
  have hw1 : WD.toList.isEmpty = false := by
    rw [List.isEmpty_eq_false_iff]; exact fun e => hws (toL_inj (b := ⟨#[]⟩) (e.trans (by rw [Lib.toList_data])))
  clear hws HWD hk hn
  go_enter Try.func10, Try.ntmps10
  go_upto_region 1 with fail
  refine wp_world H0.out ?_
  clear H0
  go_upto_region 3 with (first | (go_at_call 12; refine (HW.out _).mono ?_; rintro e w1 ⟨rfl, rfl⟩))
  go_region_with (first | (go_at_call 25; refine (HNM.out _).mono ?_; rintro e w6 ⟨rfl, hb6⟩; have HB6 := hid_in (((Below.refl w1.heap.size w1).drew).trans (hb6.mono (by simp))); have hr6 := HR0.out.below HB6.out HR0.out.lt; have d0 : w6.cell? ⟨w.heap.size, 0, none⟩ = some (.int .i64 k) := hr6.cell 0; have d1 : w6.cell? ⟨w.heap.size, 1, none⟩ = some (.string p) := hr6.cell 1; have d2 : w6.cell? ⟨w.heap.size, 2, none⟩ = some (.string t) := hr6.cell 2; have d3 : w6.cell? ⟨w.heap.size, 3, none⟩ = some (.string d) := hr6.cell 3; have d4 : w6.cell? ⟨w.heap.size, 4, none⟩ = some (.int .i64 a) := hr6.cell 4; have d5 : w6.cell? ⟨w.heap.size, 5, none⟩ = some (.int .i64 z) := hr6.cell 5; clear hb6 hr6) | (go_at_call 26; refine (HAN.out _).mono ?_; rintro e w7 ⟨hs, hb7⟩; obtain rfl := hs.isYes HNO.out; have HB7 := hid_in (HB6.out.trans (hb7.mono HB6.out.size)); have hr6 := HR0.out.below HB7.out HR0.out.lt; have f0 : w7.cell? ⟨w.heap.size, 0, none⟩ = some (.int .i64 k) := hr6.cell 0; have f1 : w7.cell? ⟨w.heap.size, 1, none⟩ = some (.string p) := hr6.cell 1; have f2 : w7.cell? ⟨w.heap.size, 2, none⟩ = some (.string t) := hr6.cell 2; have f3 : w7.cell? ⟨w.heap.size, 3, none⟩ = some (.string d) := hr6.cell 3; have f4 : w7.cell? ⟨w.heap.size, 4, none⟩ = some (.int .i64 a) := hr6.cell 4; have f5 : w7.cell? ⟨w.heap.size, 5, none⟩ = some (.int .i64 z) := hr6.cell 5; clear hb7 hr6 hs))
  all_goals
    go_wp2_with fail
    go_ret
    exact ⟨rfl, HB0.out.trans (HB7.out.mono HB0.out.size)⟩
set_option maxHeartbeats 4000000 in
set_option maxRecDepth 100000 in
theorem check_at (o : Opn) (hk : 1 ≤ o.kind ∧ o.kind ≤ 11) (hn : namedS o = o) (hno : numsOk o.kind o.at_ o.size) (hd : o.data.size ≤ 1024) (ha : 1024 < o.at_) (w : World) : Calls Try.prog 10 #[o.val] w fun e w' => e = .returned (.int .i64 134) ∧ Below w.heap.size w w' := by
  have HNM := hid_in (fun W => named_any o hk W)
  rw [hn] at HNM
  have hne := neq_no o
  have hws := word_some hk
  have HAN := hid_in (fun W => areNumbers_any o.kind o.path o.dest o.data o.at_ o.size W)
  have HNO := hid_in hno
  have k1 : ¬ ((1024 : Int) < (o.data.size : Int)) := by omega
  clear hno hd
  obtain ⟨k, p, t, d, a, z⟩ := o
  simp only [Opn.val] at *
  obtain ⟨W0, H0, HR0, HB0, HZ0⟩ := op_row w k a z p t d
  have c0 : W0.cell? ⟨w.heap.size, 0, none⟩ = some (.int .i64 k) := HR0.out.cell 0
  have c1 : W0.cell? ⟨w.heap.size, 1, none⟩ = some (.string p) := HR0.out.cell 1
  have c2 : W0.cell? ⟨w.heap.size, 2, none⟩ = some (.string t) := HR0.out.cell 2
  have c3 : W0.cell? ⟨w.heap.size, 3, none⟩ = some (.string d) := HR0.out.cell 3
  have c4 : W0.cell? ⟨w.heap.size, 4, none⟩ = some (.int .i64 a) := HR0.out.cell 4
  have c5 : W0.cell? ⟨w.heap.size, 5, none⟩ = some (.int .i64 z) := HR0.out.cell 5
  obtain ⟨WD, HWD⟩ : ∃ WD, Hid (wordOf k = WD) := ⟨_, rfl⟩
  have HW := hid_in (fun W => word_any k W)
  rw [HWD.out] at HW hws
  have hw1 : WD.toList.isEmpty = false := by
    rw [List.isEmpty_eq_false_iff]; exact fun e => hws (toL_inj (b := ⟨#[]⟩) (e.trans (by rw [Lib.toList_data])))
  clear hws HWD hk hn
  go_enter Try.func10, Try.ntmps10
  go_upto_region 1 with fail
  refine wp_world H0.out ?_
  clear H0
  go_upto_region 3 with (first | (go_at_call 12; refine (HW.out _).mono ?_; rintro e w1 ⟨rfl, rfl⟩))
  go_region_with (first | (go_at_call 25; refine (HNM.out _).mono ?_; rintro e w6 ⟨rfl, hb6⟩; have HB6 := hid_in (((Below.refl w1.heap.size w1).drew).trans (hb6.mono (by simp))); have hr6 := HR0.out.below HB6.out HR0.out.lt; have d0 : w6.cell? ⟨w.heap.size, 0, none⟩ = some (.int .i64 k) := hr6.cell 0; have d1 : w6.cell? ⟨w.heap.size, 1, none⟩ = some (.string p) := hr6.cell 1; have d2 : w6.cell? ⟨w.heap.size, 2, none⟩ = some (.string t) := hr6.cell 2; have d3 : w6.cell? ⟨w.heap.size, 3, none⟩ = some (.string d) := hr6.cell 3; have d4 : w6.cell? ⟨w.heap.size, 4, none⟩ = some (.int .i64 a) := hr6.cell 4; have d5 : w6.cell? ⟨w.heap.size, 5, none⟩ = some (.int .i64 z) := hr6.cell 5; clear hb6 hr6) | (go_at_call 26; refine (HAN.out _).mono ?_; rintro e w7 ⟨hs, hb7⟩; obtain rfl := hs.isYes HNO.out; have HB7 := hid_in (HB6.out.trans (hb7.mono HB6.out.size)); have hr6 := HR0.out.below HB7.out HR0.out.lt; have f0 : w7.cell? ⟨w.heap.size, 0, none⟩ = some (.int .i64 k) := hr6.cell 0; have f1 : w7.cell? ⟨w.heap.size, 1, none⟩ = some (.string p) := hr6.cell 1; have f2 : w7.cell? ⟨w.heap.size, 2, none⟩ = some (.string t) := hr6.cell 2; have f3 : w7.cell? ⟨w.heap.size, 3, none⟩ = some (.string d) := hr6.cell 3; have f4 : w7.cell? ⟨w.heap.size, 4, none⟩ = some (.int .i64 a) := hr6.cell 4; have f5 : w7.cell? ⟨w.heap.size, 5, none⟩ = some (.int .i64 z) := hr6.cell 5; clear hb7 hr6 hs))
  all_goals
    go_wp2_with fail
    go_ret
    exact ⟨rfl, HB0.out.trans (HB7.out.mono HB0.out.size)⟩
set_option maxHeartbeats 4000000 in
set_option maxRecDepth 100000 in
theorem check_size (o : Opn) (hk : 1 ≤ o.kind ∧ o.kind ≤ 11) (hn : namedS o = o) (hno : numsOk o.kind o.at_ o.size) (hd : o.data.size ≤ 1024) (ha : o.at_ ≤ 1024) (hz : 1024 < o.size) (w : World) : Calls Try.prog 10 #[o.val] w fun e w' => e = .returned (.int .i64 134) ∧ Below w.heap.size w w' := by
  have HNM := hid_in (fun W => named_any o hk W)
  rw [hn] at HNM
  have hne := neq_no o
  have hws := word_some hk
  have HAN := hid_in (fun W => areNumbers_any o.kind o.path o.dest o.data o.at_ o.size W)
  have HNO := hid_in hno
  have k1 : ¬ ((1024 : Int) < (o.data.size : Int)) := by omega
  have k2 : ¬ (1024 < o.at_) := by omega
  clear hno hd ha
  obtain ⟨k, p, t, d, a, z⟩ := o
  simp only [Opn.val] at *
  obtain ⟨W0, H0, HR0, HB0, HZ0⟩ := op_row w k a z p t d
  have c0 : W0.cell? ⟨w.heap.size, 0, none⟩ = some (.int .i64 k) := HR0.out.cell 0
  have c1 : W0.cell? ⟨w.heap.size, 1, none⟩ = some (.string p) := HR0.out.cell 1
  have c2 : W0.cell? ⟨w.heap.size, 2, none⟩ = some (.string t) := HR0.out.cell 2
  have c3 : W0.cell? ⟨w.heap.size, 3, none⟩ = some (.string d) := HR0.out.cell 3
  have c4 : W0.cell? ⟨w.heap.size, 4, none⟩ = some (.int .i64 a) := HR0.out.cell 4
  have c5 : W0.cell? ⟨w.heap.size, 5, none⟩ = some (.int .i64 z) := HR0.out.cell 5
  obtain ⟨WD, HWD⟩ : ∃ WD, Hid (wordOf k = WD) := ⟨_, rfl⟩
  have HW := hid_in (fun W => word_any k W)
  rw [HWD.out] at HW hws
  have hw1 : WD.toList.isEmpty = false := by
    rw [List.isEmpty_eq_false_iff]; exact fun e => hws (toL_inj (b := ⟨#[]⟩) (e.trans (by rw [Lib.toList_data])))
  clear hws HWD hk hn
  go_enter Try.func10, Try.ntmps10
  go_upto_region 1 with fail
  refine wp_world H0.out ?_
  clear H0
  go_upto_region 3 with (first | (go_at_call 12; refine (HW.out _).mono ?_; rintro e w1 ⟨rfl, rfl⟩))
  go_region_with (first | (go_at_call 25; refine (HNM.out _).mono ?_; rintro e w6 ⟨rfl, hb6⟩; have HB6 := hid_in (((Below.refl w1.heap.size w1).drew).trans (hb6.mono (by simp))); have hr6 := HR0.out.below HB6.out HR0.out.lt; have d0 : w6.cell? ⟨w.heap.size, 0, none⟩ = some (.int .i64 k) := hr6.cell 0; have d1 : w6.cell? ⟨w.heap.size, 1, none⟩ = some (.string p) := hr6.cell 1; have d2 : w6.cell? ⟨w.heap.size, 2, none⟩ = some (.string t) := hr6.cell 2; have d3 : w6.cell? ⟨w.heap.size, 3, none⟩ = some (.string d) := hr6.cell 3; have d4 : w6.cell? ⟨w.heap.size, 4, none⟩ = some (.int .i64 a) := hr6.cell 4; have d5 : w6.cell? ⟨w.heap.size, 5, none⟩ = some (.int .i64 z) := hr6.cell 5; clear hb6 hr6) | (go_at_call 26; refine (HAN.out _).mono ?_; rintro e w7 ⟨hs, hb7⟩; obtain rfl := hs.isYes HNO.out; have HB7 := hid_in (HB6.out.trans (hb7.mono HB6.out.size)); have hr6 := HR0.out.below HB7.out HR0.out.lt; have f0 : w7.cell? ⟨w.heap.size, 0, none⟩ = some (.int .i64 k) := hr6.cell 0; have f1 : w7.cell? ⟨w.heap.size, 1, none⟩ = some (.string p) := hr6.cell 1; have f2 : w7.cell? ⟨w.heap.size, 2, none⟩ = some (.string t) := hr6.cell 2; have f3 : w7.cell? ⟨w.heap.size, 3, none⟩ = some (.string d) := hr6.cell 3; have f4 : w7.cell? ⟨w.heap.size, 4, none⟩ = some (.int .i64 a) := hr6.cell 4; have f5 : w7.cell? ⟨w.heap.size, 5, none⟩ = some (.int .i64 z) := hr6.cell 5; clear hb7 hr6 hs))
  all_goals
    go_wp2_with fail
    go_ret
    exact ⟨rfl, HB0.out.trans (HB7.out.mono HB0.out.size)⟩
set_option maxHeartbeats 4000000 in
set_option maxRecDepth 100000 in
theorem check_paths (o : Opn) (hk : 1 ≤ o.kind ∧ o.kind ≤ 11) (hn : namedS o = o) (hno : numsOk o.kind o.at_ o.size) (hd : o.data.size ≤ 1024) (ha : o.at_ ≤ 1024) (hz : o.size ≤ 1024) (hp : o.path.size ≤ 9223372036854775807) (ht : o.dest.size ≤ 9223372036854775807) (w : World) : Calls Try.prog 10 #[o.val] w fun e w' => e = .returned (.int .i64 (pathsS o.kind o.path o.dest)) ∧ Below w.heap.size w w' := by
  have HNM := hid_in (fun W => named_any o hk W)
  rw [hn] at HNM
  have hne := neq_no o
  have hws := word_some hk
  have HAN := hid_in (fun W => areNumbers_any o.kind o.path o.dest o.data o.at_ o.size W)
  have HNO := hid_in hno
  have HCP := hid_in (fun W => checkPaths_any o.kind o.path o.dest o.data o.at_ o.size W hp ht)
  obtain ⟨pe, HPE⟩ : ∃ pe, Hid (pathsS o.kind o.path o.dest = pe) := ⟨_, rfl⟩
  rw [HPE.out] at HCP ⊢
  have k1 : ¬ ((1024 : Int) < (o.data.size : Int)) := by omega
  have k2 : ¬ (1024 < o.at_) := by omega
  have k3 : ¬ (1024 < o.size) := by omega
  clear hno hd ha hz hp ht HPE
  obtain ⟨k, p, t, d, a, z⟩ := o
  simp only [Opn.val] at *
  obtain ⟨W0, H0, HR0, HB0, HZ0⟩ := op_row w k a z p t d
  have c0 : W0.cell? ⟨w.heap.size, 0, none⟩ = some (.int .i64 k) := HR0.out.cell 0
  have c1 : W0.cell? ⟨w.heap.size, 1, none⟩ = some (.string p) := HR0.out.cell 1
  have c2 : W0.cell? ⟨w.heap.size, 2, none⟩ = some (.string t) := HR0.out.cell 2
  have c3 : W0.cell? ⟨w.heap.size, 3, none⟩ = some (.string d) := HR0.out.cell 3
  have c4 : W0.cell? ⟨w.heap.size, 4, none⟩ = some (.int .i64 a) := HR0.out.cell 4
  have c5 : W0.cell? ⟨w.heap.size, 5, none⟩ = some (.int .i64 z) := HR0.out.cell 5
  obtain ⟨WD, HWD⟩ : ∃ WD, Hid (wordOf k = WD) := ⟨_, rfl⟩
  have HW := hid_in (fun W => word_any k W)
  rw [HWD.out] at HW hws
  have hw1 : WD.toList.isEmpty = false := by
    rw [List.isEmpty_eq_false_iff]; exact fun e => hws (toL_inj (b := ⟨#[]⟩) (e.trans (by rw [Lib.toList_data])))
  clear hws HWD hk hn
  go_enter Try.func10, Try.ntmps10
  go_upto_region 1 with fail
  refine wp_world H0.out ?_
  clear H0
  go_upto_region 3 with (first | (go_at_call 12; refine (HW.out _).mono ?_; rintro e w1 ⟨rfl, rfl⟩))
  go_region_with (first | (go_at_call 25; refine (HNM.out _).mono ?_; rintro e w6 ⟨rfl, hb6⟩; have HB6 := hid_in (((Below.refl w1.heap.size w1).drew).trans (hb6.mono (by simp))); have hr6 := HR0.out.below HB6.out HR0.out.lt; have d0 : w6.cell? ⟨w.heap.size, 0, none⟩ = some (.int .i64 k) := hr6.cell 0; have d1 : w6.cell? ⟨w.heap.size, 1, none⟩ = some (.string p) := hr6.cell 1; have d2 : w6.cell? ⟨w.heap.size, 2, none⟩ = some (.string t) := hr6.cell 2; have d3 : w6.cell? ⟨w.heap.size, 3, none⟩ = some (.string d) := hr6.cell 3; have d4 : w6.cell? ⟨w.heap.size, 4, none⟩ = some (.int .i64 a) := hr6.cell 4; have d5 : w6.cell? ⟨w.heap.size, 5, none⟩ = some (.int .i64 z) := hr6.cell 5; clear hb6 hr6) | (go_at_call 26; refine (HAN.out _).mono ?_; rintro e w7 ⟨hs, hb7⟩; obtain rfl := hs.isYes HNO.out; have HB7 := hid_in (HB6.out.trans (hb7.mono HB6.out.size)); have hr6 := HR0.out.below HB7.out HR0.out.lt; have f0 : w7.cell? ⟨w.heap.size, 0, none⟩ = some (.int .i64 k) := hr6.cell 0; have f1 : w7.cell? ⟨w.heap.size, 1, none⟩ = some (.string p) := hr6.cell 1; have f2 : w7.cell? ⟨w.heap.size, 2, none⟩ = some (.string t) := hr6.cell 2; have f3 : w7.cell? ⟨w.heap.size, 3, none⟩ = some (.string d) := hr6.cell 3; have f4 : w7.cell? ⟨w.heap.size, 4, none⟩ = some (.int .i64 a) := hr6.cell 4; have f5 : w7.cell? ⟨w.heap.size, 5, none⟩ = some (.int .i64 z) := hr6.cell 5; clear hb7 hr6 hs))
  all_goals
    go_wp2_with (first | (go_at_call 27; refine (HCP.out _).mono ?_; rintro e w8 ⟨rfl, hb8⟩; have HB8 := hid_in (HB7.out.trans (hb8.mono HB7.out.size)); clear hb8))
    go_ret
    exact ⟨rfl, HB0.out.trans (HB8.out.mono HB0.out.size)⟩
theorem check_any (o : Opn) (hp : o.path.size ≤ 9223372036854775807) (ht : o.dest.size ≤ 9223372036854775807) (w : World) : Calls Try.prog 10 #[o.val] w fun e w' => e = .returned (.int .i64 (checkS o)) ∧ Below w.heap.size w w' := by
  unfold checkS
  split
  · exact check_kind o (by assumption) w
  · rename_i hk
    have hk := Decidable.not_not.1 hk
    split
    · rename_i h
      by_cases hn : namedS o = o
      · exact check_nums o hk hn (by rcases h with h | h; exact absurd hn h; exact h) w
      · exact check_arg o hk hn w
    · rename_i h
      have hn : namedS o = o := Decidable.not_not.1 fun e => h (.inl e)
      have hno : numsOk o.kind o.at_ o.size := Decidable.not_not.1 fun e => h (.inr e)
      split
      · rename_i hb
        by_cases h1 : 1024 < o.data.size
        · exact check_data o hk hn hno h1 w
        · by_cases h2 : 1024 < o.at_
          · exact check_at o hk hn hno (by omega) h2 w
          · exact check_size o hk hn hno (by omega) (by omega) (by omega) w
      · rename_i hb
        exact check_paths o hk hn hno (by omega) (by omega) (by omega) hp ht w
end Go.Proofs.Ytjlhjpooggkkoaa.Nd
