/-
  addFile: the walk. One piece more: the walk of step.
-/
import Derived.Deep.CutRange
import Derived.Test.YtamaejlbojbbeaaGreatDoorQ00
import Derived.Test.YtamaejlbojbbeaaGreatDoorQ01
import Derived.Test.YtamaejlbojbbeaaGreatDoorQ02
import Derived.Test.YtamaejlbojbbeaaGreatDoorQ03
import Derived.Test.YtamaejlbojbbeaaGreatDoorQ04
import Derived.Test.YtamaejlbojbbeaaGreatDoorQ05
import Derived.Test.YtamaejlbojbbeaaGreatDoorQ06
import Derived.Test.YtamaejlbojbbeaaGreatDoorQ07
import Derived.Test.YtamaejlbojbbeaaGreatDoorQ08
import Derived.Test.YtamaejlbojbbeaaGreatDoorQ09
import Derived.Test.YtamaejlbojbbeaaGreatDoorQ10
import Derived.Test.YtamaejlbojbbeaaGreatDoorQ11
import Derived.Test.YtamaejlbojbbeaaGreatDoorQ12
import Derived.Test.YtamaejlbojbbeaaGreatDoorQ13
import Derived.Test.YtamaejlbojbbeaaGreatDoorQ14
import Derived.Test.YtamaejlbojbbeaaGreatDoorQ15
namespace Go.Proofs.YtamaejlbojbbeaaGreatDoor.Tr
open Go.RowKit Go.Shelf
open Sb (hid_in Row Sl T5 BL u8v Tab wp_world grownBy_setCell below_of_grown info39 one_u8 splice_all)
attribute [local go_sem] Oper.semAt_some
theorem wp_app48 {op : Oper} {a : Act} {w : World} {K : Act → World → Prop} {Q : Exit → Act → World → Prop} (s x : Operand) (ho : op.op = .call { callee := .builtin .append, args := #[s, x], argTypes := #[48, 48] }) (vs vx v' : Value) (w' : World) (ty : TypeId) (hty : op.type = ty) (hs : a.eval s = vs ∧ a.eval x = vx) (hr : (Builtin.append_ #[48, 48] ty #[vs, vx]).run Tryz.prog w = .ok v' w') (h : K (a.put op.dst v') w') : op.wp Tryz.prog a w K Q := by
  unfold Oper.wp execOp
  subst hty
  simp only [ho, resolve, invoke, builtin, Sem.run_bind, Sem.run_pure, Result.andThen_ok, List.map_toArray, List.map_cons, List.map_nil, hs.1, hs.2, hr]
  exact h
theorem sum_lt (m : List Nat) : ∀ x ∈ Sb.Sha.sum m, x < 256 := by
  intro x hx
  unfold Sb.Sha.sum Sb.Sha.digestOf at hx
  obtain ⟨y, _, hx⟩ := List.mem_flatMap.1 hx
  simp only [Sb.Sha.bytesOf, List.mem_cons, List.not_mem_nil, or_false] at hx
  rcases hx with rfl | rfl | rfl | rfl <;> exact Nat.mod_lt _ (by decide)
theorem fileN_is {W : World} {B : Nat} {d is : List Nat} {q : Option Addr} {cq : Nat} (hown : W.ownsRow B 30 32 (.slice q is.length cq) is.length (is.map fun i => (Sb.Sha.sum (pieceB d i)).map u8v).flatten) (hd : d.length ≤ 1048576) :
    Nd.IsN W (.agg #[.int .i64 2, .string ⟨#[]⟩, .int .i64 d.length, .slice q is.length cq, .slice none 0 0]) (fileN d is) := by
  refine ⟨⟨_, _, rfl, ?_, Nd.Els.nil W 34⟩, ⟨fun x hx => ?_, fun x hx => (by cases hx), Nd.i64_2, ?_⟩⟩
  · have e : (fileN d is).parts.map Nd.dcells = is.map fun i => (Sb.Sha.sum (pieceB d i)).map u8v := by
      simp only [fileN, List.map_map]; rfl
    rw [e]
    refine Nd.own_els (by simpa using hown) (fun us hus => ?_)
    obtain ⟨i, _, rfl⟩ := List.mem_map.1 hus
    rw [List.length_map, Sb.sum_length]
  · simp only [fileN, List.mem_map] at hx
    obtain ⟨i, _, rfl⟩ := hx
    exact ⟨Sb.sum_length _, sum_lt _⟩
  · show Nd.i64 (d.length : Int)
    unfold Nd.i64
    omega
theorem storeIn {F : Fence} {n : Nat} {ops : Array Oper} {rest : List Oper} {op : Oper} {a : Act} {w : World} {Q : Exit → Act → World → Prop} (hgd : op.guard = none) (x y : Operand) (ho : op.op = .store 30 x y) (b : Nat) (V Z : List Value) (hx : a.eval x = .pointer (some ⟨b, 0, none⟩)) (hy : a.eval y = .agg V.toArray) (hr : Row w b Z 30) (hZ : Z.length = 32) (hV : V.length = 32) (h1 : ∀ v ∈ V, v.oneCell' = true)
    (h : ∀ w', Row w' b V 30 → w.grownBy w' (some b) → wpListIn F n Tryz.prog ops Q rest (a.put op.dst undef) w') : wpListIn F n Tryz.prog ops Q (op :: rest) a w := by
  refine wpListIn_plain hgd fun K hK' => ?_
  have hrun := run_storeAt_mid (P := Tryz.prog) w b 0 30 V.toArray (Sb.there_of_row hr 0 _ (by simp; omega)) (by rw [info39]; simp [hV]) (all_oneCell_toArray h1)
  unfold Oper.wpIn
  refine ⟨by simp [Oper.about, ho], ?_⟩
  rw [Oper.semAt_plain F _ _ (by rw [ho]; intro c hc; cases hc)]
  simp only [execOp, ho, hx, hy, Sem.run_bind, hrun, Result.andThen_ok, Sem.run_pure, Oper.uponIn]
  refine hK' _ _ (h _ ?_ (Sb.grownBy_setCells _ _ _))
  have := Sb.Row.setCells V w Z 0 hr (by omega)
  rwa [splice_all _ _ (by omega)] at this
set_option maxHeartbeats 2000000 in
set_option maxRecDepth 100000 in
theorem addFile_any (w : World) (base g : Nat) (L : List (List Nat)) (data : ByteArray) (hB : Bt w base g L) (htab : Tab w) (hd : data.size ≤ 1024) (hlen : L.length ≤ 10000000) (hbase : base ≤ w.heap.size) (hb0 : 0 < base) (V : List Value) (HV : Hid (V = (Sb.Sha.sum (encB (fileN (Nd.bytesS data) (List.range (pcs data.size))))).map u8v)) :
    Calls Tryz.prog 48 #[.pointer (some ⟨g, 0, none⟩), .string data] w fun e w' => e = .returned (.agg V.toArray) ∧ Bt w' base g (L ++ (List.range (pcs data.size)).map (pieceB (Nd.bytesS data)) ++ [encB (fileN (Nd.bytesS data) (List.range (pcs data.size)))]) ∧ Fr (fun _ => False) g w w' := by
  obtain ⟨Z, hz, hzl⟩ := Sb.zero39
  obtain ⟨D, HD⟩ : ∃ D, Hid (Nd.bytesS data = D) := ⟨_, hid_in rfl⟩
  have hdl : D.length = data.size := by rw [← HD.out, Nd.bytesS_length]
  obtain ⟨C, w3, hcv, hb3, hsl3, ht3, hz3⟩ := conv_str (((w.alloc (.cells #[.pointer (some ⟨g, 0, none⟩)] 174)).alloc (.cells Z.toArray 30)).alloc (.cells #[.int .i64 2, .string ⟨#[]⟩, .int .i64 data.size, .slice none 0 0, .slice none 0 0] 108)) data (by omega)
  have hB2 : Below w.heap.size w (((w.alloc (.cells #[.pointer (some ⟨g, 0, none⟩)] 174)).alloc (.cells Z.toArray 30)).alloc (.cells #[.int .i64 2, .string ⟨#[]⟩, .int .i64 data.size, .slice none 0 0, .slice none 0 0] 108)) := (((Below.refl _ _).alloc (Nat.le_refl _) _).alloc (by simp) _).alloc (by simp; omega) _
  have hbx : Boxed (((w.alloc (.cells #[.pointer (some ⟨g, 0, none⟩)] 174)).alloc (.cells Z.toArray 30)).alloc (.cells #[.int .i64 2, .string ⟨#[]⟩, .int .i64 data.size, .slice none 0 0, .slice none 0 0] 108)) w.heap.size 174 (.pointer (some ⟨g, 0, none⟩)) := ((Boxed.new w 174 _).alloc _).alloc _
  have hrs : Row (((w.alloc (.cells #[.pointer (some ⟨g, 0, none⟩)] 174)).alloc (.cells Z.toArray 30)).alloc (.cells #[.int .i64 2, .string ⟨#[]⟩, .int .i64 data.size, .slice none 0 0, .slice none 0 0] 108)) (w.heap.size + 1) Z 30 := (Row.newAt (w.alloc _) _ Z 30 (by simp)).alloc _
  have hnd : Row (((w.alloc (.cells #[.pointer (some ⟨g, 0, none⟩)] 174)).alloc (.cells Z.toArray 30)).alloc (.cells #[.int .i64 2, .string ⟨#[]⟩, .int .i64 data.size, .slice none 0 0, .slice none 0 0] 108)) (w.heap.size + 2) [.int .i64 2, .string ⟨#[]⟩, .int .i64 data.size, .slice none 0 0, .slice none 0 0] 108 := Row.newAt _ _ [.int .i64 2, .string ⟨#[]⟩, .int .i64 data.size, .slice none 0 0, .slice none 0 0] 108 (by simp)
  have hsz : (((w.alloc (.cells #[.pointer (some ⟨g, 0, none⟩)] 174)).alloc (.cells Z.toArray 30)).alloc (.cells #[.int .i64 2, .string ⟨#[]⟩, .int .i64 data.size, .slice none 0 0, .slice none 0 0] 108)).heap.size = w.heap.size + 3 := by simp
  have HCV := hid_in hcv
  have HB3 := hid_in (hB2.trans (hb3.mono hB2.size))
  have HBX := hid_in (show Boxed w3 _ _ _ from (hb3.block _ hbx.lt).trans hbx)
  have HRS := hid_in (hrs.below hb3 hrs.lt)
  have HND := hid_in (hnd.below hb3 hnd.lt)
  rw [hsz] at hcv hsl3 ht3 hz3
  have HSL := hid_in hsl3
  have HT5 := hid_in ht3
  have HZ3 := hid_in hz3
  have HBT := hid_in hB
  have HTAB := hid_in htab
  have HLEN := hid_in hlen
  have HBASE := hid_in hbase
  have HB0 := hid_in hb0
  have HZL := hid_in hzl
  have HDL := hid_in hdl
  clear hb3 hB2 hbx hrs hnd hsz hsl3 ht3 hz3 hB htab hlen hbase hb0 hzl hdl HCV
  refine (callsIn_wide (n := 4)).1 ?_
  refine callsIn_of_wp_marks Tryz.func48 rfl trivial ?_ rfl
  simp only [Tryz.ntmps48, List.size_toArray, List.length_cons, List.length_nil, Nat.reduceAdd, Nat.reduceSub, Array.replicate_succ, Array.replicate_zero, List.push_toArray, List.append_toArray, List.nil_append, List.cons_append]
  gi_wp2_with (refine ⟨trivial, ?_⟩; gi_at_call 107; refine (chunk_in _ _ _ _).mono ?_; rintro e w' ⟨rfl, hw⟩; subst hw)
  have hs5 : ((w3.alloc (.cells #[.slice (some ⟨w.heap.size + 3, 0, none⟩) data.size C] 51)).alloc (.cells #[.int .i64 64] 3)).cell? ⟨w3.heap.size, 0, none⟩ = some (.slice (some ⟨w.heap.size + 3, 0, none⟩) data.size C) := ((Boxed.new w3 51 _).alloc _).cell
  have hn5 : ((w3.alloc (.cells #[.slice (some ⟨w.heap.size + 3, 0, none⟩) data.size C] 51)).alloc (.cells #[.int .i64 64] 3)).cell? ⟨w3.heap.size + 1, 0, none⟩ = some (.int .i64 64) := by
    have := (Boxed.new (w3.alloc (.cells #[.slice (some ⟨w.heap.size + 3, 0, none⟩) data.size C] 51)) 3 (.int .i64 64)).cell
    rwa [World.size_alloc] at this
  have hb5 : Below w3.heap.size w3 ((w3.alloc (.cells #[.slice (some ⟨w.heap.size + 3, 0, none⟩) data.size C] 51)).alloc (.cells #[.int .i64 64] 3)) := ((Below.refl _ _).alloc (Nat.le_refl _) _).alloc (by simp) _
  have hz5 : ((w3.alloc (.cells #[.slice (some ⟨w.heap.size + 3, 0, none⟩) data.size C] 51)).alloc (.cells #[.int .i64 64] 3)).heap.size = w3.heap.size + 2 := by simp
  have hgl := HBT.out.lt
  have hF5 : FI w base g L D Z (w.heap.size + 3) C w3.heap.size (w3.heap.size + 1) [] ((w3.alloc (.cells #[.slice (some ⟨w.heap.size + 3, 0, none⟩) data.size C] 51)).alloc (.cells #[.int .i64 64] 3)) := by
    have hB5 := HB3.out.trans (hb5.mono HB3.out.size)
    refine ⟨(hb5.block _ HBX.out.lt).trans HBX.out, HRS.out.below hb5 HRS.out.lt, ⟨_, by rw [HDL.out]; exact HND.out.below hb5 HND.out.lt, World.ownsRow_nil _ _ _ _⟩, by simpa using HBT.out.below hB5, Fr.of_below hB5 hgl, by rw [← HD.out]; exact HSL.out.below hb5, HT5.out.of_block (hb5.block _ (by rw [HZ3.out]; omega)), HTAB.out.below hB5 HTAB.out.pos, fun e => ?_, by rw [HDL.out]; exact (Boxed.new w3 51 _).alloc _, by have h := Boxed.new (w3.alloc (.cells #[.slice (some ⟨w.heap.size + 3, 0, none⟩) data.size C] 51)) 3 (.int .i64 64); rwa [World.size_alloc] at h⟩
    have h1 := row_back (hB5.block g hgl) e
    obtain ⟨_, cs', fr, h2⟩ := HBT.out.own h1
    have := (Array.getElem?_eq_some_iff.1 h2).1
    have := HZ3.out
    omega
  have hNC : data.size ≤ C ∧ C ≤ 9223372036854775807 := ⟨by have := HSL.out.cap1; rwa [Nd.bytesS_length] at this, HSL.out.cap2⟩
  generalize (w3.alloc (.cells #[.slice (some ⟨w.heap.size + 3, 0, none⟩) data.size C] 51)).alloc (.cells #[.int .i64 64] 3) = W5 at *
  refine wpIn_rangeFunc_ownG rfl (by omega) (gf := 160) (lb := #[.pointer (some ⟨w3.heap.size, 0, none⟩), .pointer (some ⟨w3.heap.size + 1, 0, none⟩)]) rfl trivial (enters_of Tryz.func160 (by kernel_rfl) rfl)
    (chunk_stops 3 (by omega) w3.heap.size (w3.heap.size + 1) (w.heap.size + 3) data.size C (some ⟨w.heap.size + 3, 0, none⟩) (fun _ => rfl) (by omega) hNC.1 hNC.2 W5 (by omega) (by omega) hs5 hn5)
    (fun h k => KpC.trans h k) ?kb (Below.refl _ _) (fun _ => rfl)
    (FI w base g L D Z (w.heap.size + 3) C w3.heap.size (w3.heap.size + 1)) (fun _ _ _ => False) ?own (fun c s X Y row h => h.elim) hF5
    (fun x => { tmps := #[Value.pointer (some ⟨g, 0, none⟩), Value.string data, Value.pointer (some ⟨w.heap.size, 0, none⟩), undef, Value.pointer (some ⟨w.heap.size + 1, 0, none⟩), Value.pointer (some ⟨w.heap.size + 1 + 1, 0, none⟩),
          .slice (some ⟨w.heap.size + 3, 64 * x, none⟩) (min 64 (data.size - 64 * x)) (min 64 (data.size - 64 * x)), Value.string data, Value.int .i64 data.size,
          Value.agg #[Value.int IntKind.i64 2, Value.string { data := #[] }, Value.int IntKind.i64 data.size, Value.slice none 0 0, Value.slice none 0 0], Value.string data, Value.slice (some ⟨w.heap.size + 3, 0, none⟩) data.size C,
          Value.func (Fn.func 160) #[] #[Value.pointer (some ⟨w3.heap.size, 0, none⟩), Value.pointer (some ⟨w3.heap.size + 1, 0, none⟩)],
          .slice (some ⟨w.heap.size + 3, 64 * x, none⟩) (min 64 (data.size - 64 * x)) (min 64 (data.size - 64 * x)), undef, undef, undef, undef, undef, undef, undef, undef, undef, undef, undef, undef, undef], defers := [] }) ?assign ?body ?done ?stop
  case kb =>
    intro W l o o' hl h1 h2 _
    have hg := grownBy_putObj' W l o'
    have hl2 : w3.heap.size + 2 ≤ l := by omega
    exact ⟨fun v e => hg.cell e (fun h => by have := Option.some.inj h; simp only at this; omega), fun v e => hg.cell e (fun h => by have := Option.some.inj h; simp only at this; omega)⟩
  case own =>
    intro s X Y row h hg hr
    exact h.grown hgl HB0.out HBASE.out hg (fun r e => ⟨by have := (hr r e).1; have := HB3.out.size; omega, (hr r e).2⟩)
  case assign =>
    intro l x W K hK
    simp only [pcV]
    gi_wp2
    exact hK
  case stop =>
    rintro D c pre W _ _ h _
    exact h.elim
  case body =>
    intro l pre x W hI hlt
    have HPL : Hid (pre.length < 17) := by show _ < _; unfold pcs at hlt; omega
    clear hF5 hs5 hn5 hb5 hlt hz
    have c0 := hI.box.cell
    obtain ⟨v, hnr, hown⟩ := hI.nd
    obtain ⟨q, cq, rfl⟩ := own_shape hown
    have c3 : W.cell? ⟨w.heap.size + 1 + 1, 3, none⟩ = some (.slice q pre.length cq) := hnr.cell 3
    have hcv : ∀ k, (convert 51 9 (.slice (some ⟨w.heap.size + 3, 64 * x, none⟩) (min 64 (data.size - 64 * x)) (min 64 (data.size - 64 * x)))).run Tryz.prog (W.drewN k) = .ok (.string (Sb.str (pieceL D x))) (W.drewN k) := by
      intro k
      have h := Sb.conv_sl (sl_piece (hI.sl.below (below_drewN (Below.refl _ _) k)) x)
      rwa [pieceL_len, HDL.out] at h
    have hcv1 : (convert 51 9 (.slice (some ⟨w.heap.size + 3, 64 * x, none⟩) (min 64 (data.size - 64 * x)) (min 64 (data.size - 64 * x)))).run Tryz.prog W.drew = .ok (.string (Sb.str (pieceL D x))) W.drew := hcv 1
    clear hcv
    obtain ⟨PV, HPV⟩ : ∃ PV, Hid (PV = (Sb.Sha.sum (encB (chunkN (pieceL D x)))).map u8v) := ⟨_, hid_in rfl⟩
    have HADD : Hid (Calls Tryz.prog 97 #[.pointer (some ⟨g, 0, none⟩), .agg #[.int .i64 1, .string (Sb.str (pieceL D x)), .int .i64 0, .slice none 0 0, .slice none 0 0]] W.drew fun e w' => e = .returned (.agg PV.toArray) ∧ Bt w' base g (L ++ pre.map (pieceB D) ++ [pieceB D x]) ∧ Fr (fun _ => False) g W.drew w') :=
      add_any W.drew base g _ _ (chunkN (pieceL D x)) (hI.bt.below (below_drew W)) (hI.tab.below (below_drew W) hI.tab.pos) (chunkN_is _ _) (chunkN_short _ (by rw [pieceL_len]; omega)) (by have := HLEN.out; have := HPL.out; simp; omega) PV HPV (Nat.le_trans HBASE.out hI.fr.size) HB0.out
    have HBS := hid_in (fun w' => Nd.slice28 PV (by rw [HPV.out, List.length_map, Sb.sum_length]) w')
    have HNEXT := hid_in (fun w7 (h1 : Bt w7 base g (L ++ pre.map (pieceB D) ++ [pieceB D x])) (h2 : Fr (fun _ => False) g W.drew w7) => file_step hI hgl HB0.out hnr hown HPV.out h1 h2 (by have := HPL.out; omega))
    have HCVS : Hid (∀ w', SF w g D (w.heap.size + 3) C w' → (convert 51 9 (.slice (some ⟨w.heap.size + 3, 64 * x, none⟩) (min 64 (data.size - 64 * x)) (min 64 (data.size - 64 * x)))).run Tryz.prog w' = .ok (.string (Sb.str (pieceL D x))) w') := by
      intro w' hS
      have h := Sb.conv_sl (sl_piece hS.2 x)
      rwa [pieceL_len, HDL.out] at h
    have HS0 : Hid (SF w g D (w.heap.size + 3) C W.drew) := ⟨((below_drew W).block _ hI.box.lt).trans hI.box, hI.sl.below (below_drew W)⟩
    have HI := hid_in hI
    clear hI hnr hown hcv1
    generalize (min 64 (data.size - 64 * x)) = pl at *
    generalize Sb.str (pieceL D x) = ps at *
    generalize hpn : pre.length = pn at *
    clear hpn
    gi_wp2
    refine region_round (S := SF w g D (w.heap.size + 3) C) (by kernel_rfl) (no_defer (by kernel_rfl)) (fun ⟨_, _, h⟩ => h) HS0.out (fun hHeld => ?_)
    refine Nd.take_put (i := 0) (d := 14) (v := ?_) rfl rfl (by kernel_rfl) (by kernel_rfl) (by kernel_rfl) (fun _ _ _ h => h) (Or.inl ⟨by kernel_rfl, ?_⟩) hHeld ?_
    rotate_left
    · (intro w hSw; (try dsimp only at hSw); go_simp; (try with_reducible rfl))
    simp only [Act.put, List.setIfInBounds_toArray, List.set_cons_zero, List.set_cons_succ]
    refine Nd.take_put (i := 3) (d := 17) (v := ?_) rfl rfl (by kernel_rfl) (by kernel_rfl) (by kernel_rfl) (fun _ _ _ h => h) (Or.inl ⟨by kernel_rfl, ?_⟩) hHeld ?_
    rotate_left
    · (intro w hSw; (try dsimp only at hSw); go_simp; (try with_reducible rfl))
    simp only [Act.put, List.setIfInBounds_toArray, List.set_cons_zero, List.set_cons_succ]
    refine Nd.take_put (i := 2) (d := 16) (v := .pointer (some ⟨g, 0, none⟩)) rfl rfl (by kernel_rfl) (by kernel_rfl) (by kernel_rfl) (fun _ _ _ h => h) (Or.inl ⟨by kernel_rfl, fun w' hS => ?l2⟩) hHeld ?_
    case l2 =>
      have hc := hS.1.cell
      go_simp
    simp only [Act.put, List.setIfInBounds_toArray, List.set_cons_zero, List.set_cons_succ]
    refine Nd.take_put (i := 4) (d := 18) (v := .string ps) rfl rfl (by kernel_rfl) (by kernel_rfl) (by kernel_rfl) (fun _ _ _ h => h) (Or.inl ⟨by kernel_rfl, fun w' hS => ?l4⟩) hHeld ?_
    case l4 =>
      have hc := HCVS.out w' hS
      go_simp
    simp only [Act.put, List.setIfInBounds_toArray, List.set_cons_zero, List.set_cons_succ]
    refine Nd.take_put (i := 5) (d := 19) (v := ?_) rfl rfl (by kernel_rfl) (by kernel_rfl) (by kernel_rfl) (fun _ _ _ h => h) (Or.inl ⟨by kernel_rfl, ?_⟩) hHeld ?_
    rotate_left
    · (intro w hSw; (try dsimp only at hSw); go_simp; (try with_reducible rfl))
    simp only [Act.put, List.setIfInBounds_toArray, List.set_cons_zero, List.set_cons_succ]
    refine wpAnyH_ready (rs := [1, 6]) (by kernel_rfl) (by simp) ?_
    refine AllReadyH.cons rfl (fun K hK => ?_) (AllReadyH.cons rfl (fun K hK => ?_) AllReadyH.nil)
    · rw [if_pos (by rfl)]
      go_simp
      refine hK.out _ _ hHeld (fun hHeld => ?_)
      clear hK K
      refine wpAnyH_ready (rs := [6]) (by kernel_rfl) (by simp) ?_
      refine AllReadyH.cons rfl (fun K hK => ?_) AllReadyH.nil
      rw [if_pos (by rfl)]
      go_simp
      refine HADD.out.mono ?_
      rintro e w7 ⟨rfl, hbt7, hfr7⟩
      obtain ⟨c37, q8, c8, w8, hr8, c38, f38, hs3, hfin⟩ := HNEXT.out w7 hbt7 hfr7
      have HFIN := hid_in hfin
      have HS3 := hid_in hs3
      have hl7 : w.heap.size + 1 + 1 < w7.heap.size := World.block_lt_of_cell? w7 _ c37
      have HR8 := hid_in hr8
      clear hbt7 hfr7 hfin hs3 hr8
      go_simp
      refine hK.out _ _ HS3.out.1 (fun hHeld => ?_)
      clear hK K
      refine wpAnyH_ready (rs := [7]) (by kernel_rfl) (by simp) ?_
      refine AllReadyH.cons rfl (fun K hK => ?_) AllReadyH.nil
      rw [if_pos (by rfl)]
      refine Nd.wp_slice1 48 _ rfl _ _ _ rfl (HBS.out _) ?_
      simp only [Act.put, List.setIfInBounds_toArray]
      refine hK.out _ _ HS3.out.2.1 (fun hHeld => ?_)
      clear hK K
      refine wpAnyH_ready (rs := [8]) (by kernel_rfl) (by simp) ?_
      refine AllReadyH.cons rfl (fun K hK => ?_) AllReadyH.nil
      rw [if_pos (by rfl)]
      refine wp_app48 _ _ rfl _ _ _ _ 48 rfl ⟨rfl, rfl⟩ HR8.out ?_
      simp only [Act.put]
      refine hK.out _ _ HS3.out.2.2 (fun hHeld => ?_)
      clear hK K
      refine Nd.take_put (i := 9) (d := 23) (v := ?_) rfl rfl (by kernel_rfl) (by kernel_rfl) (by kernel_rfl) (fun _ _ _ h => h) (Or.inl ⟨by kernel_rfl, ?_⟩) hHeld ?_
      rotate_left
      · (intro w hSw; (try dsimp only at hSw); go_simp; (try with_reducible rfl))
      simp only [Act.put]
      refine wpAnyH_ready (rs := [10]) (by kernel_rfl) (by simp) ?_
      refine AllReadyH.cons rfl (fun K hK => ?_) AllReadyH.nil
      rw [if_pos (by rfl)]
      go_simp
      refine hK.out _ _ ⟨HFIN.out.1.box, HFIN.out.1.sl⟩ (fun hHeld => ?_)
      clear hK K
      refine wpAnyH_done (by kernel_rfl) ?_ _
      refine ⟨HFIN.out.2.from _, ?_, HFIN.out.1⟩
      have k1 := HI.out.sbx.cell
      have k2 := HI.out.nbx.cell
      have k3 := HFIN.out.1.sbx.cell
      have k4 := HFIN.out.1.nbx.cell
      exact ⟨fun v e => by rw [k1] at e; rw [k3]; exact e, fun v e => by rw [k2] at e; rw [k4]; exact e⟩
    · rw [if_pos (by rfl)]
      go_simp
      refine HADD.out.mono ?_
      rintro e w7 ⟨rfl, hbt7, hfr7⟩
      obtain ⟨c37, q8, c8, w8, hr8, c38, f38, hs3, hfin⟩ := HNEXT.out w7 hbt7 hfr7
      have HFIN := hid_in hfin
      have HS3 := hid_in hs3
      have hl7 : w.heap.size + 1 + 1 < w7.heap.size := World.block_lt_of_cell? w7 _ c37
      have HR8 := hid_in hr8
      clear hbt7 hfr7 hfin hs3 hr8
      go_simp
      refine hK.out _ _ HS3.out.1 (fun hHeld => ?_)
      clear hK K
      refine wpAnyH_ready (rs := [1, 7]) (by kernel_rfl) (by simp) ?_
      refine AllReadyH.cons rfl (fun K hK => ?_) (AllReadyH.cons rfl (fun K hK => ?_) AllReadyH.nil)
      · rw [if_pos (by rfl)]
        go_simp
        refine hK.out _ _ hHeld (fun hHeld => ?_)
        clear hK K
        refine wpAnyH_ready (rs := [7]) (by kernel_rfl) (by simp) ?_
        refine AllReadyH.cons rfl (fun K hK => ?_) AllReadyH.nil
        rw [if_pos (by rfl)]
        refine Nd.wp_slice1 48 _ rfl _ _ _ rfl (HBS.out _) ?_
        simp only [Act.put, List.setIfInBounds_toArray]
        refine hK.out _ _ HS3.out.2.1 (fun hHeld => ?_)
        clear hK K
        refine wpAnyH_ready (rs := [8]) (by kernel_rfl) (by simp) ?_
        refine AllReadyH.cons rfl (fun K hK => ?_) AllReadyH.nil
        rw [if_pos (by rfl)]
        refine wp_app48 _ _ rfl _ _ _ _ 48 rfl ⟨rfl, rfl⟩ HR8.out ?_
        simp only [Act.put]
        refine hK.out _ _ HS3.out.2.2 (fun hHeld => ?_)
        clear hK K
        refine Nd.take_put (i := 9) (d := 23) (v := ?_) rfl rfl (by kernel_rfl) (by kernel_rfl) (by kernel_rfl) (fun _ _ _ h => h) (Or.inl ⟨by kernel_rfl, ?_⟩) hHeld ?_
        rotate_left
        · (intro w hSw; (try dsimp only at hSw); go_simp; (try with_reducible rfl))
        simp only [Act.put]
        refine wpAnyH_ready (rs := [10]) (by kernel_rfl) (by simp) ?_
        refine AllReadyH.cons rfl (fun K hK => ?_) AllReadyH.nil
        rw [if_pos (by rfl)]
        go_simp
        refine hK.out _ _ ⟨HFIN.out.1.box, HFIN.out.1.sl⟩ (fun hHeld => ?_)
        clear hK K
        refine wpAnyH_done (by kernel_rfl) ?_ _
        refine ⟨HFIN.out.2.from _, ?_, HFIN.out.1⟩
        have k1 := HI.out.sbx.cell
        have k2 := HI.out.nbx.cell
        have k3 := HFIN.out.1.sbx.cell
        have k4 := HFIN.out.1.nbx.cell
        exact ⟨fun v e => by rw [k1] at e; rw [k3]; exact e, fun v e => by rw [k2] at e; rw [k4]; exact e⟩
      · rw [if_pos (by rfl)]
        refine Nd.wp_slice1 48 _ rfl _ _ _ rfl (HBS.out _) ?_
        simp only [Act.put, List.setIfInBounds_toArray]
        refine hK.out _ _ HS3.out.2.1 (fun hHeld => ?_)
        clear hK K
        refine wpAnyH_ready (rs := [1]) (by kernel_rfl) (by simp) ?_
        refine AllReadyH.cons rfl (fun K hK => ?_) AllReadyH.nil
        rw [if_pos (by rfl)]
        have c37a : (w7.alloc (.cells PV.toArray 30)).cell? ⟨w.heap.size + 1 + 1, 3, none⟩ = some (.slice q pn cq) := (Below.cell ((Below.refl w7.heap.size w7).alloc (Nat.le_refl _) _) (p := ⟨w.heap.size + 1 + 1, 3, none⟩) hl7).trans c37
        go_simp
        refine hK.out _ _ hHeld (fun hHeld => ?_)
        clear hK K
        refine wpAnyH_ready (rs := [8]) (by kernel_rfl) (by simp) ?_
        refine AllReadyH.cons rfl (fun K hK => ?_) AllReadyH.nil
        rw [if_pos (by rfl)]
        refine wp_app48 _ _ rfl _ _ _ _ 48 rfl ⟨rfl, rfl⟩ HR8.out ?_
        simp only [Act.put, List.setIfInBounds_toArray]
        refine hK.out _ _ HS3.out.2.2 (fun hHeld => ?_)
        clear hK K
        refine Nd.take_put (i := 9) (d := 23) (v := ?_) rfl rfl (by kernel_rfl) (by kernel_rfl) (by kernel_rfl) (fun _ _ _ h => h) (Or.inl ⟨by kernel_rfl, ?_⟩) hHeld ?_
        rotate_left
        · (intro w hSw; (try dsimp only at hSw); go_simp; (try with_reducible rfl))
        simp only [Act.put]
        refine wpAnyH_ready (rs := [10]) (by kernel_rfl) (by simp) ?_
        refine AllReadyH.cons rfl (fun K hK => ?_) AllReadyH.nil
        rw [if_pos (by rfl)]
        go_simp
        refine hK.out _ _ ⟨HFIN.out.1.box, HFIN.out.1.sl⟩ (fun hHeld => ?_)
        clear hK K
        refine wpAnyH_done (by kernel_rfl) ?_ _
        refine ⟨HFIN.out.2.from _, ?_, HFIN.out.1⟩
        have k1 := HI.out.sbx.cell
        have k2 := HI.out.nbx.cell
        have k3 := HFIN.out.1.sbx.cell
        have k4 := HFIN.out.1.nbx.cell
        exact ⟨fun v e => by rw [k1] at e; rw [k3]; exact e, fun v e => by rw [k2] at e; rw [k4]; exact e⟩
  case done =>
    rintro D' xs W hD rfl hI hK
    clear hF5 hs5 hn5 hb5 hz
    have c0 := hI.box.cell
    obtain ⟨v, hnr, hown⟩ := hI.nd
    obtain ⟨q, cq, rfl⟩ := own_shape hown
    have n0 : W.cell? ⟨w.heap.size + 1 + 1, 0, none⟩ = some (.int .i64 2) := hnr.cell 0
    have n1 : W.cell? ⟨w.heap.size + 1 + 1, 1, none⟩ = some (.string ⟨#[]⟩) := hnr.cell 1
    have n2 : W.cell? ⟨w.heap.size + 1 + 1, 2, none⟩ = some (.int .i64 D.length) := hnr.cell 2
    have n3 := hnr.cell 3
    have n4 : W.cell? ⟨w.heap.size + 1 + 1, 4, none⟩ = some (.slice none 0 0) := hnr.cell 4
    have HN : Hid (Nd.IsN W (.agg #[.int .i64 2, .string ⟨#[]⟩, .int .i64 D.length, .slice q (List.range (pcs data.size)).length cq, .slice none 0 0]) (fileN D (List.range (pcs data.size)))) := fileN_is hown (by rw [HDL.out]; omega)
    have HADD2 : Hid (Calls Tryz.prog 97 #[.pointer (some ⟨g, 0, none⟩), .agg #[.int .i64 2, .string ⟨#[]⟩, .int .i64 D.length, .slice q (List.range (pcs data.size)).length cq, .slice none 0 0]] W fun e w' => e = .returned (.agg V.toArray) ∧ Bt w' base g (L ++ (List.range (pcs data.size)).map (pieceB D) ++ [encB (fileN D (List.range (pcs data.size)))]) ∧ Fr (fun _ => False) g W w') :=
      add_any W base g _ _ _ hI.bt hI.tab HN.out ⟨by simp [fileN], fun x hx => by simp [fileN] at hx⟩ (by have := HLEN.out; unfold pcs; simp; omega) V (by rw [← HD.out]; exact HV) (Nat.le_trans HBASE.out hI.fr.size) HB0.out
    have HI := hid_in hI
    have HK := hid_in hK
    have HRES := hid_in hI.res
    have HVL : Hid (V.length = 32) := by show _ = _; rw [HV.out, List.length_map, Sb.sum_length]
    have HV1 : Hid (∀ v ∈ V, v.oneCell' = true) := by show ∀ v ∈ V, _; rw [HV.out]; exact one_u8 _
    clear hI hK hnr hown
    generalize (List.range (pcs data.size)).length = rl at *
    simp only [List.getElem?_cons_succ, List.getElem?_cons_zero] at n3
    gi_wp2_with (first | (refine ⟨trivial, ?_⟩; gi_at_call 97; refine (callsIn_wide.2 HADD2.out).mono ?_; rintro e w8 ⟨rfl, hbt8, hfr8⟩; have hrz8 := hfr8.row HI.out.bt HRES.out (by decide) (by decide) (fun e => e); have HBT8 := hid_in hbt8; have HFR8 := hid_in hfr8; have HRZ8 := hid_in hrz8; clear hbt8 hfr8) | (refine storeIn rfl _ _ rfl (w.heap.size + 1) V Z rfl rfl hrz8 HZL.out HVL.out HV1.out ?_; intro w9 hr9 hg9))
    have key : ∀ {b : Nat} {o : Obj}, W.heap[b]? = some o → o.isCells = false → w9.heap[b]? = some o := fun {b o} hb ho => by
      have h8 : w8.heap[b]? = some o := by
        refine (HFR8.out.block b (Array.getElem?_eq_some_iff.1 hb).1 (fun e => e) (fun e => ?_) (fun e => ?_)).trans hb
        · subst e
          obtain ⟨v', cs, hr', _⟩ := HI.out.bt.ex
          rw [show W.heap[b]? = _ from hr'] at hb; cases hb; cases ho
        · obtain ⟨_, cs, fr, h⟩ := HI.out.bt.own e
          rw [h] at hb; cases hb; cases ho
      refine (hg9.block b (Array.getElem?_eq_some_iff.1 h8).1 (fun e => ?_)).trans h8
      obtain rfl := Option.some.inj e
      rw [show w8.heap[w.heap.size + 1]? = _ from HRZ8.out] at h8; cases h8; cases ho
    have hK9 := key HK.out rfl
    have hgp := grownBy_putObj' w9 D' (.deferred none)
    have hDl : w.heap.size ≤ D' := by have := HB3.out.size; omega
    have hB9 : Bt w9 base g (L ++ (List.range (pcs data.size)).map (pieceB D) ++ [encB (fileN D (List.range (pcs data.size)))]) := HBT8.out.other hg9 (fun k e => by
      obtain rfl := Option.some.inj e
      exact ⟨(by omega), not51 HRZ8.out (by decide), not5_97 HRZ8.out (by decide)⟩)
    have hF9 : Fr (fun _ => False) g w w9 := (HI.out.fr.trans HFR8.out).of_new hg9 (by omega) hgl
    have hr10 : Row (w9.putObj D' (.deferred none)) (w.heap.size + 1) V 30 := kept_typed hr9 hgp (fun k e => by
      obtain rfl := Option.some.inj e
      rintro rfl
      rw [show w9.heap[w.heap.size + 1]? = _ from hr9] at hK9; cases hK9)
    refine ⟨by simp, .inl ⟨_, _, rfl, run_takeDeferred hK9, ?_⟩⟩
    refine ⟨.agg V.toArray, ?_, rfl, ?_, hF9.of_new hgp hDl hgl⟩
    · exact results_cell_row rfl _ _ (w.heap.size + 1) 30 V.toArray (0, 0) _ rfl hr10 Tryz.underlying30 rfl (by rw [info39]; simp [HVL.out])
    · rw [HD.out]
      exact hB9.other hgp (fun k e => by
        obtain rfl := Option.some.inj e
        refine ⟨(by omega), (fun ⟨cs, fr, h⟩ => (by rw [h] at hK9; cases hK9)), (fun ⟨cs, fr, h⟩ => (by rw [h] at hK9; cases hK9))⟩)
end Go.Proofs.YtamaejlbojbbeaaGreatDoor.Tr
namespace Go.Proofs.YtamaejlbojbbeaaGreatDoor.Vp
open Go.RowKit Go.Shelf
def sv (x : Str) : Value := .string (B x)
/-- the names behind one more piece -/
def stepS (xs : List Str) (p : Str) : List Str := if p = [] ∨ p = [46] then xs else if p = [46, 46] then xs.dropLast else xs ++ [p]
/-- a slice of the call's own that holds these names -/
abbrev Nms (W : World) (base : Nat) (v : Value) (xs : List Str) : Prop := W.ownsRow base 9 1 v xs.length (xs.map sv)
def s0 (p : Str) : ByteArray := B p
theorem info9 : (Tryz.prog.info? 9).map (fun i => (i.zero, i.size, i.bytes)) = some (some (.string ByteArray.empty), 1, 16) := by kernel_rfl
theorem grown_tmp {W w1 : World} {o : Obj} {row : Option Nat} (h : (W.alloc o).grownBy w1 row) : W.grownBy w1 row :=
  ⟨h.os, h.tape, h.output, Nat.le_trans (by simp) h.size, fun k hk hne => (h.block k (by simp; omega) hne).trans (Below.heap_alloc W o k hk)⟩
theorem Nms.back {W : World} {base : Nat} {g k cap : Nat} {xs : List Str} (h : Nms W base (.slice (some ⟨g, 0, none⟩) (k + 1) cap) xs) (hk : xs.length = k + 1) : Nms W base (.slice (some ⟨g, 0, none⟩) k cap) xs.dropLast := by
  have hl : xs.dropLast.length = k := by simp [hk]
  unfold Nms at *
  rw [hl]
  refine ⟨by simp [hk], ?_⟩
  rcases h.2 with ⟨h0, _⟩ | ⟨g', cap', cur, h0, hb, hg, hn, hm, hs, ht⟩
  · cases h0
  · simp only [Value.slice.injEq, Option.some.injEq, Addr.mk.injEq] at h0
    obtain ⟨⟨e1, _, _⟩, _, e2⟩ := h0
    subst e1 e2
    refine .inr ⟨g, cap, cur, rfl, hb, hg, by omega, hm, hs, ?_⟩
    have e : (xs.map sv).take k = xs.dropLast.map sv := by rw [List.dropLast_eq_take, hk, List.map_take]; rfl
    rw [← e, ← ht, hk, List.take_take]
    congr 1
    omega
set_option maxHeartbeats 1000000 in
set_option maxRecDepth 100000 in
theorem step_any (base : Nat) (v : Value) (xs : List Str) (p : Str) (W : World) (hrow : Nms W base v xs) (hlen : xs.length ≤ 100000) (hbase : base ≤ W.heap.size) :
    Calls Tryz.prog 140 #[v, .string (B p)] W fun e W' => ∃ v', e = .returned v' ∧ Nms W' base v' (stepS xs p) ∧ W.grownBy W' v.ownBlock := by
  have hT := toL p
  by_cases h1 : p = [] ∨ p = [46]
  · have hs : stepS xs p = xs := by unfold stepS; rw [if_pos h1]
    rw [hs]
    have HR := hid_in hrow
    clear hrow hs
    generalize B p = s at hT ⊢
    rcases h1 with rfl | rfl
    · go_enter Tryz.func140, Tryz.ntmps140
      go_wp2_with fail
      all_goals
        go_ret
        exact ⟨v, rfl, HR.out, ⟨rfl, rfl, rfl, Nat.le_refl _, fun _ _ _ => rfl⟩⟩
    · go_enter Tryz.func140, Tryz.ntmps140
      go_wp2_with fail
      all_goals
        go_ret
        exact ⟨v, rfl, HR.out, ⟨rfl, rfl, rfl, Nat.le_refl _, fun _ _ _ => rfl⟩⟩
  · by_cases h2 : p = [46, 46]
    · have hs : stepS xs p = xs.dropLast := by unfold stepS; rw [if_neg h1, if_pos h2]
      rw [hs]
      clear h1 hs
      subst h2
      generalize B [46, 46] = s at hT ⊢
      rcases hrow.2 with ⟨rfl, h0⟩ | ⟨g, cap, cur, rfl, hb, hg, hn, hm, hcs, ht⟩
      · have hx : xs = [] := List.eq_nil_of_length_eq_zero h0
        subst hx
        clear hrow h0
        go_enter Tryz.func140, Tryz.ntmps140
        go_wp2_with fail
        all_goals
          go_ret
          exact ⟨_, rfl, World.ownsRow_nil _ _ _ _, ⟨rfl, rfl, rfl, Nat.le_refl _, fun _ _ _ => rfl⟩⟩
      · cases hk : xs.length with
        | zero =>
          have hx : xs = [] := List.eq_nil_of_length_eq_zero hk
          subst hx
          have HR := hid_in hrow
          have hcap : cap ≤ 9223372036854775807 := by unfold maxLen at hm; omega
          clear hrow hg ht hcs hk
          go_enter Tryz.func140, Tryz.ntmps140
          go_wp2_with fail
          all_goals
            go_ret
            exact ⟨_, rfl, HR.out, ⟨rfl, rfl, rfl, Nat.le_refl _, fun _ _ _ => rfl⟩⟩
        | succ k =>
          rw [hk] at hn hlen
          have HR := hid_in (Nms.back (k := k) (show Nms W base (.slice (some ⟨g, 0, none⟩) (k + 1) cap) xs by rw [← hk]; exact hrow) hk)
          have hcap : cap ≤ 9223372036854775807 := by unfold maxLen at hm; omega
          have c1 : (k : Int) ≤ cap := by omega
          have hmax : max (k : Int) 0 = k := by omega
          clear hrow hg ht hcs hk
          go_enter Tryz.func140, Tryz.ntmps140
          go_wp2_with fail
          all_goals
            go_ret
            exact ⟨_, rfl, HR.out, ⟨rfl, rfl, rfl, Nat.le_refl _, fun _ _ _ => rfl⟩⟩
    · have hs : stepS xs p = xs ++ [p] := by unfold stepS; rw [if_neg h1, if_neg h2]
      rw [hs]
      obtain ⟨i0, hi, hz0, hz1, hz2⟩ := info_parts info9
      have e0 : (s0 p).toList.isEmpty = false := by rw [s0, toL]; cases p <;> simp_all
      have e1 : ((s0 p).toList == [46]) = false := by rw [s0, toL, beq_eq_false_iff_ne]; exact fun e => h1 (.inr e)
      have e2 : ((s0 p).toList == [46, 46]) = false := by rw [s0, toL, beq_eq_false_iff_ne]; exact h2
      have e3 : ((s0 p).toList = [46]) = False := by rw [s0, toL]; simp only [eq_iff_iff, iff_false]; exact fun e => h1 (.inr e)
      have e4 : ((s0 p).toList = [46, 46]) = False := by rw [s0, toL]; simp only [eq_iff_iff, iff_false]; exact h2
      have e5 : ((s0 p).toList = []) = False := by rw [s0, toL]; simp only [eq_iff_iff, iff_false]; exact fun e => h1 (.inl e)
      have HS : Hid ((xs ++ [p]).map sv = xs.map sv ++ [.string (s0 p)] ∧ (xs ++ [p]).length = xs.length + 1) := ⟨by simp [sv, s0], by simp⟩
      have hml : xs.length + 1 ≤ maxLen := by unfold maxLen; omega
      have hrow2 : W.ownsRow base 9 1 v xs.length (xs.map sv) := hrow
      obtain ⟨k, hk⟩ : ∃ k, Hid (k = xs.length) := ⟨_, rfl⟩
      rw [← hk.out] at hrow2 hlen hml
      obtain ⟨us, hus⟩ : ∃ us, Hid (us = xs.map sv) := ⟨_, rfl⟩
      rw [← hus.out] at hrow2
      have HR := hid_in hrow2
      clear hT h1 h2 hs hrow hrow2
      show Calls Tryz.prog 140 #[v, .string (s0 p)] W fun e W' => ∃ v', e = .returned v' ∧ Nms W' base v' (xs ++ [p]) ∧ W.grownBy W' v.ownBlock
      generalize s0 p = s at e0 e1 e2 e3 e4 e5 HS ⊢
      go_enter Tryz.func140, Tryz.ntmps140
      go_wp2_with (first | (at_builtin; refine wpList_append_own _ rfl _ _ 91 rfl base 9 i0 (.string ByteArray.empty) 1 16 Tryz.underlying91 hi hz0 hz1 hz2 rfl (by decide) v k us rfl (HR.out.alloc _) ⟨W.heap.size, 0, none⟩ 1 1 [.string s] rfl rfl (cell_one_new _ _ _) (by simp [Value.oneCell']) hml (by omega) (by simp; omega) ?_; intro v' w1 hown' hgrow _; have HO := hid_in hown'; have HG := hid_in hgrow; clear hown' hgrow))
      go_ret
      refine ⟨_, rfl, ?_, grown_tmp HG.out⟩
      unfold Nms
      rw [HS.out.1, HS.out.2, ← hk.out, ← hus.out]
      exact HO.out
end Go.Proofs.YtamaejlbojbbeaaGreatDoor.Vp
