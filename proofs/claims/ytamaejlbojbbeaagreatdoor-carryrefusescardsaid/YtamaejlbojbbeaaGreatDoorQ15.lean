/-
  slices.Chunk: the pieces of some bytes, one behind the other. addFile: the blobs of a file. A draw turns nothing in memory. addFile: one piece more. A region that draws its order, within a round of a range over a function: by the plain walk's laws.
-/
import Derived.RangeFuncWrites
import Derived.Sort.QuietIn
import Derived.Deep.CutRange
import Derived.Lib.ConvBytes
import Derived.Stop.RegionWithIn
import Derived.OrdersIn
import Derived.Deep.RegionHeld3
import Derived.Test.YtamaejlbojbbeaaGreatDoorQ00
import Derived.Test.YtamaejlbojbbeaaGreatDoorQ01
import Derived.Test.YtamaejlbojbbeaaGreatDoorQ02
import Derived.Test.YtamaejlbojbbeaaGreatDoorQ03
import Derived.Test.YtamaejlbojbbeaaGreatDoorQ04
import Derived.Test.YtamaejlbojbbeaaGreatDoorQ05
import Derived.Test.YtamaejlbojbbeaaGreatDoorQ06
import Derived.Test.YtamaejlbojbbeaaGreatDoorQ07
import Derived.Test.YtamaejlbojbbeaaGreatDoorQ08
import Derived.Test.YtamaejlbojbbeaaGreatDoorQ09
import Derived.Test.YtamaejlbojbbeaaGreatDoorQ10
import Derived.Test.YtamaejlbojbbeaaGreatDoorQ11
import Derived.Test.YtamaejlbojbbeaaGreatDoorQ12
import Derived.Test.YtamaejlbojbbeaaGreatDoorQ13
import Derived.Test.YtamaejlbojbbeaaGreatDoorQ14
namespace Go.Proofs.YtamaejlbojbbeaaGreatDoor.Tr
open Go.RowKit Go.Shelf
open Sb (hid_in Row Sl T5 BL u8v Tab wp_world grownBy_setCell below_of_grown info39 one_u8 splice_all)
attribute [local go_sem] Oper.semAt_some
/-- how many pieces so many bytes have -/
def pcs (N : Nat) : Nat := (N + 63) / 64
/-- the piece of a place, as the iterator hands it on -/
def pcV (b N i : Nat) : Array Value := #[.slice (some ⟨b, 64 * i, none⟩) (min 64 (N - 64 * i)) (min 64 (N - 64 * i))]
/-- the iterator's own two cells stay -/
def KpC (sb nb : Nat) (A B : World) : Prop := (∀ v, A.cell? ⟨sb, 0, none⟩ = some v → B.cell? ⟨sb, 0, none⟩ = some v) ∧ (∀ v, A.cell? ⟨nb, 0, none⟩ = some v → B.cell? ⟨nb, 0, none⟩ = some v)
theorem KpC.trans {sb nb : Nat} {A B C : World} (h : KpC sb nb A B) (k : KpC sb nb B C) : KpC sb nb A C := ⟨fun v e => k.1 v (h.1 v e), fun v e => k.2 v (h.2 v e)⟩
theorem range_pre {i k : Nat} (h : i < k) : List.range (i + 1) <+: List.range k := by
  obtain ⟨m, rfl⟩ : ∃ m, k = i + 1 + m := ⟨k - (i + 1), by omega⟩
  exact ⟨(List.range m).map (i + 1 + ·), by rw [← List.range_add]⟩
set_option maxHeartbeats 1000000 in
theorem chunk_in (p : Option Addr) (N C : Nat) (w : World) : CallsIn Fence.wide 3 Tryz.prog 107 #[.slice p N C, .int .i64 64] w fun e w' => e = .returned (.func (.func 160) #[] #[.pointer (some ⟨w.heap.size, 0, none⟩), .pointer (some ⟨w.heap.size + 1, 0, none⟩)]) ∧ w' = (w.alloc (.cells #[.slice p N C] 51)).alloc (.cells #[.int .i64 64] 3) := by
  refine callsIn_of_wp Tryz.func107 rfl trivial ?_ rfl
  simp only [Tryz.ntmps107, List.size_toArray, List.length_cons, List.length_nil, Nat.reduceAdd, Nat.reduceSub, Array.replicate_succ, Array.replicate_zero, List.push_toArray, List.append_toArray, List.nil_append, List.cons_append]
  gi_wp2
  go_ret
  exact ⟨rfl, rfl⟩
set_option maxRecDepth 100000 in
set_option maxHeartbeats 1000000 in
theorem chunk1_in (n : Nat) (hn : 1 ≤ n) (l sb nb b N C : Nat) (p : Option Addr) (hp : 0 < N → p = some ⟨b, 0, none⟩) (hN : N ≤ 1048576) (hNC : N ≤ C) (_hC : C ≤ 9223372036854775807) (J Jx : List Nat → World → Prop)
    (hJd : ∀ s W m, J s W → J s (World.drewN W m))
    (hY : ∀ pre x W, J pre W → pre.length < pcs N → YieldAt Fence.wide (n - 1) Tryz.prog l (pcV b N x) W fun e W' =>
      (e = .returned (.bool true) ∧ J (pre ++ [x]) W' ∧ KpC sb nb W W') ∨ (e = .returned (.bool false) ∧ Jx (pre ++ [x]) W'))
    (W : World) (hs : W.cell? ⟨sb, 0, none⟩ = some (.slice p N C)) (hnb : W.cell? ⟨nb, 0, none⟩ = some (.int .i64 64)) (h0 : J [] W) :
    CallsIn Fence.wide n Tryz.prog 160 #[.func (.yield l) #[] #[], .pointer (some ⟨sb, 0, none⟩), .pointer (some ⟨nb, 0, none⟩)] W fun e W' => (∃ v, e = .returned v) ∧
      ((∃ ys, ys = List.range (pcs N) ∧ J ys W') ∨ (∃ pre, pre <+: List.range (pcs N) ∧ Jx pre W')) := by
  refine callsIn_of_wp Tryz.func160 rfl trivial ?_ rfl
  simp only [Tryz.ntmps160, List.size_toArray, List.length_cons, List.length_nil, Nat.reduceAdd, Nat.reduceSub, Array.replicate_succ, Array.replicate_zero, List.push_toArray, List.append_toArray, List.nil_append, List.cons_append]
  have HY := hid_in hY
  have HJd := hid_in hJd
  have HP := hid_in hp
  clear hY hJd hp
  gi_wp2
  gi_loopw [4] (fun v4 wr => ∃ i : Nat, i ≤ pcs N ∧ v4 = .int .i64 ((64 * i : Nat) : Int) ∧ Hid (J (List.range i) wr) ∧ wr.cell? ⟨sb, 0, none⟩ = some (.slice p N C) ∧ wr.cell? ⟨nb, 0, none⟩ = some (.int .i64 64))
    (fun v4 _ => 64 * pcs N - (intOf v4).toNat)
  case atStart => exact ⟨0, by omega, rfl, h0, hs, hnb⟩
  case round =>
    obtain ⟨i, hi, rfl, hJ, hcs, hcn⟩ := hrel
    by_cases hlt : 64 * i < N
    · have hlti : ((64 * i : Nat) : Int) < (N : Int) := by omega
      have hik : i < pcs N := by unfold pcs; omega
      obtain rfl := HP.out (by omega)
      obtain ⟨E, HE⟩ : ∃ E, Hid (E = min 64 (N - 64 * i)) := ⟨_, hid_in rfl⟩
      have hm : min (64 : Int) ((N - 64 * i : Nat) : Int) = (E : Int) := by rw [HE.out]; omega
      have hE1 : 64 * i + E ≤ N := by rw [HE.out]; omega
      have hcs2 : ∀ m, (wr.drewN m).cell? ⟨sb, 0, none⟩ = some (.slice (some ⟨b, 0, none⟩) N C) := fun m => by simpa using hcs
      gi_wp2
      gi_quiet (fail)
      gi_wp2
      have hyy := HY.out (List.range i) i (wr.drewN nq) (HJd.out _ _ _ hJ.out) (by simpa using hik)
      rw [show pcV b N i = #[.slice (some ⟨b, 64 * i, none⟩) E E] by rw [HE.out]; rfl] at hyy
      obtain ⟨fn, tmps, assign, body, hy2, hR⟩ := hyy
      rw [hy2]
      gi_wp2
      refine hR.mono ?_
      rintro e W3 (⟨rfl, hJ3, hk3⟩ | ⟨rfl, hJx3⟩)
      · have hcs3 := hk3.1 _ (hcs2 nq)
        have hcn3 := hk3.2 (.int .i64 64) (by simpa using hcn)
        have HJ3 := hid_in hJ3
        clear hk3 hJ3 hR hy2 hcs hcn
        gi_wp2
        go_roundw
        case rel => exact ⟨i + 1, hik, by go_num, by show J _ _; rw [List.range_succ]; exact HJ3.out, hcs3, hcn3⟩
        case measure => simp [intOf]; omega
      · gi_wp2
        refine bodyPost_ret (results_none rfl _ _ _) rfl ?_
        refine ⟨⟨_, rfl⟩, .inr ⟨List.range i ++ [i], ?_, hJx3⟩⟩
        rw [← List.range_succ]
        exact range_pre hik
    · have hge : ¬ ((64 * i : Nat) : Int) < (N : Int) := by omega
      gi_wp2
      go_end0
      have hk : i = pcs N := by unfold pcs at *; omega
      exact ⟨⟨_, rfl⟩, .inl (by rw [← hk]; exact hJ.out)⟩
theorem chunk_stops (n : Nat) (hn : 1 ≤ n) (sb nb b N C : Nat) (p : Option Addr) (hp : 0 < N → p = some ⟨b, 0, none⟩) (hN : N ≤ 1048576) (hNC : N ≤ C) (hC : C ≤ 9223372036854775807) (w : World) (hsb : sb < w.heap.size) (hnb : nb < w.heap.size) (hs : w.cell? ⟨sb, 0, none⟩ = some (.slice p N C)) (hc : w.cell? ⟨nb, 0, none⟩ = some (.int .i64 64)) :
    SeqStopsK Fence.wide n Tryz.prog 160 #[.pointer (some ⟨sb, 0, none⟩), .pointer (some ⟨nb, 0, none⟩)] (pcV b N) (KpC sb nb) (fun ys => ys = List.range (pcs N)) (fun pre => pre <+: List.range (pcs N)) (pcs N) w := fun l J Jx W hW hJ _ hY h0 =>
  chunk1_in n hn l sb nb b N C p hp hN hNC hC J Jx (fun s W m h => hJ s W _ none h (Vp.grown_drewN W m) (fun r e => by cases e)) hY W ((hW.cell (p := ⟨sb, 0, none⟩) hsb).trans hs) ((hW.cell (p := ⟨nb, 0, none⟩) hnb).trans hc) h0
end Go.Proofs.YtamaejlbojbbeaaGreatDoor.Tr
namespace Go.Proofs.YtamaejlbojbbeaaGreatDoor.Tr
open Go.RowKit Go.Shelf
open Sb (hid_in Row Sl T5 BL u8v Tab wp_world grownBy_setCell below_of_grown info39 one_u8 splice_all)
attribute [local go_sem] Oper.semAt_some
theorem conv_str (w : World) (S : ByteArray) (hS : S.size ≤ 140737488355328) : ∃ C w', (convert 9 51 (.string S)).run Tryz.prog w = .ok (.slice (some ⟨w.heap.size, 0, none⟩) S.size C) w' ∧ Below w.heap.size w w' ∧ Sl w' (some ⟨w.heap.size, 0, none⟩) (Nd.bytesS S) C w.heap.size 0 ∧ T5 w' w.heap.size ∧ w'.heap.size = w.heap.size + 1 := by
  have hr := Lib.run_convert_string_bytes (P := Tryz.prog) w 9 51 5 S Tryz.underlying9 Tryz.underlying51 Tryz.underlying5
  have hc : grownCap w S.size 0 5 ≤ maxLen := grownCap_le_maxLen w S.size 0 5 (by unfold maxLen; omega)
  have hg : S.size ≤ grownCap w S.size 0 5 := grownCap_ge w _ _ _
  unfold maxLen at hc
  refine ⟨_, _, hr, ⟨rfl, rfl, rfl, by rw [Lib.bytesWorld_size]; omega, fun k hk => Lib.bytesWorld_at_old w 5 S k hk⟩, ⟨Nd.bytesS_lt S, by rw [Nd.bytesS_length]; exact hg, by omega, fun _ => rfl, fun j hj => ?_⟩, ⟨_, _, Lib.bytesWorld_at_new w 5 S⟩, Lib.bytesWorld_size w 5 S⟩
  rw [Nd.bytesS_length] at hj
  rw [Nat.zero_add, Lib.bytesWorld_cell w 5 S j hj]
  have hj2 : j < S.data.size := hj
  simp [Nd.bytesS, u8v]
  rw [Array.getElem?_eq_getElem hj2]
  rfl
/-- a piece of some bytes -/
def pieceL (d : List Nat) (i : Nat) : List Nat := (d.drop (64 * i)).take 64
def chunkN (x : List Nat) : Nd.Nd := ⟨1, Sb.str x, 0, [], []⟩
def pieceB (d : List Nat) (i : Nat) : List Nat := encB (chunkN (pieceL d i))
def fileN (d : List Nat) (is : List Nat) : Nd.Nd := ⟨2, ByteArray.empty, d.length, is.map fun i => Sb.Sha.sum (pieceB d i), []⟩
theorem pieceL_len (d : List Nat) (i : Nat) : (pieceL d i).length = min 64 (d.length - 64 * i) := by simp [pieceL]
theorem sl_piece {w : World} {b C : Nat} {p : Option Addr} {d : List Nat} (h : Sl w p d C b 0) (i : Nat) : Sl w (some ⟨b, 64 * i, none⟩) (pieceL d i) (min 64 (d.length - 64 * i)) b (64 * i) := by
  refine ⟨fun x hx => h.lt x (List.mem_of_mem_drop (List.mem_of_mem_take hx)), by rw [pieceL_len]; exact Nat.le_refl _, by omega, fun _ => rfl, fun j hj => ?_⟩
  rw [pieceL_len] at hj
  have e := h.src (64 * i + j) (by omega)
  rw [Nat.zero_add] at e
  rw [e]
  congr 2
  simp only [pieceL, List.getD_eq_getElem?_getD]
  rw [List.getElem?_take_of_lt (by omega), List.getElem?_drop]
theorem chunkN_is (W : World) (x : List Nat) : Nd.IsN W (.agg #[.int .i64 1, .string (Sb.str x), .int .i64 0, .slice none 0 0, .slice none 0 0]) (chunkN x) :=
  ⟨⟨_, _, rfl, Nd.Els.nil W 32, Nd.Els.nil W 34⟩, ⟨fun d h => (by cases h), fun d h => (by cases h), Nd.i64_1, Nd.i64_0⟩⟩
theorem chunkN_short (x : List Nat) (h : x.length ≤ 1000) : (chunkN x).short := ⟨by show (Sb.str x).size ≤ _; simp [Sb.str, ByteArray.size]; omega, fun y h => by cases h⟩
theorem info30h : ∃ i z, Hid (Tryz.prog.info? 30 = some i) ∧ Hid (i.size = 32) ∧ Hid (i.bytes = 32) ∧ Hid (i.zero = some z) ∧ Hid (z.cells.size = 32) := by
  obtain ⟨i, h1, h2, h3, h4⟩ := Nd.info49h
  obtain ⟨z, h5, h6⟩ := h4.out
  exact ⟨i, z, h1, h2, h3, h5, h6⟩
theorem own_block {w : World} {base n size : Nat} {e : TypeId} {v : Value} {xs : List Value} (h : w.ownsRow base e size v n xs) (k : Nat) (hk : v.ownBlock = some k) : base ≤ k ∧ ∃ cs fr, w.heap[k]? = some (.cells cs e fr) := by
  rcases h.2 with ⟨rfl, _⟩ | ⟨g, cap, cur, rfl, hb, hg, _⟩
  · cases hk
  · obtain rfl : g = k := by simpa [Value.ownBlock] using hk
    exact ⟨hb, _, _, hg⟩
theorem own_grown {w w' : World} {base n size : Nat} {e : TypeId} {v : Value} {xs : List Value} (h : w.ownsRow base e size v n xs) {row : Option Nat} (hg : w.grownBy w' row) (hr : ∀ k, row = some k → v.ownBlock ≠ some k) : w'.ownsRow base e size v n xs := by
  refine World.ownsRow.kept h hg ?_
  rcases h.2 with ⟨rfl, _⟩ | ⟨g', cap, cur, rfl, _⟩
  · exact .inl rfl
  · refine .inr (fun e => ?_)
    exact hr g' (by rw [← e]; rfl) rfl
theorem typed_ne {w : World} {a b : Nat} {ca cb : Array Value} {ta tb : TypeId} {fa fb : Nat × Nat} (ha : w.heap[a]? = some (.cells ca ta fa)) (hb : w.heap[b]? = some (.cells cb tb fb)) (h : ta ≠ tb) : a ≠ b := by
  rintro rfl
  rw [ha] at hb
  cases hb
  exact h rfl
theorem kept_typed {w w' : World} {b : Nat} {cs : Array Value} {t : TypeId} {fr : Nat × Nat} {row : Option Nat} (hb : w.heap[b]? = some (.cells cs t fr)) (hg : w.grownBy w' row) (hr : ∀ k, row = some k → b ≠ k) : w'.heap[b]? = some (.cells cs t fr) := by
  rw [hg.block b (Array.getElem?_eq_some_iff.1 hb).1 (fun e => hr b e.symm rfl)]; exact hb
/-- between two rounds -/
structure FI (w : World) (base g : Nat) (L : List (List Nat)) (d : List Nat) (Z : List Value) (bb C sb nb : Nat) (pre : List Nat) (W : World) : Prop where
  box : Boxed W w.heap.size 174 (.pointer (some ⟨g, 0, none⟩))
  res : Row W (w.heap.size + 1) Z 30
  nd : ∃ v, Row W (w.heap.size + 2) [.int .i64 2, .string ⟨#[]⟩, .int .i64 d.length, v, .slice none 0 0] 108 ∧ W.ownsRow (w.heap.size + 3) 30 32 v pre.length (pre.map fun i => (Sb.Sha.sum (pieceB d i)).map u8v).flatten
  bt : Bt W base g (L ++ pre.map (pieceB d))
  fr : Fr (fun _ => False) g w W
  sl : Sl W (some ⟨bb, 0, none⟩) d C bb 0
  t5 : T5 W bb
  tab : Tab W
  apart : ¬ ownB W g sb
  sbx : Boxed W sb 51 (.slice (some ⟨bb, 0, none⟩) d.length C)
  nbx : Boxed W nb 3 (.int .i64 64)
theorem sl_block {w w' : World} {p : Option Addr} {bs : List Nat} {cap b off : Nat} (h : Sl w p bs cap b off) (hb : w'.heap[b]? = w.heap[b]?) : Sl w' p bs cap b off := by
  refine ⟨h.lt, h.cap1, h.cap2, h.at_, fun j hj => ?_⟩
  have e := h.src j hj
  unfold World.cell? at *
  simp only [hb]
  exact e
theorem FI.sz {w : World} {base g : Nat} {L : List (List Nat)} {d : List Nat} {Z : List Value} {bb C sb nb : Nat} {pre : List Nat} {W : World} (h : FI w base g L d Z bb C sb nb pre W) (_hg : g < w.heap.size) : w.heap.size + 3 ≤ W.heap.size := by
  obtain ⟨v, hr, _⟩ := h.nd
  have := hr.lt
  omega
/-- a block that is neither the batch's nor of another's is written -/
theorem FI.grown {w : World} {base g : Nat} {L : List (List Nat)} {d : List Nat} {Z : List Value} {bb C sb nb : Nat} {pre : List Nat} {X Y : World} (h : FI w base g L d Z bb C sb nb pre X) (hgw : g < w.heap.size) (hb0 : 0 < base) (hbase : base ≤ w.heap.size) {row : Option Nat} (hg : X.grownBy Y row) (hr : ∀ r, row = some r → w.heap.size ≤ r ∧ ∃ o : Obj, X.heap[r]? = some o ∧ o.isCells = false) : FI w base g L d Z bb C sb nb pre Y := by
  have key : ∀ (b : Nat) (cs : Array Value) (t : TypeId) (fr : Nat × Nat), X.heap[b]? = some (.cells cs t fr) → Y.heap[b]? = some (.cells cs t fr) := by
    intro b cs t fr hb
    refine kept_typed hb hg (fun k e => ?_)
    rintro rfl
    obtain ⟨_, o, h1, h2⟩ := hr _ e
    rw [hb] at h1; cases h1; cases h2
  obtain ⟨v, hnr, hown⟩ := h.nd
  have hgl : g < X.heap.size := Nat.lt_of_lt_of_le hgw h.fr.size
  refine ⟨key _ _ _ _ h.box, key _ _ _ _ h.res, ⟨v, key _ _ _ _ hnr, own_grown hown hg (fun k e hk => ?_)⟩, h.bt.other hg (fun k e => ?_), ?_, ?_, ?_, ?_, fun e => h.apart (row_back ?_ e), key _ _ _ _ h.sbx, key _ _ _ _ h.nbx⟩
  · obtain ⟨_, o, h1, h2⟩ := hr k e
    obtain ⟨_, cs, fr, h3⟩ := own_block hown k hk
    rw [h3] at h1; cases h1; cases h2
  · obtain ⟨h0, o, h1, h2⟩ := hr k e
    refine ⟨fun e => by omega, fun ⟨cs, fr, h3⟩ => ?_, fun ⟨cs, fr, h3⟩ => ?_⟩
    · rw [h3] at h1; cases h1; cases h2
    · rw [h3] at h1; cases h1; cases h2
  · cases row with
    | none => exact h.fr.trans (Fr.of_below ⟨hg.os, hg.tape, hg.output, hg.size, fun k hk => hg.block k hk (by simp)⟩ hgl)
    | some r => exact h.fr.of_new hg (hr r rfl).1 hgw
  · obtain ⟨cs, fr, e⟩ := h.t5
    exact sl_block h.sl (by rw [key _ _ _ _ e, e])
  · obtain ⟨cs, fr, e⟩ := h.t5
    exact ⟨cs, fr, key _ _ _ _ e⟩
  · refine h.tab.grown hg (fun e => ?_)
    have := (hr 0 e.symm).1
    omega
  · obtain ⟨v', cs, hr', _⟩ := h.bt.ex
    rw [key _ _ _ _ hr', hr']
end Go.Proofs.YtamaejlbojbbeaaGreatDoor.Tr
namespace Go.Proofs.YtamaejlbojbbeaaGreatDoor.Tr
open Go.RowKit
theorem below_drew (W : World) : Below W.heap.size W W.drew := below_drewN (Below.refl _ _) 1
end Go.Proofs.YtamaejlbojbbeaaGreatDoor.Tr
namespace Go.Proofs.YtamaejlbojbbeaaGreatDoor.Tr
open Go.RowKit Go.Shelf
open Sb (hid_in Row Sl T5 BL u8v Tab wp_world grownBy_setCell below_of_grown info39 one_u8 splice_all)
/-- what the round's reads want -/
def SF (w : World) (g : Nat) (d : List Nat) (bb C : Nat) (W : World) : Prop := Boxed W w.heap.size 174 (.pointer (some ⟨g, 0, none⟩)) ∧ Sl W (some ⟨bb, 0, none⟩) d C bb 0
theorem file_step {w : World} {base g : Nat} {L : List (List Nat)} {d : List Nat} {Z : List Value} {bb C sb nb : Nat} {pre : List Nat} {x : Nat} {W w7 : World} (hI : FI w base g L d Z bb C sb nb pre W) (hgw : g < w.heap.size) (hb0 : 0 < base)
    {q : Option Addr} {cq : Nat} (hnr : Row W (w.heap.size + 2) [.int .i64 2, .string ⟨#[]⟩, .int .i64 d.length, .slice q pre.length cq, .slice none 0 0] 108) (hown : W.ownsRow (w.heap.size + 3) 30 32 (.slice q pre.length cq) pre.length (pre.map fun i => (Sb.Sha.sum (pieceB d i)).map u8v).flatten)
    {PV : List Value} (hPV : PV = (Sb.Sha.sum (pieceB d x)).map u8v) (hbt7 : Bt w7 base g (L ++ pre.map (pieceB d) ++ [pieceB d x])) (hfr7 : Fr (fun _ => False) g W.drew w7) (hlen : pre.length ≤ 100) :
    w7.cell? ⟨w.heap.size + 1 + 1, 3, none⟩ = some (.slice q pre.length cq) ∧ ∃ q8 c8 w8, (Builtin.append_ #[48, 48] 48 #[.slice q pre.length cq, .slice (some ⟨w7.heap.size, 0, none⟩) 1 1]).run Tryz.prog (w7.alloc (.cells PV.toArray 30)) = .ok (.slice q8 (pre.length + 1) c8) w8 ∧
      w8.cell? ⟨w.heap.size + 1 + 1, 3, none⟩ = some (.slice q pre.length cq) ∧ w8.frozen? ⟨w.heap.size + 1 + 1, 3, none⟩ = false ∧ (SF w g d bb C w7 ∧ SF w g d bb C (w7.alloc (.cells PV.toArray 30)) ∧ SF w g d bb C w8) ∧ FI w base g L d Z bb C sb nb (pre ++ [x]) (w8.setCell ⟨w.heap.size + 1 + 1, 3, none⟩ (.slice q8 (pre.length + 1) c8)) ∧ KeepsOthers W (w8.setCell ⟨w.heap.size + 1 + 1, 3, none⟩ (.slice q8 (pre.length + 1) c8)) := by
  have hbtW := hI.bt.below (below_drew W)
  have hvl : PV.length = 32 := by rw [hPV, List.length_map, Sb.sum_length]
  have hv1 : ∀ v ∈ PV, v.oneCell' = true := by rw [hPV]; exact one_u8 _
  obtain ⟨i30, z30, hi, hs, hb, hz, hzc⟩ := info30h
  have k7 : ∀ {b : Nat} {cs : Array Value} {t : TypeId} {fr : Nat × Nat}, W.heap[b]? = some (.cells cs t fr) → t ≠ 51 → t ≠ 97 → w7.heap[b]? = some (.cells cs t fr) := fun h h1 h2 => hfr7.typed hbtW h h1 h2 (fun e => e.elim)
  have hsb7 : Boxed w7 sb 51 (.slice (some ⟨bb, 0, none⟩) d.length C) := by
    refine (hfr7.block sb hI.sbx.lt (fun e => e) (fun e => ?_) (fun e => hI.apart (row_back rfl e))).trans hI.sbx
    subst e
    obtain ⟨v', cs, hr', _⟩ := hI.bt.ex
    have h1 := hI.sbx
    unfold Boxed at h1
    rw [show W.heap[sb]? = _ from hr'] at h1
    cases h1
  have hown7 : w7.ownsRow (w.heap.size + 3) 30 32 (.slice q pre.length cq) pre.length (pre.map fun i => (Sb.Sha.sum (pieceB d i)).map u8v).flatten := by
    refine ⟨hown.1, ?_⟩
    rcases hown.2 with h | ⟨g', cap, cur, h1, h2, h3, h4⟩
    · exact .inl h
    · exact .inr ⟨g', cap, cur, h1, h2, k7 h3 (by decide) (by decide), h4⟩
  have hsz7 : w.heap.size + 3 ≤ w7.heap.size := Nat.le_trans (hI.sz hgw) hfr7.size
  have hga : w7.grownBy (w7.alloc (.cells PV.toArray 30)) none := grown_of_below ((Below.refl w7.heap.size w7).alloc (Nat.le_refl _) (.cells PV.toArray 30))
  have hown7a := own_grown hown7 hga (fun k e => by cases e)
  obtain ⟨v8, w8, hr8, hown8, hg8, _, hlie8⟩ := run_append_own_at (P := Tryz.prog) (w7.alloc (.cells PV.toArray 30)) (w.heap.size + 3) 48 48 30 i30 z30 32 32 Tryz.underlying48 hi.out hz.out hs.out hb.out hzc.out (by decide) _ _ _ hown7a ⟨w7.heap.size, 0, none⟩ 1 1 PV (by rw [hvl]) (World.news_of_block (heap_alloc_new w7 _)) hv1 (by unfold maxLen; omega) (by omega) (by simp; omega)
  obtain ⟨q8, c8, rfl⟩ := own_shape hown8
  have hnr7 : Row w7 (w.heap.size + 2) _ 108 := k7 hnr (by decide) (by decide)
  have hoB : ∀ k, (Value.slice q pre.length cq).ownBlock = some k → ∃ cs fr, (w7.alloc (.cells PV.toArray 30)).heap[k]? = some (.cells cs 30 fr) ∧ w.heap.size + 3 ≤ k := fun k e => by
    obtain ⟨h1, cs, fr, h2⟩ := own_block hown7a k e
    exact ⟨cs, fr, h2, h1⟩
  have ka : ∀ {b : Nat} {o : Obj}, w7.heap[b]? = some o → (w7.alloc (.cells PV.toArray 30)).heap[b]? = some o := fun {b o} h => (Below.heap_alloc _ _ _ (Array.getElem?_eq_some_iff.1 h).1).trans h
  have k8 : ∀ {b : Nat} {cs : Array Value} {t : TypeId} {fr : Nat × Nat}, w7.heap[b]? = some (.cells cs t fr) → t ≠ 30 → w8.heap[b]? = some (.cells cs t fr) := fun h h1 => kept_typed (ka h) hg8 (fun k e => by
    obtain ⟨cs', fr', h2, _⟩ := hoB k e
    exact typed_ne (ka h) h2 h1)
  have hnr8 : Row w8 (w.heap.size + 2) _ 108 := k8 hnr7 (by decide)
  refine ⟨hnr7.cell 3, q8, c8, w8, hr8, hnr8.cell 3, hnr8.frozen 3, ?_, ?_, ?_⟩
  · obtain ⟨cs, fr, e⟩ := hI.t5
    have e7 := k7 e (by decide) (by decide)
    exact ⟨⟨k7 hI.box (by decide) (by decide), sl_block hI.sl (by rw [e7, e])⟩, ⟨ka (k7 hI.box (by decide) (by decide)), sl_block hI.sl (by rw [ka e7, e])⟩, ⟨k8 (k7 hI.box (by decide) (by decide)) (by decide), sl_block hI.sl (by rw [k8 e7 (by decide), e])⟩⟩
  · have hgs := grownBy_setCell w8 ⟨w.heap.size + 1 + 1, 3, none⟩ (.slice q8 (pre.length + 1) c8)
    have k9 : ∀ {b : Nat} {cs : Array Value} {t : TypeId} {fr : Nat × Nat}, w8.heap[b]? = some (.cells cs t fr) → b ≠ w.heap.size + 2 → (w8.setCell ⟨w.heap.size + 1 + 1, 3, none⟩ (.slice q8 (pre.length + 1) c8)).heap[b]? = some (.cells cs t fr) := fun h h1 => kept_typed h hgs (fun k e => by obtain rfl := Option.some.inj e; exact h1)
    have hbt8 : Bt w8 base g (L ++ pre.map (pieceB d) ++ [pieceB d x]) := (hbt7.other hga (fun k e => by cases e)).other hg8 (fun k e => by
      obtain ⟨cs', fr', h2, h3⟩ := hoB k e
      exact ⟨(by omega), (fun ⟨cs, fr, h⟩ => (by rw [h2] at h; cases h)), (fun ⟨cs, fr, h⟩ => (by rw [h2] at h; cases h))⟩)
    have hgl7 : g < w7.heap.size := by omega
    have hfr8 : Fr (fun _ => False) g w w8 := by
      have f7 : Fr (fun _ => False) g w (w7.alloc (.cells PV.toArray 30)) := (hI.fr.trans (Fr.of_below (below_drew W) (Nat.lt_of_lt_of_le hgw hI.fr.size))).trans (hfr7.trans (Fr.of_below ((Below.refl _ _).alloc (Nat.le_refl _) _) hgl7))
      cases hob : (Value.slice q pre.length cq).ownBlock with
      | none =>
        rw [hob] at hg8
        exact f7.trans (Fr.of_below ⟨hg8.os, hg8.tape, hg8.output, hg8.size, fun k hk => hg8.block k hk (by simp)⟩ (Nat.lt_of_lt_of_le hgw f7.size))
      | some k =>
        rw [hob] at hg8
        obtain ⟨_, _, _, h3⟩ := hoB k hob
        exact f7.of_new hg8 (by omega) hgw
    have hapart7 : ¬ ownB w7 g sb := fun e => hI.apart (row_back rfl (hfr7.own sb hI.sbx.lt e))
    obtain ⟨v', cs', hrg, _⟩ := hbt7.ex
    refine ⟨k9 (k8 (k7 hI.box (by decide) (by decide)) (by decide)) (by omega), ?_, ⟨.slice q8 (pre.length + 1) c8, hnr8.set_same 3 _, ?_⟩, ?_, hfr8.of_new hgs (by simp; omega) hgw, ?_, ?_, ?_, ?_, k9 (k8 hsb7 (by decide)) ?_, k9 (k8 (k7 hI.nbx (by decide) (by decide)) (by decide)) ?_⟩
    · refine k9 (kept_typed (ka (k7 hI.res (by decide) (by decide))) hg8 (fun k e => ?_)) (by omega)
      obtain ⟨_, _, _, h3⟩ := hoB k e
      omega
    · have h9 := own_grown hown8 hgs (fun k e hk => by
        obtain ⟨h1, _⟩ := own_block hown8 k hk
        have := Option.some.inj e
        simp only at this
        omega)
      rw [List.length_append, List.map_append, List.flatten_append]
      simpa [← hPV] using h9
    · rw [List.map_append, ← List.append_assoc]
      exact hbt8.other hgs (fun k e => by
        obtain rfl := Option.some.inj e
        exact ⟨by simp only; omega, not51 hnr8 (by decide), not5_97 hnr8 (by decide)⟩)
    · obtain ⟨cs, fr, e⟩ := hI.t5
      have h1 := k9 (k8 (k7 e (by decide) (by decide)) (by decide)) (typed_ne (k8 (k7 e (by decide) (by decide)) (by decide)) hnr8 (by decide))
      exact sl_block hI.sl (by rw [h1, e])
    · obtain ⟨cs, fr, e⟩ := hI.t5
      exact ⟨cs, fr, k9 (k8 (k7 e (by decide) (by decide)) (by decide)) (typed_ne (k8 (k7 e (by decide) (by decide)) (by decide)) hnr8 (by decide))⟩
    · exact ((hfr7.tab hbtW (hI.tab.below (below_drew W) hI.tab.pos) hb0 (fun k e => e.elim)).below ((Below.refl w7.heap.size w7).alloc (Nat.le_refl _) (.cells PV.toArray 30)) (by omega)).grown hg8 (fun e => by
        obtain ⟨_, _, _, h3⟩ := hoB 0 e.symm
        omega) |>.grown hgs (fun e => by have := Option.some.inj e; simp at this)
    · intro e
      have h1 : (w8.setCell ⟨w.heap.size + 1 + 1, 3, none⟩ (.slice q8 (pre.length + 1) c8)).heap[g]? = w7.heap[g]? := by
        rw [k9 (k8 hrg (by decide)) (by omega), hrg]
      exact hapart7 (row_back h1 e)
    · exact typed_ne (k8 hsb7 (by decide)) hnr8 (by decide)
    · exact typed_ne (k8 (k7 hI.nbx (by decide) (by decide)) (by decide)) hnr8 (by decide)
  · refine ⟨Nat.le_trans hfr7.size (Nat.le_trans hga.size (Nat.le_trans hg8.size (grownBy_setCell w8 _ _).size)), fun k o hk ho => ?_⟩
    have h7 : w7.heap[k]? = some o := by
      refine (hfr7.block k (Array.getElem?_eq_some_iff.1 hk).1 (fun e => e) (fun e => ?_) (fun e => ?_)).trans hk
      · subst e
        obtain ⟨v', cs, hr', _⟩ := hI.bt.ex
        rw [show W.heap[k]? = _ from hr'] at hk; cases hk; cases ho
      · obtain ⟨_, cs, fr, h⟩ := hbtW.own e
        rw [show W.heap[k]? = _ from h] at hk; cases hk; cases ho
    have h8 : w8.heap[k]? = some o := by
      refine (hg8.block k (Array.getElem?_eq_some_iff.1 (ka h7)).1 (fun e => ?_)).trans (ka h7)
      obtain ⟨cs, fr, h, _⟩ := hoB k e.symm
      rw [ka h7] at h; cases h; cases ho
    refine ((grownBy_setCell w8 ⟨w.heap.size + 1 + 1, 3, none⟩ _).block k (Array.getElem?_eq_some_iff.1 h8).1 (fun e => ?_)).trans h8
    obtain rfl := Option.some.inj e
    rw [show w8.heap[w.heap.size + 1 + 1]? = _ from hnr8] at h8; cases h8; cases ho
end Go.Proofs.YtamaejlbojbbeaaGreatDoor.Tr
namespace Go.Proofs.YtamaejlbojbbeaaGreatDoor.Tr
open Go
theorem wpOpIn_round {P : Program} {ops : Array Oper} {Q : Exit → Act → World → Prop} {l n i : Nat} {K : Act → World → Prop} {a : Act} {w : World} (hd : ∀ (j : Nat) o, ops[j]? = some o → ∀ c, o.op ≠ .defer c) (hlo : ¬ LetsOut Q)
    (h : wpOp P ops Q i K a w) : wpOpIn (Fence.wide.inRound l) n P ops Q i K a w := by
  unfold wpOp at h
  unfold wpOpIn
  cases ho : ops[i]? with
  | none => simpa [ho] using h
  | some o =>
    simp only [ho] at h ⊢
    split
    · rename_i hw
      simp only [hw, if_true] at h
      rcases h with h | ⟨_, h⟩
      · refine ⟨fun f _ => trivial, ?_⟩
        have e : (o.semAt (Fence.wide.inRound l).round a.eval) = execOp a.eval o := Oper.semAt_some l _ _ (hd i o ho)
        rw [e]
        unfold Oper.wp at h
        generalize (execOp a.eval o).run P w = r at h
        cases r with
        | ok x w' =>
          cases x with
          | value v => exact h
          | skip => exact h
          | defer d => exact h
          | enter f args => exact ⟨fun hh => (by cases hh), CallsIn.inRound l (callsIn_wide.2 h)⟩
          | row r args => exact ⟨fun hh => (by cases hh), fun c cs _ => let ⟨v, w', r, s⟩ := h c cs; ⟨v, w', r, stepsIn_wide.2 s⟩⟩
          | _ => exact h.elim
        | halt x w' => cases x <;> exact h
      · exact absurd h hlo
    · rename_i hw
      simp only [hw] at h
      exact ⟨fun f _ => trivial, h⟩
theorem wpAnyIn_round {P : Program} {ops : Array Oper} {Q : Exit → Act → World → Prop} {md : Region.Mode} {l n : Nat} (hd : ∀ (j : Nat) o, ops[j]? = some o → ∀ c, o.op ≠ .defer c) (hlo : ¬ LetsOut Q) :
    ∀ (fuel : Nat) (listed : Array Bool) (a : Act) (w : World), wpAny P md ops Q fuel listed a w → wpAnyIn (Fence.wide.inRound l) n P md ops Q fuel listed a w
  | 0, _, _, _, h => h
  | fuel + 1, _, _, _, h => ⟨h.1, fun i hi => wpOpIn_round hd hlo (wpOp_mono (fun a' w' h' => wpAnyIn_round hd hlo fuel _ a' w' h') (h.2 i hi))⟩
theorem region_round {P : Program} {ops : Array Oper} {Q : Exit → Act → World → Prop} {S : World → Prop} {l n id : Nat} {a : Act} {w : World} (hm : P.follows .mixedOrders = true) (hd : ∀ (j : Nat) o, ops[j]? = some o → ∀ c, o.op ≠ .defer c) (hlo : ¬ LetsOut Q) (hS : S w.drew)
    (h : S w.drew → wpAnyH P .any ops Q S ops.size (Array.replicate ops.size false) a w.drew) : (Code.region id ops true).wpIn (Fence.wide.inRound l) n P Q a w :=
  wpIn_region_any hm (wpAnyIn_round hd hlo _ _ _ _ (wpAny_of_held _ _ _ _ (h hS)))
theorem no_defer {ops : Array Oper} (h : ops.all (fun o => match o.op with | .defer _ => false | _ => true) = true) : ∀ (j : Nat) o, ops[j]? = some o → ∀ c, o.op ≠ .defer c := by
  intro j o ho c e
  have := (Array.all_eq_true_iff_forall_mem.1 h) o (Array.mem_of_getElem? ho)
  rw [e] at this
  cases this
end Go.Proofs.YtamaejlbojbbeaaGreatDoor.Tr
