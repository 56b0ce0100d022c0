/-
  The walks of wire.word, wire.valueOf, bytes.Clone, slices.Grow (of nothing) and slices.Concat.
-/
import Derived.Test.YtjaplfdcdokhfaaS1
import Derived.Lib.AppendZeros
import Derived.Deep.DrawnRows
namespace Go.Proofs.Ytjaplfdcdokhfaa
open Go.RowKit

theorem i5 : (Try.prog.info? 5).map (fun i => (i.size, i.bytes, i.zero)) = some (1, 1, some (.int .u8 0)) := by kernel_rfl

theorem word_any (n : Nat) (hn : n < 4294967296) (w : World) :
    Calls Try.prog 51 #[.int .u32 (n : Int)] w fun e w' => e = .returned (.slice (some ⟨w.heap.size, 0, none⟩) 4 4) ∧ w' = w.alloc (.cells ((Wire.four n).map u8v).toArray 5) := by
  go_enter Try.func51, Try.ntmps51
  go_wp2
  go_ret
  refine ⟨rfl, ?_⟩
  have e0 : (n : Int) % 256 = ((n % 256 : Nat) : Int) := by omega
  have e1 : (n : Int) / 256 % 256 = ((n / 256 % 256 : Nat) : Int) := by omega
  have e2 : (n : Int) / 65536 % 256 = ((n / 65536 % 256 : Nat) : Int) := by omega
  have e3 : (n : Int) / 16777216 = ((n / 16777216 % 256 : Nat) : Int) := by omega
  rw [e0, e1, e2, e3]
  rfl
theorem or_join32 (i x y : Nat) (hx : x % 2 ^ i = 0) (hy : y < 2 ^ i) (hx' : x < 4294967296) (hy' : y < 4294967296) : bits .or .u32 (x : Int) (y : Int) = ((x + y : Nat) : Int) := by
  rw [u32_or_nat _ _ hx' hy', nat_join i x y hx hy]
theorem val_form (x0 x1 x2 x3 : Nat) (b0 : x0 < 256) (b1 : x1 < 256) (b2 : x2 < 256) (b3 : x3 < 256) :
    bits .or .u32 (bits .or .u32 (bits .or .u32 (x0 : Int) ((x1 : Int) * 256)) ((x2 : Int) * 65536)) ((x3 : Int) * 16777216) = ((x0 + x1 * 256 + x2 * 65536 + x3 * 16777216 : Nat) : Int) := by
  have e1 : (x1 : Int) * 256 = ((x1 * 256 : Nat) : Int) := by simp
  have e2 : (x2 : Int) * 65536 = ((x2 * 65536 : Nat) : Int) := by simp
  have e3 : (x3 : Int) * 16777216 = ((x3 * 16777216 : Nat) : Int) := by simp
  have j1 : x0 ||| x1 * 256 = x0 + x1 * 256 := by rw [Nat.or_comm, nat_join 8 _ _ (by omega) (by omega)]; omega
  have j2 : (x0 + x1 * 256) ||| x2 * 65536 = x0 + x1 * 256 + x2 * 65536 := by rw [Nat.or_comm, nat_join 16 _ _ (by omega) (by omega)]; omega
  have j3 : (x0 + x1 * 256 + x2 * 65536) ||| x3 * 16777216 = x0 + x1 * 256 + x2 * 65536 + x3 * 16777216 := by rw [Nat.or_comm, nat_join 24 _ _ (by omega) (by omega)]; omega
  rw [e1, e2, e3, u32_or_nat _ _ (by omega) (by omega), j1, u32_or_nat _ _ (by omega) (by omega), j2, u32_or_nat _ _ (by omega) (by omega), j3]
set_option maxHeartbeats 1000000 in
theorem value_any (bs : List Nat) (p : Option Addr) (cap b off : Nat) (w : World) (hsl : Sl w p bs cap b off) (h4 : 4 ≤ bs.length) :
    Calls Try.prog 54 #[.slice p bs.length cap] w fun e w' => e = .returned (.int .u32 ((Wire.val bs : Nat) : Int)) ∧ ∃ m, w' = w.drewN m := by
  obtain rfl := hsl.at_ (by omega)
  have c0 : w.cell? ⟨b, off, none⟩ = some (.int .u8 ((bs.getD 0 0 : Nat) : Int)) := hsl.src 0 (by omega)
  have c1 : w.cell? ⟨b, off + 1, none⟩ = some (.int .u8 ((bs.getD 1 0 : Nat) : Int)) := hsl.src 1 (by omega)
  have c2 : w.cell? ⟨b, off + 2, none⟩ = some (.int .u8 ((bs.getD 2 0 : Nat) : Int)) := hsl.src 2 (by omega)
  have c3 : w.cell? ⟨b, off + 3, none⟩ = some (.int .u8 ((bs.getD 3 0 : Nat) : Int)) := hsl.src 3 (by omega)
  have b0 : bs.getD 0 0 < 256 := getD_lt hsl.lt 0
  have b1 : bs.getD 1 0 < 256 := getD_lt hsl.lt 1
  have b2 : bs.getD 2 0 < 256 := getD_lt hsl.lt 2
  have b3 : bs.getD 3 0 < 256 := getD_lt hsl.lt 3
  have HV : Hid (Wire.val bs = bs.getD 0 0 + bs.getD 1 0 * 256 + bs.getD 2 0 * 65536 + bs.getD 3 0 * 16777216) := rfl
  generalize bs.getD 0 0 = x0 at c0 b0 HV
  generalize bs.getD 1 0 = x1 at c1 b1 HV
  generalize bs.getD 2 0 = x2 at c2 b2 HV
  generalize bs.getD 3 0 = x3 at c3 b3 HV
  have k1 : (3 : Int) < (bs.length : Int) := by omega
  have k2 : (2 : Int) < (bs.length : Int) := by omega
  have k3 : (1 : Int) < (bs.length : Int) := by omega
  have k4 : (0 : Int) < (bs.length : Int) := by omega
  have hvf := val_form x0 x1 x2 x3 b0 b1 b2 b3
  clear hsl
  go_enter Try.func54, Try.ntmps54
  go_wp2
  go_quiet (fail)
  go_wp2
  go_ret
  rw [HV.out]
  exact ⟨rfl, _, rfl⟩
end Go.Proofs.Ytjaplfdcdokhfaa
