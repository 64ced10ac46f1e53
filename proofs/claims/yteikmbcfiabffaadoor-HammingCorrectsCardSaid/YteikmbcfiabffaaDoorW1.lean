/- What the package's small functions return. -/
import Derived.Test.YteikmbcfiabffaaDoorM2
import Derived.Test.YteikmbcfiabffaaDoorM3
import Derived.Test.YteikmbcfiabffaaDoorSh
import Derived.Test.YteikmbcfiabffaaDoorRows
import Derived.WalkKit
import Derived.Laws.Bits64
import Derived.Laws.Bits64b
import Derived.Laws.Rows
import Derived.Lib.Hide
import Derived.Lib.LaidTab
import Derived.WalkLawsBesides
import Derived.IntWalk
namespace Go.Proofs.YteikmbcfiabffaaDoor
open Go.RowKit Go.Shelf
namespace Hm
set_option linter.unusedVariables false

def pop (w : Nat) : Nat := ones 64 w
def sy (w : Nat) : Nat := syn 64 w
theorem pop_le (w : Nat) : pop w ≤ 64 := ones_le 64 w
theorem sy_lt (w : Nat) : sy w < 64 := syn_lt 64 w (by decide)

theorem and_c (a b : Nat) (ha : a < 18446744073709551616) (hb : b < 18446744073709551616) (A B : Int) (eA : A = (a : Int)) (eB : B = (b : Int)) : bits .and .u64 A B = ((a &&& b : Nat) : Int) := by
  subst eA eB; exact bits_and_u64_nat a b ha hb

theorem ret_int {k : IntKind} {a b : Int} (h : a = b) : Ending.returned (.int k a) = .returned (.int k b) := by rw [h]

theorem wrap_u64_of {n : Int} {m : Nat} (h : n = (m : Int)) (hm : m < 18446744073709551616) : IntKind.u64.wrap n = (m : Int) := by
  rw [IntKind.wrap_u64, h]
  omega
theorem ofInt_wrap64 (v : Nat) (hv : v < 18446744073709551616) : (BitVec.ofInt 64 (wrap64 (v : Int))).toNat = v := by
  unfold wrap64
  simp only [BitVec.toNat_ofInt]
  omega
theorem and127 (v : Nat) (hv : v < 18446744073709551616) : bits .and .i64 (wrap64 (v : Int)) 127 = ((v % 128 : Nat) : Int) := by
  show IntKind.i64.wrap ((BitVec.ofInt 64 (wrap64 (v : Int)) &&& BitVec.ofInt 64 127).toNat : Int) = _
  rw [BitVec.toNat_and, ofInt_wrap64 v hv, show (BitVec.ofInt 64 127).toNat = 2 ^ 7 - 1 by decide, Nat.and_two_pow_sub_one_eq_mod]
  exact IntWalk.i64_in _ (by omega)
theorem ofInt_small (v : Nat) (hv : v < 9223372036854775808) : (BitVec.ofInt 64 (v : Int)).toNat = v := by
  rw [BitVec.ofInt_natCast, BitVec.toNat_ofNat]; exact Nat.mod_eq_of_lt (by omega)
theorem and_i64 (a b : Nat) (ha : a < 9223372036854775808) (hb : b < 9223372036854775808) : bits .and .i64 (a : Int) (b : Int) = ((a &&& b : Nat) : Int) := by
  have : a &&& b < 2 ^ 63 := Nat.and_lt_two_pow _ (by omega)
  show IntKind.i64.wrap ((BitVec.ofInt 64 (a : Int) &&& BitVec.ofInt 64 (b : Int)).toNat : Int) = _
  rw [BitVec.toNat_and, ofInt_small a ha, ofInt_small b hb]
  exact IntWalk.i64_in _ (by omega)
theorem xor_i64 (a b : Nat) (ha : a < 9223372036854775808) (hb : b < 9223372036854775808) : bits .xor .i64 (a : Int) (b : Int) = ((a ^^^ b : Nat) : Int) := by
  have : a ^^^ b < 2 ^ 63 := Nat.xor_lt_two_pow (by omega) (by omega)
  show IntKind.i64.wrap ((BitVec.ofInt 64 (a : Int) ^^^ BitVec.ofInt 64 (b : Int)).toNat : Int) = _
  rw [BitVec.toNat_xor, ofInt_small a ha, ofInt_small b hb]
  exact IntWalk.i64_in _ (by omega)

set_option maxHeartbeats 1000000 in
theorem count_any (x : Nat) (w : World) (hx : x < 18446744073709551616) :
    Calls Tryd.prog 26 #[.int .u64 (x : Int)] w fun e w' => e = .returned (.int .i64 (pop x : Int)) ∧ w = w' := by
  have hp : ones 64 x = pop x := rfl
  obtain ⟨y1, y2, y3, h1, b1, h2, b2, h3, b3, b4, b5, h6⟩ := swar x hx
  have m1 : (6148914691236517205 : Nat) < 18446744073709551616 := by decide
  have m2 : (3689348814741910323 : Nat) < 18446744073709551616 := by decide
  have m3 : (1085102592571150095 : Nat) < 18446744073709551616 := by decide
  have k1 : IntKind.u64.wrap (bits .and .u64 ((x : Int) / 2) 6148914691236517205 + bits .and .u64 (x : Int) 6148914691236517205) = (y1 : Int) := by
    rw [and_c (x / 2) 6148914691236517205 (by omega) m1 ((x : Int) / 2) 6148914691236517205 (by omega) (by omega), and_c x 6148914691236517205 hx m1 x 6148914691236517205 rfl (by omega)]
    refine wrap_u64_of ?_ b1
    rw [← h1]; rfl
  have b2' : y2 < 18446744073709551616 := by omega
  have k2 : IntKind.u64.wrap (bits .and .u64 ((y1 : Int) / 4) 3689348814741910323 + bits .and .u64 (y1 : Int) 3689348814741910323) = (y2 : Int) := by
    rw [and_c (y1 / 4) 3689348814741910323 (by omega) m2 ((y1 : Int) / 4) 3689348814741910323 (by omega) (by omega), and_c y1 3689348814741910323 b1 m2 y1 3689348814741910323 rfl (by omega)]
    refine wrap_u64_of ?_ b2'
    rw [← h2]; rfl
  have k3 : bits .and .u64 (IntKind.u64.wrap ((y2 : Int) / 16 + (y2 : Int))) 1085102592571150095 = (y3 : Int) := by
    rw [wrap_u64_of (m := y2 / 16 + y2) (by omega) b2, and_c _ 1085102592571150095 b2 m3 ((y2 / 16 + y2 : Nat) : Int) 1085102592571150095 rfl (by omega), ← h3]; rfl
  have hz : ∃ z, z = y3 + y3 / 256 := ⟨_, rfl⟩
  obtain ⟨z, hz⟩ := hz
  rw [← hz] at b3 b4 b5 h6
  obtain ⟨t, ht⟩ : ∃ t, t = z + z / 65536 := ⟨_, rfl⟩
  rw [← ht] at b4 b5 h6
  obtain ⟨v, hv⟩ : ∃ v, v = t + t / 4294967296 := ⟨_, rfl⟩
  rw [← hv] at b5 h6
  have k4 : IntKind.u64.wrap ((y3 : Int) + (y3 : Int) / 256) = (z : Int) := wrap_u64_of (by omega) b3
  have k5 : IntKind.u64.wrap ((z : Int) + (z : Int) / 65536) = (t : Int) := wrap_u64_of (by omega) b4
  have k6 : IntKind.u64.wrap ((t : Int) + (t : Int) / 4294967296) = (v : Int) := wrap_u64_of (by omega) b5
  have k7 := and127 v b5
  rw [h6, hp] at k7
  clear h1 h2 h3 b1 b2 b2' b3 b4 b5 h6 hz ht hv m1 m2 m3 hx hp
  go_enter Tryd.func26, Tryd.ntmps26
  go_wp2
  go_ret
  exact ⟨rfl, rfl⟩

end Hm
end Go.Proofs.YteikmbcfiabffaaDoor
