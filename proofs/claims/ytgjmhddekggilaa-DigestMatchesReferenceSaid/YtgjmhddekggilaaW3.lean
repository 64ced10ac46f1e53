/- What the next functions return: tags, widths, partners, joins beside. -/
import Derived.Test.YtgjmhddekggilaaW2
import Derived.Test.YtgjmhddekggilaaM3
namespace Go.Proofs.Ytgjmhddekggilaa
open Go.RowKit
namespace Dg

theorem tag_any (key : Int) (A : Option Addr) (xs : List Int) (c : Nat) (w : World) (hlen : xs.length ≤ 4611686018427387904) (hA : Arr w A (xs.map (Value.int .i64))) :
    Calls Try.prog 17 #[.int .u64 key, .slice A xs.length c] w fun e w' => e = .returned (.int .u64 (tagI key xs)) ∧ Below w.heap.size w w' := by
  go_enter Try.func17, Try.ntmps17
  go_wp2_with (first | (go_at_call 11; refine (words_any _ _ _ _ hlen hA).mono ?_; rintro e w1 ⟨rfl, hb1⟩) | (go_at_call 29; refine (steps_one _ _ _).mono ?_; rintro e w' ⟨rfl, rfl⟩))
  go_ret
  exact ⟨rfl, hb1.alloc hb1.size _⟩

theorem width_any (n : Nat) (w : World) (h : n ≤ 4611686018427387904) : Calls Try.prog 37 #[.int .i64 n] w fun e w' => e = .returned (.int .i64 ((n + 1) / 2 : Nat)) ∧ w = w' := by
  go_enter Try.func37, Try.ntmps37
  go_wp2
  go_ret
  exact ⟨ret_int (by omega), rfl⟩

theorem partner_any (i n : Nat) (w : World) (hi : i < 4611686018427387904) :
    Calls Try.prog 39 #[.int .i64 i, .int .i64 n] w fun e w' => e = .returned (.tuple #[.int .i64 (partnerN i), .bool (decide (partnerN i < n))]) ∧ w = w' := by
  have hx := Lib.hid (xor_i64 i hi)
  go_enter Try.func39, Try.ntmps39
  go_wp2
  go_ret2
  have h := hx.out
  simp only [h]
  simp

theorem beside_any (d p : Int) (left : Bool) (w : World) : Calls Try.prog 40 #[.int .u64 d, .int .u64 p, .bool left] w fun e w' => e = .returned (.int .u64 (besideI d p left)) ∧ Below w.heap.size w w' := by
  cases left
  · go_enter Try.func40, Try.ntmps40
    go_wp2_with (go_at_call 15; refine (join_any _ _ _).mono ?_; rintro e w1 ⟨rfl, hb1⟩)
    go_ret
    exact ⟨ret_int (beside_right d p), hb1⟩
  · go_enter Try.func40, Try.ntmps40
    go_wp2_with (go_at_call 15; refine (join_any _ _ _).mono ?_; rintro e w1 ⟨rfl, hb1⟩)
    go_ret
    exact ⟨ret_int (beside_left d p), hb1⟩

theorem up_any (d p : Int) (left : Bool) (w : World) : Calls Try.prog 27 #[.int .u64 d, .int .u64 p, .bool left] w fun e w' => e = .returned (.int .u64 (besideI d p left)) ∧ w = w' := by
  cases left
  · go_enter Try.func27, Try.ntmps27
    go_wp2_with (go_at_call 16; refine (rjoin_any _ _ _).mono ?_; rintro e w' ⟨rfl, rfl⟩)
    go_ret
    exact ⟨ret_int (beside_right d p), rfl⟩
  · go_enter Try.func27, Try.ntmps27
    go_wp2_with (go_at_call 16; refine (rjoin_any _ _ _).mono ?_; rintro e w' ⟨rfl, rfl⟩)
    go_ret
    exact ⟨ret_int (beside_left d p), rfl⟩

end Dg
end Go.Proofs.Ytgjmhddekggilaa
