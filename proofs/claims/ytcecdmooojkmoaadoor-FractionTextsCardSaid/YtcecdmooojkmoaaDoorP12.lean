/- What the law's edited returns, at numbers as they come. -/
import Derived.Test.YtcecdmooojkmoaaDoorP11
namespace Go.Proofs.YtcecdmooojkmoaaDoor
open Go.RowKit Go.Shelf Go.Sort
namespace Fr
set_option linter.unusedVariables false

theorem edited_int (s : ByteArray) (x y z : Int) (w : World) (hs : s.size ≤ 1000) (hx : 0 ≤ x ∧ x ≤ 255) (hy : 0 ≤ y ∧ y ≤ 255) (hz : 0 ≤ z ∧ z ≤ 255) :
    Calls Tryd.prog 25 #[.string s, .agg #[.int .u8 x, .int .u8 y, .int .u8 z]] w (RetS w (s.size + 1)) := by
  obtain ⟨X, rfl⟩ : ∃ X : Nat, x = (X : Int) := ⟨x.toNat, by omega⟩
  obtain ⟨Y, rfl⟩ : ∃ Y : Nat, y = (Y : Int) := ⟨y.toNat, by omega⟩
  obtain ⟨Z, rfl⟩ : ∃ Z : UInt8, z = (Z.toNat : Int) := ⟨UInt8.ofNat z.toNat, by rw [UInt8.toNat_ofNat']; omega⟩
  exact edited_any s X Y Z w hs (by omega) (by omega)
end Fr
end Go.Proofs.YtcecdmooojkmoaaDoor
