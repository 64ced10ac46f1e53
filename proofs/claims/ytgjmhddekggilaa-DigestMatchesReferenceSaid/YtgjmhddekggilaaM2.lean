/- Plain facts of the tree: partners, widths, levels, roots, paths. -/
import Derived.Test.YtgjmhddekggilaaM1
namespace Go.Proofs.Ytgjmhddekggilaa
namespace Dg

/-- The index beside i. -/
def partnerN (i : Nat) : Nat := if i % 2 = 0 then i + 1 else i - 1

theorem xor_one (i : Nat) : i ^^^ 1 = partnerN i := by
  have h1 : (i ^^^ 1) / 2 = i / 2 := by rw [Nat.xor_div_two]; simp
  have h2 : (i ^^^ 1) % 2 = (i + 1) % 2 := by
    have := Nat.testBit_xor i 1 0
    rw [Nat.testBit_zero, Nat.testBit_zero, Nat.testBit_zero] at this
    rcases Nat.mod_two_eq_zero_or_one i with h | h <;> rcases Nat.mod_two_eq_zero_or_one (i ^^^ 1) with h' | h' <;> rw [h, h'] at this <;>
      first | omega | exact absurd this (by decide)
  unfold partnerN
  split <;> omega

theorem xor_i64 (i : Nat) (h : i < 4611686018427387904) : bits .xor .i64 (i : Int) 1 = (partnerN i : Int) := by
  have e1 : (BitVec.ofInt 64 (i : Int)).toNat = i := by
    rw [BitVec.ofInt_natCast, BitVec.toNat_ofNat]; exact Nat.mod_eq_of_lt (by omega)
  have e2 : (BitVec.ofInt 64 (1 : Int)).toNat = 1 := by decide +kernel
  show IntKind.i64.wrap ((BitVec.ofInt 64 (i : Int) ^^^ BitVec.ofInt 64 1).toNat : Int) = _
  rw [BitVec.toNat_xor, e1, e2, xor_one]
  have : partnerN i ≤ i + 1 := by unfold partnerN; split <;> omega
  simp [IntKind.wrap, IntKind.bits, IntKind.signed]
  omega

/-- The digest of the k-th pair of a level. -/
def levelAt (zs : List Int) (k : Nat) : Int := if 2 * k + 1 < zs.length then joinI (zs[2 * k]?.getD 0) (zs[2 * k + 1]?.getD 0) else zs[2 * k]?.getD 0
/-- The level above. -/
def levelI (zs : List Int) : List Int := (List.range ((zs.length + 1) / 2)).map (levelAt zs)
theorem levelI_length (zs : List Int) : (levelI zs).length = (zs.length + 1) / 2 := by simp [levelI]
theorem levelI_at (zs : List Int) (k : Nat) (h : 2 * k < zs.length) : (levelI zs)[k]?.getD 0 = levelAt zs k := by
  unfold levelI
  rw [List.getElem?_map, List.getElem?_range (by omega)]
  rfl

end Dg
end Go.Proofs.Ytgjmhddekggilaa
