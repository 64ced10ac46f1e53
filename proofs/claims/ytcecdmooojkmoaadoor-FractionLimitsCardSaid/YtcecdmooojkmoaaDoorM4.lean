/- Powers of 2 and their products, quotients and sums: which of them fit. -/
import Derived.Test.YtcecdmooojkmoaaDoorP4
namespace Go.Proofs.YtcecdmooojkmoaaDoor
namespace Fr
set_option linter.unusedVariables false

/-- Numerator and denominator of a power of 2. -/
def wN (n : Int) : Int := if n < 0 then 1 else 2 ^ n.toNat
def wD (n : Int) : Int := if n < 0 then 2 ^ (-n).toNat else 1
/-- A power of 2. -/
def pw (n : Int) : Rat := Rat.divInt (wN n) (wD n)

def chkF (n : Int) : Bool := (pw n).num == wN n && ((pw n).den : Int) == wD n && decide ((pw n).num.natAbs ≤ 4611686018427387904 ∧ (pw n).den ≤ 4611686018427387904)
theorem chkF_all : ((List.range 125).all fun (i : Nat) => chkF ((i : Int) - 62)) = true := by decide +kernel

def inB (s : Int) : Bool := decide (-62 ≤ s) && decide (s ≤ 62)
def chkP (x : Rat) (s : Int) : Bool := if inB s then rE x == 0 && rN x == wN s && rD x == wD s else rE x == 2
/-- Whether a sum of two powers fits. -/
def fitS (a b : Int) : Bool := if a = b then decide (a ≤ 61) else decide (max a b ≤ 61) && decide (max a b - min (min a b) 0 ≤ 61)
def chk2 (a b : Int) : Bool := chkP (pw a * pw b) (a + b) && chkP (pw a / pw b) (a - b) && (rE (pw a + pw b) == if fitS a b then 0 else 2)
theorem chk2_all : ((List.range 125).all fun (i : Nat) => (List.range 125).all fun (j : Nat) => chk2 ((i : Int) - 62) ((j : Int) - 62)) = true := by decide +kernel

end Fr
end Go.Proofs.YtcecdmooojkmoaaDoor
