/- Operations bit by bit on lists of bits. -/
import Derived.Test.YtjfijhchnchfcaaM2
import Derived.Test.YtjfijhchnchfcaaM3
namespace Go.Proofs.Ytjfijhchnchfcaa
namespace Bt
set_option linter.unusedVariables false

theorem jo_zip (f : Bool → Bool → Bool) (hf : f false false = false) (g : Nat → Nat → Nat) (hg : ∀ a b i, (g a b).testBit i = f (a.testBit i) (b.testBit i)) {p q : List Bool} (h : p.length = q.length) : jo (List.zipWith f p q) = g (jo p) (jo q) := by
  refine Nat.eq_of_testBit_eq fun i => ?_
  rw [hg, jo_bit, jo_bit, jo_bit, List.getElem?_zipWith]
  by_cases hi : i < p.length
  · rw [List.getElem?_eq_getElem hi, List.getElem?_eq_getElem (h ▸ hi)]
    rfl
  · rw [List.getElem?_eq_none (by omega), List.getElem?_eq_none (by omega)]
    exact hf.symm
theorem jo_and {p q : List Bool} (h : p.length = q.length) : jo (List.zipWith (fun a b => a && b) p q) = jo p &&& jo q := jo_zip _ rfl _ (fun a b i => Nat.testBit_and a b i) h
theorem jo_orr {p q : List Bool} (h : p.length = q.length) : jo (List.zipWith (fun a b => a || b) p q) = jo p ||| jo q := jo_zip _ rfl _ (fun a b i => Nat.testBit_or a b i) h
theorem jo_xor {p q : List Bool} (h : p.length = q.length) : jo (List.zipWith (fun a b => a != b) p q) = jo p ^^^ jo q := jo_zip _ rfl _ (fun a b i => by rw [Nat.testBit_xor]) h
theorem jo_not : ∀ p : List Bool, jo (p.map (fun a => !a)) = 2 ^ p.length - 1 - jo p
  | [] => rfl
  | b :: t => by
    have h1 := jo_lt t
    have h2 : bt (!b) = 1 - bt b := by cases b <;> rfl
    have h3 : bt b ≤ 1 := by cases b <;> decide
    simp only [List.map_cons, jo, jo_not t, h2, List.length_cons, Nat.pow_succ]
    omega
/-- The choice by a bit. -/
def mx (c : Nat) (a b : Bool) : Bool := if c = 1 then a else b
theorem jo_mux (c : Nat) {p q : List Bool} (h : p.length = q.length) : jo (List.zipWith (mx c) p q) = if c = 1 then jo p else jo q := by
  by_cases hc : c = 1
  · rw [if_pos hc, show mx c = fun a b => a from funext fun a => funext fun b => if_pos hc]
    exact jo_zip _ rfl (fun a _ => a) (fun a b i => rfl) h
  · rw [if_neg hc, show mx c = fun a b => b from funext fun a => funext fun b => if_neg hc]
    exact jo_zip _ rfl (fun _ b => b) (fun a b i => rfl) h
theorem take_zip {f : Bool → Bool → Bool} {p q : List Bool} {k : Nat} {a b : Bool} (hp : p[k]? = some a) (hq : q[k]? = some b) : (List.zipWith f p q).take (k + 1) = (List.zipWith f p q).take k ++ [f a b] := by
  rw [List.take_add_one, List.getElem?_zipWith, hp, hq]; rfl
theorem take_map {f : Bool → Bool} {p : List Bool} {k : Nat} {a : Bool} (hp : p[k]? = some a) : (p.map f).take (k + 1) = (p.map f).take k ++ [f a] := by
  rw [List.take_add_one, List.getElem?_map, hp]; rfl

end Bt
end Go.Proofs.Ytjfijhchnchfcaa
