/- Plain facts of a list that is filled up with steps. -/
import Derived.Test.YtgjmhddekggilaaM3
namespace Go.Proofs.Ytgjmhddekggilaa
namespace Dg

def growAt (l : List Int) (n j : Nat) : Int := if j < l.length then l[j]?.getD 0 else stepI (j : Int) (n : Int)
/-- The first k elements. -/
def growTo (l : List Int) (n k : Nat) : List Int := (List.range k).map (growAt l n)
def grownI (l : List Int) (n : Nat) : List Int := growTo l n n

theorem growTo_length (l : List Int) (n k : Nat) : (growTo l n k).length = k := by simp [growTo]
theorem grownI_length (l : List Int) (n : Nat) : (grownI l n).length = n := growTo_length l n n
theorem growTo_succ (l : List Int) (n k : Nat) : growTo l n (k + 1) = growTo l n k ++ [growAt l n k] := by simp [growTo, List.range_succ]
theorem growTo_take (l : List Int) (n m : Nat) (h : m ≤ l.length) : l.take m = growTo l n m := by
  apply List.ext_getElem
  · simp [growTo_length, h]
  · intro i h1 h2
    rw [growTo_length] at h2
    have hi : i < l.length := by omega
    simp [growTo, growAt, hi]
theorem growAt_new (l : List Int) (n k : Nat) (h : ¬ k < l.length) : growAt l n k = stepI (k : Int) (n : Int) := if_neg h
theorem growAt_range (l : List Int) (n j : Nat) (h : ∀ x ∈ l, R x) : R (growAt l n j) := by
  unfold growAt
  by_cases hj : j < l.length
  · rw [if_pos hj, List.getElem?_eq_getElem hj]
    exact h _ (List.getElem_mem hj)
  · rw [if_neg hj]; exact stepI_range _ _
theorem grownI_range (l : List Int) (n : Nat) (h : ∀ x ∈ l, R x) : ∀ x ∈ grownI l n, R x := by
  intro x hx
  unfold grownI growTo at hx
  rw [List.mem_map] at hx
  obtain ⟨j, _, rfl⟩ := hx
  exact growAt_range l n j h
theorem grownI_at (l : List Int) (n j : Nat) (h : j < n) : (grownI l n)[j]?.getD 0 = growAt l n j := by
  unfold grownI growTo
  rw [List.getElem?_map, List.getElem?_range h]
  rfl

end Dg
end Go.Proofs.Ytgjmhddekggilaa
