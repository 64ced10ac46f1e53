/- One change: that digests, tags and joins tell it, as truth values. -/
import Derived.Test.YtgjmhddekggilaaM8
namespace Go.Proofs.Ytgjmhddekggilaa
namespace Dg

theorem beq_iff {a b c d : Int} (h : a = b ↔ c = d) : (a == b) = (c == d) := by rw [Bool.eq_iff_iff, beq_iff_eq, beq_iff_eq, h]

theorem tag_keys (z0 z1 : Int) (xs : List Int) (h0 : R z0) (h1 : R z1) : (tagI z0 xs == tagI z1 xs) = (z0 == z1) :=
  beq_iff ⟨fun e => stepI_left h0 h1 e, fun e => by rw [e]⟩
theorem join_l (a b c : Int) (ha : R a) (hc : R c) : (joinI a b == joinI c b) = (a == c) := beq_iff ⟨joinI_left ha hc, fun e => by rw [e]⟩
theorem join_r (a b c : Int) (hb : R b) (hc : R c) : (joinI a b == joinI a c) = (b == c) := beq_iff ⟨joinI_right hb hc, fun e => by rw [e]⟩

/-- A number of 64 bits with its sign. -/
def I64 (n : Int) : Prop := -9223372036854775808 ≤ n ∧ n < 9223372036854775808

theorem wrap_R (n : Int) : R (IntKind.u64.wrap n) := by unfold R; rw [IntKind.wrap_u64]; omega
theorem wrap_inj {a b : Int} (ha : I64 a) (hb : I64 b) (e : IntKind.u64.wrap a = IntKind.u64.wrap b) : a = b := by
  rw [IntKind.wrap_u64, IntKind.wrap_u64] at e
  unfold I64 at ha hb
  omega

theorem words_iff (xs : List Int) (i : Nat) (v : Int) (hx : ∀ x ∈ xs, I64 x) (hv : I64 v) (hi : i < xs.length) : wordsI xs = wordsI (xs.set i v) ↔ xs[i]?.getD 0 = v := by
  constructor
  · intro e
    unfold wordsI at e
    rw [List.length_set] at e
    have e1 := stepI_left (foldI_range _ _ (by unfold R; omega)) (foldI_range _ _ (by unfold R; omega)) e
    have ho : ∀ j, j ≠ i → (xs.map IntKind.u64.wrap)[j]? = ((xs.set i v).map IntKind.u64.wrap)[j]? := by
      intro j hj
      rw [List.getElem?_map, List.getElem?_map, List.getElem?_set_ne (by omega)]
    have g1 : (xs.map IntKind.u64.wrap)[i]?.getD 0 = IntKind.u64.wrap (xs[i]?.getD 0) := by rw [List.getElem?_map, List.getElem?_eq_getElem hi]; rfl
    have g2 : ((xs.set i v).map IntKind.u64.wrap)[i]?.getD 0 = IntKind.u64.wrap v := by rw [List.getElem?_map, List.getElem?_set_self hi]; rfl
    have e2 := foldI_one (by unfold R; omega) _ _ i (by simp) (by simpa using hi) ho (by rw [g1]; exact wrap_R _) (by rw [g2]; exact wrap_R _) e1
    rw [g1, g2] at e2
    exact wrap_inj (by rw [List.getElem?_eq_getElem hi]; exact hx _ (by simp)) hv e2
  · intro e
    have : xs.set i v = xs := by
      apply List.ext_getElem?
      intro j
      by_cases hj : i = j
      · subst hj
        rw [List.getElem?_set_self hi, List.getElem?_eq_getElem hi]
        rw [List.getElem?_eq_getElem hi] at e
        simpa using e.symm
      · rw [List.getElem?_set_ne hj]
    rw [this]

theorem words_set (xs : List Int) (i : Nat) (v : Int) (hx : ∀ x ∈ xs, I64 x) (hv : I64 v) (hi : i < xs.length) : (wordsI xs == wordsI (xs.set i v)) = (xs[i]?.getD 0 == v) := beq_iff (words_iff xs i v hx hv hi)
theorem tag_set (k : Int) (xs : List Int) (i : Nat) (v : Int) (hx : ∀ x ∈ xs, I64 x) (hv : I64 v) (hi : i < xs.length) : (tagI k xs == tagI k (xs.set i v)) = (xs[i]?.getD 0 == v) :=
  beq_iff ⟨fun e => (words_iff xs i v hx hv hi).1 (stepI_right (wordsI_range _) (wordsI_range _) e), fun e => by unfold tagI; rw [(words_iff xs i v hx hv hi).2 e]⟩
theorem bytes_set (xs : List Int) (i : Nat) (v : Int) (hb : B8 xs) (hi : i < xs.length) (hv : 0 ≤ v ∧ v < 256) : (bytesI xs == bytesI (xs.set i v)) = (xs[i]?.getD 0 == v) := beq_iff (bytesI_one xs i v hb hi hv)

end Dg
end Go.Proofs.Ytgjmhddekggilaa
