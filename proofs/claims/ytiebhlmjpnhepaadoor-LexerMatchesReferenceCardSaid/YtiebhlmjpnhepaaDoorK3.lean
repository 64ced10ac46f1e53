/- Slices of slices of integers that come in: their lists. -/
import Derived.Test.YtiebhlmjpnhepaaDoorK2
namespace Go.Proofs.YtiebhlmjpnhepaaDoor
open Go.ChangeShapes Go.WideShapes Go.ChangeAt Go.RowKit
namespace Sl
set_option linter.unusedVariables false

section
variable {H : Type} {enc : TypeId × Value → H} {P : Program} {w : World} {base : Nat} {sp : Nat → Bool} {hd : Bool} {fuel : Nat} {t e : TypeId} {cs : List Value} {x : DataW H × List MemPlace}
/-- What a slice of slices of integers is told as. -/
structure ListsIs (w : World) (A : Option Addr) (len cap : Nat) (rs : List (List Int)) : Prop where
  hlen : rs.length = len
  hcap : len ≤ cap
  nil : A = none → len = 0 ∧ cap = 0
  big : len ≤ maxLen
  at_ : rs ≠ [] → ∃ b o, A = some ⟨b, o, none⟩ ∧ b < w.heap.size ∧ ∀ j r, rs[j]? = some r → ∃ A' c, w.cell? ⟨b, o + j, none⟩ = some (.slice A' r.length c) ∧ RowsIs w A' r.length c 1 r
theorem open_lists (ht : P.underlying t = some (.slice e)) (hs : P.cellsOf e = 1) (k : ∀ fuel cs x, DataW.trod enc P w base sp hd fuel e cs = some x → ∃ A len cap zs, cs = [.slice A len cap] ∧ RowsIs w A len cap 1 zs)
    (h : DataW.trod enc P w base sp hd fuel t cs = some x) : ∃ A len cap rs, cs = [.slice A len cap] ∧ ListsIs w A len cap rs := by
  rcases DataW.trod_slice ht h with ⟨rfl, _⟩ | ⟨a, len, cap, elems, rest, n, _, rfl, _, hb, hl, hm, hlen, hel, _⟩
  · exact ⟨none, 0, 0, [], rfl, rfl, Nat.le_refl _, fun _ => ⟨rfl, rfl⟩, by unfold maxLen; omega, fun h => absurd rfl h⟩
  · have hrow : ∀ i, i < len → ∃ (r : List Int) (A' : Option Addr) (c : Nat), w.cell? (a.add i) = some (.slice A' r.length c) ∧ RowsIs w A' r.length c 1 r := fun i hi => by
      have h1 := hel i hi
      rw [List.getElem?_eq_getElem (by omega), Option.bind_eq_some_iff, hs] at h1
      obtain ⟨cs', hc, hy⟩ := h1
      obtain ⟨A', len', c, zs, rfl, hz⟩ := k _ _ _ hy
      have h2 := (World.cells?_some hc).2.2 0 (by decide)
      rw [Addr.add_add, Nat.mul_one, Nat.add_zero] at h2
      have hzl : zs.length = len' := by rw [hz.hlen, Nat.mul_one]
      refine ⟨zs, A', c, ?_, ?_⟩
      · rw [h2, hzl]; rfl
      · rw [hzl]; exact hz
    have hall : ∀ m, m ≤ len → ∃ rs : List (List Int), rs.length = m ∧ ∀ j r, rs[j]? = some r → ∃ (A' : Option Addr) (c : Nat), w.cell? (a.add j) = some (.slice A' r.length c) ∧ RowsIs w A' r.length c 1 r := by
      intro m
      induction m with
      | zero => intro _; exact ⟨[], rfl, by simp⟩
      | succ m ih =>
        intro hm'
        obtain ⟨rs, z1, z2⟩ := ih (by omega)
        obtain ⟨r, A', c, r1, r2⟩ := hrow m (by omega)
        refine ⟨rs ++ [r], by simp [z1], fun j r' hj' => ?_⟩
        by_cases hj : j < rs.length
        · rw [List.getElem?_append_left hj] at hj'
          exact z2 j r' hj'
        · rw [List.getElem?_append_right (by omega)] at hj'
          have hj0 : j - rs.length = 0 := by
            have := (List.getElem?_eq_some_iff.1 hj').1
            simpa using this
          rw [hj0] at hj'
          simp at hj'
          subst hj'
          have : j = m := by omega
          subst this
          exact ⟨A', c, r1, r2⟩
    obtain ⟨rs, z1, z2⟩ := hall len (Nat.le_refl _)
    refine ⟨some a, len, cap, rs, rfl, z1, hl, fun h => (by cases h), by omega, fun hne => ?_⟩
    have hpos : 0 < rs.length := List.length_pos_iff.2 hne
    obtain ⟨b, off, spot⟩ := a
    obtain ⟨A', c, hc, _⟩ := z2 0 _ (List.getElem?_eq_getElem hpos)
    have hspot : spot = none := by simpa [Addr.add] using World.cell?_spot hc
    subst hspot
    refine ⟨b, off, rfl, World.block_lt_of_cell? w _ hc, fun j r hr => ?_⟩
    obtain ⟨A', c, q1, q2⟩ := z2 j r hr
    have e0 : (⟨b, off, none⟩ : Addr).add j = ⟨b, off + j, none⟩ := by
      rcases Nat.eq_zero_or_pos j with hj0 | hj0
      · subst hj0; rfl
      · simp [Addr.add, Nat.ne_of_gt hj0]
    rw [e0] at q1
    exact ⟨A', c, q1, q2⟩
end
end Sl
end Go.Proofs.YtiebhlmjpnhepaaDoor
