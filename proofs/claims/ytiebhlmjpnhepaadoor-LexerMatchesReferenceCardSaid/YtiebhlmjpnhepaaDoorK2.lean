/- Slices that come in whose elements are structs of integers: their cells, row by row. -/
import Derived.Test.YtiebhlmjpnhepaaDoorK1
namespace Go.Proofs.YtiebhlmjpnhepaaDoor
open Go.ChangeShapes Go.WideShapes Go.ChangeAt Go.RowKit
namespace Sl
set_option linter.unusedVariables false

section
variable {H : Type} {enc : TypeId × Value → H} {P : Program} {w : World} {base : Nat} {sp : Nat → Bool} {hd : Bool} {fuel : Nat} {t e : TypeId} {cs : List Value} {x : DataW H × List MemPlace}
/-- What a slice of rows of s integers each is told as: all its integers in one list. -/
structure RowsIs (w : World) (A : Option Addr) (len cap s : Nat) (zs : List Int) : Prop where
  hlen : zs.length = len * s
  hcap : len ≤ cap
  arr : Arr w A (zs.map (Value.int .i64))
  nil : A = none → len = 0 ∧ cap = 0
  wf : ∀ x ∈ zs, -9223372036854775808 ≤ x ∧ x ≤ 9223372036854775807
  big : len ≤ maxLen
theorem open_rows (ht : P.underlying t = some (.slice e)) (s : Nat) (hs : P.cellsOf e = s) (h0 : 0 < s) (k : ∀ fuel cs x, DataW.trod enc P w base sp hd fuel e cs = some x → AI cs s)
    (h : DataW.trod enc P w base sp hd fuel t cs = some x) : ∃ A len cap zs, cs = [.slice A len cap] ∧ RowsIs w A len cap s zs := by
  rcases DataW.trod_slice ht h with ⟨rfl, _⟩ | ⟨a, len, cap, elems, rest, n, _, rfl, _, hb, hl, hm, hlen, hel, _⟩
  · exact ⟨none, 0, 0, [], rfl, by simp, Nat.le_refl _, Arr.nil _ _, fun _ => ⟨rfl, rfl⟩, by simp, by unfold maxLen; omega⟩
  · have hrow : ∀ i, i < len → ∃ r : List Int, r.length = s ∧ (∀ x ∈ r, -9223372036854775808 ≤ x ∧ x ≤ 9223372036854775807) ∧ ∀ j v, r[j]? = some v → w.cell? (a.add (i * s + j)) = some (.int .i64 v) := fun i hi => by
      have h1 := hel i hi
      rw [List.getElem?_eq_getElem (by omega), Option.bind_eq_some_iff, hs] at h1
      obtain ⟨cs', hc, hy⟩ := h1
      obtain ⟨r, hr1, hr2, hr3⟩ := k _ _ _ hy
      refine ⟨r, hr1, hr3, fun j v hv => ?_⟩
      have hj : j < s := by have := (List.getElem?_eq_some_iff.1 hv).1; omega
      have h2 := (World.cells?_some hc).2.2 j hj
      rw [Addr.add_add] at h2
      rw [h2, hr2, List.getElem?_map, hv]
      rfl
    have hall : ∀ m, m ≤ len → ∃ zs : List Int, zs.length = m * s ∧ (∀ x ∈ zs, -9223372036854775808 ≤ x ∧ x ≤ 9223372036854775807) ∧ ∀ j v, zs[j]? = some v → w.cell? (a.add j) = some (.int .i64 v) := by
      intro m
      induction m with
      | zero => intro _; exact ⟨[], by simp, by simp, by simp⟩
      | succ m ih =>
        intro hm'
        obtain ⟨zs, z1, z2, z3⟩ := ih (by omega)
        obtain ⟨r, r1, r2, r3⟩ := hrow m (by omega)
        refine ⟨zs ++ r, by simp [z1, r1, Nat.succ_mul], fun x hx => ?_, fun j v hv => ?_⟩
        · rcases List.mem_append.1 hx with hx | hx
          · exact z2 x hx
          · exact r2 x hx
        · by_cases hj : j < zs.length
          · rw [List.getElem?_append_left hj] at hv
            exact z3 j v hv
          · rw [List.getElem?_append_right (by omega)] at hv
            have := r3 _ v hv
            rwa [← z1, show zs.length + (j - zs.length) = j by omega] at this
    obtain ⟨zs, z1, z2, z3⟩ := hall len (Nat.le_refl _)
    refine ⟨some a, len, cap, zs, rfl, z1, hl, fun hne => ?_, fun h => (by cases h), z2, by omega⟩
    have hpos : 0 < zs.length := by
      rcases Nat.eq_zero_or_pos zs.length with h | h
      · rw [List.length_eq_zero_iff] at h; subst h; simp at hne
      · exact h
    obtain ⟨b, off, spot⟩ := a
    have hc := z3 0 _ (List.getElem?_eq_getElem hpos)
    have hspot : spot = none := by simpa [Addr.add] using World.cell?_spot hc
    subst hspot
    refine ⟨b, off, rfl, World.block_lt_of_cell? w _ hc, fun j u hu => ?_⟩
    rw [List.getElem?_map] at hu
    cases hz : zs[j]? with
    | none => rw [hz] at hu; cases hu
    | some v =>
      rw [hz] at hu
      have h2 := z3 j v hz
      have e0 : (⟨b, off, none⟩ : Addr).add j = ⟨b, off + j, none⟩ := by
        rcases Nat.eq_zero_or_pos j with hj0 | hj0
        · subst hj0; rfl
        · simp [Addr.add, Nat.ne_of_gt hj0]
      rw [e0] at h2
      rw [h2]
      exact hu
end
/-- An even number of integers as pairs. -/
def flat2 (es : List (Int × Int)) : List Int := es.flatMap fun e => [e.1, e.2]
theorem flat2_length (es : List (Int × Int)) : (flat2 es).length = es.length * 2 := by
  induction es with
  | nil => rfl
  | cons a l ih => simp only [flat2, List.flatMap_cons, List.length_append, List.length_cons, List.length_nil] at *; omega
theorem pairs_of : ∀ (n : Nat) (zs : List Int), zs.length = n * 2 → ∃ es : List (Int × Int), es.length = n ∧ zs = flat2 es
  | 0, zs, h => ⟨[], rfl, by simpa [flat2] using h⟩
  | n + 1, zs, h => by
    obtain ⟨a, t, rfl, h1⟩ := uncons (l := zs) (n := n * 2 + 1) (by rw [h]; omega)
    obtain ⟨b, u, rfl, h2⟩ := uncons (n := n * 2) h1
    obtain ⟨es, h3, h4⟩ := pairs_of n u h2
    exact ⟨(a, b) :: es, by simp [h3], by rw [h4]; rfl⟩
theorem flat2_get : ∀ {es : List (Int × Int)} {i : Nat} {a b : Int}, es[i]? = some (a, b) → (flat2 es)[i * 2]? = some a ∧ (flat2 es)[i * 2 + 1]? = some b
  | [], i, a, b, h => by simp at h
  | (c, d) :: es, 0, a, b, h => by
    simp only [List.getElem?_cons_zero, Option.some.injEq, Prod.mk.injEq] at h
    obtain ⟨rfl, rfl⟩ := h
    exact ⟨rfl, rfl⟩
  | (c, d) :: es, i + 1, a, b, h => by
    have := flat2_get (es := es) (i := i) (a := a) (b := b) (by simpa using h)
    rw [show (i + 1) * 2 = i * 2 + 1 + 1 by omega]
    exact this
/-- A slice of pairs. -/
def ArrP (w : World) (A : Option Addr) (es : List (Int × Int)) : Prop := Arr w A ((flat2 es).map (Value.int .i64))
theorem ArrP.keep {w w' : World} {A : Option Addr} {es : List (Int × Int)} (h : ArrP w A es) (hb : Below w.heap.size w w') : ArrP w' A es := Arr.keep h hb
theorem ArrP.at {w : World} {A : Option Addr} {es : List (Int × Int)} (h : ArrP w A es) (hne : es ≠ []) :
    ∃ b o, A = some ⟨b, o, none⟩ ∧ b < w.heap.size ∧ ∀ (i : Nat) (u v : Int), es[i]? = some (u, v) → w.cell? ⟨b, o + i * 2, none⟩ = some (.int .i64 u) ∧ w.cell? ⟨b, o + i * 2 + 1, none⟩ = some (.int .i64 v) := by
  have hne' : (flat2 es).map (Value.int .i64) ≠ [] := by
    cases es with
    | nil => exact absurd rfl hne
    | cons a l => simp [flat2]
  obtain ⟨b, o, e, hlt, hc⟩ := h hne'
  refine ⟨b, o, e, hlt, fun i u v hi => ?_⟩
  obtain ⟨h1, h2⟩ := flat2_get hi
  refine ⟨hc (i * 2) _ (by rw [List.getElem?_map, h1]; rfl), ?_⟩
  have := hc (i * 2 + 1) (.int .i64 v) (by rw [List.getElem?_map, h2]; rfl)
  rwa [← Nat.add_assoc] at this

end Sl
end Go.Proofs.YtiebhlmjpnhepaaDoor
