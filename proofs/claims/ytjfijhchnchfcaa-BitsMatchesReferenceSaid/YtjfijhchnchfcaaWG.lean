/- Several rows of bits that are the call's own, each in a block of its own: one bit more. -/
import Derived.Test.YtjfijhchnchfcaaWC
import Derived.Test.YtjfijhchnchfcaaM4
import Derived.Test.YtjfijhchnchfcaaM5
import Derived.Maps.AppendAt
namespace Go.Proofs.Ytjfijhchnchfcaa
open Go.RowKit Sl Fr
namespace Bt
set_option linter.unusedVariables false
set_option linter.unusedSimpArgs false

theorem ownsRow_block {W W' : World} {base : Nat} {e : TypeId} {size : Nat} {v : Value} {n : Nat} {xs : List Value} (h : W.ownsRow base e size v n xs) (hb : ∀ g, v.ownBlock = some g → g < W.heap.size → W'.heap[g]? = W.heap[g]?) : W'.ownsRow base e size v n xs := by
  refine ⟨h.1, ?_⟩
  rcases h.2 with h2 | ⟨g, cap, cur, h1, h2, h3, h4⟩
  · exact .inl h2
  · refine .inr ⟨g, cap, cur, h1, h2, ?_, h4⟩
    rw [hb g (by rw [h1]; rfl) (Array.getElem?_eq_some_iff.1 h3).1]
    exact h3
theorem ownsRow_lt {W : World} {base : Nat} {e : TypeId} {size : Nat} {v : Value} {n : Nat} {xs : List Value} (h : W.ownsRow base e size v n xs) : ∀ g, v.ownBlock = some g → base ≤ g ∧ g < W.heap.size := by
  rcases h.2 with ⟨rfl, _⟩ | ⟨g, cap, cur, rfl, h2, h3, _⟩
  · intro g hg; cases hg
  · intro g' hg
    have : g = g' := by simpa [Value.ownBlock] using hg
    subst this
    exact ⟨h2, (Array.getElem?_eq_some_iff.1 h3).1⟩
/-- A row of bits of the call's own. -/
abbrev OwnB (W : World) (base : Nat) (v : Value) (l : List Bool) : Prop := W.ownsRow base 4 1 v l.length (l.map Value.bool)
/-- Five of them. -/
structure Five (W : World) (base : Nat) (v : Fin 5 → Value) (l : Fin 5 → List Bool) : Prop where
  own : ∀ i, OwnB W base (v i) (l i)
  apart : ∀ i j, i ≠ j → ∀ g, (v i).ownBlock = some g → (v j).ownBlock ≠ some g
theorem Five.keep {W W' : World} {base : Nat} {v : Fin 5 → Value} {l : Fin 5 → List Bool} (h : Five W base v l) (hb : Below W.heap.size W W') : Five W' base v l :=
  ⟨fun i => ownsRow_block (h.own i) fun g _ hlt => hb.block g hlt, h.apart⟩
def put5 {α : Type} (f : Fin 5 → α) (i : Fin 5) (x : α) (j : Fin 5) : α := if j = i then x else f j
theorem Five.put {W W' : World} {base : Nat} {v : Fin 5 → Value} {l : Fin 5 → List Bool} (h : Five W base v l) (i : Fin 5) {v' : Value} {m : List Bool} (ho : OwnB W' base v' m) (hg : W.grownBy W' (v i).ownBlock) (hb : v'.ownBlock = (v i).ownBlock ∨ v'.ownBlock = some W.heap.size) : Five W' base (put5 v i v') (put5 l i m) := by
  refine ⟨fun j => ?_, fun j k hjk g hj hk => ?_⟩
  · unfold put5
    by_cases hji : j = i
    · rw [if_pos hji, if_pos hji]; exact ho
    · rw [if_neg hji, if_neg hji]
      exact ownsRow_block (h.own j) fun g hgj hlt => hg.block g hlt (fun e => h.apart i j (Ne.symm hji) g e.symm hgj)
  · unfold put5 at hj hk
    by_cases hji : j = i
    · have hki : ¬ k = i := fun e => hjk (hji.trans e.symm)
      rw [if_pos hji] at hj
      rw [if_neg hki] at hk
      rcases hb with e | e
      · exact h.apart i k (fun e => hki e.symm) g (e ▸ hj) hk
      · have := (ownsRow_lt (h.own k) g hk).2
        rw [e] at hj
        cases hj
        omega
    · rw [if_neg hji] at hj
      by_cases hki : k = i
      · rw [if_pos hki] at hk
        rcases hb with e | e
        · exact h.apart i j (fun e => hji e.symm) g (e ▸ hk) hj
        · have := (ownsRow_lt (h.own j) g hj).2
          rw [e] at hk
          cases hk
          omega
      · rw [if_neg hki] at hk
        exact h.apart j k hjk g hj hk
def five5 {α : Type} (a b c d e : α) : Fin 5 → α := fun i => match i with
  | ⟨0, _⟩ => a
  | ⟨1, _⟩ => b
  | ⟨2, _⟩ => c
  | ⟨3, _⟩ => d
  | ⟨4, _⟩ => e
section
variable {W W' : World} {base : Nat} {a b c d e v' : Value} {la lb lc ld le m : List Bool}
theorem Five.set0 (h : Five W base (five5 a b c d e) (five5 la lb lc ld le)) (ho : OwnB W' base v' m) (hg : W.grownBy W' (a).ownBlock) (hb : v'.ownBlock = (a).ownBlock ∨ v'.ownBlock = some W.heap.size) : Five W' base (five5 v' b c d e) (five5 m lb lc ld le) := by
  have := h.put 0 ho hg hb
  rwa [show put5 (five5 a b c d e) 0 v' = five5 v' b c d e from funext fun j => (by match j with | ⟨0, _⟩ | ⟨1, _⟩ | ⟨2, _⟩ | ⟨3, _⟩ | ⟨4, _⟩ => rfl), show put5 (five5 la lb lc ld le) 0 m = five5 m lb lc ld le from funext fun j => (by match j with | ⟨0, _⟩ | ⟨1, _⟩ | ⟨2, _⟩ | ⟨3, _⟩ | ⟨4, _⟩ => rfl)] at this
theorem Five.own0 (h : Five W base (five5 a b c d e) (five5 la lb lc ld le)) : OwnB W base a la := h.own 0
theorem Five.set1 (h : Five W base (five5 a b c d e) (five5 la lb lc ld le)) (ho : OwnB W' base v' m) (hg : W.grownBy W' (b).ownBlock) (hb : v'.ownBlock = (b).ownBlock ∨ v'.ownBlock = some W.heap.size) : Five W' base (five5 a v' c d e) (five5 la m lc ld le) := by
  have := h.put 1 ho hg hb
  rwa [show put5 (five5 a b c d e) 1 v' = five5 a v' c d e from funext fun j => (by match j with | ⟨0, _⟩ | ⟨1, _⟩ | ⟨2, _⟩ | ⟨3, _⟩ | ⟨4, _⟩ => rfl), show put5 (five5 la lb lc ld le) 1 m = five5 la m lc ld le from funext fun j => (by match j with | ⟨0, _⟩ | ⟨1, _⟩ | ⟨2, _⟩ | ⟨3, _⟩ | ⟨4, _⟩ => rfl)] at this
theorem Five.own1 (h : Five W base (five5 a b c d e) (five5 la lb lc ld le)) : OwnB W base b lb := h.own 1
theorem Five.set2 (h : Five W base (five5 a b c d e) (five5 la lb lc ld le)) (ho : OwnB W' base v' m) (hg : W.grownBy W' (c).ownBlock) (hb : v'.ownBlock = (c).ownBlock ∨ v'.ownBlock = some W.heap.size) : Five W' base (five5 a b v' d e) (five5 la lb m ld le) := by
  have := h.put 2 ho hg hb
  rwa [show put5 (five5 a b c d e) 2 v' = five5 a b v' d e from funext fun j => (by match j with | ⟨0, _⟩ | ⟨1, _⟩ | ⟨2, _⟩ | ⟨3, _⟩ | ⟨4, _⟩ => rfl), show put5 (five5 la lb lc ld le) 2 m = five5 la lb m ld le from funext fun j => (by match j with | ⟨0, _⟩ | ⟨1, _⟩ | ⟨2, _⟩ | ⟨3, _⟩ | ⟨4, _⟩ => rfl)] at this
theorem Five.own2 (h : Five W base (five5 a b c d e) (five5 la lb lc ld le)) : OwnB W base c lc := h.own 2
theorem Five.set3 (h : Five W base (five5 a b c d e) (five5 la lb lc ld le)) (ho : OwnB W' base v' m) (hg : W.grownBy W' (d).ownBlock) (hb : v'.ownBlock = (d).ownBlock ∨ v'.ownBlock = some W.heap.size) : Five W' base (five5 a b c v' e) (five5 la lb lc m le) := by
  have := h.put 3 ho hg hb
  rwa [show put5 (five5 a b c d e) 3 v' = five5 a b c v' e from funext fun j => (by match j with | ⟨0, _⟩ | ⟨1, _⟩ | ⟨2, _⟩ | ⟨3, _⟩ | ⟨4, _⟩ => rfl), show put5 (five5 la lb lc ld le) 3 m = five5 la lb lc m le from funext fun j => (by match j with | ⟨0, _⟩ | ⟨1, _⟩ | ⟨2, _⟩ | ⟨3, _⟩ | ⟨4, _⟩ => rfl)] at this
theorem Five.own3 (h : Five W base (five5 a b c d e) (five5 la lb lc ld le)) : OwnB W base d ld := h.own 3
theorem Five.set4 (h : Five W base (five5 a b c d e) (five5 la lb lc ld le)) (ho : OwnB W' base v' m) (hg : W.grownBy W' (e).ownBlock) (hb : v'.ownBlock = (e).ownBlock ∨ v'.ownBlock = some W.heap.size) : Five W' base (five5 a b c d v') (five5 la lb lc ld m) := by
  have := h.put 4 ho hg hb
  rwa [show put5 (five5 a b c d e) 4 v' = five5 a b c d v' from funext fun j => (by match j with | ⟨0, _⟩ | ⟨1, _⟩ | ⟨2, _⟩ | ⟨3, _⟩ | ⟨4, _⟩ => rfl), show put5 (five5 la lb lc ld le) 4 m = five5 la lb lc ld m from funext fun j => (by match j with | ⟨0, _⟩ | ⟨1, _⟩ | ⟨2, _⟩ | ⟨3, _⟩ | ⟨4, _⟩ => rfl)] at this
theorem Five.own4 (h : Five W base (five5 a b c d e) (five5 la lb lc ld le)) : OwnB W base e le := h.own 4
end
theorem own_new (W : World) (base : Nat) (hb : base ≤ W.heap.size) : OwnB (W.alloc (.cells #[] 4)) base (.slice (some ⟨W.heap.size, 0, none⟩) 0 0) [] :=
  World.ownsRow_lit (e := 4) (size := 1) W #[] 0 hb (by unfold maxLen; omega) rfl
theorem five_new (W : World) (base : Nat) (hb : base ≤ W.heap.size) : Five (((((W.alloc (.cells #[] 4)).alloc (.cells #[] 4)).alloc (.cells #[] 4)).alloc (.cells #[] 4)).alloc (.cells #[] 4)) base
    (five5 (.slice (some ⟨W.heap.size, 0, none⟩) 0 0) (.slice (some ⟨W.heap.size + 1, 0, none⟩) 0 0) (.slice (some ⟨W.heap.size + 1 + 1, 0, none⟩) 0 0) (.slice (some ⟨W.heap.size + 1 + 1 + 1, 0, none⟩) 0 0) (.slice (some ⟨W.heap.size + 1 + 1 + 1 + 1, 0, none⟩) 0 0)) (five5 [] [] [] [] []) := by
  have k : ∀ {V : World} {v : Value}, OwnB V base v [] → OwnB (V.alloc (.cells #[] 4)) base v [] := fun {V v} h => ownsRow_block h fun g _ hlt => ((Below.refl V.heap.size V).alloc (Nat.le_refl _) _).block g hlt
  have h0 := own_new W base hb
  have h1 := own_new (W.alloc (.cells #[] 4)) base (by simp; omega)
  have h2 := own_new ((W.alloc (.cells #[] 4)).alloc (.cells #[] 4)) base (by simp; omega)
  have h3 := own_new (((W.alloc (.cells #[] 4)).alloc (.cells #[] 4)).alloc (.cells #[] 4)) base (by simp; omega)
  have h4 := own_new ((((W.alloc (.cells #[] 4)).alloc (.cells #[] 4)).alloc (.cells #[] 4)).alloc (.cells #[] 4)) base (by simp; omega)
  simp only [World.size_alloc] at h1 h2 h3 h4
  refine ⟨fun i => ?_, fun i j hij g hi hj => ?_⟩
  · match i with
    | ⟨0, _⟩ => exact k (k (k (k h0)))
    | ⟨1, _⟩ => exact k (k (k h1))
    | ⟨2, _⟩ => exact k (k h2)
    | ⟨3, _⟩ => exact k h3
    | ⟨4, _⟩ => exact h4
  · match i, j, hij with
    | ⟨0, _⟩, ⟨0, _⟩, h => exact h rfl
    | ⟨0, _⟩, ⟨1, _⟩, _ => simp [five5, Value.ownBlock] at hi hj; omega
    | ⟨0, _⟩, ⟨2, _⟩, _ => simp [five5, Value.ownBlock] at hi hj; omega
    | ⟨0, _⟩, ⟨3, _⟩, _ => simp [five5, Value.ownBlock] at hi hj; omega
    | ⟨0, _⟩, ⟨4, _⟩, _ => simp [five5, Value.ownBlock] at hi hj; omega
    | ⟨1, _⟩, ⟨0, _⟩, _ => simp [five5, Value.ownBlock] at hi hj; omega
    | ⟨1, _⟩, ⟨1, _⟩, h => exact h rfl
    | ⟨1, _⟩, ⟨2, _⟩, _ => simp [five5, Value.ownBlock] at hi hj; omega
    | ⟨1, _⟩, ⟨3, _⟩, _ => simp [five5, Value.ownBlock] at hi hj; omega
    | ⟨1, _⟩, ⟨4, _⟩, _ => simp [five5, Value.ownBlock] at hi hj; omega
    | ⟨2, _⟩, ⟨0, _⟩, _ => simp [five5, Value.ownBlock] at hi hj; omega
    | ⟨2, _⟩, ⟨1, _⟩, _ => simp [five5, Value.ownBlock] at hi hj; omega
    | ⟨2, _⟩, ⟨2, _⟩, h => exact h rfl
    | ⟨2, _⟩, ⟨3, _⟩, _ => simp [five5, Value.ownBlock] at hi hj; omega
    | ⟨2, _⟩, ⟨4, _⟩, _ => simp [five5, Value.ownBlock] at hi hj; omega
    | ⟨3, _⟩, ⟨0, _⟩, _ => simp [five5, Value.ownBlock] at hi hj; omega
    | ⟨3, _⟩, ⟨1, _⟩, _ => simp [five5, Value.ownBlock] at hi hj; omega
    | ⟨3, _⟩, ⟨2, _⟩, _ => simp [five5, Value.ownBlock] at hi hj; omega
    | ⟨3, _⟩, ⟨3, _⟩, h => exact h rfl
    | ⟨3, _⟩, ⟨4, _⟩, _ => simp [five5, Value.ownBlock] at hi hj; omega
    | ⟨4, _⟩, ⟨0, _⟩, _ => simp [five5, Value.ownBlock] at hi hj; omega
    | ⟨4, _⟩, ⟨1, _⟩, _ => simp [five5, Value.ownBlock] at hi hj; omega
    | ⟨4, _⟩, ⟨2, _⟩, _ => simp [five5, Value.ownBlock] at hi hj; omega
    | ⟨4, _⟩, ⟨3, _⟩, _ => simp [five5, Value.ownBlock] at hi hj; omega
    | ⟨4, _⟩, ⟨4, _⟩, h => exact h rfl
theorem grown_below {base : Nat} {w W W' : World} {v : Value} {l : List Bool} (hB : Below base w W) (hs : base ≤ W.heap.size) (ho : OwnB W base v l) (hg : W.grownBy W' v.ownBlock) : Below base w W' :=
  hB.grown hg hs fun g e => (ownsRow_lt ho g e).1

theorem own_snoc {W : World} {base : Nat} {v : Value} {l : List Bool} {b : Bool} (h : W.ownsRow base 4 1 v (l.length + 1) (l.map Value.bool ++ [Value.bool b])) : OwnB W base v (l ++ [b]) := by
  unfold OwnB
  rw [List.length_append, List.map_append]
  exact h
theorem own_slice {W : World} {base : Nat} {v : Value} {l : List Bool} (h : OwnB W base v l) : ∃ A c, v = .slice A l.length c ∧ l.length ≤ c ∧ c ≤ maxLen ∧ ArrB W A l ∧ (A = none → c = 0 ∧ l = []) := by
  obtain ⟨A, c, h1, h2, _, h4, _⟩ := row_forms h
  rcases h.2 with ⟨h5, h6⟩ | ⟨g, cap, cur, h5, _, _, h7, h8, _⟩
  · rw [h1] at h5
    injection h5 with e1 e2 e3
    have hl : l = [] := List.eq_nil_of_length_eq_zero h6
    exact ⟨A, c, h1, h2, by unfold maxLen; omega, h4.arr, fun _ => ⟨e3, hl⟩⟩
  · rw [h1] at h5
    injection h5 with e1 e2 e3
    exact ⟨A, c, h1, h2, by rw [e3]; exact h8, h4.arr, fun e => by rw [e1] at e; cases e⟩

end Bt
end Go.Proofs.Ytjfijhchnchfcaa
