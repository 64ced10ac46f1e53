/- A block whose list of cells is not written out: one cell read, one cell stored; a row that is owned as such a block. -/
import Derived.Test.YtiebhlmjpnhepaaDoorL5
namespace Go.Proofs.YtiebhlmjpnhepaaDoor
open Go.RowKit
namespace Fr
set_option linter.unusedVariables false

theorem BoxL.get {W : World} {b : Nat} {zs : Array Value} (h : BoxL W b zs) {i : Nat} {v : Value} (hv : zs[i]? = some v) : W.cell? ⟨b, i, none⟩ = some v := (h.cells i v hv).1
theorem BoxL.mark {W : World} {b : Nat} {zs : Array Value} (h : BoxL W b zs) {i : Nat} (hi : i < zs.size) : W.frozen? ⟨b, i, none⟩ = false := (h.cells i _ (Array.getElem?_eq_getElem hi)).2
theorem BoxL.set1 {W : World} {b : Nat} {zs : Array Value} (h : BoxL W b zs) {i : Nat} (hi : i < zs.size) (v : Value) : BoxL (W.setCell ⟨b, i, none⟩ v) b (zs.setIfInBounds i v) := by
  have hold := h.cells i _ (Array.getElem?_eq_getElem hi)
  refine ⟨by simpa using h.lt, fun j u hu => ?_⟩
  rw [World.frozen?_setCell]
  by_cases hij : i = j
  · subst hij
    rw [Array.getElem?_setIfInBounds_self_of_lt hi] at hu
    cases hu
    exact ⟨World.cell?_setCell_same _ _ _ hold.1, hold.2⟩
  · rw [Array.getElem?_setIfInBounds_ne hij] at hu
    obtain ⟨h1, h2⟩ := h.cells j u hu
    exact ⟨(World.cell?_setCell_other _ _ _ _ (by intro e; have := congrArg Addr.off e; simp at this; omega)).trans h1, h2⟩
theorem BoxL.far1 {W : World} {a b : Nat} {zs : Array Value} (h : BoxL W a zs) (hab : b ≠ a) (i : Nat) (v : Value) : BoxL (W.setCell ⟨b, i, none⟩ v) a zs := h.setFar hab [v] i
theorem below_set1 {n : Nat} {w W : World} {b : Nat} (h : Below n w W) (hb : n ≤ b) (i : Nat) (v : Value) : Below n w (W.setCell ⟨b, i, none⟩ v) := h.setCell (p := ⟨b, i, none⟩) hb v
theorem BoxL.grown {w w' : World} {b : Nat} {zs : Array Value} {row : Option Nat} (h : BoxL w b zs) (hg : w.grownBy w' row) (hne : some b ≠ row) : BoxL w' b zs :=
  ⟨Nat.lt_of_lt_of_le h.lt hg.size, fun i v hv => ⟨(World.cell?_of_block (hg.block b h.lt hne)).trans (h.cells i v hv).1, (World.frozen?_of_block (hg.block b h.lt hne)).trans (h.cells i v hv).2⟩⟩
theorem row_keep {w w' : World} {base : Nat} {e : TypeId} {size : Nat} {v : Value} {n : Nat} {vs : List Value} (h : w.ownsRow base e size v n vs) (hb : Below w.heap.size w w') : w'.ownsRow base e size v n vs := by
  refine ⟨h.1, ?_⟩
  rcases h.2 with h2 | ⟨g, cap, cur, h1, h2, h3, h4⟩
  · exact .inl h2
  · exact .inr ⟨g, cap, cur, h1, h2, (hb.block g (Array.getElem?_eq_some_iff.1 h3).1).trans h3, h4⟩
theorem row_own {w : World} {base : Nat} {e : TypeId} {size : Nat} {v : Value} {n : Nat} {vs : List Value} (h : w.ownsRow base e size v n vs) : ∀ g, v.ownBlock = some g → base ≤ g := by
  rcases h.2 with ⟨rfl, _⟩ | ⟨g, cap, cur, rfl, h2, _⟩
  · intro g hg; cases hg
  · intro g' hg; cases hg; exact h2
/-- An owned row that is not empty: its block reads as a list of cells. -/
theorem row_box {w : World} {base : Nat} {e : TypeId} {size : Nat} {v : Value} {n : Nat} {vs : List Value} (h : w.ownsRow base e size v n vs) (hn : 0 < n) : ∃ g cap, v = .slice (some ⟨g, 0, none⟩) n cap ∧ BoxL w g vs.toArray ∧ base ≤ g := by
  rcases h.2 with ⟨_, h0⟩ | ⟨g, cap, cur, h1, h2, h3, h4, h5, h6, h7⟩
  · omega
  · refine ⟨g, cap, h1, ⟨(Array.getElem?_eq_some_iff.1 h3).1, fun i v hv => ?_⟩, h2⟩
    have hv' : vs[i]? = some v := by simpa using hv
    rw [← h7, List.getElem?_take] at hv'
    split at hv'
    · refine ⟨?_, by simp [World.frozen?, h3]⟩
      simpa [World.cell?, h3] using hv'
    · cases hv'
theorem parts_of {o : Option TypeInfo} {z : Value} {s b : Nat} (h : o.map (fun i => (i.zero, i.size, i.bytes)) = some (some z, s, b)) : ∃ i, o = some i ∧ i.zero = some z ∧ i.size = s ∧ i.bytes = b := by
  cases o with
  | none => cases h
  | some i => simp only [Option.map_some, Option.some.injEq, Prod.mk.injEq] at h; exact ⟨i, rfl, h.1, h.2.1, h.2.2⟩

end Fr
end Go.Proofs.YtiebhlmjpnhepaaDoor
