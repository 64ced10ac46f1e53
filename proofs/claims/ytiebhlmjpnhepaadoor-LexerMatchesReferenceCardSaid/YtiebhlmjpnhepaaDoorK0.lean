/- For every row without listed variables: slices of integers that come in, opened. -/
import Derived.Test.YtiebhlmjpnhepaaDoorS1
import Derived.Test.YtiebhlmjpnhepaaDoorRows
import Derived.WalkKit
import Derived.ProofKit
import Derived.OpenShut
import Derived.RowKit3
namespace Go.Proofs.YtiebhlmjpnhepaaDoor
open Go.ChangeShapes Go.WideShapes Go.ChangeAt Go.RowKit
namespace Sl
set_option linter.unusedVariables false

theorem own : ownKnob Tryd.prog.godebug = none := by kernel_rfl
theorem laidOut : laidOutB Tryd.prog = true := by kernel_rfl
/-- A number fits its kind. -/
def kin (k : IntKind) (x : Int) : Prop := (Lit.int k x).wf = true

/-- What the walk is told of a slice of integers that came in. -/
def IsRow (k : IntKind) (w : World) (a : Option Addr) (len cap : Nat) (zs : List Int) : Prop :=
  (a = none ∧ len = 0 ∧ cap = 0 ∧ zs = []) ∨
  ∃ x, a = some x ∧ len ≤ cap ∧ cap ≤ maxLen ∧ zs.length = cap ∧ (∀ i, i < zs.length → w.cell? (x.add i) = some (.int k (zs.getD i 0))) ∧ ∀ n ∈ zs, (Lit.int k n).wf = true

/-- Its elements as a list. -/
structure RowIs (k : IntKind) (w : World) (A : Option Addr) (len cap : Nat) (l : List Int) : Prop where
  hlen : l.length = len
  hcap : len ≤ cap
  arr : Arr w A (l.map (Value.int k))
  nil : A = none → cap = 0 ∧ l = []
  wf : ∀ x ∈ l, (Lit.int k x).wf = true
  big : len ≤ maxLen

theorem IsRow.list {k : IntKind} {w : World} {a : Option Addr} {len cap : Nat} {zs : List Int} (h : IsRow k w a len cap zs) : ∃ l, RowIs k w a len cap l := by
  rcases h with ⟨rfl, rfl, rfl, rfl⟩ | ⟨x, rfl, hl, hm, hz, hcell, hwf⟩
  · exact ⟨[], rfl, Nat.le_refl _, Arr.nil _ _, fun _ => ⟨rfl, rfl⟩, by simp, by unfold maxLen; omega⟩
  · refine ⟨zs.take len, by simp; omega, hl, fun hne => ?_, fun h => (by cases h), fun y hy => hwf y (List.mem_of_mem_take hy), by omega⟩
    have hpos : 0 < zs.length := by
      rcases Nat.eq_zero_or_pos zs.length with h0 | h0
      · rw [List.length_eq_zero_iff] at h0
        subst h0
        simp at hne
      · exact h0
    obtain ⟨b, off, spot⟩ := x
    have hc := hcell 0 hpos
    have hspot : spot = none := by simpa [Addr.add] using World.cell?_spot hc
    subst hspot
    refine ⟨b, off, rfl, World.block_lt_of_cell? w _ hc, fun j u hu => ?_⟩
    rw [List.getElem?_map] at hu
    have hj : j < (zs.take len).length := by
      rcases Nat.lt_or_ge j (zs.take len).length with h | h
      · exact h
      · rw [List.getElem?_eq_none h] at hu; cases hu
    rw [List.getElem?_eq_getElem hj] at hu
    have hj' : j < len ∧ j < zs.length := by simp at hj; omega
    have h2 := hcell j hj'.2
    have e0 : (⟨b, off, none⟩ : Addr).add j = ⟨b, off + j, none⟩ := by
      rcases Nat.eq_zero_or_pos j with hj0 | hj0
      · subst hj0; rfl
      · simp [Addr.add, Nat.ne_of_gt hj0]
    rw [e0] at h2
    rw [h2, ← hu]
    simp [List.getD, hj'.2]

theorem bytes_of {w : World} {A : Option Addr} {len cap : Nat} {l : List Int} (h : RowIs .u8 w A len cap l) : ∀ x ∈ l, 0 ≤ x ∧ x ≤ 255 := fun x hx => by
  have := bounds_u8 (h.wf x hx)
  omega

end Sl
end Go.Proofs.YtiebhlmjpnhepaaDoor
