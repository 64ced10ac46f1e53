/- Arguments that consist of integers alone, however nested: opened as a list of integers. -/
import Derived.Test.YtiebhlmjpnhepaaDoorK0
import Derived.ChangeArms
namespace Go.Proofs.YtiebhlmjpnhepaaDoor
open Go.ChangeShapes Go.WideShapes Go.ChangeAt Go.RowKit
namespace Sl
set_option linter.unusedVariables false

/-- These n cells are integers. -/
def AI (cs : List Value) (n : Nat) : Prop := ∃ zs : List Int, zs.length = n ∧ cs = zs.map (Value.int .i64) ∧ ∀ x ∈ zs, -9223372036854775808 ≤ x ∧ x ≤ 9223372036854775807
theorem AI.nil : AI [] 0 := ⟨[], rfl, rfl, by simp⟩
theorem AI.join {cs : List Value} {k s : Nat} (h : AI ((cs.drop 0).take k) k) (h2 : AI ((cs.drop k).take s) s) : AI ((cs.drop 0).take (k + s)) (k + s) := by
  obtain ⟨zs, h1, e1, b1⟩ := h
  obtain ⟨ys, h3, e3, b3⟩ := h2
  refine ⟨zs ++ ys, by simp [h1, h3], ?_, fun x hx => ?_⟩
  · rw [List.drop_zero] at *
    rw [List.take_add, e1, e3, List.map_append]
  · rcases List.mem_append.1 hx with h | h
    · exact b1 x h
    · exact b3 x h
theorem AI.whole {cs : List Value} {n : Nat} (hl : cs.length = n) (h : AI ((cs.drop 0).take n) n) : AI cs n := by
  rw [List.drop_zero, List.take_of_length_le (by omega)] at h
  exact h
section
variable {H : Type} {enc : TypeId × Value → H} {P : Program} {w : World} {base : Nat} {sp : Nat → Bool} {hd : Bool} {fuel : Nat} {t : TypeId} {cs : List Value} {x : DataW H × List MemPlace}
theorem field_ai {fs : Array Field} (hu : P.underlying t = some (.struct fs)) (h : DataW.trod enc P w base sp hd fuel t cs = some x) (i : Nat) (f : Field) (hf : fs[i]? = some f) (s : Nat) (hs : P.cellsOf f.type = s)
    (k : ∀ fuel cs x, DataW.trod enc P w base sp hd fuel f.type cs = some x → AI cs s) : AI ((cs.drop f.offset).take s) s := by
  obtain ⟨xs, n, _, _, hl, hlen, hel⟩ := DataW.trod_struct hu h
  have e := hel i f hf
  have hi : i < xs.length := by rw [hlen]; exact (Array.getElem?_eq_some_iff.1 hf).1
  rw [List.getElem?_eq_getElem hi, hs] at e
  exact k _ _ _ e
theorem array_ai {n : Nat} {e : TypeId} (hu : P.underlying t = some (.array n e)) (h : DataW.trod enc P w base sp hd fuel t cs = some x) (s : Nat) (hs : P.cellsOf e = s) (hc : P.cellsOf t = n * s)
    (k : ∀ fuel cs x, DataW.trod enc P w base sp hd fuel e cs = some x → AI cs s) : AI cs (n * s) := by
  obtain ⟨xs, m, _, _, hl, hlen, hel⟩ := DataW.trod_array hu h
  refine AI.whole (hl.trans hc) ?_
  have : ∀ j, j ≤ n → AI ((cs.drop 0).take (j * s)) (j * s) := by
    intro j
    induction j with
    | zero => intro _; rw [Nat.zero_mul]; exact ⟨[], rfl, by simp, by simp⟩
    | succ j ih =>
      intro hj
      have e := hel j (by omega)
      have hi : j < xs.length := by omega
      rw [List.getElem?_eq_getElem hi, hs] at e
      have := (ih (by omega)).join (k _ _ _ e)
      rwa [show j * s + s = (j + 1) * s by rw [Nat.succ_mul]] at this
  exact this n (Nat.le_refl _)
end
theorem uncons {α : Type} {l : List α} {n : Nat} (h : l.length = n + 1) : ∃ a t, l = a :: t ∧ t.length = n := by
  cases l with
  | nil => cases h
  | cons a t => exact ⟨a, t, rfl, by simpa using h⟩

end Sl
end Go.Proofs.YtiebhlmjpnhepaaDoor
