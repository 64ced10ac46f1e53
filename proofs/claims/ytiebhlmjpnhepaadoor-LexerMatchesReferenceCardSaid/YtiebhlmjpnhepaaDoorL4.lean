/- What a call does, in one word; the blocks of parameters and results at the start of a function. -/
import Derived.Test.YtiebhlmjpnhepaaDoorL3
import Derived.Test.YtiebhlmjpnhepaaDoorRows
namespace Go.Proofs.YtiebhlmjpnhepaaDoor
open Go.RowKit
namespace Fr
set_option linter.unusedVariables false

/-- In every world, the call returns v; all that lay lies as it lay. -/
def Does (f : FuncId) (args : Array Value) (v : Value) : Prop := ∀ W : World, Calls Tryd.prog f args W fun o w' => o = .returned v ∧ Below W.heap.size W w'
theorem Does.at {f : FuncId} {args : Array Value} {v : Value} (h : Does f args v) (W : World) : Calls Tryd.prog f args W fun o w' => o = .returned v ∧ Below W.heap.size W w' := h W
theorem Does.of_same {f : FuncId} {args : Array Value} {v : Value} (h : ∀ W : World, Calls Tryd.prog f args W fun o w' => o = .returned v ∧ W = w') : Does f args v :=
  fun W => (h W).mono fun _ _ ⟨he, hw⟩ => ⟨he, hw ▸ Below.refl _ _⟩
theorem Does.eq {f : FuncId} {args : Array Value} {v u : Value} (h : Does f args v) (e : v = u) : Does f args u := e ▸ h

section
variable (w : World) (z0 z1 z2 z3 : Array Value) (T0 T1 T2 T3 : TypeId)
theorem start1 : BoxL (w.alloc (.cells z0 T0)) w.heap.size z0 ∧ Below w.heap.size w (w.alloc (.cells z0 T0)) := ⟨BoxL.new _ _ _, (Below.refl _ w).alloc (Nat.le_refl _) _⟩
theorem start2 : BoxL ((w.alloc (.cells z0 T0)).alloc (.cells z1 T1)) w.heap.size z0 ∧ BoxL ((w.alloc (.cells z0 T0)).alloc (.cells z1 T1)) (w.heap.size + 1) z1 ∧ Below w.heap.size w ((w.alloc (.cells z0 T0)).alloc (.cells z1 T1)) :=
  ⟨(start1 w z0 T0).1.keep ((Below.refl _ _).alloc (Nat.le_refl _) _), by have := BoxL.new (w.alloc (.cells z0 T0)) z1 T1; simpa using this, (start1 w z0 T0).2.alloc (by simp) _⟩
theorem start3 : BoxL (((w.alloc (.cells z0 T0)).alloc (.cells z1 T1)).alloc (.cells z2 T2)) w.heap.size z0 ∧ BoxL (((w.alloc (.cells z0 T0)).alloc (.cells z1 T1)).alloc (.cells z2 T2)) (w.heap.size + 1) z1 ∧
    BoxL (((w.alloc (.cells z0 T0)).alloc (.cells z1 T1)).alloc (.cells z2 T2)) (w.heap.size + 1 + 1) z2 ∧ Below w.heap.size w (((w.alloc (.cells z0 T0)).alloc (.cells z1 T1)).alloc (.cells z2 T2)) :=
  ⟨(start2 w z0 z1 T0 T1).1.keep ((Below.refl _ _).alloc (Nat.le_refl _) _), (start2 w z0 z1 T0 T1).2.1.keep ((Below.refl _ _).alloc (Nat.le_refl _) _), by have := BoxL.new ((w.alloc (.cells z0 T0)).alloc (.cells z1 T1)) z2 T2; simpa using this, (start2 w z0 z1 T0 T1).2.2.alloc (by simp; omega) _⟩
theorem start4 : BoxL ((((w.alloc (.cells z0 T0)).alloc (.cells z1 T1)).alloc (.cells z2 T2)).alloc (.cells z3 T3)) w.heap.size z0 ∧ BoxL ((((w.alloc (.cells z0 T0)).alloc (.cells z1 T1)).alloc (.cells z2 T2)).alloc (.cells z3 T3)) (w.heap.size + 1) z1 ∧
    BoxL ((((w.alloc (.cells z0 T0)).alloc (.cells z1 T1)).alloc (.cells z2 T2)).alloc (.cells z3 T3)) (w.heap.size + 1 + 1) z2 ∧ BoxL ((((w.alloc (.cells z0 T0)).alloc (.cells z1 T1)).alloc (.cells z2 T2)).alloc (.cells z3 T3)) (w.heap.size + 1 + 1 + 1) z3 ∧
    Below w.heap.size w ((((w.alloc (.cells z0 T0)).alloc (.cells z1 T1)).alloc (.cells z2 T2)).alloc (.cells z3 T3)) :=
  ⟨(start3 w z0 z1 z2 T0 T1 T2).1.keep ((Below.refl _ _).alloc (Nat.le_refl _) _), (start3 w z0 z1 z2 T0 T1 T2).2.1.keep ((Below.refl _ _).alloc (Nat.le_refl _) _), (start3 w z0 z1 z2 T0 T1 T2).2.2.1.keep ((Below.refl _ _).alloc (Nat.le_refl _) _), by have := BoxL.new (((w.alloc (.cells z0 T0)).alloc (.cells z1 T1)).alloc (.cells z2 T2)) z3 T3; simpa using this, (start3 w z0 z1 z2 T0 T1 T2).2.2.2.alloc (by simp; omega) _⟩
end

end Fr
end Go.Proofs.YtiebhlmjpnhepaaDoor
