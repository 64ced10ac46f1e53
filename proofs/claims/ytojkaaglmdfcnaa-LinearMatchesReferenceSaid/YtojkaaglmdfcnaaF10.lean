/- Statement FractionField: what the operations return, as far as the laws of a field speak of it. -/
import Derived.Test.YtojkaaglmdfcnaaB12
namespace Go.Proofs.Ytojkaaglmdfcnaa
open Go.RowKit Go.Shelf
namespace Fr
set_option linter.unusedVariables false

theorem isF_r {q : Rat} (h : Fit q) : IsF q (rN q) (rD q) := ⟨by unfold rN; rw [if_pos h], by unfold rD; rw [if_pos h], h⟩
theorem isF_0 : IsF 0 0 1 := ⟨rfl, rfl, by decide⟩
theorem isF_1 : IsF 1 1 1 := ⟨rfl, rfl, by decide⟩

theorem field_fr (N D E : Int) (w : World) : (Instr.field 51 (.agg #[.int .i64 N, .int .i64 D, .int .i64 E]) 0).run Try.prog w = .ok (.agg #[.int .i64 N, .int .i64 D]) w := by kernel_rfl

section
variable {A B C : Rat} {an ad bn bd cn cd : Int}

end
end Fr
end Go.Proofs.Ytojkaaglmdfcnaa
