/- The table of operators. -/
import Derived.Test.YtjfijhchnchfcaaW4
import Derived.Deep.WholeRow
namespace Go.Proofs.Ytjfijhchnchfcaa
open Go.RowKit Sl Fr
namespace Bt
set_option linter.unusedVariables false
set_option linter.unusedSimpArgs false

section
variable {P : Program}
/-- A whole row into the block that was made last. -/
theorem wpList_store_new {ops : Array Oper} {rest : List Oper} {op : Oper} {a : Act} {w : World} {Q : Exit → Act → World → Prop} (hgd : op.guard = none) (ty : TypeId) (x y : Operand) (ho : op.op = .store ty x y) (c c' : Array Value)
    (hx : a.eval x = .pointer (some ⟨w.heap.size, 0, none⟩)) (hy : a.eval y = .agg c') (hi : (P.info? ty).map (·.size) = some c'.size) (hs : c.size = c'.size) (h1 : c'.all (·.oneCell') = true)
    (h : wpList P ops Q rest (a.put op.dst undef) (w.alloc (.cells c' ty))) : wpList P ops Q (op :: rest) a (w.alloc (.cells c ty)) :=
  wpList_plain hgd fun _ hK => by
    unfold Oper.wp execOp
    simp only [ho, hx, hy, Instr.storeAt, Instr.sureAddr, Sem.run_bind, Sem.run_pure, Result.andThen_ok, run_storeVar_new w ty c c' hi hs h1]
    exact hK _ _ h
end
def opsV : Array Value := #[.int .i64 0, .nilFunc, .nilFunc, .int .i64 0, .func (.func 36) #[] #[], .func (.func 37) #[] #[], .int .i64 1, .func (.func 38) #[] #[], .func (.func 39) #[] #[], .int .i64 2, .func (.func 38) #[] #[], .func (.func 40) #[] #[], .int .i64 2, .func (.func 38) #[] #[], .func (.func 41) #[] #[], .int .i64 2, .func (.func 38) #[] #[], .func (.func 42) #[] #[], .int .i64 2, .func (.func 38) #[] #[], .func (.func 43) #[] #[], .int .i64 2, .func (.func 38) #[] #[], .func (.func 44) #[] #[], .int .i64 2, .func (.func 45) #[] #[], .func (.func 46) #[] #[], .int .i64 2, .func (.func 45) #[] #[], .func (.func 47) #[] #[], .int .i64 3, .func (.func 48) #[] #[], .func (.func 49) #[] #[], .int .i64 2, .func (.func 51) #[] #[], .func (.func 52) #[] #[], .int .i64 1, .func (.func 53) #[] #[], .func (.func 54) #[] #[], .int .i64 1, .func (.func 55) #[] #[], .func (.func 56) #[] #[]]
def opsZ : Array Value := #[.int .i64 0, .nilFunc, .nilFunc, .int .i64 0, .nilFunc, .nilFunc, .int .i64 0, .nilFunc, .nilFunc, .int .i64 0, .nilFunc, .nilFunc, .int .i64 0, .nilFunc, .nilFunc, .int .i64 0, .nilFunc, .nilFunc, .int .i64 0, .nilFunc, .nilFunc, .int .i64 0, .nilFunc, .nilFunc, .int .i64 0, .nilFunc, .nilFunc, .int .i64 0, .nilFunc, .nilFunc, .int .i64 0, .nilFunc, .nilFunc, .int .i64 0, .nilFunc, .nilFunc, .int .i64 0, .nilFunc, .nilFunc, .int .i64 0, .nilFunc, .nilFunc]
set_option maxRecDepth 100000 in
set_option maxHeartbeats 1000000 in
theorem operators_any : Does 27 #[] (.agg opsV) := by
  intro w
  go_enter Try.func27, Try.ntmps27
  go_upto_region 1 with fail
  go_wp2_with (refine wpList_store_new rfl 59 _ _ rfl opsZ opsV rfl rfl (by kernel_rfl) rfl (by kernel_rfl) ?_)
  refine bodyPost_ret_by (v := .agg opsV) (results_cell_row rfl _ _ w.heap.size _ opsV (0, 0) _ rfl (heap_alloc_last _ _) Try.underlying59 rfl (by kernel_rfl)) rfl ⟨rfl, (Below.refl _ w).alloc (Nat.le_refl _) _⟩

end Bt
end Go.Proofs.Ytjfijhchnchfcaa
