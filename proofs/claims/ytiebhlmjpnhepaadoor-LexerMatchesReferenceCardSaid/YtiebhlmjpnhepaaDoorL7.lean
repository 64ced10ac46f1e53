/- A large variable loaded in one step (the walk's own load takes its cells one by one: the kernel's cost doubles with each cell). -/
import Derived.Test.YtiebhlmjpnhepaaDoorL5
import Derived.Deep.MidRow
import Derived.BigQuiet
namespace Go.Proofs.YtiebhlmjpnhepaaDoor
open Go.RowKit
namespace Fr
set_option linter.unusedVariables false

theorem quiet_load {P : Program} {C : World → Prop} {K : Act → Prop} {a : Act} {o : Oper} {ty : TypeId} {x : Operand} (hop : o.op = .load ty x) {b off : Nat} (hx : a.eval x = .pointer (some ⟨b, off, none⟩)) {cs : List Value} {d : TypeDesc}
    (hc : ∀ w, C w → w.rangeAt b off cs) (hu : P.underlying ty = some d) (hd : d.isRow = true) (hi : (P.info? ty).map (·.size) = some cs.length) (hk : K (a.put o.dst (.agg cs.toArray))) : o.quiet P a C K :=
  ⟨.agg cs.toArray, fun w hw => by
    have h := run_loadAt_mid (P := P) w b off ty cs d (hc w hw) hu hd hi
    have e : execOp a.eval o = (do pure (Next.value (← Instr.loadAt ty (.pointer (some ⟨b, off, none⟩)))) : Sem Next) := by unfold execOp; rw [hop]; simp only [hx]
    unfold Oper.quietAt
    rw [e]
    simp only [Sem.run_bind, h, Result.andThen_ok, Sem.run_pure, Oper.quietUpon, and_self], hk⟩
theorem wpQuiet_load {P : Program} {ops : Array Oper} {C : World → Prop} {Q : Act → Prop} {a : Act} {o : Oper} {rest : List Oper} (hw : Region.wanted o (yielded ops a.tmps) = true) {ty : TypeId} {x : Operand} (hop : o.op = .load ty x) {b off : Nat} (hx : a.eval x = .pointer (some ⟨b, off, none⟩)) {cs : List Value} {d : TypeDesc}
    (hc : ∀ w, C w → w.rangeAt b off cs) (hu : P.underlying ty = some d) (hd : d.isRow = true) (n : Nat) (hl : cs.length = n) (hi : (P.info? ty).map (·.size) = some n) (h : wpQuiet P ops C Q rest (a.put o.dst (.agg cs.toArray))) : wpQuiet P ops C Q (o :: rest) a :=
  BigFrame.wpQuiet_want hw fun K hK => quiet_load hop hx hc hu hd (hl ▸ hi) (hK _ h)
theorem BoxL.range {W V : World} {b : Nat} {zs : Array Value} (h : BoxL W b zs) (hV : Below W.heap.size W V) (off n : Nat) : ∀ w, (∃ p : Later V, w = p.val) → w.rangeAt b off ((zs.toList.drop off).take n) := by
  rintro _ ⟨p, rfl⟩ j v hv
  have hj : j < n := by have := (List.getElem?_eq_some_iff.1 hv).1; simp at this; omega
  rw [List.getElem?_take_of_lt hj, List.getElem?_drop] at hv
  exact (((h.keep hV).keep p.below).cells (off + j) v (by simpa using hv)).1

end Fr
end Go.Proofs.YtiebhlmjpnhepaaDoor
