/- The arguments of the laws' rows. -/
import Derived.Test.YtcdoalfpaldbmaaWC
import Derived.Test.YtcdoalfpaldbmaaK3
namespace Go.Proofs.Ytcdoalfpaldbmaa
open Go.ChangeShapes Go.WideShapes Go.ChangeAt Go.RowKit Sl Fr Dg
namespace Jn
set_option linter.unusedVariables false
section
variable {H : Type} {enc : TypeId × Value → H} {W : World} {base : Nat} {sp : Nat → Bool} {hd : Bool}
theorem ai_int : ∀ (fuel : Nat) (cs : List Value) (x : DataW H × List MemPlace), DataW.trod enc Try.prog W 0 sp hd fuel 3 cs = some x → AI cs 1 := fun fuel cs x h => by
  obtain ⟨d, ps⟩ := x
  obtain ⟨v, rfl, _, wf⟩ := DataW.trod_int Try.underlying3 h
  exact ⟨[v], rfl, rfl, fun y hy => by
    rw [List.mem_singleton] at hy; subst hy
    have := bounds_i64 wf
    omega⟩
theorem open_ll {v : Value} {d : DataW H} {ps : List MemPlace} (hv : Value.okWide Try.prog W .any base 23 v) (h : DataW.Trod enc Try.prog W 0 sp hd 23 v d ps) :
    ∃ (A : Option Addr) (c : Nat) (rs : List (List Int)), v = .slice A rs.length c ∧ LL W A rs ∧ (∀ r ∈ rs, ∀ x ∈ r, I64 x) ∧ rs.length ≤ 9223372036854775807 ∧ (A = none → rs = [] ∧ c = 0) ∧ rs.length ≤ c := by
  obtain ⟨A, len, cap, rfl⟩ := okWide_slice Try.underlying23 hv
  obtain ⟨fuel, hf⟩ := h
  obtain ⟨A', len', cap', rs, hcs, hL⟩ := open_lists Try.underlying23 (by kernel_rfl) (fun fuel cs x hx => open_rows Try.underlying29 1 (by kernel_rfl) (by decide) ai_int hx) hf
  simp [Value.cells] at hcs
  obtain ⟨rfl, rfl, rfl⟩ := hcs
  have hl := hL.hlen
  subst hl
  refine ⟨A, cap, rs, rfl, fun hne => ?_, fun r hr x hx => ?_, by have := hL.big; unfold maxLen at this; omega, fun e => ?_, hL.hcap⟩
  · obtain ⟨b, o, e, hlt, hc⟩ := hL.at_ hne
    refine ⟨b, o, e, hlt, fun j r hr => ?_⟩
    obtain ⟨A', c, q1, q2⟩ := hc j r hr
    exact ⟨A', c, q1, q2.hcap, q2.arr⟩
  · obtain ⟨b, o, e, hlt, hc⟩ := hL.at_ (by intro e; subst e; cases hr)
    obtain ⟨j, hj, rfl⟩ := List.getElem_of_mem hr
    obtain ⟨A', c, q1, q2⟩ := hc j _ (List.getElem?_eq_getElem hj)
    have := q2.wf x hx
    unfold I64; omega
  · obtain ⟨h1, h2⟩ := hL.nil e
    exact ⟨List.eq_nil_of_length_eq_zero h1, h2⟩
end
end Jn
end Go.Proofs.Ytcdoalfpaldbmaa
