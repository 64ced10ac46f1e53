/- The argument of DigraphMatchesReference, opened: a struct with slices of edges and of numbers. -/
import Derived.Test.YtmdleoadodcljaaV1
import Derived.Test.YtmdleoadodcljaaH0
import Derived.Test.YtmdleoadodcljaaK2
namespace Go.Proofs.Ytmdleoadodcljaa
open Go.ChangeShapes Go.WideShapes Go.ChangeAt Go.RowKit Sl Fr
namespace Gp
set_option linter.unusedVariables false

section
variable {H : Type} {enc : TypeId × Value → H} {P : Program} {w : World} {base : Nat} {sp : Nat → Bool} {hd : Bool} {fuel : Nat} {t e : TypeId} {cs : List Value} {x : DataW H × List MemPlace}
theorem field_is {fs : Array Field} (hu : P.underlying t = some (.struct fs)) (h : DataW.trod enc P w base sp hd fuel t cs = some x) (i : Nat) (f : Field) (hf : fs[i]? = some f) (s : Nat) (hs : P.cellsOf f.type = s) :
    ∃ fuel x, DataW.trod enc P w base sp hd fuel f.type ((cs.drop f.offset).take s) = some x := by
  obtain ⟨xs, n, _, _, hl, hlen, hel⟩ := DataW.trod_struct hu h
  have e := hel i f hf
  have hi : i < xs.length := by rw [hlen]; exact (Array.getElem?_eq_some_iff.1 hf).1
  rw [List.getElem?_eq_getElem hi, hs] at e
  exact ⟨_, _, e⟩
end
section
variable {H : Type} {enc : TypeId × Value → H} {W : World} {sp : Nat → Bool} {hd : Bool}
theorem ai_int : ∀ (fuel : Nat) (cs : List Value) (x : DataW H × List MemPlace), DataW.trod enc Try.prog W 0 sp hd fuel 3 cs = some x → AI cs 1 := fun fuel cs x h => by
  obtain ⟨n, q, _, w0⟩ := DataW.trod_int Try.underlying3 h
  have b := bounds_i64 w0
  exact ⟨[n], rfl, by simpa using q, by intro y hy; simp at hy; subst hy; omega⟩
theorem ai_edge : ∀ (fuel : Nat) (cs : List Value) (x : DataW H × List MemPlace), DataW.trod enc Try.prog W 0 sp hd fuel 48 cs = some x → AI cs 2 := fun fuel cs x h => by
  have hl : cs.length = 2 := by obtain ⟨_, _, _, _, hl, _⟩ := DataW.trod_struct Try.underlying48 h; exact hl.trans (by kernel_rfl)
  have h0 : AI ((cs.drop 0).take 1) 1 := field_ai Try.underlying48 h 0 _ rfl 1 (by kernel_rfl) ai_int
  have h1 : AI ((cs.drop 1).take 1) 1 := field_ai Try.underlying48 h 1 _ rfl 1 (by kernel_rfl) ai_int
  exact AI.whole hl (h0.join h1)
theorem ai_one {c : Value} (h : AI [c] 1) : ∃ z : Int, c = .int .i64 z := by
  obtain ⟨zs, h1, h2, h3⟩ := h
  obtain ⟨z, t, rfl, ht⟩ := uncons (n := 0) h1
  obtain rfl := List.eq_nil_of_length_eq_zero ht
  exact ⟨z, by simpa using h2⟩

set_option maxRecDepth 100000 in
theorem open_odd {base : Nat} {val : Value} {d : DataW H} {ps : List MemPlace} (hv : Value.okWide Try.prog W .any base 28 val) (h : DataW.Trod enc Try.prog W 0 sp hd 28 val d ps) :
    ∃ (zn : Int) (zE : Option Addr) (zes : List (Int × Int)) (ce : Nat) (zL : Option Addr) (zl : List Int) (cl : Nat) (zf : Int), val = .agg #[.int .i64 zn, .slice zE zes.length ce, .slice zL zl.length cl, .int .i64 zf] ∧
      ArrP W zE zes ∧ zes.length ≤ maxLen ∧ ArrZ W zL zl ∧ zl.length ≤ maxLen := by
  obtain ⟨cs, rfl, hsz⟩ := okWide_struct Try.underlying28 hv
  obtain ⟨l⟩ := cs
  obtain ⟨fuel, hf⟩ := h
  have hl : l.length = 4 := by obtain ⟨_, _, _, _, hl, _⟩ := DataW.trod_struct Try.underlying28 hf; exact hl.trans (by kernel_rfl)
  clear hsz hv
  obtain ⟨z0, t0, rfl, hl0⟩ := uncons (n := 3) hl
  obtain ⟨z1, t1, rfl, hl1⟩ := uncons (n := 2) hl0
  obtain ⟨z2, t2, rfl, hl2⟩ := uncons (n := 1) hl1
  obtain ⟨z3, t3, rfl, hl3⟩ := uncons (n := 0) hl2
  obtain rfl := List.eq_nil_of_length_eq_zero hl3
  obtain ⟨f0, x0, e0⟩ := field_is Try.underlying28 hf 0 _ rfl 1 (by kernel_rfl)
  replace e0 : DataW.trod enc Try.prog W 0 sp hd f0 3 [z0] = some x0 := e0
  obtain ⟨f1, x1, e1⟩ := field_is Try.underlying28 hf 1 _ rfl 1 (by kernel_rfl)
  replace e1 : DataW.trod enc Try.prog W 0 sp hd f1 25 [z1] = some x1 := e1
  obtain ⟨f2, x2, e2⟩ := field_is Try.underlying28 hf 2 _ rfl 1 (by kernel_rfl)
  replace e2 : DataW.trod enc Try.prog W 0 sp hd f2 26 [z2] = some x2 := e2
  obtain ⟨f3, x3, e3⟩ := field_is Try.underlying28 hf 3 _ rfl 1 (by kernel_rfl)
  replace e3 : DataW.trod enc Try.prog W 0 sp hd f3 3 [z3] = some x3 := e3
  obtain ⟨zn, rfl⟩ := ai_one (ai_int _ _ _ e0)
  obtain ⟨zf, rfl⟩ := ai_one (ai_int _ _ _ e3)
  obtain ⟨A1, l1, c1, y1, h1, g1⟩ := open_rows Try.underlying25 2 (by kernel_rfl) (by decide) ai_edge e1
  obtain ⟨A2, l2, c2, y2, h2, g2⟩ := open_rows Try.underlying26 1 (by kernel_rfl) (by decide) ai_int e2
  obtain rfl : z1 = .slice A1 l1 c1 := by simpa using h1
  obtain rfl : z2 = .slice A2 l2 c2 := by simpa using h2
  obtain ⟨es, he, rfl⟩ := pairs_of l1 y1 g1.hlen
  have hy2 : y2.length = l2 := by rw [g2.hlen, Nat.mul_one]
  subst he hy2
  exact ⟨zn, A1, es, c1, A2, y2, c2, zf, rfl, g1.arr, g1.big, g2.arr, g2.big⟩
end

end Gp
end Go.Proofs.Ytmdleoadodcljaa
