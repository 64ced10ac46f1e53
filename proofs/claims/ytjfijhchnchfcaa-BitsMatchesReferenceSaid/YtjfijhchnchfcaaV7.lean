/- The argument of BitsMatchesReference, opened: a struct with slices. -/
import Derived.Test.YtjfijhchnchfcaaV6
import Derived.Test.YtjfijhchnchfcaaK2
namespace Go.Proofs.Ytjfijhchnchfcaa
open Go.ChangeShapes Go.WideShapes Go.ChangeAt Go.RowKit Sl Fr
namespace Bt
set_option linter.unusedVariables false

section
variable {H : Type} {enc : TypeId × Value → H} {P : Program} {w : World} {base : Nat} {sp : Nat → Bool} {hd : Bool} {fuel : Nat} {t e : TypeId} {cs : List Value} {x : DataW H × List MemPlace}
theorem field_is {fs : Array Field} (hu : P.underlying t = some (.struct fs)) (h : DataW.trod enc P w base sp hd fuel t cs = some x) (i : Nat) (f : Field) (hf : fs[i]? = some f) (s : Nat) (hs : P.cellsOf f.type = s) :
    ∃ fuel x, DataW.trod enc P w base sp hd fuel f.type ((cs.drop f.offset).take s) = some x := by
  obtain ⟨xs, n, _, _, hl, hlen, hel⟩ := DataW.trod_struct hu h
  have e := hel i f hf
  have hi : i < xs.length := by rw [hlen]; exact (Array.getElem?_eq_some_iff.1 hf).1
  rw [List.getElem?_eq_getElem hi, hs] at e
  exact ⟨_, _, e⟩
theorem open_flags (ht : P.underlying t = some (.slice e)) (he : P.underlying e = some .bool) (hs : P.cellsOf e = 1) (h : DataW.trod enc P w base sp hd fuel t cs = some x) :
    ∃ A len cap, ∃ l : List Bool, cs = [.slice A len cap] ∧ l.length = len ∧ len ≤ cap ∧ cap ≤ maxLen ∧ Arr w A (l.map Value.bool) ∧ (A = none → cap = 0 ∧ l = []) := by
  rcases DataW.trod_slice ht h with ⟨rfl, _⟩ | ⟨a, len, cap, elems, rest, n, _, rfl, _, hb, hl, hm, hlen, hel, _⟩
  · exact ⟨none, 0, 0, [], rfl, rfl, Nat.le_refl _, by unfold maxLen; omega, Arr.nil _ _, fun _ => ⟨rfl, rfl⟩⟩
  · have hrow : ∀ i, i < len → ∃ b : Bool, w.cell? (a.add i) = some (.bool b) := fun i hi => by
      have h1 := hel i hi
      rw [List.getElem?_eq_getElem (by omega), Option.bind_eq_some_iff, hs, Nat.mul_one] at h1
      obtain ⟨cs', hc, hy⟩ := h1
      obtain ⟨b, rfl, _⟩ := DataW.trod_bool he hy
      have h2 := (World.cells?_some hc).2.2 0 (by decide)
      rw [Addr.add_add] at h2
      exact ⟨b, h2⟩
    obtain ⟨B, hB⟩ : ∃ B : Nat → Bool, ∀ i, i < len → w.cell? (a.add i) = some (.bool (B i)) := by
      refine ⟨fun i => if h : i < len then Classical.choose (hrow i h) else false, fun i hi => ?_⟩
      simp only [hi, dif_pos]
      exact Classical.choose_spec (hrow i hi)
    have hg : ∀ j, j < len → ((List.range len).map B)[j]? = some (B j) := fun j hj => by simp [List.getElem?_map, List.getElem?_range hj]
    refine ⟨some a, len, cap, (List.range len).map B, rfl, by simp, hl, hm, fun hne => ?_, fun h => (by cases h)⟩
    have hpos : 0 < len := by
      rcases Nat.eq_zero_or_pos len with h | h
      · subst h; simp at hne
      · exact h
    obtain ⟨b, off, spot⟩ := a
    have hc := hB 0 hpos
    have hspot : spot = none := by simpa [Addr.add] using World.cell?_spot hc
    subst hspot
    refine ⟨b, off, rfl, World.block_lt_of_cell? w _ hc, fun j u hu => ?_⟩
    have hj : j < len := Classical.byContradiction fun h => by
      rw [List.getElem?_eq_none (by simp; omega)] at hu
      cases hu
    rw [List.getElem?_map, hg j hj] at hu
    have h2 := hB j hj
    have e0 : (⟨b, off, none⟩ : Addr).add j = ⟨b, off + j, none⟩ := by
      rcases Nat.eq_zero_or_pos j with hj0 | hj0
      · subst hj0; rfl
      · simp [Addr.add, Nat.ne_of_gt hj0]
    rw [e0] at h2
    rw [h2]
    exact hu
end
theorem ai_int {H : Type} {enc : TypeId × Value → H} {W : World} {sp : Nat → Bool} {hd : Bool} : ∀ (fuel : Nat) (cs : List Value) (x : DataW H × List MemPlace), DataW.trod enc Try.prog W 0 sp hd fuel 3 cs = some x → AI cs 1 := fun fuel cs x h => by
  obtain ⟨n, q, _, w0⟩ := DataW.trod_int Try.underlying3 h
  have b := bounds_i64 w0
  exact ⟨[n], rfl, by simpa using q, by intro y hy; simp at hy; subst hy; omega⟩
theorem ai_one {c : Value} (h : AI [c] 1) : ∃ z : Int, c = .int .i64 z ∧ -9223372036854775808 ≤ z ∧ z ≤ 9223372036854775807 := by
  obtain ⟨zs, h1, h2, h3⟩ := h
  obtain ⟨z, rfl⟩ := len1 h1
  exact ⟨z, by simpa using h2, h3 z (by simp)⟩
theorem ai_two {c d : Value} (h : AI [c, d] 2) : ∃ z y : Int, c = .int .i64 z ∧ d = .int .i64 y ∧ (-9223372036854775808 ≤ z ∧ z ≤ 9223372036854775807) ∧ (-9223372036854775808 ≤ y ∧ y ≤ 9223372036854775807) := by
  obtain ⟨zs, h1, h2, h3⟩ := h
  obtain ⟨z, y, rfl⟩ := len2 h1
  simp only [List.map_cons, List.map_nil, List.cons.injEq, and_true] at h2
  exact ⟨z, y, h2.1, h2.2, h3 z (by simp), h3 y (by simp)⟩
/-- A slice of numbers in a field. -/
def IntsIs (W : World) (v : Value) (A : Option Addr) (l : List Int) (c : Nat) : Prop := v = .slice A l.length c ∧ ArrI W A l ∧ l.length ≤ maxLen ∧ ∀ x ∈ l, -9223372036854775808 ≤ x ∧ x ≤ 9223372036854775807
theorem ints_is {H : Type} {enc : TypeId × Value → H} {W : World} {sp : Nat → Bool} {hd : Bool} {fuel : Nat} {c : Value} {x : DataW H × List MemPlace} (h : DataW.trod enc Try.prog W 0 sp hd fuel 22 [c] = some x) : ∃ A l cap, IntsIs W c A l cap := by
  obtain ⟨A, len, cap, zs, h1, h2⟩ := open_rows Try.underlying22 1 (by kernel_rfl) (by decide) ai_int h
  have hl : zs.length = len := by rw [h2.hlen, Nat.mul_one]
  refine ⟨A, zs, cap, by rw [hl]; simpa using h1, h2.arr, by rw [hl]; exact h2.big, h2.wf⟩

set_option maxRecDepth 100000 in
theorem open_odd {H : Type} {enc : TypeId × Value → H} {W : World} {base : Nat} {sp : Nat → Bool} {hd : Bool} {val : Value} {d : DataW H} {ps : List MemPlace} (hv : Value.okWide Try.prog W .any base 26 val) (h : DataW.Trod enc Try.prog W 0 sp hd 26 val d ps) :
    ∃ (op v wd k n : Int) (A0 A1 A2 A3 : Option Addr) (c0 c1 c2 c3 : Nat) (ws vs num : List Int) (l : List Bool), val = .agg #[.int .i64 op, .int .i64 v, .int .i64 wd, .slice A0 ws.length c0, .slice A1 vs.length c1, .slice A2 num.length c2, .int .i64 k, .int .i64 n, .slice A3 l.length c3] ∧
      (ArrI W A0 ws ∧ ws.length ≤ maxLen) ∧ (ArrI W A1 vs ∧ vs.length ≤ maxLen) ∧ (ArrI W A2 num ∧ num.length ≤ maxLen) ∧ (ArrB W A3 l ∧ l.length ≤ c3 ∧ c3 ≤ maxLen ∧ (A3 = none → c3 = 0 ∧ l = [])) ∧
      (-9223372036854775808 ≤ k ∧ k ≤ 9223372036854775807) ∧ (-9223372036854775808 ≤ n ∧ n ≤ 9223372036854775807) ∧ ∀ x ∈ num, -9223372036854775808 ≤ x ∧ x ≤ 9223372036854775807 := by
  obtain ⟨cs, rfl, hsz⟩ := okWide_struct Try.underlying26 hv
  obtain ⟨l⟩ := cs
  obtain ⟨fuel, hf⟩ := h
  have hl : l.length = 9 := by obtain ⟨_, _, _, _, hl, _⟩ := DataW.trod_struct Try.underlying26 hf; exact hl.trans (by kernel_rfl)
  clear hsz hv
  obtain ⟨z0, t0, rfl, hl0⟩ := uncons (n := 8) hl
  obtain ⟨z1, t1, rfl, hl1⟩ := uncons (n := 7) hl0
  obtain ⟨z2, t2, rfl, hl2⟩ := uncons (n := 6) hl1
  obtain ⟨z3, t3, rfl, hl3⟩ := uncons (n := 5) hl2
  obtain ⟨z4, t4, rfl, hl4⟩ := uncons (n := 4) hl3
  obtain ⟨z5, t5, rfl, hl5⟩ := uncons (n := 3) hl4
  obtain ⟨z6, t6, rfl, hl6⟩ := uncons (n := 2) hl5
  obtain ⟨z7, t7, rfl, hl7⟩ := uncons (n := 1) hl6
  obtain ⟨z8, t8, rfl, hl8⟩ := uncons (n := 0) hl7
  obtain rfl := List.eq_nil_of_length_eq_zero hl8
  obtain ⟨f0, x0, e0⟩ := field_is Try.underlying26 hf 0 _ rfl 1 (by kernel_rfl)
  replace e0 : DataW.trod enc Try.prog W 0 sp hd f0 3 [z0] = some x0 := e0
  obtain ⟨f1, x1, e1⟩ := field_is Try.underlying26 hf 1 _ rfl 1 (by kernel_rfl)
  replace e1 : DataW.trod enc Try.prog W 0 sp hd f1 3 [z1] = some x1 := e1
  obtain ⟨f2, x2, e2⟩ := field_is Try.underlying26 hf 2 _ rfl 1 (by kernel_rfl)
  replace e2 : DataW.trod enc Try.prog W 0 sp hd f2 3 [z2] = some x2 := e2
  obtain ⟨f3, x3, e3⟩ := field_is Try.underlying26 hf 3 _ rfl 1 (by kernel_rfl)
  replace e3 : DataW.trod enc Try.prog W 0 sp hd f3 22 [z3] = some x3 := e3
  obtain ⟨f4, x4, e4⟩ := field_is Try.underlying26 hf 4 _ rfl 1 (by kernel_rfl)
  replace e4 : DataW.trod enc Try.prog W 0 sp hd f4 22 [z4] = some x4 := e4
  obtain ⟨f5, x5, e5⟩ := field_is Try.underlying26 hf 5 _ rfl 1 (by kernel_rfl)
  replace e5 : DataW.trod enc Try.prog W 0 sp hd f5 22 [z5] = some x5 := e5
  obtain ⟨f6, x6, e6⟩ := field_is Try.underlying26 hf 6 _ rfl 2 (by kernel_rfl)
  replace e6 : DataW.trod enc Try.prog W 0 sp hd f6 23 [z6, z7] = some x6 := e6
  obtain ⟨f7, x7, e7⟩ := field_is Try.underlying26 hf 7 _ rfl 1 (by kernel_rfl)
  replace e7 : DataW.trod enc Try.prog W 0 sp hd f7 24 [z8] = some x7 := e7
  obtain ⟨op, rfl, _⟩ := ai_one (ai_int _ _ _ e0)
  obtain ⟨v, rfl, _⟩ := ai_one (ai_int _ _ _ e1)
  obtain ⟨wd, rfl, _⟩ := ai_one (ai_int _ _ _ e2)
  obtain ⟨A0, ws, c0, rfl, a0, b0, _⟩ := ints_is e3
  obtain ⟨A1, vs, c1, rfl, a1, b1, _⟩ := ints_is e4
  obtain ⟨A2, num, c2, rfl, a2, b2, w2⟩ := ints_is e5
  obtain ⟨k, n, rfl, rfl, hk, hn⟩ := ai_two (array_ai Try.underlying23 e6 1 (by kernel_rfl) (by kernel_rfl) ai_int)
  obtain ⟨A3, len, c3, l, h7, rfl, l1, l2, l3, l4⟩ := open_flags Try.underlying24 Try.underlying4 (by kernel_rfl) e7
  obtain rfl : z8 = .slice A3 l.length c3 := by simpa using h7
  exact ⟨op, v, wd, k, n, A0, A1, A2, A3, c0, c1, c2, c3, ws, vs, num, l, rfl, ⟨a0, b0⟩, ⟨a1, b1⟩, ⟨a2, b2⟩, ⟨l3, l1, l2, l4⟩, hk, hn, w2⟩


end Bt
end Go.Proofs.Ytjfijhchnchfcaa
