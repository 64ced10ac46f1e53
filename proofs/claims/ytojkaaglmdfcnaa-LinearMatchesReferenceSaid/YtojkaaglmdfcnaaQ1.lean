/- For every row without listed variables: slices of integers that come in, opened. Arguments that consist of integers alone, however nested: opened as a list of integers. Statement LinearMatchesReference: for every input, with no condition, the law returns true and its arguments read afterwards as they read before. -/
import Derived.Test.YtojkaaglmdfcnaaS1
import Derived.Test.YtojkaaglmdfcnaaRows
import Derived.WalkKit
import Derived.ProofKit
import Derived.OpenShut
import Derived.RowKit3
import Derived.ChangeArms
import Derived.Test.YtojkaaglmdfcnaaN21
namespace Go.Proofs.Ytojkaaglmdfcnaa
open Go.ChangeShapes Go.WideShapes Go.ChangeAt Go.RowKit
namespace Sl
set_option linter.unusedVariables false

theorem own : ownKnob Try.prog.godebug = none := by kernel_rfl
theorem laidOut : laidOutB Try.prog = true := by kernel_rfl
/-- A number fits its kind. -/
def kin (k : IntKind) (x : Int) : Prop := (Lit.int k x).wf = true

/-- What the walk is told of a slice of integers that came in. -/
def IsRow (k : IntKind) (w : World) (a : Option Addr) (len cap : Nat) (zs : List Int) : Prop :=
  (a = none ∧ len = 0 ∧ cap = 0 ∧ zs = []) ∨
  ∃ x, a = some x ∧ len ≤ cap ∧ cap ≤ maxLen ∧ zs.length = cap ∧ (∀ i, i < zs.length → w.cell? (x.add i) = some (.int k (zs.getD i 0))) ∧ ∀ n ∈ zs, (Lit.int k n).wf = true

/-- Its elements as a list. -/
structure RowIs (k : IntKind) (w : World) (A : Option Addr) (len cap : Nat) (l : List Int) : Prop where
  hlen : l.length = len
  hcap : len ≤ cap
  arr : Arr w A (l.map (Value.int k))
  nil : A = none → cap = 0 ∧ l = []
  wf : ∀ x ∈ l, (Lit.int k x).wf = true
  big : len ≤ maxLen

theorem IsRow.list {k : IntKind} {w : World} {a : Option Addr} {len cap : Nat} {zs : List Int} (h : IsRow k w a len cap zs) : ∃ l, RowIs k w a len cap l := by
  rcases h with ⟨rfl, rfl, rfl, rfl⟩ | ⟨x, rfl, hl, hm, hz, hcell, hwf⟩
  · exact ⟨[], rfl, Nat.le_refl _, Arr.nil _ _, fun _ => ⟨rfl, rfl⟩, by simp, by unfold maxLen; omega⟩
  · refine ⟨zs.take len, by simp; omega, hl, fun hne => ?_, fun h => (by cases h), fun y hy => hwf y (List.mem_of_mem_take hy), by omega⟩
    have hpos : 0 < zs.length := by
      rcases Nat.eq_zero_or_pos zs.length with h0 | h0
      · rw [List.length_eq_zero_iff] at h0
        subst h0
        simp at hne
      · exact h0
    obtain ⟨b, off, spot⟩ := x
    have hc := hcell 0 hpos
    have hspot : spot = none := by simpa [Addr.add] using World.cell?_spot hc
    subst hspot
    refine ⟨b, off, rfl, World.block_lt_of_cell? w _ hc, fun j u hu => ?_⟩
    rw [List.getElem?_map] at hu
    have hj : j < (zs.take len).length := by
      rcases Nat.lt_or_ge j (zs.take len).length with h | h
      · exact h
      · rw [List.getElem?_eq_none h] at hu; cases hu
    rw [List.getElem?_eq_getElem hj] at hu
    have hj' : j < len ∧ j < zs.length := by simp at hj; omega
    have h2 := hcell j hj'.2
    have e0 : (⟨b, off, none⟩ : Addr).add j = ⟨b, off + j, none⟩ := by
      rcases Nat.eq_zero_or_pos j with hj0 | hj0
      · subst hj0; rfl
      · simp [Addr.add, Nat.ne_of_gt hj0]
    rw [e0] at h2
    rw [h2, ← hu]
    simp [List.getD, hj'.2]

theorem bytes_of {w : World} {A : Option Addr} {len cap : Nat} {l : List Int} (h : RowIs .u8 w A len cap l) : ∀ x ∈ l, 0 ≤ x ∧ x ≤ 255 := fun x hx => by
  have := bounds_u8 (h.wf x hx)
  omega

end Sl
end Go.Proofs.Ytojkaaglmdfcnaa

namespace Go.Proofs.Ytojkaaglmdfcnaa
open Go.ChangeShapes Go.WideShapes Go.ChangeAt Go.RowKit
namespace Sl
set_option linter.unusedVariables false

/-- These n cells are integers. -/
def AI (cs : List Value) (n : Nat) : Prop := ∃ zs : List Int, zs.length = n ∧ cs = zs.map (Value.int .i64) ∧ ∀ x ∈ zs, -9223372036854775808 ≤ x ∧ x ≤ 9223372036854775807
theorem AI.nil : AI [] 0 := ⟨[], rfl, rfl, by simp⟩
theorem AI.join {cs : List Value} {k s : Nat} (h : AI ((cs.drop 0).take k) k) (h2 : AI ((cs.drop k).take s) s) : AI ((cs.drop 0).take (k + s)) (k + s) := by
  obtain ⟨zs, h1, e1, b1⟩ := h
  obtain ⟨ys, h3, e3, b3⟩ := h2
  refine ⟨zs ++ ys, by simp [h1, h3], ?_, fun x hx => ?_⟩
  · rw [List.drop_zero] at *
    rw [List.take_add, e1, e3, List.map_append]
  · rcases List.mem_append.1 hx with h | h
    · exact b1 x h
    · exact b3 x h
theorem AI.whole {cs : List Value} {n : Nat} (hl : cs.length = n) (h : AI ((cs.drop 0).take n) n) : AI cs n := by
  rw [List.drop_zero, List.take_of_length_le (by omega)] at h
  exact h
section
variable {H : Type} {enc : TypeId × Value → H} {P : Program} {w : World} {base : Nat} {sp : Nat → Bool} {hd : Bool} {fuel : Nat} {t : TypeId} {cs : List Value} {x : DataW H × List MemPlace}
theorem field_ai {fs : Array Field} (hu : P.underlying t = some (.struct fs)) (h : DataW.trod enc P w base sp hd fuel t cs = some x) (i : Nat) (f : Field) (hf : fs[i]? = some f) (s : Nat) (hs : P.cellsOf f.type = s)
    (k : ∀ fuel cs x, DataW.trod enc P w base sp hd fuel f.type cs = some x → AI cs s) : AI ((cs.drop f.offset).take s) s := by
  obtain ⟨xs, n, _, _, hl, hlen, hel⟩ := DataW.trod_struct hu h
  have e := hel i f hf
  have hi : i < xs.length := by rw [hlen]; exact (Array.getElem?_eq_some_iff.1 hf).1
  rw [List.getElem?_eq_getElem hi, hs] at e
  exact k _ _ _ e
theorem array_ai {n : Nat} {e : TypeId} (hu : P.underlying t = some (.array n e)) (h : DataW.trod enc P w base sp hd fuel t cs = some x) (s : Nat) (hs : P.cellsOf e = s) (hc : P.cellsOf t = n * s)
    (k : ∀ fuel cs x, DataW.trod enc P w base sp hd fuel e cs = some x → AI cs s) : AI cs (n * s) := by
  obtain ⟨xs, m, _, _, hl, hlen, hel⟩ := DataW.trod_array hu h
  refine AI.whole (hl.trans hc) ?_
  have : ∀ j, j ≤ n → AI ((cs.drop 0).take (j * s)) (j * s) := by
    intro j
    induction j with
    | zero => intro _; rw [Nat.zero_mul]; exact ⟨[], rfl, by simp, by simp⟩
    | succ j ih =>
      intro hj
      have e := hel j (by omega)
      have hi : j < xs.length := by omega
      rw [List.getElem?_eq_getElem hi, hs] at e
      have := (ih (by omega)).join (k _ _ _ e)
      rwa [show j * s + s = (j + 1) * s by rw [Nat.succ_mul]] at this
  exact this n (Nat.le_refl _)
end
theorem uncons {α : Type} {l : List α} {n : Nat} (h : l.length = n + 1) : ∃ a t, l = a :: t ∧ t.length = n := by
  cases l with
  | nil => cases h
  | cons a t => exact ⟨a, t, rfl, by simpa using h⟩

end Sl
end Go.Proofs.Ytojkaaglmdfcnaa

namespace Go.Proofs.Ytojkaaglmdfcnaa.linearMatchesReference
open Go.ChangeShapes Go.WideShapes Go.ChangeAt Go.RowKit Sl Fr
set_option linter.unusedVariables false

theorem ai_int {H : Type} {enc : TypeId × Value → H} {W : World} {sp : Nat → Bool} {hd : Bool} : ∀ (fuel : Nat) (cs : List Value) (x : DataW H × List MemPlace), DataW.trod enc Try.prog W 0 sp hd fuel 3 cs = some x → AI cs 1 := fun fuel cs x h => by
  obtain ⟨n, q, _, w0⟩ := DataW.trod_int Try.underlying3 h
  have b := bounds_i64 w0
  exact ⟨[n], rfl, by simpa using q, by intro y hy; simp at hy; subst hy; omega⟩
theorem ai_frac {H : Type} {enc : TypeId × Value → H} {W : World} {sp : Nat → Bool} {hd : Bool} : ∀ (fuel : Nat) (cs : List Value) (x : DataW H × List MemPlace), DataW.trod enc Try.prog W 0 sp hd fuel 23 cs = some x → AI cs 2 := fun fuel cs x h => by
  have hl : cs.length = 2 := by obtain ⟨_, _, _, _, hl, _⟩ := DataW.trod_struct Try.underlying23 h; exact hl.trans (by kernel_rfl)
  have e0 := field_ai Try.underlying23 h 0 _ rfl 1 (by kernel_rfl) ai_int
  have e1 := field_ai Try.underlying23 h 1 _ rfl 1 (by kernel_rfl) ai_int
  exact AI.whole hl (e0.join e1)
theorem ai_interval {H : Type} {enc : TypeId × Value → H} {W : World} {sp : Nat → Bool} {hd : Bool} : ∀ (fuel : Nat) (cs : List Value) (x : DataW H × List MemPlace), DataW.trod enc Try.prog W 0 sp hd fuel 27 cs = some x → AI cs 4 := fun fuel cs x h => by
  have hl : cs.length = 4 := by obtain ⟨_, _, _, _, hl, _⟩ := DataW.trod_struct Try.underlying27 h; exact hl.trans (by kernel_rfl)
  have e0 := field_ai Try.underlying27 h 0 _ rfl 2 (by kernel_rfl) ai_frac
  have e1 := field_ai Try.underlying27 h 1 _ rfl 2 (by kernel_rfl) ai_frac
  exact AI.whole hl (e0.join e1)
theorem ai_box {H : Type} {enc : TypeId × Value → H} {W : World} {sp : Nat → Bool} {hd : Bool} : ∀ (fuel : Nat) (cs : List Value) (x : DataW H × List MemPlace), DataW.trod enc Try.prog W 0 sp hd fuel 29 cs = some x → AI cs 12 := fun fuel cs x h => by
  have hl : cs.length = 12 := by obtain ⟨_, _, _, _, hl, _⟩ := DataW.trod_struct Try.underlying29 h; exact hl.trans (by kernel_rfl)
  have e0 := field_ai Try.underlying29 h 0 _ rfl 4 (by kernel_rfl) ai_interval
  have e1 := field_ai Try.underlying29 h 1 _ rfl 4 (by kernel_rfl) ai_interval
  have e2 := field_ai Try.underlying29 h 2 _ rfl 4 (by kernel_rfl) ai_interval
  exact AI.whole hl ((e0.join e1).join e2)
theorem ai_linear {H : Type} {enc : TypeId × Value → H} {W : World} {sp : Nat → Bool} {hd : Bool} : ∀ (fuel : Nat) (cs : List Value) (x : DataW H × List MemPlace), DataW.trod enc Try.prog W 0 sp hd fuel 25 cs = some x → AI cs 8 := fun fuel cs x h => by
  have hl : cs.length = 8 := by obtain ⟨_, _, _, _, hl, _⟩ := DataW.trod_struct Try.underlying25 h; exact hl.trans (by kernel_rfl)
  have e0 := field_ai Try.underlying25 h 0 _ rfl 2 (by kernel_rfl) ai_frac
  have e1 := field_ai Try.underlying25 h 1 _ rfl 2 (by kernel_rfl) ai_frac
  have e2 := field_ai Try.underlying25 h 2 _ rfl 2 (by kernel_rfl) ai_frac
  have e3 := field_ai Try.underlying25 h 3 _ rfl 2 (by kernel_rfl) ai_frac
  exact AI.whole hl (((e0.join e1).join e2).join e3)
theorem ai_24 {H : Type} {enc : TypeId × Value → H} {W : World} {sp : Nat → Bool} {hd : Bool} : ∀ (fuel : Nat) (cs : List Value) (x : DataW H × List MemPlace), DataW.trod enc Try.prog W 0 sp hd fuel 30 cs = some x → AI cs 24 := fun fuel cs x h => array_ai Try.underlying30 h 1 (by kernel_rfl) (by kernel_rfl) ai_int
theorem ai_3 {H : Type} {enc : TypeId × Value → H} {W : World} {sp : Nat → Bool} {hd : Bool} : ∀ (fuel : Nat) (cs : List Value) (x : DataW H × List MemPlace), DataW.trod enc Try.prog W 0 sp hd fuel 31 cs = some x → AI cs 6 := fun fuel cs x h => array_ai Try.underlying31 h 2 (by kernel_rfl) (by kernel_rfl) ai_frac
theorem ai_any {H : Type} {enc : TypeId × Value → H} {W : World} {sp : Nat → Bool} {hd : Bool} : ∀ (fuel : Nat) (cs : List Value) (x : DataW H × List MemPlace), DataW.trod enc Try.prog W 0 sp hd fuel 33 cs = some x → AI cs 70 := fun fuel cs x h => by
  have hl : cs.length = 70 := by obtain ⟨_, _, _, _, hl, _⟩ := DataW.trod_struct Try.underlying33 h; exact hl.trans (by kernel_rfl)
  have e0 := field_ai Try.underlying33 h 0 _ rfl 8 (by kernel_rfl) ai_linear
  have e1 := field_ai Try.underlying33 h 1 _ rfl 8 (by kernel_rfl) ai_linear
  have e2 := field_ai Try.underlying33 h 2 _ rfl 12 (by kernel_rfl) ai_box
  have e3 := field_ai Try.underlying33 h 3 _ rfl 12 (by kernel_rfl) ai_box
  have e4 := field_ai Try.underlying33 h 4 _ rfl 24 (by kernel_rfl) ai_24
  have e5 := field_ai Try.underlying33 h 5 _ rfl 6 (by kernel_rfl) ai_3
  exact AI.whole hl (((((e0.join e1).join e2).join e3).join e4).join e5)

set_option maxRecDepth 100000 in
/-- The law's own argument, by value. -/
theorem open_any {H : Type} {enc : TypeId × Value → H} {W : World} {base : Nat} {sp : Nat → Bool} {hd : Bool} {v : Value} {d : DataW H} {ps : List MemPlace} (hv : Value.okWide Try.prog W .any base 33 v) (h : DataW.Trod enc Try.prog W 0 sp hd 33 v d ps) :
    ∃ z0 z1 z2 z3 z4 z5 z6 z7 z8 z9 z10 z11 z12 z13 z14 z15 z16 z17 z18 z19 z20 z21 z22 z23 z24 z25 z26 z27 z28 z29 z30 z31 z32 z33 z34 z35 z36 z37 z38 z39 z40 z41 z42 z43 z44 z45 z46 z47 z48 z49 z50 z51 z52 z53 z54 z55 z56 z57 z58 z59 z60 z61 z62 z63 z64 z65 z66 z67 z68 z69 : Int, v = .agg #[.int .i64 z0, .int .i64 z1, .int .i64 z2, .int .i64 z3, .int .i64 z4, .int .i64 z5, .int .i64 z6, .int .i64 z7, .int .i64 z8, .int .i64 z9, .int .i64 z10, .int .i64 z11, .int .i64 z12, .int .i64 z13, .int .i64 z14, .int .i64 z15, .int .i64 z16, .int .i64 z17, .int .i64 z18, .int .i64 z19, .int .i64 z20, .int .i64 z21, .int .i64 z22, .int .i64 z23, .int .i64 z24, .int .i64 z25, .int .i64 z26, .int .i64 z27, .int .i64 z28, .int .i64 z29, .int .i64 z30, .int .i64 z31, .int .i64 z32, .int .i64 z33, .int .i64 z34, .int .i64 z35, .int .i64 z36, .int .i64 z37, .int .i64 z38, .int .i64 z39, .int .i64 z40, .int .i64 z41, .int .i64 z42, .int .i64 z43, .int .i64 z44, .int .i64 z45, .int .i64 z46, .int .i64 z47, .int .i64 z48, .int .i64 z49, .int .i64 z50, .int .i64 z51, .int .i64 z52, .int .i64 z53, .int .i64 z54, .int .i64 z55, .int .i64 z56, .int .i64 z57, .int .i64 z58, .int .i64 z59, .int .i64 z60, .int .i64 z61, .int .i64 z62, .int .i64 z63, .int .i64 z64, .int .i64 z65, .int .i64 z66, .int .i64 z67, .int .i64 z68, .int .i64 z69] ∧ ∀ x ∈ [z0, z1, z2, z3, z4, z5, z6, z7, z8, z9, z10, z11, z12, z13, z14, z15, z16, z17, z18, z19, z20, z21, z22, z23, z24, z25, z26, z27, z28, z29, z30, z31, z32, z33, z34, z35, z36, z37, z38, z39, z40, z41, z42, z43, z44, z45, z46, z47, z48, z49, z50, z51, z52, z53, z54, z55, z56, z57, z58, z59, z60, z61, z62, z63, z64, z65, z66, z67, z68, z69], I64 x := by
  obtain ⟨cs, rfl, hsz⟩ := okWide_struct Try.underlying33 hv
  obtain ⟨l⟩ := cs
  obtain ⟨fuel, hf⟩ := h
  obtain ⟨zs, hl, e, hb⟩ := ai_any _ _ _ hf
  have e2 : l = zs.map (Value.int .i64) := e
  subst e2
  clear e hf hsz hv
  obtain ⟨z0, zt0, rfl, hl0⟩ := uncons (n := 69) hl
  clear hl
  obtain ⟨z1, zt1, rfl, hl1⟩ := uncons (n := 68) hl0
  clear hl0
  obtain ⟨z2, zt2, rfl, hl2⟩ := uncons (n := 67) hl1
  clear hl1
  obtain ⟨z3, zt3, rfl, hl3⟩ := uncons (n := 66) hl2
  clear hl2
  obtain ⟨z4, zt4, rfl, hl4⟩ := uncons (n := 65) hl3
  clear hl3
  obtain ⟨z5, zt5, rfl, hl5⟩ := uncons (n := 64) hl4
  clear hl4
  obtain ⟨z6, zt6, rfl, hl6⟩ := uncons (n := 63) hl5
  clear hl5
  obtain ⟨z7, zt7, rfl, hl7⟩ := uncons (n := 62) hl6
  clear hl6
  obtain ⟨z8, zt8, rfl, hl8⟩ := uncons (n := 61) hl7
  clear hl7
  obtain ⟨z9, zt9, rfl, hl9⟩ := uncons (n := 60) hl8
  clear hl8
  obtain ⟨z10, zt10, rfl, hl10⟩ := uncons (n := 59) hl9
  clear hl9
  obtain ⟨z11, zt11, rfl, hl11⟩ := uncons (n := 58) hl10
  clear hl10
  obtain ⟨z12, zt12, rfl, hl12⟩ := uncons (n := 57) hl11
  clear hl11
  obtain ⟨z13, zt13, rfl, hl13⟩ := uncons (n := 56) hl12
  clear hl12
  obtain ⟨z14, zt14, rfl, hl14⟩ := uncons (n := 55) hl13
  clear hl13
  obtain ⟨z15, zt15, rfl, hl15⟩ := uncons (n := 54) hl14
  clear hl14
  obtain ⟨z16, zt16, rfl, hl16⟩ := uncons (n := 53) hl15
  clear hl15
  obtain ⟨z17, zt17, rfl, hl17⟩ := uncons (n := 52) hl16
  clear hl16
  obtain ⟨z18, zt18, rfl, hl18⟩ := uncons (n := 51) hl17
  clear hl17
  obtain ⟨z19, zt19, rfl, hl19⟩ := uncons (n := 50) hl18
  clear hl18
  obtain ⟨z20, zt20, rfl, hl20⟩ := uncons (n := 49) hl19
  clear hl19
  obtain ⟨z21, zt21, rfl, hl21⟩ := uncons (n := 48) hl20
  clear hl20
  obtain ⟨z22, zt22, rfl, hl22⟩ := uncons (n := 47) hl21
  clear hl21
  obtain ⟨z23, zt23, rfl, hl23⟩ := uncons (n := 46) hl22
  clear hl22
  obtain ⟨z24, zt24, rfl, hl24⟩ := uncons (n := 45) hl23
  clear hl23
  obtain ⟨z25, zt25, rfl, hl25⟩ := uncons (n := 44) hl24
  clear hl24
  obtain ⟨z26, zt26, rfl, hl26⟩ := uncons (n := 43) hl25
  clear hl25
  obtain ⟨z27, zt27, rfl, hl27⟩ := uncons (n := 42) hl26
  clear hl26
  obtain ⟨z28, zt28, rfl, hl28⟩ := uncons (n := 41) hl27
  clear hl27
  obtain ⟨z29, zt29, rfl, hl29⟩ := uncons (n := 40) hl28
  clear hl28
  obtain ⟨z30, zt30, rfl, hl30⟩ := uncons (n := 39) hl29
  clear hl29
  obtain ⟨z31, zt31, rfl, hl31⟩ := uncons (n := 38) hl30
  clear hl30
  obtain ⟨z32, zt32, rfl, hl32⟩ := uncons (n := 37) hl31
  clear hl31
  obtain ⟨z33, zt33, rfl, hl33⟩ := uncons (n := 36) hl32
  clear hl32
  obtain ⟨z34, zt34, rfl, hl34⟩ := uncons (n := 35) hl33
  clear hl33
  obtain ⟨z35, zt35, rfl, hl35⟩ := uncons (n := 34) hl34
  clear hl34
  obtain ⟨z36, zt36, rfl, hl36⟩ := uncons (n := 33) hl35
  clear hl35
  obtain ⟨z37, zt37, rfl, hl37⟩ := uncons (n := 32) hl36
  clear hl36
  obtain ⟨z38, zt38, rfl, hl38⟩ := uncons (n := 31) hl37
  clear hl37
  obtain ⟨z39, zt39, rfl, hl39⟩ := uncons (n := 30) hl38
  clear hl38
  obtain ⟨z40, zt40, rfl, hl40⟩ := uncons (n := 29) hl39
  clear hl39
  obtain ⟨z41, zt41, rfl, hl41⟩ := uncons (n := 28) hl40
  clear hl40
  obtain ⟨z42, zt42, rfl, hl42⟩ := uncons (n := 27) hl41
  clear hl41
  obtain ⟨z43, zt43, rfl, hl43⟩ := uncons (n := 26) hl42
  clear hl42
  obtain ⟨z44, zt44, rfl, hl44⟩ := uncons (n := 25) hl43
  clear hl43
  obtain ⟨z45, zt45, rfl, hl45⟩ := uncons (n := 24) hl44
  clear hl44
  obtain ⟨z46, zt46, rfl, hl46⟩ := uncons (n := 23) hl45
  clear hl45
  obtain ⟨z47, zt47, rfl, hl47⟩ := uncons (n := 22) hl46
  clear hl46
  obtain ⟨z48, zt48, rfl, hl48⟩ := uncons (n := 21) hl47
  clear hl47
  obtain ⟨z49, zt49, rfl, hl49⟩ := uncons (n := 20) hl48
  clear hl48
  obtain ⟨z50, zt50, rfl, hl50⟩ := uncons (n := 19) hl49
  clear hl49
  obtain ⟨z51, zt51, rfl, hl51⟩ := uncons (n := 18) hl50
  clear hl50
  obtain ⟨z52, zt52, rfl, hl52⟩ := uncons (n := 17) hl51
  clear hl51
  obtain ⟨z53, zt53, rfl, hl53⟩ := uncons (n := 16) hl52
  clear hl52
  obtain ⟨z54, zt54, rfl, hl54⟩ := uncons (n := 15) hl53
  clear hl53
  obtain ⟨z55, zt55, rfl, hl55⟩ := uncons (n := 14) hl54
  clear hl54
  obtain ⟨z56, zt56, rfl, hl56⟩ := uncons (n := 13) hl55
  clear hl55
  obtain ⟨z57, zt57, rfl, hl57⟩ := uncons (n := 12) hl56
  clear hl56
  obtain ⟨z58, zt58, rfl, hl58⟩ := uncons (n := 11) hl57
  clear hl57
  obtain ⟨z59, zt59, rfl, hl59⟩ := uncons (n := 10) hl58
  clear hl58
  obtain ⟨z60, zt60, rfl, hl60⟩ := uncons (n := 9) hl59
  clear hl59
  obtain ⟨z61, zt61, rfl, hl61⟩ := uncons (n := 8) hl60
  clear hl60
  obtain ⟨z62, zt62, rfl, hl62⟩ := uncons (n := 7) hl61
  clear hl61
  obtain ⟨z63, zt63, rfl, hl63⟩ := uncons (n := 6) hl62
  clear hl62
  obtain ⟨z64, zt64, rfl, hl64⟩ := uncons (n := 5) hl63
  clear hl63
  obtain ⟨z65, zt65, rfl, hl65⟩ := uncons (n := 4) hl64
  clear hl64
  obtain ⟨z66, zt66, rfl, hl66⟩ := uncons (n := 3) hl65
  clear hl65
  obtain ⟨z67, zt67, rfl, hl67⟩ := uncons (n := 2) hl66
  clear hl66
  obtain ⟨z68, zt68, rfl, hl68⟩ := uncons (n := 1) hl67
  clear hl67
  obtain ⟨z69, zt69, rfl, hl69⟩ := uncons (n := 0) hl68
  clear hl68
  obtain rfl := List.eq_nil_of_length_eq_zero hl69
  exact ⟨z0, z1, z2, z3, z4, z5, z6, z7, z8, z9, z10, z11, z12, z13, z14, z15, z16, z17, z18, z19, z20, z21, z22, z23, z24, z25, z26, z27, z28, z29, z30, z31, z32, z33, z34, z35, z36, z37, z38, z39, z40, z41, z42, z43, z44, z45, z46, z47, z48, z49, z50, z51, z52, z53, z54, z55, z56, z57, z58, z59, z60, z61, z62, z63, z64, z65, z66, z67, z68, z69, rfl, hb⟩

set_option maxRecDepth 100000 in
theorem lifted (os : Os) (started : os.Started) (H : Type) (enc : TypeId × Value → H) :
    ReturnsInHanded {} Try.checked os 3 .any (Rows.linearMatchesReferenceSpec.pre6 enc Try.prog Try.f3 Rows.linearMatchesReferenceRow.domain false) (Rows.linearMatchesReferenceSpec.post enc Try.prog Try.f3 false true false false) := by
  refine returnsInHanded_of_change (C := Try.checked) own started (by kernel_rfl) Try.func3
    (ChangeSpec.witness6 (enc := enc) (C := Try.checked) false ⟨#[], #[.agg #[.int .i64 0, .int .i64 0, .int .i64 0, .int .i64 0, .int .i64 0, .int .i64 0, .int .i64 0, .int .i64 0, .int .i64 0, .int .i64 0, .int .i64 0, .int .i64 0, .int .i64 0, .int .i64 0, .int .i64 0, .int .i64 0, .int .i64 0, .int .i64 0, .int .i64 0, .int .i64 0, .int .i64 0, .int .i64 0, .int .i64 0, .int .i64 0, .int .i64 0, .int .i64 0, .int .i64 0, .int .i64 0, .int .i64 0, .int .i64 0, .int .i64 0, .int .i64 0, .int .i64 0, .int .i64 0, .int .i64 0, .int .i64 0, .int .i64 0, .int .i64 0, .int .i64 0, .int .i64 0, .int .i64 0, .int .i64 0, .int .i64 0, .int .i64 0, .int .i64 0, .int .i64 0, .int .i64 0, .int .i64 0, .int .i64 0, .int .i64 0, .int .i64 0, .int .i64 0, .int .i64 0, .int .i64 0, .int .i64 0, .int .i64 0, .int .i64 0, .int .i64 0, .int .i64 0, .int .i64 0, .int .i64 0, .int .i64 0, .int .i64 0, .int .i64 0, .int .i64 0, .int .i64 0, .int .i64 0, .int .i64 0, .int .i64 0, .int .i64 0], .slice none 0 0, .slice none 0 0], []⟩ 8 (by kernel_rfl) (by kernel_rfl) (by kernel_rfl) (by kernel_rfl)) ?_
  intro W base args ds gs before hval0 hW hcnd _
  have hval : ∀ (j : Nat) t v, Try.f3.params[j]? = some t → args[j]? = some v → Value.okWide Try.prog W .any base t v := hval0
  have hW' := hW
  obtain ⟨p, q, hA0, hV, rfl, hfz, hnd⟩ := hW
  have hA : DataW.TrodAll enc Try.prog W 0 (fun _ => true) true Try.f3.params.toList args.toList ds p := hA0
  rw [Try.params3] at hA hval
  obtain ⟨v0, vs0, d0, ds0, p0, q0, hargs, rfl, rfl, h0, r0⟩ := trodAll_cons hA
  obtain ⟨v1, vs1, d1, ds1, p1, q1, rfl, rfl, rfl, h1, r1⟩ := trodAll_cons r0
  obtain ⟨v2, vs2, d2, ds2, p2, q2, rfl, rfl, rfl, h2, r2⟩ := trodAll_cons r1
  obtain ⟨rfl, rfl, rfl⟩ := trodAll_nil r2
  obtain rfl : args = #[v0, v1, v2] := by cases args; simp_all
  obtain ⟨rfl, rfl⟩ := trodVars_none hV
  have k0 := h0
  have lt0 : ∀ x ∈ p0, x.block < W.heap.size := by obtain ⟨m, hm⟩ := k0; exact DataW.trod_lt m _ _ _ hm
  have k1 := h1
  have lt1 : ∀ x ∈ p1, x.block < W.heap.size := by obtain ⟨m, hm⟩ := k1; exact DataW.trod_lt m _ _ _ hm
  have k2 := h2
  have lt2 : ∀ x ∈ p2, x.block < W.heap.size := by obtain ⟨m, hm⟩ := k2; exact DataW.trod_lt m _ _ _ hm
  obtain ⟨z0, z1, z2, z3, z4, z5, z6, z7, z8, z9, z10, z11, z12, z13, z14, z15, z16, z17, z18, z19, z20, z21, z22, z23, z24, z25, z26, z27, z28, z29, z30, z31, z32, z33, z34, z35, z36, z37, z38, z39, z40, z41, z42, z43, z44, z45, z46, z47, z48, z49, z50, z51, z52, z53, z54, z55, z56, z57, z58, z59, z60, z61, z62, z63, z64, z65, z66, z67, z68, z69, rfl, hz⟩ := open_any (hval 0 33 v0 rfl rfl) h0
  obtain ⟨A1, len1, cap1, rfl⟩ := okWide_slice Try.underlying34 (hval 1 34 v1 rfl rfl)
  obtain ⟨z1, w1⟩ : ∃ zs, IsRow .u8 W A1 len1 cap1 zs := by
    obtain ⟨fuel, hf⟩ := h1
    rcases open_ints Try.underlying34 Try.underlying5 (by kernel_rfl) hf with ⟨hcs, _⟩ | ⟨x, l, c, zs, hcs, _, hl, hm, hz, _, hcell, hwz⟩
    · simp [Value.cells] at hcs
      obtain ⟨rfl, rfl, rfl⟩ := hcs
      exact ⟨[], .inl ⟨rfl, rfl, rfl, rfl⟩⟩
    · simp [Value.cells] at hcs
      obtain ⟨rfl, rfl, rfl⟩ := hcs
      exact ⟨zs, .inr ⟨_, rfl, hl, hm, by simpa using hz, hcell, hwz⟩⟩
  obtain ⟨l1, hl1⟩ := w1.list
  obtain ⟨A2, len2, cap2, rfl⟩ := okWide_slice Try.underlying34 (hval 2 34 v2 rfl rfl)
  obtain ⟨z2, w2⟩ : ∃ zs, IsRow .u8 W A2 len2 cap2 zs := by
    obtain ⟨fuel, hf⟩ := h2
    rcases open_ints Try.underlying34 Try.underlying5 (by kernel_rfl) hf with ⟨hcs, _⟩ | ⟨x, l, c, zs, hcs, _, hl, hm, hz, _, hcell, hwz⟩
    · simp [Value.cells] at hcs
      obtain ⟨rfl, rfl, rfl⟩ := hcs
      exact ⟨[], .inl ⟨rfl, rfl, rfl, rfl⟩⟩
    · simp [Value.cells] at hcs
      obtain ⟨rfl, rfl, rfl⟩ := hcs
      exact ⟨zs, .inr ⟨_, rfl, hl, hm, by simpa using hz, hcell, hwz⟩⟩
  obtain ⟨l2, hl2⟩ := w2.list
  clear hA0 hval0
  refine (matches_walk (by exact hl1.arr) hl1.hlen (bytes_of hl1) (Nat.lt_of_le_of_lt hl1.big (by decide)) (by exact hl2.arr) hl2.hlen (bytes_of hl2) (Nat.lt_of_le_of_lt hl2.big (by decide)) hz W (Below.refl _ _)).mono fun e W' ⟨he, bel⟩ => ?_
  subst he
  exact ⟨_, rfl, _, _, _, [], _, [], hW', trodAll_mk1 (shut_bool Try.underlying4 _), (trodAll_cons_mk (Below.trod laidOut (by kernel_rfl) (of_decide_eq_true (by kernel_rfl)) k0 bel lt0) (trodAll_cons_mk (Below.trod laidOut (by kernel_rfl) (of_decide_eq_true (by kernel_rfl)) k1 bel lt1) (trodAll_cons_mk (Below.trod laidOut (by kernel_rfl) (of_decide_eq_true (by kernel_rfl)) k2 bel lt2) trodAll_mk0))), rfl, bel.frame _, fun h => by cases h⟩

theorem proved : Rows.LinearMatchesReferenceSaid :=
  OpenClaim.holds_of_wide 3 Try.f3 rfl rfl rfl rfl rfl rfl rfl ⟨rfl, rfl, rfl, rfl, rfl⟩ rfl rfl rfl rfl rfl (by kernel_rfl) Try.func3 (by kernel_rfl)
    (of_decide_eq_true (by kernel_rfl)) (by unfold Func.isWrapper; first | (rw [if_pos (by decide +kernel)]; kernel_rfl) | (rw [if_neg (by decide +kernel)]; exact ⟨rfl, rfl⟩))
    (fun os started H enc _ => lifted os started H enc)

end Go.Proofs.Ytojkaaglmdfcnaa.linearMatchesReference
