/- For the rows: the law's raw graph as it comes in; what lies in every later world. -/
import Derived.Test.YtmdleoadodcljaaGO
import Derived.Test.YtmdleoadodcljaaK1
namespace Go.Proofs.Ytmdleoadodcljaa
open Go.ChangeShapes Go.WideShapes Go.ChangeAt Go.RowKit Sl Fr
namespace Gp
set_option linter.unusedVariables false

theorem lat {X wr : World} (hb : Below X.heap.size X wr) {a : Addr} (hlt : a.block < X.heap.size) {v : Value} (hc : X.cell? a = some v) (p : Later wr) : p.val.cell? a = some v := ((hb.trans (p.below.mono hb.size)).cell hlt).trans hc
theorem step_walk (es : Dgr.Edges) (d v : Nat) : stepB es (Dgr.walkB es d v) = Dgr.walkB es (d + 1) v := funext fun y => by
  simp only [stepB, Dgr.walkB]
  congr 1
  exact funext fun e => Bool.and_comm _ _
section
variable {H : Type} {enc : TypeId × Value → H} {W : World} {base : Nat} {sp : Nat → Bool} {hd : Bool}
theorem field_one {P : Program} {fuel : Nat} {t : TypeId} {cs : List Value} {x : DataW H × List MemPlace} {fs : Array Field} (hu : P.underlying t = some (.struct fs)) (h : DataW.trod enc P W base sp hd fuel t cs = some x) (i : Nat) (f : Field) (hf : fs[i]? = some f) (hs : P.cellsOf f.type = 1) {c : Value} (hc : (cs.drop f.offset).take 1 = [c]) :
    ∃ fuel y, DataW.trod enc P W base sp hd fuel f.type [c] = some y := by
  obtain ⟨xs, n, _, _, hl, hlen, hel⟩ := DataW.trod_struct hu h
  have e := hel i f hf
  have hi : i < xs.length := by rw [hlen]; exact (Array.getElem?_eq_some_iff.1 hf).1
  rw [List.getElem?_eq_getElem hi, hs, hc] at e
  exact ⟨_, _, e⟩
theorem one_u8 {fuel : Nat} {c : Value} {x : DataW H × List MemPlace} (h : DataW.trod enc Try.prog W base sp hd fuel 5 [c] = some x) : ∃ n : Int, c = .int .u8 n ∧ 0 ≤ n ∧ n ≤ 255 := by
  obtain ⟨n, q, _, w0⟩ := DataW.trod_int Try.underlying5 h
  have b := bounds_u8 w0
  simp at q
  exact ⟨n, q, by omega, by omega⟩
theorem one_int {fuel : Nat} {c : Value} {x : DataW H × List MemPlace} (h : DataW.trod enc Try.prog W base sp hd fuel 3 [c] = some x) : ∃ n : Int, c = .int .i64 n ∧ -9223372036854775808 ≤ n ∧ n ≤ 9223372036854775807 := by
  obtain ⟨n, q, _, w0⟩ := DataW.trod_int Try.underlying3 h
  have b := bounds_i64 w0
  simp at q
  exact ⟨n, q, by omega, by omega⟩
theorem one_bytes {fuel : Nat} {c : Value} {x : DataW H × List MemPlace} (h : DataW.trod enc Try.prog W base sp hd fuel 22 [c] = some x) : ∃ A len cap l, c = .slice A len cap ∧ RowIs .u8 W A len cap l := by
  rcases open_ints Try.underlying22 Try.underlying5 (by kernel_rfl) h with ⟨hcs, _⟩ | ⟨x, l, c, zs, hcs, _, hl, hm, hz, _, hcell, hwz⟩
  · simp at hcs
    obtain ⟨l, hl⟩ := IsRow.list (.inl ⟨rfl, rfl, rfl, rfl⟩ : IsRow .u8 W none 0 0 [])
    exact ⟨none, 0, 0, l, hcs, hl⟩
  · simp at hcs
    by_cases hsp : sp x.block = true
    · rw [if_pos hsp] at hz
      obtain ⟨m, hm'⟩ := IsRow.list (.inr ⟨_, rfl, hl, hm, hz, hcell, hwz⟩ : IsRow .u8 W (some x) l c zs)
      exact ⟨some x, l, c, m, hcs, hm'⟩
    · rw [if_neg hsp] at hz
      obtain ⟨m, h1⟩ := IsRow.list (.inr ⟨_, rfl, Nat.le_refl _, by omega, hz, hcell, hwz⟩ : IsRow .u8 W (some x) l l zs)
      exact ⟨some x, l, c, m, hcs, h1.hlen, hl, h1.arr, fun h => (by cases h), h1.wf, h1.big⟩
set_option maxRecDepth 100000 in
theorem open_raw {v : Value} {d : DataW H} {ps : List MemPlace} (hv : Value.okWide Try.prog W .any base 24 v) (h : DataW.Trod enc Try.prog W 0 sp hd 24 v d ps) :
    ∃ (N K : Int) (A : Option Addr) (c : Nat) (l : List Int), v = .agg #[.int .u8 N, .int .u8 K, .slice A l.length c] ∧ (0 ≤ N ∧ N ≤ 255) ∧ (0 ≤ K ∧ K ≤ 255) ∧ RowIs .u8 W A l.length c l := by
  obtain ⟨cs, rfl, hsz⟩ := okWide_struct Try.underlying24 hv
  obtain ⟨l⟩ := cs
  obtain ⟨fuel, hf⟩ := h
  obtain ⟨_, _, _, _, hl, _, _⟩ := DataW.trod_struct Try.underlying24 hf
  have hl3 : l.length = 3 := hl.trans (by kernel_rfl)
  obtain ⟨c0, t0, rfl, h0⟩ := uncons (n := 2) hl3
  obtain ⟨c1, t1, rfl, h1⟩ := uncons (n := 1) h0
  obtain ⟨c2, t2, rfl, h2⟩ := uncons (n := 0) h1
  obtain rfl := List.eq_nil_of_length_eq_zero h2
  obtain ⟨f0, y0, e0⟩ := field_one Try.underlying24 hf 0 _ rfl (by kernel_rfl) (c := c0) rfl
  obtain ⟨f1, y1, e1⟩ := field_one Try.underlying24 hf 1 _ rfl (by kernel_rfl) (c := c1) rfl
  obtain ⟨f2, y2, e2⟩ := field_one Try.underlying24 hf 2 _ rfl (by kernel_rfl) (c := c2) rfl
  obtain ⟨N, rfl, hN⟩ := one_u8 e0
  obtain ⟨K, rfl, hK⟩ := one_u8 e1
  obtain ⟨A, len, cap, m, rfl, hm⟩ := one_bytes e2
  have hlen := hm.hlen
  subst hlen
  exact ⟨N, K, A, cap, m, rfl, hN, hK, hm⟩
end

end Gp
end Go.Proofs.Ytmdleoadodcljaa
