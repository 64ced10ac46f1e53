/- Statement JournalMatchesReference: for every input, with no condition, the law returns true and its arguments read afterwards as they read before. -/
import Derived.Test.YtcdoalfpaldbmaaV8
import Derived.Test.YtcdoalfpaldbmaaR0
namespace Go.Proofs.Ytcdoalfpaldbmaa.journalMatchesReference
open Go.ChangeShapes Go.WideShapes Go.ChangeAt Go.RowKit Sl Fr Dg Jn
set_option linter.unusedVariables false

theorem cellsA_a_4_u16 : Try.prog.cellsOf 25 = 4 := by kernel_rfl
theorem cellsE_a_4_u16 : Try.prog.cellsOf 24 = 1 := by kernel_rfl
theorem listA_a_4_u16 {α : Type} (l : List α) (h : (⟨l⟩ : Array α).size = 4) : ∃ c0 c1 c2 c3, l = [c0, c1, c2, c3] := by
  match l, h with
  | [c0, c1, c2, c3], _ => exact ⟨c0, c1, c2, c3, rfl⟩
theorem listB_a_4_u16 {α : Type} (l : List α) (h : l.length = 4) : ∃ c0 c1 c2 c3, l = [c0, c1, c2, c3] := by
  match l, h with
  | [c0, c1, c2, c3], _ => exact ⟨c0, c1, c2, c3, rfl⟩

set_option maxRecDepth 100000 in
/-- An array by value, opened. -/
theorem open_a_4_u16 {H : Type} {enc : TypeId × Value → H} {W : World} {base : Nat} {sp : Nat → Bool} {hd : Bool} {v : Value} {d : DataW H} {ps : List MemPlace} (hv : Value.okWide Try.prog W .any base 25 v) (h : DataW.Trod enc Try.prog W 0 sp hd 25 v d ps) :
    ∃ c0 c1 c2 c3 : Int, v = .agg #[.int .u16 c0, .int .u16 c1, .int .u16 c2, .int .u16 c3] ∧ kin .u16 c0 ∧ kin .u16 c1 ∧ kin .u16 c2 ∧ kin .u16 c3 := by
  obtain ⟨cs, rfl, hsz, _⟩ : ∃ cs, v = .agg cs ∧ cs.size = Try.prog.cellsOf 25 ∧ Row.okWide Try.prog W .any base 25 cs := by
    simpa [Value.okWide, Try.underlying25] using hv
  rw [cellsA_a_4_u16] at hsz
  obtain ⟨l⟩ := cs
  obtain ⟨c0, c1, c2, c3, rfl⟩ := listA_a_4_u16 l hsz
  obtain ⟨fuel, hf⟩ := h
  obtain ⟨xs, m, _, _, _, hl, hel⟩ := DataW.trod_array Try.underlying25 hf
  obtain ⟨y0, y1, y2, y3, rfl⟩ := listB_a_4_u16 xs hl
  have e0 := hel 0 (by decide)
  have e1 := hel 1 (by decide)
  have e2 := hel 2 (by decide)
  have e3 := hel 3 (by decide)
  simp [Value.cells, cellsE_a_4_u16] at e0 e1 e2 e3
  obtain ⟨x0, q0, _, w0⟩ := DataW.trod_int Try.underlying24 e0
  obtain ⟨x1, q1, _, w1⟩ := DataW.trod_int Try.underlying24 e1
  obtain ⟨x2, q2, _, w2⟩ := DataW.trod_int Try.underlying24 e2
  obtain ⟨x3, q3, _, w3⟩ := DataW.trod_int Try.underlying24 e3
  simp at q0 q1 q2 q3
  subst q0 q1 q2 q3
  exact ⟨x0, x1, x2, x3, rfl, w0, w1, w2, w3⟩

set_option maxRecDepth 100000 in
theorem lifted (os : Os) (started : os.Started) (H : Type) (enc : TypeId × Value → H) :
    ReturnsInHanded {} Try.checked os 3 .any (Rows.journalMatchesReferenceSpec.pre6 enc Try.prog Try.f3 Rows.journalMatchesReferenceRow.domain false) (Rows.journalMatchesReferenceSpec.post enc Try.prog Try.f3 false true false false) := by
  refine returnsInHanded_of_change (C := Try.checked) own started (by kernel_rfl) Try.func3
    (ChangeSpec.witness6 (enc := enc) (C := Try.checked) false ⟨#[], #[.slice none 0 0, .slice none 0 0, .agg #[.int .u16 0, .int .u16 0, .int .u16 0, .int .u16 0]], []⟩ 8 (by kernel_rfl) (by kernel_rfl) (by kernel_rfl) (by kernel_rfl)) ?_
  intro W base args ds gs before hval0 hW hcnd _
  have hval : ∀ (j : Nat) t v, Try.f3.params[j]? = some t → args[j]? = some v → Value.okWide Try.prog W .any base t v := hval0
  have hW' := hW
  obtain ⟨p, q, hA0, hV, rfl, hfz, hnd⟩ := hW
  have hA : DataW.TrodAll enc Try.prog W 0 (fun _ => true) true Try.f3.params.toList args.toList ds p := hA0
  rw [Try.params3] at hA hval
  obtain ⟨v0, vs0, d0, ds0, p0, q0, hargs, rfl, rfl, h0, r0⟩ := trodAll_cons hA
  obtain ⟨v1, vs1, d1, ds1, p1, q1, rfl, rfl, rfl, h1, r1⟩ := trodAll_cons r0
  obtain ⟨v2, vs2, d2, ds2, p2, q2, rfl, rfl, rfl, h2, r2⟩ := trodAll_cons r1
  obtain ⟨rfl, rfl, rfl⟩ := trodAll_nil r2
  obtain rfl : args = #[v0, v1, v2] := by cases args; simp_all
  obtain ⟨rfl, rfl⟩ := trodVars_none hV
  have k0 := h0
  have lt0 : ∀ x ∈ p0, x.block < W.heap.size := by obtain ⟨m, hm⟩ := k0; exact DataW.trod_lt m _ _ _ hm
  have k1 := h1
  have lt1 : ∀ x ∈ p1, x.block < W.heap.size := by obtain ⟨m, hm⟩ := k1; exact DataW.trod_lt m _ _ _ hm
  have k2 := h2
  have lt2 : ∀ x ∈ p2, x.block < W.heap.size := by obtain ⟨m, hm⟩ := k2; exact DataW.trod_lt m _ _ _ hm
  obtain ⟨A0, len0, cap0, rfl⟩ := okWide_slice Try.underlying22 (hval 0 22 v0 rfl rfl)
  obtain ⟨z0, w0⟩ : ∃ zs, IsRow .u8 W A0 len0 cap0 zs := by
    obtain ⟨fuel, hf⟩ := h0
    rcases open_ints Try.underlying22 Try.underlying5 (by kernel_rfl) hf with ⟨hcs, _⟩ | ⟨x, l, c, zs, hcs, _, hl, hm, hz, _, hcell, hwz⟩
    · simp [Value.cells] at hcs
      obtain ⟨rfl, rfl, rfl⟩ := hcs
      exact ⟨[], .inl ⟨rfl, rfl, rfl, rfl⟩⟩
    · simp [Value.cells] at hcs
      obtain ⟨rfl, rfl, rfl⟩ := hcs
      exact ⟨zs, .inr ⟨_, rfl, hl, hm, by simpa using hz, hcell, hwz⟩⟩
  obtain ⟨l0, hl0⟩ := w0.list
  obtain ⟨A1, c1, rs1, rfl, hL1, hI1, hlen1, hnil1, hcap1⟩ := open_ll (hval 1 23 v1 rfl rfl) h1
  obtain ⟨x20, x21, x22, x23, rfl, i20, i21, i22, i23⟩ := open_a_4_u16 (hval 2 25 v2 rfl rfl) h2
  have b20 := bounds_u16 i20
  have b21 := bounds_u16 i21
  have b22 := bounds_u16 i22
  have b23 := bounds_u16 i23
  clear hA0 hval0
  obtain rfl := hl0.hlen
  have hb80 : B8 l0 := fun x hx => by
    have := bounds_u8 (hl0.wf x hx)
    omega
  have hby0 : Byt W A0 l0 := hl0.arr
  have hbig0 := hl0.big
  unfold maxLen at hbig0
  have hnn0 : A0 = none → l0 = [] ∧ cap0 = 0 := fun e => ⟨(hl0.nil e).2, (hl0.nil e).1⟩
  refine (matches_law A0 A1 l0 rs1 cap0 c1 x20 x21 x22 x23 W hby0 hb80 hnn0 hl0.hcap (by omega) hL1 hI1 hlen1 (by omega) (by omega) (by omega) (by omega)).mono fun e W' ⟨he, bel⟩ => ?_
  subst he
  exact ⟨_, rfl, _, _, _, [], _, [], hW', trodAll_mk1 (shut_bool Try.underlying4 _), (trodAll_cons_mk (Below.trod laidOut (by kernel_rfl) (of_decide_eq_true (by kernel_rfl)) k0 bel lt0) (trodAll_cons_mk (Below.trod laidOut (by kernel_rfl) (of_decide_eq_true (by kernel_rfl)) k1 bel lt1) (trodAll_cons_mk (Below.trod laidOut (by kernel_rfl) (of_decide_eq_true (by kernel_rfl)) k2 bel lt2) trodAll_mk0))), rfl, bel.frame _, fun h => by cases h⟩

theorem proved : Rows.JournalMatchesReferenceSaid :=
  OpenClaim.holds_of_wide 3 Try.f3 rfl rfl rfl rfl rfl rfl rfl ⟨rfl, rfl, rfl, rfl, rfl⟩ rfl rfl rfl rfl rfl (by kernel_rfl) Try.func3 (by kernel_rfl)
    (of_decide_eq_true (by kernel_rfl)) (by unfold Func.isWrapper; first | (rw [if_pos (by decide +kernel)]; kernel_rfl) | (rw [if_neg (by decide +kernel)]; exact ⟨rfl, rfl⟩))
    (fun os started H enc _ => lifted os started H enc)

end Go.Proofs.Ytcdoalfpaldbmaa.journalMatchesReference
