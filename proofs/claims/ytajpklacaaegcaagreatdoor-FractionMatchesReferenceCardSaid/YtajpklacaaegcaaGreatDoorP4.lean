/- What the law's parsed returns; the fixed calls of the chapter's examples. -/
import Derived.Test.YtajpklacaaegcaaGreatDoorP3
import Derived.Test.YtajpklacaaegcaaGreatDoorF8
namespace Go.Proofs.YtajpklacaaegcaaGreatDoor
open Go.RowKit Go.Shelf Go.Sort
namespace Fr
set_option linter.unusedVariables false

theorem parsed_any (l : List UInt8) (w : World) (hl : l.length ≤ 281474976710656) (hv : Vars w) :
    Calls Tryz.prog 32 #[.string ⟨l.toArray⟩] w fun o w' => o = .returned (.agg #[.int .i64 (pN l), .int .i64 (pD l), .int .i64 (pE l)]) ∧ Below w.heap.size w w' := by
  have A0 := Box3.new w (.int .i64 0) (.int .i64 0) (.int .i64 0) 28
  have B0 := (Below.refl w.heap.size w).alloc (Nat.le_refl _) (.cells #[.int .i64 0, .int .i64 0, .int .i64 0] 28)
  have HC := Lib.hid (parse_any l _ hl (hv.keep B0))
  clear hv hl
  go_enter Tryz.func32, Tryz.ntmps32
  go_wp2_with fail
  refine HC.out.mono ?_
  rintro o w1 ⟨rfl, hb⟩
  have A1 := (A0.keep hb).alloc (.cells #[.int .i64 (pN l), .int .i64 (pD l)] 25)
  have B1 := (B0.trans (hb.mono B0.size)).alloc (B0.trans (hb.mono B0.size)).size (.cells #[.int .i64 (pN l), .int .i64 (pD l)] 25)
  have t1 := Box2.new w1 (.int .i64 (pN l)) (.int .i64 (pD l)) 25
  clear A0 B0 hb HC
  have a0 := t1.c0
  have a1 := t1.c1
  have r0 := A1.c0
  have r1 := A1.c1
  have r2 := A1.c2
  have f0 := A1.f0
  have f1 := A1.f1
  have f2 := A1.f2
  go_wp2_with fail
  have A2 := A1.set (.int .i64 (pN l)) (.int .i64 (pD l)) (.int .i64 (pE l))
  have s0 := A2.c0
  have s1 := A2.c1
  have s2 := A2.c2
  refine bodyPost_ret (v := .agg #[.int .i64 (pN l), .int .i64 (pD l), .int .i64 (pE l)]) (by simp [results, Tryz.results32, go_sem, s0, s1, s2]) rfl ⟨rfl, below_set3 B1 (Nat.le_refl _) _ _ _⟩

theorem field_err (N D E : Int) (w : World) : (Instr.field 28 (.agg #[.int .i64 N, .int .i64 D, .int .i64 E]) 1).run Tryz.prog w = .ok (.int .i64 E) w := by kernel_rfl

/-! The fixed calls' answers. -/
theorem isF_mk {n d : Int} (hd : 0 < d) (hc : Nat.Coprime n.natAbs d.natAbs) (h1 : n.natAbs ≤ 4611686018427387904) (h2 : d ≤ 4611686018427387904) : IsF (Rat.divInt n d) n d := by
  have e1 := divInt_num hd hc
  have e2 := divInt_den hd hc
  exact ⟨e1, e2, by unfold Fit; rw [e1, e2]; omega⟩

theorem ex_a : IsF (Rat.divInt 1 6) 1 6 := isF_mk (by decide) (by decide) (by decide) (by decide)
theorem ex_b : IsF (Rat.divInt 1 10) 1 10 := isF_mk (by decide) (by decide) (by decide) (by decide)
theorem ex_big : IsF (Rat.divInt 4611686018427387904 1) 4611686018427387904 1 := isF_mk (by decide) (by decide) (by decide) (by decide)
theorem ex_one : IsF (Rat.divInt 1 1) 1 1 := isF_mk (by decide) (by decide) (by decide) (by decide)
theorem ex_lit : parOk [52, 47, 50] = false ∧ parOk [49, 47, 49] = false ∧ parOk [45, 48] = false ∧ parOk [43, 49] = false ∧ parOk [45, 51, 47, 50] = true := by
  refine ⟨?_, ?_, ?_, ?_, ?_⟩ <;> decide +kernel

end Fr
end Go.Proofs.YtajpklacaaegcaaGreatDoor
