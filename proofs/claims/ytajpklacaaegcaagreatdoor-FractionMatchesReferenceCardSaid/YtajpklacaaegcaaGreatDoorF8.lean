/- What the law's small functions return: results as one structure. -/
import Derived.Test.YtajpklacaaegcaaGreatDoorF7
import Derived.Test.YtajpklacaaegcaaGreatDoorG3
namespace Go.Proofs.YtajpklacaaegcaaGreatDoor
open Go.RowKit Go.Shelf
namespace Fr
set_option linter.unusedVariables false

/-- Two boxes of arguments and one for a result, and all that was there. -/
structure Args3 (w W : World) (a b c d e f g : Value) : Prop where
  a : Box2 W w.heap.size a b
  b : Box2 W (w.heap.size + 1) c d
  r : Box3 W (w.heap.size + 1 + 1) e f g
  below : Below w.heap.size w W
theorem Args3.keep {w W W' : World} {a b c d e f g : Value} (h : Args3 w W a b c d e f g) (hb : Below W.heap.size W W') : Args3 w W' a b c d e f g :=
  ⟨h.a.keep hb, h.b.keep hb, h.r.keep hb, h.below.trans (hb.mono h.below.size)⟩
theorem Args3.alloc {w W : World} {a b c d e f g : Value} (h : Args3 w W a b c d e f g) (o : Obj) : Args3 w (W.alloc o) a b c d e f g := h.keep ((Below.refl _ W).alloc (Nat.le_refl _) o)
theorem Args3.start (w : World) (a b c d e f g : Value) (T T' T'' : TypeId) : Args3 w (((w.alloc (.cells #[a, b] T)).alloc (.cells #[c, d] T')).alloc (.cells #[e, f, g] T'')) a b c d e f g :=
  ⟨((Box2.new w a b T).alloc _).alloc _, (Box2.newAt (W := w.alloc (.cells #[a, b] T)) (by simp) c d T').alloc _, Box3.newAt (by simp) e f g T'', (((Below.refl _ w).alloc (Nat.le_refl _) _).alloc (by simp) _).alloc (by simp; omega) _⟩

theorem ladd_q {q r : Rat} {n d m k : Int} (ha : IsF q n d) (hb : IsF r m k) (w : World) :
    Calls Tryz.prog 10 #[.agg #[.int .i64 n, .int .i64 d], .agg #[.int .i64 m, .int .i64 k]] w fun o w' => o = .returned (.agg #[.int .i64 (rN (q + r)), .int .i64 (rD (q + r)), .int .i64 (rE (q + r))]) ∧ Below w.heap.size w w' := by
  have HC : Hid (∀ W : World, _) := Lib.hid (fun W => add_q ha hb W)
  clear ha hb
  go_enter Tryz.func10, Tryz.ntmps10
  go_wp2_with fail
  have A0 := Args3.start w (.int .i64 n) (.int .i64 d) (.int .i64 m) (.int .i64 k) (.int .i64 0) (.int .i64 0) (.int .i64 0) 25 25 28
  refine (HC.out _).mono ?_
  rintro o w1 ⟨rfl, hb⟩
  have A1 := (A0.keep hb).alloc (.cells #[.int .i64 (rN (q + r)), .int .i64 (rD (q + r))] 25)
  have t1 := Box2.new w1 (.int .i64 (rN (q + r))) (.int .i64 (rD (q + r))) 25
  clear A0 hb HC
  have a0 := t1.c0
  have a1 := t1.c1
  have r0 := A1.r.c0
  have r1 := A1.r.c1
  have r2 := A1.r.c2
  have f0 := A1.r.f0
  have f1 := A1.r.f1
  have f2 := A1.r.f2
  go_wp2_with fail
  have A2 := A1.r.set (.int .i64 (rN (q + r))) (.int .i64 (rD (q + r))) (.int .i64 (rE (q + r)))
  have s0 := A2.c0
  have s1 := A2.c1
  have s2 := A2.c2
  refine bodyPost_ret (v := .agg #[.int .i64 (rN (q + r)), .int .i64 (rD (q + r)), .int .i64 (rE (q + r))]) (by simp [results, Tryz.results10, go_sem, s0, s1, s2]) rfl ⟨rfl, below_set3 A1.below (by omega) _ _ _⟩

theorem lsub_q {q r : Rat} {n d m k : Int} (ha : IsF q n d) (hb : IsF r m k) (w : World) :
    Calls Tryz.prog 12 #[.agg #[.int .i64 n, .int .i64 d], .agg #[.int .i64 m, .int .i64 k]] w fun o w' => o = .returned (.agg #[.int .i64 (rN (q - r)), .int .i64 (rD (q - r)), .int .i64 (rE (q - r))]) ∧ Below w.heap.size w w' := by
  have HC : Hid (∀ W : World, _) := Lib.hid (fun W => sub_q ha hb W)
  clear ha hb
  go_enter Tryz.func12, Tryz.ntmps12
  go_wp2_with fail
  have A0 := Args3.start w (.int .i64 n) (.int .i64 d) (.int .i64 m) (.int .i64 k) (.int .i64 0) (.int .i64 0) (.int .i64 0) 25 25 28
  refine (HC.out _).mono ?_
  rintro o w1 ⟨rfl, hb⟩
  have A1 := (A0.keep hb).alloc (.cells #[.int .i64 (rN (q - r)), .int .i64 (rD (q - r))] 25)
  have t1 := Box2.new w1 (.int .i64 (rN (q - r))) (.int .i64 (rD (q - r))) 25
  clear A0 hb HC
  have a0 := t1.c0
  have a1 := t1.c1
  have r0 := A1.r.c0
  have r1 := A1.r.c1
  have r2 := A1.r.c2
  have f0 := A1.r.f0
  have f1 := A1.r.f1
  have f2 := A1.r.f2
  go_wp2_with fail
  have A2 := A1.r.set (.int .i64 (rN (q - r))) (.int .i64 (rD (q - r))) (.int .i64 (rE (q - r)))
  have s0 := A2.c0
  have s1 := A2.c1
  have s2 := A2.c2
  refine bodyPost_ret (v := .agg #[.int .i64 (rN (q - r)), .int .i64 (rD (q - r)), .int .i64 (rE (q - r))]) (by simp [results, Tryz.results12, go_sem, s0, s1, s2]) rfl ⟨rfl, below_set3 A1.below (by omega) _ _ _⟩

theorem lmul_q {q r : Rat} {n d m k : Int} (ha : IsF q n d) (hb : IsF r m k) (w : World) :
    Calls Tryz.prog 14 #[.agg #[.int .i64 n, .int .i64 d], .agg #[.int .i64 m, .int .i64 k]] w fun o w' => o = .returned (.agg #[.int .i64 (rN (q * r)), .int .i64 (rD (q * r)), .int .i64 (rE (q * r))]) ∧ Below w.heap.size w w' := by
  have HC : Hid (∀ W : World, _) := Lib.hid (fun W => mul_q ha hb W)
  clear ha hb
  go_enter Tryz.func14, Tryz.ntmps14
  go_wp2_with fail
  have A0 := Args3.start w (.int .i64 n) (.int .i64 d) (.int .i64 m) (.int .i64 k) (.int .i64 0) (.int .i64 0) (.int .i64 0) 25 25 28
  refine (HC.out _).mono ?_
  rintro o w1 ⟨rfl, hb⟩
  have A1 := (A0.keep hb).alloc (.cells #[.int .i64 (rN (q * r)), .int .i64 (rD (q * r))] 25)
  have t1 := Box2.new w1 (.int .i64 (rN (q * r))) (.int .i64 (rD (q * r))) 25
  clear A0 hb HC
  have a0 := t1.c0
  have a1 := t1.c1
  have r0 := A1.r.c0
  have r1 := A1.r.c1
  have r2 := A1.r.c2
  have f0 := A1.r.f0
  have f1 := A1.r.f1
  have f2 := A1.r.f2
  go_wp2_with fail
  have A2 := A1.r.set (.int .i64 (rN (q * r))) (.int .i64 (rD (q * r))) (.int .i64 (rE (q * r)))
  have s0 := A2.c0
  have s1 := A2.c1
  have s2 := A2.c2
  refine bodyPost_ret (v := .agg #[.int .i64 (rN (q * r)), .int .i64 (rD (q * r)), .int .i64 (rE (q * r))]) (by simp [results, Tryz.results14, go_sem, s0, s1, s2]) rfl ⟨rfl, below_set3 A1.below (by omega) _ _ _⟩

theorem ldiv_q {q r : Rat} {n d m k : Int} (ha : IsF q n d) (hb : IsF r m k) (h0 : m ≠ 0) (w : World) :
    Calls Tryz.prog 16 #[.agg #[.int .i64 n, .int .i64 d], .agg #[.int .i64 m, .int .i64 k]] w fun o w' => o = .returned (.agg #[.int .i64 (rN (q / r)), .int .i64 (rD (q / r)), .int .i64 (rE (q / r))]) ∧ Below w.heap.size w w' := by
  have HC : Hid (∀ W : World, _) := Lib.hid (fun W => div_q ha hb h0 W)
  clear ha hb h0
  go_enter Tryz.func16, Tryz.ntmps16
  go_wp2_with fail
  have A0 := Args3.start w (.int .i64 n) (.int .i64 d) (.int .i64 m) (.int .i64 k) (.int .i64 0) (.int .i64 0) (.int .i64 0) 25 25 28
  refine (HC.out _).mono ?_
  rintro o w1 ⟨rfl, hb⟩
  have A1 := (A0.keep hb).alloc (.cells #[.int .i64 (rN (q / r)), .int .i64 (rD (q / r))] 25)
  have t1 := Box2.new w1 (.int .i64 (rN (q / r))) (.int .i64 (rD (q / r))) 25
  clear A0 hb HC
  have a0 := t1.c0
  have a1 := t1.c1
  have r0 := A1.r.c0
  have r1 := A1.r.c1
  have r2 := A1.r.c2
  have f0 := A1.r.f0
  have f1 := A1.r.f1
  have f2 := A1.r.f2
  go_wp2_with fail
  have A2 := A1.r.set (.int .i64 (rN (q / r))) (.int .i64 (rD (q / r))) (.int .i64 (rE (q / r)))
  have s0 := A2.c0
  have s1 := A2.c1
  have s2 := A2.c2
  refine bodyPost_ret (v := .agg #[.int .i64 (rN (q / r)), .int .i64 (rD (q / r)), .int .i64 (rE (q / r))]) (by simp [results, Tryz.results16, go_sem, s0, s1, s2]) rfl ⟨rfl, below_set3 A1.below (by omega) _ _ _⟩

theorem ldiv_zero (n d k : Int) (w : World) :
    Calls Tryz.prog 16 #[.agg #[.int .i64 n, .int .i64 d], .agg #[.int .i64 0, .int .i64 k]] w fun o w' => o = .returned (.agg #[.int .i64 (0), .int .i64 (0), .int .i64 (3)]) ∧ Below w.heap.size w w' := by
  have HC : Hid (∀ W : World, _) := Lib.hid (fun W => div_zero n d k W)
  go_enter Tryz.func16, Tryz.ntmps16
  go_wp2_with fail
  have A0 := Args3.start w (.int .i64 n) (.int .i64 d) (.int .i64 0) (.int .i64 k) (.int .i64 0) (.int .i64 0) (.int .i64 0) 25 25 28
  refine (HC.out _).mono ?_
  rintro o w1 ⟨rfl, hb⟩
  have A1 := (A0.keep hb).alloc (.cells #[.int .i64 (0), .int .i64 (0)] 25)
  have t1 := Box2.new w1 (.int .i64 (0)) (.int .i64 (0)) 25
  clear A0 hb HC
  have a0 := t1.c0
  have a1 := t1.c1
  have r0 := A1.r.c0
  have r1 := A1.r.c1
  have r2 := A1.r.c2
  have f0 := A1.r.f0
  have f1 := A1.r.f1
  have f2 := A1.r.f2
  go_wp2_with fail
  have A2 := A1.r.set (.int .i64 (0)) (.int .i64 (0)) (.int .i64 (3))
  have s0 := A2.c0
  have s1 := A2.c1
  have s2 := A2.c2
  refine bodyPost_ret (v := .agg #[.int .i64 (0), .int .i64 (0), .int .i64 (3)]) (by simp [results, Tryz.results16, go_sem, s0, s1, s2]) rfl ⟨rfl, below_set3 A1.below (by omega) _ _ _⟩

theorem created_any (n d : Int) (w : World) (h1 : I64 n) (h2 : I64 d) :
    Calls Tryz.prog 5 #[.int .i64 n, .int .i64 d] w fun o w' => o = .returned (.agg #[.int .i64 (mN n d), .int .i64 (mD n d), .int .i64 (mE n d)]) ∧ Below w.heap.size w w' := by
  have HC : Hid (∀ W : World, _) := Lib.hid (fun W => make_any n d h1 h2 W)
  clear h1 h2
  go_enter Tryz.func5, Tryz.ntmps5
  go_wp2_with fail
  have A0 := Box3.new w (.int .i64 0) (.int .i64 0) (.int .i64 0) 28
  have B0 := (Below.refl w.heap.size w).alloc (Nat.le_refl _) (.cells #[.int .i64 0, .int .i64 0, .int .i64 0] 28)
  refine (HC.out _).mono ?_
  rintro o w1 ⟨rfl, hb⟩
  have A1 := (A0.keep hb).alloc (.cells #[.int .i64 (mN n d), .int .i64 (mD n d)] 25)
  have B1 := (B0.trans (hb.mono B0.size)).alloc (B0.trans (hb.mono B0.size)).size (.cells #[.int .i64 (mN n d), .int .i64 (mD n d)] 25)
  have t1 := Box2.new w1 (.int .i64 (mN n d)) (.int .i64 (mD n d)) 25
  clear A0 B0 hb HC
  have a0 := t1.c0
  have a1 := t1.c1
  have r0 := A1.c0
  have r1 := A1.c1
  have r2 := A1.c2
  have f0 := A1.f0
  have f1 := A1.f1
  have f2 := A1.f2
  go_wp2_with fail
  have A2 := A1.set (.int .i64 (mN n d)) (.int .i64 (mD n d)) (.int .i64 (mE n d))
  have s0 := A2.c0
  have s1 := A2.c1
  have s2 := A2.c2
  refine bodyPost_ret (v := .agg #[.int .i64 (mN n d), .int .i64 (mD n d), .int .i64 (mE n d)]) (by simp [results, Tryz.results5, go_sem, s0, s1, s2]) rfl ⟨rfl, below_set3 B1 (Nat.le_refl _) _ _ _⟩

theorem is_any (n d : Int) (w : World) :
    Calls Tryz.prog 31 #[.int .i64 n, .int .i64 d] w fun o w' => o = .returned (.agg #[.int .i64 n, .int .i64 d, .int .i64 0]) ∧ Below w.heap.size w w' := by
  go_enter Tryz.func31, Tryz.ntmps31
  go_wp2_with fail
  refine bodyPost_ret (v := .agg #[.int .i64 n, .int .i64 d, .int .i64 0]) (by simp [results, Tryz.results31, go_sem]) rfl ⟨rfl, ?_⟩
  exact (Below.refl _ w).alloc (Nat.le_refl _) _

end Fr
end Go.Proofs.YtajpklacaaegcaaGreatDoor
