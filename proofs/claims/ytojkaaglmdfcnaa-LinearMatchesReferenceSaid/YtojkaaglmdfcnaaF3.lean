/- What the sums of fractions return. -/
import Derived.Test.YtojkaaglmdfcnaaF1
namespace Go.Proofs.Ytojkaaglmdfcnaa
open Go.RowKit Go.Shelf
namespace Fr
set_option linter.unusedVariables false

def I62 (n : Int) : Prop := -4611686018427387904 ≤ n ∧ n ≤ 4611686018427387904

theorem mul_small {x y : Int} (hx : I62 x) (hy : I62 y) : (x * y).natAbs ≤ 21267647932558653966460912964485513216 := by
  rw [Int.natAbs_mul]
  exact Nat.le_trans (Nat.mul_le_mul (by unfold I62 at hx; omega : x.natAbs ≤ 4611686018427387904) (by unfold I62 at hy; omega : y.natAbs ≤ 4611686018427387904)) (by decide)

theorem ov_def (x d : Int) : x.tdiv d = ov x d := rfl

set_option maxHeartbeats 1000000 in
theorem add_any (aN aD bN bD : Int) (w : World) (h1 : I62 aN) (h2 : I62 aD) (h3 : I62 bN) (h4 : I62 bD) (ha : 0 < aD) (hb : 0 < bD) (hca : Nat.Coprime aN.natAbs aD.natAbs) (hcb : Nat.Coprime bN.natAbs bD.natAbs) :
    Calls Try.prog 42 #[.agg #[.int .i64 aN, .int .i64 aD], .agg #[.int .i64 bN, .int .i64 bD]] w fun e w' => e = .returned (.tuple #[.agg #[.int .i64 (rN (Rat.divInt aN aD + Rat.divInt bN bD)), .int .i64 (rD (Rat.divInt aN aD + Rat.divInt bN bD))], .int .i64 (rE (Rat.divInt aN aD + Rat.divInt bN bD))]) ∧ Below w.heap.size w w' := by
  obtain ⟨g0, g1⟩ := gcd_small (x := aD.natAbs) (y := bD.natAbs) (by unfold I62 at *; omega) (by unfold I62 at *; omega) (.inr (by omega))
  have HG := Lib.hid (fun W => gcd_new aD.natAbs bD.natAbs W (by unfold I62 at *; omega) (by unfold I62 at *; omega) (.inr (by omega)))
  have p1 := mul_small h1 h4
  have p2 := mul_small h3 h2
  have p3 := mul_small h2 h4
  have hp1 : In127 (aN * bD + bN * aD) := by unfold In127; omega
  have hp2 : In127 (aD * bD) := by unfold In127; omega
  have core := fun (g r : Nat) h1 h2 => add_core ha hb hca hcb g r h1 h2
  have S1 := Lib.hid (fun W => size_any aD W (by unfold I62 at *; omega) (by unfold I62 at *; omega))
  have S2 := Lib.hid (fun W => size_any bD W (by unfold I62 at *; omega) (by unfold I62 at *; omega))
  have P1 := Lib.hid (fun W => product_any aN bD W (by unfold I62 at *; omega) (by unfold I62 at *; omega) (by unfold I62 at *; omega) (by unfold I62 at *; omega))
  have P2 := Lib.hid (fun W => product_any bN aD W (by unfold I62 at *; omega) (by unfold I62 at *; omega) (by unfold I62 at *; omega) (by unfold I62 at *; omega))
  have P3 := Lib.hid (fun W => product_any aD bD W (by unfold I62 at *; omega) (by unfold I62 at *; omega) (by unfold I62 at *; omega) (by unfold I62 at *; omega))
  have L1 : Hid (∀ W, _) := Lib.hid (fun W => plus_any (aN * bD) (bN * aD) W)
  unfold wd at L1
  have core2 := core (Nat.gcd aD.natAbs bD.natAbs) _ rfl rfl
  clear core
  simp only [ov_def] at core2
  generalize Nat.gcd aD.natAbs bD.natAbs = g at *
  have O1 := Lib.hid (fun W => over_nat (aN * bD + bN * aD) g W hp1 g0 g1)
  have O2 := Lib.hid (fun W => over_nat (aD * bD) g W hp2 g0 g1)
  have it : In127 (ov (aN * bD + bN * aD) g) := ov_in127 hp1
  have iu : In127 (ov (aD * bD) g) := ov_in127 hp2
  have HE : Hid (Rat.divInt aN aD + Rat.divInt bN bD = Rat.divInt aN aD + Rat.divInt bN bD) := Lib.hid rfl
  generalize hS : Rat.divInt aN aD + Rat.divInt bN bD = sum at *
  generalize ov (aN * bD + bN * aD) g = t at *
  generalize ov (aD * bD) g = u at *
  have HM : Hid (∀ W : World, Calls Try.prog 78 #[.agg #[.int .u64 (hi t), .int .u64 (lo t)], .int .u64 (g : Int)] W fun e w' => e = .returned (.int .u64 ((t.natAbs % g : Nat) : Int)) ∧ Below W.heap.size W w') := Lib.hid (fun W => by
    have := modulo_any t (g : Int) W it (by omega) (by omega)
    rwa [← Int.natCast_emod] at this)
  have hmod : t.natAbs % g < 18446744073709551616 := Nat.lt_trans (Nat.mod_lt _ g0) g1
  have HG2 := Lib.hid (fun W => gcd_new g (t.natAbs % g) W g1 hmod (.inl g0))
  have r1 : Nat.gcd g (t.natAbs % g) < 18446744073709551616 := Nat.lt_of_le_of_lt (Nat.gcd_le_left _ g0) g1
  generalize t.natAbs % g = tm at *
  generalize Nat.gcd g tm = r at *
  obtain ⟨_, r0, m1, m2, m3⟩ := core2
  have O3 := Lib.hid (fun W => over_nat t r W it r0 r1)
  have O4 := Lib.hid (fun W => over_nat u r W iu r0 r1)
  have N1 := Lib.hid (fun W => narrow_out (ov t r) (ov u r) W (ov_in127 it) (ov_in127 iu) (by omega) m2 _ m3)
  clear m1 m2 m3 hp1 hp2 g0 g1 h1 h2 h3 h4 ha hb hca hcb p1 p2 p3 it iu HE hS hmod r0 r1
  go_enter Try.func42, Try.ntmps42
  go_wp2_with fail
  have A0 := Args.start w (.int .i64 aN) (.int .i64 aD) (.int .i64 bN) (.int .i64 bD) (.int .i64 0) (.int .i64 0) 23 23 23
  generalize ((w.alloc (.cells #[.int .i64 aN, .int .i64 aD] 23)).alloc (.cells #[.int .i64 bN, .int .i64 bD] 23)).alloc (.cells #[.int .i64 0, .int .i64 0] 23) = W0 at *
  obtain ⟨x0, x1⟩ := A0.a.later
  obtain ⟨y0, y1⟩ := A0.b.later
  refine wp_region_later_tail 6 (by kernel_rfl) (by kernel_rfl) ?_
  simp only [List.take_succ_cons, List.take_zero, List.drop_succ_cons, List.drop_zero]
  repeat (go_big_quiet_step ((first | (go_at_call 74; with_reducible exact later_same (S1.out _)) | (go_at_call 74; with_reducible exact later_same (S2.out _)))))
  refine wpQuiet_nil ?_
  intro _ hw'
  obtain ⟨q, hw''⟩ := hw'
  subst hw''
  have A1 := A0.keep q.below
  generalize q.val = W1 at *
  clear x0 x1 y0 y1 A0 q
  go_wp2_with fail
  refine (HG.out _).mono ?_
  rintro e W2 ⟨rfl, hb⟩
  have A2 := (A1.alloc _).keep hb
  clear A1 hb HG
  go_wp2_with fail
  refine wp_region_make 13 7 (.cells #[.int .u64 0, .int .u64 0] 106) (by kernel_rfl) (by kernel_rfl) rfl ⟨_, rfl, rfl, rfl, fun _ _ => by kernel_rfl⟩ ?_
  simp only [List.take_succ_cons, List.take_zero, List.drop_succ_cons, List.drop_zero]
  apply Exists.intro
  refine And.intro ?_ ?_
  · intro c
    obtain ⟨x0, x1⟩ := A2.a.inC c
    obtain ⟨y0, y1⟩ := A2.b.inC c
    repeat (go_big_quiet_step ((first | (go_at_call 75; first | with_reducible exact in_of (P1.out _) | with_reducible exact in_of (P2.out _)) | (go_at_call 76; with_reducible exact in_of (L1.out _)) | (go_at_call 77; with_reducible exact in_of (O1.out _)))))
    refine wpQuiet_nil ?_
    exact rfl
  · intro B W3 hb hB hl
    have A3 := A2.keep hb
    have n0 : Box2 W3 B (.int .u64 0) (.int .u64 0) := Box2.lies hl
    have hBw : w.heap.size ≤ B := Nat.le_trans A2.below.size hB
    have hBa : B ≠ w.heap.size := by have := A2.a.lt; omega
    have hBb : B ≠ w.heap.size + 1 := by have := A2.b.lt; omega
    have hBr : B ≠ w.heap.size + 1 + 1 := by have := A2.r.lt; omega
    have c0 := n0.c0
    have c1 := n0.c1
    have f0 := n0.f0
    have f1 := n0.f1
    simp only [List.setIfInBounds_toArray, List.set_cons_succ, List.set_cons_zero]
    have A4 := A3.far hBw hBa hBb hBr (.int .u64 (hi t)) (.int .u64 (lo t))
    have n1 := n0.set (.int .u64 (hi t)) (.int .u64 (lo t))
    have a1 := A4.a.c1
    have b1 := A4.b.c1
    clear A2 hb hB hl P1 P2 L1 O1 n0
    go_wp2_with fail
    refine (P3.out _).mono ?_
    rintro e W5 ⟨rfl, hb⟩
    have A5 := A4.keep hb
    have n2 := n1.keep hb
    clear A3 A4 n1 hb c0 c1 f0 f1 a1 b1
    go_wp2_with fail
    refine (O2.out _).mono ?_
    rintro e W6 ⟨rfl, hb⟩
    have A6 := A5.keep hb
    have n3 := n2.keep hb
    clear A5 n2 hb
    have d3 := Box2.new W6 (.int .u64 (hi u)) (.int .u64 (lo u)) 106
    have A7 := A6.alloc (.cells #[.int .u64 (hi u), .int .u64 (lo u)] 106)
    have n4 := n3.alloc (.cells #[.int .u64 (hi u), .int .u64 (lo u)] 106)
    have c0 := n4.c0
    have c1 := n4.c1
    go_wp2_with fail
    refine (HM.out _).mono ?_
    rintro e W8 ⟨rfl, hb⟩
    have A8 := A7.keep hb
    have n5 := n4.keep hb
    have d5 := d3.keep hb
    clear A7 n4 d3 hb c0 c1 A6 n3 P3 O2 HM
    go_wp2_with fail
    refine (HG2.out _).mono ?_
    rintro e W9 ⟨rfl, hb⟩
    have A9 := (A8.alloc _).keep hb
    have n6 := (n5.alloc _).keep hb
    have d6 := (d5.alloc _).keep hb
    clear A8 n5 d5 hb HG2
    obtain ⟨x0, x1⟩ := n6.later
    obtain ⟨y0, y1⟩ := d6.later
    go_wp2_with fail
    refine wp_region_later_tail 9 (by kernel_rfl) (by kernel_rfl) ?_
    simp only [List.take_succ_cons, List.take_zero, List.drop_succ_cons, List.drop_zero]
    repeat (go_big_quiet_step ((first | (go_at_call 77; first | with_reducible exact later_of (O3.out _) | with_reducible exact later_of (O4.out _)) | (go_at_call 79; with_reducible exact later_of (N1.out _)))))
    refine wpQuiet_nil ?_
    intro _ hw'
    obtain ⟨q, hw''⟩ := hw'
    subst hw''
    have A10 := A9.keep q.below
    generalize q.val = W10 at *
    clear x0 x1 y0 y1 A9 q n6 d6
    have r0 := A10.r.c0
    have r1 := A10.r.c1
    have f0 := A10.r.f0
    have f1 := A10.r.f1
    go_wp2_with fail
    have A11 := A10.r.set (.int .i64 (rN sum)) (.int .i64 (rD sum))
    have s0 := A11.c0
    have s1 := A11.c1
    refine bodyPost_ret (v := .tuple #[.agg #[.int .i64 (rN sum), .int .i64 (rD sum)], .int .i64 (rE sum)]) (by simp [results, Try.results42, go_sem, s0, s1]) rfl ⟨rfl, below_set2 A10.below (by omega) _ _⟩

end Fr
end Go.Proofs.Ytojkaaglmdfcnaa
