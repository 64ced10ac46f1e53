/- What Valid, Cmp, Min, Max, Floor and Ceil return. -/
import Derived.Test.YtojkaaglmdfcnaaF4
namespace Go.Proofs.Ytojkaaglmdfcnaa
open Go.RowKit Go.Shelf
namespace Fr
set_option linter.unusedVariables false

/-- Whether two integers are a valid fraction. -/
def validB (n d : Int) : Bool := decide (mE n d = 0 ∧ mN n d = n ∧ mD n d = d)

theorem validB_iff (n d : Int) : validB n d = true ↔ ∃ q, IsF q n d := by
  unfold validB
  rw [decide_eq_true_eq]
  constructor
  · rintro ⟨h1, h2, h3⟩
    unfold mE mN mD at *
    by_cases hd : d = 0
    · rw [if_pos hd] at h1; cases h1
    · rw [if_neg hd] at h1 h2 h3
      by_cases hF : Fit (Rat.divInt n d)
      · exact ⟨_, by have := isF_res hF; rwa [h2, h3] at this⟩
      · rw [rE_big hF] at h1; cases h1
  · rintro ⟨q, hq⟩
    have hd : d ≠ 0 := by have := hq.pos; omega
    unfold mE mN mD
    rw [if_neg hd, if_neg hd, if_neg hd, hq.eq]
    exact ⟨rE_fit hq.fit, rN_of hq, rD_of hq⟩

theorem valid_any (n d : Int) (w : World) (h1 : I64 n) (h2 : I64 d) :
    Calls Try.prog 49 #[.agg #[.int .i64 n, .int .i64 d]] w fun o w' => o = .returned (.bool (validB n d)) ∧ Below w.heap.size w w' := by
  have HM := Lib.hid (fun W : World => make_any n d h1 h2 W)
  clear h1 h2
  by_cases hE : mE n d = 0
  · by_cases hN : mN n d = n
    · by_cases hD : mD n d = d
      · have hv : validB n d = true := by unfold validB; rw [decide_eq_true_eq]; exact ⟨hE, hN, hD⟩
        rw [hE, hN, hD] at HM
        rw [hv]
        clear hE hN hD hv
        go_enter Try.func49, Try.ntmps49
        go_wp2_with fail
        have A0 := Box2.new w (.int .i64 n) (.int .i64 d) 23
        refine (HM.out _).mono ?_
        rintro o w1 ⟨rfl, hb⟩
        have A1 := (A0.keep hb).alloc (.cells #[.int .i64 n, .int .i64 d] 23)
        have n1 := Box2.new w1 (.int .i64 n) (.int .i64 d) 23
        have B1 := ((Below.refl _ w).alloc (Nat.le_refl _) (.cells #[.int .i64 n, .int .i64 d] 23)).trans (hb.mono (by simp))
        clear A0 hb HM
        have r0 := A1.c0
        have r1 := A1.c1
        have s0 := n1.c0
        have s1 := n1.c1
        go_wp2_with fail
        go_ret
        exact ⟨rfl, B1.alloc B1.size _⟩
      · have hv : validB n d = false := by unfold validB; rw [decide_eq_false_iff_not]; rintro ⟨h1, h2, h3⟩; omega
        rw [hv]
        clear hv
        have hb1 : (mD n d == d) = false := by simpa using hD
        rw [hE, hN] at HM
        clear hE hN hD
        go_enter Try.func49, Try.ntmps49
        go_wp2_with fail
        have A0 := Box2.new w (.int .i64 n) (.int .i64 d) 23
        refine (HM.out _).mono ?_
        rintro o w1 ⟨rfl, hb⟩
        have A1 := (A0.keep hb).alloc (.cells #[.int .i64 n, .int .i64 (mD n d)] 23)
        have n1 := Box2.new w1 (.int .i64 n) (.int .i64 (mD n d)) 23
        have B1 := ((Below.refl _ w).alloc (Nat.le_refl _) (.cells #[.int .i64 n, .int .i64 d] 23)).trans (hb.mono (by simp))
        clear A0 hb HM
        have r0 := A1.c0
        have r1 := A1.c1
        have s0 := n1.c0
        have s1 := n1.c1
        go_wp2_with fail
        go_ret
        exact ⟨rfl, B1.alloc B1.size _⟩
    · have hv : validB n d = false := by unfold validB; rw [decide_eq_false_iff_not]; rintro ⟨h1, h2, h3⟩; omega
      rw [hv]
      clear hv
      have hb1 : (mN n d == n) = false := by simpa using hN
      rw [hE] at HM
      clear hE hN
      go_enter Try.func49, Try.ntmps49
      go_wp2_with fail
      have A0 := Box2.new w (.int .i64 n) (.int .i64 d) 23
      refine (HM.out _).mono ?_
      rintro o w1 ⟨rfl, hb⟩
      have A1 := (A0.keep hb).alloc (.cells #[.int .i64 (mN n d), .int .i64 (mD n d)] 23)
      have n1 := Box2.new w1 (.int .i64 (mN n d)) (.int .i64 (mD n d)) 23
      have B1 := ((Below.refl _ w).alloc (Nat.le_refl _) (.cells #[.int .i64 n, .int .i64 d] 23)).trans (hb.mono (by simp))
      clear A0 hb HM
      have r0 := A1.c0
      have r1 := A1.c1
      have s0 := n1.c0
      have s1 := n1.c1
      go_wp2_with fail
      go_ret
      exact ⟨rfl, B1.alloc B1.size _⟩
  · have hv : validB n d = false := by unfold validB; rw [decide_eq_false_iff_not]; rintro ⟨h1, h2, h3⟩; omega
    rw [hv]
    clear hv
    have hb1 : (mE n d == 0) = false := by simpa using hE
    clear hE
    go_enter Try.func49, Try.ntmps49
    go_wp2_with fail
    have A0 := Box2.new w (.int .i64 n) (.int .i64 d) 23
    refine (HM.out _).mono ?_
    rintro o w1 ⟨rfl, hb⟩
    have A1 := (A0.keep hb).alloc (.cells #[.int .i64 (mN n d), .int .i64 (mD n d)] 23)
    have n1 := Box2.new w1 (.int .i64 (mN n d)) (.int .i64 (mD n d)) 23
    have B1 := ((Below.refl _ w).alloc (Nat.le_refl _) (.cells #[.int .i64 n, .int .i64 d] 23)).trans (hb.mono (by simp))
    clear A0 hb HM
    have r0 := A1.c0
    have r1 := A1.c1
    have s0 := n1.c0
    have s1 := n1.c1
    go_wp2_with fail
    go_ret
    exact ⟨rfl, B1.alloc B1.size _⟩

end Fr
end Go.Proofs.Ytojkaaglmdfcnaa
