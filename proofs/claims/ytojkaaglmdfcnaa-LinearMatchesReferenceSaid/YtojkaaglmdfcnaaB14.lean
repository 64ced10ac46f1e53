/- What the reference's Valid and read return. -/
import Derived.Test.YtojkaaglmdfcnaaB12
import Derived.Deep.DeepCutAuto
namespace Go.Proofs.Ytojkaaglmdfcnaa
open Go.RowKit Go.Shelf
namespace Fr
set_option linter.unusedVariables false

theorem validB_true {n d : Int} (h1 : 1 ≤ d) (h2 : d ≤ 4611686018427387904) (h3 : -4611686018427387904 ≤ n) (h4 : n ≤ 4611686018427387904) (h5 : Nat.gcd n.natAbs d.toNat = 1) : validB n d = true := by
  have hc : Nat.Coprime n.natAbs d.natAbs := by
    have : d.natAbs = d.toNat := by omega
    rw [this]; exact h5
  exact (validB_iff n d).2 ⟨Rat.divInt n d, divInt_num (by omega) hc, divInt_den (by omega) hc, by unfold Fit; rw [divInt_num (by omega) hc, divInt_den (by omega) hc]; omega⟩
theorem validB_false {n d : Int} (h : ¬ (1 ≤ d ∧ d ≤ 4611686018427387904 ∧ -4611686018427387904 ≤ n ∧ n ≤ 4611686018427387904 ∧ Nat.gcd n.natAbs d.toNat = 1)) : validB n d = false := by
  rw [Bool.eq_false_iff]
  intro hv
  obtain ⟨q, hq⟩ := (validB_iff n d).1 hv
  have h1 := hq.n62
  have h2 := hq.d62
  have h3 := hq.pos
  have h4 : Nat.gcd n.natAbs d.natAbs = 1 := hq.cop
  unfold I62 at h1 h2
  have h5 : d.natAbs = d.toNat := by omega
  rw [h5] at h4
  exact h ⟨by omega, by omega, by omega, by omega, h4⟩

set_option maxHeartbeats 1000000 in
theorem rvalid_any (n d : Int) (w : World) (hn : -9223372036854775808 < n ∧ n ≤ 9223372036854775807) (hd : 0 ≤ d ∧ d ≤ 9223372036854775807) :
    Calls Try.prog 41 #[.agg #[.int .i64 n, .int .i64 d]] w fun o w' => o = .returned (.bool (validB n d)) ∧ Below w.heap.size w w' := by
  have HS := Lib.hid (fun W : World => rsize_any n W hn.1 hn.2)
  have HG := Lib.hid (fun W : World => rgcd_any n.natAbs d.toNat W (by omega) (by omega))
  rw [Int.toNat_of_nonneg hd.1] at HG
  obtain ⟨G, hG⟩ : ∃ G, Nat.gcd n.natAbs d.toNat = G := ⟨_, rfl⟩
  rw [hG] at HG
  have HV : Hid ((decide (1 ≤ d) = false ∨ decide (1 ≤ d) = true ∧ decide (d ≤ 4611686018427387904) = false ∨ decide (1 ≤ d) = true ∧ decide (d ≤ 4611686018427387904) = true ∧ decide (-4611686018427387904 ≤ n) = false ∨
      decide (1 ≤ d) = true ∧ decide (d ≤ 4611686018427387904) = true ∧ decide (-4611686018427387904 ≤ n) = true ∧ decide (n ≤ 4611686018427387904) = false ∨
      decide (1 ≤ d) = true ∧ decide (d ≤ 4611686018427387904) = true ∧ decide (-4611686018427387904 ≤ n) = true ∧ decide (n ≤ 4611686018427387904) = true ∧ ((G : Int) == 1) = false) ∧ validB n d = false ∨
      (decide (1 ≤ d) = true ∧ decide (d ≤ 4611686018427387904) = true ∧ decide (-4611686018427387904 ≤ n) = true ∧ decide (n ≤ 4611686018427387904) = true ∧ ((G : Int) == 1) = true) ∧ validB n d = true) := by
    apply Lib.hid
    by_cases h1 : 1 ≤ d
    · by_cases h2 : d ≤ 4611686018427387904
      · by_cases h3 : -4611686018427387904 ≤ n
        · by_cases h4 : n ≤ 4611686018427387904
          · by_cases h5 : G = 1
            · right
              exact ⟨⟨by simpa using h1, by simpa using h2, by simpa using h3, by simpa using h4, by simp [h5]⟩, validB_true h1 h2 h3 h4 (hG.trans h5)⟩
            · left
              exact ⟨.inr (.inr (.inr (.inr ⟨by simpa using h1, by simpa using h2, by simpa using h3, by simpa using h4, by simp; omega⟩))), validB_false (by rw [hG]; omega)⟩
          · left
            exact ⟨.inr (.inr (.inr (.inl ⟨by simpa using h1, by simpa using h2, by simpa using h3, by simpa using h4⟩))), validB_false (by omega)⟩
        · left
          exact ⟨.inr (.inr (.inl ⟨by simpa using h1, by simpa using h2, by simpa using h3⟩)), validB_false (by omega)⟩
      · left
        exact ⟨.inr (.inl ⟨by simpa using h1, by simpa using h2⟩), validB_false (by omega)⟩
    · left
      exact ⟨.inl (by simpa using h1), validB_false (by omega)⟩
  have hm : IntKind.i64.wrap (-4611686018427387904) = -4611686018427387904 := by decide
  clear hG hn hd
  rcases HV.out with ⟨h | ⟨h1, h⟩ | ⟨h1, h2, h⟩ | ⟨h1, h2, h3, h⟩ | ⟨h1, h2, h3, h4, h⟩, e⟩ | ⟨⟨h1, h2, h3, h4, h⟩, e⟩
  all_goals
    rw [e]
    clear e HV
    go_enter Try.func41, Try.ntmps41
    go_wp2_with fail
    have A0 := Box2.new w (.int .i64 n) (.int .i64 d) 23
    have B0 := (Below.refl w.heap.size w).alloc (Nat.le_refl _) (.cells #[.int .i64 n, .int .i64 d] 23)
    generalize w.alloc (.cells #[.int .i64 n, .int .i64 d] 23) = W0 at *
    obtain ⟨x0, x1⟩ := A0.later
    clear A0
    refine wp_region_later (by kernel_rfl) (by kernel_rfl) ?_
    repeat (go_big_quiet_step ((first | (go_at_call 70; with_reducible exact later_same (most_any _)) | (go_at_call 72; with_reducible exact later_same (HS.out _)) | (go_at_call 71; with_reducible exact later_same (HG.out _)))))
    refine wpQuiet_nil ?_
    intro _ hw'
    obtain ⟨z, hw''⟩ := hw'
    subst hw''
    have B1 := B0.trans (z.below.mono B0.size)
    go_wp2_with fail
    go_ret
    exact ⟨rfl, B1⟩
end Fr
end Go.Proofs.Ytojkaaglmdfcnaa
