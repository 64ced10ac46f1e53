/- The reference's widths: choice, concatenation, slices, extension, what is no operator. -/
import Derived.Test.YtjfijhchnchfcaaV3
namespace Go.Proofs.Ytjfijhchnchfcaa
open Go.RowKit Sl Fr
namespace Bt
set_option linter.unusedVariables false
set_option linter.unusedSimpArgs false

set_option maxRecDepth 100000 in
set_option maxHeartbeats 1000000 in
theorem rw10 (A : Option Addr) (c : Nat) (ws : List Int) (k n : Int) (w : World) (hA : ArrI w A ws) (hlen : ws.length ≤ maxLen) (hn : -9223372036854775808 ≤ n ∧ n ≤ 9223372036854775807) :
    Calls Try.prog 11 #[.int .i64 10, .slice A ws.length c, .agg #[.int .i64 k, .int .i64 n]] w fun e w' => e = .returned (.agg #[.int .i64 (wid 10 ws k n), .int .i64 (err (wid 10 ws k n))]) ∧ Below w.heap.size w w' := by
  cases he : eqW ws 3
  · have HF : Hid (wid 10 ws k n = if isW (0) then (0) else 0) := Lib.hid (by exact wid_none (op := 10) (eqW_no he (fun h1 h2 h3 => by obtain ⟨a, b, d, rfl⟩ := len3 h1; have hne : ¬ d = b := (by rcases h3 with h3 | h3; omega; simpa using h3); show isW (if a = 1 ∧ b = d then b else 0) = false; rw [if_neg (fun h => hne h.2.symm)]; rfl) rfl (by omega)))
    have HA := Lib.hid hA
    have HEQ := Lib.hid (fun W (hW : Below w.heap.size w W) => equal_any A c ws 3 W (hA.keep hW) hlen (by omega))
    rw [he] at HEQ
    clear hA
    go_enter Try.func11, Try.ntmps11
    go_upto_region 1 with fail
    have hst := start2 w #[.int .i64 k, .int .i64 n] #[.int .i64 0, .int .i64 0] 23 32
    generalize (w.alloc (.cells #[.int .i64 k, .int .i64 n] 23)).alloc (.cells #[.int .i64 0, .int .i64 0] 32) = W0 at *
    obtain ⟨m0, m1, B0⟩ := hst
    obtain ⟨q0, q1⟩ := m0.l2 (Below.refl _ _)
    refine wp_region_later (by kernel_rfl) (by kernel_rfl) ?_
    repeat (go_big_quiet_step (fail))
    refine wpQuiet_nil ?_
    intro _ hw'
    obtain ⟨z, hw''⟩ := hw'
    subst hw''
    have B1 := B0.trans (z.below.mono B0.size)
    have M1 := m1.keep z.below
    clear q0 q1 m0 m1 B0
    generalize z.val = W1 at *
    go_wp2_with fail
    refine (HEQ.out W1 B1).mono ?_
    rintro e W2 ⟨rfl, hb2⟩
    have B2 := B1.trans (hb2.mono B1.size)
    have M2 := M1.keep hb2
    clear hb2 B1 M1
    go_upto_region 32 with (fail)
    obtain ⟨r0, r1⟩ := M2.c2
    obtain ⟨f0, f1⟩ := M2.f2
    have hmr := fun w => rIn_any (0) w
    generalize hiw : isW (0) = q at *
    cases q
    · have hf := HF.out
      go_wp2_with (go_at_call 30; refine (hmr _).mono ?_; rintro e w' ⟨rfl, rfl⟩)
      have hR := M2.s2 (.int .i64 0) (.int .i64 1)
      obtain ⟨s0, s1⟩ := hR.c2
      have hw2 : wid (10) ws k n = 0 := hf
      have he : err 0 = 1 := rfl
      rw [hw2, he]
      exact bodyPost_ret (v := .agg #[.int .i64 0, .int .i64 1]) (by simp [results, Try.results11, go_sem, s0, s1]) rfl ⟨rfl, below_s2 B2 (by omega) _ _⟩
    · have hf := HF.out
      go_wp2_with (go_at_call 30; refine (hmr _).mono ?_; rintro e w' ⟨rfl, rfl⟩)
      have hR := M2.s2 (.int .i64 (0)) (.int .i64 0)
      obtain ⟨s0, s1⟩ := hR.c2
      have hw2 : wid (10) ws k n = 0 := hf
      have he : err (0) = 0 := if_neg (by have := isW_in hiw; omega)
      rw [hw2, he]
      exact bodyPost_ret (v := .agg #[.int .i64 (0), .int .i64 0]) (by simp [results, Try.results11, go_sem, s0, s1]) rfl ⟨rfl, below_s2 B2 (by omega) _ _⟩
  · obtain ⟨a, b, rfl, ha, hb⟩ := eqW3 he
    by_cases h1 : a = 1
    · subst h1
      have HF : Hid (wid 10 [1, b, b] k n = if isW (b) then (b) else 0) := Lib.hid (by exact wid_of (op := 10) (by simp [ha, hb]) (if_pos ⟨rfl, rfl⟩))
      have HA := Lib.hid hA
      have HEQ := Lib.hid (fun W (hW : Below w.heap.size w W) => equal_any A c [1, b, b] 3 W (hA.keep hW) hlen (by omega))
      rw [he] at HEQ
      clear hA
      go_enter Try.func11, Try.ntmps11
      go_upto_region 1 with fail
      have hst := start2 w #[.int .i64 k, .int .i64 n] #[.int .i64 0, .int .i64 0] 23 32
      generalize (w.alloc (.cells #[.int .i64 k, .int .i64 n] 23)).alloc (.cells #[.int .i64 0, .int .i64 0] 32) = W0 at *
      obtain ⟨m0, m1, B0⟩ := hst
      obtain ⟨q0, q1⟩ := m0.l2 (Below.refl _ _)
      refine wp_region_later (by kernel_rfl) (by kernel_rfl) ?_
      repeat (go_big_quiet_step (fail))
      refine wpQuiet_nil ?_
      intro _ hw'
      obtain ⟨z, hw''⟩ := hw'
      subst hw''
      have B1 := B0.trans (z.below.mono B0.size)
      have M1 := m1.keep z.below
      clear q0 q1 m0 m1 B0
      generalize z.val = W1 at *
      go_wp2_with fail
      refine (HEQ.out W1 B1).mono ?_
      rintro e W2 ⟨rfl, hb2⟩
      have B2 := B1.trans (hb2.mono B1.size)
      have M2 := M1.keep hb2
      clear hb2 B1 M1
      obtain ⟨b1, o1, hb1⟩ := (HA.out.keep B2).open
      obtain ⟨hA1, hl1, hc1⟩ := hb1 (by simp)
      subst hA1
      have c0 : W2.cell? ⟨b1, o1, none⟩ = some (.int .i64 1) := hc1 0 _ rfl
      have c1 : W2.cell? ⟨b1, o1 + 1, none⟩ = some (.int .i64 b) := hc1 1 _ rfl
      have c2 : W2.cell? ⟨b1, o1 + 2, none⟩ = some (.int .i64 b) := hc1 2 _ rfl
      clear hb1 hc1
      go_upto_region 32 with (fail)
      clear c0 c1 c2
      obtain ⟨r0, r1⟩ := M2.c2
      obtain ⟨f0, f1⟩ := M2.f2
      have hmr := fun w => rIn_any (b) w
      generalize hiw : isW (b) = q at *
      cases q
      · exact absurd hb Bool.false_ne_true
      · have hf := HF.out
        go_wp2_with (go_at_call 30; refine (hmr _).mono ?_; rintro e w' ⟨rfl, rfl⟩)
        have hR := M2.s2 (.int .i64 (b)) (.int .i64 0)
        obtain ⟨s0, s1⟩ := hR.c2
        have hw2 : wid (10) [1, b, b] k n = b := hf
        have he : err (b) = 0 := if_neg (by have := isW_in hiw; omega)
        rw [hw2, he]
        exact bodyPost_ret (v := .agg #[.int .i64 (b), .int .i64 0]) (by simp [results, Try.results11, go_sem, s0, s1]) rfl ⟨rfl, below_s2 B2 (by omega) _ _⟩
    · have e1 : (a == 1) = false := by simpa using h1
      have H1 := Lib.hid h1
      clear h1
      have HF : Hid (wid 10 [a, b, b] k n = if isW (0) then (0) else 0) := Lib.hid (by exact wid_of (op := 10) (by simp [ha, hb]) (if_neg (fun h => H1.out h.1)))
      have HA := Lib.hid hA
      have HEQ := Lib.hid (fun W (hW : Below w.heap.size w W) => equal_any A c [a, b, b] 3 W (hA.keep hW) hlen (by omega))
      rw [he] at HEQ
      clear hA
      go_enter Try.func11, Try.ntmps11
      go_upto_region 1 with fail
      have hst := start2 w #[.int .i64 k, .int .i64 n] #[.int .i64 0, .int .i64 0] 23 32
      generalize (w.alloc (.cells #[.int .i64 k, .int .i64 n] 23)).alloc (.cells #[.int .i64 0, .int .i64 0] 32) = W0 at *
      obtain ⟨m0, m1, B0⟩ := hst
      obtain ⟨q0, q1⟩ := m0.l2 (Below.refl _ _)
      refine wp_region_later (by kernel_rfl) (by kernel_rfl) ?_
      repeat (go_big_quiet_step (fail))
      refine wpQuiet_nil ?_
      intro _ hw'
      obtain ⟨z, hw''⟩ := hw'
      subst hw''
      have B1 := B0.trans (z.below.mono B0.size)
      have M1 := m1.keep z.below
      clear q0 q1 m0 m1 B0
      generalize z.val = W1 at *
      go_wp2_with fail
      refine (HEQ.out W1 B1).mono ?_
      rintro e W2 ⟨rfl, hb2⟩
      have B2 := B1.trans (hb2.mono B1.size)
      have M2 := M1.keep hb2
      clear hb2 B1 M1
      obtain ⟨b1, o1, hb1⟩ := (HA.out.keep B2).open
      obtain ⟨hA1, hl1, hc1⟩ := hb1 (by simp)
      subst hA1
      have c0 : W2.cell? ⟨b1, o1, none⟩ = some (.int .i64 a) := hc1 0 _ rfl
      have c1 : W2.cell? ⟨b1, o1 + 1, none⟩ = some (.int .i64 b) := hc1 1 _ rfl
      have c2 : W2.cell? ⟨b1, o1 + 2, none⟩ = some (.int .i64 b) := hc1 2 _ rfl
      clear hb1 hc1
      go_upto_region 32 with (fail)
      clear c0 c1 c2
      obtain ⟨r0, r1⟩ := M2.c2
      obtain ⟨f0, f1⟩ := M2.f2
      have hmr := fun w => rIn_any (0) w
      generalize hiw : isW (0) = q at *
      cases q
      · have hf := HF.out
        go_wp2_with (go_at_call 30; refine (hmr _).mono ?_; rintro e w' ⟨rfl, rfl⟩)
        have hR := M2.s2 (.int .i64 0) (.int .i64 1)
        obtain ⟨s0, s1⟩ := hR.c2
        have hw2 : wid (10) [a, b, b] k n = 0 := hf
        have he : err 0 = 1 := rfl
        rw [hw2, he]
        exact bodyPost_ret (v := .agg #[.int .i64 0, .int .i64 1]) (by simp [results, Try.results11, go_sem, s0, s1]) rfl ⟨rfl, below_s2 B2 (by omega) _ _⟩
      · have hf := HF.out
        go_wp2_with (go_at_call 30; refine (hmr _).mono ?_; rintro e w' ⟨rfl, rfl⟩)
        have hR := M2.s2 (.int .i64 (0)) (.int .i64 0)
        obtain ⟨s0, s1⟩ := hR.c2
        have hw2 : wid (10) [a, b, b] k n = 0 := hf
        have he : err (0) = 0 := if_neg (by have := isW_in hiw; omega)
        rw [hw2, he]
        exact bodyPost_ret (v := .agg #[.int .i64 (0), .int .i64 0]) (by simp [results, Try.results11, go_sem, s0, s1]) rfl ⟨rfl, below_s2 B2 (by omega) _ _⟩

set_option maxRecDepth 100000 in
set_option maxHeartbeats 8000000 in
theorem rw11 (A : Option Addr) (c : Nat) (ws : List Int) (k n : Int) (w : World) (hA : ArrI w A ws) (hlen : ws.length ≤ maxLen) (hn : -9223372036854775808 ≤ n ∧ n ≤ 9223372036854775807) :
    Calls Try.prog 11 #[.int .i64 11, .slice A ws.length c, .agg #[.int .i64 k, .int .i64 n]] w fun e w' => e = .returned (.agg #[.int .i64 (wid 11 ws k n), .int .i64 (err (wid 11 ws k n))]) ∧ Below w.heap.size w w' := by
  by_cases hl : ws.length = 2
  · obtain ⟨a, b, rfl⟩ := len2 hl
    have hi := fun w => rIn_any a w
    have hj := fun w => rIn_any b w
    cases ha : isW a
    · rw [ha] at hi
      have HF : Hid (wid 11 [a, b] k n = if isW (0) then (0) else 0) := Lib.hid (by exact wid_none (op := 11) (wid_not (by simp [ha])))
      have HA := Lib.hid hA
      clear hA
      go_enter Try.func11, Try.ntmps11
      go_upto_region 1 with fail
      have hst := start2 w #[.int .i64 k, .int .i64 n] #[.int .i64 0, .int .i64 0] 23 32
      generalize (w.alloc (.cells #[.int .i64 k, .int .i64 n] 23)).alloc (.cells #[.int .i64 0, .int .i64 0] 32) = W0 at *
      obtain ⟨m0, m1, B0⟩ := hst
      obtain ⟨q0, q1⟩ := m0.l2 (Below.refl _ _)
      refine wp_region_later (by kernel_rfl) (by kernel_rfl) ?_
      repeat (go_big_quiet_step (fail))
      refine wpQuiet_nil ?_
      intro _ hw'
      obtain ⟨z, hw''⟩ := hw'
      subst hw''
      have B1 := B0.trans (z.below.mono B0.size)
      have M1 := m1.keep z.below
      clear q0 q1 m0 m1 B0
      generalize z.val = W1 at *
      obtain ⟨b1, o1, hb1⟩ := (HA.out.keep B1).open
      obtain ⟨hA1, hl1, hc1⟩ := hb1 (by simp)
      subst hA1
      have c0 : W1.cell? ⟨b1, o1, none⟩ = some (.int .i64 a) := hc1 0 _ rfl
      have c1 : W1.cell? ⟨b1, o1 + 1, none⟩ = some (.int .i64 b) := hc1 1 _ rfl
      clear hb1 hc1
      go_upto_region 32 with ((go_at_call 30; refine (hi _).mono ?_; rintro e w' ⟨rfl, rfl⟩))
      clear c0 c1
      obtain ⟨r0, r1⟩ := M1.c2
      obtain ⟨f0, f1⟩ := M1.f2
      have hmr := fun w => rIn_any (0) w
      generalize hiw : isW (0) = q at *
      cases q
      · have hf := HF.out
        go_wp2_with (go_at_call 30; refine (hmr _).mono ?_; rintro e w' ⟨rfl, rfl⟩)
        have hR := M1.s2 (.int .i64 0) (.int .i64 1)
        obtain ⟨s0, s1⟩ := hR.c2
        have hw2 : wid (11) [a, b] k n = 0 := hf
        have he : err 0 = 1 := rfl
        rw [hw2, he]
        exact bodyPost_ret (v := .agg #[.int .i64 0, .int .i64 1]) (by simp [results, Try.results11, go_sem, s0, s1]) rfl ⟨rfl, below_s2 B1 (by omega) _ _⟩
      · have hf := HF.out
        go_wp2_with (go_at_call 30; refine (hmr _).mono ?_; rintro e w' ⟨rfl, rfl⟩)
        have hR := M1.s2 (.int .i64 (0)) (.int .i64 0)
        obtain ⟨s0, s1⟩ := hR.c2
        have hw2 : wid (11) [a, b] k n = 0 := hf
        have he : err (0) = 0 := if_neg (by have := isW_in hiw; omega)
        rw [hw2, he]
        exact bodyPost_ret (v := .agg #[.int .i64 (0), .int .i64 0]) (by simp [results, Try.results11, go_sem, s0, s1]) rfl ⟨rfl, below_s2 B1 (by omega) _ _⟩
    · rw [ha] at hi
      cases hb : isW b
      · rw [hb] at hj
        have HF : Hid (wid 11 [a, b] k n = if isW (0) then (0) else 0) := Lib.hid (by exact wid_none (op := 11) (wid_not (by simp [hb])))
        have HA := Lib.hid hA
        clear hA
        go_enter Try.func11, Try.ntmps11
        go_upto_region 1 with fail
        have hst := start2 w #[.int .i64 k, .int .i64 n] #[.int .i64 0, .int .i64 0] 23 32
        generalize (w.alloc (.cells #[.int .i64 k, .int .i64 n] 23)).alloc (.cells #[.int .i64 0, .int .i64 0] 32) = W0 at *
        obtain ⟨m0, m1, B0⟩ := hst
        obtain ⟨q0, q1⟩ := m0.l2 (Below.refl _ _)
        refine wp_region_later (by kernel_rfl) (by kernel_rfl) ?_
        repeat (go_big_quiet_step (fail))
        refine wpQuiet_nil ?_
        intro _ hw'
        obtain ⟨z, hw''⟩ := hw'
        subst hw''
        have B1 := B0.trans (z.below.mono B0.size)
        have M1 := m1.keep z.below
        clear q0 q1 m0 m1 B0
        generalize z.val = W1 at *
        obtain ⟨b1, o1, hb1⟩ := (HA.out.keep B1).open
        obtain ⟨hA1, hl1, hc1⟩ := hb1 (by simp)
        subst hA1
        have c0 : W1.cell? ⟨b1, o1, none⟩ = some (.int .i64 a) := hc1 0 _ rfl
        have c1 : W1.cell? ⟨b1, o1 + 1, none⟩ = some (.int .i64 b) := hc1 1 _ rfl
        clear hb1 hc1
        go_upto_region 32 with (first | (go_at_call 30; refine (hi _).mono ?_; rintro e w' ⟨rfl, rfl⟩) | (go_at_call 30; refine (hj _).mono ?_; rintro e w' ⟨rfl, rfl⟩))
        clear c0 c1
        obtain ⟨r0, r1⟩ := M1.c2
        obtain ⟨f0, f1⟩ := M1.f2
        have hmr := fun w => rIn_any (0) w
        generalize hiw : isW (0) = q at *
        cases q
        · have hf := HF.out
          go_wp2_with (go_at_call 30; refine (hmr _).mono ?_; rintro e w' ⟨rfl, rfl⟩)
          have hR := M1.s2 (.int .i64 0) (.int .i64 1)
          obtain ⟨s0, s1⟩ := hR.c2
          have hw2 : wid (11) [a, b] k n = 0 := hf
          have he : err 0 = 1 := rfl
          rw [hw2, he]
          exact bodyPost_ret (v := .agg #[.int .i64 0, .int .i64 1]) (by simp [results, Try.results11, go_sem, s0, s1]) rfl ⟨rfl, below_s2 B1 (by omega) _ _⟩
        · have hf := HF.out
          go_wp2_with (go_at_call 30; refine (hmr _).mono ?_; rintro e w' ⟨rfl, rfl⟩)
          have hR := M1.s2 (.int .i64 (0)) (.int .i64 0)
          obtain ⟨s0, s1⟩ := hR.c2
          have hw2 : wid (11) [a, b] k n = 0 := hf
          have he : err (0) = 0 := if_neg (by have := isW_in hiw; omega)
          rw [hw2, he]
          exact bodyPost_ret (v := .agg #[.int .i64 (0), .int .i64 0]) (by simp [results, Try.results11, go_sem, s0, s1]) rfl ⟨rfl, below_s2 B1 (by omega) _ _⟩
      · rw [hb] at hj
        have ha8 := isW_in ha
        have hb8 := isW_in hb
        have HF : Hid (wid 11 [a, b] k n = if isW (a + b) then (a + b) else 0) := Lib.hid (by exact wid_of (op := 11) (by simp [ha, hb]) rfl)
        have HA := Lib.hid hA
        clear hA
        go_enter Try.func11, Try.ntmps11
        go_upto_region 1 with fail
        have hst := start2 w #[.int .i64 k, .int .i64 n] #[.int .i64 0, .int .i64 0] 23 32
        generalize (w.alloc (.cells #[.int .i64 k, .int .i64 n] 23)).alloc (.cells #[.int .i64 0, .int .i64 0] 32) = W0 at *
        obtain ⟨m0, m1, B0⟩ := hst
        obtain ⟨q0, q1⟩ := m0.l2 (Below.refl _ _)
        refine wp_region_later (by kernel_rfl) (by kernel_rfl) ?_
        repeat (go_big_quiet_step (fail))
        refine wpQuiet_nil ?_
        intro _ hw'
        obtain ⟨z, hw''⟩ := hw'
        subst hw''
        have B1 := B0.trans (z.below.mono B0.size)
        have M1 := m1.keep z.below
        clear q0 q1 m0 m1 B0
        generalize z.val = W1 at *
        obtain ⟨b1, o1, hb1⟩ := (HA.out.keep B1).open
        obtain ⟨hA1, hl1, hc1⟩ := hb1 (by simp)
        subst hA1
        have c0 : W1.cell? ⟨b1, o1, none⟩ = some (.int .i64 a) := hc1 0 _ rfl
        have c1 : W1.cell? ⟨b1, o1 + 1, none⟩ = some (.int .i64 b) := hc1 1 _ rfl
        clear hb1 hc1
        go_upto_region 25 with (first | (go_at_call 30; refine (hi _).mono ?_; rintro e w' ⟨rfl, rfl⟩) | (go_at_call 30; refine (hj _).mono ?_; rintro e w' ⟨rfl, rfl⟩))
        have d0 := fun p : Later W1 => (p.below.cell (p := ⟨b1, o1, none⟩) hl1).trans c0
        have d1 := fun p : Later W1 => (p.below.cell (p := ⟨b1, o1 + 1, none⟩) hl1).trans c1
        clear c0 c1
        refine wp_region_later (by kernel_rfl) (by kernel_rfl) ?_
        repeat (go_big_quiet_step (fail))
        refine wpQuiet_nil ?_
        intro _ hw'
        obtain ⟨z2, hw''⟩ := hw'
        subst hw''
        have B5 := B1.trans (z2.below.mono B1.size)
        have M5 := M1.keep z2.below
        clear d0 d1 B1 M1
        generalize z2.val = W5 at *
        go_upto_region 32 with (first | (go_at_call 30; refine (hi _).mono ?_; rintro e w' ⟨rfl, rfl⟩) | (go_at_call 30; refine (hj _).mono ?_; rintro e w' ⟨rfl, rfl⟩))
        obtain ⟨r0, r1⟩ := M5.c2
        obtain ⟨f0, f1⟩ := M5.f2
        have hmr := fun w => rIn_any (a + b) w
        generalize hiw : isW (a + b) = q at *
        cases q
        · have hf := HF.out
          go_wp2_with (go_at_call 30; refine (hmr _).mono ?_; rintro e w' ⟨rfl, rfl⟩)
          have hR := M5.s2 (.int .i64 0) (.int .i64 1)
          obtain ⟨s0, s1⟩ := hR.c2
          have hw2 : wid (11) [a, b] k n = 0 := hf
          have he : err 0 = 1 := rfl
          rw [hw2, he]
          exact bodyPost_ret (v := .agg #[.int .i64 0, .int .i64 1]) (by simp [results, Try.results11, go_sem, s0, s1]) rfl ⟨rfl, below_s2 B5 (by omega) _ _⟩
        · have hf := HF.out
          go_wp2_with (go_at_call 30; refine (hmr _).mono ?_; rintro e w' ⟨rfl, rfl⟩)
          have hR := M5.s2 (.int .i64 (a + b)) (.int .i64 0)
          obtain ⟨s0, s1⟩ := hR.c2
          have hw2 : wid (11) [a, b] k n = a + b := hf
          have he : err (a + b) = 0 := if_neg (by have := isW_in hiw; omega)
          rw [hw2, he]
          exact bodyPost_ret (v := .agg #[.int .i64 (a + b), .int .i64 0]) (by simp [results, Try.results11, go_sem, s0, s1]) rfl ⟨rfl, below_s2 B5 (by omega) _ _⟩
  · have e1 : ((ws.length : Int) == 2) = false := by rw [beq_eq_false_iff_ne]; omega
    have HL := Lib.hid hl
    clear hl
    have HF : Hid (wid 11 ws k n = if isW (0) then (0) else 0) := Lib.hid (by exact wid_none (op := 11) (wid_bad HL.out (by omega)))
    have HA := Lib.hid hA
    clear hA
    go_enter Try.func11, Try.ntmps11
    go_upto_region 1 with fail
    have hst := start2 w #[.int .i64 k, .int .i64 n] #[.int .i64 0, .int .i64 0] 23 32
    generalize (w.alloc (.cells #[.int .i64 k, .int .i64 n] 23)).alloc (.cells #[.int .i64 0, .int .i64 0] 32) = W0 at *
    obtain ⟨m0, m1, B0⟩ := hst
    obtain ⟨q0, q1⟩ := m0.l2 (Below.refl _ _)
    refine wp_region_later (by kernel_rfl) (by kernel_rfl) ?_
    repeat (go_big_quiet_step (fail))
    refine wpQuiet_nil ?_
    intro _ hw'
    obtain ⟨z, hw''⟩ := hw'
    subst hw''
    have B1 := B0.trans (z.below.mono B0.size)
    have M1 := m1.keep z.below
    clear q0 q1 m0 m1 B0
    generalize z.val = W1 at *
    go_upto_region 32 with (fail)
    obtain ⟨r0, r1⟩ := M1.c2
    obtain ⟨f0, f1⟩ := M1.f2
    have hmr := fun w => rIn_any (0) w
    generalize hiw : isW (0) = q at *
    cases q
    · have hf := HF.out
      go_wp2_with (go_at_call 30; refine (hmr _).mono ?_; rintro e w' ⟨rfl, rfl⟩)
      have hR := M1.s2 (.int .i64 0) (.int .i64 1)
      obtain ⟨s0, s1⟩ := hR.c2
      have hw2 : wid (11) ws k n = 0 := hf
      have he : err 0 = 1 := rfl
      rw [hw2, he]
      exact bodyPost_ret (v := .agg #[.int .i64 0, .int .i64 1]) (by simp [results, Try.results11, go_sem, s0, s1]) rfl ⟨rfl, below_s2 B1 (by omega) _ _⟩
    · have hf := HF.out
      go_wp2_with (go_at_call 30; refine (hmr _).mono ?_; rintro e w' ⟨rfl, rfl⟩)
      have hR := M1.s2 (.int .i64 (0)) (.int .i64 0)
      obtain ⟨s0, s1⟩ := hR.c2
      have hw2 : wid (11) ws k n = 0 := hf
      have he : err (0) = 0 := if_neg (by have := isW_in hiw; omega)
      rw [hw2, he]
      exact bodyPost_ret (v := .agg #[.int .i64 (0), .int .i64 0]) (by simp [results, Try.results11, go_sem, s0, s1]) rfl ⟨rfl, below_s2 B1 (by omega) _ _⟩

set_option maxRecDepth 100000 in
set_option maxHeartbeats 1000000 in
theorem rw12 (A : Option Addr) (c : Nat) (ws : List Int) (k n : Int) (w : World) (hA : ArrI w A ws) (hlen : ws.length ≤ maxLen) (hn : -9223372036854775808 ≤ n ∧ n ≤ 9223372036854775807) :
    Calls Try.prog 11 #[.int .i64 12, .slice A ws.length c, .agg #[.int .i64 k, .int .i64 n]] w fun e w' => e = .returned (.agg #[.int .i64 (wid 12 ws k n), .int .i64 (err (wid 12 ws k n))]) ∧ Below w.heap.size w w' := by
  cases he : eqW ws 1
  · have HF : Hid (wid 12 ws k n = if isW (0) then (0) else 0) := Lib.hid (by exact wid_none (op := 12) (eqW_lt he (by omega) rfl (by omega)))
    have HA := Lib.hid hA
    have HEQ := Lib.hid (fun W (hW : Below w.heap.size w W) => equal_any A c ws 1 W (hA.keep hW) hlen (by omega))
    rw [he] at HEQ
    clear hA
    go_enter Try.func11, Try.ntmps11
    go_upto_region 1 with fail
    have hst := start2 w #[.int .i64 k, .int .i64 n] #[.int .i64 0, .int .i64 0] 23 32
    generalize (w.alloc (.cells #[.int .i64 k, .int .i64 n] 23)).alloc (.cells #[.int .i64 0, .int .i64 0] 32) = W0 at *
    obtain ⟨m0, m1, B0⟩ := hst
    obtain ⟨q0, q1⟩ := m0.l2 (Below.refl _ _)
    refine wp_region_later (by kernel_rfl) (by kernel_rfl) ?_
    repeat (go_big_quiet_step (fail))
    refine wpQuiet_nil ?_
    intro _ hw'
    obtain ⟨z, hw''⟩ := hw'
    subst hw''
    have B1 := B0.trans (z.below.mono B0.size)
    have M1 := m1.keep z.below
    clear q0 q1 m0 m1 B0
    generalize z.val = W1 at *
    go_wp2_with fail
    refine (HEQ.out W1 B1).mono ?_
    rintro e W2 ⟨rfl, hb2⟩
    have B2 := B1.trans (hb2.mono B1.size)
    have M2 := M1.keep hb2
    clear hb2 B1 M1
    go_upto_region 32 with (fail)
    obtain ⟨r0, r1⟩ := M2.c2
    obtain ⟨f0, f1⟩ := M2.f2
    have hmr := fun w => rIn_any (0) w
    generalize hiw : isW (0) = q at *
    cases q
    · have hf := HF.out
      go_wp2_with (go_at_call 30; refine (hmr _).mono ?_; rintro e w' ⟨rfl, rfl⟩)
      have hR := M2.s2 (.int .i64 0) (.int .i64 1)
      obtain ⟨s0, s1⟩ := hR.c2
      have hw2 : wid (12) ws k n = 0 := hf
      have he : err 0 = 1 := rfl
      rw [hw2, he]
      exact bodyPost_ret (v := .agg #[.int .i64 0, .int .i64 1]) (by simp [results, Try.results11, go_sem, s0, s1]) rfl ⟨rfl, below_s2 B2 (by omega) _ _⟩
    · have hf := HF.out
      go_wp2_with (go_at_call 30; refine (hmr _).mono ?_; rintro e w' ⟨rfl, rfl⟩)
      have hR := M2.s2 (.int .i64 (0)) (.int .i64 0)
      obtain ⟨s0, s1⟩ := hR.c2
      have hw2 : wid (12) ws k n = 0 := hf
      have he : err (0) = 0 := if_neg (by have := isW_in hiw; omega)
      rw [hw2, he]
      exact bodyPost_ret (v := .agg #[.int .i64 (0), .int .i64 0]) (by simp [results, Try.results11, go_sem, s0, s1]) rfl ⟨rfl, below_s2 B2 (by omega) _ _⟩
  · obtain ⟨a, rfl, ha⟩ := eqW1 he
    have ha8 := isW_in ha
    have hi := fun w => rIn_any n w
    cases hw : isW n
    · rw [hw] at hi
      have HF : Hid (wid 12 [a] k n = if isW (0) then (0) else 0) := Lib.hid (by exact (wid_of (op := 12) (r := if 0 ≤ k ∧ k ≤ a - n then n else 0) (by simp [ha]) rfl).trans (by rw [show isW (if 0 ≤ k ∧ k ≤ a - n then n else 0) = false by (split; exact hw; rfl)]; rfl))
      have HA := Lib.hid hA
      have HEQ := Lib.hid (fun W (hW : Below w.heap.size w W) => equal_any A c [a] 1 W (hA.keep hW) hlen (by omega))
      rw [he] at HEQ
      clear hA
      go_enter Try.func11, Try.ntmps11
      go_upto_region 1 with fail
      have hst := start2 w #[.int .i64 k, .int .i64 n] #[.int .i64 0, .int .i64 0] 23 32
      generalize (w.alloc (.cells #[.int .i64 k, .int .i64 n] 23)).alloc (.cells #[.int .i64 0, .int .i64 0] 32) = W0 at *
      obtain ⟨m0, m1, B0⟩ := hst
      obtain ⟨q0, q1⟩ := m0.l2 (Below.refl _ _)
      refine wp_region_later (by kernel_rfl) (by kernel_rfl) ?_
      repeat (go_big_quiet_step (fail))
      refine wpQuiet_nil ?_
      intro _ hw'
      obtain ⟨z, hw''⟩ := hw'
      subst hw''
      have B1 := B0.trans (z.below.mono B0.size)
      have M1 := m1.keep z.below
      clear q0 q1 m0 m1 B0
      generalize z.val = W1 at *
      go_wp2_with fail
      refine (HEQ.out W1 B1).mono ?_
      rintro e W2 ⟨rfl, hb2⟩
      have B2 := B1.trans (hb2.mono B1.size)
      have M2 := M1.keep hb2
      clear hb2 B1 M1
      obtain ⟨b1, o1, hb1⟩ := (HA.out.keep B2).open
      obtain ⟨hA1, hl1, hc1⟩ := hb1 (by simp)
      subst hA1
      have c0 : W2.cell? ⟨b1, o1, none⟩ = some (.int .i64 a) := hc1 0 _ rfl
      clear hb1 hc1
      go_upto_region 32 with ((go_at_call 30; refine (hi _).mono ?_; rintro e w' ⟨rfl, rfl⟩))
      clear c0
      obtain ⟨r0, r1⟩ := M2.c2
      obtain ⟨f0, f1⟩ := M2.f2
      have hmr := fun w => rIn_any (0) w
      generalize hiw : isW (0) = q at *
      cases q
      · have hf := HF.out
        go_wp2_with (go_at_call 30; refine (hmr _).mono ?_; rintro e w' ⟨rfl, rfl⟩)
        have hR := M2.s2 (.int .i64 0) (.int .i64 1)
        obtain ⟨s0, s1⟩ := hR.c2
        have hw2 : wid (12) [a] k n = 0 := hf
        have he : err 0 = 1 := rfl
        rw [hw2, he]
        exact bodyPost_ret (v := .agg #[.int .i64 0, .int .i64 1]) (by simp [results, Try.results11, go_sem, s0, s1]) rfl ⟨rfl, below_s2 B2 (by omega) _ _⟩
      · have hf := HF.out
        go_wp2_with (go_at_call 30; refine (hmr _).mono ?_; rintro e w' ⟨rfl, rfl⟩)
        have hR := M2.s2 (.int .i64 (0)) (.int .i64 0)
        obtain ⟨s0, s1⟩ := hR.c2
        have hw2 : wid (12) [a] k n = 0 := hf
        have he : err (0) = 0 := if_neg (by have := isW_in hiw; omega)
        rw [hw2, he]
        exact bodyPost_ret (v := .agg #[.int .i64 (0), .int .i64 0]) (by simp [results, Try.results11, go_sem, s0, s1]) rfl ⟨rfl, below_s2 B2 (by omega) _ _⟩
    · rw [hw] at hi
      have hn8 := isW_in hw
      by_cases h0 : 0 ≤ k
      · by_cases h1 : k ≤ a - n
        · have HF : Hid (wid 12 [a] k n = if isW (n) then (n) else 0) := Lib.hid (by exact wid_of (op := 12) (by simp [ha]) (if_pos ⟨h0, h1⟩))
          have HA := Lib.hid hA
          have HEQ := Lib.hid (fun W (hW : Below w.heap.size w W) => equal_any A c [a] 1 W (hA.keep hW) hlen (by omega))
          rw [he] at HEQ
          clear hA
          go_enter Try.func11, Try.ntmps11
          go_upto_region 1 with fail
          have hst := start2 w #[.int .i64 k, .int .i64 n] #[.int .i64 0, .int .i64 0] 23 32
          generalize (w.alloc (.cells #[.int .i64 k, .int .i64 n] 23)).alloc (.cells #[.int .i64 0, .int .i64 0] 32) = W0 at *
          obtain ⟨m0, m1, B0⟩ := hst
          obtain ⟨q0, q1⟩ := m0.l2 (Below.refl _ _)
          refine wp_region_later (by kernel_rfl) (by kernel_rfl) ?_
          repeat (go_big_quiet_step (fail))
          refine wpQuiet_nil ?_
          intro _ hw'
          obtain ⟨z, hw''⟩ := hw'
          subst hw''
          have B1 := B0.trans (z.below.mono B0.size)
          have M1 := m1.keep z.below
          clear q0 q1 m0 m1 B0
          generalize z.val = W1 at *
          go_wp2_with fail
          refine (HEQ.out W1 B1).mono ?_
          rintro e W2 ⟨rfl, hb2⟩
          have B2 := B1.trans (hb2.mono B1.size)
          have M2 := M1.keep hb2
          clear hb2 B1 M1
          obtain ⟨b1, o1, hb1⟩ := (HA.out.keep B2).open
          obtain ⟨hA1, hl1, hc1⟩ := hb1 (by simp)
          subst hA1
          have c0 : W2.cell? ⟨b1, o1, none⟩ = some (.int .i64 a) := hc1 0 _ rfl
          clear hb1 hc1
          go_upto_region 32 with ((go_at_call 30; refine (hi _).mono ?_; rintro e w' ⟨rfl, rfl⟩))
          clear c0
          obtain ⟨r0, r1⟩ := M2.c2
          obtain ⟨f0, f1⟩ := M2.f2
          have hmr := fun w => rIn_any (n) w
          generalize hiw : isW (n) = q at *
          cases q
          · exact absurd hw Bool.false_ne_true
          · have hf := HF.out
            go_wp2_with (go_at_call 30; refine (hmr _).mono ?_; rintro e w' ⟨rfl, rfl⟩)
            have hR := M2.s2 (.int .i64 (n)) (.int .i64 0)
            obtain ⟨s0, s1⟩ := hR.c2
            have hw2 : wid (12) [a] k n = n := hf
            have he : err (n) = 0 := if_neg (by have := isW_in hiw; omega)
            rw [hw2, he]
            exact bodyPost_ret (v := .agg #[.int .i64 (n), .int .i64 0]) (by simp [results, Try.results11, go_sem, s0, s1]) rfl ⟨rfl, below_s2 B2 (by omega) _ _⟩
        · have h1' : a - n < k := by omega
          have HF : Hid (wid 12 [a] k n = if isW (0) then (0) else 0) := Lib.hid (by exact wid_of (op := 12) (by simp [ha]) (if_neg (fun h => h1 h.2)))
          have HA := Lib.hid hA
          have HEQ := Lib.hid (fun W (hW : Below w.heap.size w W) => equal_any A c [a] 1 W (hA.keep hW) hlen (by omega))
          rw [he] at HEQ
          clear hA
          go_enter Try.func11, Try.ntmps11
          go_upto_region 1 with fail
          have hst := start2 w #[.int .i64 k, .int .i64 n] #[.int .i64 0, .int .i64 0] 23 32
          generalize (w.alloc (.cells #[.int .i64 k, .int .i64 n] 23)).alloc (.cells #[.int .i64 0, .int .i64 0] 32) = W0 at *
          obtain ⟨m0, m1, B0⟩ := hst
          obtain ⟨q0, q1⟩ := m0.l2 (Below.refl _ _)
          refine wp_region_later (by kernel_rfl) (by kernel_rfl) ?_
          repeat (go_big_quiet_step (fail))
          refine wpQuiet_nil ?_
          intro _ hw'
          obtain ⟨z, hw''⟩ := hw'
          subst hw''
          have B1 := B0.trans (z.below.mono B0.size)
          have M1 := m1.keep z.below
          clear q0 q1 m0 m1 B0
          generalize z.val = W1 at *
          go_wp2_with fail
          refine (HEQ.out W1 B1).mono ?_
          rintro e W2 ⟨rfl, hb2⟩
          have B2 := B1.trans (hb2.mono B1.size)
          have M2 := M1.keep hb2
          clear hb2 B1 M1
          obtain ⟨b1, o1, hb1⟩ := (HA.out.keep B2).open
          obtain ⟨hA1, hl1, hc1⟩ := hb1 (by simp)
          subst hA1
          have c0 : W2.cell? ⟨b1, o1, none⟩ = some (.int .i64 a) := hc1 0 _ rfl
          clear hb1 hc1
          go_upto_region 32 with ((go_at_call 30; refine (hi _).mono ?_; rintro e w' ⟨rfl, rfl⟩))
          clear c0
          obtain ⟨r0, r1⟩ := M2.c2
          obtain ⟨f0, f1⟩ := M2.f2
          have hmr := fun w => rIn_any (0) w
          generalize hiw : isW (0) = q at *
          cases q
          · have hf := HF.out
            go_wp2_with (go_at_call 30; refine (hmr _).mono ?_; rintro e w' ⟨rfl, rfl⟩)
            have hR := M2.s2 (.int .i64 0) (.int .i64 1)
            obtain ⟨s0, s1⟩ := hR.c2
            have hw2 : wid (12) [a] k n = 0 := hf
            have he : err 0 = 1 := rfl
            rw [hw2, he]
            exact bodyPost_ret (v := .agg #[.int .i64 0, .int .i64 1]) (by simp [results, Try.results11, go_sem, s0, s1]) rfl ⟨rfl, below_s2 B2 (by omega) _ _⟩
          · have hf := HF.out
            go_wp2_with (go_at_call 30; refine (hmr _).mono ?_; rintro e w' ⟨rfl, rfl⟩)
            have hR := M2.s2 (.int .i64 (0)) (.int .i64 0)
            obtain ⟨s0, s1⟩ := hR.c2
            have hw2 : wid (12) [a] k n = 0 := hf
            have he : err (0) = 0 := if_neg (by have := isW_in hiw; omega)
            rw [hw2, he]
            exact bodyPost_ret (v := .agg #[.int .i64 (0), .int .i64 0]) (by simp [results, Try.results11, go_sem, s0, s1]) rfl ⟨rfl, below_s2 B2 (by omega) _ _⟩
      · have h0' : k < 0 := by omega
        have HF : Hid (wid 12 [a] k n = if isW (0) then (0) else 0) := Lib.hid (by exact wid_of (op := 12) (by simp [ha]) (if_neg (fun h => h0 h.1)))
        have HA := Lib.hid hA
        have HEQ := Lib.hid (fun W (hW : Below w.heap.size w W) => equal_any A c [a] 1 W (hA.keep hW) hlen (by omega))
        rw [he] at HEQ
        clear hA
        go_enter Try.func11, Try.ntmps11
        go_upto_region 1 with fail
        have hst := start2 w #[.int .i64 k, .int .i64 n] #[.int .i64 0, .int .i64 0] 23 32
        generalize (w.alloc (.cells #[.int .i64 k, .int .i64 n] 23)).alloc (.cells #[.int .i64 0, .int .i64 0] 32) = W0 at *
        obtain ⟨m0, m1, B0⟩ := hst
        obtain ⟨q0, q1⟩ := m0.l2 (Below.refl _ _)
        refine wp_region_later (by kernel_rfl) (by kernel_rfl) ?_
        repeat (go_big_quiet_step (fail))
        refine wpQuiet_nil ?_
        intro _ hw'
        obtain ⟨z, hw''⟩ := hw'
        subst hw''
        have B1 := B0.trans (z.below.mono B0.size)
        have M1 := m1.keep z.below
        clear q0 q1 m0 m1 B0
        generalize z.val = W1 at *
        go_wp2_with fail
        refine (HEQ.out W1 B1).mono ?_
        rintro e W2 ⟨rfl, hb2⟩
        have B2 := B1.trans (hb2.mono B1.size)
        have M2 := M1.keep hb2
        clear hb2 B1 M1
        obtain ⟨b1, o1, hb1⟩ := (HA.out.keep B2).open
        obtain ⟨hA1, hl1, hc1⟩ := hb1 (by simp)
        subst hA1
        have c0 : W2.cell? ⟨b1, o1, none⟩ = some (.int .i64 a) := hc1 0 _ rfl
        clear hb1 hc1
        go_upto_region 32 with ((go_at_call 30; refine (hi _).mono ?_; rintro e w' ⟨rfl, rfl⟩))
        clear c0
        obtain ⟨r0, r1⟩ := M2.c2
        obtain ⟨f0, f1⟩ := M2.f2
        have hmr := fun w => rIn_any (0) w
        generalize hiw : isW (0) = q at *
        cases q
        · have hf := HF.out
          go_wp2_with (go_at_call 30; refine (hmr _).mono ?_; rintro e w' ⟨rfl, rfl⟩)
          have hR := M2.s2 (.int .i64 0) (.int .i64 1)
          obtain ⟨s0, s1⟩ := hR.c2
          have hw2 : wid (12) [a] k n = 0 := hf
          have he : err 0 = 1 := rfl
          rw [hw2, he]
          exact bodyPost_ret (v := .agg #[.int .i64 0, .int .i64 1]) (by simp [results, Try.results11, go_sem, s0, s1]) rfl ⟨rfl, below_s2 B2 (by omega) _ _⟩
        · have hf := HF.out
          go_wp2_with (go_at_call 30; refine (hmr _).mono ?_; rintro e w' ⟨rfl, rfl⟩)
          have hR := M2.s2 (.int .i64 (0)) (.int .i64 0)
          obtain ⟨s0, s1⟩ := hR.c2
          have hw2 : wid (12) [a] k n = 0 := hf
          have he : err (0) = 0 := if_neg (by have := isW_in hiw; omega)
          rw [hw2, he]
          exact bodyPost_ret (v := .agg #[.int .i64 (0), .int .i64 0]) (by simp [results, Try.results11, go_sem, s0, s1]) rfl ⟨rfl, below_s2 B2 (by omega) _ _⟩

set_option maxRecDepth 100000 in
set_option maxHeartbeats 1000000 in
theorem rw13 (A : Option Addr) (c : Nat) (ws : List Int) (k n : Int) (w : World) (hA : ArrI w A ws) (hlen : ws.length ≤ maxLen) (hn : -9223372036854775808 ≤ n ∧ n ≤ 9223372036854775807) :
    Calls Try.prog 11 #[.int .i64 13, .slice A ws.length c, .agg #[.int .i64 k, .int .i64 n]] w fun e w' => e = .returned (.agg #[.int .i64 (wid 13 ws k n), .int .i64 (err (wid 13 ws k n))]) ∧ Below w.heap.size w w' := by
  cases he : eqW ws 1
  · have HF : Hid (wid 13 ws k n = if isW (0) then (0) else 0) := Lib.hid (by exact wid_none (op := 13) (eqW_lt he (by omega) rfl (by omega)))
    have HA := Lib.hid hA
    have HEQ := Lib.hid (fun W (hW : Below w.heap.size w W) => equal_any A c ws 1 W (hA.keep hW) hlen (by omega))
    rw [he] at HEQ
    clear hA
    go_enter Try.func11, Try.ntmps11
    go_upto_region 1 with fail
    have hst := start2 w #[.int .i64 k, .int .i64 n] #[.int .i64 0, .int .i64 0] 23 32
    generalize (w.alloc (.cells #[.int .i64 k, .int .i64 n] 23)).alloc (.cells #[.int .i64 0, .int .i64 0] 32) = W0 at *
    obtain ⟨m0, m1, B0⟩ := hst
    obtain ⟨q0, q1⟩ := m0.l2 (Below.refl _ _)
    refine wp_region_later (by kernel_rfl) (by kernel_rfl) ?_
    repeat (go_big_quiet_step (fail))
    refine wpQuiet_nil ?_
    intro _ hw'
    obtain ⟨z, hw''⟩ := hw'
    subst hw''
    have B1 := B0.trans (z.below.mono B0.size)
    have M1 := m1.keep z.below
    clear q0 q1 m0 m1 B0
    generalize z.val = W1 at *
    go_wp2_with fail
    refine (HEQ.out W1 B1).mono ?_
    rintro e W2 ⟨rfl, hb2⟩
    have B2 := B1.trans (hb2.mono B1.size)
    have M2 := M1.keep hb2
    clear hb2 B1 M1
    go_upto_region 32 with (fail)
    obtain ⟨r0, r1⟩ := M2.c2
    obtain ⟨f0, f1⟩ := M2.f2
    have hmr := fun w => rIn_any (0) w
    generalize hiw : isW (0) = q at *
    cases q
    · have hf := HF.out
      go_wp2_with (go_at_call 30; refine (hmr _).mono ?_; rintro e w' ⟨rfl, rfl⟩)
      have hR := M2.s2 (.int .i64 0) (.int .i64 1)
      obtain ⟨s0, s1⟩ := hR.c2
      have hw2 : wid (13) ws k n = 0 := hf
      have he : err 0 = 1 := rfl
      rw [hw2, he]
      exact bodyPost_ret (v := .agg #[.int .i64 0, .int .i64 1]) (by simp [results, Try.results11, go_sem, s0, s1]) rfl ⟨rfl, below_s2 B2 (by omega) _ _⟩
    · have hf := HF.out
      go_wp2_with (go_at_call 30; refine (hmr _).mono ?_; rintro e w' ⟨rfl, rfl⟩)
      have hR := M2.s2 (.int .i64 (0)) (.int .i64 0)
      obtain ⟨s0, s1⟩ := hR.c2
      have hw2 : wid (13) ws k n = 0 := hf
      have he : err (0) = 0 := if_neg (by have := isW_in hiw; omega)
      rw [hw2, he]
      exact bodyPost_ret (v := .agg #[.int .i64 (0), .int .i64 0]) (by simp [results, Try.results11, go_sem, s0, s1]) rfl ⟨rfl, below_s2 B2 (by omega) _ _⟩
  · obtain ⟨a, rfl, ha⟩ := eqW1 he
    by_cases h0 : a ≤ n
    · have HF : Hid (wid 13 [a] k n = if isW (n) then (n) else 0) := Lib.hid (by exact wid_of (op := 13) (by simp [ha]) (if_pos h0))
      have HA := Lib.hid hA
      have HEQ := Lib.hid (fun W (hW : Below w.heap.size w W) => equal_any A c [a] 1 W (hA.keep hW) hlen (by omega))
      rw [he] at HEQ
      clear hA
      go_enter Try.func11, Try.ntmps11
      go_upto_region 1 with fail
      have hst := start2 w #[.int .i64 k, .int .i64 n] #[.int .i64 0, .int .i64 0] 23 32
      generalize (w.alloc (.cells #[.int .i64 k, .int .i64 n] 23)).alloc (.cells #[.int .i64 0, .int .i64 0] 32) = W0 at *
      obtain ⟨m0, m1, B0⟩ := hst
      obtain ⟨q0, q1⟩ := m0.l2 (Below.refl _ _)
      refine wp_region_later (by kernel_rfl) (by kernel_rfl) ?_
      repeat (go_big_quiet_step (fail))
      refine wpQuiet_nil ?_
      intro _ hw'
      obtain ⟨z, hw''⟩ := hw'
      subst hw''
      have B1 := B0.trans (z.below.mono B0.size)
      have M1 := m1.keep z.below
      clear q0 q1 m0 m1 B0
      generalize z.val = W1 at *
      go_wp2_with fail
      refine (HEQ.out W1 B1).mono ?_
      rintro e W2 ⟨rfl, hb2⟩
      have B2 := B1.trans (hb2.mono B1.size)
      have M2 := M1.keep hb2
      clear hb2 B1 M1
      obtain ⟨b1, o1, hb1⟩ := (HA.out.keep B2).open
      obtain ⟨hA1, hl1, hc1⟩ := hb1 (by simp)
      subst hA1
      have c0 : W2.cell? ⟨b1, o1, none⟩ = some (.int .i64 a) := hc1 0 _ rfl
      clear hb1 hc1
      go_upto_region 32 with (fail)
      clear c0
      obtain ⟨r0, r1⟩ := M2.c2
      obtain ⟨f0, f1⟩ := M2.f2
      have hmr := fun w => rIn_any (n) w
      generalize hiw : isW (n) = q at *
      cases q
      · have hf := HF.out
        go_wp2_with (go_at_call 30; refine (hmr _).mono ?_; rintro e w' ⟨rfl, rfl⟩)
        have hR := M2.s2 (.int .i64 0) (.int .i64 1)
        obtain ⟨s0, s1⟩ := hR.c2
        have hw2 : wid (13) [a] k n = 0 := hf
        have he : err 0 = 1 := rfl
        rw [hw2, he]
        exact bodyPost_ret (v := .agg #[.int .i64 0, .int .i64 1]) (by simp [results, Try.results11, go_sem, s0, s1]) rfl ⟨rfl, below_s2 B2 (by omega) _ _⟩
      · have hf := HF.out
        go_wp2_with (go_at_call 30; refine (hmr _).mono ?_; rintro e w' ⟨rfl, rfl⟩)
        have hR := M2.s2 (.int .i64 (n)) (.int .i64 0)
        obtain ⟨s0, s1⟩ := hR.c2
        have hw2 : wid (13) [a] k n = n := hf
        have he : err (n) = 0 := if_neg (by have := isW_in hiw; omega)
        rw [hw2, he]
        exact bodyPost_ret (v := .agg #[.int .i64 (n), .int .i64 0]) (by simp [results, Try.results11, go_sem, s0, s1]) rfl ⟨rfl, below_s2 B2 (by omega) _ _⟩
    · have h0' : n < a := by omega
      have HF : Hid (wid 13 [a] k n = if isW (0) then (0) else 0) := Lib.hid (by exact wid_of (op := 13) (by simp [ha]) (if_neg h0))
      have HA := Lib.hid hA
      have HEQ := Lib.hid (fun W (hW : Below w.heap.size w W) => equal_any A c [a] 1 W (hA.keep hW) hlen (by omega))
      rw [he] at HEQ
      clear hA
      go_enter Try.func11, Try.ntmps11
      go_upto_region 1 with fail
      have hst := start2 w #[.int .i64 k, .int .i64 n] #[.int .i64 0, .int .i64 0] 23 32
      generalize (w.alloc (.cells #[.int .i64 k, .int .i64 n] 23)).alloc (.cells #[.int .i64 0, .int .i64 0] 32) = W0 at *
      obtain ⟨m0, m1, B0⟩ := hst
      obtain ⟨q0, q1⟩ := m0.l2 (Below.refl _ _)
      refine wp_region_later (by kernel_rfl) (by kernel_rfl) ?_
      repeat (go_big_quiet_step (fail))
      refine wpQuiet_nil ?_
      intro _ hw'
      obtain ⟨z, hw''⟩ := hw'
      subst hw''
      have B1 := B0.trans (z.below.mono B0.size)
      have M1 := m1.keep z.below
      clear q0 q1 m0 m1 B0
      generalize z.val = W1 at *
      go_wp2_with fail
      refine (HEQ.out W1 B1).mono ?_
      rintro e W2 ⟨rfl, hb2⟩
      have B2 := B1.trans (hb2.mono B1.size)
      have M2 := M1.keep hb2
      clear hb2 B1 M1
      obtain ⟨b1, o1, hb1⟩ := (HA.out.keep B2).open
      obtain ⟨hA1, hl1, hc1⟩ := hb1 (by simp)
      subst hA1
      have c0 : W2.cell? ⟨b1, o1, none⟩ = some (.int .i64 a) := hc1 0 _ rfl
      clear hb1 hc1
      go_upto_region 32 with (fail)
      clear c0
      obtain ⟨r0, r1⟩ := M2.c2
      obtain ⟨f0, f1⟩ := M2.f2
      have hmr := fun w => rIn_any (0) w
      generalize hiw : isW (0) = q at *
      cases q
      · have hf := HF.out
        go_wp2_with (go_at_call 30; refine (hmr _).mono ?_; rintro e w' ⟨rfl, rfl⟩)
        have hR := M2.s2 (.int .i64 0) (.int .i64 1)
        obtain ⟨s0, s1⟩ := hR.c2
        have hw2 : wid (13) [a] k n = 0 := hf
        have he : err 0 = 1 := rfl
        rw [hw2, he]
        exact bodyPost_ret (v := .agg #[.int .i64 0, .int .i64 1]) (by simp [results, Try.results11, go_sem, s0, s1]) rfl ⟨rfl, below_s2 B2 (by omega) _ _⟩
      · have hf := HF.out
        go_wp2_with (go_at_call 30; refine (hmr _).mono ?_; rintro e w' ⟨rfl, rfl⟩)
        have hR := M2.s2 (.int .i64 (0)) (.int .i64 0)
        obtain ⟨s0, s1⟩ := hR.c2
        have hw2 : wid (13) [a] k n = 0 := hf
        have he : err (0) = 0 := if_neg (by have := isW_in hiw; omega)
        rw [hw2, he]
        exact bodyPost_ret (v := .agg #[.int .i64 (0), .int .i64 0]) (by simp [results, Try.results11, go_sem, s0, s1]) rfl ⟨rfl, below_s2 B2 (by omega) _ _⟩

set_option maxRecDepth 100000 in
set_option maxHeartbeats 1000000 in
theorem rw_out (op : Int) (h : ¬ (1 ≤ op ∧ op ≤ 13)) (A : Option Addr) (c : Nat) (ws : List Int) (k n : Int) (w : World) (hA : ArrI w A ws) :
    Calls Try.prog 11 #[.int .i64 op, .slice A ws.length c, .agg #[.int .i64 k, .int .i64 n]] w fun e w' => e = .returned (.agg #[.int .i64 (wid op ws k n), .int .i64 (err (wid op ws k n))]) ∧ Below w.heap.size w w' := by
  have HF : Hid (wid op ws k n = if isW 0 then 0 else 0) := Lib.hid (by rw [wid_out h]; rfl)
  have g1 : (op == 1) = false := by rw [beq_eq_false_iff_ne]; omega
  have g2 : (op == 2) = false := by rw [beq_eq_false_iff_ne]; omega
  have g3 : (op == 3) = false := by rw [beq_eq_false_iff_ne]; omega
  have g4 : (op == 4) = false := by rw [beq_eq_false_iff_ne]; omega
  have g5 : (op == 5) = false := by rw [beq_eq_false_iff_ne]; omega
  have g6 : (op == 6) = false := by rw [beq_eq_false_iff_ne]; omega
  have g7 : (op == 7) = false := by rw [beq_eq_false_iff_ne]; omega
  have g8 : (op == 8) = false := by rw [beq_eq_false_iff_ne]; omega
  have g9 : (op == 9) = false := by rw [beq_eq_false_iff_ne]; omega
  have g10 : (op == 10) = false := by rw [beq_eq_false_iff_ne]; omega
  have g11 : (op == 11) = false := by rw [beq_eq_false_iff_ne]; omega
  have g12 : (op == 12) = false := by rw [beq_eq_false_iff_ne]; omega
  have g13 : (op == 13) = false := by rw [beq_eq_false_iff_ne]; omega
  clear h hA
  go_enter Try.func11, Try.ntmps11
  go_upto_region 1 with fail
  have hst := start2 w #[.int .i64 k, .int .i64 n] #[.int .i64 0, .int .i64 0] 23 32
  generalize (w.alloc (.cells #[.int .i64 k, .int .i64 n] 23)).alloc (.cells #[.int .i64 0, .int .i64 0] 32) = W0 at *
  obtain ⟨m0, m1, B0⟩ := hst
  obtain ⟨q0, q1⟩ := m0.l2 (Below.refl _ _)
  refine wp_region_later (by kernel_rfl) (by kernel_rfl) ?_
  repeat (go_big_quiet_step (fail))
  refine wpQuiet_nil ?_
  intro _ hw'
  obtain ⟨z, hw''⟩ := hw'
  subst hw''
  have B1 := B0.trans (z.below.mono B0.size)
  have M1 := m1.keep z.below
  clear q0 q1 m0 m1 B0
  generalize z.val = W1 at *
  go_upto_region 32 with (fail)
  obtain ⟨r0, r1⟩ := M1.c2
  obtain ⟨f0, f1⟩ := M1.f2
  have hmr := fun w => rIn_any (0) w
  generalize hiw : isW (0) = q at *
  cases q
  · have hf := HF.out
    go_wp2_with (go_at_call 30; refine (hmr _).mono ?_; rintro e w' ⟨rfl, rfl⟩)
    have hR := M1.s2 (.int .i64 0) (.int .i64 1)
    obtain ⟨s0, s1⟩ := hR.c2
    have hw2 : wid op ws k n = 0 := hf
    have he : err 0 = 1 := rfl
    rw [hw2, he]
    exact bodyPost_ret (v := .agg #[.int .i64 0, .int .i64 1]) (by simp [results, Try.results11, go_sem, s0, s1]) rfl ⟨rfl, below_s2 B1 (by omega) _ _⟩
  · have hf := HF.out
    go_wp2_with (go_at_call 30; refine (hmr _).mono ?_; rintro e w' ⟨rfl, rfl⟩)
    have hR := M1.s2 (.int .i64 (0)) (.int .i64 0)
    obtain ⟨s0, s1⟩ := hR.c2
    have hw2 : wid op ws k n = 0 := hf
    have he : err (0) = 0 := if_neg (by have := isW_in hiw; omega)
    rw [hw2, he]
    exact bodyPost_ret (v := .agg #[.int .i64 (0), .int .i64 0]) (by simp [results, Try.results11, go_sem, s0, s1]) rfl ⟨rfl, below_s2 B1 (by omega) _ _⟩
theorem rwidth_any (op : Int) (A : Option Addr) (c : Nat) (ws : List Int) (k n : Int) (w : World) (hA : ArrI w A ws) (hlen : ws.length ≤ maxLen) (hn : -9223372036854775808 ≤ n ∧ n ≤ 9223372036854775807) :
    Calls Try.prog 11 #[.int .i64 op, .slice A ws.length c, .agg #[.int .i64 k, .int .i64 n]] w fun e w' => e = .returned (.agg #[.int .i64 (wid op ws k n), .int .i64 (err (wid op ws k n))]) ∧ Below w.heap.size w w' := by
  by_cases h : 1 ≤ op ∧ op ≤ 13
  · obtain ⟨m, rfl⟩ := Int.eq_ofNat_of_zero_le (by omega : 0 ≤ op)
    rcases ops13 (op := m) (by omega) with rfl | rfl | rfl | rfl | rfl | rfl | rfl | rfl | rfl | rfl | rfl | rfl | rfl
    · exact rw1 A c ws k n w hA hlen hn
    · exact rw2 A c ws k n w hA hlen hn
    · exact rw3 A c ws k n w hA hlen hn
    · exact rw4 A c ws k n w hA hlen hn
    · exact rw5 A c ws k n w hA hlen hn
    · exact rw6 A c ws k n w hA hlen hn
    · exact rw7 A c ws k n w hA hlen hn
    · exact rw8 A c ws k n w hA hlen hn
    · exact rw9 A c ws k n w hA hlen hn
    · exact rw10 A c ws k n w hA hlen hn
    · exact rw11 A c ws k n w hA hlen hn
    · exact rw12 A c ws k n w hA hlen hn
    · exact rw13 A c ws k n w hA hlen hn
  · exact rw_out op h A c ws k n w hA

end Bt
end Go.Proofs.Ytjfijhchnchfcaa
