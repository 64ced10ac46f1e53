/- The reference's widths. -/
import Derived.Test.YtjfijhchnchfcaaV2
namespace Go.Proofs.Ytjfijhchnchfcaa
open Go.RowKit Sl Fr
namespace Bt
set_option linter.unusedVariables false
set_option linter.unusedSimpArgs false

theorem eqW_no {ws : List Int} {m : Nat} (h : eqW ws m = false) {op : Nat} {k n : Int} (h5 : ws.length = m → ws.all isW = true → (m < 2 ∨ ws[m - 1]? ≠ ws[m - 2]?) → isW (raw op ws k n) = false) (hl : arity op = m) (ho : 1 ≤ op ∧ op ≤ 13) : wid op ws k n = 0 := by
  by_cases h1 : ws.length = m
  · cases h2 : ws.all isW with
    | false => exact wid_not h2
    | true =>
      unfold eqW at h
      rw [decide_eq_true h1, h2] at h
      have h3 := h5 h1 h2 (by
        by_cases h4 : m < 2
        · exact .inl h4
        · rw [decide_eq_false h4] at h
          exact .inr (by simpa using h))
      unfold wid
      rw [Int.toNat_natCast, h3]
      simp
  · exact wid_bad (by rw [hl]; exact h1) ho
theorem eqW_lt {ws : List Int} {m : Nat} (h : eqW ws m = false) (hm : m < 2) {op : Nat} {k n : Int} (hl : arity op = m) (ho : 1 ≤ op ∧ op ≤ 13) : wid op ws k n = 0 := by
  by_cases h1 : ws.length = m
  · cases h2 : ws.all isW with
    | false => exact wid_not h2
    | true =>
      unfold eqW at h
      rw [decide_eq_true h1, h2, decide_eq_true hm] at h
      cases h
  · exact wid_bad (by rw [hl]; exact h1) ho
theorem eqW1 {ws : List Int} (h : eqW ws 1 = true) : ∃ a, ws = [a] ∧ isW a = true := by
  simp only [eqW, Bool.and_eq_true, decide_eq_true_eq] at h
  obtain ⟨a, rfl⟩ := len1 h.1.1
  exact ⟨a, rfl, by simpa using h.1.2⟩
theorem eqW2 {ws : List Int} (h : eqW ws 2 = true) : ∃ a, ws = [a, a] ∧ isW a = true := by
  simp only [eqW, Bool.and_eq_true, decide_eq_true_eq] at h
  obtain ⟨a, b, rfl⟩ := len2 h.1.1
  have h1 : isW a = true ∧ isW b = true := by simpa using h.1.2
  have h2 : b = a := by simpa using h.2
  exact ⟨a, by rw [h2], h1.1⟩
theorem eqW3 {ws : List Int} (h : eqW ws 3 = true) : ∃ a b, ws = [a, b, b] ∧ isW a = true ∧ isW b = true := by
  simp only [eqW, Bool.and_eq_true, decide_eq_true_eq] at h
  obtain ⟨a, b, d, rfl⟩ := len3 h.1.1
  have h1 : isW a = true ∧ isW b = true ∧ isW d = true := by simpa using h.1.2
  have h2 : d = b := by simpa using h.2
  exact ⟨a, b, by rw [h2], h1.1, h1.2.1⟩
theorem wid_of {op : Nat} {ws : List Int} {k n r : Int} (h1 : ws.all isW = true) (h2 : raw op ws k n = r) : wid op ws k n = if isW r then r else 0 := by
  unfold wid
  rw [Int.toNat_natCast, h1, h2]
  rfl
theorem wid_none {op : Nat} {ws : List Int} {k n : Int} (h : wid op ws k n = 0) : wid op ws k n = if isW 0 then 0 else 0 := by rw [h]; rfl
set_option maxRecDepth 100000 in
set_option maxHeartbeats 1000000 in
theorem rw1 (A : Option Addr) (c : Nat) (ws : List Int) (k n : Int) (w : World) (hA : ArrI w A ws) (hlen : ws.length ≤ maxLen) (hn : -9223372036854775808 ≤ n ∧ n ≤ 9223372036854775807) :
    Calls Try.prog 11 #[.int .i64 1, .slice A ws.length c, .agg #[.int .i64 k, .int .i64 n]] w fun e w' => e = .returned (.agg #[.int .i64 (wid 1 ws k n), .int .i64 (err (wid 1 ws k n))]) ∧ Below w.heap.size w w' := by
  by_cases hl : ws.length = 0
  · obtain rfl := len0 hl
    have hi := fun w => rIn_any n w
    have hm := fun w => rmask_any n w
    cases hw : isW n
    · rw [hw] at hi
      have HF : Hid (wid 1 [] k n = if isW (0) then (0) else 0) := Lib.hid (by exact (wid_of (op := 1) (r := if 0 ≤ k ∧ k ≤ mask n then n else 0) rfl rfl).trans (by rw [show isW (if 0 ≤ k ∧ k ≤ mask n then n else 0) = false by (split; exact hw; rfl)]; rfl))
      have HA := Lib.hid hA
      clear hA
      go_enter Try.func11, Try.ntmps11
      go_upto_region 1 with fail
      have hst := start2 w #[.int .i64 k, .int .i64 n] #[.int .i64 0, .int .i64 0] 23 32
      generalize (w.alloc (.cells #[.int .i64 k, .int .i64 n] 23)).alloc (.cells #[.int .i64 0, .int .i64 0] 32) = W0 at *
      obtain ⟨m0, m1, B0⟩ := hst
      obtain ⟨q0, q1⟩ := m0.l2 (Below.refl _ _)
      refine wp_region_later (by kernel_rfl) (by kernel_rfl) ?_
      repeat (go_big_quiet_step (fail))
      refine wpQuiet_nil ?_
      intro _ hw'
      obtain ⟨z, hw''⟩ := hw'
      subst hw''
      have B1 := B0.trans (z.below.mono B0.size)
      have M1 := m1.keep z.below
      clear q0 q1 m0 m1 B0
      generalize z.val = W1 at *
      go_upto_region 32 with ((go_at_call 30; refine (hi _).mono ?_; rintro e w' ⟨rfl, rfl⟩))
      obtain ⟨r0, r1⟩ := M1.c2
      obtain ⟨f0, f1⟩ := M1.f2
      have hmr := fun w => rIn_any (0) w
      generalize hiw : isW (0) = q at *
      cases q
      · have hf := HF.out
        go_wp2_with (go_at_call 30; refine (hmr _).mono ?_; rintro e w' ⟨rfl, rfl⟩)
        have hR := M1.s2 (.int .i64 0) (.int .i64 1)
        obtain ⟨s0, s1⟩ := hR.c2
        have hw2 : wid (1) [] k n = 0 := hf
        have he : err 0 = 1 := rfl
        rw [hw2, he]
        exact bodyPost_ret (v := .agg #[.int .i64 0, .int .i64 1]) (by simp [results, Try.results11, go_sem, s0, s1]) rfl ⟨rfl, below_s2 B1 (by omega) _ _⟩
      · have hf := HF.out
        go_wp2_with (go_at_call 30; refine (hmr _).mono ?_; rintro e w' ⟨rfl, rfl⟩)
        have hR := M1.s2 (.int .i64 (0)) (.int .i64 0)
        obtain ⟨s0, s1⟩ := hR.c2
        have hw2 : wid (1) [] k n = 0 := hf
        have he : err (0) = 0 := if_neg (by have := isW_in hiw; omega)
        rw [hw2, he]
        exact bodyPost_ret (v := .agg #[.int .i64 (0), .int .i64 0]) (by simp [results, Try.results11, go_sem, s0, s1]) rfl ⟨rfl, below_s2 B1 (by omega) _ _⟩
    · rw [hw] at hi
      by_cases h0 : 0 ≤ k
      · by_cases h1 : k ≤ mask n
        · have HF : Hid (wid 1 [] k n = if isW (n) then (n) else 0) := Lib.hid (by exact wid_of (op := 1) rfl (if_pos ⟨h0, h1⟩))
          have HA := Lib.hid hA
          clear hA
          go_enter Try.func11, Try.ntmps11
          go_upto_region 1 with fail
          have hst := start2 w #[.int .i64 k, .int .i64 n] #[.int .i64 0, .int .i64 0] 23 32
          generalize (w.alloc (.cells #[.int .i64 k, .int .i64 n] 23)).alloc (.cells #[.int .i64 0, .int .i64 0] 32) = W0 at *
          obtain ⟨m0, m1, B0⟩ := hst
          obtain ⟨q0, q1⟩ := m0.l2 (Below.refl _ _)
          refine wp_region_later (by kernel_rfl) (by kernel_rfl) ?_
          repeat (go_big_quiet_step (fail))
          refine wpQuiet_nil ?_
          intro _ hw'
          obtain ⟨z, hw''⟩ := hw'
          subst hw''
          have B1 := B0.trans (z.below.mono B0.size)
          have M1 := m1.keep z.below
          clear q0 q1 m0 m1 B0
          generalize z.val = W1 at *
          go_upto_region 32 with (first | (go_at_call 30; refine (hi _).mono ?_; rintro e w' ⟨rfl, rfl⟩) | (go_at_call 15; refine (hm _).mono ?_; rintro e w' ⟨rfl, rfl⟩))
          obtain ⟨r0, r1⟩ := M1.c2
          obtain ⟨f0, f1⟩ := M1.f2
          have hmr := fun w => rIn_any (n) w
          generalize hiw : isW (n) = q at *
          cases q
          · exact absurd hw Bool.false_ne_true
          · have hf := HF.out
            go_wp2_with (go_at_call 30; refine (hmr _).mono ?_; rintro e w' ⟨rfl, rfl⟩)
            have hR := M1.s2 (.int .i64 (n)) (.int .i64 0)
            obtain ⟨s0, s1⟩ := hR.c2
            have hw2 : wid (1) [] k n = n := hf
            have he : err (n) = 0 := if_neg (by have := isW_in hiw; omega)
            rw [hw2, he]
            exact bodyPost_ret (v := .agg #[.int .i64 (n), .int .i64 0]) (by simp [results, Try.results11, go_sem, s0, s1]) rfl ⟨rfl, below_s2 B1 (by omega) _ _⟩
        · have h1' : mask n < k := by omega
          have HF : Hid (wid 1 [] k n = if isW (0) then (0) else 0) := Lib.hid (by exact wid_of (op := 1) rfl (if_neg (fun h => h1 h.2)))
          have HA := Lib.hid hA
          clear hA
          go_enter Try.func11, Try.ntmps11
          go_upto_region 1 with fail
          have hst := start2 w #[.int .i64 k, .int .i64 n] #[.int .i64 0, .int .i64 0] 23 32
          generalize (w.alloc (.cells #[.int .i64 k, .int .i64 n] 23)).alloc (.cells #[.int .i64 0, .int .i64 0] 32) = W0 at *
          obtain ⟨m0, m1, B0⟩ := hst
          obtain ⟨q0, q1⟩ := m0.l2 (Below.refl _ _)
          refine wp_region_later (by kernel_rfl) (by kernel_rfl) ?_
          repeat (go_big_quiet_step (fail))
          refine wpQuiet_nil ?_
          intro _ hw'
          obtain ⟨z, hw''⟩ := hw'
          subst hw''
          have B1 := B0.trans (z.below.mono B0.size)
          have M1 := m1.keep z.below
          clear q0 q1 m0 m1 B0
          generalize z.val = W1 at *
          go_upto_region 32 with (first | (go_at_call 30; refine (hi _).mono ?_; rintro e w' ⟨rfl, rfl⟩) | (go_at_call 15; refine (hm _).mono ?_; rintro e w' ⟨rfl, rfl⟩))
          obtain ⟨r0, r1⟩ := M1.c2
          obtain ⟨f0, f1⟩ := M1.f2
          have hmr := fun w => rIn_any (0) w
          generalize hiw : isW (0) = q at *
          cases q
          · have hf := HF.out
            go_wp2_with (go_at_call 30; refine (hmr _).mono ?_; rintro e w' ⟨rfl, rfl⟩)
            have hR := M1.s2 (.int .i64 0) (.int .i64 1)
            obtain ⟨s0, s1⟩ := hR.c2
            have hw2 : wid (1) [] k n = 0 := hf
            have he : err 0 = 1 := rfl
            rw [hw2, he]
            exact bodyPost_ret (v := .agg #[.int .i64 0, .int .i64 1]) (by simp [results, Try.results11, go_sem, s0, s1]) rfl ⟨rfl, below_s2 B1 (by omega) _ _⟩
          · have hf := HF.out
            go_wp2_with (go_at_call 30; refine (hmr _).mono ?_; rintro e w' ⟨rfl, rfl⟩)
            have hR := M1.s2 (.int .i64 (0)) (.int .i64 0)
            obtain ⟨s0, s1⟩ := hR.c2
            have hw2 : wid (1) [] k n = 0 := hf
            have he : err (0) = 0 := if_neg (by have := isW_in hiw; omega)
            rw [hw2, he]
            exact bodyPost_ret (v := .agg #[.int .i64 (0), .int .i64 0]) (by simp [results, Try.results11, go_sem, s0, s1]) rfl ⟨rfl, below_s2 B1 (by omega) _ _⟩
      · have h0' : k < 0 := by omega
        have HF : Hid (wid 1 [] k n = if isW (0) then (0) else 0) := Lib.hid (by exact wid_of (op := 1) rfl (if_neg (fun h => h0 h.1)))
        have HA := Lib.hid hA
        clear hA
        go_enter Try.func11, Try.ntmps11
        go_upto_region 1 with fail
        have hst := start2 w #[.int .i64 k, .int .i64 n] #[.int .i64 0, .int .i64 0] 23 32
        generalize (w.alloc (.cells #[.int .i64 k, .int .i64 n] 23)).alloc (.cells #[.int .i64 0, .int .i64 0] 32) = W0 at *
        obtain ⟨m0, m1, B0⟩ := hst
        obtain ⟨q0, q1⟩ := m0.l2 (Below.refl _ _)
        refine wp_region_later (by kernel_rfl) (by kernel_rfl) ?_
        repeat (go_big_quiet_step (fail))
        refine wpQuiet_nil ?_
        intro _ hw'
        obtain ⟨z, hw''⟩ := hw'
        subst hw''
        have B1 := B0.trans (z.below.mono B0.size)
        have M1 := m1.keep z.below
        clear q0 q1 m0 m1 B0
        generalize z.val = W1 at *
        go_upto_region 32 with ((go_at_call 30; refine (hi _).mono ?_; rintro e w' ⟨rfl, rfl⟩))
        obtain ⟨r0, r1⟩ := M1.c2
        obtain ⟨f0, f1⟩ := M1.f2
        have hmr := fun w => rIn_any (0) w
        generalize hiw : isW (0) = q at *
        cases q
        · have hf := HF.out
          go_wp2_with (go_at_call 30; refine (hmr _).mono ?_; rintro e w' ⟨rfl, rfl⟩)
          have hR := M1.s2 (.int .i64 0) (.int .i64 1)
          obtain ⟨s0, s1⟩ := hR.c2
          have hw2 : wid (1) [] k n = 0 := hf
          have he : err 0 = 1 := rfl
          rw [hw2, he]
          exact bodyPost_ret (v := .agg #[.int .i64 0, .int .i64 1]) (by simp [results, Try.results11, go_sem, s0, s1]) rfl ⟨rfl, below_s2 B1 (by omega) _ _⟩
        · have hf := HF.out
          go_wp2_with (go_at_call 30; refine (hmr _).mono ?_; rintro e w' ⟨rfl, rfl⟩)
          have hR := M1.s2 (.int .i64 (0)) (.int .i64 0)
          obtain ⟨s0, s1⟩ := hR.c2
          have hw2 : wid (1) [] k n = 0 := hf
          have he : err (0) = 0 := if_neg (by have := isW_in hiw; omega)
          rw [hw2, he]
          exact bodyPost_ret (v := .agg #[.int .i64 (0), .int .i64 0]) (by simp [results, Try.results11, go_sem, s0, s1]) rfl ⟨rfl, below_s2 B1 (by omega) _ _⟩
  · have e1 : ((ws.length : Int) == 0) = false := by rw [beq_eq_false_iff_ne]; omega
    have HL := Lib.hid hl
    clear hl
    have HF : Hid (wid 1 ws k n = if isW (0) then (0) else 0) := Lib.hid (by exact wid_none (op := 1) (wid_bad HL.out (by omega)))
    have HA := Lib.hid hA
    clear hA
    go_enter Try.func11, Try.ntmps11
    go_upto_region 1 with fail
    have hst := start2 w #[.int .i64 k, .int .i64 n] #[.int .i64 0, .int .i64 0] 23 32
    generalize (w.alloc (.cells #[.int .i64 k, .int .i64 n] 23)).alloc (.cells #[.int .i64 0, .int .i64 0] 32) = W0 at *
    obtain ⟨m0, m1, B0⟩ := hst
    obtain ⟨q0, q1⟩ := m0.l2 (Below.refl _ _)
    refine wp_region_later (by kernel_rfl) (by kernel_rfl) ?_
    repeat (go_big_quiet_step (fail))
    refine wpQuiet_nil ?_
    intro _ hw'
    obtain ⟨z, hw''⟩ := hw'
    subst hw''
    have B1 := B0.trans (z.below.mono B0.size)
    have M1 := m1.keep z.below
    clear q0 q1 m0 m1 B0
    generalize z.val = W1 at *
    go_upto_region 32 with (fail)
    obtain ⟨r0, r1⟩ := M1.c2
    obtain ⟨f0, f1⟩ := M1.f2
    have hmr := fun w => rIn_any (0) w
    generalize hiw : isW (0) = q at *
    cases q
    · have hf := HF.out
      go_wp2_with (go_at_call 30; refine (hmr _).mono ?_; rintro e w' ⟨rfl, rfl⟩)
      have hR := M1.s2 (.int .i64 0) (.int .i64 1)
      obtain ⟨s0, s1⟩ := hR.c2
      have hw2 : wid (1) ws k n = 0 := hf
      have he : err 0 = 1 := rfl
      rw [hw2, he]
      exact bodyPost_ret (v := .agg #[.int .i64 0, .int .i64 1]) (by simp [results, Try.results11, go_sem, s0, s1]) rfl ⟨rfl, below_s2 B1 (by omega) _ _⟩
    · have hf := HF.out
      go_wp2_with (go_at_call 30; refine (hmr _).mono ?_; rintro e w' ⟨rfl, rfl⟩)
      have hR := M1.s2 (.int .i64 (0)) (.int .i64 0)
      obtain ⟨s0, s1⟩ := hR.c2
      have hw2 : wid (1) ws k n = 0 := hf
      have he : err (0) = 0 := if_neg (by have := isW_in hiw; omega)
      rw [hw2, he]
      exact bodyPost_ret (v := .agg #[.int .i64 (0), .int .i64 0]) (by simp [results, Try.results11, go_sem, s0, s1]) rfl ⟨rfl, below_s2 B1 (by omega) _ _⟩

set_option maxRecDepth 100000 in
set_option maxHeartbeats 1000000 in
theorem rw2 (A : Option Addr) (c : Nat) (ws : List Int) (k n : Int) (w : World) (hA : ArrI w A ws) (hlen : ws.length ≤ maxLen) (hn : -9223372036854775808 ≤ n ∧ n ≤ 9223372036854775807) :
    Calls Try.prog 11 #[.int .i64 2, .slice A ws.length c, .agg #[.int .i64 k, .int .i64 n]] w fun e w' => e = .returned (.agg #[.int .i64 (wid 2 ws k n), .int .i64 (err (wid 2 ws k n))]) ∧ Below w.heap.size w w' := by
  cases he : eqW ws 1
  · have HF : Hid (wid 2 ws k n = if isW (0) then (0) else 0) := Lib.hid (by exact wid_none (op := 2) (eqW_lt he (by omega) rfl (by omega)))
    have HA := Lib.hid hA
    have HEQ := Lib.hid (fun W (hW : Below w.heap.size w W) => equal_any A c ws 1 W (hA.keep hW) hlen (by omega))
    rw [he] at HEQ
    clear hA
    go_enter Try.func11, Try.ntmps11
    go_upto_region 1 with fail
    have hst := start2 w #[.int .i64 k, .int .i64 n] #[.int .i64 0, .int .i64 0] 23 32
    generalize (w.alloc (.cells #[.int .i64 k, .int .i64 n] 23)).alloc (.cells #[.int .i64 0, .int .i64 0] 32) = W0 at *
    obtain ⟨m0, m1, B0⟩ := hst
    obtain ⟨q0, q1⟩ := m0.l2 (Below.refl _ _)
    refine wp_region_later (by kernel_rfl) (by kernel_rfl) ?_
    repeat (go_big_quiet_step (fail))
    refine wpQuiet_nil ?_
    intro _ hw'
    obtain ⟨z, hw''⟩ := hw'
    subst hw''
    have B1 := B0.trans (z.below.mono B0.size)
    have M1 := m1.keep z.below
    clear q0 q1 m0 m1 B0
    generalize z.val = W1 at *
    go_wp2_with fail
    refine (HEQ.out W1 B1).mono ?_
    rintro e W2 ⟨rfl, hb2⟩
    have B2 := B1.trans (hb2.mono B1.size)
    have M2 := M1.keep hb2
    clear hb2 B1 M1
    go_upto_region 32 with (fail)
    obtain ⟨r0, r1⟩ := M2.c2
    obtain ⟨f0, f1⟩ := M2.f2
    have hmr := fun w => rIn_any (0) w
    generalize hiw : isW (0) = q at *
    cases q
    · have hf := HF.out
      go_wp2_with (go_at_call 30; refine (hmr _).mono ?_; rintro e w' ⟨rfl, rfl⟩)
      have hR := M2.s2 (.int .i64 0) (.int .i64 1)
      obtain ⟨s0, s1⟩ := hR.c2
      have hw2 : wid (2) ws k n = 0 := hf
      have he : err 0 = 1 := rfl
      rw [hw2, he]
      exact bodyPost_ret (v := .agg #[.int .i64 0, .int .i64 1]) (by simp [results, Try.results11, go_sem, s0, s1]) rfl ⟨rfl, below_s2 B2 (by omega) _ _⟩
    · have hf := HF.out
      go_wp2_with (go_at_call 30; refine (hmr _).mono ?_; rintro e w' ⟨rfl, rfl⟩)
      have hR := M2.s2 (.int .i64 (0)) (.int .i64 0)
      obtain ⟨s0, s1⟩ := hR.c2
      have hw2 : wid (2) ws k n = 0 := hf
      have he : err (0) = 0 := if_neg (by have := isW_in hiw; omega)
      rw [hw2, he]
      exact bodyPost_ret (v := .agg #[.int .i64 (0), .int .i64 0]) (by simp [results, Try.results11, go_sem, s0, s1]) rfl ⟨rfl, below_s2 B2 (by omega) _ _⟩
  · obtain ⟨a, rfl, ha⟩ := eqW1 he
    have HF : Hid (wid 2 [a] k n = if isW (a) then (a) else 0) := Lib.hid (by exact wid_of (op := 2) (by simp [ha]) rfl)
    have HA := Lib.hid hA
    have HEQ := Lib.hid (fun W (hW : Below w.heap.size w W) => equal_any A c [a] 1 W (hA.keep hW) hlen (by omega))
    rw [he] at HEQ
    clear hA
    go_enter Try.func11, Try.ntmps11
    go_upto_region 1 with fail
    have hst := start2 w #[.int .i64 k, .int .i64 n] #[.int .i64 0, .int .i64 0] 23 32
    generalize (w.alloc (.cells #[.int .i64 k, .int .i64 n] 23)).alloc (.cells #[.int .i64 0, .int .i64 0] 32) = W0 at *
    obtain ⟨m0, m1, B0⟩ := hst
    obtain ⟨q0, q1⟩ := m0.l2 (Below.refl _ _)
    refine wp_region_later (by kernel_rfl) (by kernel_rfl) ?_
    repeat (go_big_quiet_step (fail))
    refine wpQuiet_nil ?_
    intro _ hw'
    obtain ⟨z, hw''⟩ := hw'
    subst hw''
    have B1 := B0.trans (z.below.mono B0.size)
    have M1 := m1.keep z.below
    clear q0 q1 m0 m1 B0
    generalize z.val = W1 at *
    go_wp2_with fail
    refine (HEQ.out W1 B1).mono ?_
    rintro e W2 ⟨rfl, hb2⟩
    have B2 := B1.trans (hb2.mono B1.size)
    have M2 := M1.keep hb2
    clear hb2 B1 M1
    obtain ⟨b1, o1, hb1⟩ := (HA.out.keep B2).open
    obtain ⟨hA1, hl1, hc1⟩ := hb1 (by simp)
    subst hA1
    have c0 : W2.cell? ⟨b1, o1, none⟩ = some (.int .i64 a) := hc1 0 _ rfl
    clear hb1 hc1
    go_upto_region 32 with (fail)
    clear c0
    obtain ⟨r0, r1⟩ := M2.c2
    obtain ⟨f0, f1⟩ := M2.f2
    have hmr := fun w => rIn_any (a) w
    generalize hiw : isW (a) = q at *
    cases q
    · exact absurd ha Bool.false_ne_true
    · have hf := HF.out
      go_wp2_with (go_at_call 30; refine (hmr _).mono ?_; rintro e w' ⟨rfl, rfl⟩)
      have hR := M2.s2 (.int .i64 (a)) (.int .i64 0)
      obtain ⟨s0, s1⟩ := hR.c2
      have hw2 : wid (2) [a] k n = a := hf
      have he : err (a) = 0 := if_neg (by have := isW_in hiw; omega)
      rw [hw2, he]
      exact bodyPost_ret (v := .agg #[.int .i64 (a), .int .i64 0]) (by simp [results, Try.results11, go_sem, s0, s1]) rfl ⟨rfl, below_s2 B2 (by omega) _ _⟩

set_option maxRecDepth 100000 in
set_option maxHeartbeats 1000000 in
theorem rw3 (A : Option Addr) (c : Nat) (ws : List Int) (k n : Int) (w : World) (hA : ArrI w A ws) (hlen : ws.length ≤ maxLen) (hn : -9223372036854775808 ≤ n ∧ n ≤ 9223372036854775807) :
    Calls Try.prog 11 #[.int .i64 3, .slice A ws.length c, .agg #[.int .i64 k, .int .i64 n]] w fun e w' => e = .returned (.agg #[.int .i64 (wid 3 ws k n), .int .i64 (err (wid 3 ws k n))]) ∧ Below w.heap.size w w' := by
  cases he : eqW ws 2
  · have HF : Hid (wid 3 ws k n = if isW (0) then (0) else 0) := Lib.hid (by exact wid_none (op := 3) (eqW_no he (fun h1 h2 h3 => by obtain ⟨a, b, rfl⟩ := len2 h1; have hne : ¬ b = a := (by rcases h3 with h3 | h3; omega; simpa using h3); show isW (if b = a then a else 0) = false; rw [if_neg hne]; rfl) rfl (by omega)))
    have HA := Lib.hid hA
    have HEQ := Lib.hid (fun W (hW : Below w.heap.size w W) => equal_any A c ws 2 W (hA.keep hW) hlen (by omega))
    rw [he] at HEQ
    clear hA
    go_enter Try.func11, Try.ntmps11
    go_upto_region 1 with fail
    have hst := start2 w #[.int .i64 k, .int .i64 n] #[.int .i64 0, .int .i64 0] 23 32
    generalize (w.alloc (.cells #[.int .i64 k, .int .i64 n] 23)).alloc (.cells #[.int .i64 0, .int .i64 0] 32) = W0 at *
    obtain ⟨m0, m1, B0⟩ := hst
    obtain ⟨q0, q1⟩ := m0.l2 (Below.refl _ _)
    refine wp_region_later (by kernel_rfl) (by kernel_rfl) ?_
    repeat (go_big_quiet_step (fail))
    refine wpQuiet_nil ?_
    intro _ hw'
    obtain ⟨z, hw''⟩ := hw'
    subst hw''
    have B1 := B0.trans (z.below.mono B0.size)
    have M1 := m1.keep z.below
    clear q0 q1 m0 m1 B0
    generalize z.val = W1 at *
    go_wp2_with fail
    refine (HEQ.out W1 B1).mono ?_
    rintro e W2 ⟨rfl, hb2⟩
    have B2 := B1.trans (hb2.mono B1.size)
    have M2 := M1.keep hb2
    clear hb2 B1 M1
    go_upto_region 32 with (fail)
    obtain ⟨r0, r1⟩ := M2.c2
    obtain ⟨f0, f1⟩ := M2.f2
    have hmr := fun w => rIn_any (0) w
    generalize hiw : isW (0) = q at *
    cases q
    · have hf := HF.out
      go_wp2_with (go_at_call 30; refine (hmr _).mono ?_; rintro e w' ⟨rfl, rfl⟩)
      have hR := M2.s2 (.int .i64 0) (.int .i64 1)
      obtain ⟨s0, s1⟩ := hR.c2
      have hw2 : wid (3) ws k n = 0 := hf
      have he : err 0 = 1 := rfl
      rw [hw2, he]
      exact bodyPost_ret (v := .agg #[.int .i64 0, .int .i64 1]) (by simp [results, Try.results11, go_sem, s0, s1]) rfl ⟨rfl, below_s2 B2 (by omega) _ _⟩
    · have hf := HF.out
      go_wp2_with (go_at_call 30; refine (hmr _).mono ?_; rintro e w' ⟨rfl, rfl⟩)
      have hR := M2.s2 (.int .i64 (0)) (.int .i64 0)
      obtain ⟨s0, s1⟩ := hR.c2
      have hw2 : wid (3) ws k n = 0 := hf
      have he : err (0) = 0 := if_neg (by have := isW_in hiw; omega)
      rw [hw2, he]
      exact bodyPost_ret (v := .agg #[.int .i64 (0), .int .i64 0]) (by simp [results, Try.results11, go_sem, s0, s1]) rfl ⟨rfl, below_s2 B2 (by omega) _ _⟩
  · obtain ⟨a, rfl, ha⟩ := eqW2 he
    have HF : Hid (wid 3 [a, a] k n = if isW (a) then (a) else 0) := Lib.hid (by exact wid_of (op := 3) (by simp [ha]) (if_pos rfl))
    have HA := Lib.hid hA
    have HEQ := Lib.hid (fun W (hW : Below w.heap.size w W) => equal_any A c [a, a] 2 W (hA.keep hW) hlen (by omega))
    rw [he] at HEQ
    clear hA
    go_enter Try.func11, Try.ntmps11
    go_upto_region 1 with fail
    have hst := start2 w #[.int .i64 k, .int .i64 n] #[.int .i64 0, .int .i64 0] 23 32
    generalize (w.alloc (.cells #[.int .i64 k, .int .i64 n] 23)).alloc (.cells #[.int .i64 0, .int .i64 0] 32) = W0 at *
    obtain ⟨m0, m1, B0⟩ := hst
    obtain ⟨q0, q1⟩ := m0.l2 (Below.refl _ _)
    refine wp_region_later (by kernel_rfl) (by kernel_rfl) ?_
    repeat (go_big_quiet_step (fail))
    refine wpQuiet_nil ?_
    intro _ hw'
    obtain ⟨z, hw''⟩ := hw'
    subst hw''
    have B1 := B0.trans (z.below.mono B0.size)
    have M1 := m1.keep z.below
    clear q0 q1 m0 m1 B0
    generalize z.val = W1 at *
    go_wp2_with fail
    refine (HEQ.out W1 B1).mono ?_
    rintro e W2 ⟨rfl, hb2⟩
    have B2 := B1.trans (hb2.mono B1.size)
    have M2 := M1.keep hb2
    clear hb2 B1 M1
    obtain ⟨b1, o1, hb1⟩ := (HA.out.keep B2).open
    obtain ⟨hA1, hl1, hc1⟩ := hb1 (by simp)
    subst hA1
    have c0 : W2.cell? ⟨b1, o1, none⟩ = some (.int .i64 a) := hc1 0 _ rfl
    have c1 : W2.cell? ⟨b1, o1 + 1, none⟩ = some (.int .i64 a) := hc1 1 _ rfl
    clear hb1 hc1
    go_upto_region 32 with (fail)
    clear c0 c1
    obtain ⟨r0, r1⟩ := M2.c2
    obtain ⟨f0, f1⟩ := M2.f2
    have hmr := fun w => rIn_any (a) w
    generalize hiw : isW (a) = q at *
    cases q
    · exact absurd ha Bool.false_ne_true
    · have hf := HF.out
      go_wp2_with (go_at_call 30; refine (hmr _).mono ?_; rintro e w' ⟨rfl, rfl⟩)
      have hR := M2.s2 (.int .i64 (a)) (.int .i64 0)
      obtain ⟨s0, s1⟩ := hR.c2
      have hw2 : wid (3) [a, a] k n = a := hf
      have he : err (a) = 0 := if_neg (by have := isW_in hiw; omega)
      rw [hw2, he]
      exact bodyPost_ret (v := .agg #[.int .i64 (a), .int .i64 0]) (by simp [results, Try.results11, go_sem, s0, s1]) rfl ⟨rfl, below_s2 B2 (by omega) _ _⟩

set_option maxRecDepth 100000 in
set_option maxHeartbeats 1000000 in
theorem rw4 (A : Option Addr) (c : Nat) (ws : List Int) (k n : Int) (w : World) (hA : ArrI w A ws) (hlen : ws.length ≤ maxLen) (hn : -9223372036854775808 ≤ n ∧ n ≤ 9223372036854775807) :
    Calls Try.prog 11 #[.int .i64 4, .slice A ws.length c, .agg #[.int .i64 k, .int .i64 n]] w fun e w' => e = .returned (.agg #[.int .i64 (wid 4 ws k n), .int .i64 (err (wid 4 ws k n))]) ∧ Below w.heap.size w w' := by
  cases he : eqW ws 2
  · have HF : Hid (wid 4 ws k n = if isW (0) then (0) else 0) := Lib.hid (by exact wid_none (op := 4) (eqW_no he (fun h1 h2 h3 => by obtain ⟨a, b, rfl⟩ := len2 h1; have hne : ¬ b = a := (by rcases h3 with h3 | h3; omega; simpa using h3); show isW (if b = a then a else 0) = false; rw [if_neg hne]; rfl) rfl (by omega)))
    have HA := Lib.hid hA
    have HEQ := Lib.hid (fun W (hW : Below w.heap.size w W) => equal_any A c ws 2 W (hA.keep hW) hlen (by omega))
    rw [he] at HEQ
    clear hA
    go_enter Try.func11, Try.ntmps11
    go_upto_region 1 with fail
    have hst := start2 w #[.int .i64 k, .int .i64 n] #[.int .i64 0, .int .i64 0] 23 32
    generalize (w.alloc (.cells #[.int .i64 k, .int .i64 n] 23)).alloc (.cells #[.int .i64 0, .int .i64 0] 32) = W0 at *
    obtain ⟨m0, m1, B0⟩ := hst
    obtain ⟨q0, q1⟩ := m0.l2 (Below.refl _ _)
    refine wp_region_later (by kernel_rfl) (by kernel_rfl) ?_
    repeat (go_big_quiet_step (fail))
    refine wpQuiet_nil ?_
    intro _ hw'
    obtain ⟨z, hw''⟩ := hw'
    subst hw''
    have B1 := B0.trans (z.below.mono B0.size)
    have M1 := m1.keep z.below
    clear q0 q1 m0 m1 B0
    generalize z.val = W1 at *
    go_wp2_with fail
    refine (HEQ.out W1 B1).mono ?_
    rintro e W2 ⟨rfl, hb2⟩
    have B2 := B1.trans (hb2.mono B1.size)
    have M2 := M1.keep hb2
    clear hb2 B1 M1
    go_upto_region 32 with (fail)
    obtain ⟨r0, r1⟩ := M2.c2
    obtain ⟨f0, f1⟩ := M2.f2
    have hmr := fun w => rIn_any (0) w
    generalize hiw : isW (0) = q at *
    cases q
    · have hf := HF.out
      go_wp2_with (go_at_call 30; refine (hmr _).mono ?_; rintro e w' ⟨rfl, rfl⟩)
      have hR := M2.s2 (.int .i64 0) (.int .i64 1)
      obtain ⟨s0, s1⟩ := hR.c2
      have hw2 : wid (4) ws k n = 0 := hf
      have he : err 0 = 1 := rfl
      rw [hw2, he]
      exact bodyPost_ret (v := .agg #[.int .i64 0, .int .i64 1]) (by simp [results, Try.results11, go_sem, s0, s1]) rfl ⟨rfl, below_s2 B2 (by omega) _ _⟩
    · have hf := HF.out
      go_wp2_with (go_at_call 30; refine (hmr _).mono ?_; rintro e w' ⟨rfl, rfl⟩)
      have hR := M2.s2 (.int .i64 (0)) (.int .i64 0)
      obtain ⟨s0, s1⟩ := hR.c2
      have hw2 : wid (4) ws k n = 0 := hf
      have he : err (0) = 0 := if_neg (by have := isW_in hiw; omega)
      rw [hw2, he]
      exact bodyPost_ret (v := .agg #[.int .i64 (0), .int .i64 0]) (by simp [results, Try.results11, go_sem, s0, s1]) rfl ⟨rfl, below_s2 B2 (by omega) _ _⟩
  · obtain ⟨a, rfl, ha⟩ := eqW2 he
    have HF : Hid (wid 4 [a, a] k n = if isW (a) then (a) else 0) := Lib.hid (by exact wid_of (op := 4) (by simp [ha]) (if_pos rfl))
    have HA := Lib.hid hA
    have HEQ := Lib.hid (fun W (hW : Below w.heap.size w W) => equal_any A c [a, a] 2 W (hA.keep hW) hlen (by omega))
    rw [he] at HEQ
    clear hA
    go_enter Try.func11, Try.ntmps11
    go_upto_region 1 with fail
    have hst := start2 w #[.int .i64 k, .int .i64 n] #[.int .i64 0, .int .i64 0] 23 32
    generalize (w.alloc (.cells #[.int .i64 k, .int .i64 n] 23)).alloc (.cells #[.int .i64 0, .int .i64 0] 32) = W0 at *
    obtain ⟨m0, m1, B0⟩ := hst
    obtain ⟨q0, q1⟩ := m0.l2 (Below.refl _ _)
    refine wp_region_later (by kernel_rfl) (by kernel_rfl) ?_
    repeat (go_big_quiet_step (fail))
    refine wpQuiet_nil ?_
    intro _ hw'
    obtain ⟨z, hw''⟩ := hw'
    subst hw''
    have B1 := B0.trans (z.below.mono B0.size)
    have M1 := m1.keep z.below
    clear q0 q1 m0 m1 B0
    generalize z.val = W1 at *
    go_wp2_with fail
    refine (HEQ.out W1 B1).mono ?_
    rintro e W2 ⟨rfl, hb2⟩
    have B2 := B1.trans (hb2.mono B1.size)
    have M2 := M1.keep hb2
    clear hb2 B1 M1
    obtain ⟨b1, o1, hb1⟩ := (HA.out.keep B2).open
    obtain ⟨hA1, hl1, hc1⟩ := hb1 (by simp)
    subst hA1
    have c0 : W2.cell? ⟨b1, o1, none⟩ = some (.int .i64 a) := hc1 0 _ rfl
    have c1 : W2.cell? ⟨b1, o1 + 1, none⟩ = some (.int .i64 a) := hc1 1 _ rfl
    clear hb1 hc1
    go_upto_region 32 with (fail)
    clear c0 c1
    obtain ⟨r0, r1⟩ := M2.c2
    obtain ⟨f0, f1⟩ := M2.f2
    have hmr := fun w => rIn_any (a) w
    generalize hiw : isW (a) = q at *
    cases q
    · exact absurd ha Bool.false_ne_true
    · have hf := HF.out
      go_wp2_with (go_at_call 30; refine (hmr _).mono ?_; rintro e w' ⟨rfl, rfl⟩)
      have hR := M2.s2 (.int .i64 (a)) (.int .i64 0)
      obtain ⟨s0, s1⟩ := hR.c2
      have hw2 : wid (4) [a, a] k n = a := hf
      have he : err (a) = 0 := if_neg (by have := isW_in hiw; omega)
      rw [hw2, he]
      exact bodyPost_ret (v := .agg #[.int .i64 (a), .int .i64 0]) (by simp [results, Try.results11, go_sem, s0, s1]) rfl ⟨rfl, below_s2 B2 (by omega) _ _⟩

set_option maxRecDepth 100000 in
set_option maxHeartbeats 1000000 in
theorem rw5 (A : Option Addr) (c : Nat) (ws : List Int) (k n : Int) (w : World) (hA : ArrI w A ws) (hlen : ws.length ≤ maxLen) (hn : -9223372036854775808 ≤ n ∧ n ≤ 9223372036854775807) :
    Calls Try.prog 11 #[.int .i64 5, .slice A ws.length c, .agg #[.int .i64 k, .int .i64 n]] w fun e w' => e = .returned (.agg #[.int .i64 (wid 5 ws k n), .int .i64 (err (wid 5 ws k n))]) ∧ Below w.heap.size w w' := by
  cases he : eqW ws 2
  · have HF : Hid (wid 5 ws k n = if isW (0) then (0) else 0) := Lib.hid (by exact wid_none (op := 5) (eqW_no he (fun h1 h2 h3 => by obtain ⟨a, b, rfl⟩ := len2 h1; have hne : ¬ b = a := (by rcases h3 with h3 | h3; omega; simpa using h3); show isW (if b = a then a else 0) = false; rw [if_neg hne]; rfl) rfl (by omega)))
    have HA := Lib.hid hA
    have HEQ := Lib.hid (fun W (hW : Below w.heap.size w W) => equal_any A c ws 2 W (hA.keep hW) hlen (by omega))
    rw [he] at HEQ
    clear hA
    go_enter Try.func11, Try.ntmps11
    go_upto_region 1 with fail
    have hst := start2 w #[.int .i64 k, .int .i64 n] #[.int .i64 0, .int .i64 0] 23 32
    generalize (w.alloc (.cells #[.int .i64 k, .int .i64 n] 23)).alloc (.cells #[.int .i64 0, .int .i64 0] 32) = W0 at *
    obtain ⟨m0, m1, B0⟩ := hst
    obtain ⟨q0, q1⟩ := m0.l2 (Below.refl _ _)
    refine wp_region_later (by kernel_rfl) (by kernel_rfl) ?_
    repeat (go_big_quiet_step (fail))
    refine wpQuiet_nil ?_
    intro _ hw'
    obtain ⟨z, hw''⟩ := hw'
    subst hw''
    have B1 := B0.trans (z.below.mono B0.size)
    have M1 := m1.keep z.below
    clear q0 q1 m0 m1 B0
    generalize z.val = W1 at *
    go_wp2_with fail
    refine (HEQ.out W1 B1).mono ?_
    rintro e W2 ⟨rfl, hb2⟩
    have B2 := B1.trans (hb2.mono B1.size)
    have M2 := M1.keep hb2
    clear hb2 B1 M1
    go_upto_region 32 with (fail)
    obtain ⟨r0, r1⟩ := M2.c2
    obtain ⟨f0, f1⟩ := M2.f2
    have hmr := fun w => rIn_any (0) w
    generalize hiw : isW (0) = q at *
    cases q
    · have hf := HF.out
      go_wp2_with (go_at_call 30; refine (hmr _).mono ?_; rintro e w' ⟨rfl, rfl⟩)
      have hR := M2.s2 (.int .i64 0) (.int .i64 1)
      obtain ⟨s0, s1⟩ := hR.c2
      have hw2 : wid (5) ws k n = 0 := hf
      have he : err 0 = 1 := rfl
      rw [hw2, he]
      exact bodyPost_ret (v := .agg #[.int .i64 0, .int .i64 1]) (by simp [results, Try.results11, go_sem, s0, s1]) rfl ⟨rfl, below_s2 B2 (by omega) _ _⟩
    · have hf := HF.out
      go_wp2_with (go_at_call 30; refine (hmr _).mono ?_; rintro e w' ⟨rfl, rfl⟩)
      have hR := M2.s2 (.int .i64 (0)) (.int .i64 0)
      obtain ⟨s0, s1⟩ := hR.c2
      have hw2 : wid (5) ws k n = 0 := hf
      have he : err (0) = 0 := if_neg (by have := isW_in hiw; omega)
      rw [hw2, he]
      exact bodyPost_ret (v := .agg #[.int .i64 (0), .int .i64 0]) (by simp [results, Try.results11, go_sem, s0, s1]) rfl ⟨rfl, below_s2 B2 (by omega) _ _⟩
  · obtain ⟨a, rfl, ha⟩ := eqW2 he
    have HF : Hid (wid 5 [a, a] k n = if isW (a) then (a) else 0) := Lib.hid (by exact wid_of (op := 5) (by simp [ha]) (if_pos rfl))
    have HA := Lib.hid hA
    have HEQ := Lib.hid (fun W (hW : Below w.heap.size w W) => equal_any A c [a, a] 2 W (hA.keep hW) hlen (by omega))
    rw [he] at HEQ
    clear hA
    go_enter Try.func11, Try.ntmps11
    go_upto_region 1 with fail
    have hst := start2 w #[.int .i64 k, .int .i64 n] #[.int .i64 0, .int .i64 0] 23 32
    generalize (w.alloc (.cells #[.int .i64 k, .int .i64 n] 23)).alloc (.cells #[.int .i64 0, .int .i64 0] 32) = W0 at *
    obtain ⟨m0, m1, B0⟩ := hst
    obtain ⟨q0, q1⟩ := m0.l2 (Below.refl _ _)
    refine wp_region_later (by kernel_rfl) (by kernel_rfl) ?_
    repeat (go_big_quiet_step (fail))
    refine wpQuiet_nil ?_
    intro _ hw'
    obtain ⟨z, hw''⟩ := hw'
    subst hw''
    have B1 := B0.trans (z.below.mono B0.size)
    have M1 := m1.keep z.below
    clear q0 q1 m0 m1 B0
    generalize z.val = W1 at *
    go_wp2_with fail
    refine (HEQ.out W1 B1).mono ?_
    rintro e W2 ⟨rfl, hb2⟩
    have B2 := B1.trans (hb2.mono B1.size)
    have M2 := M1.keep hb2
    clear hb2 B1 M1
    obtain ⟨b1, o1, hb1⟩ := (HA.out.keep B2).open
    obtain ⟨hA1, hl1, hc1⟩ := hb1 (by simp)
    subst hA1
    have c0 : W2.cell? ⟨b1, o1, none⟩ = some (.int .i64 a) := hc1 0 _ rfl
    have c1 : W2.cell? ⟨b1, o1 + 1, none⟩ = some (.int .i64 a) := hc1 1 _ rfl
    clear hb1 hc1
    go_upto_region 32 with (fail)
    clear c0 c1
    obtain ⟨r0, r1⟩ := M2.c2
    obtain ⟨f0, f1⟩ := M2.f2
    have hmr := fun w => rIn_any (a) w
    generalize hiw : isW (a) = q at *
    cases q
    · exact absurd ha Bool.false_ne_true
    · have hf := HF.out
      go_wp2_with (go_at_call 30; refine (hmr _).mono ?_; rintro e w' ⟨rfl, rfl⟩)
      have hR := M2.s2 (.int .i64 (a)) (.int .i64 0)
      obtain ⟨s0, s1⟩ := hR.c2
      have hw2 : wid (5) [a, a] k n = a := hf
      have he : err (a) = 0 := if_neg (by have := isW_in hiw; omega)
      rw [hw2, he]
      exact bodyPost_ret (v := .agg #[.int .i64 (a), .int .i64 0]) (by simp [results, Try.results11, go_sem, s0, s1]) rfl ⟨rfl, below_s2 B2 (by omega) _ _⟩

set_option maxRecDepth 100000 in
set_option maxHeartbeats 1000000 in
theorem rw6 (A : Option Addr) (c : Nat) (ws : List Int) (k n : Int) (w : World) (hA : ArrI w A ws) (hlen : ws.length ≤ maxLen) (hn : -9223372036854775808 ≤ n ∧ n ≤ 9223372036854775807) :
    Calls Try.prog 11 #[.int .i64 6, .slice A ws.length c, .agg #[.int .i64 k, .int .i64 n]] w fun e w' => e = .returned (.agg #[.int .i64 (wid 6 ws k n), .int .i64 (err (wid 6 ws k n))]) ∧ Below w.heap.size w w' := by
  cases he : eqW ws 2
  · have HF : Hid (wid 6 ws k n = if isW (0) then (0) else 0) := Lib.hid (by exact wid_none (op := 6) (eqW_no he (fun h1 h2 h3 => by obtain ⟨a, b, rfl⟩ := len2 h1; have hne : ¬ b = a := (by rcases h3 with h3 | h3; omega; simpa using h3); show isW (if b = a then a else 0) = false; rw [if_neg hne]; rfl) rfl (by omega)))
    have HA := Lib.hid hA
    have HEQ := Lib.hid (fun W (hW : Below w.heap.size w W) => equal_any A c ws 2 W (hA.keep hW) hlen (by omega))
    rw [he] at HEQ
    clear hA
    go_enter Try.func11, Try.ntmps11
    go_upto_region 1 with fail
    have hst := start2 w #[.int .i64 k, .int .i64 n] #[.int .i64 0, .int .i64 0] 23 32
    generalize (w.alloc (.cells #[.int .i64 k, .int .i64 n] 23)).alloc (.cells #[.int .i64 0, .int .i64 0] 32) = W0 at *
    obtain ⟨m0, m1, B0⟩ := hst
    obtain ⟨q0, q1⟩ := m0.l2 (Below.refl _ _)
    refine wp_region_later (by kernel_rfl) (by kernel_rfl) ?_
    repeat (go_big_quiet_step (fail))
    refine wpQuiet_nil ?_
    intro _ hw'
    obtain ⟨z, hw''⟩ := hw'
    subst hw''
    have B1 := B0.trans (z.below.mono B0.size)
    have M1 := m1.keep z.below
    clear q0 q1 m0 m1 B0
    generalize z.val = W1 at *
    go_wp2_with fail
    refine (HEQ.out W1 B1).mono ?_
    rintro e W2 ⟨rfl, hb2⟩
    have B2 := B1.trans (hb2.mono B1.size)
    have M2 := M1.keep hb2
    clear hb2 B1 M1
    go_upto_region 32 with (fail)
    obtain ⟨r0, r1⟩ := M2.c2
    obtain ⟨f0, f1⟩ := M2.f2
    have hmr := fun w => rIn_any (0) w
    generalize hiw : isW (0) = q at *
    cases q
    · have hf := HF.out
      go_wp2_with (go_at_call 30; refine (hmr _).mono ?_; rintro e w' ⟨rfl, rfl⟩)
      have hR := M2.s2 (.int .i64 0) (.int .i64 1)
      obtain ⟨s0, s1⟩ := hR.c2
      have hw2 : wid (6) ws k n = 0 := hf
      have he : err 0 = 1 := rfl
      rw [hw2, he]
      exact bodyPost_ret (v := .agg #[.int .i64 0, .int .i64 1]) (by simp [results, Try.results11, go_sem, s0, s1]) rfl ⟨rfl, below_s2 B2 (by omega) _ _⟩
    · have hf := HF.out
      go_wp2_with (go_at_call 30; refine (hmr _).mono ?_; rintro e w' ⟨rfl, rfl⟩)
      have hR := M2.s2 (.int .i64 (0)) (.int .i64 0)
      obtain ⟨s0, s1⟩ := hR.c2
      have hw2 : wid (6) ws k n = 0 := hf
      have he : err (0) = 0 := if_neg (by have := isW_in hiw; omega)
      rw [hw2, he]
      exact bodyPost_ret (v := .agg #[.int .i64 (0), .int .i64 0]) (by simp [results, Try.results11, go_sem, s0, s1]) rfl ⟨rfl, below_s2 B2 (by omega) _ _⟩
  · obtain ⟨a, rfl, ha⟩ := eqW2 he
    have HF : Hid (wid 6 [a, a] k n = if isW (a) then (a) else 0) := Lib.hid (by exact wid_of (op := 6) (by simp [ha]) (if_pos rfl))
    have HA := Lib.hid hA
    have HEQ := Lib.hid (fun W (hW : Below w.heap.size w W) => equal_any A c [a, a] 2 W (hA.keep hW) hlen (by omega))
    rw [he] at HEQ
    clear hA
    go_enter Try.func11, Try.ntmps11
    go_upto_region 1 with fail
    have hst := start2 w #[.int .i64 k, .int .i64 n] #[.int .i64 0, .int .i64 0] 23 32
    generalize (w.alloc (.cells #[.int .i64 k, .int .i64 n] 23)).alloc (.cells #[.int .i64 0, .int .i64 0] 32) = W0 at *
    obtain ⟨m0, m1, B0⟩ := hst
    obtain ⟨q0, q1⟩ := m0.l2 (Below.refl _ _)
    refine wp_region_later (by kernel_rfl) (by kernel_rfl) ?_
    repeat (go_big_quiet_step (fail))
    refine wpQuiet_nil ?_
    intro _ hw'
    obtain ⟨z, hw''⟩ := hw'
    subst hw''
    have B1 := B0.trans (z.below.mono B0.size)
    have M1 := m1.keep z.below
    clear q0 q1 m0 m1 B0
    generalize z.val = W1 at *
    go_wp2_with fail
    refine (HEQ.out W1 B1).mono ?_
    rintro e W2 ⟨rfl, hb2⟩
    have B2 := B1.trans (hb2.mono B1.size)
    have M2 := M1.keep hb2
    clear hb2 B1 M1
    obtain ⟨b1, o1, hb1⟩ := (HA.out.keep B2).open
    obtain ⟨hA1, hl1, hc1⟩ := hb1 (by simp)
    subst hA1
    have c0 : W2.cell? ⟨b1, o1, none⟩ = some (.int .i64 a) := hc1 0 _ rfl
    have c1 : W2.cell? ⟨b1, o1 + 1, none⟩ = some (.int .i64 a) := hc1 1 _ rfl
    clear hb1 hc1
    go_upto_region 32 with (fail)
    clear c0 c1
    obtain ⟨r0, r1⟩ := M2.c2
    obtain ⟨f0, f1⟩ := M2.f2
    have hmr := fun w => rIn_any (a) w
    generalize hiw : isW (a) = q at *
    cases q
    · exact absurd ha Bool.false_ne_true
    · have hf := HF.out
      go_wp2_with (go_at_call 30; refine (hmr _).mono ?_; rintro e w' ⟨rfl, rfl⟩)
      have hR := M2.s2 (.int .i64 (a)) (.int .i64 0)
      obtain ⟨s0, s1⟩ := hR.c2
      have hw2 : wid (6) [a, a] k n = a := hf
      have he : err (a) = 0 := if_neg (by have := isW_in hiw; omega)
      rw [hw2, he]
      exact bodyPost_ret (v := .agg #[.int .i64 (a), .int .i64 0]) (by simp [results, Try.results11, go_sem, s0, s1]) rfl ⟨rfl, below_s2 B2 (by omega) _ _⟩

set_option maxRecDepth 100000 in
set_option maxHeartbeats 1000000 in
theorem rw7 (A : Option Addr) (c : Nat) (ws : List Int) (k n : Int) (w : World) (hA : ArrI w A ws) (hlen : ws.length ≤ maxLen) (hn : -9223372036854775808 ≤ n ∧ n ≤ 9223372036854775807) :
    Calls Try.prog 11 #[.int .i64 7, .slice A ws.length c, .agg #[.int .i64 k, .int .i64 n]] w fun e w' => e = .returned (.agg #[.int .i64 (wid 7 ws k n), .int .i64 (err (wid 7 ws k n))]) ∧ Below w.heap.size w w' := by
  cases he : eqW ws 2
  · have HF : Hid (wid 7 ws k n = if isW (0) then (0) else 0) := Lib.hid (by exact wid_none (op := 7) (eqW_no he (fun h1 h2 h3 => by obtain ⟨a, b, rfl⟩ := len2 h1; have hne : ¬ b = a := (by rcases h3 with h3 | h3; omega; simpa using h3); show isW (if b = a then a else 0) = false; rw [if_neg hne]; rfl) rfl (by omega)))
    have HA := Lib.hid hA
    have HEQ := Lib.hid (fun W (hW : Below w.heap.size w W) => equal_any A c ws 2 W (hA.keep hW) hlen (by omega))
    rw [he] at HEQ
    clear hA
    go_enter Try.func11, Try.ntmps11
    go_upto_region 1 with fail
    have hst := start2 w #[.int .i64 k, .int .i64 n] #[.int .i64 0, .int .i64 0] 23 32
    generalize (w.alloc (.cells #[.int .i64 k, .int .i64 n] 23)).alloc (.cells #[.int .i64 0, .int .i64 0] 32) = W0 at *
    obtain ⟨m0, m1, B0⟩ := hst
    obtain ⟨q0, q1⟩ := m0.l2 (Below.refl _ _)
    refine wp_region_later (by kernel_rfl) (by kernel_rfl) ?_
    repeat (go_big_quiet_step (fail))
    refine wpQuiet_nil ?_
    intro _ hw'
    obtain ⟨z, hw''⟩ := hw'
    subst hw''
    have B1 := B0.trans (z.below.mono B0.size)
    have M1 := m1.keep z.below
    clear q0 q1 m0 m1 B0
    generalize z.val = W1 at *
    go_wp2_with fail
    refine (HEQ.out W1 B1).mono ?_
    rintro e W2 ⟨rfl, hb2⟩
    have B2 := B1.trans (hb2.mono B1.size)
    have M2 := M1.keep hb2
    clear hb2 B1 M1
    go_upto_region 32 with (fail)
    obtain ⟨r0, r1⟩ := M2.c2
    obtain ⟨f0, f1⟩ := M2.f2
    have hmr := fun w => rIn_any (0) w
    generalize hiw : isW (0) = q at *
    cases q
    · have hf := HF.out
      go_wp2_with (go_at_call 30; refine (hmr _).mono ?_; rintro e w' ⟨rfl, rfl⟩)
      have hR := M2.s2 (.int .i64 0) (.int .i64 1)
      obtain ⟨s0, s1⟩ := hR.c2
      have hw2 : wid (7) ws k n = 0 := hf
      have he : err 0 = 1 := rfl
      rw [hw2, he]
      exact bodyPost_ret (v := .agg #[.int .i64 0, .int .i64 1]) (by simp [results, Try.results11, go_sem, s0, s1]) rfl ⟨rfl, below_s2 B2 (by omega) _ _⟩
    · have hf := HF.out
      go_wp2_with (go_at_call 30; refine (hmr _).mono ?_; rintro e w' ⟨rfl, rfl⟩)
      have hR := M2.s2 (.int .i64 (0)) (.int .i64 0)
      obtain ⟨s0, s1⟩ := hR.c2
      have hw2 : wid (7) ws k n = 0 := hf
      have he : err (0) = 0 := if_neg (by have := isW_in hiw; omega)
      rw [hw2, he]
      exact bodyPost_ret (v := .agg #[.int .i64 (0), .int .i64 0]) (by simp [results, Try.results11, go_sem, s0, s1]) rfl ⟨rfl, below_s2 B2 (by omega) _ _⟩
  · obtain ⟨a, rfl, ha⟩ := eqW2 he
    have HF : Hid (wid 7 [a, a] k n = if isW (a) then (a) else 0) := Lib.hid (by exact wid_of (op := 7) (by simp [ha]) (if_pos rfl))
    have HA := Lib.hid hA
    have HEQ := Lib.hid (fun W (hW : Below w.heap.size w W) => equal_any A c [a, a] 2 W (hA.keep hW) hlen (by omega))
    rw [he] at HEQ
    clear hA
    go_enter Try.func11, Try.ntmps11
    go_upto_region 1 with fail
    have hst := start2 w #[.int .i64 k, .int .i64 n] #[.int .i64 0, .int .i64 0] 23 32
    generalize (w.alloc (.cells #[.int .i64 k, .int .i64 n] 23)).alloc (.cells #[.int .i64 0, .int .i64 0] 32) = W0 at *
    obtain ⟨m0, m1, B0⟩ := hst
    obtain ⟨q0, q1⟩ := m0.l2 (Below.refl _ _)
    refine wp_region_later (by kernel_rfl) (by kernel_rfl) ?_
    repeat (go_big_quiet_step (fail))
    refine wpQuiet_nil ?_
    intro _ hw'
    obtain ⟨z, hw''⟩ := hw'
    subst hw''
    have B1 := B0.trans (z.below.mono B0.size)
    have M1 := m1.keep z.below
    clear q0 q1 m0 m1 B0
    generalize z.val = W1 at *
    go_wp2_with fail
    refine (HEQ.out W1 B1).mono ?_
    rintro e W2 ⟨rfl, hb2⟩
    have B2 := B1.trans (hb2.mono B1.size)
    have M2 := M1.keep hb2
    clear hb2 B1 M1
    obtain ⟨b1, o1, hb1⟩ := (HA.out.keep B2).open
    obtain ⟨hA1, hl1, hc1⟩ := hb1 (by simp)
    subst hA1
    have c0 : W2.cell? ⟨b1, o1, none⟩ = some (.int .i64 a) := hc1 0 _ rfl
    have c1 : W2.cell? ⟨b1, o1 + 1, none⟩ = some (.int .i64 a) := hc1 1 _ rfl
    clear hb1 hc1
    go_upto_region 32 with (fail)
    clear c0 c1
    obtain ⟨r0, r1⟩ := M2.c2
    obtain ⟨f0, f1⟩ := M2.f2
    have hmr := fun w => rIn_any (a) w
    generalize hiw : isW (a) = q at *
    cases q
    · exact absurd ha Bool.false_ne_true
    · have hf := HF.out
      go_wp2_with (go_at_call 30; refine (hmr _).mono ?_; rintro e w' ⟨rfl, rfl⟩)
      have hR := M2.s2 (.int .i64 (a)) (.int .i64 0)
      obtain ⟨s0, s1⟩ := hR.c2
      have hw2 : wid (7) [a, a] k n = a := hf
      have he : err (a) = 0 := if_neg (by have := isW_in hiw; omega)
      rw [hw2, he]
      exact bodyPost_ret (v := .agg #[.int .i64 (a), .int .i64 0]) (by simp [results, Try.results11, go_sem, s0, s1]) rfl ⟨rfl, below_s2 B2 (by omega) _ _⟩

set_option maxRecDepth 100000 in
set_option maxHeartbeats 1000000 in
theorem rw8 (A : Option Addr) (c : Nat) (ws : List Int) (k n : Int) (w : World) (hA : ArrI w A ws) (hlen : ws.length ≤ maxLen) (hn : -9223372036854775808 ≤ n ∧ n ≤ 9223372036854775807) :
    Calls Try.prog 11 #[.int .i64 8, .slice A ws.length c, .agg #[.int .i64 k, .int .i64 n]] w fun e w' => e = .returned (.agg #[.int .i64 (wid 8 ws k n), .int .i64 (err (wid 8 ws k n))]) ∧ Below w.heap.size w w' := by
  cases he : eqW ws 2
  · have HF : Hid (wid 8 ws k n = if isW (0) then (0) else 0) := Lib.hid (by exact wid_none (op := 8) (eqW_no he (fun h1 h2 h3 => by obtain ⟨a, b, rfl⟩ := len2 h1; have hne : ¬ b = a := (by rcases h3 with h3 | h3; omega; simpa using h3); show isW (if b = a then 1 else 0) = false; rw [if_neg hne]; rfl) rfl (by omega)))
    have HA := Lib.hid hA
    have HEQ := Lib.hid (fun W (hW : Below w.heap.size w W) => equal_any A c ws 2 W (hA.keep hW) hlen (by omega))
    rw [he] at HEQ
    clear hA
    go_enter Try.func11, Try.ntmps11
    go_upto_region 1 with fail
    have hst := start2 w #[.int .i64 k, .int .i64 n] #[.int .i64 0, .int .i64 0] 23 32
    generalize (w.alloc (.cells #[.int .i64 k, .int .i64 n] 23)).alloc (.cells #[.int .i64 0, .int .i64 0] 32) = W0 at *
    obtain ⟨m0, m1, B0⟩ := hst
    obtain ⟨q0, q1⟩ := m0.l2 (Below.refl _ _)
    refine wp_region_later (by kernel_rfl) (by kernel_rfl) ?_
    repeat (go_big_quiet_step (fail))
    refine wpQuiet_nil ?_
    intro _ hw'
    obtain ⟨z, hw''⟩ := hw'
    subst hw''
    have B1 := B0.trans (z.below.mono B0.size)
    have M1 := m1.keep z.below
    clear q0 q1 m0 m1 B0
    generalize z.val = W1 at *
    go_wp2_with fail
    refine (HEQ.out W1 B1).mono ?_
    rintro e W2 ⟨rfl, hb2⟩
    have B2 := B1.trans (hb2.mono B1.size)
    have M2 := M1.keep hb2
    clear hb2 B1 M1
    go_upto_region 32 with (fail)
    obtain ⟨r0, r1⟩ := M2.c2
    obtain ⟨f0, f1⟩ := M2.f2
    have hmr := fun w => rIn_any (0) w
    generalize hiw : isW (0) = q at *
    cases q
    · have hf := HF.out
      go_wp2_with (go_at_call 30; refine (hmr _).mono ?_; rintro e w' ⟨rfl, rfl⟩)
      have hR := M2.s2 (.int .i64 0) (.int .i64 1)
      obtain ⟨s0, s1⟩ := hR.c2
      have hw2 : wid (8) ws k n = 0 := hf
      have he : err 0 = 1 := rfl
      rw [hw2, he]
      exact bodyPost_ret (v := .agg #[.int .i64 0, .int .i64 1]) (by simp [results, Try.results11, go_sem, s0, s1]) rfl ⟨rfl, below_s2 B2 (by omega) _ _⟩
    · have hf := HF.out
      go_wp2_with (go_at_call 30; refine (hmr _).mono ?_; rintro e w' ⟨rfl, rfl⟩)
      have hR := M2.s2 (.int .i64 (0)) (.int .i64 0)
      obtain ⟨s0, s1⟩ := hR.c2
      have hw2 : wid (8) ws k n = 0 := hf
      have he : err (0) = 0 := if_neg (by have := isW_in hiw; omega)
      rw [hw2, he]
      exact bodyPost_ret (v := .agg #[.int .i64 (0), .int .i64 0]) (by simp [results, Try.results11, go_sem, s0, s1]) rfl ⟨rfl, below_s2 B2 (by omega) _ _⟩
  · obtain ⟨a, rfl, ha⟩ := eqW2 he
    have HF : Hid (wid 8 [a, a] k n = if isW (1) then (1) else 0) := Lib.hid (by exact wid_of (op := 8) (by simp [ha]) (if_pos rfl))
    have HA := Lib.hid hA
    have HEQ := Lib.hid (fun W (hW : Below w.heap.size w W) => equal_any A c [a, a] 2 W (hA.keep hW) hlen (by omega))
    rw [he] at HEQ
    clear hA
    go_enter Try.func11, Try.ntmps11
    go_upto_region 1 with fail
    have hst := start2 w #[.int .i64 k, .int .i64 n] #[.int .i64 0, .int .i64 0] 23 32
    generalize (w.alloc (.cells #[.int .i64 k, .int .i64 n] 23)).alloc (.cells #[.int .i64 0, .int .i64 0] 32) = W0 at *
    obtain ⟨m0, m1, B0⟩ := hst
    obtain ⟨q0, q1⟩ := m0.l2 (Below.refl _ _)
    refine wp_region_later (by kernel_rfl) (by kernel_rfl) ?_
    repeat (go_big_quiet_step (fail))
    refine wpQuiet_nil ?_
    intro _ hw'
    obtain ⟨z, hw''⟩ := hw'
    subst hw''
    have B1 := B0.trans (z.below.mono B0.size)
    have M1 := m1.keep z.below
    clear q0 q1 m0 m1 B0
    generalize z.val = W1 at *
    go_wp2_with fail
    refine (HEQ.out W1 B1).mono ?_
    rintro e W2 ⟨rfl, hb2⟩
    have B2 := B1.trans (hb2.mono B1.size)
    have M2 := M1.keep hb2
    clear hb2 B1 M1
    go_upto_region 32 with (fail)
    obtain ⟨r0, r1⟩ := M2.c2
    obtain ⟨f0, f1⟩ := M2.f2
    have hmr := fun w => rIn_any (1) w
    generalize hiw : isW (1) = q at *
    cases q
    · have hf := HF.out
      go_wp2_with (go_at_call 30; refine (hmr _).mono ?_; rintro e w' ⟨rfl, rfl⟩)
      have hR := M2.s2 (.int .i64 0) (.int .i64 1)
      obtain ⟨s0, s1⟩ := hR.c2
      have hw2 : wid (8) [a, a] k n = 0 := hf
      have he : err 0 = 1 := rfl
      rw [hw2, he]
      exact bodyPost_ret (v := .agg #[.int .i64 0, .int .i64 1]) (by simp [results, Try.results11, go_sem, s0, s1]) rfl ⟨rfl, below_s2 B2 (by omega) _ _⟩
    · have hf := HF.out
      go_wp2_with (go_at_call 30; refine (hmr _).mono ?_; rintro e w' ⟨rfl, rfl⟩)
      have hR := M2.s2 (.int .i64 (1)) (.int .i64 0)
      obtain ⟨s0, s1⟩ := hR.c2
      have hw2 : wid (8) [a, a] k n = 1 := hf
      have he : err (1) = 0 := if_neg (by have := isW_in hiw; omega)
      rw [hw2, he]
      exact bodyPost_ret (v := .agg #[.int .i64 (1), .int .i64 0]) (by simp [results, Try.results11, go_sem, s0, s1]) rfl ⟨rfl, below_s2 B2 (by omega) _ _⟩

set_option maxRecDepth 100000 in
set_option maxHeartbeats 1000000 in
theorem rw9 (A : Option Addr) (c : Nat) (ws : List Int) (k n : Int) (w : World) (hA : ArrI w A ws) (hlen : ws.length ≤ maxLen) (hn : -9223372036854775808 ≤ n ∧ n ≤ 9223372036854775807) :
    Calls Try.prog 11 #[.int .i64 9, .slice A ws.length c, .agg #[.int .i64 k, .int .i64 n]] w fun e w' => e = .returned (.agg #[.int .i64 (wid 9 ws k n), .int .i64 (err (wid 9 ws k n))]) ∧ Below w.heap.size w w' := by
  cases he : eqW ws 2
  · have HF : Hid (wid 9 ws k n = if isW (0) then (0) else 0) := Lib.hid (by exact wid_none (op := 9) (eqW_no he (fun h1 h2 h3 => by obtain ⟨a, b, rfl⟩ := len2 h1; have hne : ¬ b = a := (by rcases h3 with h3 | h3; omega; simpa using h3); show isW (if b = a then 1 else 0) = false; rw [if_neg hne]; rfl) rfl (by omega)))
    have HA := Lib.hid hA
    have HEQ := Lib.hid (fun W (hW : Below w.heap.size w W) => equal_any A c ws 2 W (hA.keep hW) hlen (by omega))
    rw [he] at HEQ
    clear hA
    go_enter Try.func11, Try.ntmps11
    go_upto_region 1 with fail
    have hst := start2 w #[.int .i64 k, .int .i64 n] #[.int .i64 0, .int .i64 0] 23 32
    generalize (w.alloc (.cells #[.int .i64 k, .int .i64 n] 23)).alloc (.cells #[.int .i64 0, .int .i64 0] 32) = W0 at *
    obtain ⟨m0, m1, B0⟩ := hst
    obtain ⟨q0, q1⟩ := m0.l2 (Below.refl _ _)
    refine wp_region_later (by kernel_rfl) (by kernel_rfl) ?_
    repeat (go_big_quiet_step (fail))
    refine wpQuiet_nil ?_
    intro _ hw'
    obtain ⟨z, hw''⟩ := hw'
    subst hw''
    have B1 := B0.trans (z.below.mono B0.size)
    have M1 := m1.keep z.below
    clear q0 q1 m0 m1 B0
    generalize z.val = W1 at *
    go_wp2_with fail
    refine (HEQ.out W1 B1).mono ?_
    rintro e W2 ⟨rfl, hb2⟩
    have B2 := B1.trans (hb2.mono B1.size)
    have M2 := M1.keep hb2
    clear hb2 B1 M1
    go_upto_region 32 with (fail)
    obtain ⟨r0, r1⟩ := M2.c2
    obtain ⟨f0, f1⟩ := M2.f2
    have hmr := fun w => rIn_any (0) w
    generalize hiw : isW (0) = q at *
    cases q
    · have hf := HF.out
      go_wp2_with (go_at_call 30; refine (hmr _).mono ?_; rintro e w' ⟨rfl, rfl⟩)
      have hR := M2.s2 (.int .i64 0) (.int .i64 1)
      obtain ⟨s0, s1⟩ := hR.c2
      have hw2 : wid (9) ws k n = 0 := hf
      have he : err 0 = 1 := rfl
      rw [hw2, he]
      exact bodyPost_ret (v := .agg #[.int .i64 0, .int .i64 1]) (by simp [results, Try.results11, go_sem, s0, s1]) rfl ⟨rfl, below_s2 B2 (by omega) _ _⟩
    · have hf := HF.out
      go_wp2_with (go_at_call 30; refine (hmr _).mono ?_; rintro e w' ⟨rfl, rfl⟩)
      have hR := M2.s2 (.int .i64 (0)) (.int .i64 0)
      obtain ⟨s0, s1⟩ := hR.c2
      have hw2 : wid (9) ws k n = 0 := hf
      have he : err (0) = 0 := if_neg (by have := isW_in hiw; omega)
      rw [hw2, he]
      exact bodyPost_ret (v := .agg #[.int .i64 (0), .int .i64 0]) (by simp [results, Try.results11, go_sem, s0, s1]) rfl ⟨rfl, below_s2 B2 (by omega) _ _⟩
  · obtain ⟨a, rfl, ha⟩ := eqW2 he
    have HF : Hid (wid 9 [a, a] k n = if isW (1) then (1) else 0) := Lib.hid (by exact wid_of (op := 9) (by simp [ha]) (if_pos rfl))
    have HA := Lib.hid hA
    have HEQ := Lib.hid (fun W (hW : Below w.heap.size w W) => equal_any A c [a, a] 2 W (hA.keep hW) hlen (by omega))
    rw [he] at HEQ
    clear hA
    go_enter Try.func11, Try.ntmps11
    go_upto_region 1 with fail
    have hst := start2 w #[.int .i64 k, .int .i64 n] #[.int .i64 0, .int .i64 0] 23 32
    generalize (w.alloc (.cells #[.int .i64 k, .int .i64 n] 23)).alloc (.cells #[.int .i64 0, .int .i64 0] 32) = W0 at *
    obtain ⟨m0, m1, B0⟩ := hst
    obtain ⟨q0, q1⟩ := m0.l2 (Below.refl _ _)
    refine wp_region_later (by kernel_rfl) (by kernel_rfl) ?_
    repeat (go_big_quiet_step (fail))
    refine wpQuiet_nil ?_
    intro _ hw'
    obtain ⟨z, hw''⟩ := hw'
    subst hw''
    have B1 := B0.trans (z.below.mono B0.size)
    have M1 := m1.keep z.below
    clear q0 q1 m0 m1 B0
    generalize z.val = W1 at *
    go_wp2_with fail
    refine (HEQ.out W1 B1).mono ?_
    rintro e W2 ⟨rfl, hb2⟩
    have B2 := B1.trans (hb2.mono B1.size)
    have M2 := M1.keep hb2
    clear hb2 B1 M1
    go_upto_region 32 with (fail)
    obtain ⟨r0, r1⟩ := M2.c2
    obtain ⟨f0, f1⟩ := M2.f2
    have hmr := fun w => rIn_any (1) w
    generalize hiw : isW (1) = q at *
    cases q
    · have hf := HF.out
      go_wp2_with (go_at_call 30; refine (hmr _).mono ?_; rintro e w' ⟨rfl, rfl⟩)
      have hR := M2.s2 (.int .i64 0) (.int .i64 1)
      obtain ⟨s0, s1⟩ := hR.c2
      have hw2 : wid (9) [a, a] k n = 0 := hf
      have he : err 0 = 1 := rfl
      rw [hw2, he]
      exact bodyPost_ret (v := .agg #[.int .i64 0, .int .i64 1]) (by simp [results, Try.results11, go_sem, s0, s1]) rfl ⟨rfl, below_s2 B2 (by omega) _ _⟩
    · have hf := HF.out
      go_wp2_with (go_at_call 30; refine (hmr _).mono ?_; rintro e w' ⟨rfl, rfl⟩)
      have hR := M2.s2 (.int .i64 (1)) (.int .i64 0)
      obtain ⟨s0, s1⟩ := hR.c2
      have hw2 : wid (9) [a, a] k n = 1 := hf
      have he : err (1) = 0 := if_neg (by have := isW_in hiw; omega)
      rw [hw2, he]
      exact bodyPost_ret (v := .agg #[.int .i64 (1), .int .i64 0]) (by simp [results, Try.results11, go_sem, s0, s1]) rfl ⟨rfl, below_s2 B2 (by omega) _ _⟩


end Bt
end Go.Proofs.Ytjfijhchnchfcaa
