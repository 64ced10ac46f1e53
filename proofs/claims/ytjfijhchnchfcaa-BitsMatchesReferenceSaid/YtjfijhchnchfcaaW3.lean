/- The functions of the table of operators that give a width. -/
import Derived.Test.YtjfijhchnchfcaaW2
namespace Go.Proofs.Ytjfijhchnchfcaa
open Go.RowKit Sl Fr
namespace Bt
set_option linter.unusedVariables false
set_option linter.unusedSimpArgs false

/-- A width that a function of the table gives: the one that is asked for, if either is a width. -/
def Gives (op : Nat) (ws : List Int) (k n r : Int) : Prop := isW r = isW (raw op ws k n) ∧ (isW r = true → r = raw op ws k n)
theorem Gives.refl (op : Nat) (ws : List Int) (k n : Int) : Gives op ws k n (raw op ws k n) := ⟨rfl, fun _ => rfl⟩

theorem constant_any (A : Option Addr) (L c : Nat) (k n : Int) (w : World) :
    Calls Try.prog 36 #[.agg #[.slice A L c, .int .i64 k, .int .i64 n]] w fun e w' => e = .returned (.int .i64 (if isV k n then n else 0)) ∧ Below w.heap.size w w' := by
  have hm := fun w => isValue_any k n w
  have hb := (Below.refl w.heap.size w).alloc (Nat.le_refl _) (.cells #[.slice A L c, .int .i64 k, .int .i64 n] 63)
  generalize isV k n = q at *
  cases q
  · go_enter Try.func36, Try.ntmps36
    go_wp2_with (go_at_call 57; refine (hm _).mono ?_; rintro e w' ⟨rfl, rfl⟩)
    go_ret
    exact ⟨rfl, hb⟩
  · go_enter Try.func36, Try.ntmps36
    go_wp2_with (go_at_call 57; refine (hm _).mono ?_; rintro e w' ⟨rfl, rfl⟩)
    go_ret
    exact ⟨rfl, hb⟩

set_option maxRecDepth 100000 in
theorem common_any (A : Option Addr) (c : Nat) (x : Int) (xs : List Int) (k n : Int) (w : World) (hA : ArrI w A (x :: xs)) (hlen : xs.length ≤ 3) :
    Calls Try.prog 38 #[.agg #[.slice A (xs.length + 1) c, .int .i64 k, .int .i64 n]] w fun e w' => e = .returned (.int .i64 (if (x :: xs).all (fun y => decide (y = x)) then x else 0)) ∧ Below w.heap.size w w' := by
  obtain ⟨b, o, hb⟩ := hA.open
  obtain ⟨rfl, hbs, hc⟩ := hb (by simp)
  have c0 : w.cell? ⟨b, o, none⟩ = some (.int .i64 x) := hc 0 x rfl
  have HC := Lib.hid hc
  have hbw := Lib.hid ((Below.refl w.heap.size w).alloc (Nat.le_refl _) (.cells #[.slice (some ⟨b, o, none⟩) (xs.length + 1) c, .int .i64 k, .int .i64 n] 63))
  clear hA hb hc
  obtain ⟨l, hl⟩ : ∃ l, l = x :: xs := ⟨_, rfl⟩
  have hll : xs.length + 1 = l.length := by rw [hl]; rfl
  rw [← hl, hll]
  obtain ⟨r, hr⟩ : ∃ r, r = (if l.all (fun y => decide (y = x)) then x else 0) := ⟨_, rfl⟩
  rw [← hr]
  have HR := Lib.hid hr
  clear hr
  rw [← hl] at HC
  rw [hll] at hbw
  have HL := Lib.hid hl
  have h4 : l.length ≤ 4 := by omega
  have h0l : 0 < l.length := by omega
  clear hlen hl hll
  go_enter Try.func38, Try.ntmps38
  go_wp2
  go_loop [8] (fun i => ∃ k : Nat, k ≤ l.length ∧ i = .int .i64 k ∧ (l.take k).all (fun y => decide (y = x)) = true) (fun i => l.length - (intOf i).toNat)
  case atStart => exact ⟨0, Nat.zero_le _, rfl, by simp⟩
  case round =>
    obtain ⟨j, hj, rfl, hall⟩ := hrel
    have HG := Lib.hid hall
    clear hall
    by_cases hlt : j < l.length
    · obtain ⟨v, hv⟩ := get_ex hlt
      have hcv := HC.out j v hv
      have HE := Lib.hid hv
      clear hv HC
      by_cases hx : v = x
      · subst hx
        go_wp2
        exact ⟨⟨j + 1, by omega, by go_num, by rw [take_snoc HE.out, List.all_append, HG.out]; simp⟩, by simp [intOf]; omega⟩
      · have e1 : (v != x) = true := by simpa using hx
        have e2 : (v == x) = false := by simpa using hx
        have hn : l.all (fun y => decide (y = x)) = false := all_no HE.out (by simpa using hx)
        go_wp2
        go_ret
        exact ⟨ret_num (by rw [HR.out, hn]; rfl), hbw.out⟩
    · have hn : l.all (fun y => decide (y = x)) = true := by
        have := HG.out
        rwa [show j = l.length by omega, List.take_length] at this
      go_wp2
      go_ret
      exact ⟨ret_num (by rw [HR.out, hn]; rfl), hbw.out⟩

theorem common1 (A : Option Addr) (c : Nat) (a : Int) (k n : Int) (w : World) (hA : ArrI w A [a]) :
    Calls Try.prog 38 #[.agg #[.slice A 1 c, .int .i64 k, .int .i64 n]] w fun e w' => e = .returned (.int .i64 a) ∧ Below w.heap.size w w' := by
  have := common_any A c a [] k n w hA (by simp)
  simpa using this
theorem common2 (A : Option Addr) (c : Nat) (a b : Int) (k n : Int) (w : World) (hA : ArrI w A [a, b]) :
    Calls Try.prog 38 #[.agg #[.slice A 2 c, .int .i64 k, .int .i64 n]] w fun e w' => e = .returned (.int .i64 (if b = a then a else 0)) ∧ Below w.heap.size w w' := by
  have := common_any A c a [b] k n w hA (by simp)
  simpa using this
set_option maxRecDepth 100000 in
theorem compared_any (A : Option Addr) (c : Nat) (a b : Int) (k n : Int) (w : World) (hA : ArrI w A [a, b]) (ha : 1 ≤ a) :
    Calls Try.prog 45 #[.agg #[.slice A 2 c, .int .i64 k, .int .i64 n]] w fun e w' => e = .returned (.int .i64 (if b = a then 1 else 0)) ∧ Below w.heap.size w w' := by
  have hbw := (Below.refl w.heap.size w).alloc (Nat.le_refl _) (.cells #[.slice A 2 c, .int .i64 k, .int .i64 n] 63)
  have hm := common2 A c a b k n _ (hA.keep hbw)
  have HB := Lib.hid hbw
  clear hA hbw
  by_cases hx : b = a
  · rw [if_pos hx] at hm ⊢
    have e1 : (a == 0) = false := by simp; omega
    clear hx ha
    go_enter Try.func45, Try.ntmps45
    go_wp2_with (go_at_call 38; refine hm.mono ?_; rintro e w' ⟨rfl, hb2⟩)
    go_ret
    exact ⟨rfl, HB.out.trans (hb2.mono HB.out.size)⟩
  · rw [if_neg hx] at hm ⊢
    clear hx ha
    go_enter Try.func45, Try.ntmps45
    go_wp2_with (go_at_call 38; refine hm.mono ?_; rintro e w' ⟨rfl, hb2⟩)
    go_ret
    exact ⟨rfl, HB.out.trans (hb2.mono HB.out.size)⟩

set_option maxRecDepth 100000 in
theorem joined_any (A : Option Addr) (c : Nat)  (a b : Int) (k n : Int) (w : World) (hA : ArrI w A [a, b]) (ha : 1 ≤ a ∧ a ≤ 8) (hb : 1 ≤ b ∧ b ≤ 8) :
    Calls Try.prog 51 #[.agg #[.slice A 2 c, .int .i64 k, .int .i64 n]] w fun e w' => e = .returned (.int .i64 (a + b)) ∧ Below w.heap.size w w' := by
  obtain ⟨b0, o0, hb0⟩ := hA.open
  obtain ⟨rfl, hl0, hc0⟩ := hb0 (by simp)
  have c00 : w.cell? ⟨b0, o0, none⟩ = some (.int .i64 a) := hc0 0 _ rfl
  have c01 : w.cell? ⟨b0, o0 + 1, none⟩ = some (.int .i64 b) := hc0 1 _ rfl
  clear hA hb0 hc0
  go_enter Try.func51, Try.ntmps51
  go_upto_region 1 with fail
  have hst := start1 w #[.slice (some ⟨b0, o0, none⟩) 2 c, .int .i64 k, .int .i64 n] 63
  generalize w.alloc (.cells #[.slice (some ⟨b0, o0, none⟩) 2 c, .int .i64 k, .int .i64 n] 63) = W at *
  obtain ⟨m, B⟩ := hst
  have d00 := fun p : Later W => ((B.trans (p.below.mono B.size)).cell (p := ⟨b0, o0, none⟩) hl0).trans c00
  have d01 := fun p : Later W => ((B.trans (p.below.mono B.size)).cell (p := ⟨b0, o0 + 1, none⟩) hl0).trans c01
  clear c00 c01
  obtain ⟨q0, q1, q2⟩ := m.l3 (Below.refl _ _)
  refine wp_region_later (by kernel_rfl) (by kernel_rfl) ?_
  repeat (go_big_quiet_step (fail))
  refine wpQuiet_nil ?_
  intro _ hw'
  obtain ⟨z, hw''⟩ := hw'
  subst hw''
  go_wp2_with fail
  go_ret
  exact ⟨rfl, B.trans (z.below.mono B.size)⟩

set_option maxRecDepth 100000 in
theorem chosenW_any (A : Option Addr) (c : Nat)  (a b d : Int) (k n : Int) (w : World) (hA : ArrI w A [a, b, d])  :
    Calls Try.prog 48 #[.agg #[.slice A 3 c, .int .i64 k, .int .i64 n]] w fun e w' => e = .returned (.int .i64 (if a = 1 ∧ b = d then b else 0)) ∧ Below w.heap.size w w' := by
  obtain ⟨b0, o0, hb0⟩ := hA.open
  obtain ⟨rfl, hl0, hc0⟩ := hb0 (by simp)
  have c00 : w.cell? ⟨b0, o0, none⟩ = some (.int .i64 a) := hc0 0 _ rfl
  have c01 : w.cell? ⟨b0, o0 + 1, none⟩ = some (.int .i64 b) := hc0 1 _ rfl
  have c02 : w.cell? ⟨b0, o0 + 2, none⟩ = some (.int .i64 d) := hc0 2 _ rfl
  clear hA hb0 hc0
  rcases (by omega : a ≠ 1 ∨ (a = 1 ∧ b ≠ d) ∨ (a = 1 ∧ b = d)) with h1 | ⟨h1, h2⟩ | ⟨h1, h2⟩
  · rw [if_neg (fun h => h1 h.1)]
    have e1 : (a != 1) = true := by simpa using h1
    have e2 : (a == 1) = false := by simpa using h1
    clear h1
    go_enter Try.func48, Try.ntmps48
    go_upto_region 1 with fail
    have hst := start1 w #[.slice (some ⟨b0, o0, none⟩) 3 c, .int .i64 k, .int .i64 n] 63
    generalize w.alloc (.cells #[.slice (some ⟨b0, o0, none⟩) 3 c, .int .i64 k, .int .i64 n] 63) = W at *
    obtain ⟨m, B⟩ := hst
    have d00 := fun p : Later W => ((B.trans (p.below.mono B.size)).cell (p := ⟨b0, o0, none⟩) hl0).trans c00
    have d01 := fun p : Later W => ((B.trans (p.below.mono B.size)).cell (p := ⟨b0, o0 + 1, none⟩) hl0).trans c01
    have d02 := fun p : Later W => ((B.trans (p.below.mono B.size)).cell (p := ⟨b0, o0 + 2, none⟩) hl0).trans c02
    clear c00 c01 c02
    obtain ⟨q0, q1, q2⟩ := m.l3 (Below.refl _ _)
    refine wp_region_later (by kernel_rfl) (by kernel_rfl) ?_
    repeat (go_big_quiet_step (fail))
    refine wpQuiet_nil ?_
    intro _ hw'
    obtain ⟨z, hw''⟩ := hw'
    subst hw''
    have m2 := m.keep z.below
    have B2 := B.trans (z.below.mono B.size)
    obtain ⟨r0, r1, r2⟩ := m2.c3
    have e00 := d00 z
    have e01 := d01 z
    have e02 := d02 z
    clear d00 d01 d02
    have hlz := B2.size
    clear q0 q1 q2 m m2
    generalize z.val = Z at *
    skip
    go_wp2_with fail
    go_ret
    exact ⟨rfl, B2⟩
  · rw [if_neg (fun h => h2 h.2)]
    subst h1
    have e1 : (b != d) = true := by simpa using h2
    have e2 : (b == d) = false := by simpa using h2
    clear h2
    go_enter Try.func48, Try.ntmps48
    go_upto_region 1 with fail
    have hst := start1 w #[.slice (some ⟨b0, o0, none⟩) 3 c, .int .i64 k, .int .i64 n] 63
    generalize w.alloc (.cells #[.slice (some ⟨b0, o0, none⟩) 3 c, .int .i64 k, .int .i64 n] 63) = W at *
    obtain ⟨m, B⟩ := hst
    have d00 := fun p : Later W => ((B.trans (p.below.mono B.size)).cell (p := ⟨b0, o0, none⟩) hl0).trans c00
    have d01 := fun p : Later W => ((B.trans (p.below.mono B.size)).cell (p := ⟨b0, o0 + 1, none⟩) hl0).trans c01
    have d02 := fun p : Later W => ((B.trans (p.below.mono B.size)).cell (p := ⟨b0, o0 + 2, none⟩) hl0).trans c02
    clear c00 c01 c02
    obtain ⟨q0, q1, q2⟩ := m.l3 (Below.refl _ _)
    refine wp_region_later (by kernel_rfl) (by kernel_rfl) ?_
    repeat (go_big_quiet_step (fail))
    refine wpQuiet_nil ?_
    intro _ hw'
    obtain ⟨z, hw''⟩ := hw'
    subst hw''
    have m2 := m.keep z.below
    have B2 := B.trans (z.below.mono B.size)
    obtain ⟨r0, r1, r2⟩ := m2.c3
    have e00 := d00 z
    have e01 := d01 z
    have e02 := d02 z
    clear d00 d01 d02
    have hlz := B2.size
    clear q0 q1 q2 m m2
    generalize z.val = Z at *
    skip
    go_wp2_with fail
    go_ret
    exact ⟨rfl, B2⟩
  · rw [if_pos ⟨h1, h2⟩]
    subst h1
    subst h2
    go_enter Try.func48, Try.ntmps48
    go_upto_region 1 with fail
    have hst := start1 w #[.slice (some ⟨b0, o0, none⟩) 3 c, .int .i64 k, .int .i64 n] 63
    generalize w.alloc (.cells #[.slice (some ⟨b0, o0, none⟩) 3 c, .int .i64 k, .int .i64 n] 63) = W at *
    obtain ⟨m, B⟩ := hst
    have d00 := fun p : Later W => ((B.trans (p.below.mono B.size)).cell (p := ⟨b0, o0, none⟩) hl0).trans c00
    have d01 := fun p : Later W => ((B.trans (p.below.mono B.size)).cell (p := ⟨b0, o0 + 1, none⟩) hl0).trans c01
    have d02 := fun p : Later W => ((B.trans (p.below.mono B.size)).cell (p := ⟨b0, o0 + 2, none⟩) hl0).trans c02
    clear c00 c01 c02
    obtain ⟨q0, q1, q2⟩ := m.l3 (Below.refl _ _)
    refine wp_region_later (by kernel_rfl) (by kernel_rfl) ?_
    repeat (go_big_quiet_step (fail))
    refine wpQuiet_nil ?_
    intro _ hw'
    obtain ⟨z, hw''⟩ := hw'
    subst hw''
    have m2 := m.keep z.below
    have B2 := B.trans (z.below.mono B.size)
    obtain ⟨r0, r1, r2⟩ := m2.c3
    have e00 := d00 z
    have e01 := d01 z
    have e02 := d02 z
    clear d00 d01 d02
    have hlz := B2.size
    clear q0 q1 q2 m m2
    generalize z.val = Z at *
    skip
    go_wp2_with fail
    go_ret
    exact ⟨rfl, B2⟩

set_option maxRecDepth 100000 in
theorem slicedW_any (A : Option Addr) (c : Nat)  (a : Int) (k n : Int) (w : World) (hA : ArrI w A [a]) (ha : 1 ≤ a ∧ a ≤ 8) :
    Calls Try.prog 53 #[.agg #[.slice A 1 c, .int .i64 k, .int .i64 n]] w fun e w' => e = .returned (.int .i64 (if k < 0 ∨ wrap64 (a - n) < k then 0 else n)) ∧ Below w.heap.size w w' := by
  obtain ⟨b0, o0, hb0⟩ := hA.open
  obtain ⟨rfl, hl0, hc0⟩ := hb0 (by simp)
  have c00 : w.cell? ⟨b0, o0, none⟩ = some (.int .i64 a) := hc0 0 _ rfl
  clear hA hb0 hc0
  rcases (by omega : k < 0 ∨ (¬ k < 0 ∧ wrap64 (a - n) < k) ∨ (¬ k < 0 ∧ ¬ wrap64 (a - n) < k)) with h1 | ⟨h1, h2⟩ | ⟨h1, h2⟩
  · rw [if_pos (.inl h1)]
    go_enter Try.func53, Try.ntmps53
    go_upto_region 1 with fail
    have hst := start1 w #[.slice (some ⟨b0, o0, none⟩) 1 c, .int .i64 k, .int .i64 n] 63
    generalize w.alloc (.cells #[.slice (some ⟨b0, o0, none⟩) 1 c, .int .i64 k, .int .i64 n] 63) = W at *
    obtain ⟨m, B⟩ := hst
    have d00 := fun p : Later W => ((B.trans (p.below.mono B.size)).cell (p := ⟨b0, o0, none⟩) hl0).trans c00
    clear c00
    obtain ⟨q0, q1, q2⟩ := m.l3 (Below.refl _ _)
    refine wp_region_later (by kernel_rfl) (by kernel_rfl) ?_
    repeat (go_big_quiet_step (fail))
    refine wpQuiet_nil ?_
    intro _ hw'
    obtain ⟨z, hw''⟩ := hw'
    subst hw''
    have m2 := m.keep z.below
    have B2 := B.trans (z.below.mono B.size)
    obtain ⟨r0, r1, r2⟩ := m2.c3
    have e00 := d00 z
    clear d00
    have hlz := B2.size
    clear q0 q1 q2 m m2
    generalize z.val = Z at *
    skip
    go_wp2_with fail
    go_ret
    exact ⟨rfl, B2⟩
  · rw [if_pos (.inr h2)]
    generalize hq : wrap64 (a - n) = q at *
    go_enter Try.func53, Try.ntmps53
    go_upto_region 1 with fail
    have hst := start1 w #[.slice (some ⟨b0, o0, none⟩) 1 c, .int .i64 k, .int .i64 n] 63
    generalize w.alloc (.cells #[.slice (some ⟨b0, o0, none⟩) 1 c, .int .i64 k, .int .i64 n] 63) = W at *
    obtain ⟨m, B⟩ := hst
    have d00 := fun p : Later W => ((B.trans (p.below.mono B.size)).cell (p := ⟨b0, o0, none⟩) hl0).trans c00
    clear c00
    obtain ⟨q0, q1, q2⟩ := m.l3 (Below.refl _ _)
    refine wp_region_later (by kernel_rfl) (by kernel_rfl) ?_
    repeat (go_big_quiet_step (fail))
    refine wpQuiet_nil ?_
    intro _ hw'
    obtain ⟨z, hw''⟩ := hw'
    subst hw''
    have m2 := m.keep z.below
    have B2 := B.trans (z.below.mono B.size)
    obtain ⟨r0, r1, r2⟩ := m2.c3
    have e00 := d00 z
    clear d00
    have hlz := B2.size
    clear q0 q1 q2 m m2
    generalize z.val = Z at *
    skip
    go_wp2_with fail
    go_ret
    exact ⟨rfl, B2⟩
  · rw [if_neg (fun h => h.elim h1 h2)]
    generalize hq : wrap64 (a - n) = q at *
    go_enter Try.func53, Try.ntmps53
    go_upto_region 1 with fail
    have hst := start1 w #[.slice (some ⟨b0, o0, none⟩) 1 c, .int .i64 k, .int .i64 n] 63
    generalize w.alloc (.cells #[.slice (some ⟨b0, o0, none⟩) 1 c, .int .i64 k, .int .i64 n] 63) = W at *
    obtain ⟨m, B⟩ := hst
    have d00 := fun p : Later W => ((B.trans (p.below.mono B.size)).cell (p := ⟨b0, o0, none⟩) hl0).trans c00
    clear c00
    obtain ⟨q0, q1, q2⟩ := m.l3 (Below.refl _ _)
    refine wp_region_later (by kernel_rfl) (by kernel_rfl) ?_
    repeat (go_big_quiet_step (fail))
    refine wpQuiet_nil ?_
    intro _ hw'
    obtain ⟨z, hw''⟩ := hw'
    subst hw''
    have m2 := m.keep z.below
    have B2 := B.trans (z.below.mono B.size)
    obtain ⟨r0, r1, r2⟩ := m2.c3
    have e00 := d00 z
    clear d00
    have hlz := B2.size
    clear q0 q1 q2 m m2
    generalize z.val = Z at *
    skip
    go_wp2_with fail
    go_ret
    exact ⟨rfl, B2⟩

set_option maxRecDepth 100000 in
theorem extendedW_any (A : Option Addr) (c : Nat)  (a : Int) (k n : Int) (w : World) (hA : ArrI w A [a])  :
    Calls Try.prog 55 #[.agg #[.slice A 1 c, .int .i64 k, .int .i64 n]] w fun e w' => e = .returned (.int .i64 (if a ≤ n then n else 0)) ∧ Below w.heap.size w w' := by
  obtain ⟨b0, o0, hb0⟩ := hA.open
  obtain ⟨rfl, hl0, hc0⟩ := hb0 (by simp)
  have c00 : w.cell? ⟨b0, o0, none⟩ = some (.int .i64 a) := hc0 0 _ rfl
  clear hA hb0 hc0
  rcases (by omega : n < a ∨ ¬ n < a) with h1 | h1
  · rw [if_neg (by omega)]
    go_enter Try.func55, Try.ntmps55
    go_upto_region 1 with fail
    have hst := start1 w #[.slice (some ⟨b0, o0, none⟩) 1 c, .int .i64 k, .int .i64 n] 63
    generalize w.alloc (.cells #[.slice (some ⟨b0, o0, none⟩) 1 c, .int .i64 k, .int .i64 n] 63) = W at *
    obtain ⟨m, B⟩ := hst
    have d00 := fun p : Later W => ((B.trans (p.below.mono B.size)).cell (p := ⟨b0, o0, none⟩) hl0).trans c00
    clear c00
    obtain ⟨q0, q1, q2⟩ := m.l3 (Below.refl _ _)
    refine wp_region_later (by kernel_rfl) (by kernel_rfl) ?_
    repeat (go_big_quiet_step (fail))
    refine wpQuiet_nil ?_
    intro _ hw'
    obtain ⟨z, hw''⟩ := hw'
    subst hw''
    have m2 := m.keep z.below
    have B2 := B.trans (z.below.mono B.size)
    obtain ⟨r0, r1, r2⟩ := m2.c3
    have e00 := d00 z
    clear d00
    have hlz := B2.size
    clear q0 q1 q2 m m2
    generalize z.val = Z at *
    skip
    go_wp2_with fail
    go_ret
    exact ⟨rfl, B2⟩
  · rw [if_pos (by omega)]
    go_enter Try.func55, Try.ntmps55
    go_upto_region 1 with fail
    have hst := start1 w #[.slice (some ⟨b0, o0, none⟩) 1 c, .int .i64 k, .int .i64 n] 63
    generalize w.alloc (.cells #[.slice (some ⟨b0, o0, none⟩) 1 c, .int .i64 k, .int .i64 n] 63) = W at *
    obtain ⟨m, B⟩ := hst
    have d00 := fun p : Later W => ((B.trans (p.below.mono B.size)).cell (p := ⟨b0, o0, none⟩) hl0).trans c00
    clear c00
    obtain ⟨q0, q1, q2⟩ := m.l3 (Below.refl _ _)
    refine wp_region_later (by kernel_rfl) (by kernel_rfl) ?_
    repeat (go_big_quiet_step (fail))
    refine wpQuiet_nil ?_
    intro _ hw'
    obtain ⟨z, hw''⟩ := hw'
    subst hw''
    have m2 := m.keep z.below
    have B2 := B.trans (z.below.mono B.size)
    obtain ⟨r0, r1, r2⟩ := m2.c3
    have e00 := d00 z
    clear d00
    have hlz := B2.size
    clear q0 q1 q2 m m2
    generalize z.val = Z at *
    skip
    go_wp2_with fail
    go_ret
    exact ⟨rfl, B2⟩

theorem sliced_gives (a k n : Int) (ha : 1 ≤ a ∧ a ≤ 8) (hn : -9223372036854775808 ≤ n ∧ n ≤ 9223372036854775807) : Gives 12 [a] k n (if k < 0 ∨ wrap64 (a - n) < k then 0 else n) := by
  by_cases h : isW n = true
  · have hw : wrap64 (a - n) = a - n := by
      simp only [isW, decide_eq_true_eq] at h
      unfold wrap64
      omega
    rw [hw]
    have e : (if k < 0 ∨ a - n < k then (0 : Int) else n) = raw 12 [a] k n := by
      show _ = (if 0 ≤ k ∧ k ≤ a - n then n else 0)
      by_cases h1 : 0 ≤ k ∧ k ≤ a - n
      · rw [if_pos h1, if_neg (by omega)]
      · rw [if_neg h1, if_pos (by omega)]
    rw [e]
    exact Gives.refl _ _ _ _
  · have h0 : isW n = false := by simpa using h
    have h1 : isW (raw 12 [a] k n) = false := by
      show isW (if 0 ≤ k ∧ k ≤ a - n then n else 0) = false
      split
      · exact h0
      · rfl
    have h2 : isW (if k < 0 ∨ wrap64 (a - n) < k then 0 else n) = false := by
      split
      · rfl
      · exact h0
    exact ⟨h2.trans h1.symm, fun h3 => by rw [h2] at h3; cases h3⟩

end Bt
end Go.Proofs.Ytjfijhchnchfcaa
