/- The functions of the table of operators that give a value. -/
import Derived.Test.YtjfijhchnchfcaaW3
namespace Go.Proofs.Ytjfijhchnchfcaa
open Go.RowKit Sl Fr
namespace Bt
set_option linter.unusedVariables false
set_option linter.unusedSimpArgs false

set_option maxRecDepth 100000 in
theorem v1_any (A : Option Addr) (c : Nat) (L : Nat) (A' : Option Addr) (c' : Nat) (L' : Nat)   (k n : Int) (w : World)  :
    Calls Try.prog 37 #[.agg #[.slice A L c, .int .i64 k, .int .i64 n], .slice A' L' c'] w fun e w' => e = .returned (.int .i64 (k)) ∧ Below w.heap.size w w' := by
  go_enter Try.func37, Try.ntmps37
  go_upto_region 1 with fail
  have hst := start1 w #[.slice A L c, .int .i64 k, .int .i64 n] 63
  generalize w.alloc (.cells #[.slice A L c, .int .i64 k, .int .i64 n] 63) = W at *
  obtain ⟨m, B⟩ := hst
  obtain ⟨q0, q1, q2⟩ := m.l3 (Below.refl _ _)
  refine wp_region_plain ?_
  repeat (go_big_quiet_step (fail))
  refine wpQuiet_nil ?_
  intro _ hw'
  obtain ⟨z, hw''⟩ := hw'
  subst hw''
  go_wp2_with fail
  go_ret
  exact ⟨rfl, B.trans (z.below.mono B.size)⟩

set_option maxRecDepth 100000 in
theorem v2_any (A : Option Addr) (c : Nat) (A' : Option Addr) (c' : Nat)  (a x : Nat) (k n : Int) (w : World) (hA : ArrI w A [(a : Int)]) (hA' : ArrI w A' [(x : Int)]) (ha : 1 ≤ a ∧ a ≤ 8) (hx : x < 2 ^ a) :
    Calls Try.prog 39 #[.agg #[.slice A 1 c, .int .i64 k, .int .i64 n], .slice A' 1 c'] w fun e w' => e = .returned (.int .i64 (((2 ^ a - 1 - x : Nat) : Int))) ∧ Below w.heap.size w w' := by
  obtain ⟨b0, o0, hb0⟩ := hA.open
  obtain ⟨rfl, hl0, hc0⟩ := hb0 (by simp)
  have c00 : w.cell? ⟨b0, o0, none⟩ = some (.int .i64 (a : Int)) := hc0 0 _ rfl
  clear hA hb0 hc0
  obtain ⟨b1, o1, hb1⟩ := hA'.open
  obtain ⟨rfl, hl1, hc1⟩ := hb1 (by simp)
  have c10 : w.cell? ⟨b1, o1, none⟩ = some (.int .i64 (x : Int)) := hc1 0 _ rfl
  clear hA' hb1 hc1
  have hm := fun w => mask_any (a : Int) w
  rw [mask_nat (by omega)] at hm
  have hx8 := low8 ha.2 hx
  have hq : bits .xor .i64 (x : Int) ((2 : Int) ^ a - 1) = ((2 ^ a - 1 - x : Nat) : Int) := by
    have h1 := not_nat a (by omega) x hx
    have h2 : 2 ^ a ≤ 2 ^ 8 := pow_le ha.2
    have h3 := Nat.two_pow_pos a
    have h4 : (2 : Int) ^ a - 1 = ((2 ^ a - 1 : Nat) : Int) := by rw [Int.natCast_sub h3]; simp
    rw [h4, xor_i64 _ _ (by omega) (by omega), h1]
  generalize ((2 ^ a - 1 - x : Nat) : Int) = r at *
  generalize (2 : Int) ^ a - 1 = mm at *
  clear hx
  go_enter Try.func39, Try.ntmps39
  go_upto_region 1 with fail
  have hst := start1 w #[.slice (some ⟨b0, o0, none⟩) 1 c, .int .i64 k, .int .i64 n] 63
  generalize w.alloc (.cells #[.slice (some ⟨b0, o0, none⟩) 1 c, .int .i64 k, .int .i64 n] 63) = W at *
  obtain ⟨m, B⟩ := hst
  have d00 := fun p : Later W => ((B.trans (p.below.mono B.size)).cell (p := ⟨b0, o0, none⟩) hl0).trans c00
  clear c00
  have d10 := fun p : Later W => ((B.trans (p.below.mono B.size)).cell (p := ⟨b1, o1, none⟩) hl1).trans c10
  clear c10
  obtain ⟨q0, q1, q2⟩ := m.l3 (Below.refl _ _)
  refine wp_region_later (by kernel_rfl) (by kernel_rfl) ?_
  repeat (go_big_quiet_step ((go_at_call 14; with_reducible exact later_same (hm _))))
  refine wpQuiet_nil ?_
  intro _ hw'
  obtain ⟨z, hw''⟩ := hw'
  subst hw''
  go_wp2_with fail
  go_ret
  exact ⟨rfl, B.trans (z.below.mono B.size)⟩

set_option maxRecDepth 100000 in
theorem v3_any (A : Option Addr) (c : Nat) (L : Nat) (A' : Option Addr) (c' : Nat)  (x y : Nat) (k n : Int) (w : World) (hA' : ArrI w A' [(x : Int), (y : Int)]) (hx : x < 256) (hy : y < 256) :
    Calls Try.prog 40 #[.agg #[.slice A L c, .int .i64 k, .int .i64 n], .slice A' 2 c'] w fun e w' => e = .returned (.int .i64 (((x &&& y : Nat) : Int))) ∧ Below w.heap.size w w' := by
  obtain ⟨b1, o1, hb1⟩ := hA'.open
  obtain ⟨rfl, hl1, hc1⟩ := hb1 (by simp)
  have c10 : w.cell? ⟨b1, o1, none⟩ = some (.int .i64 (x : Int)) := hc1 0 _ rfl
  have c11 : w.cell? ⟨b1, o1 + 1, none⟩ = some (.int .i64 (y : Int)) := hc1 1 _ rfl
  clear hA' hb1 hc1
  have hq := and_i64 x y (by omega) (by omega)
  generalize ((x &&& y : Nat) : Int) = r at *
  clear hx hy
  go_enter Try.func40, Try.ntmps40
  go_upto_region 1 with fail
  have hst := start1 w #[.slice A L c, .int .i64 k, .int .i64 n] 63
  generalize w.alloc (.cells #[.slice A L c, .int .i64 k, .int .i64 n] 63) = W at *
  obtain ⟨m, B⟩ := hst
  have d10 := fun p : Later W => ((B.trans (p.below.mono B.size)).cell (p := ⟨b1, o1, none⟩) hl1).trans c10
  have d11 := fun p : Later W => ((B.trans (p.below.mono B.size)).cell (p := ⟨b1, o1 + 1, none⟩) hl1).trans c11
  clear c10 c11
  obtain ⟨q0, q1, q2⟩ := m.l3 (Below.refl _ _)
  refine wp_region_later (by kernel_rfl) (by kernel_rfl) ?_
  repeat (go_big_quiet_step (fail))
  refine wpQuiet_nil ?_
  intro _ hw'
  obtain ⟨z, hw''⟩ := hw'
  subst hw''
  go_wp2_with fail
  go_ret
  exact ⟨rfl, B.trans (z.below.mono B.size)⟩

set_option maxRecDepth 100000 in
theorem v4_any (A : Option Addr) (c : Nat) (L : Nat) (A' : Option Addr) (c' : Nat)  (x y : Nat) (k n : Int) (w : World) (hA' : ArrI w A' [(x : Int), (y : Int)]) (hx : x < 256) (hy : y < 256) :
    Calls Try.prog 41 #[.agg #[.slice A L c, .int .i64 k, .int .i64 n], .slice A' 2 c'] w fun e w' => e = .returned (.int .i64 (((x ||| y : Nat) : Int))) ∧ Below w.heap.size w w' := by
  obtain ⟨b1, o1, hb1⟩ := hA'.open
  obtain ⟨rfl, hl1, hc1⟩ := hb1 (by simp)
  have c10 : w.cell? ⟨b1, o1, none⟩ = some (.int .i64 (x : Int)) := hc1 0 _ rfl
  have c11 : w.cell? ⟨b1, o1 + 1, none⟩ = some (.int .i64 (y : Int)) := hc1 1 _ rfl
  clear hA' hb1 hc1
  have hq := or_i64 x y (by omega) (by omega)
  generalize ((x ||| y : Nat) : Int) = r at *
  clear hx hy
  go_enter Try.func41, Try.ntmps41
  go_upto_region 1 with fail
  have hst := start1 w #[.slice A L c, .int .i64 k, .int .i64 n] 63
  generalize w.alloc (.cells #[.slice A L c, .int .i64 k, .int .i64 n] 63) = W at *
  obtain ⟨m, B⟩ := hst
  have d10 := fun p : Later W => ((B.trans (p.below.mono B.size)).cell (p := ⟨b1, o1, none⟩) hl1).trans c10
  have d11 := fun p : Later W => ((B.trans (p.below.mono B.size)).cell (p := ⟨b1, o1 + 1, none⟩) hl1).trans c11
  clear c10 c11
  obtain ⟨q0, q1, q2⟩ := m.l3 (Below.refl _ _)
  refine wp_region_later (by kernel_rfl) (by kernel_rfl) ?_
  repeat (go_big_quiet_step (fail))
  refine wpQuiet_nil ?_
  intro _ hw'
  obtain ⟨z, hw''⟩ := hw'
  subst hw''
  go_wp2_with fail
  go_ret
  exact ⟨rfl, B.trans (z.below.mono B.size)⟩

set_option maxRecDepth 100000 in
theorem v5_any (A : Option Addr) (c : Nat) (L : Nat) (A' : Option Addr) (c' : Nat)  (x y : Nat) (k n : Int) (w : World) (hA' : ArrI w A' [(x : Int), (y : Int)]) (hx : x < 256) (hy : y < 256) :
    Calls Try.prog 42 #[.agg #[.slice A L c, .int .i64 k, .int .i64 n], .slice A' 2 c'] w fun e w' => e = .returned (.int .i64 (((x ^^^ y : Nat) : Int))) ∧ Below w.heap.size w w' := by
  obtain ⟨b1, o1, hb1⟩ := hA'.open
  obtain ⟨rfl, hl1, hc1⟩ := hb1 (by simp)
  have c10 : w.cell? ⟨b1, o1, none⟩ = some (.int .i64 (x : Int)) := hc1 0 _ rfl
  have c11 : w.cell? ⟨b1, o1 + 1, none⟩ = some (.int .i64 (y : Int)) := hc1 1 _ rfl
  clear hA' hb1 hc1
  have hq := xor_i64 x y (by omega) (by omega)
  generalize ((x ^^^ y : Nat) : Int) = r at *
  clear hx hy
  go_enter Try.func42, Try.ntmps42
  go_upto_region 1 with fail
  have hst := start1 w #[.slice A L c, .int .i64 k, .int .i64 n] 63
  generalize w.alloc (.cells #[.slice A L c, .int .i64 k, .int .i64 n] 63) = W at *
  obtain ⟨m, B⟩ := hst
  have d10 := fun p : Later W => ((B.trans (p.below.mono B.size)).cell (p := ⟨b1, o1, none⟩) hl1).trans c10
  have d11 := fun p : Later W => ((B.trans (p.below.mono B.size)).cell (p := ⟨b1, o1 + 1, none⟩) hl1).trans c11
  clear c10 c11
  obtain ⟨q0, q1, q2⟩ := m.l3 (Below.refl _ _)
  refine wp_region_later (by kernel_rfl) (by kernel_rfl) ?_
  repeat (go_big_quiet_step (fail))
  refine wpQuiet_nil ?_
  intro _ hw'
  obtain ⟨z, hw''⟩ := hw'
  subst hw''
  go_wp2_with fail
  go_ret
  exact ⟨rfl, B.trans (z.below.mono B.size)⟩

set_option maxRecDepth 100000 in
theorem v6_any (A : Option Addr) (c : Nat) (A' : Option Addr) (c' : Nat)  (a x y : Nat) (d : Int) (k n : Int) (w : World) (hA : ArrI w A [(a : Int), (d : Int)]) (hA' : ArrI w A' [(x : Int), (y : Int)]) (ha : 1 ≤ a ∧ a ≤ 8) (hx : x < 256) (hy : y < 256) :
    Calls Try.prog 43 #[.agg #[.slice A 2 c, .int .i64 k, .int .i64 n], .slice A' 2 c'] w fun e w' => e = .returned (.int .i64 ((((x + y) % 2 ^ a : Nat) : Int))) ∧ Below w.heap.size w w' := by
  obtain ⟨b0, o0, hb0⟩ := hA.open
  obtain ⟨rfl, hl0, hc0⟩ := hb0 (by simp)
  have c00 : w.cell? ⟨b0, o0, none⟩ = some (.int .i64 (a : Int)) := hc0 0 _ rfl
  have c01 : w.cell? ⟨b0, o0 + 1, none⟩ = some (.int .i64 (d : Int)) := hc0 1 _ rfl
  clear hA hb0 hc0
  obtain ⟨b1, o1, hb1⟩ := hA'.open
  obtain ⟨rfl, hl1, hc1⟩ := hb1 (by simp)
  have c10 : w.cell? ⟨b1, o1, none⟩ = some (.int .i64 (x : Int)) := hc1 0 _ rfl
  have c11 : w.cell? ⟨b1, o1 + 1, none⟩ = some (.int .i64 (y : Int)) := hc1 1 _ rfl
  clear hA' hb1 hc1
  have hm := fun w => mask_any (a : Int) w
  rw [mask_nat (by omega)] at hm
  have hq : bits .and .i64 ((x : Int) + (y : Int)) ((2 : Int) ^ a - 1) = (((x + y) % 2 ^ a : Nat) : Int) := by rw [and_mask _ _ (by omega)]; simp
  generalize (((x + y) % 2 ^ a : Nat) : Int) = r at *
  generalize (2 : Int) ^ a - 1 = mm at *
  go_enter Try.func43, Try.ntmps43
  go_upto_region 1 with fail
  have hst := start1 w #[.slice (some ⟨b0, o0, none⟩) 2 c, .int .i64 k, .int .i64 n] 63
  generalize w.alloc (.cells #[.slice (some ⟨b0, o0, none⟩) 2 c, .int .i64 k, .int .i64 n] 63) = W at *
  obtain ⟨m, B⟩ := hst
  have d00 := fun p : Later W => ((B.trans (p.below.mono B.size)).cell (p := ⟨b0, o0, none⟩) hl0).trans c00
  have d01 := fun p : Later W => ((B.trans (p.below.mono B.size)).cell (p := ⟨b0, o0 + 1, none⟩) hl0).trans c01
  clear c00 c01
  have d10 := fun p : Later W => ((B.trans (p.below.mono B.size)).cell (p := ⟨b1, o1, none⟩) hl1).trans c10
  have d11 := fun p : Later W => ((B.trans (p.below.mono B.size)).cell (p := ⟨b1, o1 + 1, none⟩) hl1).trans c11
  clear c10 c11
  obtain ⟨q0, q1, q2⟩ := m.l3 (Below.refl _ _)
  refine wp_region_later (by kernel_rfl) (by kernel_rfl) ?_
  repeat (go_big_quiet_step ((go_at_call 14; with_reducible exact later_same (hm _))))
  refine wpQuiet_nil ?_
  intro _ hw'
  obtain ⟨z, hw''⟩ := hw'
  subst hw''
  go_wp2_with fail
  go_ret
  exact ⟨rfl, B.trans (z.below.mono B.size)⟩

set_option maxRecDepth 100000 in
theorem v7_any (A : Option Addr) (c : Nat) (A' : Option Addr) (c' : Nat)  (a x y : Nat) (d : Int) (k n : Int) (w : World) (hA : ArrI w A [(a : Int), (d : Int)]) (hA' : ArrI w A' [(x : Int), (y : Int)]) (ha : 1 ≤ a ∧ a ≤ 8) (hx : x < 2 ^ a) (hy : y < 2 ^ a) :
    Calls Try.prog 44 #[.agg #[.slice A 2 c, .int .i64 k, .int .i64 n], .slice A' 2 c'] w fun e w' => e = .returned (.int .i64 ((((x + 2 ^ a - y) % 2 ^ a : Nat) : Int))) ∧ Below w.heap.size w w' := by
  obtain ⟨b0, o0, hb0⟩ := hA.open
  obtain ⟨rfl, hl0, hc0⟩ := hb0 (by simp)
  have c00 : w.cell? ⟨b0, o0, none⟩ = some (.int .i64 (a : Int)) := hc0 0 _ rfl
  have c01 : w.cell? ⟨b0, o0 + 1, none⟩ = some (.int .i64 (d : Int)) := hc0 1 _ rfl
  clear hA hb0 hc0
  obtain ⟨b1, o1, hb1⟩ := hA'.open
  obtain ⟨rfl, hl1, hc1⟩ := hb1 (by simp)
  have c10 : w.cell? ⟨b1, o1, none⟩ = some (.int .i64 (x : Int)) := hc1 0 _ rfl
  have c11 : w.cell? ⟨b1, o1 + 1, none⟩ = some (.int .i64 (y : Int)) := hc1 1 _ rfl
  clear hA' hb1 hc1
  have hm := fun w => mask_any (a : Int) w
  rw [mask_nat (by omega)] at hm
  have hx8 := low8 ha.2 hx
  have hy8 := low8 ha.2 hy
  have hq : bits .and .i64 ((x : Int) - (y : Int)) ((2 : Int) ^ a - 1) = (((x + 2 ^ a - y) % 2 ^ a : Nat) : Int) := by
    rw [and_mask _ _ (by omega), Int.natCast_emod, Int.natCast_sub (by omega)]
    simp only [Int.natCast_add, Int.natCast_pow, Int.cast_ofNat_Int]
    rw [show (x : Int) + 2 ^ a - (y : Int) = (x : Int) - (y : Int) + 2 ^ a by omega, Int.add_emod_right]
  generalize (((x + 2 ^ a - y) % 2 ^ a : Nat) : Int) = r at *
  generalize (2 : Int) ^ a - 1 = mm at *
  clear hx hy
  go_enter Try.func44, Try.ntmps44
  go_upto_region 1 with fail
  have hst := start1 w #[.slice (some ⟨b0, o0, none⟩) 2 c, .int .i64 k, .int .i64 n] 63
  generalize w.alloc (.cells #[.slice (some ⟨b0, o0, none⟩) 2 c, .int .i64 k, .int .i64 n] 63) = W at *
  obtain ⟨m, B⟩ := hst
  have d00 := fun p : Later W => ((B.trans (p.below.mono B.size)).cell (p := ⟨b0, o0, none⟩) hl0).trans c00
  have d01 := fun p : Later W => ((B.trans (p.below.mono B.size)).cell (p := ⟨b0, o0 + 1, none⟩) hl0).trans c01
  clear c00 c01
  have d10 := fun p : Later W => ((B.trans (p.below.mono B.size)).cell (p := ⟨b1, o1, none⟩) hl1).trans c10
  have d11 := fun p : Later W => ((B.trans (p.below.mono B.size)).cell (p := ⟨b1, o1 + 1, none⟩) hl1).trans c11
  clear c10 c11
  obtain ⟨q0, q1, q2⟩ := m.l3 (Below.refl _ _)
  refine wp_region_later (by kernel_rfl) (by kernel_rfl) ?_
  repeat (go_big_quiet_step ((go_at_call 14; with_reducible exact later_same (hm _))))
  refine wpQuiet_nil ?_
  intro _ hw'
  obtain ⟨z, hw''⟩ := hw'
  subst hw''
  go_wp2_with fail
  go_ret
  exact ⟨rfl, B.trans (z.below.mono B.size)⟩

set_option maxRecDepth 100000 in
theorem v8_any (A : Option Addr) (c : Nat) (L : Nat) (A' : Option Addr) (c' : Nat)  (x y : Nat) (k n : Int) (w : World) (hA' : ArrI w A' [(x : Int), (y : Int)]) (hx : x < 256) (hy : y < 256) :
    Calls Try.prog 46 #[.agg #[.slice A L c, .int .i64 k, .int .i64 n], .slice A' 2 c'] w fun e w' => e = .returned (.int .i64 (((if x = y then 1 else 0 : Nat) : Int))) ∧ Below w.heap.size w w' := by
  obtain ⟨b1, o1, hb1⟩ := hA'.open
  obtain ⟨rfl, hl1, hc1⟩ := hb1 (by simp)
  have c10 : w.cell? ⟨b1, o1, none⟩ = some (.int .i64 (x : Int)) := hc1 0 _ rfl
  have c11 : w.cell? ⟨b1, o1 + 1, none⟩ = some (.int .i64 (y : Int)) := hc1 1 _ rfl
  clear hA' hb1 hc1
  have hm := fun b w => truth_any b w
  have hq : (if ((x : Int) == (y : Int)) then (1 : Int) else 0) = ((if x = y then 1 else 0 : Nat) : Int) := by
    by_cases h : x = y
    · subst h; simp
    · have h2 : ¬ (x : Int) = (y : Int) := by omega
      simp [h, h2]
  rw [← hq]
  have hm2 := fun w => hm (((x : Int) == (y : Int))) w
  clear hm hq
  generalize (if ((x : Int) == (y : Int)) then (1 : Int) else 0) = r at *
  go_enter Try.func46, Try.ntmps46
  go_upto_region 1 with fail
  have hst := start1 w #[.slice A L c, .int .i64 k, .int .i64 n] 63
  generalize w.alloc (.cells #[.slice A L c, .int .i64 k, .int .i64 n] 63) = W at *
  obtain ⟨m, B⟩ := hst
  have d10 := fun p : Later W => ((B.trans (p.below.mono B.size)).cell (p := ⟨b1, o1, none⟩) hl1).trans c10
  have d11 := fun p : Later W => ((B.trans (p.below.mono B.size)).cell (p := ⟨b1, o1 + 1, none⟩) hl1).trans c11
  clear c10 c11
  obtain ⟨q0, q1, q2⟩ := m.l3 (Below.refl _ _)
  refine wp_region_later (by kernel_rfl) (by kernel_rfl) ?_
  repeat (go_big_quiet_step ((go_at_call 35; with_reducible exact later_same (hm2 _))))
  refine wpQuiet_nil ?_
  intro _ hw'
  obtain ⟨z, hw''⟩ := hw'
  subst hw''
  go_wp2_with fail
  go_ret
  exact ⟨rfl, B.trans (z.below.mono B.size)⟩

set_option maxRecDepth 100000 in
theorem v9_any (A : Option Addr) (c : Nat) (L : Nat) (A' : Option Addr) (c' : Nat)  (x y : Nat) (k n : Int) (w : World) (hA' : ArrI w A' [(x : Int), (y : Int)]) (hx : x < 256) (hy : y < 256) :
    Calls Try.prog 47 #[.agg #[.slice A L c, .int .i64 k, .int .i64 n], .slice A' 2 c'] w fun e w' => e = .returned (.int .i64 (((if x < y then 1 else 0 : Nat) : Int))) ∧ Below w.heap.size w w' := by
  obtain ⟨b1, o1, hb1⟩ := hA'.open
  obtain ⟨rfl, hl1, hc1⟩ := hb1 (by simp)
  have c10 : w.cell? ⟨b1, o1, none⟩ = some (.int .i64 (x : Int)) := hc1 0 _ rfl
  have c11 : w.cell? ⟨b1, o1 + 1, none⟩ = some (.int .i64 (y : Int)) := hc1 1 _ rfl
  clear hA' hb1 hc1
  have hm := fun b w => truth_any b w
  have hq : (if decide (x < y) then (1 : Int) else 0) = ((if x < y then 1 else 0 : Nat) : Int) := by by_cases h : x < y <;> simp [h]
  rw [← hq]
  have hm2 := fun w => hm (decide (x < y)) w
  clear hm hq
  generalize (if decide (x < y) then (1 : Int) else 0) = r at *
  go_enter Try.func47, Try.ntmps47
  go_upto_region 1 with fail
  have hst := start1 w #[.slice A L c, .int .i64 k, .int .i64 n] 63
  generalize w.alloc (.cells #[.slice A L c, .int .i64 k, .int .i64 n] 63) = W at *
  obtain ⟨m, B⟩ := hst
  have d10 := fun p : Later W => ((B.trans (p.below.mono B.size)).cell (p := ⟨b1, o1, none⟩) hl1).trans c10
  have d11 := fun p : Later W => ((B.trans (p.below.mono B.size)).cell (p := ⟨b1, o1 + 1, none⟩) hl1).trans c11
  clear c10 c11
  obtain ⟨q0, q1, q2⟩ := m.l3 (Below.refl _ _)
  refine wp_region_later (by kernel_rfl) (by kernel_rfl) ?_
  repeat (go_big_quiet_step ((go_at_call 35; with_reducible exact later_same (hm2 _))))
  refine wpQuiet_nil ?_
  intro _ hw'
  obtain ⟨z, hw''⟩ := hw'
  subst hw''
  go_wp2_with fail
  go_ret
  exact ⟨rfl, B.trans (z.below.mono B.size)⟩

set_option maxRecDepth 100000 in
theorem v10_any (A : Option Addr) (c : Nat) (L : Nat) (A' : Option Addr) (c' : Nat)  (x y u : Nat) (k n : Int) (w : World) (hA' : ArrI w A' [(x : Int), (y : Int), (u : Int)])  :
    Calls Try.prog 49 #[.agg #[.slice A L c, .int .i64 k, .int .i64 n], .slice A' 3 c'] w fun e w' => e = .returned (.int .i64 (((if x = 1 then y else u : Nat) : Int))) ∧ Below w.heap.size w w' := by
  obtain ⟨b1, o1, hb1⟩ := hA'.open
  obtain ⟨rfl, hl1, hc1⟩ := hb1 (by simp)
  have c10 : w.cell? ⟨b1, o1, none⟩ = some (.int .i64 (x : Int)) := hc1 0 _ rfl
  have c11 : w.cell? ⟨b1, o1 + 1, none⟩ = some (.int .i64 (y : Int)) := hc1 1 _ rfl
  have c12 : w.cell? ⟨b1, o1 + 2, none⟩ = some (.int .i64 (u : Int)) := hc1 2 _ rfl
  clear hA' hb1 hc1
  have hm := fun w => chosen_any ((x : Int) == 1) (y : Int) (u : Int) w
  have hq : (if ((x : Int) == 1) then (y : Int) else (u : Int)) = ((if x = 1 then y else u : Nat) : Int) := by
    by_cases h : x = 1
    · subst h; rfl
    · have e1 : ((x : Int) == 1) = false := by simp; omega
      rw [e1, if_neg h]; rfl
  rw [← hq]
  clear hq
  generalize (if ((x : Int) == 1) then (y : Int) else (u : Int)) = r at *
  go_enter Try.func49, Try.ntmps49
  go_upto_region 1 with fail
  have hst := start1 w #[.slice A L c, .int .i64 k, .int .i64 n] 63
  generalize w.alloc (.cells #[.slice A L c, .int .i64 k, .int .i64 n] 63) = W at *
  obtain ⟨m, B⟩ := hst
  have d10 := fun p : Later W => ((B.trans (p.below.mono B.size)).cell (p := ⟨b1, o1, none⟩) hl1).trans c10
  have d11 := fun p : Later W => ((B.trans (p.below.mono B.size)).cell (p := ⟨b1, o1 + 1, none⟩) hl1).trans c11
  have d12 := fun p : Later W => ((B.trans (p.below.mono B.size)).cell (p := ⟨b1, o1 + 2, none⟩) hl1).trans c12
  clear c10 c11 c12
  obtain ⟨q0, q1, q2⟩ := m.l3 (Below.refl _ _)
  refine wp_region_later (by kernel_rfl) (by kernel_rfl) ?_
  repeat (go_big_quiet_step ((go_at_call 50; with_reducible exact later_same (hm _))))
  refine wpQuiet_nil ?_
  intro _ hw'
  obtain ⟨z, hw''⟩ := hw'
  subst hw''
  go_wp2_with fail
  go_ret
  exact ⟨rfl, B.trans (z.below.mono B.size)⟩

set_option maxRecDepth 100000 in
theorem v11_any (A : Option Addr) (c : Nat) (A' : Option Addr) (c' : Nat)  (a d x y : Nat) (k n : Int) (w : World) (hA : ArrI w A [(a : Int), (d : Int)]) (hA' : ArrI w A' [(x : Int), (y : Int)]) (ha : 1 ≤ d ∧ d ≤ 8) (hx : x < 256) (hy : y < 2 ^ d) :
    Calls Try.prog 52 #[.agg #[.slice A 2 c, .int .i64 k, .int .i64 n], .slice A' 2 c'] w fun e w' => e = .returned (.int .i64 (((x * 2 ^ d + y : Nat) : Int))) ∧ Below w.heap.size w w' := by
  obtain ⟨b0, o0, hb0⟩ := hA.open
  obtain ⟨rfl, hl0, hc0⟩ := hb0 (by simp)
  have c00 : w.cell? ⟨b0, o0, none⟩ = some (.int .i64 (a : Int)) := hc0 0 _ rfl
  have c01 : w.cell? ⟨b0, o0 + 1, none⟩ = some (.int .i64 (d : Int)) := hc0 1 _ rfl
  clear hA hb0 hc0
  obtain ⟨b1, o1, hb1⟩ := hA'.open
  obtain ⟨rfl, hl1, hc1⟩ := hb1 (by simp)
  have c10 : w.cell? ⟨b1, o1, none⟩ = some (.int .i64 (x : Int)) := hc1 0 _ rfl
  have c11 : w.cell? ⟨b1, o1 + 1, none⟩ = some (.int .i64 (y : Int)) := hc1 1 _ rfl
  clear hA' hb1 hc1
  have hy8 := low8 ha.2 hy
  have hq : bits .or .i64 ((x : Int) * 2 ^ d) (y : Int) = ((x * 2 ^ d + y : Nat) : Int) := by
    have h2 : 2 ^ d ≤ 2 ^ 8 := pow_le ha.2
    have h3 : x * 2 ^ d ≤ 256 * 2 ^ 8 := Nat.mul_le_mul (by omega) h2
    have := or_i64 (x * 2 ^ d) y (by omega) (by omega)
    rw [cat_or x y d hy] at this
    rw [← this]; simp
  have hz : 0 ≤ (x : Int) * 2 ^ d ∧ (x : Int) * 2 ^ d ≤ 65536 := by
    have h2 : 2 ^ d ≤ 2 ^ 8 := pow_le ha.2
    have h3 : x * 2 ^ d ≤ 256 * 2 ^ 8 := Nat.mul_le_mul (by omega) h2
    have h4 : (x : Int) * 2 ^ d = ((x * 2 ^ d : Nat) : Int) := by simp
    rw [h4]; omega
  generalize ((x * 2 ^ d + y : Nat) : Int) = r at *
  clear hy
  go_enter Try.func52, Try.ntmps52
  go_upto_region 1 with fail
  have hst := start1 w #[.slice (some ⟨b0, o0, none⟩) 2 c, .int .i64 k, .int .i64 n] 63
  generalize w.alloc (.cells #[.slice (some ⟨b0, o0, none⟩) 2 c, .int .i64 k, .int .i64 n] 63) = W at *
  obtain ⟨m, B⟩ := hst
  have d00 := fun p : Later W => ((B.trans (p.below.mono B.size)).cell (p := ⟨b0, o0, none⟩) hl0).trans c00
  have d01 := fun p : Later W => ((B.trans (p.below.mono B.size)).cell (p := ⟨b0, o0 + 1, none⟩) hl0).trans c01
  clear c00 c01
  have d10 := fun p : Later W => ((B.trans (p.below.mono B.size)).cell (p := ⟨b1, o1, none⟩) hl1).trans c10
  have d11 := fun p : Later W => ((B.trans (p.below.mono B.size)).cell (p := ⟨b1, o1 + 1, none⟩) hl1).trans c11
  clear c10 c11
  obtain ⟨q0, q1, q2⟩ := m.l3 (Below.refl _ _)
  refine wp_region_later (by kernel_rfl) (by kernel_rfl) ?_
  repeat (go_big_quiet_step (fail))
  refine wpQuiet_nil ?_
  intro _ hw'
  obtain ⟨z, hw''⟩ := hw'
  subst hw''
  go_wp2_with fail
  go_ret
  exact ⟨rfl, B.trans (z.below.mono B.size)⟩

set_option maxRecDepth 100000 in
theorem v12_any (A : Option Addr) (c : Nat) (A' : Option Addr) (c' : Nat)  (a x kk nn : Nat)  (w : World) (hA : ArrI w A [(a : Int)]) (hA' : ArrI w A' [(x : Int)]) (hx : x < 256) (hk8 : kk ≤ 8) (hn8 : 1 ≤ nn ∧ nn ≤ 8) :
    Calls Try.prog 54 #[.agg #[.slice A 1 c, .int .i64 (kk : Int), .int .i64 (nn : Int)], .slice A' 1 c'] w fun e w' => e = .returned (.int .i64 (((x / 2 ^ kk % 2 ^ nn : Nat) : Int))) ∧ Below w.heap.size w w' := by
  obtain ⟨b0, o0, hb0⟩ := hA.open
  obtain ⟨rfl, hl0, hc0⟩ := hb0 (by simp)
  have c00 : w.cell? ⟨b0, o0, none⟩ = some (.int .i64 (a : Int)) := hc0 0 _ rfl
  clear hA hb0 hc0
  obtain ⟨b1, o1, hb1⟩ := hA'.open
  obtain ⟨rfl, hl1, hc1⟩ := hb1 (by simp)
  have c10 : w.cell? ⟨b1, o1, none⟩ = some (.int .i64 (x : Int)) := hc1 0 _ rfl
  clear hA' hb1 hc1
  have hm := fun w => mask_any (nn : Int) w
  rw [mask_nat (by omega)] at hm
  have hq : bits .and .i64 ((x : Int) / 2 ^ kk) ((2 : Int) ^ nn - 1) = ((x / 2 ^ kk % 2 ^ nn : Nat) : Int) := by
    rw [and_mask _ _ (by omega)]; simp
  generalize ((x / 2 ^ kk % 2 ^ nn : Nat) : Int) = r at *
  generalize (2 : Int) ^ nn - 1 = mm at *
  go_enter Try.func54, Try.ntmps54
  go_upto_region 1 with fail
  have hst := start1 w #[.slice (some ⟨b0, o0, none⟩) 1 c, .int .i64 (kk : Int), .int .i64 (nn : Int)] 63
  generalize w.alloc (.cells #[.slice (some ⟨b0, o0, none⟩) 1 c, .int .i64 (kk : Int), .int .i64 (nn : Int)] 63) = W at *
  obtain ⟨m, B⟩ := hst
  have d00 := fun p : Later W => ((B.trans (p.below.mono B.size)).cell (p := ⟨b0, o0, none⟩) hl0).trans c00
  clear c00
  have d10 := fun p : Later W => ((B.trans (p.below.mono B.size)).cell (p := ⟨b1, o1, none⟩) hl1).trans c10
  clear c10
  obtain ⟨q0, q1, q2⟩ := m.l3 (Below.refl _ _)
  refine wp_region_later (by kernel_rfl) (by kernel_rfl) ?_
  repeat (go_big_quiet_step ((go_at_call 14; with_reducible exact later_same (hm _))))
  refine wpQuiet_nil ?_
  intro _ hw'
  obtain ⟨z, hw''⟩ := hw'
  subst hw''
  go_wp2_with fail
  go_ret
  exact ⟨rfl, B.trans (z.below.mono B.size)⟩

set_option maxRecDepth 100000 in
theorem v13_any (A : Option Addr) (c : Nat) (L : Nat) (A' : Option Addr) (c' : Nat)  (x : Nat) (k n : Int) (w : World) (hA' : ArrI w A' [(x : Int)])  :
    Calls Try.prog 56 #[.agg #[.slice A L c, .int .i64 k, .int .i64 n], .slice A' 1 c'] w fun e w' => e = .returned (.int .i64 ((x : Int))) ∧ Below w.heap.size w w' := by
  obtain ⟨b1, o1, hb1⟩ := hA'.open
  obtain ⟨rfl, hl1, hc1⟩ := hb1 (by simp)
  have c10 : w.cell? ⟨b1, o1, none⟩ = some (.int .i64 (x : Int)) := hc1 0 _ rfl
  clear hA' hb1 hc1
  go_enter Try.func56, Try.ntmps56
  go_upto_region 1 with fail
  have hst := start1 w #[.slice A L c, .int .i64 k, .int .i64 n] 63
  generalize w.alloc (.cells #[.slice A L c, .int .i64 k, .int .i64 n] 63) = W at *
  obtain ⟨m, B⟩ := hst
  have d10 := fun p : Later W => ((B.trans (p.below.mono B.size)).cell (p := ⟨b1, o1, none⟩) hl1).trans c10
  clear c10
  obtain ⟨q0, q1, q2⟩ := m.l3 (Below.refl _ _)
  refine wp_region_plain ?_
  repeat (go_big_quiet_step (fail))
  refine wpQuiet_nil ?_
  intro _ hw'
  obtain ⟨z, hw''⟩ := hw'
  subst hw''
  go_wp2_with fail
  go_ret
  exact ⟨rfl, B.trans (z.below.mono B.size)⟩


end Bt
end Go.Proofs.Ytjfijhchnchfcaa
