/- The reference's values. -/
import Derived.Test.YtjfijhchnchfcaaV1
namespace Go.Proofs.Ytjfijhchnchfcaa
open Go.RowKit Sl Fr
namespace Bt
set_option linter.unusedVariables false
set_option linter.unusedSimpArgs false

set_option maxRecDepth 100000 in
theorem rv2 (A' : Option Addr) (c' : Nat) (a x : Nat) (d : Int) (w : World) (hA' : ArrI w A' [(x : Int)]) (ha : 1 ≤ a ∧ a ≤ 8) (hx : x < 2 ^ a) :
    Calls Try.prog 33 #[.int .i64 2, .agg #[.int .i64 (a : Int), .int .i64 d], .slice A' 1 c'] w fun e w' => e = .returned (.int .i64 (((2 ^ a - 1 - x : Nat) : Int))) ∧ Below w.heap.size w w' := by
  obtain ⟨b1, o1, hb1⟩ := hA'.open
  obtain ⟨rfl, hl1, hc1⟩ := hb1 (by simp)
  have c0 : w.cell? ⟨b1, o1, none⟩ = some (.int .i64 (x : Int)) := hc1 0 _ rfl
  clear hA' hb1 hc1
  have hM := fun w => rmask_any (a : Int) w
  rw [mask_nat (by omega)] at hM
  have e2 : (2 : Int) ^ a = ((2 ^ a : Nat) : Int) := by simp
  have hp8 : 2 ^ a ≤ 2 ^ 8 := pow_le ha.2
  have hp0 := Nat.two_pow_pos a
  have hq : (2 : Int) ^ a - 1 - (x : Int) = ((2 ^ a - 1 - x : Nat) : Int) := by rw [e2]; omega
  have hr : 2 ^ a - 1 - x ≤ 256 := by omega
  have hq2 : (2 : Int) ^ a - 1 ≤ 256 ∧ 0 ≤ (2 : Int) ^ a - 1 := by rw [e2]; omega
  clear e2 hp8 hp0
  have hx8 := low8 ha.2 hx
  clear hx
  generalize 2 ^ a - 1 - x = r at *
  generalize (2 : Int) ^ a - 1 = mm at *
  go_enter Try.func33, Try.ntmps33
  go_upto_region 1 with fail
  have hst := start1 w #[.int .i64 (a : Int), .int .i64 d] 23
  generalize w.alloc (.cells #[.int .i64 (a : Int), .int .i64 d] 23) = W at *
  obtain ⟨m, B⟩ := hst
  obtain ⟨k0, k1⟩ := m.c2
  go_upto_region 4 with (go_at_call 15; refine (hM _).mono ?_; rintro e w' ⟨rfl, rfl⟩)
  clear k0 k1
  have d0 := (B.cell (p := ⟨b1, o1, none⟩) hl1).trans c0
  have hlw := B.size
  clear c0
  go_wp2_with fail
  go_ret
  exact ⟨rfl, B⟩

set_option maxRecDepth 100000 in
theorem rv3 (A' : Option Addr) (c' : Nat) (a x y : Nat) (d : Int) (w : World) (hA' : ArrI w A' [(x : Int), (y : Int)]) (ha : 1 ≤ a ∧ a ≤ 8) (hx : x < 256) (hy : y < 256) :
    Calls Try.prog 33 #[.int .i64 3, .agg #[.int .i64 (a : Int), .int .i64 d], .slice A' 2 c'] w fun e w' => e = .returned (.int .i64 (((x &&& y : Nat) : Int))) ∧ Below w.heap.size w w' := by
  obtain ⟨b1, o1, hb1⟩ := hA'.open
  obtain ⟨rfl, hl1, hc1⟩ := hb1 (by simp)
  have c0 : w.cell? ⟨b1, o1, none⟩ = some (.int .i64 (x : Int)) := hc1 0 _ rfl
  have c1 : w.cell? ⟨b1, o1 + 1, none⟩ = some (.int .i64 (y : Int)) := hc1 1 _ rfl
  clear hA' hb1 hc1
  have hM := fun w => rmask_any (a : Int) w
  rw [mask_nat (by omega)] at hM
  have hq := and_i64 x y (by omega) (by omega)
  generalize ((x &&& y : Nat) : Int) = r at *
  generalize (2 : Int) ^ a - 1 = mm at *
  clear hx hy
  go_enter Try.func33, Try.ntmps33
  go_upto_region 1 with fail
  have hst := start1 w #[.int .i64 (a : Int), .int .i64 d] 23
  generalize w.alloc (.cells #[.int .i64 (a : Int), .int .i64 d] 23) = W at *
  obtain ⟨m, B⟩ := hst
  obtain ⟨k0, k1⟩ := m.c2
  go_upto_region 6 with (go_at_call 15; refine (hM _).mono ?_; rintro e w' ⟨rfl, rfl⟩)
  clear k0 k1
  have d0 := fun p : Later W => ((B.trans (p.below.mono B.size)).cell (p := ⟨b1, o1, none⟩) hl1).trans c0
  have d1 := fun p : Later W => ((B.trans (p.below.mono B.size)).cell (p := ⟨b1, o1 + 1, none⟩) hl1).trans c1
  clear c0 c1
  refine wp_region_later (by kernel_rfl) (by kernel_rfl) ?_
  repeat (go_big_quiet_step (fail))
  refine wpQuiet_nil ?_
  intro _ hw'
  obtain ⟨z, hw''⟩ := hw'
  subst hw''
  go_wp2_with fail
  go_ret
  exact ⟨rfl, B.trans (z.below.mono B.size)⟩

set_option maxRecDepth 100000 in
theorem rv4 (A' : Option Addr) (c' : Nat) (a x y : Nat) (d : Int) (w : World) (hA' : ArrI w A' [(x : Int), (y : Int)]) (ha : 1 ≤ a ∧ a ≤ 8) (hx : x < 256) (hy : y < 256) :
    Calls Try.prog 33 #[.int .i64 4, .agg #[.int .i64 (a : Int), .int .i64 d], .slice A' 2 c'] w fun e w' => e = .returned (.int .i64 (((x ||| y : Nat) : Int))) ∧ Below w.heap.size w w' := by
  obtain ⟨b1, o1, hb1⟩ := hA'.open
  obtain ⟨rfl, hl1, hc1⟩ := hb1 (by simp)
  have c0 : w.cell? ⟨b1, o1, none⟩ = some (.int .i64 (x : Int)) := hc1 0 _ rfl
  have c1 : w.cell? ⟨b1, o1 + 1, none⟩ = some (.int .i64 (y : Int)) := hc1 1 _ rfl
  clear hA' hb1 hc1
  have hM := fun w => rmask_any (a : Int) w
  rw [mask_nat (by omega)] at hM
  have hq := or_i64 x y (by omega) (by omega)
  generalize ((x ||| y : Nat) : Int) = r at *
  generalize (2 : Int) ^ a - 1 = mm at *
  clear hx hy
  go_enter Try.func33, Try.ntmps33
  go_upto_region 1 with fail
  have hst := start1 w #[.int .i64 (a : Int), .int .i64 d] 23
  generalize w.alloc (.cells #[.int .i64 (a : Int), .int .i64 d] 23) = W at *
  obtain ⟨m, B⟩ := hst
  obtain ⟨k0, k1⟩ := m.c2
  go_upto_region 8 with (go_at_call 15; refine (hM _).mono ?_; rintro e w' ⟨rfl, rfl⟩)
  clear k0 k1
  have d0 := fun p : Later W => ((B.trans (p.below.mono B.size)).cell (p := ⟨b1, o1, none⟩) hl1).trans c0
  have d1 := fun p : Later W => ((B.trans (p.below.mono B.size)).cell (p := ⟨b1, o1 + 1, none⟩) hl1).trans c1
  clear c0 c1
  refine wp_region_later (by kernel_rfl) (by kernel_rfl) ?_
  repeat (go_big_quiet_step (fail))
  refine wpQuiet_nil ?_
  intro _ hw'
  obtain ⟨z, hw''⟩ := hw'
  subst hw''
  go_wp2_with fail
  go_ret
  exact ⟨rfl, B.trans (z.below.mono B.size)⟩

set_option maxRecDepth 100000 in
theorem rv5 (A' : Option Addr) (c' : Nat) (a x y : Nat) (d : Int) (w : World) (hA' : ArrI w A' [(x : Int), (y : Int)]) (ha : 1 ≤ a ∧ a ≤ 8) (hx : x < 256) (hy : y < 256) :
    Calls Try.prog 33 #[.int .i64 5, .agg #[.int .i64 (a : Int), .int .i64 d], .slice A' 2 c'] w fun e w' => e = .returned (.int .i64 (((x ^^^ y : Nat) : Int))) ∧ Below w.heap.size w w' := by
  obtain ⟨b1, o1, hb1⟩ := hA'.open
  obtain ⟨rfl, hl1, hc1⟩ := hb1 (by simp)
  have c0 : w.cell? ⟨b1, o1, none⟩ = some (.int .i64 (x : Int)) := hc1 0 _ rfl
  have c1 : w.cell? ⟨b1, o1 + 1, none⟩ = some (.int .i64 (y : Int)) := hc1 1 _ rfl
  clear hA' hb1 hc1
  have hM := fun w => rmask_any (a : Int) w
  rw [mask_nat (by omega)] at hM
  have hq := xor_i64 x y (by omega) (by omega)
  generalize ((x ^^^ y : Nat) : Int) = r at *
  generalize (2 : Int) ^ a - 1 = mm at *
  clear hx hy
  go_enter Try.func33, Try.ntmps33
  go_upto_region 1 with fail
  have hst := start1 w #[.int .i64 (a : Int), .int .i64 d] 23
  generalize w.alloc (.cells #[.int .i64 (a : Int), .int .i64 d] 23) = W at *
  obtain ⟨m, B⟩ := hst
  obtain ⟨k0, k1⟩ := m.c2
  go_upto_region 10 with (go_at_call 15; refine (hM _).mono ?_; rintro e w' ⟨rfl, rfl⟩)
  clear k0 k1
  have d0 := fun p : Later W => ((B.trans (p.below.mono B.size)).cell (p := ⟨b1, o1, none⟩) hl1).trans c0
  have d1 := fun p : Later W => ((B.trans (p.below.mono B.size)).cell (p := ⟨b1, o1 + 1, none⟩) hl1).trans c1
  clear c0 c1
  refine wp_region_later (by kernel_rfl) (by kernel_rfl) ?_
  repeat (go_big_quiet_step (fail))
  refine wpQuiet_nil ?_
  intro _ hw'
  obtain ⟨z, hw''⟩ := hw'
  subst hw''
  go_wp2_with fail
  go_ret
  exact ⟨rfl, B.trans (z.below.mono B.size)⟩

set_option maxRecDepth 100000 in
theorem rv6 (A' : Option Addr) (c' : Nat) (a x y : Nat) (d : Int) (w : World) (hA' : ArrI w A' [(x : Int), (y : Int)]) (ha : 1 ≤ a ∧ a ≤ 8) (hx : x < 256) (hy : y < 256) :
    Calls Try.prog 33 #[.int .i64 6, .agg #[.int .i64 (a : Int), .int .i64 d], .slice A' 2 c'] w fun e w' => e = .returned (.int .i64 ((((x + y) % 2 ^ a : Nat) : Int))) ∧ Below w.heap.size w w' := by
  obtain ⟨b1, o1, hb1⟩ := hA'.open
  obtain ⟨rfl, hl1, hc1⟩ := hb1 (by simp)
  have c0 : w.cell? ⟨b1, o1, none⟩ = some (.int .i64 (x : Int)) := hc1 0 _ rfl
  have c1 : w.cell? ⟨b1, o1 + 1, none⟩ = some (.int .i64 (y : Int)) := hc1 1 _ rfl
  clear hA' hb1 hc1
  have hM := fun w => rmask_any (a : Int) w
  rw [mask_nat (by omega)] at hM
  have e2 : (2 : Int) ^ a = ((2 ^ a : Nat) : Int) := by simp
  have hp8 : 2 ^ a ≤ 2 ^ 8 := pow_le ha.2
  have hp0 := Nat.two_pow_pos a
  have hq : ((x : Int) + (y : Int)) % (2 : Int) ^ a = (((x + y) % 2 ^ a : Nat) : Int) := by simp
  have hq2 : ((x : Int) + (y : Int)).tmod ((2 : Int) ^ a) = (((x + y) % 2 ^ a : Nat) : Int) := by rw [Int.tmod_eq_emod_of_nonneg (by omega)]; exact hq
  have h1 : (2 : Int) ^ a - 1 + 1 = (2 : Int) ^ a := by omega
  have h2 : 0 < (2 : Int) ^ a ∧ (2 : Int) ^ a ≤ 256 := by rw [e2]; omega
  have h4 : (((2 : Int) ^ a) == 0) = false := by simp; omega
  have h5 : ¬ (2 : Int) ^ a = 0 := by omega
  have h3 : (x + y) % 2 ^ a ≤ 256 := by have := Nat.mod_lt (x + y) hp0; omega
  clear e2 hp8 hp0
  generalize (x + y) % 2 ^ a = r at *
  generalize (2 : Int) ^ a = P at *
  go_enter Try.func33, Try.ntmps33
  go_upto_region 1 with fail
  have hst := start1 w #[.int .i64 (a : Int), .int .i64 d] 23
  generalize w.alloc (.cells #[.int .i64 (a : Int), .int .i64 d] 23) = W at *
  obtain ⟨m, B⟩ := hst
  obtain ⟨k0, k1⟩ := m.c2
  go_upto_region 12 with (go_at_call 15; refine (hM _).mono ?_; rintro e w' ⟨rfl, rfl⟩)
  clear k0 k1
  have d0 := fun p : Later W => ((B.trans (p.below.mono B.size)).cell (p := ⟨b1, o1, none⟩) hl1).trans c0
  have d1 := fun p : Later W => ((B.trans (p.below.mono B.size)).cell (p := ⟨b1, o1 + 1, none⟩) hl1).trans c1
  clear c0 c1
  refine wp_region_later (by kernel_rfl) (by kernel_rfl) ?_
  repeat (go_big_quiet_step (fail))
  refine wpQuiet_nil ?_
  intro _ hw'
  obtain ⟨z, hw''⟩ := hw'
  subst hw''
  go_wp2_with fail
  go_ret
  exact ⟨rfl, B.trans (z.below.mono B.size)⟩

set_option maxRecDepth 100000 in
theorem rv7 (A' : Option Addr) (c' : Nat) (a x y : Nat) (d : Int) (w : World) (hA' : ArrI w A' [(x : Int), (y : Int)]) (ha : 1 ≤ a ∧ a ≤ 8) (hx : x < 2 ^ a) (hy : y < 2 ^ a) :
    Calls Try.prog 33 #[.int .i64 7, .agg #[.int .i64 (a : Int), .int .i64 d], .slice A' 2 c'] w fun e w' => e = .returned (.int .i64 ((((x + 2 ^ a - y) % 2 ^ a : Nat) : Int))) ∧ Below w.heap.size w w' := by
  obtain ⟨b1, o1, hb1⟩ := hA'.open
  obtain ⟨rfl, hl1, hc1⟩ := hb1 (by simp)
  have c0 : w.cell? ⟨b1, o1, none⟩ = some (.int .i64 (x : Int)) := hc1 0 _ rfl
  have c1 : w.cell? ⟨b1, o1 + 1, none⟩ = some (.int .i64 (y : Int)) := hc1 1 _ rfl
  clear hA' hb1 hc1
  have hM := fun w => rmask_any (a : Int) w
  rw [mask_nat (by omega)] at hM
  have e2 : (2 : Int) ^ a = ((2 ^ a : Nat) : Int) := by simp
  have hp8 : 2 ^ a ≤ 2 ^ 8 := pow_le ha.2
  have hp0 := Nat.two_pow_pos a
  have hx8 := low8 ha.2 hx
  have hy8 := low8 ha.2 hy
  have hq : ((x : Int) - (y : Int) + ((2 : Int) ^ a - 1) + 1) % (2 : Int) ^ a = (((x + 2 ^ a - y) % 2 ^ a : Nat) : Int) := by
    rw [show (x : Int) - (y : Int) + ((2 : Int) ^ a - 1) + 1 = ((x + 2 ^ a - y : Nat) : Int) by rw [e2]; omega]; simp
  have hq2 : ((x : Int) - (y : Int) + ((2 : Int) ^ a - 1) + 1).tmod ((2 : Int) ^ a) = (((x + 2 ^ a - y) % 2 ^ a : Nat) : Int) := by rw [Int.tmod_eq_emod_of_nonneg (by rw [e2]; omega)]; exact hq
  have h1 : (2 : Int) ^ a - 1 + 1 = (2 : Int) ^ a := by omega
  have h2 : 0 < (2 : Int) ^ a ∧ (2 : Int) ^ a ≤ 256 := by rw [e2]; omega
  have h4 : (((2 : Int) ^ a) == 0) = false := by simp; omega
  have h5 : ¬ (2 : Int) ^ a = 0 := by omega
  have h3 : (x + 2 ^ a - y) % 2 ^ a ≤ 256 := by have := Nat.mod_lt (x + 2 ^ a - y) hp0; omega
  clear e2 hp8 hp0 hx hy
  generalize (x + 2 ^ a - y) % 2 ^ a = r at *
  generalize (2 : Int) ^ a = P at *
  go_enter Try.func33, Try.ntmps33
  go_upto_region 1 with fail
  have hst := start1 w #[.int .i64 (a : Int), .int .i64 d] 23
  generalize w.alloc (.cells #[.int .i64 (a : Int), .int .i64 d] 23) = W at *
  obtain ⟨m, B⟩ := hst
  obtain ⟨k0, k1⟩ := m.c2
  go_upto_region 14 with (go_at_call 15; refine (hM _).mono ?_; rintro e w' ⟨rfl, rfl⟩)
  clear k0 k1
  have d0 := fun p : Later W => ((B.trans (p.below.mono B.size)).cell (p := ⟨b1, o1, none⟩) hl1).trans c0
  have d1 := fun p : Later W => ((B.trans (p.below.mono B.size)).cell (p := ⟨b1, o1 + 1, none⟩) hl1).trans c1
  clear c0 c1
  refine wp_region_later (by kernel_rfl) (by kernel_rfl) ?_
  repeat (go_big_quiet_step (fail))
  refine wpQuiet_nil ?_
  intro _ hw'
  obtain ⟨z, hw''⟩ := hw'
  subst hw''
  go_wp2_with fail
  go_ret
  exact ⟨rfl, B.trans (z.below.mono B.size)⟩

set_option maxRecDepth 100000 in
theorem rv8 (A' : Option Addr) (c' : Nat) (a x y : Nat) (d : Int) (w : World) (hA' : ArrI w A' [(x : Int), (y : Int)]) (ha : 1 ≤ a ∧ a ≤ 8) :
    Calls Try.prog 33 #[.int .i64 8, .agg #[.int .i64 (a : Int), .int .i64 d], .slice A' 2 c'] w fun e w' => e = .returned (.int .i64 (((if x = y then 1 else 0 : Nat) : Int))) ∧ Below w.heap.size w w' := by
  obtain ⟨b1, o1, hb1⟩ := hA'.open
  obtain ⟨rfl, hl1, hc1⟩ := hb1 (by simp)
  have c0 : w.cell? ⟨b1, o1, none⟩ = some (.int .i64 (x : Int)) := hc1 0 _ rfl
  have c1 : w.cell? ⟨b1, o1 + 1, none⟩ = some (.int .i64 (y : Int)) := hc1 1 _ rfl
  clear hA' hb1 hc1
  have hM := fun w => rmask_any (a : Int) w
  rw [mask_nat (by omega)] at hM
  have hq : (if ((x : Int) == (y : Int)) then (1 : Int) else 0) = ((if x = y then 1 else 0 : Nat) : Int) := by
    by_cases h : x = y
    · subst h; simp
    · have h2 : ¬ (x : Int) = (y : Int) := by omega
      simp [h, h2]
  rw [← hq]
  have hm2 := fun w => flag_any ((x : Int) == (y : Int)) w
  clear hq
  generalize (if ((x : Int) == (y : Int)) then (1 : Int) else 0) = r at *
  generalize (2 : Int) ^ a - 1 = mm at *
  go_enter Try.func33, Try.ntmps33
  go_upto_region 1 with fail
  have hst := start1 w #[.int .i64 (a : Int), .int .i64 d] 23
  generalize w.alloc (.cells #[.int .i64 (a : Int), .int .i64 d] 23) = W at *
  obtain ⟨m, B⟩ := hst
  obtain ⟨k0, k1⟩ := m.c2
  go_upto_region 16 with (go_at_call 15; refine (hM _).mono ?_; rintro e w' ⟨rfl, rfl⟩)
  clear k0 k1
  have d0 := fun p : Later W => ((B.trans (p.below.mono B.size)).cell (p := ⟨b1, o1, none⟩) hl1).trans c0
  have d1 := fun p : Later W => ((B.trans (p.below.mono B.size)).cell (p := ⟨b1, o1 + 1, none⟩) hl1).trans c1
  clear c0 c1
  refine wp_region_later (by kernel_rfl) (by kernel_rfl) ?_
  repeat (go_big_quiet_step ((go_at_call 58; with_reducible exact later_same (hm2 _))))
  refine wpQuiet_nil ?_
  intro _ hw'
  obtain ⟨z, hw''⟩ := hw'
  subst hw''
  go_wp2_with fail
  go_ret
  exact ⟨rfl, B.trans (z.below.mono B.size)⟩

set_option maxRecDepth 100000 in
theorem rv9 (A' : Option Addr) (c' : Nat) (a x y : Nat) (d : Int) (w : World) (hA' : ArrI w A' [(x : Int), (y : Int)]) (ha : 1 ≤ a ∧ a ≤ 8) :
    Calls Try.prog 33 #[.int .i64 9, .agg #[.int .i64 (a : Int), .int .i64 d], .slice A' 2 c'] w fun e w' => e = .returned (.int .i64 (((if x < y then 1 else 0 : Nat) : Int))) ∧ Below w.heap.size w w' := by
  obtain ⟨b1, o1, hb1⟩ := hA'.open
  obtain ⟨rfl, hl1, hc1⟩ := hb1 (by simp)
  have c0 : w.cell? ⟨b1, o1, none⟩ = some (.int .i64 (x : Int)) := hc1 0 _ rfl
  have c1 : w.cell? ⟨b1, o1 + 1, none⟩ = some (.int .i64 (y : Int)) := hc1 1 _ rfl
  clear hA' hb1 hc1
  have hM := fun w => rmask_any (a : Int) w
  rw [mask_nat (by omega)] at hM
  have hq : (if decide (x < y) then (1 : Int) else 0) = ((if x < y then 1 else 0 : Nat) : Int) := by by_cases h : x < y <;> simp [h]
  rw [← hq]
  have hm2 := fun w => flag_any (decide (x < y)) w
  clear hq
  generalize (if decide (x < y) then (1 : Int) else 0) = r at *
  generalize (2 : Int) ^ a - 1 = mm at *
  go_enter Try.func33, Try.ntmps33
  go_upto_region 1 with fail
  have hst := start1 w #[.int .i64 (a : Int), .int .i64 d] 23
  generalize w.alloc (.cells #[.int .i64 (a : Int), .int .i64 d] 23) = W at *
  obtain ⟨m, B⟩ := hst
  obtain ⟨k0, k1⟩ := m.c2
  go_upto_region 18 with (go_at_call 15; refine (hM _).mono ?_; rintro e w' ⟨rfl, rfl⟩)
  clear k0 k1
  have d0 := fun p : Later W => ((B.trans (p.below.mono B.size)).cell (p := ⟨b1, o1, none⟩) hl1).trans c0
  have d1 := fun p : Later W => ((B.trans (p.below.mono B.size)).cell (p := ⟨b1, o1 + 1, none⟩) hl1).trans c1
  clear c0 c1
  refine wp_region_later (by kernel_rfl) (by kernel_rfl) ?_
  repeat (go_big_quiet_step ((go_at_call 58; with_reducible exact later_same (hm2 _))))
  refine wpQuiet_nil ?_
  intro _ hw'
  obtain ⟨z, hw''⟩ := hw'
  subst hw''
  go_wp2_with fail
  go_ret
  exact ⟨rfl, B.trans (z.below.mono B.size)⟩

set_option maxRecDepth 100000 in
theorem rv10 (A' : Option Addr) (c' : Nat) (a x y u : Nat) (d : Int) (w : World) (hA' : ArrI w A' [(x : Int), (y : Int), (u : Int)]) (ha : 1 ≤ a ∧ a ≤ 8) :
    Calls Try.prog 33 #[.int .i64 10, .agg #[.int .i64 (a : Int), .int .i64 d], .slice A' 3 c'] w fun e w' => e = .returned (.int .i64 (((if x = 1 then y else u : Nat) : Int))) ∧ Below w.heap.size w w' := by
  obtain ⟨b1, o1, hb1⟩ := hA'.open
  obtain ⟨rfl, hl1, hc1⟩ := hb1 (by simp)
  have c0 : w.cell? ⟨b1, o1, none⟩ = some (.int .i64 (x : Int)) := hc1 0 _ rfl
  have c1 : w.cell? ⟨b1, o1 + 1, none⟩ = some (.int .i64 (y : Int)) := hc1 1 _ rfl
  have c2 : w.cell? ⟨b1, o1 + 2, none⟩ = some (.int .i64 (u : Int)) := hc1 2 _ rfl
  clear hA' hb1 hc1
  have hM := fun w => rmask_any (a : Int) w
  rw [mask_nat (by omega)] at hM
  generalize (2 : Int) ^ a - 1 = mm at *
  by_cases hx : x = 1
  · subst hx
    rw [if_pos rfl]
    go_enter Try.func33, Try.ntmps33
    go_upto_region 1 with fail
    have hst := start1 w #[.int .i64 (a : Int), .int .i64 d] 23
    generalize w.alloc (.cells #[.int .i64 (a : Int), .int .i64 d] 23) = W at *
    obtain ⟨m, B⟩ := hst
    obtain ⟨k0, k1⟩ := m.c2
    go_upto_region 20 with (go_at_call 15; refine (hM _).mono ?_; rintro e w' ⟨rfl, rfl⟩)
    clear k0 k1
    have d0 := (B.cell (p := ⟨b1, o1, none⟩) hl1).trans c0
    have d1 := (B.cell (p := ⟨b1, o1 + 1, none⟩) hl1).trans c1
    have d2 := (B.cell (p := ⟨b1, o1 + 2, none⟩) hl1).trans c2
    have hlw := B.size
    clear c0 c1 c2
    go_wp2_with fail
    go_ret
    exact ⟨rfl, B⟩
  · rw [if_neg hx]
    have e1 : ((x : Int) == 1) = false := by simp; omega
    clear hx
    go_enter Try.func33, Try.ntmps33
    go_upto_region 1 with fail
    have hst := start1 w #[.int .i64 (a : Int), .int .i64 d] 23
    generalize w.alloc (.cells #[.int .i64 (a : Int), .int .i64 d] 23) = W at *
    obtain ⟨m, B⟩ := hst
    obtain ⟨k0, k1⟩ := m.c2
    go_upto_region 20 with (go_at_call 15; refine (hM _).mono ?_; rintro e w' ⟨rfl, rfl⟩)
    clear k0 k1
    have d0 := (B.cell (p := ⟨b1, o1, none⟩) hl1).trans c0
    have d1 := (B.cell (p := ⟨b1, o1 + 1, none⟩) hl1).trans c1
    have d2 := (B.cell (p := ⟨b1, o1 + 2, none⟩) hl1).trans c2
    have hlw := B.size
    clear c0 c1 c2
    go_wp2_with fail
    go_ret
    exact ⟨rfl, B⟩

set_option maxRecDepth 100000 in
theorem rv11 (A' : Option Addr) (c' : Nat) (a d x y : Nat) (w : World) (hA' : ArrI w A' [(x : Int), (y : Int)]) (ha : 1 ≤ a ∧ a ≤ 8) (hd : 1 ≤ d ∧ d ≤ 8) (hx : x < 256) (hy : y < 2 ^ d) :
    Calls Try.prog 33 #[.int .i64 11, .agg #[.int .i64 (a : Int), .int .i64 (d : Int)], .slice A' 2 c'] w fun e w' => e = .returned (.int .i64 (((x * 2 ^ d + y : Nat) : Int))) ∧ Below w.heap.size w w' := by
  obtain ⟨b1, o1, hb1⟩ := hA'.open
  obtain ⟨rfl, hl1, hc1⟩ := hb1 (by simp)
  have c0 : w.cell? ⟨b1, o1, none⟩ = some (.int .i64 (x : Int)) := hc1 0 _ rfl
  have c1 : w.cell? ⟨b1, o1 + 1, none⟩ = some (.int .i64 (y : Int)) := hc1 1 _ rfl
  clear hA' hb1 hc1
  have hM := fun w => rmask_any (a : Int) w
  rw [mask_nat (by omega)] at hM
  have hy8 := low8 hd.2 hy
  have h2 : 2 ^ d ≤ 2 ^ 8 := pow_le hd.2
  have h3 : x * 2 ^ d ≤ 256 * 2 ^ 8 := Nat.mul_le_mul (by omega) h2
  have hq : bits .or .i64 ((x : Int) * 2 ^ d) (y : Int) = ((x * 2 ^ d + y : Nat) : Int) := by
    have := or_i64 (x * 2 ^ d) y (by omega) (by omega)
    rw [cat_or x y d hy] at this
    rw [← this]; simp
  have hz : 0 ≤ (x : Int) * 2 ^ d ∧ (x : Int) * 2 ^ d ≤ 65536 := by
    have h4 : (x : Int) * 2 ^ d = ((x * 2 ^ d : Nat) : Int) := by simp
    rw [h4]; omega
  generalize ((x * 2 ^ d + y : Nat) : Int) = r at *
  generalize (2 : Int) ^ a - 1 = mm at *
  clear hy h2 h3
  go_enter Try.func33, Try.ntmps33
  go_upto_region 1 with fail
  have hst := start1 w #[.int .i64 (a : Int), .int .i64 (d : Int)] 23
  generalize w.alloc (.cells #[.int .i64 (a : Int), .int .i64 (d : Int)] 23) = W at *
  obtain ⟨m, B⟩ := hst
  obtain ⟨k0, k1⟩ := m.c2
  go_upto_region 23 with (go_at_call 15; refine (hM _).mono ?_; rintro e w' ⟨rfl, rfl⟩)
  clear k0 k1
  have d0 := fun p : Later W => ((B.trans (p.below.mono B.size)).cell (p := ⟨b1, o1, none⟩) hl1).trans c0
  have d1 := fun p : Later W => ((B.trans (p.below.mono B.size)).cell (p := ⟨b1, o1 + 1, none⟩) hl1).trans c1
  clear c0 c1
  obtain ⟨q0, q1⟩ := m.l2 (Below.refl _ _)
  refine wp_region_later (by kernel_rfl) (by kernel_rfl) ?_
  repeat (go_big_quiet_step (fail))
  refine wpQuiet_nil ?_
  intro _ hw'
  obtain ⟨z, hw''⟩ := hw'
  subst hw''
  go_wp2_with fail
  go_ret
  exact ⟨rfl, B.trans (z.below.mono B.size)⟩


end Bt
end Go.Proofs.Ytjfijhchnchfcaa
