/- What Add and Scale return. -/
import Derived.Test.YtojkaaglmdfcnaaN8
import Derived.Test.YtojkaaglmdfcnaaL5
import Derived.Deep.DeepCutAuto
namespace Go.Proofs.Ytojkaaglmdfcnaa
open Go.RowKit Go.Shelf
namespace Fr
set_option linter.unusedVariables false
set_option linter.unusedSimpArgs false


theorem index_c0 (a0 a1 a2 a3 a4 a5 a6 a7 b0 b1 b2 b3 b4 b5 b6 b7 : Int) (W : World) : (Instr.index 136 (.agg #[.int .i64 a0, .int .i64 a1, .int .i64 b0, .int .i64 b1, .int .i64 a2, .int .i64 a3, .int .i64 b2, .int .i64 b3, .int .i64 a4, .int .i64 a5, .int .i64 b4, .int .i64 b5, .int .i64 a6, .int .i64 a7, .int .i64 b6, .int .i64 b7]) (.int .i64 0)).run Try.prog W = .ok (.agg #[.int .i64 a0, .int .i64 a1, .int .i64 b0, .int .i64 b1]) W := by kernel_rfl
theorem index_c1 (a0 a1 a2 a3 a4 a5 a6 a7 b0 b1 b2 b3 b4 b5 b6 b7 : Int) (W : World) : (Instr.index 136 (.agg #[.int .i64 a0, .int .i64 a1, .int .i64 b0, .int .i64 b1, .int .i64 a2, .int .i64 a3, .int .i64 b2, .int .i64 b3, .int .i64 a4, .int .i64 a5, .int .i64 b4, .int .i64 b5, .int .i64 a6, .int .i64 a7, .int .i64 b6, .int .i64 b7]) (.int .i64 1)).run Try.prog W = .ok (.agg #[.int .i64 a2, .int .i64 a3, .int .i64 b2, .int .i64 b3]) W := by kernel_rfl
theorem index_c2 (a0 a1 a2 a3 a4 a5 a6 a7 b0 b1 b2 b3 b4 b5 b6 b7 : Int) (W : World) : (Instr.index 136 (.agg #[.int .i64 a0, .int .i64 a1, .int .i64 b0, .int .i64 b1, .int .i64 a2, .int .i64 a3, .int .i64 b2, .int .i64 b3, .int .i64 a4, .int .i64 a5, .int .i64 b4, .int .i64 b5, .int .i64 a6, .int .i64 a7, .int .i64 b6, .int .i64 b7]) (.int .i64 2)).run Try.prog W = .ok (.agg #[.int .i64 a4, .int .i64 a5, .int .i64 b4, .int .i64 b5]) W := by kernel_rfl
theorem index_c3 (a0 a1 a2 a3 a4 a5 a6 a7 b0 b1 b2 b3 b4 b5 b6 b7 : Int) (W : World) : (Instr.index 136 (.agg #[.int .i64 a0, .int .i64 a1, .int .i64 b0, .int .i64 b1, .int .i64 a2, .int .i64 a3, .int .i64 b2, .int .i64 b3, .int .i64 a4, .int .i64 a5, .int .i64 b4, .int .i64 b5, .int .i64 a6, .int .i64 a7, .int .i64 b6, .int .i64 b7]) (.int .i64 3)).run Try.prog W = .ok (.agg #[.int .i64 a6, .int .i64 a7, .int .i64 b6, .int .i64 b7]) W := by kernel_rfl
attribute [local go_sem] index_c0 index_c1 index_c2 index_c3

theorem resL_none {o : Option LQ} {r0 r1 r2 r3 r4 r5 r6 r7 e : Int} (h : ResL o r0 r1 r2 r3 r4 r5 r6 r7 e) (ho : o = none) : r0 = 0 ∧ r1 = 0 ∧ r2 = 0 ∧ r3 = 0 ∧ r4 = 0 ∧ r5 = 0 ∧ r6 = 0 ∧ r7 = 0 ∧ e = 2 := by
  subst ho
  rcases h with ⟨q, h1, _⟩ | ⟨_, h⟩
  · cases h1
  · exact h
theorem resL_val {o : Option LQ} {r0 r1 r2 r3 r4 r5 r6 r7 e x0 x1 x2 x3 x4 x5 x6 x7 : Int} {q : LQ} (h : ResL o r0 r1 r2 r3 r4 r5 r6 r7 e) (ho : o = some q) (h1 : IsL q x0 x1 x2 x3 x4 x5 x6 x7) : r0 = x0 ∧ r1 = x1 ∧ r2 = x2 ∧ r3 = x3 ∧ r4 = x4 ∧ r5 = x5 ∧ r6 = x6 ∧ r7 = x7 ∧ e = 0 := by
  subst ho
  rcases h with ⟨r, e1, h3, h4⟩ | ⟨e1, _⟩
  · cases e1
    obtain ⟨e1, e2⟩ := isF_same h3.k h1.k
    obtain ⟨e3, e5⟩ := isF_same h3.t h1.t
    obtain ⟨e6, e7⟩ := isF_same h3.v h1.v
    obtain ⟨e8, e9⟩ := isF_same h3.a h1.a
    exact ⟨e1, e2, e3, e5, e6, e7, e8, e9, h4⟩
  · cases e1
theorem fit4_none {l : LQ} (h : ¬ (Fit l.k ∧ Fit l.t ∧ Fit l.v ∧ Fit l.a)) : fit4 l = none := by unfold fit4; rw [if_neg h]
theorem fit4_some {l : LQ} (h1 : Fit l.k) (h2 : Fit l.t) (h3 : Fit l.v) (h4 : Fit l.a) : fit4 l = some l := by unfold fit4; rw [if_pos ⟨h1, h2, h3, h4⟩]
theorem fitO_ways (q : Rat) : ∃ x y e, ResF (fitO q) x y e ∧ ((Fit q ∧ IsF q x y ∧ e = 0) ∨ (¬ Fit q ∧ x = 0 ∧ y = 0 ∧ e = 2)) := by
  by_cases h : Fit q
  · obtain ⟨n, d, hq⟩ := isF_of q h
    exact ⟨n, d, 0, resF_fit hq, .inl ⟨h, hq, rfl⟩⟩
  · exact ⟨0, 0, 2, resF_big h, .inr ⟨h, rfl, rfl, rfl⟩⟩

def combC (x0 x1 x2 x3 x4 x5 x6 x7 : Int) : Nat → Array Value
  | 0 => #[.int .i64 0, .int .i64 0, .int .i64 0, .int .i64 0, .int .i64 0, .int .i64 0, .int .i64 0, .int .i64 0]
  | 1 => #[.int .i64 x0, .int .i64 x1, .int .i64 0, .int .i64 0, .int .i64 0, .int .i64 0, .int .i64 0, .int .i64 0]
  | 2 => #[.int .i64 x0, .int .i64 x1, .int .i64 x2, .int .i64 x3, .int .i64 0, .int .i64 0, .int .i64 0, .int .i64 0]
  | 3 => #[.int .i64 x0, .int .i64 x1, .int .i64 x2, .int .i64 x3, .int .i64 x4, .int .i64 x5, .int .i64 0, .int .i64 0]
  | _ => #[.int .i64 x0, .int .i64 x1, .int .i64 x2, .int .i64 x3, .int .i64 x4, .int .i64 x5, .int .i64 x6, .int .i64 x7]
/-- What holds at the head of the loop of combine. -/
def CombAt (w : World) (B : Nat) (x0 x1 x2 x3 x4 x5 x6 x7 : Int) (P0 P1 P2 P3 : Prop) (i : Value) (wr : World) : Prop :=
  ∃ k : Nat, i = .int .i64 k ∧ k ≤ 4 ∧ (0 < k → P0) ∧ (1 < k → P1) ∧ (2 < k → P2) ∧ (3 < k → P3) ∧ BoxL wr (w.heap.size + 1 + 1) #[.int .i64 0, .int .i64 0, .int .i64 0, .int .i64 0, .int .i64 0, .int .i64 0, .int .i64 0, .int .i64 0] ∧ BoxL wr B (combC x0 x1 x2 x3 x4 x5 x6 x7 k) ∧ Below w.heap.size w wr ∧ w.heap.size + 1 + 1 < B

set_option maxRecDepth 100000 in
set_option maxHeartbeats 2000000 in
theorem combine_sum {l m : LQ} {a0 a1 a2 a3 a4 a5 a6 a7 b0 b1 b2 b3 b4 b5 b6 b7 r0 r1 r2 r3 r4 r5 r6 r7 e : Int} (hl : IsL l a0 a1 a2 a3 a4 a5 a6 a7) (hm : IsL m b0 b1 b2 b3 b4 b5 b6 b7) (hr : ResL (fit4 (l.op (· + ·) m)) r0 r1 r2 r3 r4 r5 r6 r7 e) : Does 86 #[.agg #[.int .i64 a0, .int .i64 a1, .int .i64 a2, .int .i64 a3, .int .i64 a4, .int .i64 a5, .int .i64 a6, .int .i64 a7], .agg #[.int .i64 b0, .int .i64 b1, .int .i64 b2, .int .i64 b3, .int .i64 b4, .int .i64 b5, .int .i64 b6, .int .i64 b7], .func (.func 42) #[] #[]] (.tuple #[.agg #[.int .i64 r0, .int .i64 r1, .int .i64 r2, .int .i64 r3, .int .i64 r4, .int .i64 r5, .int .i64 r6, .int .i64 r7], .int .i64 e]) := by
  intro w
  obtain ⟨x0, x1, e0, hx, hy0⟩ := fitO_ways (l.k + m.k)
  have A0 := Lib.hid (fadd hl.k hm.k hx)
  have C0 := Lib.hid hy0
  clear hx hy0
  obtain ⟨x2, x3, e1, hx, hy1⟩ := fitO_ways (l.t + m.t)
  have A1 := Lib.hid (fadd hl.t hm.t hx)
  have C1 := Lib.hid hy1
  clear hx hy1
  obtain ⟨x4, x5, e2, hx, hy2⟩ := fitO_ways (l.v + m.v)
  have A2 := Lib.hid (fadd hl.v hm.v hx)
  have C2 := Lib.hid hy2
  clear hx hy2
  obtain ⟨x6, x7, e3, hx, hy3⟩ := fitO_ways (l.a + m.a)
  have A3 := Lib.hid (fadd hl.a hm.a hx)
  have C3 := Lib.hid hy3
  clear hx hy3
  have HR := Lib.hid hr
  clear hl hm hr
  go_enter Try.func86, Try.ntmps86
  go_upto_region 1 with fail
  have hst := start3 w (#[.int .i64 a0, .int .i64 a1, .int .i64 a2, .int .i64 a3, .int .i64 a4, .int .i64 a5, .int .i64 a6, .int .i64 a7]) (#[.int .i64 b0, .int .i64 b1, .int .i64 b2, .int .i64 b3, .int .i64 b4, .int .i64 b5, .int .i64 b6, .int .i64 b7]) (#[.int .i64 0, .int .i64 0, .int .i64 0, .int .i64 0, .int .i64 0, .int .i64 0, .int .i64 0, .int .i64 0]) 25 25 25
  generalize (((w.alloc (.cells #[.int .i64 a0, .int .i64 a1, .int .i64 a2, .int .i64 a3, .int .i64 a4, .int .i64 a5, .int .i64 a6, .int .i64 a7] 25)).alloc (.cells #[.int .i64 b0, .int .i64 b1, .int .i64 b2, .int .i64 b3, .int .i64 b4, .int .i64 b5, .int .i64 b6, .int .i64 b7] 25)).alloc (.cells #[.int .i64 0, .int .i64 0, .int .i64 0, .int .i64 0, .int .i64 0, .int .i64 0, .int .i64 0, .int .i64 0] 25)) = W5 at *
  obtain ⟨m1, m2, m3, B4⟩ := hst
  have lt6 := m1.lt
  have lt7 := m2.lt
  have lt8 := m3.lt
  obtain ⟨c_l0, c_l1, c_l2, c_l3, c_l4, c_l5, c_l6, c_l7⟩ := m1.c8
  obtain ⟨c_m0, c_m1, c_m2, c_m3, c_m4, c_m5, c_m6, c_m7⟩ := m2.c8
  go_upto_region 2 with fail
  clear c_l0 c_l1 c_l2 c_l3 c_l4 c_l5 c_l6 c_l7
  clear c_m0 c_m1 c_m2 c_m3 c_m4 c_m5 c_m6 c_m7
  have m9 := BoxL.new W5 #[.int .i64 a0, .int .i64 a1, .int .i64 b0, .int .i64 b1, .int .i64 a2, .int .i64 a3, .int .i64 b2, .int .i64 b3, .int .i64 a4, .int .i64 a5, .int .i64 b4, .int .i64 b5, .int .i64 a6, .int .i64 a7, .int .i64 b6, .int .i64 b7] 136
  have hb10 := (Below.refl W5.heap.size W5).alloc (Nat.le_refl _) (.cells #[.int .i64 a0, .int .i64 a1, .int .i64 b0, .int .i64 b1, .int .i64 a2, .int .i64 a3, .int .i64 b2, .int .i64 b3, .int .i64 a4, .int .i64 a5, .int .i64 b4, .int .i64 b5, .int .i64 a6, .int .i64 a7, .int .i64 b6, .int .i64 b7] 136)
  have lt12 := m1.lt
  have lt13 := m2.lt
  have lt14 := m3.lt
  have m15 := m1.keep hb10
  have m16 := m2.keep hb10
  have m17 := m3.keep hb10
  have B18 := B4.trans (hb10.mono B4.size)
  have sz19 := hb10.size
  clear m1 m2 m3 B4 hb10
  generalize W5.alloc (.cells #[.int .i64 a0, .int .i64 a1, .int .i64 b0, .int .i64 b1, .int .i64 a2, .int .i64 a3, .int .i64 b2, .int .i64 b3, .int .i64 a4, .int .i64 a5, .int .i64 b4, .int .i64 b5, .int .i64 a6, .int .i64 a7, .int .i64 b6, .int .i64 b7] 136) = W11 at *
  have lt20 := m9.lt
  go_upto_region 3 with fail
  have m21 := BoxL.new W11 #[.int .i64 0, .int .i64 0, .int .i64 0, .int .i64 0, .int .i64 0, .int .i64 0, .int .i64 0, .int .i64 0] 137
  have hb22 := (Below.refl W11.heap.size W11).alloc (Nat.le_refl _) (.cells #[.int .i64 0, .int .i64 0, .int .i64 0, .int .i64 0, .int .i64 0, .int .i64 0, .int .i64 0, .int .i64 0] 137)
  have lt24 := m15.lt
  have lt25 := m16.lt
  have lt26 := m17.lt
  have lt27 := m9.lt
  have m28 := m15.keep hb22
  have m29 := m16.keep hb22
  have m30 := m17.keep hb22
  have m31 := m9.keep hb22
  have B32 := B18.trans (hb22.mono B18.size)
  have sz33 := hb22.size
  clear m15 m16 m17 m9 B18 hb22
  generalize W11.alloc (.cells #[.int .i64 0, .int .i64 0, .int .i64 0, .int .i64 0, .int .i64 0, .int .i64 0, .int .i64 0, .int .i64 0] 137) = W23 at *
  have lt34 := m21.lt
  have HS : Hid (CombAt w W11.heap.size x0 x1 x2 x3 x4 x5 x6 x7 (Fit (l.k + m.k)) (Fit (l.t + m.t)) (Fit (l.v + m.v)) (Fit (l.a + m.a)) (.int .i64 0) W23) := Lib.hid ⟨0, rfl, by omega, by omega, by omega, by omega, by omega, m30, m21, B32, by omega⟩
  obtain ⟨c_pairs0, c_pairs1, c_pairs2, c_pairs3, c_pairs4, c_pairs5, c_pairs6, c_pairs7, c_pairs8, c_pairs9, c_pairs10, c_pairs11, c_pairs12, c_pairs13, c_pairs14, c_pairs15⟩ := m31.c16
  go_upto_region 4 with fail
  clear m28 m29 m30 m21 B32
  go_loopw [35] (fun i wr => CombAt w W11.heap.size x0 x1 x2 x3 x4 x5 x6 x7 (Fit (l.k + m.k)) (Fit (l.t + m.t)) (Fit (l.v + m.v)) (Fit (l.a + m.a)) i wr) (fun i _ => 4 - (intOf i).toNat)
  case atStart => exact HS.out
  case round =>
    obtain ⟨k, rfl, hk, F0, F1, F2, F3, mr, mc, B, hlt⟩ := hrel
    clear HS
    obtain rfl | rfl | rfl | rfl | rfl : k = 0 ∨ k = 1 ∨ k = 2 ∨ k = 3 ∨ k = 4 := by omega
    · have mc2 : BoxL wr (W11.heap.size) #[.int .i64 0, .int .i64 0, .int .i64 0, .int .i64 0, .int .i64 0, .int .i64 0, .int .i64 0, .int .i64 0] := mc
      clear mc
      have G0 := Lib.hid F0
      have G1 := Lib.hid F1
      have G2 := Lib.hid F2
      have G3 := Lib.hid F3
      clear F0 F1 F2 F3
      go_upto_region 7 with fail
      have m35 := BoxL.new wr #[.int .i64 a0, .int .i64 a1, .int .i64 b0, .int .i64 b1] 135
      have hb36 := (Below.refl wr.heap.size wr).alloc (Nat.le_refl _) (.cells #[.int .i64 a0, .int .i64 a1, .int .i64 b0, .int .i64 b1] 135)
      have lt38 := mr.lt
      have lt39 := mc2.lt
      have m40 := mr.keep hb36
      have m41 := mc2.keep hb36
      have B42 := B.trans (hb36.mono B.size)
      have sz43 := hb36.size
      clear mr mc2 B hb36
      generalize wr.alloc (.cells #[.int .i64 a0, .int .i64 a1, .int .i64 b0, .int .i64 b1] 135) = W37 at *
      have lt44 := m35.lt
      obtain ⟨c_pair0, c_pair1, c_pair2, c_pair3⟩ := m35.c4
      go_wp2_with fail
      refine (A0.out.at _).mono ?_
      rintro o W45 ⟨rfl, hb46⟩
      clear c_pair0 c_pair1 c_pair2 c_pair3
      have m47 := m40.keep hb46
      have m48 := m41.keep hb46
      have m49 := m35.keep hb46
      have B50 := B42.trans (hb46.mono B42.size)
      have sz51 := hb46.size
      clear m40 m41 m35 B42 hb46
      obtain ⟨c_c0, c_c1, c_c2, c_c3, c_c4, c_c5, c_c6, c_c7⟩ := m48.c8
      obtain ⟨f_c0, f_c1, f_c2, f_c3, f_c4, f_c5, f_c6, f_c7⟩ := m48.f8
      go_upto_region 8 with fail
      clear c_c0 c_c1 c_c2 c_c3 c_c4 c_c5 c_c6 c_c7 f_c0 f_c1 f_c2 f_c3 f_c4 f_c5 f_c6 f_c7
      have m53 : BoxL ((W45.setCell ⟨W11.heap.size, 0, none⟩ (.int .i64 x0)).setCell ⟨W11.heap.size, 1, none⟩ (.int .i64 x1)) (W11.heap.size) #[.int .i64 x0, .int .i64 x1, .int .i64 0, .int .i64 0, .int .i64 0, .int .i64 0, .int .i64 0, .int .i64 0] := m48.setPart [.int .i64 x0, .int .i64 x1] 0 (by simp)
      have m54 : BoxL ((W45.setCell ⟨W11.heap.size, 0, none⟩ (.int .i64 x0)).setCell ⟨W11.heap.size, 1, none⟩ (.int .i64 x1)) ((w.heap.size + 1 + 1)) #[.int .i64 0, .int .i64 0, .int .i64 0, .int .i64 0, .int .i64 0, .int .i64 0, .int .i64 0, .int .i64 0] := m47.setFar (b := W11.heap.size) (by omega) [.int .i64 x0, .int .i64 x1] 0
      have m55 : BoxL ((W45.setCell ⟨W11.heap.size, 0, none⟩ (.int .i64 x0)).setCell ⟨W11.heap.size, 1, none⟩ (.int .i64 x1)) (wr.heap.size) #[.int .i64 a0, .int .i64 a1, .int .i64 b0, .int .i64 b1] := m49.setFar (b := W11.heap.size) (by omega) [.int .i64 x0, .int .i64 x1] 0
      have B56 : Below w.heap.size w ((W45.setCell ⟨W11.heap.size, 0, none⟩ (.int .i64 x0)).setCell ⟨W11.heap.size, 1, none⟩ (.int .i64 x1)) := below_setAll (b := W11.heap.size) (by omega) [.int .i64 x0, .int .i64 x1] _ 0 B50
      have lt57 := m53.lt
      generalize ((W45.setCell ⟨W11.heap.size, 0, none⟩ (.int .i64 x0)).setCell ⟨W11.heap.size, 1, none⟩ (.int .i64 x1)) = W52 at *
      clear m48 m47 m49 B50
      rcases C0.out with ⟨hf, hx, rfl⟩ | ⟨hf, rfl, rfl, rfl⟩
      rotate_left
      · have ho := HR.out
        obtain ⟨rfl, rfl, rfl, rfl, rfl, rfl, rfl, rfl, rfl⟩ := resL_none ho (fit4_none (fun h => hf h.1))
        clear ho hf HR
        obtain ⟨c_r0, c_r1, c_r2, c_r3, c_r4, c_r5, c_r6, c_r7⟩ := m54.c8
        obtain ⟨f_r0, f_r1, f_r2, f_r3, f_r4, f_r5, f_r6, f_r7⟩ := m54.f8
        go_wp2_with fail
        have hR58 := m54.s8 (.int .i64 0) (.int .i64 0) (.int .i64 0) (.int .i64 0) (.int .i64 0) (.int .i64 0) (.int .i64 0) (.int .i64 0)
        obtain ⟨s0, s1, s2, s3, s4, s5, s6, s7⟩ := hR58.c8
        exact bodyPost_ret (v := .tuple #[.agg #[.int .i64 0, .int .i64 0, .int .i64 0, .int .i64 0, .int .i64 0, .int .i64 0, .int .i64 0, .int .i64 0], .int .i64 2]) (by simp [results, Try.results86, go_sem, s0, s1, s2, s3, s4, s5, s6, s7]) rfl ⟨rfl, below_s8 B56 (by omega) _ _ _ _ _ _ _ _⟩
      · have HS2 : Hid (CombAt w W11.heap.size x0 x1 x2 x3 x4 x5 x6 x7 (Fit (l.k + m.k)) (Fit (l.t + m.t)) (Fit (l.v + m.v)) (Fit (l.a + m.a)) (.int .i64 1) W52) := Lib.hid ⟨1, rfl, by omega, fun _ => hf, by omega, by omega, by omega, m54, m53, B56, by omega⟩
        clear hf hx m54 m53 m55 B56
        go_wp2_with fail
        go_roundw
        case rel => exact HS2.out
        case measure => simp [intOf]
    · have mc2 : BoxL wr (W11.heap.size) #[.int .i64 x0, .int .i64 x1, .int .i64 0, .int .i64 0, .int .i64 0, .int .i64 0, .int .i64 0, .int .i64 0] := mc
      clear mc
      have G0 := Lib.hid F0
      have G1 := Lib.hid F1
      have G2 := Lib.hid F2
      have G3 := Lib.hid F3
      clear F0 F1 F2 F3
      go_upto_region 7 with fail
      have m59 := BoxL.new wr #[.int .i64 a2, .int .i64 a3, .int .i64 b2, .int .i64 b3] 135
      have hb60 := (Below.refl wr.heap.size wr).alloc (Nat.le_refl _) (.cells #[.int .i64 a2, .int .i64 a3, .int .i64 b2, .int .i64 b3] 135)
      have lt62 := mr.lt
      have lt63 := mc2.lt
      have m64 := mr.keep hb60
      have m65 := mc2.keep hb60
      have B66 := B.trans (hb60.mono B.size)
      have sz67 := hb60.size
      clear mr mc2 B hb60
      generalize wr.alloc (.cells #[.int .i64 a2, .int .i64 a3, .int .i64 b2, .int .i64 b3] 135) = W61 at *
      have lt68 := m59.lt
      obtain ⟨c_pair0, c_pair1, c_pair2, c_pair3⟩ := m59.c4
      go_wp2_with fail
      refine (A1.out.at _).mono ?_
      rintro o W69 ⟨rfl, hb70⟩
      clear c_pair0 c_pair1 c_pair2 c_pair3
      have m71 := m64.keep hb70
      have m72 := m65.keep hb70
      have m73 := m59.keep hb70
      have B74 := B66.trans (hb70.mono B66.size)
      have sz75 := hb70.size
      clear m64 m65 m59 B66 hb70
      obtain ⟨c_c0, c_c1, c_c2, c_c3, c_c4, c_c5, c_c6, c_c7⟩ := m72.c8
      obtain ⟨f_c0, f_c1, f_c2, f_c3, f_c4, f_c5, f_c6, f_c7⟩ := m72.f8
      go_upto_region 8 with fail
      clear c_c0 c_c1 c_c2 c_c3 c_c4 c_c5 c_c6 c_c7 f_c0 f_c1 f_c2 f_c3 f_c4 f_c5 f_c6 f_c7
      have m77 : BoxL ((W69.setCell ⟨W11.heap.size, 2, none⟩ (.int .i64 x2)).setCell ⟨W11.heap.size, 3, none⟩ (.int .i64 x3)) (W11.heap.size) #[.int .i64 x0, .int .i64 x1, .int .i64 x2, .int .i64 x3, .int .i64 0, .int .i64 0, .int .i64 0, .int .i64 0] := m72.setPart [.int .i64 x2, .int .i64 x3] 2 (by simp)
      have m78 : BoxL ((W69.setCell ⟨W11.heap.size, 2, none⟩ (.int .i64 x2)).setCell ⟨W11.heap.size, 3, none⟩ (.int .i64 x3)) ((w.heap.size + 1 + 1)) #[.int .i64 0, .int .i64 0, .int .i64 0, .int .i64 0, .int .i64 0, .int .i64 0, .int .i64 0, .int .i64 0] := m71.setFar (b := W11.heap.size) (by omega) [.int .i64 x2, .int .i64 x3] 2
      have m79 : BoxL ((W69.setCell ⟨W11.heap.size, 2, none⟩ (.int .i64 x2)).setCell ⟨W11.heap.size, 3, none⟩ (.int .i64 x3)) (wr.heap.size) #[.int .i64 a2, .int .i64 a3, .int .i64 b2, .int .i64 b3] := m73.setFar (b := W11.heap.size) (by omega) [.int .i64 x2, .int .i64 x3] 2
      have B80 : Below w.heap.size w ((W69.setCell ⟨W11.heap.size, 2, none⟩ (.int .i64 x2)).setCell ⟨W11.heap.size, 3, none⟩ (.int .i64 x3)) := below_setAll (b := W11.heap.size) (by omega) [.int .i64 x2, .int .i64 x3] _ 2 B74
      have lt81 := m77.lt
      generalize ((W69.setCell ⟨W11.heap.size, 2, none⟩ (.int .i64 x2)).setCell ⟨W11.heap.size, 3, none⟩ (.int .i64 x3)) = W76 at *
      clear m72 m71 m73 B74
      rcases C1.out with ⟨hf, hx, rfl⟩ | ⟨hf, rfl, rfl, rfl⟩
      rotate_left
      · have ho := HR.out
        obtain ⟨rfl, rfl, rfl, rfl, rfl, rfl, rfl, rfl, rfl⟩ := resL_none ho (fit4_none (fun h => hf h.2.1))
        clear ho hf HR
        obtain ⟨c_r0, c_r1, c_r2, c_r3, c_r4, c_r5, c_r6, c_r7⟩ := m78.c8
        obtain ⟨f_r0, f_r1, f_r2, f_r3, f_r4, f_r5, f_r6, f_r7⟩ := m78.f8
        go_wp2_with fail
        have hR82 := m78.s8 (.int .i64 0) (.int .i64 0) (.int .i64 0) (.int .i64 0) (.int .i64 0) (.int .i64 0) (.int .i64 0) (.int .i64 0)
        obtain ⟨s0, s1, s2, s3, s4, s5, s6, s7⟩ := hR82.c8
        exact bodyPost_ret (v := .tuple #[.agg #[.int .i64 0, .int .i64 0, .int .i64 0, .int .i64 0, .int .i64 0, .int .i64 0, .int .i64 0, .int .i64 0], .int .i64 2]) (by simp [results, Try.results86, go_sem, s0, s1, s2, s3, s4, s5, s6, s7]) rfl ⟨rfl, below_s8 B80 (by omega) _ _ _ _ _ _ _ _⟩
      · have HS2 : Hid (CombAt w W11.heap.size x0 x1 x2 x3 x4 x5 x6 x7 (Fit (l.k + m.k)) (Fit (l.t + m.t)) (Fit (l.v + m.v)) (Fit (l.a + m.a)) (.int .i64 2) W76) := Lib.hid ⟨2, rfl, by omega, fun _ => G0.out (by omega), fun _ => hf, by omega, by omega, m78, m77, B80, by omega⟩
        clear hf hx m78 m77 m79 B80
        go_wp2_with fail
        go_roundw
        case rel => exact HS2.out
        case measure => simp [intOf]
    · have mc2 : BoxL wr (W11.heap.size) #[.int .i64 x0, .int .i64 x1, .int .i64 x2, .int .i64 x3, .int .i64 0, .int .i64 0, .int .i64 0, .int .i64 0] := mc
      clear mc
      have G0 := Lib.hid F0
      have G1 := Lib.hid F1
      have G2 := Lib.hid F2
      have G3 := Lib.hid F3
      clear F0 F1 F2 F3
      go_upto_region 7 with fail
      have m83 := BoxL.new wr #[.int .i64 a4, .int .i64 a5, .int .i64 b4, .int .i64 b5] 135
      have hb84 := (Below.refl wr.heap.size wr).alloc (Nat.le_refl _) (.cells #[.int .i64 a4, .int .i64 a5, .int .i64 b4, .int .i64 b5] 135)
      have lt86 := mr.lt
      have lt87 := mc2.lt
      have m88 := mr.keep hb84
      have m89 := mc2.keep hb84
      have B90 := B.trans (hb84.mono B.size)
      have sz91 := hb84.size
      clear mr mc2 B hb84
      generalize wr.alloc (.cells #[.int .i64 a4, .int .i64 a5, .int .i64 b4, .int .i64 b5] 135) = W85 at *
      have lt92 := m83.lt
      obtain ⟨c_pair0, c_pair1, c_pair2, c_pair3⟩ := m83.c4
      go_wp2_with fail
      refine (A2.out.at _).mono ?_
      rintro o W93 ⟨rfl, hb94⟩
      clear c_pair0 c_pair1 c_pair2 c_pair3
      have m95 := m88.keep hb94
      have m96 := m89.keep hb94
      have m97 := m83.keep hb94
      have B98 := B90.trans (hb94.mono B90.size)
      have sz99 := hb94.size
      clear m88 m89 m83 B90 hb94
      obtain ⟨c_c0, c_c1, c_c2, c_c3, c_c4, c_c5, c_c6, c_c7⟩ := m96.c8
      obtain ⟨f_c0, f_c1, f_c2, f_c3, f_c4, f_c5, f_c6, f_c7⟩ := m96.f8
      go_upto_region 8 with fail
      clear c_c0 c_c1 c_c2 c_c3 c_c4 c_c5 c_c6 c_c7 f_c0 f_c1 f_c2 f_c3 f_c4 f_c5 f_c6 f_c7
      have m101 : BoxL ((W93.setCell ⟨W11.heap.size, 4, none⟩ (.int .i64 x4)).setCell ⟨W11.heap.size, 5, none⟩ (.int .i64 x5)) (W11.heap.size) #[.int .i64 x0, .int .i64 x1, .int .i64 x2, .int .i64 x3, .int .i64 x4, .int .i64 x5, .int .i64 0, .int .i64 0] := m96.setPart [.int .i64 x4, .int .i64 x5] 4 (by simp)
      have m102 : BoxL ((W93.setCell ⟨W11.heap.size, 4, none⟩ (.int .i64 x4)).setCell ⟨W11.heap.size, 5, none⟩ (.int .i64 x5)) ((w.heap.size + 1 + 1)) #[.int .i64 0, .int .i64 0, .int .i64 0, .int .i64 0, .int .i64 0, .int .i64 0, .int .i64 0, .int .i64 0] := m95.setFar (b := W11.heap.size) (by omega) [.int .i64 x4, .int .i64 x5] 4
      have m103 : BoxL ((W93.setCell ⟨W11.heap.size, 4, none⟩ (.int .i64 x4)).setCell ⟨W11.heap.size, 5, none⟩ (.int .i64 x5)) (wr.heap.size) #[.int .i64 a4, .int .i64 a5, .int .i64 b4, .int .i64 b5] := m97.setFar (b := W11.heap.size) (by omega) [.int .i64 x4, .int .i64 x5] 4
      have B104 : Below w.heap.size w ((W93.setCell ⟨W11.heap.size, 4, none⟩ (.int .i64 x4)).setCell ⟨W11.heap.size, 5, none⟩ (.int .i64 x5)) := below_setAll (b := W11.heap.size) (by omega) [.int .i64 x4, .int .i64 x5] _ 4 B98
      have lt105 := m101.lt
      generalize ((W93.setCell ⟨W11.heap.size, 4, none⟩ (.int .i64 x4)).setCell ⟨W11.heap.size, 5, none⟩ (.int .i64 x5)) = W100 at *
      clear m96 m95 m97 B98
      rcases C2.out with ⟨hf, hx, rfl⟩ | ⟨hf, rfl, rfl, rfl⟩
      rotate_left
      · have ho := HR.out
        obtain ⟨rfl, rfl, rfl, rfl, rfl, rfl, rfl, rfl, rfl⟩ := resL_none ho (fit4_none (fun h => hf h.2.2.1))
        clear ho hf HR
        obtain ⟨c_r0, c_r1, c_r2, c_r3, c_r4, c_r5, c_r6, c_r7⟩ := m102.c8
        obtain ⟨f_r0, f_r1, f_r2, f_r3, f_r4, f_r5, f_r6, f_r7⟩ := m102.f8
        go_wp2_with fail
        have hR106 := m102.s8 (.int .i64 0) (.int .i64 0) (.int .i64 0) (.int .i64 0) (.int .i64 0) (.int .i64 0) (.int .i64 0) (.int .i64 0)
        obtain ⟨s0, s1, s2, s3, s4, s5, s6, s7⟩ := hR106.c8
        exact bodyPost_ret (v := .tuple #[.agg #[.int .i64 0, .int .i64 0, .int .i64 0, .int .i64 0, .int .i64 0, .int .i64 0, .int .i64 0, .int .i64 0], .int .i64 2]) (by simp [results, Try.results86, go_sem, s0, s1, s2, s3, s4, s5, s6, s7]) rfl ⟨rfl, below_s8 B104 (by omega) _ _ _ _ _ _ _ _⟩
      · have HS2 : Hid (CombAt w W11.heap.size x0 x1 x2 x3 x4 x5 x6 x7 (Fit (l.k + m.k)) (Fit (l.t + m.t)) (Fit (l.v + m.v)) (Fit (l.a + m.a)) (.int .i64 3) W100) := Lib.hid ⟨3, rfl, by omega, fun _ => G0.out (by omega), fun _ => G1.out (by omega), fun _ => hf, by omega, m102, m101, B104, by omega⟩
        clear hf hx m102 m101 m103 B104
        go_wp2_with fail
        go_roundw
        case rel => exact HS2.out
        case measure => simp [intOf]
    · have mc2 : BoxL wr (W11.heap.size) #[.int .i64 x0, .int .i64 x1, .int .i64 x2, .int .i64 x3, .int .i64 x4, .int .i64 x5, .int .i64 0, .int .i64 0] := mc
      clear mc
      have G0 := Lib.hid F0
      have G1 := Lib.hid F1
      have G2 := Lib.hid F2
      have G3 := Lib.hid F3
      clear F0 F1 F2 F3
      go_upto_region 7 with fail
      have m107 := BoxL.new wr #[.int .i64 a6, .int .i64 a7, .int .i64 b6, .int .i64 b7] 135
      have hb108 := (Below.refl wr.heap.size wr).alloc (Nat.le_refl _) (.cells #[.int .i64 a6, .int .i64 a7, .int .i64 b6, .int .i64 b7] 135)
      have lt110 := mr.lt
      have lt111 := mc2.lt
      have m112 := mr.keep hb108
      have m113 := mc2.keep hb108
      have B114 := B.trans (hb108.mono B.size)
      have sz115 := hb108.size
      clear mr mc2 B hb108
      generalize wr.alloc (.cells #[.int .i64 a6, .int .i64 a7, .int .i64 b6, .int .i64 b7] 135) = W109 at *
      have lt116 := m107.lt
      obtain ⟨c_pair0, c_pair1, c_pair2, c_pair3⟩ := m107.c4
      go_wp2_with fail
      refine (A3.out.at _).mono ?_
      rintro o W117 ⟨rfl, hb118⟩
      clear c_pair0 c_pair1 c_pair2 c_pair3
      have m119 := m112.keep hb118
      have m120 := m113.keep hb118
      have m121 := m107.keep hb118
      have B122 := B114.trans (hb118.mono B114.size)
      have sz123 := hb118.size
      clear m112 m113 m107 B114 hb118
      obtain ⟨c_c0, c_c1, c_c2, c_c3, c_c4, c_c5, c_c6, c_c7⟩ := m120.c8
      obtain ⟨f_c0, f_c1, f_c2, f_c3, f_c4, f_c5, f_c6, f_c7⟩ := m120.f8
      go_upto_region 8 with fail
      clear c_c0 c_c1 c_c2 c_c3 c_c4 c_c5 c_c6 c_c7 f_c0 f_c1 f_c2 f_c3 f_c4 f_c5 f_c6 f_c7
      have m125 : BoxL ((W117.setCell ⟨W11.heap.size, 6, none⟩ (.int .i64 x6)).setCell ⟨W11.heap.size, 7, none⟩ (.int .i64 x7)) (W11.heap.size) #[.int .i64 x0, .int .i64 x1, .int .i64 x2, .int .i64 x3, .int .i64 x4, .int .i64 x5, .int .i64 x6, .int .i64 x7] := m120.setPart [.int .i64 x6, .int .i64 x7] 6 (by simp)
      have m126 : BoxL ((W117.setCell ⟨W11.heap.size, 6, none⟩ (.int .i64 x6)).setCell ⟨W11.heap.size, 7, none⟩ (.int .i64 x7)) ((w.heap.size + 1 + 1)) #[.int .i64 0, .int .i64 0, .int .i64 0, .int .i64 0, .int .i64 0, .int .i64 0, .int .i64 0, .int .i64 0] := m119.setFar (b := W11.heap.size) (by omega) [.int .i64 x6, .int .i64 x7] 6
      have m127 : BoxL ((W117.setCell ⟨W11.heap.size, 6, none⟩ (.int .i64 x6)).setCell ⟨W11.heap.size, 7, none⟩ (.int .i64 x7)) (wr.heap.size) #[.int .i64 a6, .int .i64 a7, .int .i64 b6, .int .i64 b7] := m121.setFar (b := W11.heap.size) (by omega) [.int .i64 x6, .int .i64 x7] 6
      have B128 : Below w.heap.size w ((W117.setCell ⟨W11.heap.size, 6, none⟩ (.int .i64 x6)).setCell ⟨W11.heap.size, 7, none⟩ (.int .i64 x7)) := below_setAll (b := W11.heap.size) (by omega) [.int .i64 x6, .int .i64 x7] _ 6 B122
      have lt129 := m125.lt
      generalize ((W117.setCell ⟨W11.heap.size, 6, none⟩ (.int .i64 x6)).setCell ⟨W11.heap.size, 7, none⟩ (.int .i64 x7)) = W124 at *
      clear m120 m119 m121 B122
      rcases C3.out with ⟨hf, hx, rfl⟩ | ⟨hf, rfl, rfl, rfl⟩
      rotate_left
      · have ho := HR.out
        obtain ⟨rfl, rfl, rfl, rfl, rfl, rfl, rfl, rfl, rfl⟩ := resL_none ho (fit4_none (fun h => hf h.2.2.2))
        clear ho hf HR
        obtain ⟨c_r0, c_r1, c_r2, c_r3, c_r4, c_r5, c_r6, c_r7⟩ := m126.c8
        obtain ⟨f_r0, f_r1, f_r2, f_r3, f_r4, f_r5, f_r6, f_r7⟩ := m126.f8
        go_wp2_with fail
        have hR130 := m126.s8 (.int .i64 0) (.int .i64 0) (.int .i64 0) (.int .i64 0) (.int .i64 0) (.int .i64 0) (.int .i64 0) (.int .i64 0)
        obtain ⟨s0, s1, s2, s3, s4, s5, s6, s7⟩ := hR130.c8
        exact bodyPost_ret (v := .tuple #[.agg #[.int .i64 0, .int .i64 0, .int .i64 0, .int .i64 0, .int .i64 0, .int .i64 0, .int .i64 0, .int .i64 0], .int .i64 2]) (by simp [results, Try.results86, go_sem, s0, s1, s2, s3, s4, s5, s6, s7]) rfl ⟨rfl, below_s8 B128 (by omega) _ _ _ _ _ _ _ _⟩
      · have HS2 : Hid (CombAt w W11.heap.size x0 x1 x2 x3 x4 x5 x6 x7 (Fit (l.k + m.k)) (Fit (l.t + m.t)) (Fit (l.v + m.v)) (Fit (l.a + m.a)) (.int .i64 4) W124) := Lib.hid ⟨4, rfl, by omega, fun _ => G0.out (by omega), fun _ => G1.out (by omega), fun _ => G2.out (by omega), fun _ => hf, m126, m125, B128, by omega⟩
        clear hf hx m126 m125 m127 B128
        go_wp2_with fail
        go_roundw
        case rel => exact HS2.out
        case measure => simp [intOf]
    · have mc2 : BoxL wr (W11.heap.size) #[.int .i64 x0, .int .i64 x1, .int .i64 x2, .int .i64 x3, .int .i64 x4, .int .i64 x5, .int .i64 x6, .int .i64 x7] := mc
      clear mc
      have f0 := F0 (by omega)
      have f1 := F1 (by omega)
      have f2 := F2 (by omega)
      have f3 := F3 (by omega)
      have ho := HR.out
      have hx0 : IsF (l.k + m.k) x0 x1 ∧ e0 = 0 := by
        rcases C0.out with h | h
        · exact h.2
        · exact absurd f0 h.1
      have hx1 : IsF (l.t + m.t) x2 x3 ∧ e1 = 0 := by
        rcases C1.out with h | h
        · exact h.2
        · exact absurd f1 h.1
      have hx2 : IsF (l.v + m.v) x4 x5 ∧ e2 = 0 := by
        rcases C2.out with h | h
        · exact h.2
        · exact absurd f2 h.1
      have hx3 : IsF (l.a + m.a) x6 x7 ∧ e3 = 0 := by
        rcases C3.out with h | h
        · exact h.2
        · exact absurd f3 h.1
      obtain ⟨rfl, rfl, rfl, rfl, rfl, rfl, rfl, rfl, rfl⟩ := resL_val ho (fit4_some f0 f1 f2 f3) ⟨hx0.1, hx1.1, hx2.1, hx3.1⟩
      clear ho f0 f1 f2 f3 hx0 hx1 hx2 hx3 F0 F1 F2 F3 HR
      obtain ⟨c_c0, c_c1, c_c2, c_c3, c_c4, c_c5, c_c6, c_c7⟩ := mc2.c8
      obtain ⟨c_r0, c_r1, c_r2, c_r3, c_r4, c_r5, c_r6, c_r7⟩ := mr.c8
      obtain ⟨f_r0, f_r1, f_r2, f_r3, f_r4, f_r5, f_r6, f_r7⟩ := mr.f8
      go_wp2_with fail
      have hR131 := mr.s8 (.int .i64 r0) (.int .i64 r1) (.int .i64 r2) (.int .i64 r3) (.int .i64 r4) (.int .i64 r5) (.int .i64 r6) (.int .i64 r7)
      obtain ⟨s0, s1, s2, s3, s4, s5, s6, s7⟩ := hR131.c8
      exact bodyPost_ret (v := .tuple #[.agg #[.int .i64 r0, .int .i64 r1, .int .i64 r2, .int .i64 r3, .int .i64 r4, .int .i64 r5, .int .i64 r6, .int .i64 r7], .int .i64 0]) (by simp [results, Try.results86, go_sem, s0, s1, s2, s3, s4, s5, s6, s7]) rfl ⟨rfl, below_s8 B (by omega) _ _ _ _ _ _ _ _⟩

set_option maxRecDepth 100000 in
set_option maxHeartbeats 2000000 in
theorem combine_prod {l m : LQ} {a0 a1 a2 a3 a4 a5 a6 a7 b0 b1 b2 b3 b4 b5 b6 b7 r0 r1 r2 r3 r4 r5 r6 r7 e : Int} (hl : IsL l a0 a1 a2 a3 a4 a5 a6 a7) (hm : IsL m b0 b1 b2 b3 b4 b5 b6 b7) (hr : ResL (fit4 (l.op (· * ·) m)) r0 r1 r2 r3 r4 r5 r6 r7 e) : Does 86 #[.agg #[.int .i64 a0, .int .i64 a1, .int .i64 a2, .int .i64 a3, .int .i64 a4, .int .i64 a5, .int .i64 a6, .int .i64 a7], .agg #[.int .i64 b0, .int .i64 b1, .int .i64 b2, .int .i64 b3, .int .i64 b4, .int .i64 b5, .int .i64 b6, .int .i64 b7], .func (.func 45) #[] #[]] (.tuple #[.agg #[.int .i64 r0, .int .i64 r1, .int .i64 r2, .int .i64 r3, .int .i64 r4, .int .i64 r5, .int .i64 r6, .int .i64 r7], .int .i64 e]) := by
  intro w
  obtain ⟨x0, x1, e0, hx, hy0⟩ := fitO_ways (l.k * m.k)
  have A0 := Lib.hid (fmul hl.k hm.k hx)
  have C0 := Lib.hid hy0
  clear hx hy0
  obtain ⟨x2, x3, e1, hx, hy1⟩ := fitO_ways (l.t * m.t)
  have A1 := Lib.hid (fmul hl.t hm.t hx)
  have C1 := Lib.hid hy1
  clear hx hy1
  obtain ⟨x4, x5, e2, hx, hy2⟩ := fitO_ways (l.v * m.v)
  have A2 := Lib.hid (fmul hl.v hm.v hx)
  have C2 := Lib.hid hy2
  clear hx hy2
  obtain ⟨x6, x7, e3, hx, hy3⟩ := fitO_ways (l.a * m.a)
  have A3 := Lib.hid (fmul hl.a hm.a hx)
  have C3 := Lib.hid hy3
  clear hx hy3
  have HR := Lib.hid hr
  clear hl hm hr
  go_enter Try.func86, Try.ntmps86
  go_upto_region 1 with fail
  have hst := start3 w (#[.int .i64 a0, .int .i64 a1, .int .i64 a2, .int .i64 a3, .int .i64 a4, .int .i64 a5, .int .i64 a6, .int .i64 a7]) (#[.int .i64 b0, .int .i64 b1, .int .i64 b2, .int .i64 b3, .int .i64 b4, .int .i64 b5, .int .i64 b6, .int .i64 b7]) (#[.int .i64 0, .int .i64 0, .int .i64 0, .int .i64 0, .int .i64 0, .int .i64 0, .int .i64 0, .int .i64 0]) 25 25 25
  generalize (((w.alloc (.cells #[.int .i64 a0, .int .i64 a1, .int .i64 a2, .int .i64 a3, .int .i64 a4, .int .i64 a5, .int .i64 a6, .int .i64 a7] 25)).alloc (.cells #[.int .i64 b0, .int .i64 b1, .int .i64 b2, .int .i64 b3, .int .i64 b4, .int .i64 b5, .int .i64 b6, .int .i64 b7] 25)).alloc (.cells #[.int .i64 0, .int .i64 0, .int .i64 0, .int .i64 0, .int .i64 0, .int .i64 0, .int .i64 0, .int .i64 0] 25)) = W5 at *
  obtain ⟨m1, m2, m3, B4⟩ := hst
  have lt6 := m1.lt
  have lt7 := m2.lt
  have lt8 := m3.lt
  obtain ⟨c_l0, c_l1, c_l2, c_l3, c_l4, c_l5, c_l6, c_l7⟩ := m1.c8
  obtain ⟨c_m0, c_m1, c_m2, c_m3, c_m4, c_m5, c_m6, c_m7⟩ := m2.c8
  go_upto_region 2 with fail
  clear c_l0 c_l1 c_l2 c_l3 c_l4 c_l5 c_l6 c_l7
  clear c_m0 c_m1 c_m2 c_m3 c_m4 c_m5 c_m6 c_m7
  have m9 := BoxL.new W5 #[.int .i64 a0, .int .i64 a1, .int .i64 b0, .int .i64 b1, .int .i64 a2, .int .i64 a3, .int .i64 b2, .int .i64 b3, .int .i64 a4, .int .i64 a5, .int .i64 b4, .int .i64 b5, .int .i64 a6, .int .i64 a7, .int .i64 b6, .int .i64 b7] 136
  have hb10 := (Below.refl W5.heap.size W5).alloc (Nat.le_refl _) (.cells #[.int .i64 a0, .int .i64 a1, .int .i64 b0, .int .i64 b1, .int .i64 a2, .int .i64 a3, .int .i64 b2, .int .i64 b3, .int .i64 a4, .int .i64 a5, .int .i64 b4, .int .i64 b5, .int .i64 a6, .int .i64 a7, .int .i64 b6, .int .i64 b7] 136)
  have lt12 := m1.lt
  have lt13 := m2.lt
  have lt14 := m3.lt
  have m15 := m1.keep hb10
  have m16 := m2.keep hb10
  have m17 := m3.keep hb10
  have B18 := B4.trans (hb10.mono B4.size)
  have sz19 := hb10.size
  clear m1 m2 m3 B4 hb10
  generalize W5.alloc (.cells #[.int .i64 a0, .int .i64 a1, .int .i64 b0, .int .i64 b1, .int .i64 a2, .int .i64 a3, .int .i64 b2, .int .i64 b3, .int .i64 a4, .int .i64 a5, .int .i64 b4, .int .i64 b5, .int .i64 a6, .int .i64 a7, .int .i64 b6, .int .i64 b7] 136) = W11 at *
  have lt20 := m9.lt
  go_upto_region 3 with fail
  have m21 := BoxL.new W11 #[.int .i64 0, .int .i64 0, .int .i64 0, .int .i64 0, .int .i64 0, .int .i64 0, .int .i64 0, .int .i64 0] 137
  have hb22 := (Below.refl W11.heap.size W11).alloc (Nat.le_refl _) (.cells #[.int .i64 0, .int .i64 0, .int .i64 0, .int .i64 0, .int .i64 0, .int .i64 0, .int .i64 0, .int .i64 0] 137)
  have lt24 := m15.lt
  have lt25 := m16.lt
  have lt26 := m17.lt
  have lt27 := m9.lt
  have m28 := m15.keep hb22
  have m29 := m16.keep hb22
  have m30 := m17.keep hb22
  have m31 := m9.keep hb22
  have B32 := B18.trans (hb22.mono B18.size)
  have sz33 := hb22.size
  clear m15 m16 m17 m9 B18 hb22
  generalize W11.alloc (.cells #[.int .i64 0, .int .i64 0, .int .i64 0, .int .i64 0, .int .i64 0, .int .i64 0, .int .i64 0, .int .i64 0] 137) = W23 at *
  have lt34 := m21.lt
  have HS : Hid (CombAt w W11.heap.size x0 x1 x2 x3 x4 x5 x6 x7 (Fit (l.k * m.k)) (Fit (l.t * m.t)) (Fit (l.v * m.v)) (Fit (l.a * m.a)) (.int .i64 0) W23) := Lib.hid ⟨0, rfl, by omega, by omega, by omega, by omega, by omega, m30, m21, B32, by omega⟩
  obtain ⟨c_pairs0, c_pairs1, c_pairs2, c_pairs3, c_pairs4, c_pairs5, c_pairs6, c_pairs7, c_pairs8, c_pairs9, c_pairs10, c_pairs11, c_pairs12, c_pairs13, c_pairs14, c_pairs15⟩ := m31.c16
  go_upto_region 4 with fail
  clear m28 m29 m30 m21 B32
  go_loopw [35] (fun i wr => CombAt w W11.heap.size x0 x1 x2 x3 x4 x5 x6 x7 (Fit (l.k * m.k)) (Fit (l.t * m.t)) (Fit (l.v * m.v)) (Fit (l.a * m.a)) i wr) (fun i _ => 4 - (intOf i).toNat)
  case atStart => exact HS.out
  case round =>
    obtain ⟨k, rfl, hk, F0, F1, F2, F3, mr, mc, B, hlt⟩ := hrel
    clear HS
    obtain rfl | rfl | rfl | rfl | rfl : k = 0 ∨ k = 1 ∨ k = 2 ∨ k = 3 ∨ k = 4 := by omega
    · have mc2 : BoxL wr (W11.heap.size) #[.int .i64 0, .int .i64 0, .int .i64 0, .int .i64 0, .int .i64 0, .int .i64 0, .int .i64 0, .int .i64 0] := mc
      clear mc
      have G0 := Lib.hid F0
      have G1 := Lib.hid F1
      have G2 := Lib.hid F2
      have G3 := Lib.hid F3
      clear F0 F1 F2 F3
      go_upto_region 7 with fail
      have m35 := BoxL.new wr #[.int .i64 a0, .int .i64 a1, .int .i64 b0, .int .i64 b1] 135
      have hb36 := (Below.refl wr.heap.size wr).alloc (Nat.le_refl _) (.cells #[.int .i64 a0, .int .i64 a1, .int .i64 b0, .int .i64 b1] 135)
      have lt38 := mr.lt
      have lt39 := mc2.lt
      have m40 := mr.keep hb36
      have m41 := mc2.keep hb36
      have B42 := B.trans (hb36.mono B.size)
      have sz43 := hb36.size
      clear mr mc2 B hb36
      generalize wr.alloc (.cells #[.int .i64 a0, .int .i64 a1, .int .i64 b0, .int .i64 b1] 135) = W37 at *
      have lt44 := m35.lt
      obtain ⟨c_pair0, c_pair1, c_pair2, c_pair3⟩ := m35.c4
      go_wp2_with fail
      refine (A0.out.at _).mono ?_
      rintro o W45 ⟨rfl, hb46⟩
      clear c_pair0 c_pair1 c_pair2 c_pair3
      have m47 := m40.keep hb46
      have m48 := m41.keep hb46
      have m49 := m35.keep hb46
      have B50 := B42.trans (hb46.mono B42.size)
      have sz51 := hb46.size
      clear m40 m41 m35 B42 hb46
      obtain ⟨c_c0, c_c1, c_c2, c_c3, c_c4, c_c5, c_c6, c_c7⟩ := m48.c8
      obtain ⟨f_c0, f_c1, f_c2, f_c3, f_c4, f_c5, f_c6, f_c7⟩ := m48.f8
      go_upto_region 8 with fail
      clear c_c0 c_c1 c_c2 c_c3 c_c4 c_c5 c_c6 c_c7 f_c0 f_c1 f_c2 f_c3 f_c4 f_c5 f_c6 f_c7
      have m53 : BoxL ((W45.setCell ⟨W11.heap.size, 0, none⟩ (.int .i64 x0)).setCell ⟨W11.heap.size, 1, none⟩ (.int .i64 x1)) (W11.heap.size) #[.int .i64 x0, .int .i64 x1, .int .i64 0, .int .i64 0, .int .i64 0, .int .i64 0, .int .i64 0, .int .i64 0] := m48.setPart [.int .i64 x0, .int .i64 x1] 0 (by simp)
      have m54 : BoxL ((W45.setCell ⟨W11.heap.size, 0, none⟩ (.int .i64 x0)).setCell ⟨W11.heap.size, 1, none⟩ (.int .i64 x1)) ((w.heap.size + 1 + 1)) #[.int .i64 0, .int .i64 0, .int .i64 0, .int .i64 0, .int .i64 0, .int .i64 0, .int .i64 0, .int .i64 0] := m47.setFar (b := W11.heap.size) (by omega) [.int .i64 x0, .int .i64 x1] 0
      have m55 : BoxL ((W45.setCell ⟨W11.heap.size, 0, none⟩ (.int .i64 x0)).setCell ⟨W11.heap.size, 1, none⟩ (.int .i64 x1)) (wr.heap.size) #[.int .i64 a0, .int .i64 a1, .int .i64 b0, .int .i64 b1] := m49.setFar (b := W11.heap.size) (by omega) [.int .i64 x0, .int .i64 x1] 0
      have B56 : Below w.heap.size w ((W45.setCell ⟨W11.heap.size, 0, none⟩ (.int .i64 x0)).setCell ⟨W11.heap.size, 1, none⟩ (.int .i64 x1)) := below_setAll (b := W11.heap.size) (by omega) [.int .i64 x0, .int .i64 x1] _ 0 B50
      have lt57 := m53.lt
      generalize ((W45.setCell ⟨W11.heap.size, 0, none⟩ (.int .i64 x0)).setCell ⟨W11.heap.size, 1, none⟩ (.int .i64 x1)) = W52 at *
      clear m48 m47 m49 B50
      rcases C0.out with ⟨hf, hx, rfl⟩ | ⟨hf, rfl, rfl, rfl⟩
      rotate_left
      · have ho := HR.out
        obtain ⟨rfl, rfl, rfl, rfl, rfl, rfl, rfl, rfl, rfl⟩ := resL_none ho (fit4_none (fun h => hf h.1))
        clear ho hf HR
        obtain ⟨c_r0, c_r1, c_r2, c_r3, c_r4, c_r5, c_r6, c_r7⟩ := m54.c8
        obtain ⟨f_r0, f_r1, f_r2, f_r3, f_r4, f_r5, f_r6, f_r7⟩ := m54.f8
        go_wp2_with fail
        have hR58 := m54.s8 (.int .i64 0) (.int .i64 0) (.int .i64 0) (.int .i64 0) (.int .i64 0) (.int .i64 0) (.int .i64 0) (.int .i64 0)
        obtain ⟨s0, s1, s2, s3, s4, s5, s6, s7⟩ := hR58.c8
        exact bodyPost_ret (v := .tuple #[.agg #[.int .i64 0, .int .i64 0, .int .i64 0, .int .i64 0, .int .i64 0, .int .i64 0, .int .i64 0, .int .i64 0], .int .i64 2]) (by simp [results, Try.results86, go_sem, s0, s1, s2, s3, s4, s5, s6, s7]) rfl ⟨rfl, below_s8 B56 (by omega) _ _ _ _ _ _ _ _⟩
      · have HS2 : Hid (CombAt w W11.heap.size x0 x1 x2 x3 x4 x5 x6 x7 (Fit (l.k * m.k)) (Fit (l.t * m.t)) (Fit (l.v * m.v)) (Fit (l.a * m.a)) (.int .i64 1) W52) := Lib.hid ⟨1, rfl, by omega, fun _ => hf, by omega, by omega, by omega, m54, m53, B56, by omega⟩
        clear hf hx m54 m53 m55 B56
        go_wp2_with fail
        go_roundw
        case rel => exact HS2.out
        case measure => simp [intOf]
    · have mc2 : BoxL wr (W11.heap.size) #[.int .i64 x0, .int .i64 x1, .int .i64 0, .int .i64 0, .int .i64 0, .int .i64 0, .int .i64 0, .int .i64 0] := mc
      clear mc
      have G0 := Lib.hid F0
      have G1 := Lib.hid F1
      have G2 := Lib.hid F2
      have G3 := Lib.hid F3
      clear F0 F1 F2 F3
      go_upto_region 7 with fail
      have m59 := BoxL.new wr #[.int .i64 a2, .int .i64 a3, .int .i64 b2, .int .i64 b3] 135
      have hb60 := (Below.refl wr.heap.size wr).alloc (Nat.le_refl _) (.cells #[.int .i64 a2, .int .i64 a3, .int .i64 b2, .int .i64 b3] 135)
      have lt62 := mr.lt
      have lt63 := mc2.lt
      have m64 := mr.keep hb60
      have m65 := mc2.keep hb60
      have B66 := B.trans (hb60.mono B.size)
      have sz67 := hb60.size
      clear mr mc2 B hb60
      generalize wr.alloc (.cells #[.int .i64 a2, .int .i64 a3, .int .i64 b2, .int .i64 b3] 135) = W61 at *
      have lt68 := m59.lt
      obtain ⟨c_pair0, c_pair1, c_pair2, c_pair3⟩ := m59.c4
      go_wp2_with fail
      refine (A1.out.at _).mono ?_
      rintro o W69 ⟨rfl, hb70⟩
      clear c_pair0 c_pair1 c_pair2 c_pair3
      have m71 := m64.keep hb70
      have m72 := m65.keep hb70
      have m73 := m59.keep hb70
      have B74 := B66.trans (hb70.mono B66.size)
      have sz75 := hb70.size
      clear m64 m65 m59 B66 hb70
      obtain ⟨c_c0, c_c1, c_c2, c_c3, c_c4, c_c5, c_c6, c_c7⟩ := m72.c8
      obtain ⟨f_c0, f_c1, f_c2, f_c3, f_c4, f_c5, f_c6, f_c7⟩ := m72.f8
      go_upto_region 8 with fail
      clear c_c0 c_c1 c_c2 c_c3 c_c4 c_c5 c_c6 c_c7 f_c0 f_c1 f_c2 f_c3 f_c4 f_c5 f_c6 f_c7
      have m77 : BoxL ((W69.setCell ⟨W11.heap.size, 2, none⟩ (.int .i64 x2)).setCell ⟨W11.heap.size, 3, none⟩ (.int .i64 x3)) (W11.heap.size) #[.int .i64 x0, .int .i64 x1, .int .i64 x2, .int .i64 x3, .int .i64 0, .int .i64 0, .int .i64 0, .int .i64 0] := m72.setPart [.int .i64 x2, .int .i64 x3] 2 (by simp)
      have m78 : BoxL ((W69.setCell ⟨W11.heap.size, 2, none⟩ (.int .i64 x2)).setCell ⟨W11.heap.size, 3, none⟩ (.int .i64 x3)) ((w.heap.size + 1 + 1)) #[.int .i64 0, .int .i64 0, .int .i64 0, .int .i64 0, .int .i64 0, .int .i64 0, .int .i64 0, .int .i64 0] := m71.setFar (b := W11.heap.size) (by omega) [.int .i64 x2, .int .i64 x3] 2
      have m79 : BoxL ((W69.setCell ⟨W11.heap.size, 2, none⟩ (.int .i64 x2)).setCell ⟨W11.heap.size, 3, none⟩ (.int .i64 x3)) (wr.heap.size) #[.int .i64 a2, .int .i64 a3, .int .i64 b2, .int .i64 b3] := m73.setFar (b := W11.heap.size) (by omega) [.int .i64 x2, .int .i64 x3] 2
      have B80 : Below w.heap.size w ((W69.setCell ⟨W11.heap.size, 2, none⟩ (.int .i64 x2)).setCell ⟨W11.heap.size, 3, none⟩ (.int .i64 x3)) := below_setAll (b := W11.heap.size) (by omega) [.int .i64 x2, .int .i64 x3] _ 2 B74
      have lt81 := m77.lt
      generalize ((W69.setCell ⟨W11.heap.size, 2, none⟩ (.int .i64 x2)).setCell ⟨W11.heap.size, 3, none⟩ (.int .i64 x3)) = W76 at *
      clear m72 m71 m73 B74
      rcases C1.out with ⟨hf, hx, rfl⟩ | ⟨hf, rfl, rfl, rfl⟩
      rotate_left
      · have ho := HR.out
        obtain ⟨rfl, rfl, rfl, rfl, rfl, rfl, rfl, rfl, rfl⟩ := resL_none ho (fit4_none (fun h => hf h.2.1))
        clear ho hf HR
        obtain ⟨c_r0, c_r1, c_r2, c_r3, c_r4, c_r5, c_r6, c_r7⟩ := m78.c8
        obtain ⟨f_r0, f_r1, f_r2, f_r3, f_r4, f_r5, f_r6, f_r7⟩ := m78.f8
        go_wp2_with fail
        have hR82 := m78.s8 (.int .i64 0) (.int .i64 0) (.int .i64 0) (.int .i64 0) (.int .i64 0) (.int .i64 0) (.int .i64 0) (.int .i64 0)
        obtain ⟨s0, s1, s2, s3, s4, s5, s6, s7⟩ := hR82.c8
        exact bodyPost_ret (v := .tuple #[.agg #[.int .i64 0, .int .i64 0, .int .i64 0, .int .i64 0, .int .i64 0, .int .i64 0, .int .i64 0, .int .i64 0], .int .i64 2]) (by simp [results, Try.results86, go_sem, s0, s1, s2, s3, s4, s5, s6, s7]) rfl ⟨rfl, below_s8 B80 (by omega) _ _ _ _ _ _ _ _⟩
      · have HS2 : Hid (CombAt w W11.heap.size x0 x1 x2 x3 x4 x5 x6 x7 (Fit (l.k * m.k)) (Fit (l.t * m.t)) (Fit (l.v * m.v)) (Fit (l.a * m.a)) (.int .i64 2) W76) := Lib.hid ⟨2, rfl, by omega, fun _ => G0.out (by omega), fun _ => hf, by omega, by omega, m78, m77, B80, by omega⟩
        clear hf hx m78 m77 m79 B80
        go_wp2_with fail
        go_roundw
        case rel => exact HS2.out
        case measure => simp [intOf]
    · have mc2 : BoxL wr (W11.heap.size) #[.int .i64 x0, .int .i64 x1, .int .i64 x2, .int .i64 x3, .int .i64 0, .int .i64 0, .int .i64 0, .int .i64 0] := mc
      clear mc
      have G0 := Lib.hid F0
      have G1 := Lib.hid F1
      have G2 := Lib.hid F2
      have G3 := Lib.hid F3
      clear F0 F1 F2 F3
      go_upto_region 7 with fail
      have m83 := BoxL.new wr #[.int .i64 a4, .int .i64 a5, .int .i64 b4, .int .i64 b5] 135
      have hb84 := (Below.refl wr.heap.size wr).alloc (Nat.le_refl _) (.cells #[.int .i64 a4, .int .i64 a5, .int .i64 b4, .int .i64 b5] 135)
      have lt86 := mr.lt
      have lt87 := mc2.lt
      have m88 := mr.keep hb84
      have m89 := mc2.keep hb84
      have B90 := B.trans (hb84.mono B.size)
      have sz91 := hb84.size
      clear mr mc2 B hb84
      generalize wr.alloc (.cells #[.int .i64 a4, .int .i64 a5, .int .i64 b4, .int .i64 b5] 135) = W85 at *
      have lt92 := m83.lt
      obtain ⟨c_pair0, c_pair1, c_pair2, c_pair3⟩ := m83.c4
      go_wp2_with fail
      refine (A2.out.at _).mono ?_
      rintro o W93 ⟨rfl, hb94⟩
      clear c_pair0 c_pair1 c_pair2 c_pair3
      have m95 := m88.keep hb94
      have m96 := m89.keep hb94
      have m97 := m83.keep hb94
      have B98 := B90.trans (hb94.mono B90.size)
      have sz99 := hb94.size
      clear m88 m89 m83 B90 hb94
      obtain ⟨c_c0, c_c1, c_c2, c_c3, c_c4, c_c5, c_c6, c_c7⟩ := m96.c8
      obtain ⟨f_c0, f_c1, f_c2, f_c3, f_c4, f_c5, f_c6, f_c7⟩ := m96.f8
      go_upto_region 8 with fail
      clear c_c0 c_c1 c_c2 c_c3 c_c4 c_c5 c_c6 c_c7 f_c0 f_c1 f_c2 f_c3 f_c4 f_c5 f_c6 f_c7
      have m101 : BoxL ((W93.setCell ⟨W11.heap.size, 4, none⟩ (.int .i64 x4)).setCell ⟨W11.heap.size, 5, none⟩ (.int .i64 x5)) (W11.heap.size) #[.int .i64 x0, .int .i64 x1, .int .i64 x2, .int .i64 x3, .int .i64 x4, .int .i64 x5, .int .i64 0, .int .i64 0] := m96.setPart [.int .i64 x4, .int .i64 x5] 4 (by simp)
      have m102 : BoxL ((W93.setCell ⟨W11.heap.size, 4, none⟩ (.int .i64 x4)).setCell ⟨W11.heap.size, 5, none⟩ (.int .i64 x5)) ((w.heap.size + 1 + 1)) #[.int .i64 0, .int .i64 0, .int .i64 0, .int .i64 0, .int .i64 0, .int .i64 0, .int .i64 0, .int .i64 0] := m95.setFar (b := W11.heap.size) (by omega) [.int .i64 x4, .int .i64 x5] 4
      have m103 : BoxL ((W93.setCell ⟨W11.heap.size, 4, none⟩ (.int .i64 x4)).setCell ⟨W11.heap.size, 5, none⟩ (.int .i64 x5)) (wr.heap.size) #[.int .i64 a4, .int .i64 a5, .int .i64 b4, .int .i64 b5] := m97.setFar (b := W11.heap.size) (by omega) [.int .i64 x4, .int .i64 x5] 4
      have B104 : Below w.heap.size w ((W93.setCell ⟨W11.heap.size, 4, none⟩ (.int .i64 x4)).setCell ⟨W11.heap.size, 5, none⟩ (.int .i64 x5)) := below_setAll (b := W11.heap.size) (by omega) [.int .i64 x4, .int .i64 x5] _ 4 B98
      have lt105 := m101.lt
      generalize ((W93.setCell ⟨W11.heap.size, 4, none⟩ (.int .i64 x4)).setCell ⟨W11.heap.size, 5, none⟩ (.int .i64 x5)) = W100 at *
      clear m96 m95 m97 B98
      rcases C2.out with ⟨hf, hx, rfl⟩ | ⟨hf, rfl, rfl, rfl⟩
      rotate_left
      · have ho := HR.out
        obtain ⟨rfl, rfl, rfl, rfl, rfl, rfl, rfl, rfl, rfl⟩ := resL_none ho (fit4_none (fun h => hf h.2.2.1))
        clear ho hf HR
        obtain ⟨c_r0, c_r1, c_r2, c_r3, c_r4, c_r5, c_r6, c_r7⟩ := m102.c8
        obtain ⟨f_r0, f_r1, f_r2, f_r3, f_r4, f_r5, f_r6, f_r7⟩ := m102.f8
        go_wp2_with fail
        have hR106 := m102.s8 (.int .i64 0) (.int .i64 0) (.int .i64 0) (.int .i64 0) (.int .i64 0) (.int .i64 0) (.int .i64 0) (.int .i64 0)
        obtain ⟨s0, s1, s2, s3, s4, s5, s6, s7⟩ := hR106.c8
        exact bodyPost_ret (v := .tuple #[.agg #[.int .i64 0, .int .i64 0, .int .i64 0, .int .i64 0, .int .i64 0, .int .i64 0, .int .i64 0, .int .i64 0], .int .i64 2]) (by simp [results, Try.results86, go_sem, s0, s1, s2, s3, s4, s5, s6, s7]) rfl ⟨rfl, below_s8 B104 (by omega) _ _ _ _ _ _ _ _⟩
      · have HS2 : Hid (CombAt w W11.heap.size x0 x1 x2 x3 x4 x5 x6 x7 (Fit (l.k * m.k)) (Fit (l.t * m.t)) (Fit (l.v * m.v)) (Fit (l.a * m.a)) (.int .i64 3) W100) := Lib.hid ⟨3, rfl, by omega, fun _ => G0.out (by omega), fun _ => G1.out (by omega), fun _ => hf, by omega, m102, m101, B104, by omega⟩
        clear hf hx m102 m101 m103 B104
        go_wp2_with fail
        go_roundw
        case rel => exact HS2.out
        case measure => simp [intOf]
    · have mc2 : BoxL wr (W11.heap.size) #[.int .i64 x0, .int .i64 x1, .int .i64 x2, .int .i64 x3, .int .i64 x4, .int .i64 x5, .int .i64 0, .int .i64 0] := mc
      clear mc
      have G0 := Lib.hid F0
      have G1 := Lib.hid F1
      have G2 := Lib.hid F2
      have G3 := Lib.hid F3
      clear F0 F1 F2 F3
      go_upto_region 7 with fail
      have m107 := BoxL.new wr #[.int .i64 a6, .int .i64 a7, .int .i64 b6, .int .i64 b7] 135
      have hb108 := (Below.refl wr.heap.size wr).alloc (Nat.le_refl _) (.cells #[.int .i64 a6, .int .i64 a7, .int .i64 b6, .int .i64 b7] 135)
      have lt110 := mr.lt
      have lt111 := mc2.lt
      have m112 := mr.keep hb108
      have m113 := mc2.keep hb108
      have B114 := B.trans (hb108.mono B.size)
      have sz115 := hb108.size
      clear mr mc2 B hb108
      generalize wr.alloc (.cells #[.int .i64 a6, .int .i64 a7, .int .i64 b6, .int .i64 b7] 135) = W109 at *
      have lt116 := m107.lt
      obtain ⟨c_pair0, c_pair1, c_pair2, c_pair3⟩ := m107.c4
      go_wp2_with fail
      refine (A3.out.at _).mono ?_
      rintro o W117 ⟨rfl, hb118⟩
      clear c_pair0 c_pair1 c_pair2 c_pair3
      have m119 := m112.keep hb118
      have m120 := m113.keep hb118
      have m121 := m107.keep hb118
      have B122 := B114.trans (hb118.mono B114.size)
      have sz123 := hb118.size
      clear m112 m113 m107 B114 hb118
      obtain ⟨c_c0, c_c1, c_c2, c_c3, c_c4, c_c5, c_c6, c_c7⟩ := m120.c8
      obtain ⟨f_c0, f_c1, f_c2, f_c3, f_c4, f_c5, f_c6, f_c7⟩ := m120.f8
      go_upto_region 8 with fail
      clear c_c0 c_c1 c_c2 c_c3 c_c4 c_c5 c_c6 c_c7 f_c0 f_c1 f_c2 f_c3 f_c4 f_c5 f_c6 f_c7
      have m125 : BoxL ((W117.setCell ⟨W11.heap.size, 6, none⟩ (.int .i64 x6)).setCell ⟨W11.heap.size, 7, none⟩ (.int .i64 x7)) (W11.heap.size) #[.int .i64 x0, .int .i64 x1, .int .i64 x2, .int .i64 x3, .int .i64 x4, .int .i64 x5, .int .i64 x6, .int .i64 x7] := m120.setPart [.int .i64 x6, .int .i64 x7] 6 (by simp)
      have m126 : BoxL ((W117.setCell ⟨W11.heap.size, 6, none⟩ (.int .i64 x6)).setCell ⟨W11.heap.size, 7, none⟩ (.int .i64 x7)) ((w.heap.size + 1 + 1)) #[.int .i64 0, .int .i64 0, .int .i64 0, .int .i64 0, .int .i64 0, .int .i64 0, .int .i64 0, .int .i64 0] := m119.setFar (b := W11.heap.size) (by omega) [.int .i64 x6, .int .i64 x7] 6
      have m127 : BoxL ((W117.setCell ⟨W11.heap.size, 6, none⟩ (.int .i64 x6)).setCell ⟨W11.heap.size, 7, none⟩ (.int .i64 x7)) (wr.heap.size) #[.int .i64 a6, .int .i64 a7, .int .i64 b6, .int .i64 b7] := m121.setFar (b := W11.heap.size) (by omega) [.int .i64 x6, .int .i64 x7] 6
      have B128 : Below w.heap.size w ((W117.setCell ⟨W11.heap.size, 6, none⟩ (.int .i64 x6)).setCell ⟨W11.heap.size, 7, none⟩ (.int .i64 x7)) := below_setAll (b := W11.heap.size) (by omega) [.int .i64 x6, .int .i64 x7] _ 6 B122
      have lt129 := m125.lt
      generalize ((W117.setCell ⟨W11.heap.size, 6, none⟩ (.int .i64 x6)).setCell ⟨W11.heap.size, 7, none⟩ (.int .i64 x7)) = W124 at *
      clear m120 m119 m121 B122
      rcases C3.out with ⟨hf, hx, rfl⟩ | ⟨hf, rfl, rfl, rfl⟩
      rotate_left
      · have ho := HR.out
        obtain ⟨rfl, rfl, rfl, rfl, rfl, rfl, rfl, rfl, rfl⟩ := resL_none ho (fit4_none (fun h => hf h.2.2.2))
        clear ho hf HR
        obtain ⟨c_r0, c_r1, c_r2, c_r3, c_r4, c_r5, c_r6, c_r7⟩ := m126.c8
        obtain ⟨f_r0, f_r1, f_r2, f_r3, f_r4, f_r5, f_r6, f_r7⟩ := m126.f8
        go_wp2_with fail
        have hR130 := m126.s8 (.int .i64 0) (.int .i64 0) (.int .i64 0) (.int .i64 0) (.int .i64 0) (.int .i64 0) (.int .i64 0) (.int .i64 0)
        obtain ⟨s0, s1, s2, s3, s4, s5, s6, s7⟩ := hR130.c8
        exact bodyPost_ret (v := .tuple #[.agg #[.int .i64 0, .int .i64 0, .int .i64 0, .int .i64 0, .int .i64 0, .int .i64 0, .int .i64 0, .int .i64 0], .int .i64 2]) (by simp [results, Try.results86, go_sem, s0, s1, s2, s3, s4, s5, s6, s7]) rfl ⟨rfl, below_s8 B128 (by omega) _ _ _ _ _ _ _ _⟩
      · have HS2 : Hid (CombAt w W11.heap.size x0 x1 x2 x3 x4 x5 x6 x7 (Fit (l.k * m.k)) (Fit (l.t * m.t)) (Fit (l.v * m.v)) (Fit (l.a * m.a)) (.int .i64 4) W124) := Lib.hid ⟨4, rfl, by omega, fun _ => G0.out (by omega), fun _ => G1.out (by omega), fun _ => G2.out (by omega), fun _ => hf, m126, m125, B128, by omega⟩
        clear hf hx m126 m125 m127 B128
        go_wp2_with fail
        go_roundw
        case rel => exact HS2.out
        case measure => simp [intOf]
    · have mc2 : BoxL wr (W11.heap.size) #[.int .i64 x0, .int .i64 x1, .int .i64 x2, .int .i64 x3, .int .i64 x4, .int .i64 x5, .int .i64 x6, .int .i64 x7] := mc
      clear mc
      have f0 := F0 (by omega)
      have f1 := F1 (by omega)
      have f2 := F2 (by omega)
      have f3 := F3 (by omega)
      have ho := HR.out
      have hx0 : IsF (l.k * m.k) x0 x1 ∧ e0 = 0 := by
        rcases C0.out with h | h
        · exact h.2
        · exact absurd f0 h.1
      have hx1 : IsF (l.t * m.t) x2 x3 ∧ e1 = 0 := by
        rcases C1.out with h | h
        · exact h.2
        · exact absurd f1 h.1
      have hx2 : IsF (l.v * m.v) x4 x5 ∧ e2 = 0 := by
        rcases C2.out with h | h
        · exact h.2
        · exact absurd f2 h.1
      have hx3 : IsF (l.a * m.a) x6 x7 ∧ e3 = 0 := by
        rcases C3.out with h | h
        · exact h.2
        · exact absurd f3 h.1
      obtain ⟨rfl, rfl, rfl, rfl, rfl, rfl, rfl, rfl, rfl⟩ := resL_val ho (fit4_some f0 f1 f2 f3) ⟨hx0.1, hx1.1, hx2.1, hx3.1⟩
      clear ho f0 f1 f2 f3 hx0 hx1 hx2 hx3 F0 F1 F2 F3 HR
      obtain ⟨c_c0, c_c1, c_c2, c_c3, c_c4, c_c5, c_c6, c_c7⟩ := mc2.c8
      obtain ⟨c_r0, c_r1, c_r2, c_r3, c_r4, c_r5, c_r6, c_r7⟩ := mr.c8
      obtain ⟨f_r0, f_r1, f_r2, f_r3, f_r4, f_r5, f_r6, f_r7⟩ := mr.f8
      go_wp2_with fail
      have hR131 := mr.s8 (.int .i64 r0) (.int .i64 r1) (.int .i64 r2) (.int .i64 r3) (.int .i64 r4) (.int .i64 r5) (.int .i64 r6) (.int .i64 r7)
      obtain ⟨s0, s1, s2, s3, s4, s5, s6, s7⟩ := hR131.c8
      exact bodyPost_ret (v := .tuple #[.agg #[.int .i64 r0, .int .i64 r1, .int .i64 r2, .int .i64 r3, .int .i64 r4, .int .i64 r5, .int .i64 r6, .int .i64 r7], .int .i64 0]) (by simp [results, Try.results86, go_sem, s0, s1, s2, s3, s4, s5, s6, s7]) rfl ⟨rfl, below_s8 B (by omega) _ _ _ _ _ _ _ _⟩

set_option maxRecDepth 100000 in
set_option maxHeartbeats 2000000 in
theorem add_ {l m : LQ} {a0 a1 a2 a3 a4 a5 a6 a7 b0 b1 b2 b3 b4 b5 b6 b7 r0 r1 r2 r3 r4 r5 r6 r7 e : Int} (hl : IsL l a0 a1 a2 a3 a4 a5 a6 a7) (hm : IsL m b0 b1 b2 b3 b4 b5 b6 b7) (hr : ResL (l.add m) r0 r1 r2 r3 r4 r5 r6 r7 e) : Does 57 #[.agg #[.int .i64 a0, .int .i64 a1, .int .i64 a2, .int .i64 a3, .int .i64 a4, .int .i64 a5, .int .i64 a6, .int .i64 a7], .agg #[.int .i64 b0, .int .i64 b1, .int .i64 b2, .int .i64 b3, .int .i64 b4, .int .i64 b5, .int .i64 b6, .int .i64 b7]] (.tuple #[.agg #[.int .i64 r0, .int .i64 r1, .int .i64 r2, .int .i64 r3, .int .i64 r4, .int .i64 r5, .int .i64 r6, .int .i64 r7], .int .i64 e]) := by
  intro w
  have H := combine_sum hl hm hr
  clear hl hm hr
  go_enter Try.func57, Try.ntmps57
  go_upto_region 1 with fail
  have hst := start3 w (#[.int .i64 a0, .int .i64 a1, .int .i64 a2, .int .i64 a3, .int .i64 a4, .int .i64 a5, .int .i64 a6, .int .i64 a7]) (#[.int .i64 b0, .int .i64 b1, .int .i64 b2, .int .i64 b3, .int .i64 b4, .int .i64 b5, .int .i64 b6, .int .i64 b7]) (#[.int .i64 0, .int .i64 0, .int .i64 0, .int .i64 0, .int .i64 0, .int .i64 0, .int .i64 0, .int .i64 0]) 25 25 25
  generalize (((w.alloc (.cells #[.int .i64 a0, .int .i64 a1, .int .i64 a2, .int .i64 a3, .int .i64 a4, .int .i64 a5, .int .i64 a6, .int .i64 a7] 25)).alloc (.cells #[.int .i64 b0, .int .i64 b1, .int .i64 b2, .int .i64 b3, .int .i64 b4, .int .i64 b5, .int .i64 b6, .int .i64 b7] 25)).alloc (.cells #[.int .i64 0, .int .i64 0, .int .i64 0, .int .i64 0, .int .i64 0, .int .i64 0, .int .i64 0, .int .i64 0] 25)) = W5 at *
  obtain ⟨m1, m2, m3, B4⟩ := hst
  have lt6 := m1.lt
  have lt7 := m2.lt
  have lt8 := m3.lt
  obtain ⟨c_l0, c_l1, c_l2, c_l3, c_l4, c_l5, c_l6, c_l7⟩ := m1.c8
  obtain ⟨c_m0, c_m1, c_m2, c_m3, c_m4, c_m5, c_m6, c_m7⟩ := m2.c8
  go_wp2_with fail
  refine (H.at _).mono ?_
  rintro o W9 ⟨rfl, hb10⟩
  clear c_l0 c_l1 c_l2 c_l3 c_l4 c_l5 c_l6 c_l7
  clear c_m0 c_m1 c_m2 c_m3 c_m4 c_m5 c_m6 c_m7
  have m11 := m1.keep hb10
  have m12 := m2.keep hb10
  have m13 := m3.keep hb10
  have B14 := B4.trans (hb10.mono B4.size)
  have sz15 := hb10.size
  clear m1 m2 m3 B4 hb10
  obtain ⟨c_r0, c_r1, c_r2, c_r3, c_r4, c_r5, c_r6, c_r7⟩ := m13.c8
  obtain ⟨f_r0, f_r1, f_r2, f_r3, f_r4, f_r5, f_r6, f_r7⟩ := m13.f8
  go_wp2_with fail
  have hR16 := m13.s8 (.int .i64 r0) (.int .i64 r1) (.int .i64 r2) (.int .i64 r3) (.int .i64 r4) (.int .i64 r5) (.int .i64 r6) (.int .i64 r7)
  obtain ⟨s0, s1, s2, s3, s4, s5, s6, s7⟩ := hR16.c8
  exact bodyPost_ret (v := .tuple #[.agg #[.int .i64 r0, .int .i64 r1, .int .i64 r2, .int .i64 r3, .int .i64 r4, .int .i64 r5, .int .i64 r6, .int .i64 r7], .int .i64 e]) (by simp [results, Try.results57, go_sem, s0, s1, s2, s3, s4, s5, s6, s7]) rfl ⟨rfl, below_s8 B14 (by omega) _ _ _ _ _ _ _ _⟩

set_option maxRecDepth 100000 in
set_option maxHeartbeats 2000000 in
theorem scale_ {l : LQ} {q : Rat} {a0 a1 a2 a3 a4 a5 a6 a7 q0 q1 r0 r1 r2 r3 r4 r5 r6 r7 e : Int} (hl : IsL l a0 a1 a2 a3 a4 a5 a6 a7) (hq : IsF q q0 q1) (hr : ResL (l.scale q) r0 r1 r2 r3 r4 r5 r6 r7 e) : Does 65 #[.agg #[.int .i64 a0, .int .i64 a1, .int .i64 a2, .int .i64 a3, .int .i64 a4, .int .i64 a5, .int .i64 a6, .int .i64 a7], .agg #[.int .i64 q0, .int .i64 q1]] (.tuple #[.agg #[.int .i64 r0, .int .i64 r1, .int .i64 r2, .int .i64 r3, .int .i64 r4, .int .i64 r5, .int .i64 r6, .int .i64 r7], .int .i64 e]) := by
  intro w
  have H := combine_prod (m := ⟨q, q, q, q⟩) hl ⟨hq, hq, hq, hq⟩ hr
  have U := uniform_ q0 q1
  clear hl hq hr
  go_enter Try.func65, Try.ntmps65
  go_upto_region 1 with fail
  have hst := start3 w (#[.int .i64 a0, .int .i64 a1, .int .i64 a2, .int .i64 a3, .int .i64 a4, .int .i64 a5, .int .i64 a6, .int .i64 a7]) (#[.int .i64 q0, .int .i64 q1]) (#[.int .i64 0, .int .i64 0, .int .i64 0, .int .i64 0, .int .i64 0, .int .i64 0, .int .i64 0, .int .i64 0]) 25 23 25
  generalize (((w.alloc (.cells #[.int .i64 a0, .int .i64 a1, .int .i64 a2, .int .i64 a3, .int .i64 a4, .int .i64 a5, .int .i64 a6, .int .i64 a7] 25)).alloc (.cells #[.int .i64 q0, .int .i64 q1] 23)).alloc (.cells #[.int .i64 0, .int .i64 0, .int .i64 0, .int .i64 0, .int .i64 0, .int .i64 0, .int .i64 0, .int .i64 0] 25)) = W5 at *
  obtain ⟨m1, m2, m3, B4⟩ := hst
  have lt6 := m1.lt
  have lt7 := m2.lt
  have lt8 := m3.lt
  refine wp_region_free0 (agf := ?fr9) 6 (by kernel_rfl) [5] (by kernel_rfl) (fun d _ _ _ _ h => by cases d <;> exact h) ?fr91 ?fr92
  case fr91 =>
    intro W hW
    obtain ⟨c_l0, c_l1, c_l2, c_l3, c_l4, c_l5, c_l6, c_l7⟩ := m1.l8 hW
    obtain ⟨c_f0, c_f1⟩ := m2.l2 hW
    simp only [List.take_succ_cons, List.take_zero, ghostL, List.contains_cons, List.contains_nil, Nat.reduceAdd, Nat.reduceBEq, Bool.or_false, Bool.false_eq_true, if_false, if_true, ghostO]
    repeat (go_big_quiet_step (((first | (go_at_call 56; with_reducible exact later_of ((U.at _))) | (go_at_call 86; with_reducible exact later_of ((H.at _)))))))
    refine wpQuiet_nil ?_
    rfl
  case fr92 =>
    intro W10 hb11
    simp only [List.drop_succ_cons, List.drop_zero, Act.put, List.setIfInBounds_toArray, List.set_cons_succ, List.set_cons_zero]
    have m12 := m1.keep hb11
    have m13 := m2.keep hb11
    have m14 := m3.keep hb11
    have B15 := B4.trans (hb11.mono B4.size)
    have sz16 := hb11.size
    clear m1 m2 m3 B4 hb11
    obtain ⟨c_r0, c_r1, c_r2, c_r3, c_r4, c_r5, c_r6, c_r7⟩ := m14.c8
    obtain ⟨f_r0, f_r1, f_r2, f_r3, f_r4, f_r5, f_r6, f_r7⟩ := m14.f8
    go_wp2_with fail
    have hR17 := m14.s8 (.int .i64 r0) (.int .i64 r1) (.int .i64 r2) (.int .i64 r3) (.int .i64 r4) (.int .i64 r5) (.int .i64 r6) (.int .i64 r7)
    obtain ⟨s0, s1, s2, s3, s4, s5, s6, s7⟩ := hR17.c8
    exact bodyPost_ret (v := .tuple #[.agg #[.int .i64 r0, .int .i64 r1, .int .i64 r2, .int .i64 r3, .int .i64 r4, .int .i64 r5, .int .i64 r6, .int .i64 r7], .int .i64 e]) (by simp [results, Try.results65, go_sem, s0, s1, s2, s3, s4, s5, s6, s7]) rfl ⟨rfl, below_s8 B15 (by omega) _ _ _ _ _ _ _ _⟩

end Fr
end Go.Proofs.Ytojkaaglmdfcnaa
