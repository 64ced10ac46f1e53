/- Statement FractionLimits: the walk. -/
import Derived.Test.YtcecdmooojkmoaaDoorF9
import Derived.Deep.DeepCutAuto
namespace Go.Proofs.YtcecdmooojkmoaaDoor
open Go.RowKit Go.Shelf Go.Sort
namespace Fr
set_option linter.unusedVariables false

theorem exp_of {p : Int} (h0 : 0 ≤ p) : p.tmod 125 = p % 125 := Int.tmod_eq_emod_of_nonneg h0

/-- What the operations on two powers return. -/
structure LimC (a b : Int) : Prop where
  m : ∀ W : World, Calls Tryd.prog 12 #[.agg #[.int .i64 (wN a), .int .i64 (wD a)], .agg #[.int .i64 (wN b), .int .i64 (wD b)]] W fun o w' => o = .returned (.agg #[.int .i64 (rN (pw a * pw b)), .int .i64 (rD (pw a * pw b)), .int .i64 (rE (pw a * pw b))]) ∧ Below W.heap.size W w'
  d : ∀ W : World, Calls Tryd.prog 15 #[.agg #[.int .i64 (wN a), .int .i64 (wD a)], .agg #[.int .i64 (wN b), .int .i64 (wD b)]] W fun o w' => o = .returned (.agg #[.int .i64 (rN (pw a / pw b)), .int .i64 (rD (pw a / pw b)), .int .i64 (rE (pw a / pw b))]) ∧ Below W.heap.size W w'
  s : ∀ W : World, Calls Tryd.prog 11 #[.agg #[.int .i64 (wN a), .int .i64 (wD a)], .agg #[.int .i64 (wN b), .int .i64 (wD b)]] W fun o w' => o = .returned (.agg #[.int .i64 (rN (pw a + pw b)), .int .i64 (rD (pw a + pw b)), .int .i64 (rE (pw a + pw b))]) ∧ Below W.heap.size W w'
  pm : chkP (pw a * pw b) (a + b) = true
  pd : chkP (pw a / pw b) (a - b) = true
  ps : (rE (pw a + pw b) == if fitS a b then 0 else 2) = true
  pa : ∀ W : World, Calls Tryd.prog 27 #[.int .i64 a] W fun o w' => o = .returned (.agg #[.int .i64 (wN a), .int .i64 (wD a)]) ∧ Below W.heap.size W w'
  pb : ∀ W : World, Calls Tryd.prog 27 #[.int .i64 b] W fun o w' => o = .returned (.agg #[.int .i64 (wN b), .int .i64 (wD b)]) ∧ Below W.heap.size W w'

theorem wN_ne {n : Int} : wN n ≠ 0 := by
  unfold wN
  split
  · decide
  · have h2 : (0 : Nat) < 2 ^ n.toNat := Nat.pow_pos (by decide)
    have h3 : ((2 ^ n.toNat : Nat) : Int) = (2 : Int) ^ n.toNat := Int.natCast_pow 2 _
    omega

theorem limC {a b : Int} (ha : -62 ≤ a ∧ a ≤ 62) (hb : -62 ≤ b ∧ b ≤ 62) : LimC a b := by
  have h := chk2_at ha hb
  unfold chk2 at h
  rw [Bool.and_eq_true, Bool.and_eq_true] at h
  exact ⟨lmul_q (isF_pw ha) (isF_pw hb), ldiv_q (isF_pw ha) (isF_pw hb) wN_ne, ladd_q (isF_pw ha) (isF_pw hb), h.1.1, h.1.2, h.2, power_any ha, power_any hb⟩

theorem field_frac (N D E : Int) (w : World) : (Instr.field 29 (.agg #[.int .i64 N, .int .i64 D, .int .i64 E]) 0).run Tryd.prog w = .ok (.agg #[.int .i64 N, .int .i64 D]) w := by kernel_rfl

theorem Box2.set0 {W : World} {b : Nat} {u v : Value} (h : Box2 W b u v) (u' : Value) : Box2 (W.setCell ⟨b, 0, none⟩ u') b u' v :=
  ⟨by simpa using h.lt, World.cell?_setCell_same _ _ _ h.c0, (World.cell?_setCell_other _ _ _ _ (by simp)).trans h.c1, by simpa using h.f0, by simpa using h.f1⟩

/-- The calls at the limits. -/
structure TopC : Prop where
  a1 : ∀ W : World, Calls Tryd.prog 11 #[.agg #[.int .i64 4611686018427387904, .int .i64 1], .agg #[.int .i64 1, .int .i64 1]] W fun o w' => o = .returned (.agg #[.int .i64 0, .int .i64 0, .int .i64 2]) ∧ Below W.heap.size W w'
  s1 : ∀ W : World, Calls Tryd.prog 14 #[.agg #[.int .i64 4611686018427387904, .int .i64 1], .agg #[.int .i64 1, .int .i64 1]] W fun o w' => o = .returned (.agg #[.int .i64 4611686018427387903, .int .i64 1, .int .i64 0]) ∧ Below W.heap.size W w'
  b1 : ∀ W : World, Calls Tryd.prog 11 #[.agg #[.int .i64 4611686018427387903, .int .i64 1], .agg #[.int .i64 1, .int .i64 1]] W fun o w' => o = .returned (.agg #[.int .i64 4611686018427387904, .int .i64 1, .int .i64 0]) ∧ Below W.heap.size W w'
  h1 : ∀ W : World, Calls Tryd.prog 14 #[.agg #[.int .i64 4611686018427387904, .int .i64 1], .agg #[.int .i64 1, .int .i64 2]] W fun o w' => o = .returned (.agg #[.int .i64 0, .int .i64 0, .int .i64 2]) ∧ Below W.heap.size W w'
  a2 : ∀ W : World, Calls Tryd.prog 11 #[.agg #[.int .i64 (-4611686018427387904), .int .i64 1], .agg #[.int .i64 (-1), .int .i64 1]] W fun o w' => o = .returned (.agg #[.int .i64 0, .int .i64 0, .int .i64 2]) ∧ Below W.heap.size W w'
  s2 : ∀ W : World, Calls Tryd.prog 14 #[.agg #[.int .i64 (-4611686018427387904), .int .i64 1], .agg #[.int .i64 (-1), .int .i64 1]] W fun o w' => o = .returned (.agg #[.int .i64 (-4611686018427387903), .int .i64 1, .int .i64 0]) ∧ Below W.heap.size W w'
  b2 : ∀ W : World, Calls Tryd.prog 11 #[.agg #[.int .i64 (-4611686018427387903), .int .i64 1], .agg #[.int .i64 (-1), .int .i64 1]] W fun o w' => o = .returned (.agg #[.int .i64 (-4611686018427387904), .int .i64 1, .int .i64 0]) ∧ Below W.heap.size W w'
  h2 : ∀ W : World, Calls Tryd.prog 14 #[.agg #[.int .i64 (-4611686018427387904), .int .i64 1], .agg #[.int .i64 1, .int .i64 2]] W fun o w' => o = .returned (.agg #[.int .i64 0, .int .i64 0, .int .i64 2]) ∧ Below W.heap.size W w'

theorem top_add {n d m k N D E : Int} (ha : IsF (Rat.divInt n d) n d) (hb : IsF (Rat.divInt m k) m k) (e : rN (Rat.divInt n d + Rat.divInt m k) = N ∧ rD (Rat.divInt n d + Rat.divInt m k) = D ∧ rE (Rat.divInt n d + Rat.divInt m k) = E) (W : World) :
    Calls Tryd.prog 11 #[.agg #[.int .i64 n, .int .i64 d], .agg #[.int .i64 m, .int .i64 k]] W fun o w' => o = .returned (.agg #[.int .i64 N, .int .i64 D, .int .i64 E]) ∧ Below W.heap.size W w' := by
  have := ladd_q ha hb W
  rwa [e.1, e.2.1, e.2.2] at this
theorem top_sub {n d m k N D E : Int} (ha : IsF (Rat.divInt n d) n d) (hb : IsF (Rat.divInt m k) m k) (e : rN (Rat.divInt n d - Rat.divInt m k) = N ∧ rD (Rat.divInt n d - Rat.divInt m k) = D ∧ rE (Rat.divInt n d - Rat.divInt m k) = E) (W : World) :
    Calls Tryd.prog 14 #[.agg #[.int .i64 n, .int .i64 d], .agg #[.int .i64 m, .int .i64 k]] W fun o w' => o = .returned (.agg #[.int .i64 N, .int .i64 D, .int .i64 E]) ∧ Below W.heap.size W w' := by
  have := lsub_q ha hb W
  rwa [e.1, e.2.1, e.2.2] at this

theorem top_e : IsF (Rat.divInt (-4611686018427387904) 1) (-4611686018427387904) 1 := isF_mk (by decide) (by decide) (by decide) (by decide)
theorem top_o : IsF (Rat.divInt (-1) 1) (-1) 1 := isF_mk (by decide) (by decide) (by decide) (by decide)
theorem top_b : IsF (Rat.divInt 4611686018427387903 1) 4611686018427387903 1 := isF_mk (by decide) (by decide) (by decide) (by decide)
theorem top_n : IsF (Rat.divInt (-4611686018427387903) 1) (-4611686018427387903) 1 := isF_mk (by decide) (by decide) (by decide) (by decide)
theorem top_h : IsF (Rat.divInt 1 2) 1 2 := isF_mk (by decide) (by decide) (by decide) (by decide)

theorem topC : TopC where
  a1 := top_add ex_big ex_one (by decide +kernel)
  s1 := top_sub ex_big ex_one (by decide +kernel)
  b1 := top_add top_b ex_one (by decide +kernel)
  h1 := top_sub ex_big top_h (by decide +kernel)
  a2 := top_add top_e top_o (by decide +kernel)
  s2 := top_sub top_e top_o (by decide +kernel)
  b2 := top_add top_n top_o (by decide +kernel)
  h2 := top_sub top_e top_h (by decide +kernel)

set_option maxRecDepth 100000 in
set_option maxHeartbeats 4000000 in
theorem limits_walk (p q : Int) (neg : Bool) (w : World) (hp : 0 ≤ p ∧ p ≤ 255) (hq : 0 ≤ q ∧ q ≤ 255) (hv : Vars w) :
    Calls Tryd.prog 8 #[.int .u8 p, .int .u8 q, .bool neg] w fun o w' => o = .returned (.bool true) ∧ Below w.heap.size w w' := by
  have HEX := Lib.hid (examples_any _ hv)
  have hpr := exp_of hp.1
  have hqr := exp_of hq.1
  have hpw : IntKind.i64.wrap (p % 125 - 62) = p % 125 - 62 := IntWalk.i64_in _ (by omega)
  have hqw : IntKind.i64.wrap (q % 125 - 62) = q % 125 - 62 := IntWalk.i64_in _ (by omega)
  clear hv
  go_enter Tryd.func8, Tryd.ntmps8
  go_wp2_with fail
  refine HEX.out.mono ?_
  rintro o w1 ⟨rfl, B1⟩
  clear HEX
  go_wp2_with fail
  have ha : -62 ≤ p % 125 - 62 ∧ p % 125 - 62 ≤ 62 := by omega
  have hb : -62 ≤ q % 125 - 62 ∧ q % 125 - 62 ≤ 62 := by omega
  generalize p % 125 - 62 = a at *
  generalize q % 125 - 62 = b at *
  have HL := Lib.hid (limC ha hb)
  have hsw : IntKind.i64.wrap (a + b) = a + b := IntWalk.i64_in _ (by omega)
  have hdw : IntKind.i64.wrap (a - b) = a - b := IntWalk.i64_in _ (by omega)
  clear hp hq hpr hqr hpw hqw
  refine (HL.out.pa _).mono ?_
  rintro o w2 ⟨rfl, h2⟩
  have X2 := Box2.new w2 (.int .i64 (wN a)) (.int .i64 (wD a)) 25
  have B2 := (B1.trans (h2.mono B1.size)).alloc (B1.trans (h2.mono B1.size)).size (.cells #[.int .i64 (wN a), .int .i64 (wD a)] 25)
  clear h2 B1
  go_wp2_with fail
  refine (HL.out.pb _).mono ?_
  rintro o w3 ⟨rfl, h3⟩
  have X3 := (X2.keep h3).alloc (.cells #[.int .i64 (wN b), .int .i64 (wD b)] 25)
  have Y3 := Box2.new w3 (.int .i64 (wN b)) (.int .i64 (wD b)) 25
  have B3 := (B2.trans (h3.mono B2.size)).alloc (B2.trans (h3.mono B2.size)).size (.cells #[.int .i64 (wN b), .int .i64 (wD b)] 25)
  clear h3 B2 X2
  have x0 := X3.c0
  have x1 := X3.c1
  go_wp2_with fail
  refine (HL.out.m _).mono ?_
  rintro o w4 ⟨rfl, h4⟩
  obtain ⟨P, hP⟩ : ∃ P, pw a * pw b = P := ⟨_, rfl⟩
  have HPM := HL.out.pm
  rw [hP] at HPM ⊢
  have X4 := (X3.keep h4).alloc (.cells #[.int .i64 (rN P), .int .i64 (rD P), .int .i64 (rE P)] 29)
  have Y4 := (Y3.keep h4).alloc (.cells #[.int .i64 (rN P), .int .i64 (rD P), .int .i64 (rE P)] 29)
  have M4 := Box3.new w4 (.int .i64 (rN P)) (.int .i64 (rD P)) (.int .i64 (rE P)) 29
  have B4 := (B3.trans (h4.mono B3.size)).alloc (B3.trans (h4.mono B3.size)).size (.cells #[.int .i64 (rN P), .int .i64 (rD P), .int .i64 (rE P)] 29)
  clear h4 B3 X3 Y3 x0 x1 hP
  have x0 := X4.c0
  have x1 := X4.c1
  have y0 := Y4.c0
  have y1 := Y4.c1
  go_wp2_with fail
  refine (HL.out.d _).mono ?_
  rintro o w5 ⟨rfl, h5⟩
  obtain ⟨D, hD⟩ : ∃ D, pw a / pw b = D := ⟨_, rfl⟩
  have HPD := HL.out.pd
  rw [hD] at HPD ⊢
  have X5 := (X4.keep h5).alloc (.cells #[.int .i64 (rN D), .int .i64 (rD D), .int .i64 (rE D)] 29)
  have Y5 := (Y4.keep h5).alloc (.cells #[.int .i64 (rN D), .int .i64 (rD D), .int .i64 (rE D)] 29)
  have M5 := (M4.keep h5).alloc (.cells #[.int .i64 (rN D), .int .i64 (rD D), .int .i64 (rE D)] 29)
  have D5 := Box3.new w5 (.int .i64 (rN D)) (.int .i64 (rD D)) (.int .i64 (rE D)) 29
  have B5 := (B4.trans (h5.mono B4.size)).alloc (B4.trans (h5.mono B4.size)).size (.cells #[.int .i64 (rN D), .int .i64 (rD D), .int .i64 (rE D)] 29)
  clear h5 B4 X4 Y4 M4 x0 x1 y0 y1 hD
  go_upto_region 10 with fail
  generalize w5.alloc (.cells #[.int .i64 (rN D), .int .i64 (rD D), .int .i64 (rE D)] 29) = W0 at *
  have HM := chkP_cases HPM
  have HD := chkP_cases HPD
  clear HPM HPD
  generalize rN P = mn at *
  generalize rD P = md at *
  generalize rE P = me at *
  generalize rN D = dn at *
  generalize rD D = dd at *
  generalize rE D = de at *
  go_cut [99] (fun v wx => v = .bool false ∧ ∃ z : Later W0, wx = z.val)
  case first => as_aux_lemma =>
    obtain ⟨u0, u1, u2⟩ := M5.later
    obtain ⟨v0, v1, v2⟩ := D5.later
    clear X5 Y5 M5 D5 B5 HL
    have HPS : Hid (-62 ≤ a + b → a + b ≤ 62 → ∀ W : World, Calls Tryd.prog 27 #[.int .i64 (a + b)] W fun o w' => o = .returned (.agg #[.int .i64 (wN (a + b)), .int .i64 (wD (a + b))]) ∧ Below W.heap.size W w') := Lib.hid (fun h h' => power_any ⟨h, h'⟩)
    have HPT : Hid (-62 ≤ a - b → a - b ≤ 62 → ∀ W : World, Calls Tryd.prog 27 #[.int .i64 (a - b)] W fun o w' => o = .returned (.agg #[.int .i64 (wN (a - b)), .int .i64 (wD (a - b))]) ∧ Below W.heap.size W w') := Lib.hid (fun h h' => power_any ⟨h, h'⟩)
    obtain ⟨S, hS⟩ : ∃ S, a + b = S := ⟨_, rfl⟩
    obtain ⟨T, hT⟩ : ∃ T, a - b = T := ⟨_, rfl⟩
    rw [hS] at HM HPS
    rw [hT] at HD HPT
    have hsS : IntKind.i64.wrap (a + b) = S := hsw.trans hS
    have hdT : IntKind.i64.wrap (a - b) = T := hdw.trans hT
    clear hsw hdw hS hT
    rcases HM with ⟨m1, m2, rfl, rfl, rfl, m3, m4⟩ | ⟨m1, rfl⟩ | ⟨m1, m2, rfl⟩ <;> rcases HD with ⟨d1, d2, rfl, rfl, rfl, d3, d4⟩ | ⟨d1, rfl⟩ | ⟨d1, d2, rfl⟩
    all_goals as_aux_lemma =>
      refine wp_region_later (by kernel_rfl) (by kernel_rfl) ?_
      repeat (go_big_quiet_step (((go_at_call 27; first | with_reducible exact later_of (HPS.out (by assumption) (by assumption) _) | with_reducible exact later_of (HPT.out (by assumption) (by assumption) _)))))
      refine wpQuiet_nil ?_
      intro _ hw'
      obtain ⟨z, hw''⟩ := hw'
      subst hw''
      go_wp2_with fail
      go_meet
      case rel => exact ⟨rfl, z, rfl⟩
  case rest => as_aux_lemma =>
    obtain ⟨rfl, z, rfl⟩ := hcut
    have X6 := X5.keep z.below
    have Y6 := Y5.keep z.below
    have B6 := B5.trans (z.below.mono B5.size)
    generalize z.val = W1 at *
    have x0 := X6.c0
    have x1 := X6.c1
    have y0 := Y6.c0
    have y1 := Y6.c1
    clear X5 Y5 M5 D5 B5 HM HD z
    go_wp2_with fail
    refine (HL.out.s _).mono ?_
    rintro o w6 ⟨rfl, h6⟩
    have HPS := HL.out.ps
    generalize rN (pw a + pw b) = sn
    generalize rD (pw a + pw b) = sd
    generalize rE (pw a + pw b) = se at HPS ⊢
    have S7 := Box3.new w6 (.int .i64 sn) (.int .i64 sd) (.int .i64 se) 29
    have B7 := (B6.trans (h6.mono B6.size)).alloc (B6.trans (h6.mono B6.size)).size (.cells #[.int .i64 sn, .int .i64 sd, .int .i64 se] 29)
    clear X6 Y6 B6 h6 x0 x1 y0 y1 HL
    go_upto_region 15 with fail
    generalize w6.alloc (.cells #[.int .i64 sn, .int .i64 sd, .int .i64 se] 29) = W2 at *
    have hfw : IntKind.i64.wrap (max a b - min (min a b) 0) = max a b - min (min a b) 0 := IntWalk.i64_in _ (by omega)
    have hse : se = if (if max a b == min a b then decide (max a b ≤ 61) else decide (max a b ≤ 61) && decide (max a b - min (min a b) 0 ≤ 61)) then 0 else 2 := by
      have h := of_decide_eq_true (p := se = _) (by simpa using HPS)
      rw [h]
      unfold fitS
      by_cases hab : a = b
      · subst hab; simp
      · have : (max a b == min a b) = false := by simp; omega
        rw [if_neg hab, this]
        simp
    clear HPS
    generalize max a b = H at *
    generalize min a b = L at *
    go_cut [17] (fun v wx => v = .bool (decide (H ≤ 61) && decide (H - min L 0 ≤ 61)) ∧ wx = W2)
    case first => as_aux_lemma =>
      cases c1 : decide (H ≤ 61) <;> cases c2 : decide (H - min L 0 ≤ 61)
      all_goals
        go_wp2_with fail
        go_meet
        case rel => exact ⟨by rw [c1, c2]; rfl, rfl⟩
    case rest => as_aux_lemma =>
      obtain ⟨rfl, rfl⟩ := hcut
      generalize (decide (H ≤ 61) && decide (H - min L 0 ≤ 61)) = f1 at *
      go_upto_if 120 with fail
      go_cut [17] (fun v wx => v = .bool (if H == L then decide (H ≤ 61) else f1) ∧ wx = wc)
      case first => as_aux_lemma =>
        cases c3 : (H == L)
        all_goals
          go_wp2_with fail
          go_meet
          case rel => exact ⟨by first | rfl | (rw [c3]; rfl), rfl⟩
      case rest => as_aux_lemma =>
        obtain ⟨rfl, rfl⟩ := hcut
        generalize (if H == L then decide (H ≤ 61) else f1) = f2 at *
        have s0 := S7.c0
        have s1 := S7.c1
        have s2 := S7.c2
        go_upto_region 18 with fail
        go_cut [137] (fun v wx => v = .bool false ∧ wx = wc)
        case first => as_aux_lemma =>
          cases f2
          · have e2 : se = 2 := hse
            clear hse
            subst e2
            go_wp2_with fail
            go_meet
            case rel => exact ⟨rfl, rfl⟩
          · have e2 : se = 0 := hse
            clear hse
            subst e2
            go_wp2_with fail
            go_meet
            case rel => exact ⟨rfl, rfl⟩
        case rest => as_aux_lemma =>
          obtain ⟨rfl, rfl⟩ := hcut
          clear S7 s0 s1 s2 hse hfw ha hb hsw hdw
          have HT := Lib.hid topC
          go_wp2_with fail
          refine (most_any _).mono ?_
          rintro o w7 ⟨rfl, rfl⟩
          go_upto_region 22 with fail
          have O1 := (Box2.new wc (.int .i64 1) (.int .i64 1) 25).alloc (.cells #[.int .i64 4611686018427387904, .int .i64 1] 25)
          have E1 := Box2.newAt (W := wc.alloc (.cells #[.int .i64 1, .int .i64 1] 25)) (B := wc.heap.size + 1) (by simp) (.int .i64 4611686018427387904) (.int .i64 1) 25
          have B8 := (B7.alloc B7.size (.cells #[.int .i64 1, .int .i64 1] 25)).alloc (by have := B7.size; simp; omega) (.cells #[.int .i64 4611686018427387904, .int .i64 1] 25)
          have hlt : w.heap.size ≤ wc.heap.size := B7.size
          generalize (wc.alloc (.cells #[.int .i64 1, .int .i64 1] 25)).alloc (.cells #[.int .i64 4611686018427387904, .int .i64 1] 25) = W3 at *
          clear B7
          cases neg
          case false => as_aux_lemma =>
            have c0 := O1.c0
            have c1 := O1.c1
            have e0 := E1.c0
            have e1 := E1.c1
            go_wp2_with fail
            have O3 := O1
            have E3 := E1
            have B10 := B8
            refine (HT.out.s1 _).mono ?_
            rintro o w8 ⟨rfl, hb⟩
            have R9 := Box3.new w8 (.int .i64 4611686018427387903) (.int .i64 1) (.int .i64 0) 29
            have O9 := (O3.keep hb).alloc (.cells #[.int .i64 4611686018427387903, .int .i64 1, .int .i64 0] 29)
            have E9 := (E3.keep hb).alloc (.cells #[.int .i64 4611686018427387903, .int .i64 1, .int .i64 0] 29)
            have B9 := (B10.trans (hb.mono B10.size)).alloc (B10.trans (hb.mono B10.size)).size (.cells #[.int .i64 4611686018427387903, .int .i64 1, .int .i64 0] 29)
            clear O1 E1 O3 E3 B8 B10 hb
            try clear c0
            try clear c1
            try clear e0
            try clear e1
            go_upto_region 26 with fail
            generalize w8.alloc (.cells #[.int .i64 4611686018427387903, .int .i64 1, .int .i64 0] 29) = W5 at *
            have hfe := field_err
            have hff := field_frac
            obtain ⟨o0, o1⟩ := O9.later
            obtain ⟨e0, e1⟩ := E9.later
            obtain ⟨r0, r1, r2⟩ := R9.later
            refine wp_region_later (by kernel_rfl) (by kernel_rfl) ?_
            repeat (go_big_quiet_step (((first | (go_at_call 11; first | with_reducible exact later_of (HT.out.a1 _) | with_reducible exact later_of (HT.out.b1 _)) | (go_at_call 14; with_reducible exact later_of (HT.out.h1 _))))))
            refine wpQuiet_nil ?_
            intro _ hw'
            obtain ⟨z, hw''⟩ := hw'
            subst hw''
            have BZ := B9.trans (z.below.mono B9.size)
            go_wp2_with fail
            go_ret
            exact ⟨rfl, BZ⟩
          case true => as_aux_lemma =>
            have c0 := O1.c0
            have c1 := O1.c1
            have e0 := E1.c0
            have e1 := E1.c1
            have f0 := O1.f0
            have g0 := E1.f0
            go_wp2_with fail
            have O3 := (O1.set0 (.int .i64 (-1))).far (a := wc.heap.size + 1) (i := 0) (by omega) (.int .i64 (-4611686018427387904))
            have E3 := (E1.far (a := wc.heap.size) (i := 0) (by omega) (.int .i64 (-1))).set0 (.int .i64 (-4611686018427387904))
            have B10 := (B8.setCell (p := ⟨wc.heap.size, 0, none⟩) hlt (.int .i64 (-1))).setCell (p := ⟨wc.heap.size + 1, 0, none⟩) (by show _ ≤ wc.heap.size + 1; omega) (.int .i64 (-4611686018427387904))
            refine (HT.out.s2 _).mono ?_
            rintro o w8 ⟨rfl, hb⟩
            have R9 := Box3.new w8 (.int .i64 (-4611686018427387903)) (.int .i64 1) (.int .i64 0) 29
            have O9 := (O3.keep hb).alloc (.cells #[.int .i64 (-4611686018427387903), .int .i64 1, .int .i64 0] 29)
            have E9 := (E3.keep hb).alloc (.cells #[.int .i64 (-4611686018427387903), .int .i64 1, .int .i64 0] 29)
            have B9 := (B10.trans (hb.mono B10.size)).alloc (B10.trans (hb.mono B10.size)).size (.cells #[.int .i64 (-4611686018427387903), .int .i64 1, .int .i64 0] 29)
            clear O1 E1 O3 E3 B8 B10 hb
            try clear c0
            try clear c1
            try clear e0
            try clear e1
            go_upto_region 26 with fail
            generalize w8.alloc (.cells #[.int .i64 (-4611686018427387903), .int .i64 1, .int .i64 0] 29) = W5 at *
            have hfe := field_err
            have hff := field_frac
            obtain ⟨o0, o1⟩ := O9.later
            obtain ⟨e0, e1⟩ := E9.later
            obtain ⟨r0, r1, r2⟩ := R9.later
            refine wp_region_later (by kernel_rfl) (by kernel_rfl) ?_
            repeat (go_big_quiet_step (((first | (go_at_call 11; first | with_reducible exact later_of (HT.out.a2 _) | with_reducible exact later_of (HT.out.b2 _)) | (go_at_call 14; with_reducible exact later_of (HT.out.h2 _))))))
            refine wpQuiet_nil ?_
            intro _ hw'
            obtain ⟨z, hw''⟩ := hw'
            subst hw''
            have BZ := B9.trans (z.below.mono B9.size)
            go_wp2_with fail
            go_ret
            exact ⟨rfl, BZ⟩

end Fr
end Go.Proofs.YtcecdmooojkmoaaDoor
