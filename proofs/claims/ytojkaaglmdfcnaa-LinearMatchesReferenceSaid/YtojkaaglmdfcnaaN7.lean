/- What At and Range return. -/
import Derived.Test.YtojkaaglmdfcnaaN6
import Derived.Deep.DeepCutAuto
namespace Go.Proofs.Ytojkaaglmdfcnaa
open Go.RowKit Go.Shelf
namespace Fr
set_option linter.unusedVariables false


theorem zrF : Zr Try.prog 23 #[.int .i64 0, .int .i64 0] := fun w => by simp [Instr.alloc, go_sem]
theorem zrI : Zr Try.prog 27 #[.int .i64 0, .int .i64 0, .int .i64 0, .int .i64 0] := fun w => by simp [Instr.alloc, go_sem]

theorem index_p0 (p0 p1 p2 p3 p4 p5 : Int) (W : World) : (Instr.index 31 (.agg #[.int .i64 p0, .int .i64 p1, .int .i64 p2, .int .i64 p3, .int .i64 p4, .int .i64 p5]) (.int .i64 0)).run Try.prog W = .ok (.agg #[.int .i64 p0, .int .i64 p1]) W := by kernel_rfl
theorem index_p1 (p0 p1 p2 p3 p4 p5 : Int) (W : World) : (Instr.index 31 (.agg #[.int .i64 p0, .int .i64 p1, .int .i64 p2, .int .i64 p3, .int .i64 p4, .int .i64 p5]) (.int .i64 1)).run Try.prog W = .ok (.agg #[.int .i64 p2, .int .i64 p3]) W := by kernel_rfl
theorem index_p2 (p0 p1 p2 p3 p4 p5 : Int) (W : World) : (Instr.index 31 (.agg #[.int .i64 p0, .int .i64 p1, .int .i64 p2, .int .i64 p3, .int .i64 p4, .int .i64 p5]) (.int .i64 2)).run Try.prog W = .ok (.agg #[.int .i64 p4, .int .i64 p5]) W := by kernel_rfl
attribute [local go_sem] index_p0 index_p1 index_p2

theorem resF_none {o : Option Rat} {x y e : Int} (h : ResF o x y e) (ho : o = none) : x = 0 ∧ y = 0 ∧ e = 2 := by
  subst ho
  rcases h with ⟨q, h1, _⟩ | ⟨_, h⟩
  · cases h1
  · exact h
theorem resF_val {o : Option Rat} {x y e n d : Int} {q : Rat} (h : ResF o x y e) (ho : o = some q) (hq : IsF q n d) : x = n ∧ y = d ∧ e = 0 := by
  subst ho
  rcases h with ⟨r, h1, h2, h3⟩ | ⟨h1, _⟩
  · cases h1
    obtain ⟨e1, e2⟩ := isF_same h2 hq
    exact ⟨e1, e2, h3⟩
  · cases h1

/-- What holds at the head of the loop of At. -/
def AtAt (w : World) (B : Nat) (p0 p1 p2 p3 p4 p5 : Int) (ps : List (Rat × Rat)) (o : Option Rat) (i : Value) (wr : World) : Prop :=
  ∃ (k : Nat) (s : Rat) (sn sd : Int), i = .int .i64 k ∧ k ≤ 3 ∧ IsF s sn sd ∧ atO s (ps.drop k) = o ∧ BoxL wr (w.heap.size + 1) #[.int .i64 p0, .int .i64 p1, .int .i64 p2, .int .i64 p3, .int .i64 p4, .int .i64 p5] ∧ BoxL wr (w.heap.size + 1 + 1) #[.int .i64 0, .int .i64 0] ∧ BoxL wr B #[.int .i64 sn, .int .i64 sd] ∧ Below w.heap.size w wr ∧ w.heap.size + 1 + 1 < B
set_option maxRecDepth 100000 in
set_option maxHeartbeats 2000000 in
theorem at_ {l : LQ} {p : PQ} {a0 a1 a2 a3 a4 a5 a6 a7 p0 p1 p2 p3 p4 p5 x y e : Int} (hl : IsL l a0 a1 a2 a3 a4 a5 a6 a7) (hp : IsP p p0 p1 p2 p3 p4 p5) (hr : ResF (l.at p) x y e) : Does 59 #[.agg #[.int .i64 a0, .int .i64 a1, .int .i64 a2, .int .i64 a3, .int .i64 a4, .int .i64 a5, .int .i64 a6, .int .i64 a7], .agg #[.int .i64 p0, .int .i64 p1, .int .i64 p2, .int .i64 p3, .int .i64 p4, .int .i64 p5]] (.tuple #[.agg #[.int .i64 x, .int .i64 y], .int .i64 e]) := by
  intro w
  obtain ⟨o, ho⟩ : ∃ o, l.at p = o := ⟨_, rfl⟩
  rw [ho] at hr
  have HR := Lib.hid hr
  have HO := Lib.hid ho
  have HL := Lib.hid hl
  have HP := Lib.hid hp
  clear hr ho hl hp
  go_enter Try.func59, Try.ntmps59
  go_upto_region 1 with fail
  have hst := start3 w (#[.int .i64 a0, .int .i64 a1, .int .i64 a2, .int .i64 a3, .int .i64 a4, .int .i64 a5, .int .i64 a6, .int .i64 a7]) (#[.int .i64 p0, .int .i64 p1, .int .i64 p2, .int .i64 p3, .int .i64 p4, .int .i64 p5]) (#[.int .i64 0, .int .i64 0]) 25 31 23
  generalize (((w.alloc (.cells #[.int .i64 a0, .int .i64 a1, .int .i64 a2, .int .i64 a3, .int .i64 a4, .int .i64 a5, .int .i64 a6, .int .i64 a7] 25)).alloc (.cells #[.int .i64 p0, .int .i64 p1, .int .i64 p2, .int .i64 p3, .int .i64 p4, .int .i64 p5] 31)).alloc (.cells #[.int .i64 0, .int .i64 0] 23)) = W0 at *
  obtain ⟨m0, m1, m2, B0⟩ := hst
  obtain ⟨c0, c1, c2, c3, c4, c5, c6, c7⟩ := m0.c8
  have l0 := m0.lt
  go_upto_region 3 with fail
  have v3 := BoxL.new W0 #[.int .i64 a0, .int .i64 a1] 23
  have hB1 := (Below.refl W0.heap.size W0).alloc (Nat.le_refl _) (.cells #[.int .i64 a0, .int .i64 a1] 23)
  have B1 := B0.trans (hB1.mono B0.size)
  have hlt := m2.lt
  have HS : Hid (AtAt w W0.heap.size p0 p1 p2 p3 p4 p5 [(l.t, p.x), (l.v, p.y), (l.a, p.z)] o (.int .i64 0) (W0.alloc (.cells #[.int .i64 a0, .int .i64 a1] 23))) := Lib.hid ⟨0, l.k, a0, a1, rfl, by omega, HL.out.k, HO.out, m1.keep hB1, m2.keep hB1, v3, B1, m2.lt⟩
  clear m0 m1 m2 c0 c1 c2 c3 c4 c5 c6 c7 v3 hB1 B0 B1 hlt l0
  go_loopw [20] (fun i wr => AtAt w W0.heap.size p0 p1 p2 p3 p4 p5 [(l.t, p.x), (l.v, p.y), (l.a, p.z)] o i wr) (fun i _ => 3 - (intOf i).toNat)
  case atStart => exact HS.out
  case round =>
    obtain ⟨k, s, sn, sd, rfl, hk, hs, ho, mP, mR, mV, B, hlt⟩ := hrel
    have HI := Lib.hid hs
    have HE := Lib.hid ho
    clear hs ho HS
    obtain rfl | rfl | rfl | rfl : k = 0 ∨ k = 1 ∨ k = 2 ∨ k = 3 := by omega
    · have hmul := fun x y e h => fmul (x := x) (y := y) (e := e) HL.out.t HP.out.x h
      have HE2 : Hid ((if Fit (l.t * p.x) then if Fit (s + l.t * p.x) then atO (s + l.t * p.x) ([(l.t, p.x), (l.v, p.y), (l.a, p.z)].drop (0 + 1)) else none else none) = o) := Lib.hid HE.out
      clear HE
      obtain ⟨mn, md, me, HM, hcase⟩ : ∃ mn md me : Int, Does 45 #[.agg #[.int .i64 a2, .int .i64 a3], .agg #[.int .i64 p0, .int .i64 p1]] (.tuple #[.agg #[.int .i64 mn, .int .i64 md], .int .i64 me]) ∧ ((Fit (l.t * p.x) ∧ IsF (l.t * p.x) mn md ∧ me = 0) ∨ (¬ Fit (l.t * p.x) ∧ mn = 0 ∧ md = 0 ∧ me = 2)) := by
        by_cases hf : Fit (l.t * p.x)
        · obtain ⟨mn, md, hm⟩ := isF_of _ hf
          exact ⟨mn, md, 0, hmul _ _ _ (resF_fit hm), .inl ⟨hf, hm, rfl⟩⟩
        · exact ⟨0, 0, 2, hmul _ _ _ (resF_big hf), .inr ⟨hf, rfl, rfl, rfl⟩⟩
      have HC := Lib.hid hcase
      clear hcase hmul
      go_upto_region 5 with fail
      have m8 := BoxL.new wr #[.int .i64 a2, .int .i64 a3] 23
      have hB8 := (Below.refl wr.heap.size wr).alloc (Nat.le_refl _) (.cells #[.int .i64 a2, .int .i64 a3] 23)
      have nP := mP.keep hB8
      have nR := mR.keep hB8
      have nV := mV.keep hB8
      have B2 := B.trans (hB8.mono B.size)
      generalize wr.alloc (.cells #[.int .i64 a2, .int .i64 a3] 23) = W1 at *
      clear mP mR mV hB8
      have lP := nP.lt
      have lR := nR.lt
      have lV := nV.lt
      refine wp_region_free1 (agf := ?fa0) 9 8 zrF (by kernel_rfl) [7] (by kernel_rfl) (fun d _ _ _ _ h => by cases d <;> exact h) (by rfl) (by rfl) ?fa01 ?fa02
      case fa01 =>
        intro W hW
        obtain ⟨c0, c1, c2, c3, c4, c5⟩ := nP.l6 hW
        obtain ⟨d0, d1⟩ := m8.l2 hW
        simp only [List.take_succ_cons, List.take_zero, ghostL, List.contains_cons, List.contains_nil, Nat.reduceAdd, Nat.reduceBEq, Bool.or_false, Bool.false_eq_true, if_false, if_true, ghostO]
        repeat (go_big_quiet_step (((go_at_call 45; with_reducible exact later_of (HM.at _)))))
        refine wpQuiet_nil ?_
        rfl
      case fa02 =>
        intro b9 W2 hB2 m9 gb9 
        simp only [List.drop_succ_cons, List.drop_zero, Act.put, List.setIfInBounds_toArray, List.set_cons_succ, List.set_cons_zero]
        have qP := nP.keep hB2
        have qR := nR.keep hB2
        have qV := nV.keep hB2
        have B3 := B2.trans (hB2.mono B2.size)
        have l2 := B2.size
        clear nP nR nV m8 hB2 B2
        obtain ⟨rc0, rc1⟩ := m9.c2
        obtain ⟨rf0, rf1⟩ := m9.f2
        go_upto_region 6 with fail
        clear rc0 rc1 rf0 rf1
        have k9 := m9.s2 (.int .i64 mn) (.int .i64 md)
        have kP := qP.z2 (b := b9) (by omega) (.int .i64 mn) (.int .i64 md)
        have kR := qR.z2 (b := b9) (by omega) (.int .i64 mn) (.int .i64 md)
        have kV := qV.z2 (b := b9) (by omega) (.int .i64 mn) (.int .i64 md)
        have B4 := below_s2 (b := b9) B3 (by omega) (.int .i64 mn) (.int .i64 md)
        generalize ((W2.setCell ⟨b9, 0, none⟩ (.int .i64 mn)).setCell ⟨b9, 1, none⟩ (.int .i64 md)) = W3 at *
        clear m9 qP qR qV B3
        obtain ⟨rc0, rc1⟩ := kR.c2
        obtain ⟨rf0, rf1⟩ := kR.f2
        rcases HC.out with ⟨hf, hm, rfl⟩ | ⟨hf, rfl, rfl, rfl⟩
        rotate_left
        · have ho := HE2.out
          rw [if_neg hf] at ho
          obtain ⟨rfl, rfl, rfl⟩ := resF_none HR.out ho.symm
          clear ho hf HC
          go_wp2_with fail
          have hR1 := kR.s2 (.int .i64 0) (.int .i64 0)
          obtain ⟨s0, s1⟩ := hR1.c2
          exact bodyPost_ret (v := .tuple #[.agg #[.int .i64 0, .int .i64 0], .int .i64 2]) (by simp [results, Try.results59, go_sem, s0, s1]) rfl ⟨rfl, below_s2 B4 (by omega) _ _⟩
        · have HE3 : Hid ((if Fit (s + l.t * p.x) then atO (s + l.t * p.x) ([(l.t, p.x), (l.v, p.y), (l.a, p.z)].drop (0 + 1)) else none) = o) := Lib.hid (by have := HE2.out; rwa [if_pos hf] at this)
          clear HE2 HC hf
          obtain ⟨an, ad, ae, HA, hcase⟩ : ∃ an ad ae : Int, Does 42 #[.agg #[.int .i64 sn, .int .i64 sd], .agg #[.int .i64 mn, .int .i64 md]] (.tuple #[.agg #[.int .i64 an, .int .i64 ad], .int .i64 ae]) ∧ ((Fit (s + l.t * p.x) ∧ IsF (s + l.t * p.x) an ad ∧ ae = 0) ∨ (¬ Fit (s + l.t * p.x) ∧ an = 0 ∧ ad = 0 ∧ ae = 2)) := by
            by_cases hf : Fit (s + l.t * p.x)
            · obtain ⟨an, ad, ha⟩ := isF_of _ hf
              exact ⟨an, ad, 0, fadd HI.out hm (resF_fit ha), .inl ⟨hf, ha, rfl⟩⟩
            · exact ⟨0, 0, 2, fadd HI.out hm (resF_big hf), .inr ⟨hf, rfl, rfl, rfl⟩⟩
          have HC := Lib.hid hcase
          clear hcase hm
          obtain ⟨v0, v1⟩ := kV.c2
          obtain ⟨t0, t1⟩ := k9.c2
          go_wp2_with fail
          refine (HA.at _).mono ?_
          rintro o4 W4 ⟨rfl, hb4⟩
          have gP := kP.keep hb4
          have gR := kR.keep hb4
          have gV := kV.keep hb4
          have B5 := B4.trans (hb4.mono B4.size)
          clear v0 v1 t0 t1 rc0 rc1 rf0 rf1 kP kR kV k9 B4 hb4 HA
          obtain ⟨v0, v1⟩ := gV.c2
          obtain ⟨t0, t1⟩ := gV.f2
          go_upto_region 9 with fail
          clear v0 v1 t0 t1
          have jV := gV.s2 (.int .i64 an) (.int .i64 ad)
          have jP := gP.z2 (b := W0.heap.size) (by omega) (.int .i64 an) (.int .i64 ad)
          have jR := gR.z2 (b := W0.heap.size) (by omega) (.int .i64 an) (.int .i64 ad)
          have B6 := below_s2 (b := W0.heap.size) B5 (by omega) (.int .i64 an) (.int .i64 ad)
          generalize ((W4.setCell ⟨W0.heap.size, 0, none⟩ (.int .i64 an)).setCell ⟨W0.heap.size, 1, none⟩ (.int .i64 ad)) = W5 at *
          clear gV gP gR B5
          obtain ⟨rc0, rc1⟩ := jR.c2
          obtain ⟨rf0, rf1⟩ := jR.f2
          rcases HC.out with ⟨hf, ha, rfl⟩ | ⟨hf, rfl, rfl, rfl⟩
          rotate_left
          · have ho := HE3.out
            rw [if_neg hf] at ho
            obtain ⟨rfl, rfl, rfl⟩ := resF_none HR.out ho.symm
            clear ho hf HC
            go_wp2_with fail
            have hR1 := jR.s2 (.int .i64 0) (.int .i64 0)
            obtain ⟨s0, s1⟩ := hR1.c2
            exact bodyPost_ret (v := .tuple #[.agg #[.int .i64 0, .int .i64 0], .int .i64 2]) (by simp [results, Try.results59, go_sem, s0, s1]) rfl ⟨rfl, below_s2 B6 (by omega) _ _⟩
          · have ho := HE3.out
            rw [if_pos hf] at ho
            have HS2 := Lib.hid (show AtAt w W0.heap.size p0 p1 p2 p3 p4 p5 [(l.t, p.x), (l.v, p.y), (l.a, p.z)] o (.int .i64 1) W5 from ⟨1, _, an, ad, rfl, by omega, ha, ho, jP, jR, jV, B6, hlt⟩)
            clear ho hf ha HC HE3 jP jR jV B6 rc0 rc1 rf0 rf1
            go_wp2_with fail
            go_roundw
            case rel => exact HS2.out
            case measure => simp [intOf]
    · have hmul := fun x y e h => fmul (x := x) (y := y) (e := e) HL.out.v HP.out.y h
      have HE2 : Hid ((if Fit (l.v * p.y) then if Fit (s + l.v * p.y) then atO (s + l.v * p.y) ([(l.t, p.x), (l.v, p.y), (l.a, p.z)].drop (1 + 1)) else none else none) = o) := Lib.hid HE.out
      clear HE
      obtain ⟨mn, md, me, HM, hcase⟩ : ∃ mn md me : Int, Does 45 #[.agg #[.int .i64 a4, .int .i64 a5], .agg #[.int .i64 p2, .int .i64 p3]] (.tuple #[.agg #[.int .i64 mn, .int .i64 md], .int .i64 me]) ∧ ((Fit (l.v * p.y) ∧ IsF (l.v * p.y) mn md ∧ me = 0) ∨ (¬ Fit (l.v * p.y) ∧ mn = 0 ∧ md = 0 ∧ me = 2)) := by
        by_cases hf : Fit (l.v * p.y)
        · obtain ⟨mn, md, hm⟩ := isF_of _ hf
          exact ⟨mn, md, 0, hmul _ _ _ (resF_fit hm), .inl ⟨hf, hm, rfl⟩⟩
        · exact ⟨0, 0, 2, hmul _ _ _ (resF_big hf), .inr ⟨hf, rfl, rfl, rfl⟩⟩
      have HC := Lib.hid hcase
      clear hcase hmul
      go_upto_region 5 with fail
      have m8 := BoxL.new wr #[.int .i64 a4, .int .i64 a5] 23
      have hB8 := (Below.refl wr.heap.size wr).alloc (Nat.le_refl _) (.cells #[.int .i64 a4, .int .i64 a5] 23)
      have nP := mP.keep hB8
      have nR := mR.keep hB8
      have nV := mV.keep hB8
      have B2 := B.trans (hB8.mono B.size)
      generalize wr.alloc (.cells #[.int .i64 a4, .int .i64 a5] 23) = W1 at *
      clear mP mR mV hB8
      have lP := nP.lt
      have lR := nR.lt
      have lV := nV.lt
      refine wp_region_free1 (agf := ?fa1) 9 8 zrF (by kernel_rfl) [7] (by kernel_rfl) (fun d _ _ _ _ h => by cases d <;> exact h) (by rfl) (by rfl) ?fa11 ?fa12
      case fa11 =>
        intro W hW
        obtain ⟨c0, c1, c2, c3, c4, c5⟩ := nP.l6 hW
        obtain ⟨d0, d1⟩ := m8.l2 hW
        simp only [List.take_succ_cons, List.take_zero, ghostL, List.contains_cons, List.contains_nil, Nat.reduceAdd, Nat.reduceBEq, Bool.or_false, Bool.false_eq_true, if_false, if_true, ghostO]
        repeat (go_big_quiet_step (((go_at_call 45; with_reducible exact later_of (HM.at _)))))
        refine wpQuiet_nil ?_
        rfl
      case fa12 =>
        intro b9 W2 hB2 m9 gb9 
        simp only [List.drop_succ_cons, List.drop_zero, Act.put, List.setIfInBounds_toArray, List.set_cons_succ, List.set_cons_zero]
        have qP := nP.keep hB2
        have qR := nR.keep hB2
        have qV := nV.keep hB2
        have B3 := B2.trans (hB2.mono B2.size)
        have l2 := B2.size
        clear nP nR nV m8 hB2 B2
        obtain ⟨rc0, rc1⟩ := m9.c2
        obtain ⟨rf0, rf1⟩ := m9.f2
        go_upto_region 6 with fail
        clear rc0 rc1 rf0 rf1
        have k9 := m9.s2 (.int .i64 mn) (.int .i64 md)
        have kP := qP.z2 (b := b9) (by omega) (.int .i64 mn) (.int .i64 md)
        have kR := qR.z2 (b := b9) (by omega) (.int .i64 mn) (.int .i64 md)
        have kV := qV.z2 (b := b9) (by omega) (.int .i64 mn) (.int .i64 md)
        have B4 := below_s2 (b := b9) B3 (by omega) (.int .i64 mn) (.int .i64 md)
        generalize ((W2.setCell ⟨b9, 0, none⟩ (.int .i64 mn)).setCell ⟨b9, 1, none⟩ (.int .i64 md)) = W3 at *
        clear m9 qP qR qV B3
        obtain ⟨rc0, rc1⟩ := kR.c2
        obtain ⟨rf0, rf1⟩ := kR.f2
        rcases HC.out with ⟨hf, hm, rfl⟩ | ⟨hf, rfl, rfl, rfl⟩
        rotate_left
        · have ho := HE2.out
          rw [if_neg hf] at ho
          obtain ⟨rfl, rfl, rfl⟩ := resF_none HR.out ho.symm
          clear ho hf HC
          go_wp2_with fail
          have hR1 := kR.s2 (.int .i64 0) (.int .i64 0)
          obtain ⟨s0, s1⟩ := hR1.c2
          exact bodyPost_ret (v := .tuple #[.agg #[.int .i64 0, .int .i64 0], .int .i64 2]) (by simp [results, Try.results59, go_sem, s0, s1]) rfl ⟨rfl, below_s2 B4 (by omega) _ _⟩
        · have HE3 : Hid ((if Fit (s + l.v * p.y) then atO (s + l.v * p.y) ([(l.t, p.x), (l.v, p.y), (l.a, p.z)].drop (1 + 1)) else none) = o) := Lib.hid (by have := HE2.out; rwa [if_pos hf] at this)
          clear HE2 HC hf
          obtain ⟨an, ad, ae, HA, hcase⟩ : ∃ an ad ae : Int, Does 42 #[.agg #[.int .i64 sn, .int .i64 sd], .agg #[.int .i64 mn, .int .i64 md]] (.tuple #[.agg #[.int .i64 an, .int .i64 ad], .int .i64 ae]) ∧ ((Fit (s + l.v * p.y) ∧ IsF (s + l.v * p.y) an ad ∧ ae = 0) ∨ (¬ Fit (s + l.v * p.y) ∧ an = 0 ∧ ad = 0 ∧ ae = 2)) := by
            by_cases hf : Fit (s + l.v * p.y)
            · obtain ⟨an, ad, ha⟩ := isF_of _ hf
              exact ⟨an, ad, 0, fadd HI.out hm (resF_fit ha), .inl ⟨hf, ha, rfl⟩⟩
            · exact ⟨0, 0, 2, fadd HI.out hm (resF_big hf), .inr ⟨hf, rfl, rfl, rfl⟩⟩
          have HC := Lib.hid hcase
          clear hcase hm
          obtain ⟨v0, v1⟩ := kV.c2
          obtain ⟨t0, t1⟩ := k9.c2
          go_wp2_with fail
          refine (HA.at _).mono ?_
          rintro o4 W4 ⟨rfl, hb4⟩
          have gP := kP.keep hb4
          have gR := kR.keep hb4
          have gV := kV.keep hb4
          have B5 := B4.trans (hb4.mono B4.size)
          clear v0 v1 t0 t1 rc0 rc1 rf0 rf1 kP kR kV k9 B4 hb4 HA
          obtain ⟨v0, v1⟩ := gV.c2
          obtain ⟨t0, t1⟩ := gV.f2
          go_upto_region 9 with fail
          clear v0 v1 t0 t1
          have jV := gV.s2 (.int .i64 an) (.int .i64 ad)
          have jP := gP.z2 (b := W0.heap.size) (by omega) (.int .i64 an) (.int .i64 ad)
          have jR := gR.z2 (b := W0.heap.size) (by omega) (.int .i64 an) (.int .i64 ad)
          have B6 := below_s2 (b := W0.heap.size) B5 (by omega) (.int .i64 an) (.int .i64 ad)
          generalize ((W4.setCell ⟨W0.heap.size, 0, none⟩ (.int .i64 an)).setCell ⟨W0.heap.size, 1, none⟩ (.int .i64 ad)) = W5 at *
          clear gV gP gR B5
          obtain ⟨rc0, rc1⟩ := jR.c2
          obtain ⟨rf0, rf1⟩ := jR.f2
          rcases HC.out with ⟨hf, ha, rfl⟩ | ⟨hf, rfl, rfl, rfl⟩
          rotate_left
          · have ho := HE3.out
            rw [if_neg hf] at ho
            obtain ⟨rfl, rfl, rfl⟩ := resF_none HR.out ho.symm
            clear ho hf HC
            go_wp2_with fail
            have hR1 := jR.s2 (.int .i64 0) (.int .i64 0)
            obtain ⟨s0, s1⟩ := hR1.c2
            exact bodyPost_ret (v := .tuple #[.agg #[.int .i64 0, .int .i64 0], .int .i64 2]) (by simp [results, Try.results59, go_sem, s0, s1]) rfl ⟨rfl, below_s2 B6 (by omega) _ _⟩
          · have ho := HE3.out
            rw [if_pos hf] at ho
            have HS2 := Lib.hid (show AtAt w W0.heap.size p0 p1 p2 p3 p4 p5 [(l.t, p.x), (l.v, p.y), (l.a, p.z)] o (.int .i64 2) W5 from ⟨2, _, an, ad, rfl, by omega, ha, ho, jP, jR, jV, B6, hlt⟩)
            clear ho hf ha HC HE3 jP jR jV B6 rc0 rc1 rf0 rf1
            go_wp2_with fail
            go_roundw
            case rel => exact HS2.out
            case measure => simp [intOf]
    · have hmul := fun x y e h => fmul (x := x) (y := y) (e := e) HL.out.a HP.out.z h
      have HE2 : Hid ((if Fit (l.a * p.z) then if Fit (s + l.a * p.z) then atO (s + l.a * p.z) ([(l.t, p.x), (l.v, p.y), (l.a, p.z)].drop (2 + 1)) else none else none) = o) := Lib.hid HE.out
      clear HE
      obtain ⟨mn, md, me, HM, hcase⟩ : ∃ mn md me : Int, Does 45 #[.agg #[.int .i64 a6, .int .i64 a7], .agg #[.int .i64 p4, .int .i64 p5]] (.tuple #[.agg #[.int .i64 mn, .int .i64 md], .int .i64 me]) ∧ ((Fit (l.a * p.z) ∧ IsF (l.a * p.z) mn md ∧ me = 0) ∨ (¬ Fit (l.a * p.z) ∧ mn = 0 ∧ md = 0 ∧ me = 2)) := by
        by_cases hf : Fit (l.a * p.z)
        · obtain ⟨mn, md, hm⟩ := isF_of _ hf
          exact ⟨mn, md, 0, hmul _ _ _ (resF_fit hm), .inl ⟨hf, hm, rfl⟩⟩
        · exact ⟨0, 0, 2, hmul _ _ _ (resF_big hf), .inr ⟨hf, rfl, rfl, rfl⟩⟩
      have HC := Lib.hid hcase
      clear hcase hmul
      go_upto_region 5 with fail
      have m8 := BoxL.new wr #[.int .i64 a6, .int .i64 a7] 23
      have hB8 := (Below.refl wr.heap.size wr).alloc (Nat.le_refl _) (.cells #[.int .i64 a6, .int .i64 a7] 23)
      have nP := mP.keep hB8
      have nR := mR.keep hB8
      have nV := mV.keep hB8
      have B2 := B.trans (hB8.mono B.size)
      generalize wr.alloc (.cells #[.int .i64 a6, .int .i64 a7] 23) = W1 at *
      clear mP mR mV hB8
      have lP := nP.lt
      have lR := nR.lt
      have lV := nV.lt
      refine wp_region_free1 (agf := ?fa2) 9 8 zrF (by kernel_rfl) [7] (by kernel_rfl) (fun d _ _ _ _ h => by cases d <;> exact h) (by rfl) (by rfl) ?fa21 ?fa22
      case fa21 =>
        intro W hW
        obtain ⟨c0, c1, c2, c3, c4, c5⟩ := nP.l6 hW
        obtain ⟨d0, d1⟩ := m8.l2 hW
        simp only [List.take_succ_cons, List.take_zero, ghostL, List.contains_cons, List.contains_nil, Nat.reduceAdd, Nat.reduceBEq, Bool.or_false, Bool.false_eq_true, if_false, if_true, ghostO]
        repeat (go_big_quiet_step (((go_at_call 45; with_reducible exact later_of (HM.at _)))))
        refine wpQuiet_nil ?_
        rfl
      case fa22 =>
        intro b9 W2 hB2 m9 gb9 
        simp only [List.drop_succ_cons, List.drop_zero, Act.put, List.setIfInBounds_toArray, List.set_cons_succ, List.set_cons_zero]
        have qP := nP.keep hB2
        have qR := nR.keep hB2
        have qV := nV.keep hB2
        have B3 := B2.trans (hB2.mono B2.size)
        have l2 := B2.size
        clear nP nR nV m8 hB2 B2
        obtain ⟨rc0, rc1⟩ := m9.c2
        obtain ⟨rf0, rf1⟩ := m9.f2
        go_upto_region 6 with fail
        clear rc0 rc1 rf0 rf1
        have k9 := m9.s2 (.int .i64 mn) (.int .i64 md)
        have kP := qP.z2 (b := b9) (by omega) (.int .i64 mn) (.int .i64 md)
        have kR := qR.z2 (b := b9) (by omega) (.int .i64 mn) (.int .i64 md)
        have kV := qV.z2 (b := b9) (by omega) (.int .i64 mn) (.int .i64 md)
        have B4 := below_s2 (b := b9) B3 (by omega) (.int .i64 mn) (.int .i64 md)
        generalize ((W2.setCell ⟨b9, 0, none⟩ (.int .i64 mn)).setCell ⟨b9, 1, none⟩ (.int .i64 md)) = W3 at *
        clear m9 qP qR qV B3
        obtain ⟨rc0, rc1⟩ := kR.c2
        obtain ⟨rf0, rf1⟩ := kR.f2
        rcases HC.out with ⟨hf, hm, rfl⟩ | ⟨hf, rfl, rfl, rfl⟩
        rotate_left
        · have ho := HE2.out
          rw [if_neg hf] at ho
          obtain ⟨rfl, rfl, rfl⟩ := resF_none HR.out ho.symm
          clear ho hf HC
          go_wp2_with fail
          have hR1 := kR.s2 (.int .i64 0) (.int .i64 0)
          obtain ⟨s0, s1⟩ := hR1.c2
          exact bodyPost_ret (v := .tuple #[.agg #[.int .i64 0, .int .i64 0], .int .i64 2]) (by simp [results, Try.results59, go_sem, s0, s1]) rfl ⟨rfl, below_s2 B4 (by omega) _ _⟩
        · have HE3 : Hid ((if Fit (s + l.a * p.z) then atO (s + l.a * p.z) ([(l.t, p.x), (l.v, p.y), (l.a, p.z)].drop (2 + 1)) else none) = o) := Lib.hid (by have := HE2.out; rwa [if_pos hf] at this)
          clear HE2 HC hf
          obtain ⟨an, ad, ae, HA, hcase⟩ : ∃ an ad ae : Int, Does 42 #[.agg #[.int .i64 sn, .int .i64 sd], .agg #[.int .i64 mn, .int .i64 md]] (.tuple #[.agg #[.int .i64 an, .int .i64 ad], .int .i64 ae]) ∧ ((Fit (s + l.a * p.z) ∧ IsF (s + l.a * p.z) an ad ∧ ae = 0) ∨ (¬ Fit (s + l.a * p.z) ∧ an = 0 ∧ ad = 0 ∧ ae = 2)) := by
            by_cases hf : Fit (s + l.a * p.z)
            · obtain ⟨an, ad, ha⟩ := isF_of _ hf
              exact ⟨an, ad, 0, fadd HI.out hm (resF_fit ha), .inl ⟨hf, ha, rfl⟩⟩
            · exact ⟨0, 0, 2, fadd HI.out hm (resF_big hf), .inr ⟨hf, rfl, rfl, rfl⟩⟩
          have HC := Lib.hid hcase
          clear hcase hm
          obtain ⟨v0, v1⟩ := kV.c2
          obtain ⟨t0, t1⟩ := k9.c2
          go_wp2_with fail
          refine (HA.at _).mono ?_
          rintro o4 W4 ⟨rfl, hb4⟩
          have gP := kP.keep hb4
          have gR := kR.keep hb4
          have gV := kV.keep hb4
          have B5 := B4.trans (hb4.mono B4.size)
          clear v0 v1 t0 t1 rc0 rc1 rf0 rf1 kP kR kV k9 B4 hb4 HA
          obtain ⟨v0, v1⟩ := gV.c2
          obtain ⟨t0, t1⟩ := gV.f2
          go_upto_region 9 with fail
          clear v0 v1 t0 t1
          have jV := gV.s2 (.int .i64 an) (.int .i64 ad)
          have jP := gP.z2 (b := W0.heap.size) (by omega) (.int .i64 an) (.int .i64 ad)
          have jR := gR.z2 (b := W0.heap.size) (by omega) (.int .i64 an) (.int .i64 ad)
          have B6 := below_s2 (b := W0.heap.size) B5 (by omega) (.int .i64 an) (.int .i64 ad)
          generalize ((W4.setCell ⟨W0.heap.size, 0, none⟩ (.int .i64 an)).setCell ⟨W0.heap.size, 1, none⟩ (.int .i64 ad)) = W5 at *
          clear gV gP gR B5
          obtain ⟨rc0, rc1⟩ := jR.c2
          obtain ⟨rf0, rf1⟩ := jR.f2
          rcases HC.out with ⟨hf, ha, rfl⟩ | ⟨hf, rfl, rfl, rfl⟩
          rotate_left
          · have ho := HE3.out
            rw [if_neg hf] at ho
            obtain ⟨rfl, rfl, rfl⟩ := resF_none HR.out ho.symm
            clear ho hf HC
            go_wp2_with fail
            have hR1 := jR.s2 (.int .i64 0) (.int .i64 0)
            obtain ⟨s0, s1⟩ := hR1.c2
            exact bodyPost_ret (v := .tuple #[.agg #[.int .i64 0, .int .i64 0], .int .i64 2]) (by simp [results, Try.results59, go_sem, s0, s1]) rfl ⟨rfl, below_s2 B6 (by omega) _ _⟩
          · have ho := HE3.out
            rw [if_pos hf] at ho
            have HS2 := Lib.hid (show AtAt w W0.heap.size p0 p1 p2 p3 p4 p5 [(l.t, p.x), (l.v, p.y), (l.a, p.z)] o (.int .i64 3) W5 from ⟨3, _, an, ad, rfl, by omega, ha, ho, jP, jR, jV, B6, hlt⟩)
            clear ho hf ha HC HE3 jP jR jV B6 rc0 rc1 rf0 rf1
            go_wp2_with fail
            go_roundw
            case rel => exact HS2.out
            case measure => simp [intOf]
    · have ho := HE.out
      have ho2 : o = some s := ho.symm
      obtain ⟨rfl, rfl, rfl⟩ := resF_val HR.out ho2 HI.out
      clear ho ho2 HE
      obtain ⟨rc0, rc1⟩ := mR.c2
      obtain ⟨rf0, rf1⟩ := mR.f2
      obtain ⟨v0, v1⟩ := mV.c2
      go_wp2_with fail
      have hR1 := mR.s2 (.int .i64 x) (.int .i64 y)
      obtain ⟨s0, s1⟩ := hR1.c2
      exact bodyPost_ret (v := .tuple #[.agg #[.int .i64 x, .int .i64 y], .int .i64 0]) (by simp [results, Try.results59, go_sem, s0, s1]) rfl ⟨rfl, below_s2 B (by omega) _ _⟩

end Fr
end Go.Proofs.Ytojkaaglmdfcnaa
