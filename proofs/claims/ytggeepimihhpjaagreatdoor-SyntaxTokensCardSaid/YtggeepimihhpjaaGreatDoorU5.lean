/- The reference's SameExpr. The reference's SameModule and Same, from what SameItem gives. -/
import Derived.Test.YtggeepimihhpjaaGreatDoorU3
namespace Go.Proofs.YtggeepimihhpjaaGreatDoor
open Go.RowKit Go.Shelf Go.Lib Sl Fr Lx
namespace Sy
set_option linter.unusedVariables false
set_option linter.unusedSimpArgs false
attribute [local go_sem high] eq_str neq_str eq_num neq_num eq_bind neq_bind eq_rule neq_rule

def RE (a : ExprT) : Prop := ∀ b : ExprT, SmE b → ∀ (w : World) (S S' : Nat → Prop) (A B : Option Addr) (c d : Nat), ER w S a (eC a A c) → ER w S' b (eC b B d) →
  Calls Tryz.prog 132 #[.agg (eC a A c).toArray, .agg (eC b B d).toArray] w (RetB (eqE a b) w)
set_option maxRecDepth 100000 in
set_option maxHeartbeats 8000000 in
theorem rE_step (op : Int) (nm : By) (k ww : NumT) (args : List ExprT) (hIH : ∀ (i : Nat) (x : ExprT), args[i]? = some x → RE x) : RE (.mk op nm k ww args) := by
  intro b hsm w S S' A B c d ha hb
  obtain ⟨op', nm', k', ww', args'⟩ := b
  unfold SmE at hsm
  obtain ⟨hsl, hsa⟩ := hsm
  generalize hR : eqE _ _ = R
  have hq : R = (decide (op = op') && (decide (nm = nm') && (decide (k = k') && (decide (ww = ww') && eqL eqE args args')))) := by rw [← hR, eqE.eq_1, eqA_L]
  have HR := Lib.hid hq
  clear hR hq
  show Calls Tryz.prog 132 #[.agg #[.int .i64 op, .string ⟨nm.toArray⟩, .int .i64 k.n, .string ⟨k.p.toArray⟩, .int .i64 ww.n, .string ⟨ww.p.toArray⟩, .slice A args.length c], .agg #[.int .i64 op', .string ⟨nm'.toArray⟩, .int .i64 k'.n, .string ⟨k'.p.toArray⟩, .int .i64 ww'.n, .string ⟨ww'.p.toArray⟩, .slice B args'.length d]] w _
  have HA := Lib.hid ha
  have HBB := Lib.hid hb
  have HIH := Lib.hid hIH
  have HSA := Lib.hid hsa
  have HSL := Lib.hid hsl
  clear ha hb hIH hsa hsl
  obtain ⟨mA, mB, bA⟩ := start2X w #[.int .i64 op, .string ⟨nm.toArray⟩, .int .i64 k.n, .string ⟨k.p.toArray⟩, .int .i64 ww.n, .string ⟨ww.p.toArray⟩, .slice A args.length c] #[.int .i64 op', .string ⟨nm'.toArray⟩, .int .i64 k'.n, .string ⟨k'.p.toArray⟩, .int .i64 ww'.n, .string ⟨ww'.p.toArray⟩, .slice B args'.length d] 63 63
  go_enter Tryz.func132, Tryz.ntmps132
  go_upto_region 1 with fail
  generalize hXe : (w.alloc (.cells #[.int .i64 op, .string ⟨nm.toArray⟩, .int .i64 k.n, .string ⟨k.p.toArray⟩, .int .i64 ww.n, .string ⟨ww.p.toArray⟩, .slice A args.length c] 63)).alloc (.cells #[.int .i64 op', .string ⟨nm'.toArray⟩, .int .i64 k'.n, .string ⟨k'.p.toArray⟩, .int .i64 ww'.n, .string ⟨ww'.p.toArray⟩, .slice B args'.length d] 63) = X at *
  clear hXe
  have HM1 := Lib.hid mA
  have HM2 := Lib.hid mB
  have HBX := Lib.hid bA
  have cA0 := mA.cell (i := 0) rfl
  have cB0 := mB.cell (i := 0) rfl
  have cA1 := mA.cell (i := 1) rfl
  have cB1 := mB.cell (i := 1) rfl
  have cA2 := mA.cell (i := 2) rfl
  have cB2 := mB.cell (i := 2) rfl
  have cA3 := mA.cell (i := 3) rfl
  have cB3 := mB.cell (i := 3) rfl
  have cA4 := mA.cell (i := 4) rfl
  have cB4 := mB.cell (i := 4) rfl
  have cA5 := mA.cell (i := 5) rfl
  have cB5 := mB.cell (i := 5) rfl
  have cA6 := mA.cell (i := 6) rfl
  have cB6 := mB.cell (i := 6) rfl
  clear mA mB bA
  by_cases h1 : op = op'
  · subst h1
    by_cases h2 : nm = nm'
    · subst h2
      by_cases h3 : k = k'
      · subst h3
        by_cases h4 : ww = ww'
        · subst h4
          by_cases hlen : args.length = args'.length
          · have HL := Lib.hid hlen
            have hn : args.length ≤ 281474976710656 := by rw [hlen]; exact HSL.out
            have HEQ : Hid (R = eqL eqE args args') := Lib.hid (by rw [HR.out]; simp only [decide_true, Bool.true_and])
            rw [← hlen] at cB6
            have H0 : Hid (EqAt eqE args args' X (.int .i64 0) X) := Lib.hid ⟨0, rfl, Nat.zero_le _, fun j x y h => absurd h (Nat.not_lt_zero _), Below.refl _ _⟩
            clear hlen
            go_wp2_with fail
            go_loopw [5] (EqAt eqE args args' X) (fun i _ => args.length - (RowKit.intOf i).toNat)
            case atStart => exact H0.out
            case round =>
              obtain ⟨i, rfl, hk, hall, hb⟩ := hrel
              have HALL := Lib.hid hall
              have HBL := Lib.hid hb
              clear hall hb H0 cA0 cA1 cA2 cA3 cA4 cA5 cB0 cB1 cB2 cB3 cB4 cB5 cA6 cB6
              have n1 := HM1.out.keep HBL.out
              have n2 := HM2.out.keep HBL.out
              have cA6 := n1.cell (i := 6) rfl
              have cB6 := n2.cell (i := 6) rfl
              rw [← HL.out] at cB6
              by_cases hlt : i < args.length
              · obtain ⟨x, hx⟩ : ∃ x, args[i]? = some x := ⟨args[i], List.getElem?_eq_getElem hlt⟩
                obtain ⟨y, hy⟩ : ∃ y, args'[i]? = some y := ⟨args'[i]'(by rw [← HL.out]; exact hlt), List.getElem?_eq_getElem _⟩
                have hbW : Below w.heap.size w wr := HBX.out.trans (HBL.out.mono HBX.out.size)
                obtain ⟨b1, o1, A1, c1, rfl, hl1, he1, hr1⟩ := (ER.grown (grown_below hbW) (fun g e => by cases e) _ _ HA.out).args_at hx
                obtain ⟨b2, o2, A2, c2, rfl, hl2, he2, hr2⟩ := (ER.grown (grown_below hbW) (fun g e => by cases e) _ _ HBB.out).args_at hy
                have HCALL : Hid (∀ W, Below wr.heap.size wr W → Calls Tryz.prog 132 #[.agg #[.int .i64 x.op, .string ⟨x.nm.toArray⟩, .int .i64 x.k.n, .string ⟨x.k.p.toArray⟩, .int .i64 x.w.n, .string ⟨x.w.p.toArray⟩, .slice A1 x.args.length c1], .agg #[.int .i64 y.op, .string ⟨y.nm.toArray⟩, .int .i64 y.k.n, .string ⟨y.k.p.toArray⟩, .int .i64 y.w.n, .string ⟨y.w.p.toArray⟩, .slice A2 y.args.length c2]] W (RetB (eqE x y) W)) := Lib.hid (fun W hbz => HIH.out i x hx y (HSA.out.get hy) W S S' A1 A2 c1 c2 (ER.grown (grown_below hbz) (fun g e => by cases e) _ _ he1) (ER.grown (grown_below hbz) (fun g e => by cases e) _ _ he2))
                have HX := Lib.hid hx
                have HY := Lib.hid hy
                have lA := n1.lt
                have lB := n2.lt
                have zA6 : ∀ p : Later wr, p.val.cell? ⟨w.heap.size, 6, none⟩ = some (.slice (some ⟨b1, o1, none⟩) args.length c) := fun p => Later.cell (a := ⟨w.heap.size, 6, none⟩) cA6 lA p
                have zB6 : ∀ p : Later wr, p.val.cell? ⟨w.heap.size + 1, 6, none⟩ = some (.slice (some ⟨b2, o2, none⟩) args.length d) := fun p => Later.cell (a := ⟨w.heap.size + 1, 6, none⟩) cB6 lB p
                have yA0 : ∀ p : Later wr, p.val.cell? ⟨b1, o1 + i * 7, none⟩ = some (.int .i64 x.op) := fun p => Later.cell (a := ⟨b1, o1 + i * 7, none⟩) (hr1 0 _ rfl) hl1 p
                have yA1 : ∀ p : Later wr, p.val.cell? ⟨b1, o1 + i * 7 + 1, none⟩ = some (.string ⟨x.nm.toArray⟩) := fun p => Later.cell (a := ⟨b1, o1 + i * 7 + 1, none⟩) (hr1 1 _ rfl) hl1 p
                have yA2 : ∀ p : Later wr, p.val.cell? ⟨b1, o1 + i * 7 + 2, none⟩ = some (.int .i64 x.k.n) := fun p => Later.cell (a := ⟨b1, o1 + i * 7 + 2, none⟩) (hr1 2 _ rfl) hl1 p
                have yA3 : ∀ p : Later wr, p.val.cell? ⟨b1, o1 + i * 7 + 3, none⟩ = some (.string ⟨x.k.p.toArray⟩) := fun p => Later.cell (a := ⟨b1, o1 + i * 7 + 3, none⟩) (hr1 3 _ rfl) hl1 p
                have yA4 : ∀ p : Later wr, p.val.cell? ⟨b1, o1 + i * 7 + 4, none⟩ = some (.int .i64 x.w.n) := fun p => Later.cell (a := ⟨b1, o1 + i * 7 + 4, none⟩) (hr1 4 _ rfl) hl1 p
                have yA5 : ∀ p : Later wr, p.val.cell? ⟨b1, o1 + i * 7 + 5, none⟩ = some (.string ⟨x.w.p.toArray⟩) := fun p => Later.cell (a := ⟨b1, o1 + i * 7 + 5, none⟩) (hr1 5 _ rfl) hl1 p
                have yA6 : ∀ p : Later wr, p.val.cell? ⟨b1, o1 + i * 7 + 6, none⟩ = some (.slice A1 x.args.length c1) := fun p => Later.cell (a := ⟨b1, o1 + i * 7 + 6, none⟩) (hr1 6 _ rfl) hl1 p
                have yB0 : ∀ p : Later wr, p.val.cell? ⟨b2, o2 + i * 7, none⟩ = some (.int .i64 y.op) := fun p => Later.cell (a := ⟨b2, o2 + i * 7, none⟩) (hr2 0 _ rfl) hl2 p
                have yB1 : ∀ p : Later wr, p.val.cell? ⟨b2, o2 + i * 7 + 1, none⟩ = some (.string ⟨y.nm.toArray⟩) := fun p => Later.cell (a := ⟨b2, o2 + i * 7 + 1, none⟩) (hr2 1 _ rfl) hl2 p
                have yB2 : ∀ p : Later wr, p.val.cell? ⟨b2, o2 + i * 7 + 2, none⟩ = some (.int .i64 y.k.n) := fun p => Later.cell (a := ⟨b2, o2 + i * 7 + 2, none⟩) (hr2 2 _ rfl) hl2 p
                have yB3 : ∀ p : Later wr, p.val.cell? ⟨b2, o2 + i * 7 + 3, none⟩ = some (.string ⟨y.k.p.toArray⟩) := fun p => Later.cell (a := ⟨b2, o2 + i * 7 + 3, none⟩) (hr2 3 _ rfl) hl2 p
                have yB4 : ∀ p : Later wr, p.val.cell? ⟨b2, o2 + i * 7 + 4, none⟩ = some (.int .i64 y.w.n) := fun p => Later.cell (a := ⟨b2, o2 + i * 7 + 4, none⟩) (hr2 4 _ rfl) hl2 p
                have yB5 : ∀ p : Later wr, p.val.cell? ⟨b2, o2 + i * 7 + 5, none⟩ = some (.string ⟨y.w.p.toArray⟩) := fun p => Later.cell (a := ⟨b2, o2 + i * 7 + 5, none⟩) (hr2 5 _ rfl) hl2 p
                have yB6 : ∀ p : Later wr, p.val.cell? ⟨b2, o2 + i * 7 + 6, none⟩ = some (.slice A2 y.args.length c2) := fun p => Later.cell (a := ⟨b2, o2 + i * 7 + 6, none⟩) (hr2 6 _ rfl) hl2 p
                have hi0 : ¬ (i : Int) < 0 := by omega
                have hi1 : (i : Int) < (args.length : Int) := by omega
                clear hx hy hr1 hr2 he1 he2 n1 n2
                cases hxy : eqE x y with
                | false =>
                  rw [hxy] at HCALL
                  go_upto_region 6 with fail
                  refine wp_region_later_tail 10 (by kernel_rfl) (by kernel_rfl) ?_
                  simp only [List.take_succ_cons, List.take_zero, List.drop_succ_cons, List.drop_zero]
                  repeat (go_big_quiet_step (fail))
                  refine wpQuiet_nil ?_
                  intro _ hw'
                  obtain ⟨q, hw''⟩ := hw'
                  subst hw''
                  have hbq0 := q.below
                  generalize q.val = W5 at *
                  clear zA6 zB6 yA0 yA1 yA2 yA3 yA4 yA5 yA6 yB0 yB1 yB2 yB3 yB4 yB5 yB6
                  go_wp2_with (go_at_call 132; refine (HCALL.out _ hbq0).mono ?_; rintro e w6 ⟨rfl, hb6⟩; have hbq := hbq0.trans (hb6.mono hbq0.size))
                  go_ret
                  exact ⟨by first | rfl | (rw [HEQ.out, eqL_no HX.out HY.out hxy]; rfl), HBX.out.trans ((HBL.out.trans (hbq.mono HBL.out.size)).mono HBX.out.size)⟩
                | true =>
                  rw [hxy] at HCALL
                  go_upto_region 6 with fail
                  refine wp_region_later_tail 10 (by kernel_rfl) (by kernel_rfl) ?_
                  simp only [List.take_succ_cons, List.take_zero, List.drop_succ_cons, List.drop_zero]
                  repeat (go_big_quiet_step (fail))
                  refine wpQuiet_nil ?_
                  intro _ hw'
                  obtain ⟨q, hw''⟩ := hw'
                  subst hw''
                  have hbq0 := q.below
                  generalize q.val = W5 at *
                  clear zA6 zB6 yA0 yA1 yA2 yA3 yA4 yA5 yA6 yB0 yB1 yB2 yB3 yB4 yB5 yB6
                  go_wp2_with (go_at_call 132; refine (HCALL.out _ hbq0).mono ?_; rintro e w6 ⟨rfl, hb6⟩; have hbq := hbq0.trans (hb6.mono hbq0.size))
                  go_roundw
                  case rel => exact ⟨i + 1, by go_num, by omega, (fun j x' y' hj h1 h2 => by
                    rcases Nat.lt_or_ge j i with h | h
                    · exact HALL.out j x' y' h h1 h2
                    · obtain rfl : j = i := by omega
                      rw [HX.out] at h1; rw [HY.out] at h2
                      injection h1 with h1; injection h2 with h2
                      rw [← h1, ← h2]; exact hxy), HBL.out.trans (hbq.mono HBL.out.size)⟩
                  case measure => simp [RowKit.intOf]; omega
              · have hkk : i = args.length := by omega
                have HT : Hid (R = true) := Lib.hid (by rw [HEQ.out]; exact eqL_yes HL.out fun j x y h1 h2 => HALL.out j x y (by have := (List.getElem?_eq_some_iff.1 h1).1; omega) h1 h2)
                go_wp2_with fail
                go_ret
                exact ⟨by rw [HT.out]; rfl, HBX.out.trans (HBL.out.mono HBX.out.size)⟩
          · have hne : ¬ ((args.length : Int) = (args'.length : Int)) := by omega
            have hne2 : ((args.length : Int) != (args'.length : Int)) = true := by simpa using hne
            have hne3 : (args.length != args'.length) = true := by simpa using hlen
            have hne4 : (args.length == args'.length) = false := by simpa using hlen
            have hRv : R = false := by rw [HR.out, eqL_len (E := eqE) hlen]; simp only [Bool.and_false]
            go_wp2_with fail
            go_ret
            exact ⟨by first | rfl | (rw [hRv]; rfl), HBX.out⟩
        · skip
          have h4d : decide (ww = ww') = false := decide_eq_false h4
          have hRv : R = false := by rw [HR.out]; simp_all only [Hid, decide_true, Bool.true_and, Bool.false_and, Bool.and_false]
          go_wp2_with fail
          go_ret
          exact ⟨by first | rfl | (rw [hRv]; rfl), HBX.out⟩
      · skip
        have h3d : decide (k = k') = false := decide_eq_false h3
        have hRv : R = false := by rw [HR.out]; simp_all only [Hid, decide_true, Bool.true_and, Bool.false_and, Bool.and_false]
        go_wp2_with fail
        go_ret
        exact ⟨by first | rfl | (rw [hRv]; rfl), HBX.out⟩
    · skip
      have h2d : decide (nm = nm') = false := decide_eq_false h2
      have hRv : R = false := by rw [HR.out]; simp_all only [Hid, decide_true, Bool.true_and, Bool.false_and, Bool.and_false]
      go_wp2_with fail
      go_ret
      exact ⟨by first | rfl | (rw [hRv]; rfl), HBX.out⟩
  · skip
    have h1d : decide (op = op') = false := decide_eq_false h1
    have h1b : (op == op') = false := by simpa using h1
    have h1n : (op != op') = true := by simpa using h1
    have hRv : R = false := by rw [HR.out]; simp_all only [Hid, decide_true, Bool.true_and, Bool.false_and, Bool.and_false]
    go_wp2_with fail
    go_ret
    exact ⟨by first | rfl | (rw [hRv]; rfl), HBX.out⟩
mutual
theorem rE : ∀ e : ExprT, RE e
  | .mk op nm k w args => rE_step op nm k w args fun i x h => rA args i x h
theorem rA : ∀ (l : List ExprT) (i : Nat) (x : ExprT), l[i]? = some x → RE x
  | [], i, x, h => by cases h
  | e :: r, 0, x, h => by
    simp only [List.getElem?_cons_zero, Option.some.injEq] at h
    subst h
    exact rE e
  | e :: r, i + 1, x, h => rA r i x h
end
end Sy
end Go.Proofs.YtggeepimihhpjaaGreatDoor

namespace Go.Proofs.YtggeepimihhpjaaGreatDoor
open Go.RowKit Go.Shelf Go.Lib Sl Fr Lx
namespace Sy
set_option linter.unusedVariables false
set_option linter.unusedSimpArgs false
attribute [local go_sem high] eq_str neq_str

def RIt : Prop := ∀ (x y : ItemT), SmI y → ∀ (w : World) (S S' : Nat → Prop) (cs ds : Array Value), IR w S x cs → IR w S' y ds → Calls Tryz.prog 84 #[.agg cs, .agg ds] w (RetB (eqI x y) w)
def RMo : Prop := ∀ (x y : ModT), SmM y → ∀ (w : World) (S S' : Nat → Prop) (cs ds : Array Value), MR w S x cs → MR w S' y ds → Calls Tryz.prog 46 #[.agg cs, .agg ds] w (RetB (eqM x y) w)
set_option maxRecDepth 100000 in
set_option maxHeartbeats 8000000 in
theorem rF (hM : RMo) (f g : FileT) (hsm : SmF g) (w : World) (S S' : Nat → Prop) (A B : Option Addr) (c d : Nat) (vs us : List Value) (h1 : ML w S f vs) (h2 : FR w S A vs) (h3 : ML w S' g us) (h4 : FR w S' B us) :
    Calls Tryz.prog 27 #[.agg #[.slice A f.length c], .agg #[.slice B g.length d]] w (RetB (eqL eqM f g) w) := by
  have HREC := Lib.hid hM
  have HSL := Lib.hid hsm.1
  have HSM := Lib.hid hsm.2
  have HV1 := Lib.hid h1
  have HV2 := Lib.hid h2
  have HV3 := Lib.hid h3
  have HV4 := Lib.hid h4
  clear hM hsm h1 h2 h3 h4
  generalize hR : eqL eqM f g = R
  have HEQ : Hid (R = eqL eqM f g) := Lib.hid hR.symm
  clear hR
  obtain ⟨mA, mB, bA⟩ := start2X w #[.slice A f.length c] #[.slice B g.length d] 27 27
  go_enter Tryz.func27, Tryz.ntmps27
  go_upto_region 1 with fail
  generalize hXe : (w.alloc (.cells #[.slice A f.length c] 27)).alloc (.cells #[.slice B g.length d] 27) = X at *
  clear hXe
  have HM1 := Lib.hid mA
  have HM2 := Lib.hid mB
  have HBX := Lib.hid bA
  have cA0 := mA.cell (i := 0) rfl
  have cB0 := mB.cell (i := 0) rfl
  clear mA mB bA
  by_cases hlen : f.length = g.length
  · have HL := Lib.hid hlen
    rw [← hlen] at cB0
    clear hlen
    have n : f.length ≤ 281474976710656 := by rw [HL.out]; exact HSL.out
    have H0 : Hid (EqAt eqM f g X (.int .i64 0) X) := Lib.hid ⟨0, rfl, Nat.zero_le _, fun j x y h => absurd h (Nat.not_lt_zero _), Below.refl _ _⟩
    go_wp2_with fail
    go_loopw [5] (EqAt eqM f g X) (fun i _ => f.length - (RowKit.intOf i).toNat)
    case atStart => exact H0.out
    case round =>
      obtain ⟨i, rfl, hk, hall, hb⟩ := hrel
      have HALL := Lib.hid hall
      have HBL := Lib.hid hb
      clear hall hb H0 cA0 cB0
      have n1 := HM1.out.keep HBL.out
      have n2 := HM2.out.keep HBL.out
      have cA6 := n1.cell (i := 0) rfl
      have cB6 := n2.cell (i := 0) rfl
      rw [← HL.out] at cB6
      by_cases hlt : i < f.length
      · obtain ⟨x, hx⟩ : ∃ x, f[i]? = some x := ⟨f[i], List.getElem?_eq_getElem hlt⟩
        obtain ⟨y, hy⟩ : ∃ y, g[i]? = some y := ⟨g[i]'(by rw [← HL.out]; exact hlt), List.getElem?_eq_getElem _⟩
        have hbW : Below w.heap.size w wr := HBX.out.trans (HBL.out.mono HBX.out.size)
        obtain ⟨b1, o1, c1, rfl, hl1, hr1, hs1, ho1, he1⟩ := mo_at (HV1.out.grown (grown_below hbW) (fun g e => by cases e)) (HV2.out.grown (grown_below hbW) (fun g e => by cases e)) hx
        obtain ⟨b2, o2, c2, rfl, hl2, hr2, hs2, ho2, he2⟩ := mo_at (HV3.out.grown (grown_below hbW) (fun g e => by cases e)) (HV4.out.grown (grown_below hbW) (fun g e => by cases e)) hy
        have HCALL : Hid (∀ W, Below wr.heap.size wr W → Calls Tryz.prog 46 #[.agg c1, .agg c2] W (RetB (eqM x y) W)) := Lib.hid (fun W hbz => HREC.out x y (HSM.out y (List.mem_of_getElem? hy)) W S S' c1 c2 (he1.grown (grown_below hbz) (fun g e => by cases e)) (he2.grown (grown_below hbz) (fun g e => by cases e)))
        have HX := Lib.hid hx
        have HY := Lib.hid hy
        have lA := n1.lt
        have lB := n2.lt
        have zA6 : ∀ p : Later wr, p.val.cell? ⟨w.heap.size, 0, none⟩ = some (.slice (some ⟨b1, o1, none⟩) f.length c) := fun p => Later.cell (a := ⟨w.heap.size, 0, none⟩) cA6 lA p
        have zB6 : ∀ p : Later wr, p.val.cell? ⟨w.heap.size + 1, 0, none⟩ = some (.slice (some ⟨b2, o2, none⟩) f.length d) := fun p => Later.cell (a := ⟨w.heap.size + 1, 0, none⟩) cB6 lB p
        have yA : ∀ v, (∃ p : Later wr, v = p.val) → v.rangeAt b1 (o1 + i * 4) c1.toList := by rintro _ ⟨p, rfl⟩; exact range_keep hr1 p.below hl1
        have yB : ∀ v, (∃ p : Later wr, v = p.val) → v.rangeAt b2 (o2 + i * 4) c2.toList := by rintro _ ⟨p, rfl⟩; exact range_keep hr2 p.below hl2
        have hs1' : c1.toList.length = 4 := by rw [Array.length_toList]; exact hs1
        have hs2' : c2.toList.length = 4 := by rw [Array.length_toList]; exact hs2
        have hi0 : ¬ (i : Int) < 0 := by omega
        have hi1 : (i : Int) < (f.length : Int) := by omega
        clear hx hy hr1 hr2 he1 he2 n1 n2 hs1 hs2 ho1 ho2
        cases hxy : eqM x y with
        | false =>
          rw [hxy] at HCALL
          go_upto_region 6 with fail
          refine wp_region_later_tail 10 (by kernel_rfl) (by kernel_rfl) ?_
          simp only [List.take_succ_cons, List.take_zero, List.drop_succ_cons, List.drop_zero]
          repeat (first
            | (refine wpQuiet_load (by rfl) (by rfl) (by rfl) yA Tryz.underlying46 (by rfl) 4 hs1' (by kernel_rfl) ?_; simp only [Act.put, List.setIfInBounds_toArray, List.set_cons_succ, List.set_cons_zero, Array.toArray_toList])
            | (refine wpQuiet_load (by rfl) (by rfl) (by rfl) yB Tryz.underlying46 (by rfl) 4 hs2' (by kernel_rfl) ?_; simp only [Act.put, List.setIfInBounds_toArray, List.set_cons_succ, List.set_cons_zero, Array.toArray_toList])
            | go_big_quiet_step (fail))
          refine wpQuiet_nil ?_
          intro _ hw'
          obtain ⟨q, hw''⟩ := hw'
          subst hw''
          have hbq0 := q.below
          generalize q.val = W5 at *
          clear zA6 zB6 yA yB
          go_wp2_with (go_at_call 46; refine (HCALL.out _ hbq0).mono ?_; rintro e w6 ⟨rfl, hb6⟩; have hbq := hbq0.trans (hb6.mono hbq0.size))
          go_ret
          exact ⟨by first | rfl | (rw [HEQ.out, eqL_no HX.out HY.out hxy]; rfl), HBX.out.trans ((HBL.out.trans (hbq.mono HBL.out.size)).mono HBX.out.size)⟩
        | true =>
          rw [hxy] at HCALL
          go_upto_region 6 with fail
          refine wp_region_later_tail 10 (by kernel_rfl) (by kernel_rfl) ?_
          simp only [List.take_succ_cons, List.take_zero, List.drop_succ_cons, List.drop_zero]
          repeat (first
            | (refine wpQuiet_load (by rfl) (by rfl) (by rfl) yA Tryz.underlying46 (by rfl) 4 hs1' (by kernel_rfl) ?_; simp only [Act.put, List.setIfInBounds_toArray, List.set_cons_succ, List.set_cons_zero, Array.toArray_toList])
            | (refine wpQuiet_load (by rfl) (by rfl) (by rfl) yB Tryz.underlying46 (by rfl) 4 hs2' (by kernel_rfl) ?_; simp only [Act.put, List.setIfInBounds_toArray, List.set_cons_succ, List.set_cons_zero, Array.toArray_toList])
            | go_big_quiet_step (fail))
          refine wpQuiet_nil ?_
          intro _ hw'
          obtain ⟨q, hw''⟩ := hw'
          subst hw''
          have hbq0 := q.below
          generalize q.val = W5 at *
          clear zA6 zB6 yA yB
          go_wp2_with (go_at_call 46; refine (HCALL.out _ hbq0).mono ?_; rintro e w6 ⟨rfl, hb6⟩; have hbq := hbq0.trans (hb6.mono hbq0.size))
          go_roundw
          case rel => exact ⟨i + 1, by go_num, by omega, (fun j x' y' hj h1 h2 => by
            rcases Nat.lt_or_ge j i with h | h
            · exact HALL.out j x' y' h h1 h2
            · obtain rfl : j = i := by omega
              rw [HX.out] at h1; rw [HY.out] at h2
              injection h1 with h1; injection h2 with h2
              rw [← h1, ← h2]; exact hxy), HBL.out.trans (hbq.mono HBL.out.size)⟩
          case measure => simp [RowKit.intOf]; omega
      · have hkk : i = f.length := by omega
        have HT : Hid (R = true) := Lib.hid (by rw [HEQ.out]; exact eqL_yes HL.out fun j x y h1 h2 => HALL.out j x y (by have := (List.getElem?_eq_some_iff.1 h1).1; omega) h1 h2)
        go_wp2_with fail
        go_ret
        exact ⟨by rw [HT.out]; rfl, HBX.out.trans (HBL.out.mono HBX.out.size)⟩
  · have hne : ¬ ((f.length : Int) = (g.length : Int)) := by omega
    have hne2 : ((f.length : Int) != (g.length : Int)) = true := by simpa using hne
    have hne3 : (f.length != g.length) = true := by simpa using hlen
    have hne4 : (f.length == g.length) = false := by simpa using hlen
    have hRv : R = false := by rw [HEQ.out, eqL_len (E := eqM) hlen]
    go_wp2_with fail
    go_ret
    exact ⟨by first | rfl | (rw [hRv]; rfl), HBX.out⟩
set_option maxRecDepth 100000 in
set_option maxHeartbeats 16000000 in
theorem rM (hI : RIt) : RMo := by
  intro m m' hsm w S S' cs ds h h'
  obtain ⟨nm, ck, pa, it⟩ := m
  obtain ⟨nm', ck', pa', it'⟩ := m'
  obtain ⟨s1, s2, s3⟩ := hsm
  obtain ⟨Ap, cp, Ai, ci, rfl, hp1, hp2, hi1, vs, hv1, hv2, hv3⟩ := h
  obtain ⟨Ap', cp', Ai', ci', rfl, hp1', hp2', hi1', us, hu1, hu2, hu3⟩ := h'
  dsimp only at *
  have Hp : ∀ W, Below w.heap.size w W → Calls Tryz.prog 83 #[.slice Ap pa.length cp, .slice Ap' pa'.length cp'] W (RetB (eqL eqD pa pa') W) := fun W hb => rstrings pa pa' Ap Ap' cp cp' W S S' s1 (hp2.grown (grown_below hb) (fun g e => by cases e)) (hp2'.grown (grown_below hb) (fun g e => by cases e))
  have HREC := Lib.hid hI
  have HSL := Lib.hid s2
  have HSM := Lib.hid s3
  have HV1 := Lib.hid hv2
  have HV2 := Lib.hid hv3
  have HV3 := Lib.hid hu2
  have HV4 := Lib.hid hu3
  clear hI hp2 hp2' hv2 hv3 hu2 hu3 s1 s2 s3 hp1 hp1' hi1 hi1' hv1 hu1
  generalize hR : eqM _ _ = R
  have hR' : R = (decide (nm = nm') && (decide (ck = ck') && (eqL eqD pa pa' && eqL eqI it it'))) := by rw [← hR]; rfl
  clear hR
  have HR := Lib.hid hR'
  clear hR'
  obtain ⟨M1, M2, bA⟩ := start2X w #[.string ⟨nm.toArray⟩, .string ⟨ck.toArray⟩, .slice Ap pa.length cp, .slice Ai it.length ci] #[.string ⟨nm'.toArray⟩, .string ⟨ck'.toArray⟩, .slice Ap' pa'.length cp', .slice Ai' it'.length ci'] 46 46
  go_enter Tryz.func46, Tryz.ntmps46
  go_upto_region 1 with fail
  generalize hXe : (w.alloc (.cells #[.string ⟨nm.toArray⟩, .string ⟨ck.toArray⟩, .slice Ap pa.length cp, .slice Ai it.length ci] 46)).alloc (.cells #[.string ⟨nm'.toArray⟩, .string ⟨ck'.toArray⟩, .slice Ap' pa'.length cp', .slice Ai' it'.length ci'] 46) = X at *
  clear hXe
  have cA0 := M1.cell (i := 0) rfl
  have cB0 := M2.cell (i := 0) rfl
  have cA1 := M1.cell (i := 1) rfl
  have cB1 := M2.cell (i := 1) rfl
  have cA2 := M1.cell (i := 2) rfl
  have cB2 := M2.cell (i := 2) rfl
  have HM1 := Lib.hid M1
  have HM2 := Lib.hid M2
  have HBX := Lib.hid bA
  have KHp := Lib.hid (Hp X bA)
  clear M1 M2 bA Hp
  by_cases h1 : nm = nm'
  · subst h1
    by_cases h2 : ck = ck'
    · subst h2
      cases hpp : eqL eqD pa pa' with
      | true =>
        rw [hpp] at KHp
        by_cases hlen : it.length = it'.length
        · have HL := Lib.hid hlen
          have HEQ : Hid (R = eqL eqI it it') := Lib.hid (by rw [HR.out, hpp]; simp only [decide_true, Bool.true_and])
          clear hlen
          have n : it.length ≤ 281474976710656 := by rw [HL.out]; exact HSL.out
          have H0 : Hid (EqAt eqI it it' X (.int .i64 0) X) := Lib.hid ⟨0, rfl, Nat.zero_le _, fun j x y h => absurd h (Nat.not_lt_zero _), Below.refl _ _⟩
          go_wp2_with (go_at_call 83; refine (KHp.out).mono ?_; rintro e v4 ⟨rfl, hc4⟩; have cA3v := (HM1.out.keep hc4).cell (i := 3) rfl; have cB3v := (HM2.out.keep hc4).cell (i := 3) rfl; rw [← HL.out] at cB3v)
          go_loopw [5] (EqAt eqI it it' X) (fun i _ => it.length - (RowKit.intOf i).toNat)
          case atStart => exact ⟨0, rfl, Nat.zero_le _, fun j x y h => absurd h (Nat.not_lt_zero _), hc4⟩
          case round =>
            obtain ⟨i, rfl, hk, hall, hb⟩ := hrel
            have HALL := Lib.hid hall
            have HBL := Lib.hid hb
            clear hall hb H0 cA0 cB0 cA1 cB1 cA2 cB2 cA3v cB3v hc4
            have n1 := HM1.out.keep HBL.out
            have n2 := HM2.out.keep HBL.out
            have cA6 := n1.cell (i := 3) rfl
            have cB6 := n2.cell (i := 3) rfl
            rw [← HL.out] at cB6
            by_cases hlt : i < it.length
            · obtain ⟨x, hx⟩ : ∃ x, it[i]? = some x := ⟨it[i], List.getElem?_eq_getElem hlt⟩
              obtain ⟨y, hy⟩ : ∃ y, it'[i]? = some y := ⟨it'[i]'(by rw [← HL.out]; exact hlt), List.getElem?_eq_getElem _⟩
              have hbW : Below w.heap.size w wr := HBX.out.trans (HBL.out.mono HBX.out.size)
              obtain ⟨b1, o1, c1, rfl, hl1, hr1, hs1, ho1, he1⟩ := it_at (HV1.out.grown (grown_below hbW) (fun g e => by cases e)) (HV2.out.grown (grown_below hbW) (fun g e => by cases e)) hx
              obtain ⟨b2, o2, c2, rfl, hl2, hr2, hs2, ho2, he2⟩ := it_at (HV3.out.grown (grown_below hbW) (fun g e => by cases e)) (HV4.out.grown (grown_below hbW) (fun g e => by cases e)) hy
              have HCALL : Hid (∀ W, Below wr.heap.size wr W → Calls Tryz.prog 84 #[.agg c1, .agg c2] W (RetB (eqI x y) W)) := Lib.hid (fun W hbz => HREC.out x y (HSM.out y (List.mem_of_getElem? hy)) W S S' c1 c2 (he1.grown (grown_below hbz) (fun g e => by cases e)) (he2.grown (grown_below hbz) (fun g e => by cases e)))
              have HX := Lib.hid hx
              have HY := Lib.hid hy
              have lA := n1.lt
              have lB := n2.lt
              have zA6 : ∀ p : Later wr, p.val.cell? ⟨w.heap.size, 3, none⟩ = some (.slice (some ⟨b1, o1, none⟩) it.length ci) := fun p => Later.cell (a := ⟨w.heap.size, 3, none⟩) cA6 lA p
              have zB6 : ∀ p : Later wr, p.val.cell? ⟨w.heap.size + 1, 3, none⟩ = some (.slice (some ⟨b2, o2, none⟩) it.length ci') := fun p => Later.cell (a := ⟨w.heap.size + 1, 3, none⟩) cB6 lB p
              have yA : ∀ v, (∃ p : Later wr, v = p.val) → v.rangeAt b1 (o1 + i * 35) c1.toList := by rintro _ ⟨p, rfl⟩; exact range_keep hr1 p.below hl1
              have yB : ∀ v, (∃ p : Later wr, v = p.val) → v.rangeAt b2 (o2 + i * 35) c2.toList := by rintro _ ⟨p, rfl⟩; exact range_keep hr2 p.below hl2
              have hs1' : c1.toList.length = 35 := by rw [Array.length_toList]; exact hs1
              have hs2' : c2.toList.length = 35 := by rw [Array.length_toList]; exact hs2
              have hi0 : ¬ (i : Int) < 0 := by omega
              have hi1 : (i : Int) < (it.length : Int) := by omega
              clear hx hy hr1 hr2 he1 he2 n1 n2 hs1 hs2 ho1 ho2
              cases hxy : eqI x y with
              | false =>
                rw [hxy] at HCALL
                go_upto_region 6 with fail
                refine wp_region_later_tail 10 (by kernel_rfl) (by kernel_rfl) ?_
                simp only [List.take_succ_cons, List.take_zero, List.drop_succ_cons, List.drop_zero]
                repeat (first
                  | (refine wpQuiet_load (by rfl) (by rfl) (by rfl) yA Tryz.underlying69 (by rfl) 35 hs1' (by kernel_rfl) ?_; simp only [Act.put, List.setIfInBounds_toArray, List.set_cons_succ, List.set_cons_zero, Array.toArray_toList])
                  | (refine wpQuiet_load (by rfl) (by rfl) (by rfl) yB Tryz.underlying69 (by rfl) 35 hs2' (by kernel_rfl) ?_; simp only [Act.put, List.setIfInBounds_toArray, List.set_cons_succ, List.set_cons_zero, Array.toArray_toList])
                  | go_big_quiet_step (fail))
                refine wpQuiet_nil ?_
                intro _ hw'
                obtain ⟨q, hw''⟩ := hw'
                subst hw''
                have hbq0 := q.below
                generalize q.val = W5 at *
                clear zA6 zB6 yA yB
                go_wp2_with (go_at_call 84; refine (HCALL.out _ hbq0).mono ?_; rintro e w6 ⟨rfl, hb6⟩; have hbq := hbq0.trans (hb6.mono hbq0.size))
                go_ret
                exact ⟨by first | rfl | (rw [HEQ.out, eqL_no HX.out HY.out hxy]; rfl), HBX.out.trans ((HBL.out.trans (hbq.mono HBL.out.size)).mono HBX.out.size)⟩
              | true =>
                rw [hxy] at HCALL
                go_upto_region 6 with fail
                refine wp_region_later_tail 10 (by kernel_rfl) (by kernel_rfl) ?_
                simp only [List.take_succ_cons, List.take_zero, List.drop_succ_cons, List.drop_zero]
                repeat (first
                  | (refine wpQuiet_load (by rfl) (by rfl) (by rfl) yA Tryz.underlying69 (by rfl) 35 hs1' (by kernel_rfl) ?_; simp only [Act.put, List.setIfInBounds_toArray, List.set_cons_succ, List.set_cons_zero, Array.toArray_toList])
                  | (refine wpQuiet_load (by rfl) (by rfl) (by rfl) yB Tryz.underlying69 (by rfl) 35 hs2' (by kernel_rfl) ?_; simp only [Act.put, List.setIfInBounds_toArray, List.set_cons_succ, List.set_cons_zero, Array.toArray_toList])
                  | go_big_quiet_step (fail))
                refine wpQuiet_nil ?_
                intro _ hw'
                obtain ⟨q, hw''⟩ := hw'
                subst hw''
                have hbq0 := q.below
                generalize q.val = W5 at *
                clear zA6 zB6 yA yB
                go_wp2_with (go_at_call 84; refine (HCALL.out _ hbq0).mono ?_; rintro e w6 ⟨rfl, hb6⟩; have hbq := hbq0.trans (hb6.mono hbq0.size))
                go_roundw
                case rel => exact ⟨i + 1, by go_num, by omega, (fun j x' y' hj h1 h2 => by
                  rcases Nat.lt_or_ge j i with h | h
                  · exact HALL.out j x' y' h h1 h2
                  · obtain rfl : j = i := by omega
                    rw [HX.out] at h1; rw [HY.out] at h2
                    injection h1 with h1; injection h2 with h2
                    rw [← h1, ← h2]; exact hxy), HBL.out.trans (hbq.mono HBL.out.size)⟩
                case measure => simp [RowKit.intOf]; omega
            · have hkk : i = it.length := by omega
              have HT : Hid (R = true) := Lib.hid (by rw [HEQ.out]; exact eqL_yes HL.out fun j x y h1 h2 => HALL.out j x y (by have := (List.getElem?_eq_some_iff.1 h1).1; omega) h1 h2)
              go_wp2_with fail
              go_ret
              exact ⟨by rw [HT.out]; rfl, HBX.out.trans (HBL.out.mono HBX.out.size)⟩
        · have hne : ¬ ((it.length : Int) = (it'.length : Int)) := by omega
          have hne2 : ((it.length : Int) != (it'.length : Int)) = true := by simpa using hne
          have hne3 : (it.length != it'.length) = true := by simpa using hlen
          have hne4 : (it.length == it'.length) = false := by simpa using hlen
          have hRv : R = false := by rw [HR.out, eqL_len (E := eqI) hlen]; simp only [Bool.and_false]
          go_wp2_with (go_at_call 83; refine (KHp.out).mono ?_; rintro e v4 ⟨rfl, hc4⟩; have cA3v := (HM1.out.keep hc4).cell (i := 3) rfl; have cB3v := (HM2.out.keep hc4).cell (i := 3) rfl)
          go_ret
          exact ⟨by first | rfl | (rw [hRv]; rfl), HBX.out.trans (hc4.mono HBX.out.size)⟩
      | false =>
        rw [hpp] at KHp
        have hRv : R = false := by rw [HR.out, hpp]; simp only [Bool.false_and, Bool.and_false]
        go_wp2_with (go_at_call 83; refine (KHp.out).mono ?_; rintro e v4 ⟨rfl, hc4⟩; have cA3v := (HM1.out.keep hc4).cell (i := 3) rfl; have cB3v := (HM2.out.keep hc4).cell (i := 3) rfl)
        go_ret
        exact ⟨by first | rfl | (rw [hRv]; rfl), HBX.out.trans (hc4.mono HBX.out.size)⟩
    · have h2d : decide (ck = ck') = false := decide_eq_false h2
      have hRv : R = false := by rw [HR.out, h2d]; simp only [Bool.false_and, Bool.and_false]
      go_wp2_with fail
      go_ret
      exact ⟨by first | rfl | (rw [hRv]; rfl), HBX.out⟩
  · have h1d : decide (nm = nm') = false := decide_eq_false h1
    have hRv : R = false := by rw [HR.out, h1d]; simp only [Bool.false_and]
    go_wp2_with fail
    go_ret
    exact ⟨by first | rfl | (rw [hRv]; rfl), HBX.out⟩
end Sy
end Go.Proofs.YtggeepimihhpjaaGreatDoor
