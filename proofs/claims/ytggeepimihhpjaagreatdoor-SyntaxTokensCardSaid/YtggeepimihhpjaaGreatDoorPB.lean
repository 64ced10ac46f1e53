/- num, numBehind, bracketed, binding. -/
import Derived.Test.YtggeepimihhpjaaGreatDoorPA
namespace Go.Proofs.YtggeepimihhpjaaGreatDoor
open Go.RowKit Go.Shelf Sl Fr Lx
namespace Sy
set_option linter.unusedVariables false
set_option linter.unusedSimpArgs false
attribute [local go_sem] field_t0 field_t1 field_t2

theorem next_rd {n pb : Nat} {l : List Tk} {w : World} (h : PX n pb l w) : Calls Tryz.prog 95 #[.pointer (some ⟨pb, 0, none⟩)] w fun e w' => e = .returned (.agg #[.int .i64 ((nextT l).kind : Int), .string ⟨(nextT l).text.toArray⟩, .int .i64 ((nextT l).at_ : Int)]) ∧ PX n pb l w' ∧ w.grownBy w' (some pb) := by
  refine (next_any n pb l w h.ps).mono ?_
  rintro e w' ⟨rfl, hb⟩
  exact ⟨rfl, h.below hb, gb hb⟩
theorem number_le {k : Nat} {l r : List Tk} {v : Nat} (h : numberP k l = .ok v r) : v ≤ 1000001 := by
  unfold numberP at h
  split at h
  · cases h
  · injection h with h1 h2
    rw [← h1]
    exact numV_le _ _ (by omega)

set_option maxRecDepth 100000 in
set_option maxHeartbeats 4000000 in
theorem num_any (n pb : Nat) (l : List Tk) (w : World) (h : PX n pb l w) :
    Calls Tryz.prog 141 #[.pointer (some ⟨pb, 0, none⟩)] w (Gives n pb l numP NumV w) := by
  have hlt0 := h.lt
  obtain ⟨m0, bA⟩ := start1 w #[.int .i64 0, .string ⟨#[]⟩] 60
  have hX := h.below bA
  have hgX : w.grownBy _ (some pb) := gb bA
  have nb0 : some w.heap.size ≠ some pb := fun e => by injection e with e; omega
  have HB0 := Lib.hid (Nat.le_refl w.heap.size)
  have HN0 := Lib.hid h.room
  go_enter Tryz.func141, Tryz.ntmps141
  go_upto_region 1 with fail
  generalize w.alloc (.cells #[.int .i64 0, .string ⟨#[]⟩] 60) = X at *
  obtain ⟨b0, hb0⟩ : ∃ b, b = w.heap.size := ⟨_, rfl⟩
  rw [← hb0] at m0 nb0 HN0 ⊢
  have HE0 := Lib.hid hb0
  have HX := Lib.hid hX
  have HM0 := Lib.hid m0
  have HGX := Lib.hid hgX
  have HM := Lib.hid (numP.eq_1 l)
  clear h bA hX m0 hgX hlt0 hb0
  have HC0 := Lib.hid (fun W (hW : PX n pb l W) => next_rd hW)
  by_cases hk : (nextT l).kind = 2
  · have HMk := Lib.hid (by have q := HM.out; rw [if_pos hk] at q; exact q)
    have hk2 : (((nextT l).kind : Int) == 2) = true := by rw [hk]; rfl
    have hk3 : ((nextT l).kind == 2) = true := by rw [hk]; rfl
    clear HM hk
    generalize (nextT l).kind = kk at HC0 hk2 hk3
    generalize (⟨(nextT l).text.toArray⟩ : ByteArray) = tx at HC0
    generalize (nextT l).at_ = ta at HC0
    cases hm1 : numberP 0 l with
    | no a =>
      have HMM := Lib.hid (HMk.out.trans (bind_no hm1))
      have HC1 := Lib.hid (fun W (hW : PX n pb l W) => rd_no (number0 n pb l W hW) hm1)
      clear hm1
      go_wp2_with (first
        | (go_at_call 95; with_reducible refine (HC0.out _ HX.out).mono ?_; rintro e w0 ⟨rfl, hx0, hg0⟩; have mR0 := (HM0.out).grown hg0 nb0)
        | (go_at_call 165; with_reducible refine (HC1.out _ hx0).mono ?_; rintro e w1 ⟨rfl, hg1⟩))
      exact ⟨rfl, Gives.of_no HMM.out ((((HGX.out).trans hg0)).trans hg1)⟩
    | ok x1 l1 =>
      have HM1 := Lib.hid (HMk.out.trans (bind_ok hm1))
      have HC1 := Lib.hid (fun W (hW : PX n pb l W) => rd_is (g := fun x : Nat => .int .i64 (x : Int)) (number0 n pb l W hW) hW hm1)
      clear hm1 HMk
      go_wp2_with (first
        | (go_at_call 95; with_reducible refine (HC0.out _ HX.out).mono ?_; rintro e w0 ⟨rfl, hx0, hg0⟩; have mR0 := (HM0.out).grown hg0 nb0)
        | (go_at_call 165; with_reducible refine (HC1.out _ hx0).mono ?_; rintro e w1 ⟨rfl, hx1, hg1⟩; have mR1 := (mR0).grown hg1 nb0; obtain ⟨cR0, cR1⟩ := (mR1).c2; obtain ⟨fR0, fR1⟩ := (mR1).f2))
      have q := (mR1).s2 (.int .i64 (x1 : Int)) (.string ⟨#[]⟩)
      obtain ⟨s0, s1⟩ := q.c2
      exact bodyPost_ret (v := .agg #[.int .i64 (x1 : Int), .string ⟨#[]⟩]) (by simp [results, Tryz.results141, go_sem, s0, s1]) rfl (give_box [.int .i64 (x1 : Int), .string ⟨#[]⟩] HM1.out rfl hx1 HN0.out (((((HGX.out).trans hg0)).trans hg1)) (Nat.le_of_eq HE0.out.symm))
  · have HMk := Lib.hid (by have q := HM.out; rw [if_neg hk] at q; exact q)
    have hk2 : (((nextT l).kind : Int) == 2) = false := beq_eq_false_iff_ne.2 (by omega)
    have hk3 : ((nextT l).kind == 2) = false := beq_eq_false_iff_ne.2 hk
    clear HM hk
    generalize (nextT l).kind = kk at HC0 hk2 hk3
    generalize (⟨(nextT l).text.toArray⟩ : ByteArray) = tx at HC0
    generalize (nextT l).at_ = ta at HC0
    cases hm2 : nameP l with
    | no a =>
      have HMM := Lib.hid (HMk.out.trans (bind_no hm2))
      have HC2 := Lib.hid (fun W (hW : PX n pb l W) => rd_no (name_any n pb l W hW.ps) hm2)
      clear hm2
      go_wp2_with (first
        | (go_at_call 95; with_reducible refine (HC0.out _ HX.out).mono ?_; rintro e w0 ⟨rfl, hx0, hg0⟩; have mR0 := (HM0.out).grown hg0 nb0)
        | (go_at_call 133; with_reducible refine (HC2.out _ hx0).mono ?_; rintro e w2 ⟨rfl, hg2⟩))
      exact ⟨rfl, Gives.of_no HMM.out ((((HGX.out).trans hg0)).trans hg2)⟩
    | ok x2 l2 =>
      have HM2 := Lib.hid (HMk.out.trans (bind_ok hm2))
      have HC2 := Lib.hid (fun W (hW : PX n pb l W) => rd_is (g := fun x : By => .string ⟨x.toArray⟩) (name_any n pb l W hW.ps) hW hm2)
      clear hm2 HMk
      by_cases he3 : (nextT l2).text = s_plus
      · have HM3 := Lib.hid (by have q := HM2.out; rw [bind_ok (show accept s_plus l2 = .ok true (l2).tail from if_pos he3)] at q; simp only [↓reduceIte, Bool.false_eq_true] at q; exact q)
        have HC3 := Lib.hid (fun W (hW : PX n pb l2 W) => accept_yes (z := ⟨#[43]⟩) hW (by decide) he3)
        generalize (l2).tail = l3 at *
        clear HM2
        cases hm4 : numberP 1 l3 with
        | no a =>
          have HMM := Lib.hid (HM3.out.trans (bind_no hm4))
          have HC4 := Lib.hid (fun W (hW : PX n pb l3 W) => rd_no (number1 n pb l3 W hW) hm4)
          clear hm4
          go_wp2_with (first
            | (go_at_call 95; with_reducible refine (HC0.out _ HX.out).mono ?_; rintro e w0 ⟨rfl, hx0, hg0⟩; have mR0 := (HM0.out).grown hg0 nb0)
            | (go_at_call 133; with_reducible refine (HC2.out _ hx0).mono ?_; rintro e w2 ⟨rfl, hx2, hg2⟩; have mR2 := (mR0).grown hg2 nb0)
            | (go_at_call 145; with_reducible refine (HC3.out _ ((hx2).alloc (.cells #[.int .i64 0, .string ⟨x2.toArray⟩] 60))).mono ?_; rintro e w3 ⟨rfl, hx3, hg3⟩; have mR3 := ((mR2).keep ((Below.refl _ w2).alloc (Nat.le_refl _) (.cells #[.int .i64 0, .string ⟨x2.toArray⟩] 60))).grown hg3 nb0; have mL3 := (BoxL.new w2 #[.int .i64 0, .string ⟨x2.toArray⟩] 60).grown hg3 (fun e => by injection e with e; have := (hx2).lt; omega))
            | (go_at_call 165; with_reducible refine (HC4.out _ hx3).mono ?_; rintro e w4 ⟨rfl, hg4⟩))
          exact ⟨rfl, Gives.of_no HMM.out ((((((((((HGX.out).trans hg0)).trans hg2)).trans (World.grownBy_alloc w2 (.cells #[.int .i64 0, .string ⟨x2.toArray⟩] 60) _))).trans hg3)).trans hg4)⟩
        | ok x4 l4 =>
          have HM4 := Lib.hid (HM3.out.trans (bind_ok hm4))
          have HC4 := Lib.hid (fun W (hW : PX n pb l3 W) => rd_is (g := fun x : Nat => .int .i64 (x : Int)) (number1 n pb l3 W hW) hW hm4)
          clear hm4 HM3
          go_upto_region 8 with (first
            | (go_at_call 95; with_reducible refine (HC0.out _ HX.out).mono ?_; rintro e w0 ⟨rfl, hx0, hg0⟩; have mR0 := (HM0.out).grown hg0 nb0)
            | (go_at_call 133; with_reducible refine (HC2.out _ hx0).mono ?_; rintro e w2 ⟨rfl, hx2, hg2⟩; have mR2 := (mR0).grown hg2 nb0)
            | (go_at_call 145; with_reducible refine (HC3.out _ ((hx2).alloc (.cells #[.int .i64 0, .string ⟨x2.toArray⟩] 60))).mono ?_; rintro e w3 ⟨rfl, hx3, hg3⟩; have mR3 := ((mR2).keep ((Below.refl _ w2).alloc (Nat.le_refl _) (.cells #[.int .i64 0, .string ⟨x2.toArray⟩] 60))).grown hg3 nb0; have mL3 := (BoxL.new w2 #[.int .i64 0, .string ⟨x2.toArray⟩] 60).grown hg3 (fun e => by injection e with e; have := (hx2).lt; omega))
            | (go_at_call 165; with_reducible refine (HC4.out _ hx3).mono ?_; rintro e w4 ⟨rfl, hx4, hg4⟩; have mR4 := (mR3).grown hg4 nb0; have mL4 := (mL3).grown hg4 (fun e => by injection e with e; have := (hx2).lt; omega); obtain ⟨cL0, cL1⟩ := (mL4).c2; obtain ⟨fL0, fL1⟩ := (mL4).f2))
          have hwL5 : w.heap.size ≤ w2.heap.size := (((((HGX.out).trans hg0)).trans hg2)).size
          have hnL5 : n ≤ w2.heap.size := (hx2).room
          have hbL5 : w2.heap.size ≠ b0 := by have := (mR2).lt; intro e; omega
          have mL5 : BoxL (w4.setCell ⟨w2.heap.size, 0, none⟩ (.int .i64 (x4 : Int))) (w2.heap.size) #[.int .i64 (x4 : Int), .string ⟨x2.toArray⟩] := by have q := (mL4).set1 (i := 0) (by simp) (.int .i64 (x4 : Int)); simpa using q
          have mR5 := (mR4).far1 hbL5 0 (.int .i64 (x4 : Int))
          have hx5 := (hx4).grown (grown_set w4 (w2.heap.size) 0 (.int .i64 (x4 : Int))) (fun g e => by injection e with e; omega)
          have hg5 := grown_fresh (W := w4) hwL5 [.int .i64 (x4 : Int)] w4 0 (((((((((((HGX.out).trans hg0)).trans hg2)).trans (World.grownBy_alloc w2 (.cells #[.int .i64 0, .string ⟨x2.toArray⟩] 60) _))).trans hg3)).trans hg4))
          have HX5 := Lib.hid hx5
          have HG5 : Hid (w.grownBy (w4.setCell ⟨w2.heap.size, 0, none⟩ (.int .i64 (x4 : Int))) (some pb)) := Lib.hid hg5
          clear hx5 hg5 cL0 fL0 cL1 fL1
          generalize w4.setCell ⟨w2.heap.size, 0, none⟩ (.int .i64 (x4 : Int)) = Y5 at *
          obtain ⟨cR0, cR1⟩ := (mR5).c2
          obtain ⟨fR0, fR1⟩ := (mR5).f2
          obtain ⟨cL0, cL1⟩ := (mL5).c2
          go_wp2_with fail
          have q := (mR5).s2 (.int .i64 (x4 : Int)) (.string ⟨x2.toArray⟩)
          obtain ⟨s0, s1⟩ := q.c2
          exact bodyPost_ret (v := .agg #[.int .i64 (x4 : Int), .string ⟨x2.toArray⟩]) (by simp [results, Tryz.results141, go_sem, s0, s1]) rfl (give_box [.int .i64 (x4 : Int), .string ⟨x2.toArray⟩] HM4.out rfl HX5.out HN0.out (HG5.out) (Nat.le_of_eq HE0.out.symm))
      · have HM3 := Lib.hid (by have q := HM2.out; rw [bind_ok (show accept s_plus l2 = .ok false l2 from if_neg he3)] at q; simp only [↓reduceIte, Bool.false_eq_true] at q; exact q)
        have HC3 := Lib.hid (fun W (hW : PX n pb l2 W) => accept_no (z := ⟨#[43]⟩) hW (by decide) he3)
        clear HM2
        by_cases he6 : (nextT l2).text = s_minus
        · have HM6 := Lib.hid (by have q := HM3.out; rw [bind_ok (show accept s_minus l2 = .ok true (l2).tail from if_pos he6)] at q; simp only [↓reduceIte, Bool.false_eq_true] at q; exact q)
          have HC6 := Lib.hid (fun W (hW : PX n pb l2 W) => accept_yes (z := ⟨#[45]⟩) hW (by decide) he6)
          generalize (l2).tail = l6 at *
          clear HM3
          cases hm7 : numberP 1 l6 with
          | no a =>
            have HMM := Lib.hid (HM6.out.trans (bind_no hm7))
            have HC7 := Lib.hid (fun W (hW : PX n pb l6 W) => rd_no (number1 n pb l6 W hW) hm7)
            clear hm7
            go_wp2_with (first
              | (go_at_call 95; with_reducible refine (HC0.out _ HX.out).mono ?_; rintro e w0 ⟨rfl, hx0, hg0⟩; have mR0 := (HM0.out).grown hg0 nb0)
              | (go_at_call 133; with_reducible refine (HC2.out _ hx0).mono ?_; rintro e w2 ⟨rfl, hx2, hg2⟩; have mR2 := (mR0).grown hg2 nb0)
              | (go_at_call 145; with_reducible refine (HC3.out _ ((hx2).alloc (.cells #[.int .i64 0, .string ⟨x2.toArray⟩] 60))).mono ?_; rintro e w3 ⟨rfl, hx3, hg3⟩; have mR3 := ((mR2).keep ((Below.refl _ w2).alloc (Nat.le_refl _) (.cells #[.int .i64 0, .string ⟨x2.toArray⟩] 60))).grown hg3 nb0; have mL3 := (BoxL.new w2 #[.int .i64 0, .string ⟨x2.toArray⟩] 60).grown hg3 (fun e => by injection e with e; have := (hx2).lt; omega))
              | (go_at_call 145; with_reducible refine (HC6.out _ hx3).mono ?_; rintro e w6 ⟨rfl, hx6, hg6⟩; have mR6 := (mR3).grown hg6 nb0; have mL6 := (mL3).grown hg6 (fun e => by injection e with e; have := (hx2).lt; omega))
              | (go_at_call 165; with_reducible refine (HC7.out _ hx6).mono ?_; rintro e w7 ⟨rfl, hg7⟩))
            exact ⟨rfl, Gives.of_no HMM.out ((((((((((((HGX.out).trans hg0)).trans hg2)).trans (World.grownBy_alloc w2 (.cells #[.int .i64 0, .string ⟨x2.toArray⟩] 60) _))).trans hg3)).trans hg6)).trans hg7)⟩
          | ok x7 l7 =>
            have HM7 := Lib.hid (HM6.out.trans (bind_ok hm7))
            have HC7 := Lib.hid (fun W (hW : PX n pb l6 W) => rd_is (g := fun x : Nat => .int .i64 (x : Int)) (number1 n pb l6 W hW) hW hm7)
            have hle7 := number_le hm7
            clear hm7 HM6
            go_upto_region 8 with (first
              | (go_at_call 95; with_reducible refine (HC0.out _ HX.out).mono ?_; rintro e w0 ⟨rfl, hx0, hg0⟩; have mR0 := (HM0.out).grown hg0 nb0)
              | (go_at_call 133; with_reducible refine (HC2.out _ hx0).mono ?_; rintro e w2 ⟨rfl, hx2, hg2⟩; have mR2 := (mR0).grown hg2 nb0)
              | (go_at_call 145; with_reducible refine (HC3.out _ ((hx2).alloc (.cells #[.int .i64 0, .string ⟨x2.toArray⟩] 60))).mono ?_; rintro e w3 ⟨rfl, hx3, hg3⟩; have mR3 := ((mR2).keep ((Below.refl _ w2).alloc (Nat.le_refl _) (.cells #[.int .i64 0, .string ⟨x2.toArray⟩] 60))).grown hg3 nb0; have mL3 := (BoxL.new w2 #[.int .i64 0, .string ⟨x2.toArray⟩] 60).grown hg3 (fun e => by injection e with e; have := (hx2).lt; omega))
              | (go_at_call 145; with_reducible refine (HC6.out _ hx3).mono ?_; rintro e w6 ⟨rfl, hx6, hg6⟩; have mR6 := (mR3).grown hg6 nb0; have mL6 := (mL3).grown hg6 (fun e => by injection e with e; have := (hx2).lt; omega))
              | (go_at_call 165; with_reducible refine (HC7.out _ hx6).mono ?_; rintro e w7 ⟨rfl, hx7, hg7⟩; have mR7 := (mR6).grown hg7 nb0; have mL7 := (mL6).grown hg7 (fun e => by injection e with e; have := (hx2).lt; omega); obtain ⟨cL0, cL1⟩ := (mL7).c2; obtain ⟨fL0, fL1⟩ := (mL7).f2))
            have hwL8 : w.heap.size ≤ w2.heap.size := (((((HGX.out).trans hg0)).trans hg2)).size
            have hnL8 : n ≤ w2.heap.size := (hx2).room
            have hbL8 : w2.heap.size ≠ b0 := by have := (mR2).lt; intro e; omega
            have mL8 : BoxL (w7.setCell ⟨w2.heap.size, 0, none⟩ (.int .i64 (-(x7 : Int)))) (w2.heap.size) #[.int .i64 (-(x7 : Int)), .string ⟨x2.toArray⟩] := by have q := (mL7).set1 (i := 0) (by simp) (.int .i64 (-(x7 : Int))); simpa using q
            have mR8 := (mR7).far1 hbL8 0 (.int .i64 (-(x7 : Int)))
            have hx8 := (hx7).grown (grown_set w7 (w2.heap.size) 0 (.int .i64 (-(x7 : Int)))) (fun g e => by injection e with e; omega)
            have hg8 := grown_fresh (W := w7) hwL8 [.int .i64 (-(x7 : Int))] w7 0 (((((((((((((HGX.out).trans hg0)).trans hg2)).trans (World.grownBy_alloc w2 (.cells #[.int .i64 0, .string ⟨x2.toArray⟩] 60) _))).trans hg3)).trans hg6)).trans hg7))
            have HX8 := Lib.hid hx8
            have HG8 : Hid (w.grownBy (w7.setCell ⟨w2.heap.size, 0, none⟩ (.int .i64 (-(x7 : Int)))) (some pb)) := Lib.hid hg8
            clear hx8 hg8 cL0 fL0 cL1 fL1
            generalize w7.setCell ⟨w2.heap.size, 0, none⟩ (.int .i64 (-(x7 : Int))) = Y8 at *
            obtain ⟨cR0, cR1⟩ := (mR8).c2
            obtain ⟨fR0, fR1⟩ := (mR8).f2
            obtain ⟨cL0, cL1⟩ := (mL8).c2
            go_wp2_with fail
            have q := (mR8).s2 (.int .i64 (-(x7 : Int))) (.string ⟨x2.toArray⟩)
            obtain ⟨s0, s1⟩ := q.c2
            exact bodyPost_ret (v := .agg #[.int .i64 (-(x7 : Int)), .string ⟨x2.toArray⟩]) (by simp [results, Tryz.results141, go_sem, s0, s1]) rfl (give_box [.int .i64 (-(x7 : Int)), .string ⟨x2.toArray⟩] HM7.out rfl HX8.out HN0.out (HG8.out) (Nat.le_of_eq HE0.out.symm))
        · have HM6 := Lib.hid (by have q := HM3.out; rw [bind_ok (show accept s_minus l2 = .ok false l2 from if_neg he6)] at q; simp only [↓reduceIte, Bool.false_eq_true] at q; exact q)
          have HC6 := Lib.hid (fun W (hW : PX n pb l2 W) => accept_no (z := ⟨#[45]⟩) hW (by decide) he6)
          clear HM3
          go_wp2_with (first
            | (go_at_call 95; with_reducible refine (HC0.out _ HX.out).mono ?_; rintro e w0 ⟨rfl, hx0, hg0⟩; have mR0 := (HM0.out).grown hg0 nb0)
            | (go_at_call 133; with_reducible refine (HC2.out _ hx0).mono ?_; rintro e w2 ⟨rfl, hx2, hg2⟩; have mR2 := (mR0).grown hg2 nb0)
            | (go_at_call 145; with_reducible refine (HC3.out _ ((hx2).alloc (.cells #[.int .i64 0, .string ⟨x2.toArray⟩] 60))).mono ?_; rintro e w3 ⟨rfl, hx3, hg3⟩; have mR3 := ((mR2).keep ((Below.refl _ w2).alloc (Nat.le_refl _) (.cells #[.int .i64 0, .string ⟨x2.toArray⟩] 60))).grown hg3 nb0; have mL3 := (BoxL.new w2 #[.int .i64 0, .string ⟨x2.toArray⟩] 60).grown hg3 (fun e => by injection e with e; have := (hx2).lt; omega))
            | (go_at_call 145; with_reducible refine (HC6.out _ hx3).mono ?_; rintro e w6 ⟨rfl, hx6, hg6⟩; have mR6 := (mR3).grown hg6 nb0; have mL6 := (mL3).grown hg6 (fun e => by injection e with e; have := (hx2).lt; omega); obtain ⟨cR0, cR1⟩ := (mR6).c2; obtain ⟨fR0, fR1⟩ := (mR6).f2; obtain ⟨cL0, cL1⟩ := (mL6).c2))
          have q := (mR6).s2 (.int .i64 0) (.string ⟨x2.toArray⟩)
          obtain ⟨s0, s1⟩ := q.c2
          exact bodyPost_ret (v := .agg #[.int .i64 0, .string ⟨x2.toArray⟩]) (by simp [results, Tryz.results141, go_sem, s0, s1]) rfl (give_box [.int .i64 0, .string ⟨x2.toArray⟩] HM6.out rfl hx6 HN0.out (((((((((((HGX.out).trans hg0)).trans hg2)).trans (World.grownBy_alloc w2 (.cells #[.int .i64 0, .string ⟨x2.toArray⟩] 60) _))).trans hg3)).trans hg6)) (Nat.le_of_eq HE0.out.symm))

set_option maxRecDepth 100000 in
set_option maxHeartbeats 4000000 in
theorem numBehind_any (n pb : Nat) (l : List Tk) (z : ByteArray) (hz : bys z ≠ []) (w : World) (h : PX n pb l w) :
    Calls Tryz.prog 134 #[.pointer (some ⟨pb, 0, none⟩), .string z] w (Gives n pb l (behind (bys z) numP) NumV w) := by
  have hlt0 := h.lt
  obtain ⟨m0, bA⟩ := start1 w #[.int .i64 0, .string ⟨#[]⟩] 60
  have hX := h.below bA
  have hgX : w.grownBy _ (some pb) := gb bA
  have nb0 : some w.heap.size ≠ some pb := fun e => by injection e with e; omega
  have HB0 := Lib.hid (Nat.le_refl w.heap.size)
  have HN0 := Lib.hid h.room
  go_enter Tryz.func134, Tryz.ntmps134
  go_upto_region 1 with fail
  generalize w.alloc (.cells #[.int .i64 0, .string ⟨#[]⟩] 60) = X at *
  obtain ⟨b0, hb0⟩ : ∃ b, b = w.heap.size := ⟨_, rfl⟩
  rw [← hb0] at m0 nb0 HN0 ⊢
  have HE0 := Lib.hid hb0
  have HX := Lib.hid hX
  have HM0 := Lib.hid m0
  have HGX := Lib.hid hgX
  have HM := Lib.hid (show behind (bys z) numP l = (expect (bys z) >>= fun _ => numP) l from rfl)
  clear h bA hX m0 hgX hlt0 hb0
  cases hm1 : expect (bys z) l with
  | no a =>
    have HMM := Lib.hid (HM.out.trans (bind_no hm1))
    have HC1 := Lib.hid (fun W (hW : PX n pb l W) => rd_no (expect_any n pb l z W hW.ps hz) hm1)
    clear hm1
    go_wp2_with (go_at_call 138; with_reducible refine (HC1.out _ HX.out).mono ?_; rintro e w1 ⟨rfl, hg1⟩)
    exact ⟨rfl, Gives.of_no HMM.out ((HGX.out).trans hg1)⟩
  | ok u1 l1 =>
    have HM1 := Lib.hid (HM.out.trans (bind_ok hm1))
    have HC1 := Lib.hid (fun W (hW : PX n pb l W) => rd_is (g := fun _ : Unit => Value.tuple #[]) (expect_any n pb l z W hW.ps hz) hW hm1)
    clear hm1 HM
    cases hm2 : numP l1 with
    | no a =>
      have HMM := Lib.hid (HM1.out.trans hm2)
      have HC2 := Lib.hid (fun W (hW : PX n pb l1 W) => rd_no (num_any n pb l1 W hW) hm2)
      clear hm2
      go_wp2_with (first
        | (go_at_call 138; with_reducible refine (HC1.out _ HX.out).mono ?_; rintro e w1 ⟨rfl, hx1, hg1⟩; have mR1 := (HM0.out).grown hg1 nb0)
        | (go_at_call 141; with_reducible refine (HC2.out _ hx1).mono ?_; rintro e w2 ⟨rfl, hg2⟩))
      exact ⟨rfl, Gives.of_no HMM.out ((((HGX.out).trans hg1)).trans hg2)⟩
    | ok x2 l2 =>
      have HM2 := Lib.hid (HM1.out.trans hm2)
      have HC2 := Lib.hid (fun W (hW : PX n pb l1 W) => rd_is (g := fun x : NumT => .agg #[.int .i64 x.n, .string ⟨x.p.toArray⟩]) (num_any n pb l1 W hW) hW hm2)
      clear hm2 HM1
      go_wp2_with (first
        | (go_at_call 138; with_reducible refine (HC1.out _ HX.out).mono ?_; rintro e w1 ⟨rfl, hx1, hg1⟩; have mR1 := (HM0.out).grown hg1 nb0)
        | (go_at_call 141; with_reducible refine (HC2.out _ hx1).mono ?_; rintro e w2 ⟨rfl, hx2, hg2⟩; have mR2 := (mR1).grown hg2 nb0; obtain ⟨cR0, cR1⟩ := (mR2).c2; obtain ⟨fR0, fR1⟩ := (mR2).f2))
      have q := (mR2).s2 (.int .i64 x2.n) (.string ⟨x2.p.toArray⟩)
      obtain ⟨s0, s1⟩ := q.c2
      exact bodyPost_ret (v := .agg #[.int .i64 x2.n, .string ⟨x2.p.toArray⟩]) (by simp [results, Tryz.results134, go_sem, s0, s1]) rfl (give_box [.int .i64 x2.n, .string ⟨x2.p.toArray⟩] HM2.out rfl hx2 HN0.out (((((HGX.out).trans hg1)).trans hg2)) (Nat.le_of_eq HE0.out.symm))

set_option maxRecDepth 100000 in
set_option maxHeartbeats 4000000 in
theorem bracketed_any (n pb : Nat) (l : List Tk) (w : World) (h : PX n pb l w) :
    Calls Tryz.prog 135 #[.pointer (some ⟨pb, 0, none⟩)] w (Gives n pb l bracketP NumV w) := by
  have hlt0 := h.lt
  obtain ⟨m0, bA⟩ := start1 w #[.int .i64 0, .string ⟨#[]⟩] 60
  have hX := h.below bA
  have hgX : w.grownBy _ (some pb) := gb bA
  have nb0 : some w.heap.size ≠ some pb := fun e => by injection e with e; omega
  have HB0 := Lib.hid (Nat.le_refl w.heap.size)
  have HN0 := Lib.hid h.room
  go_enter Tryz.func135, Tryz.ntmps135
  go_upto_region 1 with fail
  generalize w.alloc (.cells #[.int .i64 0, .string ⟨#[]⟩] 60) = X at *
  obtain ⟨b0, hb0⟩ : ∃ b, b = w.heap.size := ⟨_, rfl⟩
  rw [← hb0] at m0 nb0 HN0 ⊢
  have HE0 := Lib.hid hb0
  have HX := Lib.hid hX
  have HM0 := Lib.hid m0
  have HGX := Lib.hid hgX
  have HM := Lib.hid (congrFun bracketP.eq_1 l)
  clear h bA hX m0 hgX hlt0 hb0
  cases hm1 : behind s_lsq numP l with
  | no a =>
    have HMM := Lib.hid (HM.out.trans (bind_no hm1))
    have HC1 := Lib.hid (fun W (hW : PX n pb l W) => rd_no (numBehind_any n pb l ⟨#[91]⟩ (by decide) W hW) hm1)
    clear hm1
    go_wp2_with (go_at_call 134; with_reducible refine (HC1.out _ HX.out).mono ?_; rintro e w1 ⟨rfl, hg1⟩)
    exact ⟨rfl, Gives.of_no HMM.out ((HGX.out).trans hg1)⟩
  | ok x1 l1 =>
    have HM1 := Lib.hid (HM.out.trans (bind_ok hm1))
    have HC1 := Lib.hid (fun W (hW : PX n pb l W) => rd_is (g := fun x : NumT => .agg #[.int .i64 x.n, .string ⟨x.p.toArray⟩]) (numBehind_any n pb l ⟨#[91]⟩ (by decide) W hW) hW hm1)
    clear hm1 HM
    cases hm2 : expect s_rsq l1 with
    | no a =>
      have HMM := Lib.hid (HM1.out.trans (bind_no hm2))
      have HC2 := Lib.hid (fun W (hW : PX n pb l1 W) => rd_no (expect_any n pb l1 ⟨#[93]⟩ W hW.ps (by decide)) hm2)
      clear hm2
      go_wp2_with (first
        | (go_at_call 134; with_reducible refine (HC1.out _ HX.out).mono ?_; rintro e w1 ⟨rfl, hx1, hg1⟩; have mR1 := (HM0.out).grown hg1 nb0)
        | (go_at_call 138; with_reducible refine (HC2.out _ ((hx1).alloc (.cells #[.int .i64 x1.n, .string ⟨x1.p.toArray⟩] 60))).mono ?_; rintro e w2 ⟨rfl, hg2⟩))
      exact ⟨rfl, Gives.of_no HMM.out ((((((HGX.out).trans hg1)).trans (World.grownBy_alloc w1 (.cells #[.int .i64 x1.n, .string ⟨x1.p.toArray⟩] 60) _))).trans hg2)⟩
    | ok u2 l2 =>
      have HM2 := Lib.hid (HM1.out.trans (bind_ok hm2))
      have HC2 := Lib.hid (fun W (hW : PX n pb l1 W) => rd_is (g := fun _ : Unit => Value.tuple #[]) (expect_any n pb l1 ⟨#[93]⟩ W hW.ps (by decide)) hW hm2)
      clear hm2 HM1
      go_wp2_with (first
        | (go_at_call 134; with_reducible refine (HC1.out _ HX.out).mono ?_; rintro e w1 ⟨rfl, hx1, hg1⟩; have mR1 := (HM0.out).grown hg1 nb0)
        | (go_at_call 138; with_reducible refine (HC2.out _ ((hx1).alloc (.cells #[.int .i64 x1.n, .string ⟨x1.p.toArray⟩] 60))).mono ?_; rintro e w2 ⟨rfl, hx2, hg2⟩; have mR2 := ((mR1).keep ((Below.refl _ w1).alloc (Nat.le_refl _) (.cells #[.int .i64 x1.n, .string ⟨x1.p.toArray⟩] 60))).grown hg2 nb0; have mL2 := (BoxL.new w1 #[.int .i64 x1.n, .string ⟨x1.p.toArray⟩] 60).grown hg2 (fun e => by injection e with e; have := (hx1).lt; omega); obtain ⟨cR0, cR1⟩ := (mR2).c2; obtain ⟨fR0, fR1⟩ := (mR2).f2; obtain ⟨cL0, cL1⟩ := (mL2).c2))
      have q := (mR2).s2 (.int .i64 x1.n) (.string ⟨x1.p.toArray⟩)
      obtain ⟨s0, s1⟩ := q.c2
      exact bodyPost_ret (v := .agg #[.int .i64 x1.n, .string ⟨x1.p.toArray⟩]) (by simp [results, Tryz.results135, go_sem, s0, s1]) rfl (give_box [.int .i64 x1.n, .string ⟨x1.p.toArray⟩] HM2.out rfl hx2 HN0.out (((((((HGX.out).trans hg1)).trans (World.grownBy_alloc w1 (.cells #[.int .i64 x1.n, .string ⟨x1.p.toArray⟩] 60) _))).trans hg2)) (Nat.le_of_eq HE0.out.symm))

set_option maxRecDepth 100000 in
set_option maxHeartbeats 4000000 in
theorem binding_any (n pb : Nat) (l : List Tk) (w : World) (h : PX n pb l w) :
    Calls Tryz.prog 143 #[.pointer (some ⟨pb, 0, none⟩)] w (Gives n pb l bindP BindV w) := by
  have hlt0 := h.lt
  obtain ⟨m0, bA⟩ := start1 w #[.string ⟨#[]⟩, .string ⟨#[]⟩] 146
  have hX := h.below bA
  have hgX : w.grownBy _ (some pb) := gb bA
  have nb0 : some w.heap.size ≠ some pb := fun e => by injection e with e; omega
  have HB0 := Lib.hid (Nat.le_refl w.heap.size)
  have HN0 := Lib.hid h.room
  go_enter Tryz.func143, Tryz.ntmps143
  go_upto_region 1 with fail
  generalize w.alloc (.cells #[.string ⟨#[]⟩, .string ⟨#[]⟩] 146) = X at *
  obtain ⟨b0, hb0⟩ : ∃ b, b = w.heap.size := ⟨_, rfl⟩
  rw [← hb0] at m0 nb0 HN0 ⊢
  have HE0 := Lib.hid hb0
  have HX := Lib.hid hX
  have HM0 := Lib.hid m0
  have HGX := Lib.hid hgX
  have HM := Lib.hid (congrFun bindP.eq_1 l)
  clear h bA hX m0 hgX hlt0 hb0
  cases hm1 : nameP l with
  | no a =>
    have HMM := Lib.hid (HM.out.trans (bind_no hm1))
    have HC1 := Lib.hid (fun W (hW : PX n pb l W) => rd_no (name_any n pb l W hW.ps) hm1)
    clear hm1
    go_wp2_with (go_at_call 133; with_reducible refine (HC1.out _ HX.out).mono ?_; rintro e w1 ⟨rfl, hg1⟩)
    exact ⟨rfl, Gives.of_no HMM.out ((HGX.out).trans hg1)⟩
  | ok x1 l1 =>
    have HM1 := Lib.hid (HM.out.trans (bind_ok hm1))
    have HC1 := Lib.hid (fun W (hW : PX n pb l W) => rd_is (g := fun x : By => .string ⟨x.toArray⟩) (name_any n pb l W hW.ps) hW hm1)
    clear hm1 HM
    cases hm2 : expect s_eqs l1 with
    | no a =>
      have HMM := Lib.hid (HM1.out.trans (bind_no hm2))
      have HC2 := Lib.hid (fun W (hW : PX n pb l1 W) => rd_no (expect_any n pb l1 ⟨#[61]⟩ W hW.ps (by decide)) hm2)
      clear hm2
      go_wp2_with (first
        | (go_at_call 133; with_reducible refine (HC1.out _ HX.out).mono ?_; rintro e w1 ⟨rfl, hx1, hg1⟩; have mR1 := (HM0.out).grown hg1 nb0)
        | (go_at_call 138; with_reducible refine (HC2.out _ ((hx1).alloc (.cells #[.string ⟨x1.toArray⟩, .string ⟨#[]⟩] 146))).mono ?_; rintro e w2 ⟨rfl, hg2⟩))
      exact ⟨rfl, Gives.of_no HMM.out ((((((HGX.out).trans hg1)).trans (World.grownBy_alloc w1 (.cells #[.string ⟨x1.toArray⟩, .string ⟨#[]⟩] 146) _))).trans hg2)⟩
    | ok u2 l2 =>
      have HM2 := Lib.hid (HM1.out.trans (bind_ok hm2))
      have HC2 := Lib.hid (fun W (hW : PX n pb l1 W) => rd_is (g := fun _ : Unit => Value.tuple #[]) (expect_any n pb l1 ⟨#[61]⟩ W hW.ps (by decide)) hW hm2)
      clear hm2 HM1
      cases hm3 : nameP l2 with
      | no a =>
        have HMM := Lib.hid (HM2.out.trans (bind_no hm3))
        have HC3 := Lib.hid (fun W (hW : PX n pb l2 W) => rd_no (name_any n pb l2 W hW.ps) hm3)
        clear hm3
        go_wp2_with (first
          | (go_at_call 133; with_reducible refine (HC1.out _ HX.out).mono ?_; rintro e w1 ⟨rfl, hx1, hg1⟩; have mR1 := (HM0.out).grown hg1 nb0)
          | (go_at_call 138; with_reducible refine (HC2.out _ ((hx1).alloc (.cells #[.string ⟨x1.toArray⟩, .string ⟨#[]⟩] 146))).mono ?_; rintro e w2 ⟨rfl, hx2, hg2⟩; have mR2 := ((mR1).keep ((Below.refl _ w1).alloc (Nat.le_refl _) (.cells #[.string ⟨x1.toArray⟩, .string ⟨#[]⟩] 146))).grown hg2 nb0; have mL2 := (BoxL.new w1 #[.string ⟨x1.toArray⟩, .string ⟨#[]⟩] 146).grown hg2 (fun e => by injection e with e; have := (hx1).lt; omega))
          | (go_at_call 133; with_reducible refine (HC3.out _ hx2).mono ?_; rintro e w3 ⟨rfl, hg3⟩))
        exact ⟨rfl, Gives.of_no HMM.out ((((((((HGX.out).trans hg1)).trans (World.grownBy_alloc w1 (.cells #[.string ⟨x1.toArray⟩, .string ⟨#[]⟩] 146) _))).trans hg2)).trans hg3)⟩
      | ok x3 l3 =>
        have HM3 := Lib.hid (HM2.out.trans (bind_ok hm3))
        have HC3 := Lib.hid (fun W (hW : PX n pb l2 W) => rd_is (g := fun x : By => .string ⟨x.toArray⟩) (name_any n pb l2 W hW.ps) hW hm3)
        clear hm3 HM2
        go_upto_region 4 with (first
          | (go_at_call 133; with_reducible refine (HC1.out _ HX.out).mono ?_; rintro e w1 ⟨rfl, hx1, hg1⟩; have mR1 := (HM0.out).grown hg1 nb0)
          | (go_at_call 138; with_reducible refine (HC2.out _ ((hx1).alloc (.cells #[.string ⟨x1.toArray⟩, .string ⟨#[]⟩] 146))).mono ?_; rintro e w2 ⟨rfl, hx2, hg2⟩; have mR2 := ((mR1).keep ((Below.refl _ w1).alloc (Nat.le_refl _) (.cells #[.string ⟨x1.toArray⟩, .string ⟨#[]⟩] 146))).grown hg2 nb0; have mL2 := (BoxL.new w1 #[.string ⟨x1.toArray⟩, .string ⟨#[]⟩] 146).grown hg2 (fun e => by injection e with e; have := (hx1).lt; omega))
          | (go_at_call 133; with_reducible refine (HC3.out _ hx2).mono ?_; rintro e w3 ⟨rfl, hx3, hg3⟩; have mR3 := (mR2).grown hg3 nb0; have mL3 := (mL2).grown hg3 (fun e => by injection e with e; have := (hx1).lt; omega); obtain ⟨cL0, cL1⟩ := (mL3).c2; obtain ⟨fL0, fL1⟩ := (mL3).f2))
        have hwL4 : w.heap.size ≤ w1.heap.size := (((HGX.out).trans hg1)).size
        have hnL4 : n ≤ w1.heap.size := (hx1).room
        have hbL4 : w1.heap.size ≠ b0 := by have := (mR1).lt; intro e; omega
        have mL4 : BoxL (w3.setCell ⟨w1.heap.size, 1, none⟩ (.string ⟨x3.toArray⟩)) (w1.heap.size) #[.string ⟨x1.toArray⟩, .string ⟨x3.toArray⟩] := by have q := (mL3).set1 (i := 1) (by simp) (.string ⟨x3.toArray⟩); simpa using q
        have mR4 := (mR3).far1 hbL4 1 (.string ⟨x3.toArray⟩)
        have hx4 := (hx3).grown (grown_set w3 (w1.heap.size) 1 (.string ⟨x3.toArray⟩)) (fun g e => by injection e with e; omega)
        have hg4 := grown_fresh (W := w3) hwL4 [.string ⟨x3.toArray⟩] w3 1 (((((((((HGX.out).trans hg1)).trans (World.grownBy_alloc w1 (.cells #[.string ⟨x1.toArray⟩, .string ⟨#[]⟩] 146) _))).trans hg2)).trans hg3))
        have HX4 := Lib.hid hx4
        have HG4 : Hid (w.grownBy (w3.setCell ⟨w1.heap.size, 1, none⟩ (.string ⟨x3.toArray⟩)) (some pb)) := Lib.hid hg4
        clear hx4 hg4 cL0 fL0 cL1 fL1
        generalize w3.setCell ⟨w1.heap.size, 1, none⟩ (.string ⟨x3.toArray⟩) = Y4 at *
        obtain ⟨cR0, cR1⟩ := (mR4).c2
        obtain ⟨fR0, fR1⟩ := (mR4).f2
        obtain ⟨cL0, cL1⟩ := (mL4).c2
        go_wp2_with fail
        have q := (mR4).s2 (.string ⟨x1.toArray⟩) (.string ⟨x3.toArray⟩)
        obtain ⟨s0, s1⟩ := q.c2
        exact bodyPost_ret (v := .agg #[.string ⟨x1.toArray⟩, .string ⟨x3.toArray⟩]) (by simp [results, Tryz.results143, go_sem, s0, s1]) rfl (give_box [.string ⟨x1.toArray⟩, .string ⟨x3.toArray⟩] HM3.out rfl HX4.out HN0.out (HG4.out) (Nat.le_of_eq HE0.out.symm))

end Sy
end Go.Proofs.YtggeepimihhpjaaGreatDoor
