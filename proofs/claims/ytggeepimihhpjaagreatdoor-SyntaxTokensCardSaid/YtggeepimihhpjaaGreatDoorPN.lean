/- The items memory. -/
import Derived.Test.YtggeepimihhpjaaGreatDoorPK
namespace Go.Proofs.YtggeepimihhpjaaGreatDoor
open Go.RowKit Go.Shelf Sl Fr Lx
namespace Sy
set_option linter.unusedVariables false
set_option linter.unusedSimpArgs false

set_option maxRecDepth 100000 in
set_option maxHeartbeats 2000000 in
theorem memory_any (n pb : Nat) (l : List Tk) (w : World) (h : PX n pb l w) :
    Calls Tryz.prog 91 #[.pointer (some ⟨pb, 0, none⟩)] w (Gives n pb l memoryP (ItemV w) w) := by
  have hlt0 := h.lt
  obtain ⟨m0, bA⟩ := startO w #[.int .i64 0, .string ⟨#[]⟩, .int .i64 0, .string ⟨#[]⟩, .int .i64 0, .string ⟨#[]⟩, .int .i64 0, .string ⟨#[]⟩, .int .i64 0, .string ⟨#[]⟩, .int .i64 0, .string ⟨#[]⟩, .int .i64 0, .string ⟨#[]⟩, .slice none 0 0, .int .i64 0, .string ⟨#[]⟩, .int .i64 0, .string ⟨#[]⟩, .int .i64 0, .string ⟨#[]⟩, .slice none 0 0, .int .i64 0, .string ⟨#[]⟩, .int .i64 0, .string ⟨#[]⟩, .int .i64 0, .string ⟨#[]⟩, .slice none 0 0, .int .i64 0, .string ⟨#[]⟩, .int .i64 0, .string ⟨#[]⟩, .slice none 0 0, .slice none 0 0] 69
  have hX := h.below bA
  have hgX : w.grownBy _ (some pb) := gb bA
  have nb0 : some w.heap.size ≠ some pb := fun e => by injection e with e; omega
  have HB0 := Lib.hid (Nat.le_refl w.heap.size)
  have HN0 := Lib.hid h.room
  go_enter Tryz.func91, Tryz.ntmps91
  go_upto_region 1 with fail
  generalize w.alloc (.cells #[.int .i64 0, .string ⟨#[]⟩, .int .i64 0, .string ⟨#[]⟩, .int .i64 0, .string ⟨#[]⟩, .int .i64 0, .string ⟨#[]⟩, .int .i64 0, .string ⟨#[]⟩, .int .i64 0, .string ⟨#[]⟩, .int .i64 0, .string ⟨#[]⟩, .slice none 0 0, .int .i64 0, .string ⟨#[]⟩, .int .i64 0, .string ⟨#[]⟩, .int .i64 0, .string ⟨#[]⟩, .slice none 0 0, .int .i64 0, .string ⟨#[]⟩, .int .i64 0, .string ⟨#[]⟩, .int .i64 0, .string ⟨#[]⟩, .slice none 0 0, .int .i64 0, .string ⟨#[]⟩, .int .i64 0, .string ⟨#[]⟩, .slice none 0 0, .slice none 0 0] 69) = X at *
  obtain ⟨b0, hb0⟩ : ∃ b, b = w.heap.size := ⟨_, rfl⟩
  rw [← hb0] at m0 nb0 HN0 ⊢
  have HE0 := Lib.hid hb0
  have HX := Lib.hid hX
  have HM0 := Lib.hid m0
  have HGX := Lib.hid hgX
  have HM := Lib.hid (congrFun memoryP.eq_1 l)
  clear h bA hX m0 hgX hlt0 hb0
  cases hm1 : nameP l with
  | no a =>
    have HMM := Lib.hid (HM.out.trans (bind_no hm1))
    have HC1 := Lib.hid (fun W (hW : PX n pb l W) => rd_no (name_any n pb l W hW.ps) hm1)
    clear hm1
    go_wp2_with (go_at_call 133; with_reducible refine (HC1.out _ HX.out).mono ?_; rintro e w1 ⟨rfl, hg1⟩)
    exact ⟨rfl, Gives.of_no HMM.out ((HGX.out).trans hg1)⟩
  | ok x1 l1 =>
    have HM1 := Lib.hid (HM.out.trans (bind_ok hm1))
    have HC1 := Lib.hid (fun W (hW : PX n pb l W) => rd_is (g := fun x : By => .string ⟨x.toArray⟩) (name_any n pb l W hW.ps) hW hm1)
    clear hm1 HM
    cases hm2 : behind s_colon numP l1 with
    | no a =>
      have HMM := Lib.hid (HM1.out.trans (bind_no hm2))
      have HC2 := Lib.hid (fun W (hW : PX n pb l1 W) => rd_no (numBehind_any n pb l1 ⟨#[58]⟩ (by decide) W hW) hm2)
      clear hm2
      go_wp2_with (first
        | (go_at_call 134; with_reducible refine (HC2.out _ hx1).mono ?_; rintro e w2 ⟨rfl, hg2⟩)
        | (go_at_call 133; with_reducible refine (HC1.out _ HX.out).mono ?_; rintro e w1 ⟨rfl, hx1, hg1⟩; have mR1 := (HM0.out).grown hg1 nb0))
      exact ⟨rfl, Gives.of_no HMM.out ((((HGX.out).trans hg1)).trans hg2)⟩
    | ok x2 l2 =>
      have HM2 := Lib.hid (HM1.out.trans (bind_ok hm2))
      have HC2 := Lib.hid (fun W (hW : PX n pb l1 W) => rd_is (g := fun x : NumT => .agg #[.int .i64 x.n, .string ⟨x.p.toArray⟩]) (numBehind_any n pb l1 ⟨#[58]⟩ (by decide) W hW) hW hm2)
      clear hm2 HM1
      cases hm3 : bracketP l2 with
      | no a =>
        have HMM := Lib.hid (HM2.out.trans (bind_no hm3))
        have HC3 := Lib.hid (fun W (hW : PX n pb l2 W) => rd_no (bracketed_any n pb l2 W hW) hm3)
        clear hm3
        go_wp2_with (first
          | (go_at_call 135; with_reducible refine (HC3.out _ hx2).mono ?_; rintro e w3 ⟨rfl, hg3⟩)
          | (go_at_call 134; with_reducible refine (HC2.out _ hx1).mono ?_; rintro e w2 ⟨rfl, hx2, hg2⟩; have mR2 := (mR1).grown hg2 nb0)
          | (go_at_call 133; with_reducible refine (HC1.out _ HX.out).mono ?_; rintro e w1 ⟨rfl, hx1, hg1⟩; have mR1 := (HM0.out).grown hg1 nb0))
        exact ⟨rfl, Gives.of_no HMM.out ((((((HGX.out).trans hg1)).trans hg2)).trans hg3)⟩
      | ok x3 l3 =>
        have HM3 := Lib.hid (HM2.out.trans (bind_ok hm3))
        have HC3 := Lib.hid (fun W (hW : PX n pb l2 W) => rd_is (g := fun x : NumT => .agg #[.int .i64 x.n, .string ⟨x.p.toArray⟩]) (bracketed_any n pb l2 W hW) hW hm3)
        clear hm3 HM2
        cases hm4 : exprB w_if l3 with
        | no a =>
          have HMM := Lib.hid (HM3.out.trans (bind_no hm4))
          have HC4 := Lib.hid (fun W (hW : PX n pb l3 W) => rd_no (exprBehind_any n pb l3 ⟨#[105, 102]⟩ (by decide) W hW) hm4)
          clear hm4
          go_wp2_with (first
            | (go_at_call 136; with_reducible refine (HC4.out _ hx3).mono ?_; rintro e w4 ⟨rfl, hg4⟩)
            | (go_at_call 135; with_reducible refine (HC3.out _ hx2).mono ?_; rintro e w3 ⟨rfl, hx3, hg3⟩; have mR3 := (mR2).grown hg3 nb0)
            | (go_at_call 134; with_reducible refine (HC2.out _ hx1).mono ?_; rintro e w2 ⟨rfl, hx2, hg2⟩; have mR2 := (mR1).grown hg2 nb0)
            | (go_at_call 133; with_reducible refine (HC1.out _ HX.out).mono ?_; rintro e w1 ⟨rfl, hx1, hg1⟩; have mR1 := (HM0.out).grown hg1 nb0))
          exact ⟨rfl, Gives.of_no HMM.out ((((((((HGX.out).trans hg1)).trans hg2)).trans hg3)).trans hg4)⟩
        | ok a4 l4 =>
          have HM4 := Lib.hid (HM3.out.trans (bind_ok hm4))
          have HC4 := Lib.hid (fun W (hW : PX n pb l3 W) => rd_ok (exprBehind_any n pb l3 ⟨#[105, 102]⟩ (by decide) W hW) hW hm4)
          clear hm4 HM3
          cases hm5 : exprB w_at l4 with
          | no a =>
            have HMM := Lib.hid (HM4.out.trans (bind_no hm5))
            have HC5 := Lib.hid (fun W (hW : PX n pb l4 W) => rd_no (exprBehind_any n pb l4 ⟨#[97, 116]⟩ (by decide) W hW) hm5)
            clear hm5
            go_wp2_with (first
              | (go_at_call 136; with_reducible refine (HC5.out _ hx4).mono ?_; rintro e w5 ⟨rfl, hg5⟩)
              | (go_at_call 136; refine (HC4.out _ hx3).mono ?_; rintro e w4 ⟨_, rfl, ⟨A4, c4, rfl, hv4⟩, hx4, hg4⟩; have mR4 := (mR3).grown hg4 nb0; have hV4 := (((((((HGX.out).trans hg1)).trans hg2)).trans hg3)).size; have hR4 := (mR3).lt; have hP4 := (hx3).lt)
              | (go_at_call 135; with_reducible refine (HC3.out _ hx2).mono ?_; rintro e w3 ⟨rfl, hx3, hg3⟩; have mR3 := (mR2).grown hg3 nb0)
              | (go_at_call 134; with_reducible refine (HC2.out _ hx1).mono ?_; rintro e w2 ⟨rfl, hx2, hg2⟩; have mR2 := (mR1).grown hg2 nb0)
              | (go_at_call 133; with_reducible refine (HC1.out _ HX.out).mono ?_; rintro e w1 ⟨rfl, hx1, hg1⟩; have mR1 := (HM0.out).grown hg1 nb0))
            exact ⟨rfl, Gives.of_no HMM.out ((((((((((HGX.out).trans hg1)).trans hg2)).trans hg3)).trans hg4)).trans hg5)⟩
          | ok a5 l5 =>
            have HM5 := Lib.hid (HM4.out.trans (bind_ok hm5))
            have HC5 := Lib.hid (fun W (hW : PX n pb l4 W) => rd_ok (exprBehind_any n pb l4 ⟨#[97, 116]⟩ (by decide) W hW) hW hm5)
            clear hm5 HM4
            cases hm6 : exprB s_eqs l5 with
            | no a =>
              have HMM := Lib.hid (HM5.out.trans (bind_no hm6))
              have HC6 := Lib.hid (fun W (hW : PX n pb l5 W) => rd_no (exprBehind_any n pb l5 ⟨#[61]⟩ (by decide) W hW) hm6)
              clear hm6
              go_wp2_with (first
                | (go_at_call 136; with_reducible refine (HC6.out _ hx5).mono ?_; rintro e w6 ⟨rfl, hg6⟩)
                | (go_at_call 136; refine (HC5.out _ hx4).mono ?_; rintro e w5 ⟨_, rfl, ⟨A5, c5, rfl, hv5⟩, hx5, hg5⟩; have mR5 := (mR4).grown hg5 nb0; have hV5 := (((((((((HGX.out).trans hg1)).trans hg2)).trans hg3)).trans hg4)).size; have hR5 := (mR4).lt; have hP5 := (hx4).lt)
                | (go_at_call 136; refine (HC4.out _ hx3).mono ?_; rintro e w4 ⟨_, rfl, ⟨A4, c4, rfl, hv4⟩, hx4, hg4⟩; have mR4 := (mR3).grown hg4 nb0; have hV4 := (((((((HGX.out).trans hg1)).trans hg2)).trans hg3)).size; have hR4 := (mR3).lt; have hP4 := (hx3).lt)
                | (go_at_call 135; with_reducible refine (HC3.out _ hx2).mono ?_; rintro e w3 ⟨rfl, hx3, hg3⟩; have mR3 := (mR2).grown hg3 nb0)
                | (go_at_call 134; with_reducible refine (HC2.out _ hx1).mono ?_; rintro e w2 ⟨rfl, hx2, hg2⟩; have mR2 := (mR1).grown hg2 nb0)
                | (go_at_call 133; with_reducible refine (HC1.out _ HX.out).mono ?_; rintro e w1 ⟨rfl, hx1, hg1⟩; have mR1 := (HM0.out).grown hg1 nb0))
              exact ⟨rfl, Gives.of_no HMM.out ((((((((((((HGX.out).trans hg1)).trans hg2)).trans hg3)).trans hg4)).trans hg5)).trans hg6)⟩
            | ok a6 l6 =>
              have HM6 := Lib.hid (HM5.out.trans (bind_ok hm6))
              have HC6 := Lib.hid (fun W (hW : PX n pb l5 W) => rd_ok (exprBehind_any n pb l5 ⟨#[61]⟩ (by decide) W hW) hW hm6)
              clear hm6 HM5
              cases hm7 : ruleP l6 with
              | no a =>
                have HMM := Lib.hid (HM6.out.trans (bind_no hm7))
                have HC7 := Lib.hid (fun W (hW : PX n pb l6 W) => rd_no (rule_any n pb l6 W hW) hm7)
                clear hm7
                go_wp2_with (first
                  | (go_at_call 137; with_reducible refine (HC7.out _ hx6).mono ?_; rintro e w7 ⟨rfl, hg7⟩)
                  | (go_at_call 136; refine (HC6.out _ hx5).mono ?_; rintro e w6 ⟨_, rfl, ⟨A6, c6, rfl, hv6⟩, hx6, hg6⟩; have mR6 := (mR5).grown hg6 nb0; have hV6 := (((((((((((HGX.out).trans hg1)).trans hg2)).trans hg3)).trans hg4)).trans hg5)).size; have hR6 := (mR5).lt; have hP6 := (hx5).lt)
                  | (go_at_call 136; refine (HC5.out _ hx4).mono ?_; rintro e w5 ⟨_, rfl, ⟨A5, c5, rfl, hv5⟩, hx5, hg5⟩; have mR5 := (mR4).grown hg5 nb0; have hV5 := (((((((((HGX.out).trans hg1)).trans hg2)).trans hg3)).trans hg4)).size; have hR5 := (mR4).lt; have hP5 := (hx4).lt)
                  | (go_at_call 136; refine (HC4.out _ hx3).mono ?_; rintro e w4 ⟨_, rfl, ⟨A4, c4, rfl, hv4⟩, hx4, hg4⟩; have mR4 := (mR3).grown hg4 nb0; have hV4 := (((((((HGX.out).trans hg1)).trans hg2)).trans hg3)).size; have hR4 := (mR3).lt; have hP4 := (hx3).lt)
                  | (go_at_call 135; with_reducible refine (HC3.out _ hx2).mono ?_; rintro e w3 ⟨rfl, hx3, hg3⟩; have mR3 := (mR2).grown hg3 nb0)
                  | (go_at_call 134; with_reducible refine (HC2.out _ hx1).mono ?_; rintro e w2 ⟨rfl, hx2, hg2⟩; have mR2 := (mR1).grown hg2 nb0)
                  | (go_at_call 133; with_reducible refine (HC1.out _ HX.out).mono ?_; rintro e w1 ⟨rfl, hx1, hg1⟩; have mR1 := (HM0.out).grown hg1 nb0))
                exact ⟨rfl, Gives.of_no HMM.out ((((((((((((((HGX.out).trans hg1)).trans hg2)).trans hg3)).trans hg4)).trans hg5)).trans hg6)).trans hg7)⟩
              | ok x7 l7 =>
                have HM7 := Lib.hid (HM6.out.trans (bind_ok hm7))
                have HC7 := Lib.hid (fun W (hW : PX n pb l6 W) => rd_is (g := fun x : RuleT => .agg #[.int .i64 x.kind, .string ⟨x.from_.toArray⟩, .int .i64 x.n]) (rule_any n pb l6 W hW) hW hm7)
                clear hm7 HM6
                go_wp2_with (first
                  | (refine wpList_store_row (mR7) rfl _ _ rfl #[.int .i64 6, .string ⟨x1.toArray⟩, .int .i64 x2.n, .string ⟨x2.p.toArray⟩, .int .i64 x3.n, .string ⟨x3.p.toArray⟩, .int .i64 0, .string ⟨#[]⟩, .int .i64 a4.op, .string ⟨a4.nm.toArray⟩, .int .i64 a4.k.n, .string ⟨a4.k.p.toArray⟩, .int .i64 a4.w.n, .string ⟨a4.w.p.toArray⟩, .slice A4 a4.args.length c4, .int .i64 a5.op, .string ⟨a5.nm.toArray⟩, .int .i64 a5.k.n, .string ⟨a5.k.p.toArray⟩, .int .i64 a5.w.n, .string ⟨a5.w.p.toArray⟩, .slice A5 a5.args.length c5, .int .i64 a6.op, .string ⟨a6.nm.toArray⟩, .int .i64 a6.k.n, .string ⟨a6.k.p.toArray⟩, .int .i64 a6.w.n, .string ⟨a6.w.p.toArray⟩, .slice A6 a6.args.length c6, .int .i64 x7.kind, .string ⟨x7.from_.toArray⟩, .int .i64 x7.n, .string ⟨#[]⟩, .slice none 0 0, .slice none 0 0] rfl rfl (by kernel_rfl) rfl (by kernel_rfl) ?_)
                  | (go_at_call 137; with_reducible refine (HC7.out _ hx6).mono ?_; rintro e w7 ⟨rfl, hx7, hg7⟩; have mR7 := (mR6).grown hg7 nb0)
                  | (go_at_call 136; refine (HC6.out _ hx5).mono ?_; rintro e w6 ⟨_, rfl, ⟨A6, c6, rfl, hv6⟩, hx6, hg6⟩; have mR6 := (mR5).grown hg6 nb0; have hV6 := (((((((((((HGX.out).trans hg1)).trans hg2)).trans hg3)).trans hg4)).trans hg5)).size; have hR6 := (mR5).lt; have hP6 := (hx5).lt)
                  | (go_at_call 136; refine (HC5.out _ hx4).mono ?_; rintro e w5 ⟨_, rfl, ⟨A5, c5, rfl, hv5⟩, hx5, hg5⟩; have mR5 := (mR4).grown hg5 nb0; have hV5 := (((((((((HGX.out).trans hg1)).trans hg2)).trans hg3)).trans hg4)).size; have hR5 := (mR4).lt; have hP5 := (hx4).lt)
                  | (go_at_call 136; refine (HC4.out _ hx3).mono ?_; rintro e w4 ⟨_, rfl, ⟨A4, c4, rfl, hv4⟩, hx4, hg4⟩; have mR4 := (mR3).grown hg4 nb0; have hV4 := (((((((HGX.out).trans hg1)).trans hg2)).trans hg3)).size; have hR4 := (mR3).lt; have hP4 := (hx3).lt)
                  | (go_at_call 135; with_reducible refine (HC3.out _ hx2).mono ?_; rintro e w3 ⟨rfl, hx3, hg3⟩; have mR3 := (mR2).grown hg3 nb0)
                  | (go_at_call 134; with_reducible refine (HC2.out _ hx1).mono ?_; rintro e w2 ⟨rfl, hx2, hg2⟩; have mR2 := (mR1).grown hg2 nb0)
                  | (go_at_call 133; with_reducible refine (HC1.out _ HX.out).mono ?_; rintro e w1 ⟨rfl, hx1, hg1⟩; have mR1 := (HM0.out).grown hg1 nb0))
                exact bodyPost_ret_by (v := .agg #[.int .i64 6, .string ⟨x1.toArray⟩, .int .i64 x2.n, .string ⟨x2.p.toArray⟩, .int .i64 x3.n, .string ⟨x3.p.toArray⟩, .int .i64 0, .string ⟨#[]⟩, .int .i64 a4.op, .string ⟨a4.nm.toArray⟩, .int .i64 a4.k.n, .string ⟨a4.k.p.toArray⟩, .int .i64 a4.w.n, .string ⟨a4.w.p.toArray⟩, .slice A4 a4.args.length c4, .int .i64 a5.op, .string ⟨a5.nm.toArray⟩, .int .i64 a5.k.n, .string ⟨a5.k.p.toArray⟩, .int .i64 a5.w.n, .string ⟨a5.w.p.toArray⟩, .slice A5 a5.args.length c5, .int .i64 a6.op, .string ⟨a6.nm.toArray⟩, .int .i64 a6.k.n, .string ⟨a6.k.p.toArray⟩, .int .i64 a6.w.n, .string ⟨a6.w.p.toArray⟩, .slice A6 a6.args.length c6, .int .i64 x7.kind, .string ⟨x7.from_.toArray⟩, .int .i64 x7.n, .string ⟨#[]⟩, .slice none 0 0, .slice none 0 0]) (results_cell_row rfl _ _ b0 _ #[.int .i64 6, .string ⟨x1.toArray⟩, .int .i64 x2.n, .string ⟨x2.p.toArray⟩, .int .i64 x3.n, .string ⟨x3.p.toArray⟩, .int .i64 0, .string ⟨#[]⟩, .int .i64 a4.op, .string ⟨a4.nm.toArray⟩, .int .i64 a4.k.n, .string ⟨a4.k.p.toArray⟩, .int .i64 a4.w.n, .string ⟨a4.w.p.toArray⟩, .slice A4 a4.args.length c4, .int .i64 a5.op, .string ⟨a5.nm.toArray⟩, .int .i64 a5.k.n, .string ⟨a5.k.p.toArray⟩, .int .i64 a5.w.n, .string ⟨a5.w.p.toArray⟩, .slice A5 a5.args.length c5, .int .i64 a6.op, .string ⟨a6.nm.toArray⟩, .int .i64 a6.k.n, .string ⟨a6.k.p.toArray⟩, .int .i64 a6.w.n, .string ⟨a6.w.p.toArray⟩, .slice A6 a6.args.length c6, .int .i64 x7.kind, .string ⟨x7.from_.toArray⟩, .int .i64 x7.n, .string ⟨#[]⟩, .slice none 0 0, .slice none 0 0] (0, 0) _ rfl ((mR7).set #[.int .i64 6, .string ⟨x1.toArray⟩, .int .i64 x2.n, .string ⟨x2.p.toArray⟩, .int .i64 x3.n, .string ⟨x3.p.toArray⟩, .int .i64 0, .string ⟨#[]⟩, .int .i64 a4.op, .string ⟨a4.nm.toArray⟩, .int .i64 a4.k.n, .string ⟨a4.k.p.toArray⟩, .int .i64 a4.w.n, .string ⟨a4.w.p.toArray⟩, .slice A4 a4.args.length c4, .int .i64 a5.op, .string ⟨a5.nm.toArray⟩, .int .i64 a5.k.n, .string ⟨a5.k.p.toArray⟩, .int .i64 a5.w.n, .string ⟨a5.w.p.toArray⟩, .slice A5 a5.args.length c5, .int .i64 a6.op, .string ⟨a6.nm.toArray⟩, .int .i64 a6.k.n, .string ⟨a6.k.p.toArray⟩, .int .i64 a6.w.n, .string ⟨a6.w.p.toArray⟩, .slice A6 a6.args.length c6, .int .i64 x7.kind, .string ⟨x7.from_.toArray⟩, .int .i64 x7.n, .string ⟨#[]⟩, .slice none 0 0, .slice none 0 0]).h Tryz.underlying69 rfl (by kernel_rfl)) rfl (give_row #[.int .i64 6, .string ⟨x1.toArray⟩, .int .i64 x2.n, .string ⟨x2.p.toArray⟩, .int .i64 x3.n, .string ⟨x3.p.toArray⟩, .int .i64 0, .string ⟨#[]⟩, .int .i64 a4.op, .string ⟨a4.nm.toArray⟩, .int .i64 a4.k.n, .string ⟨a4.k.p.toArray⟩, .int .i64 a4.w.n, .string ⟨a4.w.p.toArray⟩, .slice A4 a4.args.length c4, .int .i64 a5.op, .string ⟨a5.nm.toArray⟩, .int .i64 a5.k.n, .string ⟨a5.k.p.toArray⟩, .int .i64 a5.w.n, .string ⟨a5.w.p.toArray⟩, .slice A5 a5.args.length c5, .int .i64 a6.op, .string ⟨a6.nm.toArray⟩, .int .i64 a6.k.n, .string ⟨a6.k.p.toArray⟩, .int .i64 a6.w.n, .string ⟨a6.w.p.toArray⟩, .slice A6 a6.args.length c6, .int .i64 x7.kind, .string ⟨x7.from_.toArray⟩, .int .i64 x7.n, .string ⟨#[]⟩, .slice none 0 0, .slice none 0 0] HM7.out (itemV_of { item0 with kind := 6, name := x1, width := x2, depth := x3, a := a4, b := a5, c := a6, rule := x7 } rfl rfl (er_fin #[.int .i64 6, .string ⟨x1.toArray⟩, .int .i64 x2.n, .string ⟨x2.p.toArray⟩, .int .i64 x3.n, .string ⟨x3.p.toArray⟩, .int .i64 0, .string ⟨#[]⟩, .int .i64 a4.op, .string ⟨a4.nm.toArray⟩, .int .i64 a4.k.n, .string ⟨a4.k.p.toArray⟩, .int .i64 a4.w.n, .string ⟨a4.w.p.toArray⟩, .slice A4 a4.args.length c4, .int .i64 a5.op, .string ⟨a5.nm.toArray⟩, .int .i64 a5.k.n, .string ⟨a5.k.p.toArray⟩, .int .i64 a5.w.n, .string ⟨a5.w.p.toArray⟩, .slice A5 a5.args.length c5, .int .i64 a6.op, .string ⟨a6.nm.toArray⟩, .int .i64 a6.k.n, .string ⟨a6.k.p.toArray⟩, .int .i64 a6.w.n, .string ⟨a6.w.p.toArray⟩, .slice A6 a6.args.length c6, .int .i64 x7.kind, .string ⟨x7.from_.toArray⟩, .int .i64 x7.n, .string ⟨#[]⟩, .slice none 0 0, .slice none 0 0] (erb_call hP4 hg7 (erb_call hP4 hg6 (erb_call hP4 hg5 (erb_of hv4)))) hV4 hR4) (er_fin #[.int .i64 6, .string ⟨x1.toArray⟩, .int .i64 x2.n, .string ⟨x2.p.toArray⟩, .int .i64 x3.n, .string ⟨x3.p.toArray⟩, .int .i64 0, .string ⟨#[]⟩, .int .i64 a4.op, .string ⟨a4.nm.toArray⟩, .int .i64 a4.k.n, .string ⟨a4.k.p.toArray⟩, .int .i64 a4.w.n, .string ⟨a4.w.p.toArray⟩, .slice A4 a4.args.length c4, .int .i64 a5.op, .string ⟨a5.nm.toArray⟩, .int .i64 a5.k.n, .string ⟨a5.k.p.toArray⟩, .int .i64 a5.w.n, .string ⟨a5.w.p.toArray⟩, .slice A5 a5.args.length c5, .int .i64 a6.op, .string ⟨a6.nm.toArray⟩, .int .i64 a6.k.n, .string ⟨a6.k.p.toArray⟩, .int .i64 a6.w.n, .string ⟨a6.w.p.toArray⟩, .slice A6 a6.args.length c6, .int .i64 x7.kind, .string ⟨x7.from_.toArray⟩, .int .i64 x7.n, .string ⟨#[]⟩, .slice none 0 0, .slice none 0 0] (erb_call hP5 hg7 (erb_call hP5 hg6 (erb_of hv5))) hV5 hR5) (er_fin #[.int .i64 6, .string ⟨x1.toArray⟩, .int .i64 x2.n, .string ⟨x2.p.toArray⟩, .int .i64 x3.n, .string ⟨x3.p.toArray⟩, .int .i64 0, .string ⟨#[]⟩, .int .i64 a4.op, .string ⟨a4.nm.toArray⟩, .int .i64 a4.k.n, .string ⟨a4.k.p.toArray⟩, .int .i64 a4.w.n, .string ⟨a4.w.p.toArray⟩, .slice A4 a4.args.length c4, .int .i64 a5.op, .string ⟨a5.nm.toArray⟩, .int .i64 a5.k.n, .string ⟨a5.k.p.toArray⟩, .int .i64 a5.w.n, .string ⟨a5.w.p.toArray⟩, .slice A5 a5.args.length c5, .int .i64 a6.op, .string ⟨a6.nm.toArray⟩, .int .i64 a6.k.n, .string ⟨a6.k.p.toArray⟩, .int .i64 a6.w.n, .string ⟨a6.w.p.toArray⟩, .slice A6 a6.args.length c6, .int .i64 x7.kind, .string ⟨x7.from_.toArray⟩, .int .i64 x7.n, .string ⟨#[]⟩, .slice none 0 0, .slice none 0 0] (erb_call hP6 hg7 (erb_of hv6)) hV6 hR6)) hx7 HN0.out (((((((((((((((HGX.out).trans hg1)).trans hg2)).trans hg3)).trans hg4)).trans hg5)).trans hg6)).trans hg7)) (Nat.le_of_eq HE0.out.symm))

end Sy
end Go.Proofs.YtggeepimihhpjaaGreatDoor
