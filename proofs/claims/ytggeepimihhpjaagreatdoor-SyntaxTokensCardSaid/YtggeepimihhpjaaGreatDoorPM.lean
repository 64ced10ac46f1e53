/- The items take, put, register. -/
import Derived.Test.YtggeepimihhpjaaGreatDoorPK
namespace Go.Proofs.YtggeepimihhpjaaGreatDoor
open Go.RowKit Go.Shelf Sl Fr Lx
namespace Sy
set_option linter.unusedVariables false
set_option linter.unusedSimpArgs false

set_option maxRecDepth 100000 in
set_option maxHeartbeats 2000000 in
theorem take_any (n pb : Nat) (l : List Tk) (w : World) (h : PX n pb l w) :
    Calls Tryz.prog 92 #[.pointer (some ⟨pb, 0, none⟩)] w (Gives n pb l takeP (ItemV w) w) := by
  have hlt0 := h.lt
  obtain ⟨m0, bA⟩ := startO w #[.int .i64 0, .string ⟨#[]⟩, .int .i64 0, .string ⟨#[]⟩, .int .i64 0, .string ⟨#[]⟩, .int .i64 0, .string ⟨#[]⟩, .int .i64 0, .string ⟨#[]⟩, .int .i64 0, .string ⟨#[]⟩, .int .i64 0, .string ⟨#[]⟩, .slice none 0 0, .int .i64 0, .string ⟨#[]⟩, .int .i64 0, .string ⟨#[]⟩, .int .i64 0, .string ⟨#[]⟩, .slice none 0 0, .int .i64 0, .string ⟨#[]⟩, .int .i64 0, .string ⟨#[]⟩, .int .i64 0, .string ⟨#[]⟩, .slice none 0 0, .int .i64 0, .string ⟨#[]⟩, .int .i64 0, .string ⟨#[]⟩, .slice none 0 0, .slice none 0 0] 69
  have hX := h.below bA
  have hgX : w.grownBy _ (some pb) := gb bA
  have nb0 : some w.heap.size ≠ some pb := fun e => by injection e with e; omega
  have HB0 := Lib.hid (Nat.le_refl w.heap.size)
  have HN0 := Lib.hid h.room
  go_enter Tryz.func92, Tryz.ntmps92
  go_upto_region 1 with fail
  generalize w.alloc (.cells #[.int .i64 0, .string ⟨#[]⟩, .int .i64 0, .string ⟨#[]⟩, .int .i64 0, .string ⟨#[]⟩, .int .i64 0, .string ⟨#[]⟩, .int .i64 0, .string ⟨#[]⟩, .int .i64 0, .string ⟨#[]⟩, .int .i64 0, .string ⟨#[]⟩, .slice none 0 0, .int .i64 0, .string ⟨#[]⟩, .int .i64 0, .string ⟨#[]⟩, .int .i64 0, .string ⟨#[]⟩, .slice none 0 0, .int .i64 0, .string ⟨#[]⟩, .int .i64 0, .string ⟨#[]⟩, .int .i64 0, .string ⟨#[]⟩, .slice none 0 0, .int .i64 0, .string ⟨#[]⟩, .int .i64 0, .string ⟨#[]⟩, .slice none 0 0, .slice none 0 0] 69) = X at *
  obtain ⟨b0, hb0⟩ : ∃ b, b = w.heap.size := ⟨_, rfl⟩
  rw [← hb0] at m0 nb0 HN0 ⊢
  have HE0 := Lib.hid hb0
  have HX := Lib.hid hX
  have HM0 := Lib.hid m0
  have HGX := Lib.hid hgX
  have HM := Lib.hid (congrFun takeP.eq_1 l)
  clear h bA hX m0 hgX hlt0 hb0
  cases hm1 : nameP l with
  | no a =>
    have HMM := Lib.hid (HM.out.trans (bind_no hm1))
    have HC1 := Lib.hid (fun W (hW : PX n pb l W) => rd_no (name_any n pb l W hW.ps) hm1)
    clear hm1
    go_wp2_with (go_at_call 133; with_reducible refine (HC1.out _ HX.out).mono ?_; rintro e w1 ⟨rfl, hg1⟩)
    exact ⟨rfl, Gives.of_no HMM.out ((HGX.out).trans hg1)⟩
  | ok x1 l1 =>
    have HM1 := Lib.hid (HM.out.trans (bind_ok hm1))
    have HC1 := Lib.hid (fun W (hW : PX n pb l W) => rd_is (g := fun x : By => .string ⟨x.toArray⟩) (name_any n pb l W hW.ps) hW hm1)
    clear hm1 HM
    cases hm2 : exprB w_if l1 with
    | no a =>
      have HMM := Lib.hid (HM1.out.trans (bind_no hm2))
      have HC2 := Lib.hid (fun W (hW : PX n pb l1 W) => rd_no (exprBehind_any n pb l1 ⟨#[105, 102]⟩ (by decide) W hW) hm2)
      clear hm2
      go_wp2_with (first
        | (go_at_call 136; with_reducible refine (HC2.out _ hx1).mono ?_; rintro e w2 ⟨rfl, hg2⟩)
        | (go_at_call 133; with_reducible refine (HC1.out _ HX.out).mono ?_; rintro e w1 ⟨rfl, hx1, hg1⟩; have mR1 := (HM0.out).grown hg1 nb0))
      exact ⟨rfl, Gives.of_no HMM.out ((((HGX.out).trans hg1)).trans hg2)⟩
    | ok a2 l2 =>
      have HM2 := Lib.hid (HM1.out.trans (bind_ok hm2))
      have HC2 := Lib.hid (fun W (hW : PX n pb l1 W) => rd_ok (exprBehind_any n pb l1 ⟨#[105, 102]⟩ (by decide) W hW) hW hm2)
      clear hm2 HM1
      go_wp2_with (first
        | (refine wpList_store_row (mR2) rfl _ _ rfl #[.int .i64 7, .string ⟨x1.toArray⟩, .int .i64 0, .string ⟨#[]⟩, .int .i64 0, .string ⟨#[]⟩, .int .i64 0, .string ⟨#[]⟩, .int .i64 a2.op, .string ⟨a2.nm.toArray⟩, .int .i64 a2.k.n, .string ⟨a2.k.p.toArray⟩, .int .i64 a2.w.n, .string ⟨a2.w.p.toArray⟩, .slice A2 a2.args.length c2, .int .i64 0, .string ⟨#[]⟩, .int .i64 0, .string ⟨#[]⟩, .int .i64 0, .string ⟨#[]⟩, .slice none 0 0, .int .i64 0, .string ⟨#[]⟩, .int .i64 0, .string ⟨#[]⟩, .int .i64 0, .string ⟨#[]⟩, .slice none 0 0, .int .i64 0, .string ⟨#[]⟩, .int .i64 0, .string ⟨#[]⟩, .slice none 0 0, .slice none 0 0] rfl rfl (by kernel_rfl) rfl (by kernel_rfl) ?_)
        | (go_at_call 136; refine (HC2.out _ hx1).mono ?_; rintro e w2 ⟨_, rfl, ⟨A2, c2, rfl, hv2⟩, hx2, hg2⟩; have mR2 := (mR1).grown hg2 nb0; have hV2 := (((HGX.out).trans hg1)).size; have hR2 := (mR1).lt; have hP2 := (hx1).lt)
        | (go_at_call 133; with_reducible refine (HC1.out _ HX.out).mono ?_; rintro e w1 ⟨rfl, hx1, hg1⟩; have mR1 := (HM0.out).grown hg1 nb0))
      exact bodyPost_ret_by (v := .agg #[.int .i64 7, .string ⟨x1.toArray⟩, .int .i64 0, .string ⟨#[]⟩, .int .i64 0, .string ⟨#[]⟩, .int .i64 0, .string ⟨#[]⟩, .int .i64 a2.op, .string ⟨a2.nm.toArray⟩, .int .i64 a2.k.n, .string ⟨a2.k.p.toArray⟩, .int .i64 a2.w.n, .string ⟨a2.w.p.toArray⟩, .slice A2 a2.args.length c2, .int .i64 0, .string ⟨#[]⟩, .int .i64 0, .string ⟨#[]⟩, .int .i64 0, .string ⟨#[]⟩, .slice none 0 0, .int .i64 0, .string ⟨#[]⟩, .int .i64 0, .string ⟨#[]⟩, .int .i64 0, .string ⟨#[]⟩, .slice none 0 0, .int .i64 0, .string ⟨#[]⟩, .int .i64 0, .string ⟨#[]⟩, .slice none 0 0, .slice none 0 0]) (results_cell_row rfl _ _ b0 _ #[.int .i64 7, .string ⟨x1.toArray⟩, .int .i64 0, .string ⟨#[]⟩, .int .i64 0, .string ⟨#[]⟩, .int .i64 0, .string ⟨#[]⟩, .int .i64 a2.op, .string ⟨a2.nm.toArray⟩, .int .i64 a2.k.n, .string ⟨a2.k.p.toArray⟩, .int .i64 a2.w.n, .string ⟨a2.w.p.toArray⟩, .slice A2 a2.args.length c2, .int .i64 0, .string ⟨#[]⟩, .int .i64 0, .string ⟨#[]⟩, .int .i64 0, .string ⟨#[]⟩, .slice none 0 0, .int .i64 0, .string ⟨#[]⟩, .int .i64 0, .string ⟨#[]⟩, .int .i64 0, .string ⟨#[]⟩, .slice none 0 0, .int .i64 0, .string ⟨#[]⟩, .int .i64 0, .string ⟨#[]⟩, .slice none 0 0, .slice none 0 0] (0, 0) _ rfl ((mR2).set #[.int .i64 7, .string ⟨x1.toArray⟩, .int .i64 0, .string ⟨#[]⟩, .int .i64 0, .string ⟨#[]⟩, .int .i64 0, .string ⟨#[]⟩, .int .i64 a2.op, .string ⟨a2.nm.toArray⟩, .int .i64 a2.k.n, .string ⟨a2.k.p.toArray⟩, .int .i64 a2.w.n, .string ⟨a2.w.p.toArray⟩, .slice A2 a2.args.length c2, .int .i64 0, .string ⟨#[]⟩, .int .i64 0, .string ⟨#[]⟩, .int .i64 0, .string ⟨#[]⟩, .slice none 0 0, .int .i64 0, .string ⟨#[]⟩, .int .i64 0, .string ⟨#[]⟩, .int .i64 0, .string ⟨#[]⟩, .slice none 0 0, .int .i64 0, .string ⟨#[]⟩, .int .i64 0, .string ⟨#[]⟩, .slice none 0 0, .slice none 0 0]).h Tryz.underlying69 rfl (by kernel_rfl)) rfl (give_row #[.int .i64 7, .string ⟨x1.toArray⟩, .int .i64 0, .string ⟨#[]⟩, .int .i64 0, .string ⟨#[]⟩, .int .i64 0, .string ⟨#[]⟩, .int .i64 a2.op, .string ⟨a2.nm.toArray⟩, .int .i64 a2.k.n, .string ⟨a2.k.p.toArray⟩, .int .i64 a2.w.n, .string ⟨a2.w.p.toArray⟩, .slice A2 a2.args.length c2, .int .i64 0, .string ⟨#[]⟩, .int .i64 0, .string ⟨#[]⟩, .int .i64 0, .string ⟨#[]⟩, .slice none 0 0, .int .i64 0, .string ⟨#[]⟩, .int .i64 0, .string ⟨#[]⟩, .int .i64 0, .string ⟨#[]⟩, .slice none 0 0, .int .i64 0, .string ⟨#[]⟩, .int .i64 0, .string ⟨#[]⟩, .slice none 0 0, .slice none 0 0] HM2.out (itemV_of { item0 with kind := 7, name := x1, a := a2 } rfl rfl (er_fin #[.int .i64 7, .string ⟨x1.toArray⟩, .int .i64 0, .string ⟨#[]⟩, .int .i64 0, .string ⟨#[]⟩, .int .i64 0, .string ⟨#[]⟩, .int .i64 a2.op, .string ⟨a2.nm.toArray⟩, .int .i64 a2.k.n, .string ⟨a2.k.p.toArray⟩, .int .i64 a2.w.n, .string ⟨a2.w.p.toArray⟩, .slice A2 a2.args.length c2, .int .i64 0, .string ⟨#[]⟩, .int .i64 0, .string ⟨#[]⟩, .int .i64 0, .string ⟨#[]⟩, .slice none 0 0, .int .i64 0, .string ⟨#[]⟩, .int .i64 0, .string ⟨#[]⟩, .int .i64 0, .string ⟨#[]⟩, .slice none 0 0, .int .i64 0, .string ⟨#[]⟩, .int .i64 0, .string ⟨#[]⟩, .slice none 0 0, .slice none 0 0] (erb_of hv2) hV2 hR2) ER.zero ER.zero) hx2 HN0.out (((((HGX.out).trans hg1)).trans hg2)) (Nat.le_of_eq HE0.out.symm))

set_option maxRecDepth 100000 in
set_option maxHeartbeats 2000000 in
theorem put_any (n pb : Nat) (l : List Tk) (w : World) (h : PX n pb l w) :
    Calls Tryz.prog 93 #[.pointer (some ⟨pb, 0, none⟩)] w (Gives n pb l putP (ItemV w) w) := by
  have hlt0 := h.lt
  obtain ⟨m0, bA⟩ := startO w #[.int .i64 0, .string ⟨#[]⟩, .int .i64 0, .string ⟨#[]⟩, .int .i64 0, .string ⟨#[]⟩, .int .i64 0, .string ⟨#[]⟩, .int .i64 0, .string ⟨#[]⟩, .int .i64 0, .string ⟨#[]⟩, .int .i64 0, .string ⟨#[]⟩, .slice none 0 0, .int .i64 0, .string ⟨#[]⟩, .int .i64 0, .string ⟨#[]⟩, .int .i64 0, .string ⟨#[]⟩, .slice none 0 0, .int .i64 0, .string ⟨#[]⟩, .int .i64 0, .string ⟨#[]⟩, .int .i64 0, .string ⟨#[]⟩, .slice none 0 0, .int .i64 0, .string ⟨#[]⟩, .int .i64 0, .string ⟨#[]⟩, .slice none 0 0, .slice none 0 0] 69
  have hX := h.below bA
  have hgX : w.grownBy _ (some pb) := gb bA
  have nb0 : some w.heap.size ≠ some pb := fun e => by injection e with e; omega
  have HB0 := Lib.hid (Nat.le_refl w.heap.size)
  have HN0 := Lib.hid h.room
  go_enter Tryz.func93, Tryz.ntmps93
  go_upto_region 1 with fail
  generalize w.alloc (.cells #[.int .i64 0, .string ⟨#[]⟩, .int .i64 0, .string ⟨#[]⟩, .int .i64 0, .string ⟨#[]⟩, .int .i64 0, .string ⟨#[]⟩, .int .i64 0, .string ⟨#[]⟩, .int .i64 0, .string ⟨#[]⟩, .int .i64 0, .string ⟨#[]⟩, .slice none 0 0, .int .i64 0, .string ⟨#[]⟩, .int .i64 0, .string ⟨#[]⟩, .int .i64 0, .string ⟨#[]⟩, .slice none 0 0, .int .i64 0, .string ⟨#[]⟩, .int .i64 0, .string ⟨#[]⟩, .int .i64 0, .string ⟨#[]⟩, .slice none 0 0, .int .i64 0, .string ⟨#[]⟩, .int .i64 0, .string ⟨#[]⟩, .slice none 0 0, .slice none 0 0] 69) = X at *
  obtain ⟨b0, hb0⟩ : ∃ b, b = w.heap.size := ⟨_, rfl⟩
  rw [← hb0] at m0 nb0 HN0 ⊢
  have HE0 := Lib.hid hb0
  have HX := Lib.hid hX
  have HM0 := Lib.hid m0
  have HGX := Lib.hid hgX
  have HM := Lib.hid (congrFun putP.eq_1 l)
  clear h bA hX m0 hgX hlt0 hb0
  cases hm1 : nameP l with
  | no a =>
    have HMM := Lib.hid (HM.out.trans (bind_no hm1))
    have HC1 := Lib.hid (fun W (hW : PX n pb l W) => rd_no (name_any n pb l W hW.ps) hm1)
    clear hm1
    go_wp2_with (go_at_call 133; with_reducible refine (HC1.out _ HX.out).mono ?_; rintro e w1 ⟨rfl, hg1⟩)
    exact ⟨rfl, Gives.of_no HMM.out ((HGX.out).trans hg1)⟩
  | ok x1 l1 =>
    have HM1 := Lib.hid (HM.out.trans (bind_ok hm1))
    have HC1 := Lib.hid (fun W (hW : PX n pb l W) => rd_is (g := fun x : By => .string ⟨x.toArray⟩) (name_any n pb l W hW.ps) hW hm1)
    clear hm1 HM
    cases hm2 : exprB w_if l1 with
    | no a =>
      have HMM := Lib.hid (HM1.out.trans (bind_no hm2))
      have HC2 := Lib.hid (fun W (hW : PX n pb l1 W) => rd_no (exprBehind_any n pb l1 ⟨#[105, 102]⟩ (by decide) W hW) hm2)
      clear hm2
      go_wp2_with (first
        | (go_at_call 136; with_reducible refine (HC2.out _ hx1).mono ?_; rintro e w2 ⟨rfl, hg2⟩)
        | (go_at_call 133; with_reducible refine (HC1.out _ HX.out).mono ?_; rintro e w1 ⟨rfl, hx1, hg1⟩; have mR1 := (HM0.out).grown hg1 nb0))
      exact ⟨rfl, Gives.of_no HMM.out ((((HGX.out).trans hg1)).trans hg2)⟩
    | ok a2 l2 =>
      have HM2 := Lib.hid (HM1.out.trans (bind_ok hm2))
      have HC2 := Lib.hid (fun W (hW : PX n pb l1 W) => rd_ok (exprBehind_any n pb l1 ⟨#[105, 102]⟩ (by decide) W hW) hW hm2)
      clear hm2 HM1
      cases hm3 : exprB s_eqs l2 with
      | no a =>
        have HMM := Lib.hid (HM2.out.trans (bind_no hm3))
        have HC3 := Lib.hid (fun W (hW : PX n pb l2 W) => rd_no (exprBehind_any n pb l2 ⟨#[61]⟩ (by decide) W hW) hm3)
        clear hm3
        go_wp2_with (first
          | (go_at_call 136; with_reducible refine (HC3.out _ hx2).mono ?_; rintro e w3 ⟨rfl, hg3⟩)
          | (go_at_call 136; refine (HC2.out _ hx1).mono ?_; rintro e w2 ⟨_, rfl, ⟨A2, c2, rfl, hv2⟩, hx2, hg2⟩; have mR2 := (mR1).grown hg2 nb0; have hV2 := (((HGX.out).trans hg1)).size; have hR2 := (mR1).lt; have hP2 := (hx1).lt)
          | (go_at_call 133; with_reducible refine (HC1.out _ HX.out).mono ?_; rintro e w1 ⟨rfl, hx1, hg1⟩; have mR1 := (HM0.out).grown hg1 nb0))
        exact ⟨rfl, Gives.of_no HMM.out ((((((HGX.out).trans hg1)).trans hg2)).trans hg3)⟩
      | ok a3 l3 =>
        have HM3 := Lib.hid (HM2.out.trans (bind_ok hm3))
        have HC3 := Lib.hid (fun W (hW : PX n pb l2 W) => rd_ok (exprBehind_any n pb l2 ⟨#[61]⟩ (by decide) W hW) hW hm3)
        clear hm3 HM2
        go_wp2_with (first
          | (refine wpList_store_row (mR3) rfl _ _ rfl #[.int .i64 8, .string ⟨x1.toArray⟩, .int .i64 0, .string ⟨#[]⟩, .int .i64 0, .string ⟨#[]⟩, .int .i64 0, .string ⟨#[]⟩, .int .i64 a2.op, .string ⟨a2.nm.toArray⟩, .int .i64 a2.k.n, .string ⟨a2.k.p.toArray⟩, .int .i64 a2.w.n, .string ⟨a2.w.p.toArray⟩, .slice A2 a2.args.length c2, .int .i64 a3.op, .string ⟨a3.nm.toArray⟩, .int .i64 a3.k.n, .string ⟨a3.k.p.toArray⟩, .int .i64 a3.w.n, .string ⟨a3.w.p.toArray⟩, .slice A3 a3.args.length c3, .int .i64 0, .string ⟨#[]⟩, .int .i64 0, .string ⟨#[]⟩, .int .i64 0, .string ⟨#[]⟩, .slice none 0 0, .int .i64 0, .string ⟨#[]⟩, .int .i64 0, .string ⟨#[]⟩, .slice none 0 0, .slice none 0 0] rfl rfl (by kernel_rfl) rfl (by kernel_rfl) ?_)
          | (go_at_call 136; refine (HC3.out _ hx2).mono ?_; rintro e w3 ⟨_, rfl, ⟨A3, c3, rfl, hv3⟩, hx3, hg3⟩; have mR3 := (mR2).grown hg3 nb0; have hV3 := (((((HGX.out).trans hg1)).trans hg2)).size; have hR3 := (mR2).lt; have hP3 := (hx2).lt)
          | (go_at_call 136; refine (HC2.out _ hx1).mono ?_; rintro e w2 ⟨_, rfl, ⟨A2, c2, rfl, hv2⟩, hx2, hg2⟩; have mR2 := (mR1).grown hg2 nb0; have hV2 := (((HGX.out).trans hg1)).size; have hR2 := (mR1).lt; have hP2 := (hx1).lt)
          | (go_at_call 133; with_reducible refine (HC1.out _ HX.out).mono ?_; rintro e w1 ⟨rfl, hx1, hg1⟩; have mR1 := (HM0.out).grown hg1 nb0))
        exact bodyPost_ret_by (v := .agg #[.int .i64 8, .string ⟨x1.toArray⟩, .int .i64 0, .string ⟨#[]⟩, .int .i64 0, .string ⟨#[]⟩, .int .i64 0, .string ⟨#[]⟩, .int .i64 a2.op, .string ⟨a2.nm.toArray⟩, .int .i64 a2.k.n, .string ⟨a2.k.p.toArray⟩, .int .i64 a2.w.n, .string ⟨a2.w.p.toArray⟩, .slice A2 a2.args.length c2, .int .i64 a3.op, .string ⟨a3.nm.toArray⟩, .int .i64 a3.k.n, .string ⟨a3.k.p.toArray⟩, .int .i64 a3.w.n, .string ⟨a3.w.p.toArray⟩, .slice A3 a3.args.length c3, .int .i64 0, .string ⟨#[]⟩, .int .i64 0, .string ⟨#[]⟩, .int .i64 0, .string ⟨#[]⟩, .slice none 0 0, .int .i64 0, .string ⟨#[]⟩, .int .i64 0, .string ⟨#[]⟩, .slice none 0 0, .slice none 0 0]) (results_cell_row rfl _ _ b0 _ #[.int .i64 8, .string ⟨x1.toArray⟩, .int .i64 0, .string ⟨#[]⟩, .int .i64 0, .string ⟨#[]⟩, .int .i64 0, .string ⟨#[]⟩, .int .i64 a2.op, .string ⟨a2.nm.toArray⟩, .int .i64 a2.k.n, .string ⟨a2.k.p.toArray⟩, .int .i64 a2.w.n, .string ⟨a2.w.p.toArray⟩, .slice A2 a2.args.length c2, .int .i64 a3.op, .string ⟨a3.nm.toArray⟩, .int .i64 a3.k.n, .string ⟨a3.k.p.toArray⟩, .int .i64 a3.w.n, .string ⟨a3.w.p.toArray⟩, .slice A3 a3.args.length c3, .int .i64 0, .string ⟨#[]⟩, .int .i64 0, .string ⟨#[]⟩, .int .i64 0, .string ⟨#[]⟩, .slice none 0 0, .int .i64 0, .string ⟨#[]⟩, .int .i64 0, .string ⟨#[]⟩, .slice none 0 0, .slice none 0 0] (0, 0) _ rfl ((mR3).set #[.int .i64 8, .string ⟨x1.toArray⟩, .int .i64 0, .string ⟨#[]⟩, .int .i64 0, .string ⟨#[]⟩, .int .i64 0, .string ⟨#[]⟩, .int .i64 a2.op, .string ⟨a2.nm.toArray⟩, .int .i64 a2.k.n, .string ⟨a2.k.p.toArray⟩, .int .i64 a2.w.n, .string ⟨a2.w.p.toArray⟩, .slice A2 a2.args.length c2, .int .i64 a3.op, .string ⟨a3.nm.toArray⟩, .int .i64 a3.k.n, .string ⟨a3.k.p.toArray⟩, .int .i64 a3.w.n, .string ⟨a3.w.p.toArray⟩, .slice A3 a3.args.length c3, .int .i64 0, .string ⟨#[]⟩, .int .i64 0, .string ⟨#[]⟩, .int .i64 0, .string ⟨#[]⟩, .slice none 0 0, .int .i64 0, .string ⟨#[]⟩, .int .i64 0, .string ⟨#[]⟩, .slice none 0 0, .slice none 0 0]).h Tryz.underlying69 rfl (by kernel_rfl)) rfl (give_row #[.int .i64 8, .string ⟨x1.toArray⟩, .int .i64 0, .string ⟨#[]⟩, .int .i64 0, .string ⟨#[]⟩, .int .i64 0, .string ⟨#[]⟩, .int .i64 a2.op, .string ⟨a2.nm.toArray⟩, .int .i64 a2.k.n, .string ⟨a2.k.p.toArray⟩, .int .i64 a2.w.n, .string ⟨a2.w.p.toArray⟩, .slice A2 a2.args.length c2, .int .i64 a3.op, .string ⟨a3.nm.toArray⟩, .int .i64 a3.k.n, .string ⟨a3.k.p.toArray⟩, .int .i64 a3.w.n, .string ⟨a3.w.p.toArray⟩, .slice A3 a3.args.length c3, .int .i64 0, .string ⟨#[]⟩, .int .i64 0, .string ⟨#[]⟩, .int .i64 0, .string ⟨#[]⟩, .slice none 0 0, .int .i64 0, .string ⟨#[]⟩, .int .i64 0, .string ⟨#[]⟩, .slice none 0 0, .slice none 0 0] HM3.out (itemV_of { item0 with kind := 8, name := x1, a := a2, b := a3 } rfl rfl (er_fin #[.int .i64 8, .string ⟨x1.toArray⟩, .int .i64 0, .string ⟨#[]⟩, .int .i64 0, .string ⟨#[]⟩, .int .i64 0, .string ⟨#[]⟩, .int .i64 a2.op, .string ⟨a2.nm.toArray⟩, .int .i64 a2.k.n, .string ⟨a2.k.p.toArray⟩, .int .i64 a2.w.n, .string ⟨a2.w.p.toArray⟩, .slice A2 a2.args.length c2, .int .i64 a3.op, .string ⟨a3.nm.toArray⟩, .int .i64 a3.k.n, .string ⟨a3.k.p.toArray⟩, .int .i64 a3.w.n, .string ⟨a3.w.p.toArray⟩, .slice A3 a3.args.length c3, .int .i64 0, .string ⟨#[]⟩, .int .i64 0, .string ⟨#[]⟩, .int .i64 0, .string ⟨#[]⟩, .slice none 0 0, .int .i64 0, .string ⟨#[]⟩, .int .i64 0, .string ⟨#[]⟩, .slice none 0 0, .slice none 0 0] (erb_call hP2 hg3 (erb_of hv2)) hV2 hR2) (er_fin #[.int .i64 8, .string ⟨x1.toArray⟩, .int .i64 0, .string ⟨#[]⟩, .int .i64 0, .string ⟨#[]⟩, .int .i64 0, .string ⟨#[]⟩, .int .i64 a2.op, .string ⟨a2.nm.toArray⟩, .int .i64 a2.k.n, .string ⟨a2.k.p.toArray⟩, .int .i64 a2.w.n, .string ⟨a2.w.p.toArray⟩, .slice A2 a2.args.length c2, .int .i64 a3.op, .string ⟨a3.nm.toArray⟩, .int .i64 a3.k.n, .string ⟨a3.k.p.toArray⟩, .int .i64 a3.w.n, .string ⟨a3.w.p.toArray⟩, .slice A3 a3.args.length c3, .int .i64 0, .string ⟨#[]⟩, .int .i64 0, .string ⟨#[]⟩, .int .i64 0, .string ⟨#[]⟩, .slice none 0 0, .int .i64 0, .string ⟨#[]⟩, .int .i64 0, .string ⟨#[]⟩, .slice none 0 0, .slice none 0 0] (erb_of hv3) hV3 hR3) ER.zero) hx3 HN0.out (((((((HGX.out).trans hg1)).trans hg2)).trans hg3)) (Nat.le_of_eq HE0.out.symm))

set_option maxRecDepth 100000 in
set_option maxHeartbeats 2000000 in
theorem register_any (n pb : Nat) (l : List Tk) (w : World) (h : PX n pb l w) :
    Calls Tryz.prog 89 #[.pointer (some ⟨pb, 0, none⟩)] w (Gives n pb l registerP (ItemV w) w) := by
  have hlt0 := h.lt
  obtain ⟨m0, bA⟩ := startO w #[.int .i64 0, .string ⟨#[]⟩, .int .i64 0, .string ⟨#[]⟩, .int .i64 0, .string ⟨#[]⟩, .int .i64 0, .string ⟨#[]⟩, .int .i64 0, .string ⟨#[]⟩, .int .i64 0, .string ⟨#[]⟩, .int .i64 0, .string ⟨#[]⟩, .slice none 0 0, .int .i64 0, .string ⟨#[]⟩, .int .i64 0, .string ⟨#[]⟩, .int .i64 0, .string ⟨#[]⟩, .slice none 0 0, .int .i64 0, .string ⟨#[]⟩, .int .i64 0, .string ⟨#[]⟩, .int .i64 0, .string ⟨#[]⟩, .slice none 0 0, .int .i64 0, .string ⟨#[]⟩, .int .i64 0, .string ⟨#[]⟩, .slice none 0 0, .slice none 0 0] 69
  have hX := h.below bA
  have hgX : w.grownBy _ (some pb) := gb bA
  have nb0 : some w.heap.size ≠ some pb := fun e => by injection e with e; omega
  have HB0 := Lib.hid (Nat.le_refl w.heap.size)
  have HN0 := Lib.hid h.room
  go_enter Tryz.func89, Tryz.ntmps89
  go_upto_region 1 with fail
  generalize w.alloc (.cells #[.int .i64 0, .string ⟨#[]⟩, .int .i64 0, .string ⟨#[]⟩, .int .i64 0, .string ⟨#[]⟩, .int .i64 0, .string ⟨#[]⟩, .int .i64 0, .string ⟨#[]⟩, .int .i64 0, .string ⟨#[]⟩, .int .i64 0, .string ⟨#[]⟩, .slice none 0 0, .int .i64 0, .string ⟨#[]⟩, .int .i64 0, .string ⟨#[]⟩, .int .i64 0, .string ⟨#[]⟩, .slice none 0 0, .int .i64 0, .string ⟨#[]⟩, .int .i64 0, .string ⟨#[]⟩, .int .i64 0, .string ⟨#[]⟩, .slice none 0 0, .int .i64 0, .string ⟨#[]⟩, .int .i64 0, .string ⟨#[]⟩, .slice none 0 0, .slice none 0 0] 69) = X at *
  obtain ⟨b0, hb0⟩ : ∃ b, b = w.heap.size := ⟨_, rfl⟩
  rw [← hb0] at m0 nb0 HN0 ⊢
  have HE0 := Lib.hid hb0
  have HX := Lib.hid hX
  have HM0 := Lib.hid m0
  have HGX := Lib.hid hgX
  have HM := Lib.hid (congrFun registerP.eq_1 l)
  clear h bA hX m0 hgX hlt0 hb0
  cases hm1 : nameP l with
  | no a =>
    have HMM := Lib.hid (HM.out.trans (bind_no hm1))
    have HC1 := Lib.hid (fun W (hW : PX n pb l W) => rd_no (name_any n pb l W hW.ps) hm1)
    clear hm1
    go_wp2_with (go_at_call 133; with_reducible refine (HC1.out _ HX.out).mono ?_; rintro e w1 ⟨rfl, hg1⟩)
    exact ⟨rfl, Gives.of_no HMM.out ((HGX.out).trans hg1)⟩
  | ok x1 l1 =>
    have HM1 := Lib.hid (HM.out.trans (bind_ok hm1))
    have HC1 := Lib.hid (fun W (hW : PX n pb l W) => rd_is (g := fun x : By => .string ⟨x.toArray⟩) (name_any n pb l W hW.ps) hW hm1)
    clear hm1 HM
    cases hm2 : behind s_colon numP l1 with
    | no a =>
      have HMM := Lib.hid (HM1.out.trans (bind_no hm2))
      have HC2 := Lib.hid (fun W (hW : PX n pb l1 W) => rd_no (numBehind_any n pb l1 ⟨#[58]⟩ (by decide) W hW) hm2)
      clear hm2
      go_wp2_with (first
        | (go_at_call 134; with_reducible refine (HC2.out _ hx1).mono ?_; rintro e w2 ⟨rfl, hg2⟩)
        | (go_at_call 133; with_reducible refine (HC1.out _ HX.out).mono ?_; rintro e w1 ⟨rfl, hx1, hg1⟩; have mR1 := (HM0.out).grown hg1 nb0))
      exact ⟨rfl, Gives.of_no HMM.out ((((HGX.out).trans hg1)).trans hg2)⟩
    | ok x2 l2 =>
      have HM2 := Lib.hid (HM1.out.trans (bind_ok hm2))
      have HC2 := Lib.hid (fun W (hW : PX n pb l1 W) => rd_is (g := fun x : NumT => .agg #[.int .i64 x.n, .string ⟨x.p.toArray⟩]) (numBehind_any n pb l1 ⟨#[58]⟩ (by decide) W hW) hW hm2)
      clear hm2 HM1
      cases hm3 : behind s_eqs numP l2 with
      | no a =>
        have HMM := Lib.hid (HM2.out.trans (bind_no hm3))
        have HC3 := Lib.hid (fun W (hW : PX n pb l2 W) => rd_no (numBehind_any n pb l2 ⟨#[61]⟩ (by decide) W hW) hm3)
        clear hm3
        go_wp2_with (first
          | (go_at_call 134; with_reducible refine (HC3.out _ hx2).mono ?_; rintro e w3 ⟨rfl, hg3⟩)
          | (go_at_call 134; with_reducible refine (HC2.out _ hx1).mono ?_; rintro e w2 ⟨rfl, hx2, hg2⟩; have mR2 := (mR1).grown hg2 nb0)
          | (go_at_call 133; with_reducible refine (HC1.out _ HX.out).mono ?_; rintro e w1 ⟨rfl, hx1, hg1⟩; have mR1 := (HM0.out).grown hg1 nb0))
        exact ⟨rfl, Gives.of_no HMM.out ((((((HGX.out).trans hg1)).trans hg2)).trans hg3)⟩
      | ok x3 l3 =>
        have HM3 := Lib.hid (HM2.out.trans (bind_ok hm3))
        have HC3 := Lib.hid (fun W (hW : PX n pb l2 W) => rd_is (g := fun x : NumT => .agg #[.int .i64 x.n, .string ⟨x.p.toArray⟩]) (numBehind_any n pb l2 ⟨#[61]⟩ (by decide) W hW) hW hm3)
        clear hm3 HM2
        cases hm4 : exprB s_arrow l3 with
        | no a =>
          have HMM := Lib.hid (HM3.out.trans (bind_no hm4))
          have HC4 := Lib.hid (fun W (hW : PX n pb l3 W) => rd_no (exprBehind_any n pb l3 ⟨#[45, 62]⟩ (by decide) W hW) hm4)
          clear hm4
          go_wp2_with (first
            | (go_at_call 136; with_reducible refine (HC4.out _ hx3).mono ?_; rintro e w4 ⟨rfl, hg4⟩)
            | (go_at_call 134; with_reducible refine (HC3.out _ hx2).mono ?_; rintro e w3 ⟨rfl, hx3, hg3⟩; have mR3 := (mR2).grown hg3 nb0)
            | (go_at_call 134; with_reducible refine (HC2.out _ hx1).mono ?_; rintro e w2 ⟨rfl, hx2, hg2⟩; have mR2 := (mR1).grown hg2 nb0)
            | (go_at_call 133; with_reducible refine (HC1.out _ HX.out).mono ?_; rintro e w1 ⟨rfl, hx1, hg1⟩; have mR1 := (HM0.out).grown hg1 nb0))
          exact ⟨rfl, Gives.of_no HMM.out ((((((((HGX.out).trans hg1)).trans hg2)).trans hg3)).trans hg4)⟩
        | ok a4 l4 =>
          have HM4 := Lib.hid (HM3.out.trans (bind_ok hm4))
          have HC4 := Lib.hid (fun W (hW : PX n pb l3 W) => rd_ok (exprBehind_any n pb l3 ⟨#[45, 62]⟩ (by decide) W hW) hW hm4)
          clear hm4 HM3
          cases hm5 : ruleP l4 with
          | no a =>
            have HMM := Lib.hid (HM4.out.trans (bind_no hm5))
            have HC5 := Lib.hid (fun W (hW : PX n pb l4 W) => rd_no (rule_any n pb l4 W hW) hm5)
            clear hm5
            go_wp2_with (first
              | (go_at_call 137; with_reducible refine (HC5.out _ hx4).mono ?_; rintro e w5 ⟨rfl, hg5⟩)
              | (go_at_call 136; refine (HC4.out _ hx3).mono ?_; rintro e w4 ⟨_, rfl, ⟨A4, c4, rfl, hv4⟩, hx4, hg4⟩; have mR4 := (mR3).grown hg4 nb0; have hV4 := (((((((HGX.out).trans hg1)).trans hg2)).trans hg3)).size; have hR4 := (mR3).lt; have hP4 := (hx3).lt)
              | (go_at_call 134; with_reducible refine (HC3.out _ hx2).mono ?_; rintro e w3 ⟨rfl, hx3, hg3⟩; have mR3 := (mR2).grown hg3 nb0)
              | (go_at_call 134; with_reducible refine (HC2.out _ hx1).mono ?_; rintro e w2 ⟨rfl, hx2, hg2⟩; have mR2 := (mR1).grown hg2 nb0)
              | (go_at_call 133; with_reducible refine (HC1.out _ HX.out).mono ?_; rintro e w1 ⟨rfl, hx1, hg1⟩; have mR1 := (HM0.out).grown hg1 nb0))
            exact ⟨rfl, Gives.of_no HMM.out ((((((((((HGX.out).trans hg1)).trans hg2)).trans hg3)).trans hg4)).trans hg5)⟩
          | ok x5 l5 =>
            have HM5 := Lib.hid (HM4.out.trans (bind_ok hm5))
            have HC5 := Lib.hid (fun W (hW : PX n pb l4 W) => rd_is (g := fun x : RuleT => .agg #[.int .i64 x.kind, .string ⟨x.from_.toArray⟩, .int .i64 x.n]) (rule_any n pb l4 W hW) hW hm5)
            clear hm5 HM4
            go_wp2_with (first
              | (refine wpList_store_row (mR5) rfl _ _ rfl #[.int .i64 4, .string ⟨x1.toArray⟩, .int .i64 x2.n, .string ⟨x2.p.toArray⟩, .int .i64 0, .string ⟨#[]⟩, .int .i64 x3.n, .string ⟨x3.p.toArray⟩, .int .i64 a4.op, .string ⟨a4.nm.toArray⟩, .int .i64 a4.k.n, .string ⟨a4.k.p.toArray⟩, .int .i64 a4.w.n, .string ⟨a4.w.p.toArray⟩, .slice A4 a4.args.length c4, .int .i64 0, .string ⟨#[]⟩, .int .i64 0, .string ⟨#[]⟩, .int .i64 0, .string ⟨#[]⟩, .slice none 0 0, .int .i64 0, .string ⟨#[]⟩, .int .i64 0, .string ⟨#[]⟩, .int .i64 0, .string ⟨#[]⟩, .slice none 0 0, .int .i64 x5.kind, .string ⟨x5.from_.toArray⟩, .int .i64 x5.n, .string ⟨#[]⟩, .slice none 0 0, .slice none 0 0] rfl rfl (by kernel_rfl) rfl (by kernel_rfl) ?_)
              | (go_at_call 137; with_reducible refine (HC5.out _ hx4).mono ?_; rintro e w5 ⟨rfl, hx5, hg5⟩; have mR5 := (mR4).grown hg5 nb0)
              | (go_at_call 136; refine (HC4.out _ hx3).mono ?_; rintro e w4 ⟨_, rfl, ⟨A4, c4, rfl, hv4⟩, hx4, hg4⟩; have mR4 := (mR3).grown hg4 nb0; have hV4 := (((((((HGX.out).trans hg1)).trans hg2)).trans hg3)).size; have hR4 := (mR3).lt; have hP4 := (hx3).lt)
              | (go_at_call 134; with_reducible refine (HC3.out _ hx2).mono ?_; rintro e w3 ⟨rfl, hx3, hg3⟩; have mR3 := (mR2).grown hg3 nb0)
              | (go_at_call 134; with_reducible refine (HC2.out _ hx1).mono ?_; rintro e w2 ⟨rfl, hx2, hg2⟩; have mR2 := (mR1).grown hg2 nb0)
              | (go_at_call 133; with_reducible refine (HC1.out _ HX.out).mono ?_; rintro e w1 ⟨rfl, hx1, hg1⟩; have mR1 := (HM0.out).grown hg1 nb0))
            exact bodyPost_ret_by (v := .agg #[.int .i64 4, .string ⟨x1.toArray⟩, .int .i64 x2.n, .string ⟨x2.p.toArray⟩, .int .i64 0, .string ⟨#[]⟩, .int .i64 x3.n, .string ⟨x3.p.toArray⟩, .int .i64 a4.op, .string ⟨a4.nm.toArray⟩, .int .i64 a4.k.n, .string ⟨a4.k.p.toArray⟩, .int .i64 a4.w.n, .string ⟨a4.w.p.toArray⟩, .slice A4 a4.args.length c4, .int .i64 0, .string ⟨#[]⟩, .int .i64 0, .string ⟨#[]⟩, .int .i64 0, .string ⟨#[]⟩, .slice none 0 0, .int .i64 0, .string ⟨#[]⟩, .int .i64 0, .string ⟨#[]⟩, .int .i64 0, .string ⟨#[]⟩, .slice none 0 0, .int .i64 x5.kind, .string ⟨x5.from_.toArray⟩, .int .i64 x5.n, .string ⟨#[]⟩, .slice none 0 0, .slice none 0 0]) (results_cell_row rfl _ _ b0 _ #[.int .i64 4, .string ⟨x1.toArray⟩, .int .i64 x2.n, .string ⟨x2.p.toArray⟩, .int .i64 0, .string ⟨#[]⟩, .int .i64 x3.n, .string ⟨x3.p.toArray⟩, .int .i64 a4.op, .string ⟨a4.nm.toArray⟩, .int .i64 a4.k.n, .string ⟨a4.k.p.toArray⟩, .int .i64 a4.w.n, .string ⟨a4.w.p.toArray⟩, .slice A4 a4.args.length c4, .int .i64 0, .string ⟨#[]⟩, .int .i64 0, .string ⟨#[]⟩, .int .i64 0, .string ⟨#[]⟩, .slice none 0 0, .int .i64 0, .string ⟨#[]⟩, .int .i64 0, .string ⟨#[]⟩, .int .i64 0, .string ⟨#[]⟩, .slice none 0 0, .int .i64 x5.kind, .string ⟨x5.from_.toArray⟩, .int .i64 x5.n, .string ⟨#[]⟩, .slice none 0 0, .slice none 0 0] (0, 0) _ rfl ((mR5).set #[.int .i64 4, .string ⟨x1.toArray⟩, .int .i64 x2.n, .string ⟨x2.p.toArray⟩, .int .i64 0, .string ⟨#[]⟩, .int .i64 x3.n, .string ⟨x3.p.toArray⟩, .int .i64 a4.op, .string ⟨a4.nm.toArray⟩, .int .i64 a4.k.n, .string ⟨a4.k.p.toArray⟩, .int .i64 a4.w.n, .string ⟨a4.w.p.toArray⟩, .slice A4 a4.args.length c4, .int .i64 0, .string ⟨#[]⟩, .int .i64 0, .string ⟨#[]⟩, .int .i64 0, .string ⟨#[]⟩, .slice none 0 0, .int .i64 0, .string ⟨#[]⟩, .int .i64 0, .string ⟨#[]⟩, .int .i64 0, .string ⟨#[]⟩, .slice none 0 0, .int .i64 x5.kind, .string ⟨x5.from_.toArray⟩, .int .i64 x5.n, .string ⟨#[]⟩, .slice none 0 0, .slice none 0 0]).h Tryz.underlying69 rfl (by kernel_rfl)) rfl (give_row #[.int .i64 4, .string ⟨x1.toArray⟩, .int .i64 x2.n, .string ⟨x2.p.toArray⟩, .int .i64 0, .string ⟨#[]⟩, .int .i64 x3.n, .string ⟨x3.p.toArray⟩, .int .i64 a4.op, .string ⟨a4.nm.toArray⟩, .int .i64 a4.k.n, .string ⟨a4.k.p.toArray⟩, .int .i64 a4.w.n, .string ⟨a4.w.p.toArray⟩, .slice A4 a4.args.length c4, .int .i64 0, .string ⟨#[]⟩, .int .i64 0, .string ⟨#[]⟩, .int .i64 0, .string ⟨#[]⟩, .slice none 0 0, .int .i64 0, .string ⟨#[]⟩, .int .i64 0, .string ⟨#[]⟩, .int .i64 0, .string ⟨#[]⟩, .slice none 0 0, .int .i64 x5.kind, .string ⟨x5.from_.toArray⟩, .int .i64 x5.n, .string ⟨#[]⟩, .slice none 0 0, .slice none 0 0] HM5.out (itemV_of { item0 with kind := 4, name := x1, width := x2, init := x3, a := a4, rule := x5 } rfl rfl (er_fin #[.int .i64 4, .string ⟨x1.toArray⟩, .int .i64 x2.n, .string ⟨x2.p.toArray⟩, .int .i64 0, .string ⟨#[]⟩, .int .i64 x3.n, .string ⟨x3.p.toArray⟩, .int .i64 a4.op, .string ⟨a4.nm.toArray⟩, .int .i64 a4.k.n, .string ⟨a4.k.p.toArray⟩, .int .i64 a4.w.n, .string ⟨a4.w.p.toArray⟩, .slice A4 a4.args.length c4, .int .i64 0, .string ⟨#[]⟩, .int .i64 0, .string ⟨#[]⟩, .int .i64 0, .string ⟨#[]⟩, .slice none 0 0, .int .i64 0, .string ⟨#[]⟩, .int .i64 0, .string ⟨#[]⟩, .int .i64 0, .string ⟨#[]⟩, .slice none 0 0, .int .i64 x5.kind, .string ⟨x5.from_.toArray⟩, .int .i64 x5.n, .string ⟨#[]⟩, .slice none 0 0, .slice none 0 0] (erb_call hP4 hg5 (erb_of hv4)) hV4 hR4) ER.zero ER.zero) hx5 HN0.out (((((((((((HGX.out).trans hg1)).trans hg2)).trans hg3)).trans hg4)).trans hg5)) (Nat.le_of_eq HE0.out.symm))

end Sy
end Go.Proofs.YtggeepimihhpjaaGreatDoor
