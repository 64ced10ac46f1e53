/- operation. -/
import Derived.Test.YtggeepimihhpjaaGreatDoorPH
namespace Go.Proofs.YtggeepimihhpjaaGreatDoor
open Go.RowKit Go.Shelf Sl Fr Lx
namespace Sy
set_option linter.unusedVariables false
set_option linter.unusedSimpArgs false

theorem wp_buildE {o : Oper} {a : Act} {X : World} {K : Act → World → Prop} {Q : Exit → Act → World → Prop} {x : Operand} (ho : o.op = .buildSlice 61 1 #[(0, x)]) {p q r : Int} {y z u : ByteArray} {A : Option Addr} {m c : Nat} (hx : a.eval x = .agg #[.int .i64 p, .string y, .int .i64 q, .string z, .int .i64 r, .string u, .slice A m c]) (h : K (a.put o.dst (.slice (some ⟨X.heap.size, 0, none⟩) 1 1)) (X.alloc (.cells #[.int .i64 p, .string y, .int .i64 q, .string z, .int .i64 r, .string u, .slice A m c] 63))) : o.wp Tryz.prog a X K Q := by
  unfold Oper.wp
  generalize a.eval = ev at hx ⊢
  unfold execOp
  rw [ho]
  go_simp
  exact h
theorem grown_row {w W W' : World} {row r : Option Nat} (h : w.grownBy W row) (hg : W.grownBy W' r) (hr : ∀ g, r = some g → w.heap.size ≤ g) : w.grownBy W' row :=
  ⟨hg.os.trans h.os, hg.tape.trans h.tape, hg.output.trans h.output, Nat.le_trans h.size hg.size, fun c hc hne => (hg.block c (Nat.lt_of_lt_of_le hc h.size) (fun e => by have := hr c e.symm; omega)).trans (h.block c hc hne)⟩

set_option maxRecDepth 100000 in
set_option maxHeartbeats 2000000 in
theorem operation_any (n pb : Nat) (l : List Tk) (j : Nat) (IE : ExpI j) (w : World) (h : PX n pb l w) :
    Calls Tryz.prog 176 #[.pointer (some ⟨pb, 0, none⟩), .int .i64 (j : Int)] w (Gives n pb l (operationP (exprP j)) (ExprV w) w) := by
  have HIE := Lib.hid IE
  clear IE
  have hlt0 := h.lt
  obtain ⟨m0, bA⟩ := start1 w #[.int .i64 0, .string ⟨#[]⟩, .int .i64 0, .string ⟨#[]⟩, .int .i64 0, .string ⟨#[]⟩, .slice none 0 0] 63
  have hX := h.below bA
  have hgX : w.grownBy _ (some pb) := gb bA
  have nb0 : some w.heap.size ≠ some pb := fun e => by injection e with e; omega
  have HB0 := Lib.hid (Nat.le_refl w.heap.size)
  have HN0 := Lib.hid h.room
  go_enter Tryz.func176, Tryz.ntmps176
  go_upto_region 1 with fail
  generalize w.alloc (.cells #[.int .i64 0, .string ⟨#[]⟩, .int .i64 0, .string ⟨#[]⟩, .int .i64 0, .string ⟨#[]⟩, .slice none 0 0] 63) = X at *
  obtain ⟨b0, hb0⟩ : ∃ b, b = w.heap.size := ⟨_, rfl⟩
  rw [← hb0] at m0 nb0 HN0 ⊢
  have HE0 := Lib.hid hb0
  have HX := Lib.hid hX
  have HM0 := Lib.hid m0
  have HGX := Lib.hid hgX
  have HM := Lib.hid (show operationP (exprP j) l = _ from congrFun (operationP.eq_1 (exprP j)) l)
  clear h bA hX m0 hgX hlt0 hb0
  cases hm1 : exprP j l with
  | no a =>
    have HMM := Lib.hid (HM.out.trans (bind_no hm1))
    have HC1 := Lib.hid (fun W (hW : PX n pb l W) => rd_no (HIE.out n pb l W hW) hm1)
    clear hm1
    go_wp2_with (go_at_call 164; with_reducible refine (HC1.out _ HX.out).mono ?_; rintro e w1 ⟨rfl, hg1⟩)
    exact ⟨rfl, Gives.of_no HMM.out ((HGX.out).trans hg1)⟩
  | ok a1 l1 =>
    have HM1 := Lib.hid (HM.out.trans (bind_ok hm1))
    have HC1 := Lib.hid (fun W (hW : PX n pb l W) => rd_ok (HIE.out n pb l W hW) hW hm1)
    clear hm1 HM
    by_cases he2 : (nextT l1).text = s_quest
    · have HM2 := Lib.hid (by have q := HM1.out; rw [bind_ok (show accept s_quest l1 = .ok true (l1).tail from if_pos he2)] at q; simp only [↓reduceIte, Bool.false_eq_true] at q; exact q)
      have HC2 := Lib.hid (fun W (hW : PX n pb l1 W) => accept_yes (z := ⟨#[63]⟩) hW (by decide) he2)
      generalize (l1).tail = l2 at *
      clear HM1
      go_upto_region 4 with (first
        | (go_at_call 164; refine (HC1.out _ HX.out).mono ?_; rintro e w1 ⟨_, rfl, ⟨A1, c1, rfl, hv1⟩, hx1, hg1⟩; have mR1 := (HM0.out).grown hg1 nb0; have hV1 := (HGX.out).size; have hR1 := (HM0.out).lt; have hP1 := (HX.out).lt)
        | (go_at_call 145; with_reducible refine (HC2.out _ ((((hx1).alloc (.cells #[.int .i64 a1.op, .string ⟨a1.nm.toArray⟩, .int .i64 a1.k.n, .string ⟨a1.k.p.toArray⟩, .int .i64 a1.w.n, .string ⟨a1.w.p.toArray⟩, .slice A1 a1.args.length c1] 63))).alloc (.cells #[.int .i64 0, .string ⟨#[]⟩, .int .i64 0, .string ⟨#[]⟩, .int .i64 0, .string ⟨#[]⟩, .slice (some ⟨w1.heap.size, 0, none⟩) 1 1] 63))).mono ?_; rintro e w2 ⟨rfl, hx2, hg2⟩; have mR2 := (((mR1).keep ((Below.refl _ w1).alloc (Nat.le_refl _) (.cells #[.int .i64 a1.op, .string ⟨a1.nm.toArray⟩, .int .i64 a1.k.n, .string ⟨a1.k.p.toArray⟩, .int .i64 a1.w.n, .string ⟨a1.w.p.toArray⟩, .slice A1 a1.args.length c1] 63))).keep ((Below.refl _ (w1.alloc (.cells #[.int .i64 a1.op, .string ⟨a1.nm.toArray⟩, .int .i64 a1.k.n, .string ⟨a1.k.p.toArray⟩, .int .i64 a1.w.n, .string ⟨a1.w.p.toArray⟩, .slice A1 a1.args.length c1] 63))).alloc (Nat.le_refl _) (.cells #[.int .i64 0, .string ⟨#[]⟩, .int .i64 0, .string ⟨#[]⟩, .int .i64 0, .string ⟨#[]⟩, .slice (some ⟨w1.heap.size, 0, none⟩) 1 1] 63))).grown hg2 nb0; have mL2 := (box_new2 w1 (.cells #[.int .i64 a1.op, .string ⟨a1.nm.toArray⟩, .int .i64 a1.k.n, .string ⟨a1.k.p.toArray⟩, .int .i64 a1.w.n, .string ⟨a1.w.p.toArray⟩, .slice A1 a1.args.length c1] 63) #[.int .i64 0, .string ⟨#[]⟩, .int .i64 0, .string ⟨#[]⟩, .int .i64 0, .string ⟨#[]⟩, .slice (some ⟨w1.heap.size, 0, none⟩) 1 1] 63).grown hg2 (fun e => by injection e with e; have := hg1.size; omega); have mA2 := ((AT.first (erb_of hv1) hg1.size (.cells #[.int .i64 0, .string ⟨#[]⟩, .int .i64 0, .string ⟨#[]⟩, .int .i64 0, .string ⟨#[]⟩, .slice (some ⟨w1.heap.size, 0, none⟩) 1 1] 63))).grown hg2 hP1; obtain ⟨cL0, cL1, cL2, cL3, cL4, cL5, cL6⟩ := (mL2).c7; obtain ⟨fL0, fL1, fL2, fL3, fL4, fL5, fL6⟩ := (mL2).f7))
      have hl3 := hg1.size
      have hbL3 : w1.heap.size + 1 ≠ b0 := fun e => by omega
      have hwL3 : w.heap.size ≤ w1.heap.size + 1 := by have := hV1; omega
      have hnL3 : n ≤ w1.heap.size + 1 := by have := (HX.out).room; omega
      have mL3 : BoxL (w2.setCell ⟨w1.heap.size + 1, 0, none⟩ (.int .i64 10)) (w1.heap.size + 1) #[.int .i64 10, .string ⟨#[]⟩, .int .i64 0, .string ⟨#[]⟩, .int .i64 0, .string ⟨#[]⟩, .slice (some ⟨w1.heap.size, 0, none⟩) 1 1] := by have q := (mL2).set1 (i := 0) (by simp) (.int .i64 10); simpa using q
      have mR3 := (mR2).far1 hbL3 0 (.int .i64 10)
      have mA3 := (mA2).set 0 (.int .i64 10)
      have HX3 := Lib.hid ((hx2).grown (grown_set _ (w1.heap.size + 1) 0 (.int .i64 10)) (fun g e => by injection e with e; omega))
      have HG3 : Hid (w.grownBy (w2.setCell ⟨w1.heap.size + 1, 0, none⟩ (.int .i64 10)) (some pb)) := Lib.hid (grown_fresh (W := w) hwL3 [.int .i64 10] _ 0 (((((((((HGX.out).trans hg1)).trans (World.grownBy_alloc w1 (.cells #[.int .i64 a1.op, .string ⟨a1.nm.toArray⟩, .int .i64 a1.k.n, .string ⟨a1.k.p.toArray⟩, .int .i64 a1.w.n, .string ⟨a1.w.p.toArray⟩, .slice A1 a1.args.length c1] 63) _))).trans (World.grownBy_alloc (w1.alloc (.cells #[.int .i64 a1.op, .string ⟨a1.nm.toArray⟩, .int .i64 a1.k.n, .string ⟨a1.k.p.toArray⟩, .int .i64 a1.w.n, .string ⟨a1.w.p.toArray⟩, .slice A1 a1.args.length c1] 63)) (.cells #[.int .i64 0, .string ⟨#[]⟩, .int .i64 0, .string ⟨#[]⟩, .int .i64 0, .string ⟨#[]⟩, .slice (some ⟨w1.heap.size, 0, none⟩) 1 1] 63) _))).trans hg2)))
      clear cL0 fL0 cL1 fL1 cL2 fL2 cL3 fL3 cL4 fL4 cL5 fL5 cL6 fL6
      generalize (w2.setCell ⟨w1.heap.size + 1, 0, none⟩ (.int .i64 10)) = Y3 at *
      cases hm4 : exprP j l2 with
      | no a =>
        have HMM := Lib.hid (HM2.out.trans (bind_no hm4))
        have HC4 := Lib.hid (fun W (hW : PX n pb l2 W) => rd_no (HIE.out n pb l2 W hW) hm4)
        clear hm4
        have hD4 : Below Y3.heap.size Y3 Y3.drew := (Below.refl _ Y3).drew
        have hxD4 := (HX3.out).below hD4
        have hgD4 := (HG3.out).trans (gb hD4)
        have rD4 := (mR3).keep hD4
        have lD4 := (mL3).keep hD4
        have aD4 := (mA3).kept (grown_below hD4) (fun g e => by cases e)
        refine wp_region_till (fun w' => w'.cell? ⟨w1.heap.size + 1, 6, none⟩ = some (.slice (some ⟨w1.heap.size, 0, none⟩) 1 1)) 8 (by kernel_rfl) lD4.c7.2.2.2.2.2.2 (fun hHeld => ?_)
        clear hD4
        generalize Y3.drew = D4 at *
        refine anyTill.reads (i := 0) rfl (by kernel_rfl) (by kernel_rfl) (by kernel_rfl) (by kernel_rfl) (fun _ _ _ h => h) (by rfl) (v := ?_) ?_ (by assumption) ?_
        rotate_left
        · intro wz hz; (try dsimp only at hz); go_split_ands; go_simp; try with_reducible rfl
        simp only [Act.put, List.setIfInBounds_toArray, List.set_cons_zero, List.set_cons_succ]
        refine anyTill.reads (i := 1) rfl (by kernel_rfl) (by kernel_rfl) (by kernel_rfl) (by kernel_rfl) (fun _ _ _ h => h) (by rfl) (v := ?_) ?_ (by assumption) ?_
        rotate_left
        · intro wz hz; (try dsimp only at hz); go_split_ands; go_simp; try with_reducible rfl
        simp only [Act.put, List.setIfInBounds_toArray, List.set_cons_zero, List.set_cons_succ]
        refine anyTill.reads (i := 2) rfl (by kernel_rfl) (by kernel_rfl) (by kernel_rfl) (by kernel_rfl) (fun _ _ _ h => h) (by rfl) (v := ?_) ?_ (by assumption) ?_
        rotate_left
        · intro wz hz; (try dsimp only at hz); go_split_ands; go_simp; try with_reducible rfl
        simp only [Act.put, List.setIfInBounds_toArray, List.set_cons_zero, List.set_cons_succ]
        refine anyTill.reads (i := 3) rfl (by kernel_rfl) (by kernel_rfl) (by kernel_rfl) (by kernel_rfl) (fun _ _ _ h => h) (by rfl) (v := ?_) ?_ (by assumption) ?_
        rotate_left
        · intro wz hz; (try dsimp only at hz); go_split_ands; go_simp; try with_reducible rfl
        simp only [Act.put, List.setIfInBounds_toArray, List.set_cons_zero, List.set_cons_succ]
        refine anyTill.alone (i := 4) rfl (by kernel_rfl) (by rfl) (fun K hK => ?_)
        go_wp2_with fail
        go_at_call 164
        refine (HC4.out _ hxD4).mono ?_
        rintro e w4 ⟨rfl, hg4⟩
        exact ⟨rfl, Gives.of_no HMM.out (hgD4.trans hg4)⟩
      | ok a4 l4 =>
        have HM4 := Lib.hid (HM2.out.trans (bind_ok hm4))
        have HC4 := Lib.hid (fun W (hW : PX n pb l2 W) => rd_ok (HIE.out n pb l2 W hW) hW hm4)
        clear hm4 HM2
        have hD4 : Below Y3.heap.size Y3 Y3.drew := (Below.refl _ Y3).drew
        have hxD4 := (HX3.out).below hD4
        have hgD4 := (HG3.out).trans (gb hD4)
        have rD4 := (mR3).keep hD4
        have lD4 := (mL3).keep hD4
        have aD4 := (mA3).kept (grown_below hD4) (fun g e => by cases e)
        refine wp_region_till (fun w' => w'.cell? ⟨w1.heap.size + 1, 6, none⟩ = some (.slice (some ⟨w1.heap.size, 0, none⟩) 1 1)) 8 (by kernel_rfl) lD4.c7.2.2.2.2.2.2 (fun hHeld => ?_)
        clear hD4
        generalize Y3.drew = D4 at *
        refine anyTill.reads (i := 0) rfl (by kernel_rfl) (by kernel_rfl) (by kernel_rfl) (by kernel_rfl) (fun _ _ _ h => h) (by rfl) (v := ?_) ?_ (by assumption) ?_
        rotate_left
        · intro wz hz; (try dsimp only at hz); go_split_ands; go_simp; try with_reducible rfl
        simp only [Act.put, List.setIfInBounds_toArray, List.set_cons_zero, List.set_cons_succ]
        refine anyTill.reads (i := 1) rfl (by kernel_rfl) (by kernel_rfl) (by kernel_rfl) (by kernel_rfl) (fun _ _ _ h => h) (by rfl) (v := ?_) ?_ (by assumption) ?_
        rotate_left
        · intro wz hz; (try dsimp only at hz); go_split_ands; go_simp; try with_reducible rfl
        simp only [Act.put, List.setIfInBounds_toArray, List.set_cons_zero, List.set_cons_succ]
        refine anyTill.reads (i := 2) rfl (by kernel_rfl) (by kernel_rfl) (by kernel_rfl) (by kernel_rfl) (fun _ _ _ h => h) (by rfl) (v := ?_) ?_ (by assumption) ?_
        rotate_left
        · intro wz hz; (try dsimp only at hz); go_split_ands; go_simp; try with_reducible rfl
        simp only [Act.put, List.setIfInBounds_toArray, List.set_cons_zero, List.set_cons_succ]
        refine anyTill.reads (i := 3) rfl (by kernel_rfl) (by kernel_rfl) (by kernel_rfl) (by kernel_rfl) (fun _ _ _ h => h) (by rfl) (v := ?_) ?_ (by assumption) ?_
        rotate_left
        · intro wz hz; (try dsimp only at hz); go_split_ands; go_simp; try with_reducible rfl
        simp only [Act.put, List.setIfInBounds_toArray, List.set_cons_zero, List.set_cons_succ]
        refine anyTill.alone (i := 4) rfl (by kernel_rfl) (by rfl) (fun K hK => ?_)
        go_wp2_with fail
        go_at_call 164
        refine (HC4.out _ hxD4).mono ?_
        rintro e w4 ⟨_, rfl, ⟨A4, c4, rfl, hv4⟩, hx4, hg4⟩
        refine hK.out _ _ (fun _ => ?_) (fun hHeld0 => ?_)
        · exact (lD4.grown hg4 (fun e => by injection e with e; have := hg1.size; omega)).c7.2.2.2.2.2.2
        have hHeld := hHeld0 (by decide)
        clear hHeld0
        clear hK K
        try simp only [Act.put, List.setIfInBounds_toArray, List.set_cons_zero, List.set_cons_succ]
        refine anyTill.alone (i := 5) rfl (by kernel_rfl) (by rfl) (fun K hK => ?_)
        refine wp_buildE rfl (by rfl) ?_
        refine hK.out _ _ (fun _ => ?_) (fun hHeld0 => ?_)
        · exact ((lD4.grown hg4 (fun e => by injection e with e; have := hg1.size; omega)).keep ((Below.refl _ w4).alloc (Nat.le_refl _) (.cells #[.int .i64 a4.op, .string ⟨a4.nm.toArray⟩, .int .i64 a4.k.n, .string ⟨a4.k.p.toArray⟩, .int .i64 a4.w.n, .string ⟨a4.w.p.toArray⟩, .slice A4 a4.args.length c4] 63))).c7.2.2.2.2.2.2
        have hHeld := hHeld0 (by decide)
        clear hHeld0
        clear hK K
        try simp only [Act.put, List.setIfInBounds_toArray, List.set_cons_zero, List.set_cons_succ]
        have hl4 := hg1.size
        have hbX4 : X.heap.size ≤ D4.heap.size := by have := lD4.lt; omega
        have lE4 := (lD4.grown hg4 (fun e => by injection e with e; have := hg1.size; omega)).keep ((Below.refl _ w4).alloc (Nat.le_refl _) (.cells #[.int .i64 a4.op, .string ⟨a4.nm.toArray⟩, .int .i64 a4.k.n, .string ⟨a4.k.p.toArray⟩, .int .i64 a4.w.n, .string ⟨a4.w.p.toArray⟩, .slice A4 a4.args.length c4] 63))
        have rE4 := (rD4.grown hg4 nb0).keep ((Below.refl _ w4).alloc (Nat.le_refl _) (.cells #[.int .i64 a4.op, .string ⟨a4.nm.toArray⟩, .int .i64 a4.k.n, .string ⟨a4.k.p.toArray⟩, .int .i64 a4.w.n, .string ⟨a4.w.p.toArray⟩, .slice A4 a4.args.length c4] 63))
        have hxE4 := hx4.alloc (.cells #[.int .i64 a4.op, .string ⟨a4.nm.toArray⟩, .int .i64 a4.k.n, .string ⟨a4.k.p.toArray⟩, .int .i64 a4.w.n, .string ⟨a4.w.p.toArray⟩, .slice A4 a4.args.length c4] 63)
        have hgE4 := (hgD4.trans hg4).trans (World.grownBy_alloc w4 (.cells #[.int .i64 a4.op, .string ⟨a4.nm.toArray⟩, .int .i64 a4.k.n, .string ⟨a4.k.p.toArray⟩, .int .i64 a4.w.n, .string ⟨a4.w.p.toArray⟩, .slice A4 a4.args.length c4] 63) _)
        refine anyTill.alone (i := 6) rfl (by kernel_rfl) (by rfl) (fun K hK => ?_)
        refine wp_append_at _ _ (by rfl) (by rfl) (by rfl) aD4 lD4.lt hbX4 hg4 hP1 hv4 (by simp) ?_
        intro g4 cap4 wx4 mx4 hq4
        obtain ⟨r4, hgx4, hr4⟩ := hq4
        have lF4 := lE4.grown hgx4 (fun e => (hr4 _ e.symm).2 rfl)
        have rF4 := rE4.grown hgx4 (fun e => by have := (hr4 _ e.symm).1; omega)
        refine hK.out _ _ (fun _ => ?_) (fun hHeld0 => ?_)
        · exact lF4.c7.2.2.2.2.2.2
        have hHeld := hHeld0 (by decide)
        clear hHeld0
        clear hK K
        try simp only [Act.put, List.setIfInBounds_toArray, List.set_cons_zero, List.set_cons_succ]
        refine anyTill.alone (i := 7) rfl (by kernel_rfl) (by rfl) (fun K hK => ?_)
        go_simp
        refine hK.out _ _ (fun _ => ?_) (fun hHeld0 => ?_)
        · exact lF4.c7.2.2.2.2.2.2
        have hHeld := hHeld0 (by decide)
        clear hHeld0
        clear hK K
        try simp only [Act.put, List.setIfInBounds_toArray, List.set_cons_zero, List.set_cons_succ]
        obtain ⟨q0, q1, q2, q3, q4, q5, q6⟩ := lF4.c7
        obtain ⟨p0, p1, p2, p3, p4, p5, p6⟩ := lF4.f7
        refine anyTill.alone (i := 8) rfl (by kernel_rfl) (by rfl) (fun K hK => ?_)
        go_simp
        refine hK.out _ _ (fun h => absurd h (by decide)) (fun hHeld => ?_)
        clear hK K
        try simp only [Act.put, List.setIfInBounds_toArray, List.set_cons_zero, List.set_cons_succ]
        refine anyTill.done (by kernel_rfl) ?_ _
        clear hHeld q0 q1 q2 q3 q4 q5 q6 p0 p1 p2 p3 p4 p5 p6
        have hwL4 : w.heap.size ≤ w1.heap.size + 1 := by have := hV1; omega
        have hnL4 : n ≤ w1.heap.size + 1 := by have := (HX.out).room; omega
        have mL4 : BoxL (wx4.setCell ⟨w1.heap.size + 1, 6, none⟩ (.slice (some ⟨g4, 0, none⟩) 2 cap4)) (w1.heap.size + 1) #[.int .i64 10, .string ⟨#[]⟩, .int .i64 0, .string ⟨#[]⟩, .int .i64 0, .string ⟨#[]⟩, .slice (some ⟨g4, 0, none⟩) 2 cap4] := by have q := lF4.set1 (i := 6) (by simp) (.slice (some ⟨g4, 0, none⟩) 2 cap4); simpa using q
        have mR4 : BoxL (wx4.setCell ⟨w1.heap.size + 1, 6, none⟩ (.slice (some ⟨g4, 0, none⟩) 2 cap4)) _ _ := rF4.far1 (fun e => by omega) 6 (.slice (some ⟨g4, 0, none⟩) 2 cap4)
        have mA4 : AT (wx4.setCell ⟨w1.heap.size + 1, 6, none⟩ (.slice (some ⟨g4, 0, none⟩) 2 cap4)) _ _ _ _ := mx4.set 6 (.slice (some ⟨g4, 0, none⟩) 2 cap4)
        have HX4 : Hid (PX n pb l4 (wx4.setCell ⟨w1.heap.size + 1, 6, none⟩ (.slice (some ⟨g4, 0, none⟩) 2 cap4))) := Lib.hid ((hxE4.grown hgx4 (fun g e => by have := (hr4 g e).1; have := (HX.out).room; omega)).grown (grown_set _ (w1.heap.size + 1) 6 (.slice (some ⟨g4, 0, none⟩) 2 cap4)) (fun g e => by injection e with e; omega))
        have HG4 : Hid (w.grownBy (wx4.setCell ⟨w1.heap.size + 1, 6, none⟩ (.slice (some ⟨g4, 0, none⟩) 2 cap4)) (some pb)) := Lib.hid (grown_fresh (W := w) hwL4 [.slice (some ⟨g4, 0, none⟩) 2 cap4] _ 6 (grown_row hgE4 hgx4 (fun g e => by have := (hr4 g e).1; have := hV1; omega)))
        clear lD4 rD4 aD4 hxD4 hgD4 lE4 rE4 hxE4 hgE4 lF4 rF4 hgx4 hr4 mx4 hv4 hx4 hg4
        generalize (wx4.setCell ⟨w1.heap.size + 1, 6, none⟩ (.slice (some ⟨g4, 0, none⟩) 2 cap4)) = Y4 at *
        cases hm5 : expect s_colon l4 with
        | no a =>
          have HMM := Lib.hid (HM4.out.trans (bind_no hm5))
          have HC5 := Lib.hid (fun W (hW : PX n pb l4 W) => rd_no (expect_any n pb l4 ⟨#[58]⟩ W hW.ps (by decide)) hm5)
          clear hm5
          go_wp2_with (go_at_call 138; with_reducible refine (HC5.out _ HX4.out).mono ?_; rintro e w5 ⟨rfl, hg5⟩)
          exact ⟨rfl, Gives.of_no HMM.out ((HG4.out).trans hg5)⟩
        | ok u5 l5 =>
          have HM5 := Lib.hid (HM4.out.trans (bind_ok hm5))
          have HC5 := Lib.hid (fun W (hW : PX n pb l4 W) => rd_is (g := fun _ : Unit => Value.tuple #[]) (expect_any n pb l4 ⟨#[58]⟩ W hW.ps (by decide)) hW hm5)
          clear hm5 HM4
          go_upto_region 7 with (go_at_call 138; with_reducible refine (HC5.out _ HX4.out).mono ?_; rintro e w5 ⟨rfl, hx5, hg5⟩; have mR5 := (mR4).grown hg5 nb0; have mL5 := (mL4).grown hg5 (fun e => by injection e with e; have := hg1.size; omega); have mA5 := (mA4).grown hg5 hP1)
          cases hm6 : exprP j l5 with
          | no a =>
            have HMM := Lib.hid (HM5.out.trans (bind_no hm6))
            have HC6 := Lib.hid (fun W (hW : PX n pb l5 W) => rd_no (HIE.out n pb l5 W hW) hm6)
            clear hm6
            have hD6 : Below w5.heap.size w5 w5.drew := (Below.refl _ w5).drew
            have hxD6 := (hx5).below hD6
            have hgD6 := (((HG4.out).trans hg5)).trans (gb hD6)
            have rD6 := (mR5).keep hD6
            have lD6 := (mL5).keep hD6
            have aD6 := (mA5).kept (grown_below hD6) (fun g e => by cases e)
            refine wp_region_till (fun w' => w'.cell? ⟨w1.heap.size + 1, 6, none⟩ = some (.slice (some ⟨g4, 0, none⟩) 2 cap4)) 8 (by kernel_rfl) lD6.c7.2.2.2.2.2.2 (fun hHeld => ?_)
            clear hD6
            generalize w5.drew = D6 at *
            refine anyTill.reads (i := 0) rfl (by kernel_rfl) (by kernel_rfl) (by kernel_rfl) (by kernel_rfl) (fun _ _ _ h => h) (by rfl) (v := ?_) ?_ (by assumption) ?_
            rotate_left
            · intro wz hz; (try dsimp only at hz); go_split_ands; go_simp; try with_reducible rfl
            simp only [Act.put, List.setIfInBounds_toArray, List.set_cons_zero, List.set_cons_succ]
            refine anyTill.reads (i := 1) rfl (by kernel_rfl) (by kernel_rfl) (by kernel_rfl) (by kernel_rfl) (fun _ _ _ h => h) (by rfl) (v := ?_) ?_ (by assumption) ?_
            rotate_left
            · intro wz hz; (try dsimp only at hz); go_split_ands; go_simp; try with_reducible rfl
            simp only [Act.put, List.setIfInBounds_toArray, List.set_cons_zero, List.set_cons_succ]
            refine anyTill.reads (i := 2) rfl (by kernel_rfl) (by kernel_rfl) (by kernel_rfl) (by kernel_rfl) (fun _ _ _ h => h) (by rfl) (v := ?_) ?_ (by assumption) ?_
            rotate_left
            · intro wz hz; (try dsimp only at hz); go_split_ands; go_simp; try with_reducible rfl
            simp only [Act.put, List.setIfInBounds_toArray, List.set_cons_zero, List.set_cons_succ]
            refine anyTill.reads (i := 3) rfl (by kernel_rfl) (by kernel_rfl) (by kernel_rfl) (by kernel_rfl) (fun _ _ _ h => h) (by rfl) (v := ?_) ?_ (by assumption) ?_
            rotate_left
            · intro wz hz; (try dsimp only at hz); go_split_ands; go_simp; try with_reducible rfl
            simp only [Act.put, List.setIfInBounds_toArray, List.set_cons_zero, List.set_cons_succ]
            refine anyTill.alone (i := 4) rfl (by kernel_rfl) (by rfl) (fun K hK => ?_)
            go_wp2_with fail
            go_at_call 164
            refine (HC6.out _ hxD6).mono ?_
            rintro e w6 ⟨rfl, hg6⟩
            exact ⟨rfl, Gives.of_no HMM.out (hgD6.trans hg6)⟩
          | ok a6 l6 =>
            have HM6 := Lib.hid (HM5.out.trans (bind_ok hm6))
            have HC6 := Lib.hid (fun W (hW : PX n pb l5 W) => rd_ok (HIE.out n pb l5 W hW) hW hm6)
            clear hm6 HM5
            have hD6 : Below w5.heap.size w5 w5.drew := (Below.refl _ w5).drew
            have hxD6 := (hx5).below hD6
            have hgD6 := (((HG4.out).trans hg5)).trans (gb hD6)
            have rD6 := (mR5).keep hD6
            have lD6 := (mL5).keep hD6
            have aD6 := (mA5).kept (grown_below hD6) (fun g e => by cases e)
            refine wp_region_till (fun w' => w'.cell? ⟨w1.heap.size + 1, 6, none⟩ = some (.slice (some ⟨g4, 0, none⟩) 2 cap4)) 8 (by kernel_rfl) lD6.c7.2.2.2.2.2.2 (fun hHeld => ?_)
            clear hD6
            generalize w5.drew = D6 at *
            refine anyTill.reads (i := 0) rfl (by kernel_rfl) (by kernel_rfl) (by kernel_rfl) (by kernel_rfl) (fun _ _ _ h => h) (by rfl) (v := ?_) ?_ (by assumption) ?_
            rotate_left
            · intro wz hz; (try dsimp only at hz); go_split_ands; go_simp; try with_reducible rfl
            simp only [Act.put, List.setIfInBounds_toArray, List.set_cons_zero, List.set_cons_succ]
            refine anyTill.reads (i := 1) rfl (by kernel_rfl) (by kernel_rfl) (by kernel_rfl) (by kernel_rfl) (fun _ _ _ h => h) (by rfl) (v := ?_) ?_ (by assumption) ?_
            rotate_left
            · intro wz hz; (try dsimp only at hz); go_split_ands; go_simp; try with_reducible rfl
            simp only [Act.put, List.setIfInBounds_toArray, List.set_cons_zero, List.set_cons_succ]
            refine anyTill.reads (i := 2) rfl (by kernel_rfl) (by kernel_rfl) (by kernel_rfl) (by kernel_rfl) (fun _ _ _ h => h) (by rfl) (v := ?_) ?_ (by assumption) ?_
            rotate_left
            · intro wz hz; (try dsimp only at hz); go_split_ands; go_simp; try with_reducible rfl
            simp only [Act.put, List.setIfInBounds_toArray, List.set_cons_zero, List.set_cons_succ]
            refine anyTill.reads (i := 3) rfl (by kernel_rfl) (by kernel_rfl) (by kernel_rfl) (by kernel_rfl) (fun _ _ _ h => h) (by rfl) (v := ?_) ?_ (by assumption) ?_
            rotate_left
            · intro wz hz; (try dsimp only at hz); go_split_ands; go_simp; try with_reducible rfl
            simp only [Act.put, List.setIfInBounds_toArray, List.set_cons_zero, List.set_cons_succ]
            refine anyTill.alone (i := 4) rfl (by kernel_rfl) (by rfl) (fun K hK => ?_)
            go_wp2_with fail
            go_at_call 164
            refine (HC6.out _ hxD6).mono ?_
            rintro e w6 ⟨_, rfl, ⟨A6, c6, rfl, hv6⟩, hx6, hg6⟩
            refine hK.out _ _ (fun _ => ?_) (fun hHeld0 => ?_)
            · exact (lD6.grown hg6 (fun e => by injection e with e; have := hg1.size; omega)).c7.2.2.2.2.2.2
            have hHeld := hHeld0 (by decide)
            clear hHeld0
            clear hK K
            try simp only [Act.put, List.setIfInBounds_toArray, List.set_cons_zero, List.set_cons_succ]
            refine anyTill.alone (i := 5) rfl (by kernel_rfl) (by rfl) (fun K hK => ?_)
            refine wp_buildE rfl (by rfl) ?_
            refine hK.out _ _ (fun _ => ?_) (fun hHeld0 => ?_)
            · exact ((lD6.grown hg6 (fun e => by injection e with e; have := hg1.size; omega)).keep ((Below.refl _ w6).alloc (Nat.le_refl _) (.cells #[.int .i64 a6.op, .string ⟨a6.nm.toArray⟩, .int .i64 a6.k.n, .string ⟨a6.k.p.toArray⟩, .int .i64 a6.w.n, .string ⟨a6.w.p.toArray⟩, .slice A6 a6.args.length c6] 63))).c7.2.2.2.2.2.2
            have hHeld := hHeld0 (by decide)
            clear hHeld0
            clear hK K
            try simp only [Act.put, List.setIfInBounds_toArray, List.set_cons_zero, List.set_cons_succ]
            have hl6 := hg1.size
            have hbX6 : X.heap.size ≤ D6.heap.size := by have := lD6.lt; omega
            have lE6 := (lD6.grown hg6 (fun e => by injection e with e; have := hg1.size; omega)).keep ((Below.refl _ w6).alloc (Nat.le_refl _) (.cells #[.int .i64 a6.op, .string ⟨a6.nm.toArray⟩, .int .i64 a6.k.n, .string ⟨a6.k.p.toArray⟩, .int .i64 a6.w.n, .string ⟨a6.w.p.toArray⟩, .slice A6 a6.args.length c6] 63))
            have rE6 := (rD6.grown hg6 nb0).keep ((Below.refl _ w6).alloc (Nat.le_refl _) (.cells #[.int .i64 a6.op, .string ⟨a6.nm.toArray⟩, .int .i64 a6.k.n, .string ⟨a6.k.p.toArray⟩, .int .i64 a6.w.n, .string ⟨a6.w.p.toArray⟩, .slice A6 a6.args.length c6] 63))
            have hxE6 := hx6.alloc (.cells #[.int .i64 a6.op, .string ⟨a6.nm.toArray⟩, .int .i64 a6.k.n, .string ⟨a6.k.p.toArray⟩, .int .i64 a6.w.n, .string ⟨a6.w.p.toArray⟩, .slice A6 a6.args.length c6] 63)
            have hgE6 := (hgD6.trans hg6).trans (World.grownBy_alloc w6 (.cells #[.int .i64 a6.op, .string ⟨a6.nm.toArray⟩, .int .i64 a6.k.n, .string ⟨a6.k.p.toArray⟩, .int .i64 a6.w.n, .string ⟨a6.w.p.toArray⟩, .slice A6 a6.args.length c6] 63) _)
            refine anyTill.alone (i := 6) rfl (by kernel_rfl) (by rfl) (fun K hK => ?_)
            refine wp_append_at _ _ (by rfl) (by rfl) (by rfl) aD6 lD6.lt hbX6 hg6 hP1 hv6 (by simp) ?_
            intro g6 cap6 wx6 mx6 hq6
            obtain ⟨r6, hgx6, hr6⟩ := hq6
            have lF6 := lE6.grown hgx6 (fun e => (hr6 _ e.symm).2 rfl)
            have rF6 := rE6.grown hgx6 (fun e => by have := (hr6 _ e.symm).1; omega)
            refine hK.out _ _ (fun _ => ?_) (fun hHeld0 => ?_)
            · exact lF6.c7.2.2.2.2.2.2
            have hHeld := hHeld0 (by decide)
            clear hHeld0
            clear hK K
            try simp only [Act.put, List.setIfInBounds_toArray, List.set_cons_zero, List.set_cons_succ]
            refine anyTill.alone (i := 7) rfl (by kernel_rfl) (by rfl) (fun K hK => ?_)
            go_simp
            refine hK.out _ _ (fun _ => ?_) (fun hHeld0 => ?_)
            · exact lF6.c7.2.2.2.2.2.2
            have hHeld := hHeld0 (by decide)
            clear hHeld0
            clear hK K
            try simp only [Act.put, List.setIfInBounds_toArray, List.set_cons_zero, List.set_cons_succ]
            obtain ⟨q0, q1, q2, q3, q4, q5, q6⟩ := lF6.c7
            obtain ⟨p0, p1, p2, p3, p4, p5, p6⟩ := lF6.f7
            refine anyTill.alone (i := 8) rfl (by kernel_rfl) (by rfl) (fun K hK => ?_)
            go_simp
            refine hK.out _ _ (fun h => absurd h (by decide)) (fun hHeld => ?_)
            clear hK K
            try simp only [Act.put, List.setIfInBounds_toArray, List.set_cons_zero, List.set_cons_succ]
            refine anyTill.done (by kernel_rfl) ?_ _
            clear hHeld q0 q1 q2 q3 q4 q5 q6 p0 p1 p2 p3 p4 p5 p6
            have hwL6 : w.heap.size ≤ w1.heap.size + 1 := by have := hV1; omega
            have hnL6 : n ≤ w1.heap.size + 1 := by have := (HX.out).room; omega
            have mL6 : BoxL (wx6.setCell ⟨w1.heap.size + 1, 6, none⟩ (.slice (some ⟨g6, 0, none⟩) 3 cap6)) (w1.heap.size + 1) #[.int .i64 10, .string ⟨#[]⟩, .int .i64 0, .string ⟨#[]⟩, .int .i64 0, .string ⟨#[]⟩, .slice (some ⟨g6, 0, none⟩) 3 cap6] := by have q := lF6.set1 (i := 6) (by simp) (.slice (some ⟨g6, 0, none⟩) 3 cap6); simpa using q
            have mR6 : BoxL (wx6.setCell ⟨w1.heap.size + 1, 6, none⟩ (.slice (some ⟨g6, 0, none⟩) 3 cap6)) _ _ := rF6.far1 (fun e => by omega) 6 (.slice (some ⟨g6, 0, none⟩) 3 cap6)
            have mA6 : AT (wx6.setCell ⟨w1.heap.size + 1, 6, none⟩ (.slice (some ⟨g6, 0, none⟩) 3 cap6)) _ _ _ _ := mx6.set 6 (.slice (some ⟨g6, 0, none⟩) 3 cap6)
            have HX6 : Hid (PX n pb l6 (wx6.setCell ⟨w1.heap.size + 1, 6, none⟩ (.slice (some ⟨g6, 0, none⟩) 3 cap6))) := Lib.hid ((hxE6.grown hgx6 (fun g e => by have := (hr6 g e).1; have := (HX.out).room; omega)).grown (grown_set _ (w1.heap.size + 1) 6 (.slice (some ⟨g6, 0, none⟩) 3 cap6)) (fun g e => by injection e with e; omega))
            have HG6 : Hid (w.grownBy (wx6.setCell ⟨w1.heap.size + 1, 6, none⟩ (.slice (some ⟨g6, 0, none⟩) 3 cap6)) (some pb)) := Lib.hid (grown_fresh (W := w) hwL6 [.slice (some ⟨g6, 0, none⟩) 3 cap6] _ 6 (grown_row hgE6 hgx6 (fun g e => by have := (hr6 g e).1; have := hV1; omega)))
            clear lD6 rD6 aD6 hxD6 hgD6 lE6 rE6 hxE6 hgE6 lF6 rF6 hgx6 hr6 mx6 hv6 hx6 hg6
            generalize (wx6.setCell ⟨w1.heap.size + 1, 6, none⟩ (.slice (some ⟨g6, 0, none⟩) 3 cap6)) = Y6 at *
            cases hm7 : expect s_rpar l6 with
            | no a =>
              have HMM := Lib.hid (HM6.out.trans (bind_no hm7))
              have HC7 := Lib.hid (fun W (hW : PX n pb l6 W) => rd_no (expect_any n pb l6 ⟨#[41]⟩ W hW.ps (by decide)) hm7)
              clear hm7
              go_wp2_with (go_at_call 138; with_reducible refine (HC7.out _ HX6.out).mono ?_; rintro e w7 ⟨rfl, hg7⟩)
              exact ⟨rfl, Gives.of_no HMM.out ((HG6.out).trans hg7)⟩
            | ok u7 l7 =>
              have HM7 := Lib.hid (HM6.out.trans (bind_ok hm7))
              have HC7 := Lib.hid (fun W (hW : PX n pb l6 W) => rd_is (g := fun _ : Unit => Value.tuple #[]) (expect_any n pb l6 ⟨#[41]⟩ W hW.ps (by decide)) hW hm7)
              clear hm7 HM6
              go_wp2_with (go_at_call 138; with_reducible refine (HC7.out _ HX6.out).mono ?_; rintro e w7 ⟨rfl, hx7, hg7⟩; have mR7 := (mR6).grown hg7 nb0; have mL7 := (mL6).grown hg7 (fun e => by injection e with e; have := hg1.size; omega); have mA7 := (mA6).grown hg7 hP1; obtain ⟨cR0, cR1, cR2, cR3, cR4, cR5, cR6⟩ := (mR7).c7; obtain ⟨fR0, fR1, fR2, fR3, fR4, fR5, fR6⟩ := (mR7).f7; obtain ⟨cL0, cL1, cL2, cL3, cL4, cL5, cL6⟩ := (mL7).c7)
              have q := (mR7).s7 (.int .i64 10) (.string ⟨#[]⟩) (.int .i64 0) (.string ⟨#[]⟩) (.int .i64 0) (.string ⟨#[]⟩) (.slice (some ⟨g6, 0, none⟩) 3 cap6)
              obtain ⟨s0, s1, s2, s3, s4, s5, s6⟩ := q.c7
              exact bodyPost_ret (v := .agg #[.int .i64 10, .string ⟨#[]⟩, .int .i64 0, .string ⟨#[]⟩, .int .i64 0, .string ⟨#[]⟩, .slice (some ⟨g6, 0, none⟩) 3 cap6]) (by simp [results, Tryz.results176, go_sem, s0, s1, s2, s3, s4, s5, s6]) rfl (give_box [.int .i64 10, .string ⟨#[]⟩, .int .i64 0, .string ⟨#[]⟩, .int .i64 0, .string ⟨#[]⟩, .slice (some ⟨g6, 0, none⟩) 3 cap6] HM7.out (exprV_at 10 [] num0 num0 mA7 rfl hV1 hR1 _) hx7 HN0.out (((HG6.out).trans hg7)) (Nat.le_of_eq HE0.out.symm))
    · have HM2 := Lib.hid (by have q := HM1.out; rw [bind_ok (show accept s_quest l1 = .ok false l1 from if_neg he2)] at q; simp only [↓reduceIte, Bool.false_eq_true] at q; exact q)
      have HC2 := Lib.hid (fun W (hW : PX n pb l1 W) => accept_no (z := ⟨#[63]⟩) hW (by decide) he2)
      clear HM1
      cases hm8 : operatorP l1 with
      | no a =>
        have HMM := Lib.hid (HM2.out.trans (bind_no hm8))
        have HC8 := Lib.hid (fun W (hW : PX n pb l1 W) => rd_no (operator_any n pb l1 W hW) hm8)
        clear hm8
        go_wp2_with (first
          | (go_at_call 164; refine (HC1.out _ HX.out).mono ?_; rintro e w1 ⟨_, rfl, ⟨A1, c1, rfl, hv1⟩, hx1, hg1⟩; have mR1 := (HM0.out).grown hg1 nb0; have hV1 := (HGX.out).size; have hR1 := (HM0.out).lt; have hP1 := (HX.out).lt)
          | (go_at_call 145; with_reducible refine (HC2.out _ ((((hx1).alloc (.cells #[.int .i64 a1.op, .string ⟨a1.nm.toArray⟩, .int .i64 a1.k.n, .string ⟨a1.k.p.toArray⟩, .int .i64 a1.w.n, .string ⟨a1.w.p.toArray⟩, .slice A1 a1.args.length c1] 63))).alloc (.cells #[.int .i64 0, .string ⟨#[]⟩, .int .i64 0, .string ⟨#[]⟩, .int .i64 0, .string ⟨#[]⟩, .slice (some ⟨w1.heap.size, 0, none⟩) 1 1] 63))).mono ?_; rintro e w2 ⟨rfl, hx2, hg2⟩; have mR2 := (((mR1).keep ((Below.refl _ w1).alloc (Nat.le_refl _) (.cells #[.int .i64 a1.op, .string ⟨a1.nm.toArray⟩, .int .i64 a1.k.n, .string ⟨a1.k.p.toArray⟩, .int .i64 a1.w.n, .string ⟨a1.w.p.toArray⟩, .slice A1 a1.args.length c1] 63))).keep ((Below.refl _ (w1.alloc (.cells #[.int .i64 a1.op, .string ⟨a1.nm.toArray⟩, .int .i64 a1.k.n, .string ⟨a1.k.p.toArray⟩, .int .i64 a1.w.n, .string ⟨a1.w.p.toArray⟩, .slice A1 a1.args.length c1] 63))).alloc (Nat.le_refl _) (.cells #[.int .i64 0, .string ⟨#[]⟩, .int .i64 0, .string ⟨#[]⟩, .int .i64 0, .string ⟨#[]⟩, .slice (some ⟨w1.heap.size, 0, none⟩) 1 1] 63))).grown hg2 nb0; have mL2 := (box_new2 w1 (.cells #[.int .i64 a1.op, .string ⟨a1.nm.toArray⟩, .int .i64 a1.k.n, .string ⟨a1.k.p.toArray⟩, .int .i64 a1.w.n, .string ⟨a1.w.p.toArray⟩, .slice A1 a1.args.length c1] 63) #[.int .i64 0, .string ⟨#[]⟩, .int .i64 0, .string ⟨#[]⟩, .int .i64 0, .string ⟨#[]⟩, .slice (some ⟨w1.heap.size, 0, none⟩) 1 1] 63).grown hg2 (fun e => by injection e with e; have := hg1.size; omega); have mA2 := ((AT.first (erb_of hv1) hg1.size (.cells #[.int .i64 0, .string ⟨#[]⟩, .int .i64 0, .string ⟨#[]⟩, .int .i64 0, .string ⟨#[]⟩, .slice (some ⟨w1.heap.size, 0, none⟩) 1 1] 63))).grown hg2 hP1)
          | (go_at_call 181; with_reducible refine (HC8.out _ hx2).mono ?_; rintro e w8 ⟨rfl, hg8⟩))
        exact ⟨rfl, Gives.of_no HMM.out ((((((((((HGX.out).trans hg1)).trans (World.grownBy_alloc w1 (.cells #[.int .i64 a1.op, .string ⟨a1.nm.toArray⟩, .int .i64 a1.k.n, .string ⟨a1.k.p.toArray⟩, .int .i64 a1.w.n, .string ⟨a1.w.p.toArray⟩, .slice A1 a1.args.length c1] 63) _))).trans (World.grownBy_alloc (w1.alloc (.cells #[.int .i64 a1.op, .string ⟨a1.nm.toArray⟩, .int .i64 a1.k.n, .string ⟨a1.k.p.toArray⟩, .int .i64 a1.w.n, .string ⟨a1.w.p.toArray⟩, .slice A1 a1.args.length c1] 63)) (.cells #[.int .i64 0, .string ⟨#[]⟩, .int .i64 0, .string ⟨#[]⟩, .int .i64 0, .string ⟨#[]⟩, .slice (some ⟨w1.heap.size, 0, none⟩) 1 1] 63) _))).trans hg2)).trans hg8)⟩
      | ok x8 l8 =>
        have HM8 := Lib.hid (HM2.out.trans (bind_ok hm8))
        have HC8 := Lib.hid (fun W (hW : PX n pb l1 W) => rd_is (g := fun x : Int => .int .i64 x) (operator_any n pb l1 W hW) hW hm8)
        clear hm8 HM2
        go_upto_region 7 with (first
          | (go_at_call 164; refine (HC1.out _ HX.out).mono ?_; rintro e w1 ⟨_, rfl, ⟨A1, c1, rfl, hv1⟩, hx1, hg1⟩; have mR1 := (HM0.out).grown hg1 nb0; have hV1 := (HGX.out).size; have hR1 := (HM0.out).lt; have hP1 := (HX.out).lt)
          | (go_at_call 145; with_reducible refine (HC2.out _ ((((hx1).alloc (.cells #[.int .i64 a1.op, .string ⟨a1.nm.toArray⟩, .int .i64 a1.k.n, .string ⟨a1.k.p.toArray⟩, .int .i64 a1.w.n, .string ⟨a1.w.p.toArray⟩, .slice A1 a1.args.length c1] 63))).alloc (.cells #[.int .i64 0, .string ⟨#[]⟩, .int .i64 0, .string ⟨#[]⟩, .int .i64 0, .string ⟨#[]⟩, .slice (some ⟨w1.heap.size, 0, none⟩) 1 1] 63))).mono ?_; rintro e w2 ⟨rfl, hx2, hg2⟩; have mR2 := (((mR1).keep ((Below.refl _ w1).alloc (Nat.le_refl _) (.cells #[.int .i64 a1.op, .string ⟨a1.nm.toArray⟩, .int .i64 a1.k.n, .string ⟨a1.k.p.toArray⟩, .int .i64 a1.w.n, .string ⟨a1.w.p.toArray⟩, .slice A1 a1.args.length c1] 63))).keep ((Below.refl _ (w1.alloc (.cells #[.int .i64 a1.op, .string ⟨a1.nm.toArray⟩, .int .i64 a1.k.n, .string ⟨a1.k.p.toArray⟩, .int .i64 a1.w.n, .string ⟨a1.w.p.toArray⟩, .slice A1 a1.args.length c1] 63))).alloc (Nat.le_refl _) (.cells #[.int .i64 0, .string ⟨#[]⟩, .int .i64 0, .string ⟨#[]⟩, .int .i64 0, .string ⟨#[]⟩, .slice (some ⟨w1.heap.size, 0, none⟩) 1 1] 63))).grown hg2 nb0; have mL2 := (box_new2 w1 (.cells #[.int .i64 a1.op, .string ⟨a1.nm.toArray⟩, .int .i64 a1.k.n, .string ⟨a1.k.p.toArray⟩, .int .i64 a1.w.n, .string ⟨a1.w.p.toArray⟩, .slice A1 a1.args.length c1] 63) #[.int .i64 0, .string ⟨#[]⟩, .int .i64 0, .string ⟨#[]⟩, .int .i64 0, .string ⟨#[]⟩, .slice (some ⟨w1.heap.size, 0, none⟩) 1 1] 63).grown hg2 (fun e => by injection e with e; have := hg1.size; omega); have mA2 := ((AT.first (erb_of hv1) hg1.size (.cells #[.int .i64 0, .string ⟨#[]⟩, .int .i64 0, .string ⟨#[]⟩, .int .i64 0, .string ⟨#[]⟩, .slice (some ⟨w1.heap.size, 0, none⟩) 1 1] 63))).grown hg2 hP1)
          | (go_at_call 181; with_reducible refine (HC8.out _ hx2).mono ?_; rintro e w8 ⟨rfl, hx8, hg8⟩; have mR8 := (mR2).grown hg8 nb0; have mL8 := (mL2).grown hg8 (fun e => by injection e with e; have := hg1.size; omega); have mA8 := (mA2).grown hg8 hP1; obtain ⟨cL0, cL1, cL2, cL3, cL4, cL5, cL6⟩ := (mL8).c7; obtain ⟨fL0, fL1, fL2, fL3, fL4, fL5, fL6⟩ := (mL8).f7))
        have hl9 := hg1.size
        have hbL9 : w1.heap.size + 1 ≠ b0 := fun e => by omega
        have hwL9 : w.heap.size ≤ w1.heap.size + 1 := by have := hV1; omega
        have hnL9 : n ≤ w1.heap.size + 1 := by have := (HX.out).room; omega
        have mL9 : BoxL (w8.setCell ⟨w1.heap.size + 1, 0, none⟩ (.int .i64 x8)) (w1.heap.size + 1) #[.int .i64 x8, .string ⟨#[]⟩, .int .i64 0, .string ⟨#[]⟩, .int .i64 0, .string ⟨#[]⟩, .slice (some ⟨w1.heap.size, 0, none⟩) 1 1] := by have q := (mL8).set1 (i := 0) (by simp) (.int .i64 x8); simpa using q
        have mR9 := (mR8).far1 hbL9 0 (.int .i64 x8)
        have mA9 := (mA8).set 0 (.int .i64 x8)
        have HX9 := Lib.hid ((hx8).grown (grown_set _ (w1.heap.size + 1) 0 (.int .i64 x8)) (fun g e => by injection e with e; omega))
        have HG9 : Hid (w.grownBy (w8.setCell ⟨w1.heap.size + 1, 0, none⟩ (.int .i64 x8)) (some pb)) := Lib.hid (grown_fresh (W := w) hwL9 [.int .i64 x8] _ 0 (((((((((((HGX.out).trans hg1)).trans (World.grownBy_alloc w1 (.cells #[.int .i64 a1.op, .string ⟨a1.nm.toArray⟩, .int .i64 a1.k.n, .string ⟨a1.k.p.toArray⟩, .int .i64 a1.w.n, .string ⟨a1.w.p.toArray⟩, .slice A1 a1.args.length c1] 63) _))).trans (World.grownBy_alloc (w1.alloc (.cells #[.int .i64 a1.op, .string ⟨a1.nm.toArray⟩, .int .i64 a1.k.n, .string ⟨a1.k.p.toArray⟩, .int .i64 a1.w.n, .string ⟨a1.w.p.toArray⟩, .slice A1 a1.args.length c1] 63)) (.cells #[.int .i64 0, .string ⟨#[]⟩, .int .i64 0, .string ⟨#[]⟩, .int .i64 0, .string ⟨#[]⟩, .slice (some ⟨w1.heap.size, 0, none⟩) 1 1] 63) _))).trans hg2)).trans hg8)))
        clear cL0 fL0 cL1 fL1 cL2 fL2 cL3 fL3 cL4 fL4 cL5 fL5 cL6 fL6
        generalize (w8.setCell ⟨w1.heap.size + 1, 0, none⟩ (.int .i64 x8)) = Y9 at *
        cases hm10 : exprP j l8 with
        | no a =>
          have HMM := Lib.hid (HM8.out.trans (bind_no hm10))
          have HC10 := Lib.hid (fun W (hW : PX n pb l8 W) => rd_no (HIE.out n pb l8 W hW) hm10)
          clear hm10
          have hD10 : Below Y9.heap.size Y9 Y9.drew := (Below.refl _ Y9).drew
          have hxD10 := (HX9.out).below hD10
          have hgD10 := (HG9.out).trans (gb hD10)
          have rD10 := (mR9).keep hD10
          have lD10 := (mL9).keep hD10
          have aD10 := (mA9).kept (grown_below hD10) (fun g e => by cases e)
          refine wp_region_till (fun w' => w'.cell? ⟨w1.heap.size + 1, 6, none⟩ = some (.slice (some ⟨w1.heap.size, 0, none⟩) 1 1)) 8 (by kernel_rfl) lD10.c7.2.2.2.2.2.2 (fun hHeld => ?_)
          clear hD10
          generalize Y9.drew = D10 at *
          refine anyTill.reads (i := 0) rfl (by kernel_rfl) (by kernel_rfl) (by kernel_rfl) (by kernel_rfl) (fun _ _ _ h => h) (by rfl) (v := ?_) ?_ (by assumption) ?_
          rotate_left
          · intro wz hz; (try dsimp only at hz); go_split_ands; go_simp; try with_reducible rfl
          simp only [Act.put, List.setIfInBounds_toArray, List.set_cons_zero, List.set_cons_succ]
          refine anyTill.reads (i := 1) rfl (by kernel_rfl) (by kernel_rfl) (by kernel_rfl) (by kernel_rfl) (fun _ _ _ h => h) (by rfl) (v := ?_) ?_ (by assumption) ?_
          rotate_left
          · intro wz hz; (try dsimp only at hz); go_split_ands; go_simp; try with_reducible rfl
          simp only [Act.put, List.setIfInBounds_toArray, List.set_cons_zero, List.set_cons_succ]
          refine anyTill.reads (i := 2) rfl (by kernel_rfl) (by kernel_rfl) (by kernel_rfl) (by kernel_rfl) (fun _ _ _ h => h) (by rfl) (v := ?_) ?_ (by assumption) ?_
          rotate_left
          · intro wz hz; (try dsimp only at hz); go_split_ands; go_simp; try with_reducible rfl
          simp only [Act.put, List.setIfInBounds_toArray, List.set_cons_zero, List.set_cons_succ]
          refine anyTill.reads (i := 3) rfl (by kernel_rfl) (by kernel_rfl) (by kernel_rfl) (by kernel_rfl) (fun _ _ _ h => h) (by rfl) (v := ?_) ?_ (by assumption) ?_
          rotate_left
          · intro wz hz; (try dsimp only at hz); go_split_ands; go_simp; try with_reducible rfl
          simp only [Act.put, List.setIfInBounds_toArray, List.set_cons_zero, List.set_cons_succ]
          refine anyTill.alone (i := 4) rfl (by kernel_rfl) (by rfl) (fun K hK => ?_)
          go_wp2_with fail
          go_at_call 164
          refine (HC10.out _ hxD10).mono ?_
          rintro e w10 ⟨rfl, hg10⟩
          exact ⟨rfl, Gives.of_no HMM.out (hgD10.trans hg10)⟩
        | ok a10 l10 =>
          have HM10 := Lib.hid (HM8.out.trans (bind_ok hm10))
          have HC10 := Lib.hid (fun W (hW : PX n pb l8 W) => rd_ok (HIE.out n pb l8 W hW) hW hm10)
          clear hm10 HM8
          have hD10 : Below Y9.heap.size Y9 Y9.drew := (Below.refl _ Y9).drew
          have hxD10 := (HX9.out).below hD10
          have hgD10 := (HG9.out).trans (gb hD10)
          have rD10 := (mR9).keep hD10
          have lD10 := (mL9).keep hD10
          have aD10 := (mA9).kept (grown_below hD10) (fun g e => by cases e)
          refine wp_region_till (fun w' => w'.cell? ⟨w1.heap.size + 1, 6, none⟩ = some (.slice (some ⟨w1.heap.size, 0, none⟩) 1 1)) 8 (by kernel_rfl) lD10.c7.2.2.2.2.2.2 (fun hHeld => ?_)
          clear hD10
          generalize Y9.drew = D10 at *
          refine anyTill.reads (i := 0) rfl (by kernel_rfl) (by kernel_rfl) (by kernel_rfl) (by kernel_rfl) (fun _ _ _ h => h) (by rfl) (v := ?_) ?_ (by assumption) ?_
          rotate_left
          · intro wz hz; (try dsimp only at hz); go_split_ands; go_simp; try with_reducible rfl
          simp only [Act.put, List.setIfInBounds_toArray, List.set_cons_zero, List.set_cons_succ]
          refine anyTill.reads (i := 1) rfl (by kernel_rfl) (by kernel_rfl) (by kernel_rfl) (by kernel_rfl) (fun _ _ _ h => h) (by rfl) (v := ?_) ?_ (by assumption) ?_
          rotate_left
          · intro wz hz; (try dsimp only at hz); go_split_ands; go_simp; try with_reducible rfl
          simp only [Act.put, List.setIfInBounds_toArray, List.set_cons_zero, List.set_cons_succ]
          refine anyTill.reads (i := 2) rfl (by kernel_rfl) (by kernel_rfl) (by kernel_rfl) (by kernel_rfl) (fun _ _ _ h => h) (by rfl) (v := ?_) ?_ (by assumption) ?_
          rotate_left
          · intro wz hz; (try dsimp only at hz); go_split_ands; go_simp; try with_reducible rfl
          simp only [Act.put, List.setIfInBounds_toArray, List.set_cons_zero, List.set_cons_succ]
          refine anyTill.reads (i := 3) rfl (by kernel_rfl) (by kernel_rfl) (by kernel_rfl) (by kernel_rfl) (fun _ _ _ h => h) (by rfl) (v := ?_) ?_ (by assumption) ?_
          rotate_left
          · intro wz hz; (try dsimp only at hz); go_split_ands; go_simp; try with_reducible rfl
          simp only [Act.put, List.setIfInBounds_toArray, List.set_cons_zero, List.set_cons_succ]
          refine anyTill.alone (i := 4) rfl (by kernel_rfl) (by rfl) (fun K hK => ?_)
          go_wp2_with fail
          go_at_call 164
          refine (HC10.out _ hxD10).mono ?_
          rintro e w10 ⟨_, rfl, ⟨A10, c10, rfl, hv10⟩, hx10, hg10⟩
          refine hK.out _ _ (fun _ => ?_) (fun hHeld0 => ?_)
          · exact (lD10.grown hg10 (fun e => by injection e with e; have := hg1.size; omega)).c7.2.2.2.2.2.2
          have hHeld := hHeld0 (by decide)
          clear hHeld0
          clear hK K
          try simp only [Act.put, List.setIfInBounds_toArray, List.set_cons_zero, List.set_cons_succ]
          refine anyTill.alone (i := 5) rfl (by kernel_rfl) (by rfl) (fun K hK => ?_)
          refine wp_buildE rfl (by rfl) ?_
          refine hK.out _ _ (fun _ => ?_) (fun hHeld0 => ?_)
          · exact ((lD10.grown hg10 (fun e => by injection e with e; have := hg1.size; omega)).keep ((Below.refl _ w10).alloc (Nat.le_refl _) (.cells #[.int .i64 a10.op, .string ⟨a10.nm.toArray⟩, .int .i64 a10.k.n, .string ⟨a10.k.p.toArray⟩, .int .i64 a10.w.n, .string ⟨a10.w.p.toArray⟩, .slice A10 a10.args.length c10] 63))).c7.2.2.2.2.2.2
          have hHeld := hHeld0 (by decide)
          clear hHeld0
          clear hK K
          try simp only [Act.put, List.setIfInBounds_toArray, List.set_cons_zero, List.set_cons_succ]
          have hl10 := hg1.size
          have hbX10 : X.heap.size ≤ D10.heap.size := by have := lD10.lt; omega
          have lE10 := (lD10.grown hg10 (fun e => by injection e with e; have := hg1.size; omega)).keep ((Below.refl _ w10).alloc (Nat.le_refl _) (.cells #[.int .i64 a10.op, .string ⟨a10.nm.toArray⟩, .int .i64 a10.k.n, .string ⟨a10.k.p.toArray⟩, .int .i64 a10.w.n, .string ⟨a10.w.p.toArray⟩, .slice A10 a10.args.length c10] 63))
          have rE10 := (rD10.grown hg10 nb0).keep ((Below.refl _ w10).alloc (Nat.le_refl _) (.cells #[.int .i64 a10.op, .string ⟨a10.nm.toArray⟩, .int .i64 a10.k.n, .string ⟨a10.k.p.toArray⟩, .int .i64 a10.w.n, .string ⟨a10.w.p.toArray⟩, .slice A10 a10.args.length c10] 63))
          have hxE10 := hx10.alloc (.cells #[.int .i64 a10.op, .string ⟨a10.nm.toArray⟩, .int .i64 a10.k.n, .string ⟨a10.k.p.toArray⟩, .int .i64 a10.w.n, .string ⟨a10.w.p.toArray⟩, .slice A10 a10.args.length c10] 63)
          have hgE10 := (hgD10.trans hg10).trans (World.grownBy_alloc w10 (.cells #[.int .i64 a10.op, .string ⟨a10.nm.toArray⟩, .int .i64 a10.k.n, .string ⟨a10.k.p.toArray⟩, .int .i64 a10.w.n, .string ⟨a10.w.p.toArray⟩, .slice A10 a10.args.length c10] 63) _)
          refine anyTill.alone (i := 6) rfl (by kernel_rfl) (by rfl) (fun K hK => ?_)
          refine wp_append_at _ _ (by rfl) (by rfl) (by rfl) aD10 lD10.lt hbX10 hg10 hP1 hv10 (by simp) ?_
          intro g10 cap10 wx10 mx10 hq10
          obtain ⟨r10, hgx10, hr10⟩ := hq10
          have lF10 := lE10.grown hgx10 (fun e => (hr10 _ e.symm).2 rfl)
          have rF10 := rE10.grown hgx10 (fun e => by have := (hr10 _ e.symm).1; omega)
          refine hK.out _ _ (fun _ => ?_) (fun hHeld0 => ?_)
          · exact lF10.c7.2.2.2.2.2.2
          have hHeld := hHeld0 (by decide)
          clear hHeld0
          clear hK K
          try simp only [Act.put, List.setIfInBounds_toArray, List.set_cons_zero, List.set_cons_succ]
          refine anyTill.alone (i := 7) rfl (by kernel_rfl) (by rfl) (fun K hK => ?_)
          go_simp
          refine hK.out _ _ (fun _ => ?_) (fun hHeld0 => ?_)
          · exact lF10.c7.2.2.2.2.2.2
          have hHeld := hHeld0 (by decide)
          clear hHeld0
          clear hK K
          try simp only [Act.put, List.setIfInBounds_toArray, List.set_cons_zero, List.set_cons_succ]
          obtain ⟨q0, q1, q2, q3, q4, q5, q6⟩ := lF10.c7
          obtain ⟨p0, p1, p2, p3, p4, p5, p6⟩ := lF10.f7
          refine anyTill.alone (i := 8) rfl (by kernel_rfl) (by rfl) (fun K hK => ?_)
          go_simp
          refine hK.out _ _ (fun h => absurd h (by decide)) (fun hHeld => ?_)
          clear hK K
          try simp only [Act.put, List.setIfInBounds_toArray, List.set_cons_zero, List.set_cons_succ]
          refine anyTill.done (by kernel_rfl) ?_ _
          clear hHeld q0 q1 q2 q3 q4 q5 q6 p0 p1 p2 p3 p4 p5 p6
          have hwL10 : w.heap.size ≤ w1.heap.size + 1 := by have := hV1; omega
          have hnL10 : n ≤ w1.heap.size + 1 := by have := (HX.out).room; omega
          have mL10 : BoxL (wx10.setCell ⟨w1.heap.size + 1, 6, none⟩ (.slice (some ⟨g10, 0, none⟩) 2 cap10)) (w1.heap.size + 1) #[.int .i64 x8, .string ⟨#[]⟩, .int .i64 0, .string ⟨#[]⟩, .int .i64 0, .string ⟨#[]⟩, .slice (some ⟨g10, 0, none⟩) 2 cap10] := by have q := lF10.set1 (i := 6) (by simp) (.slice (some ⟨g10, 0, none⟩) 2 cap10); simpa using q
          have mR10 : BoxL (wx10.setCell ⟨w1.heap.size + 1, 6, none⟩ (.slice (some ⟨g10, 0, none⟩) 2 cap10)) _ _ := rF10.far1 (fun e => by omega) 6 (.slice (some ⟨g10, 0, none⟩) 2 cap10)
          have mA10 : AT (wx10.setCell ⟨w1.heap.size + 1, 6, none⟩ (.slice (some ⟨g10, 0, none⟩) 2 cap10)) _ _ _ _ := mx10.set 6 (.slice (some ⟨g10, 0, none⟩) 2 cap10)
          have HX10 : Hid (PX n pb l10 (wx10.setCell ⟨w1.heap.size + 1, 6, none⟩ (.slice (some ⟨g10, 0, none⟩) 2 cap10))) := Lib.hid ((hxE10.grown hgx10 (fun g e => by have := (hr10 g e).1; have := (HX.out).room; omega)).grown (grown_set _ (w1.heap.size + 1) 6 (.slice (some ⟨g10, 0, none⟩) 2 cap10)) (fun g e => by injection e with e; omega))
          have HG10 : Hid (w.grownBy (wx10.setCell ⟨w1.heap.size + 1, 6, none⟩ (.slice (some ⟨g10, 0, none⟩) 2 cap10)) (some pb)) := Lib.hid (grown_fresh (W := w) hwL10 [.slice (some ⟨g10, 0, none⟩) 2 cap10] _ 6 (grown_row hgE10 hgx10 (fun g e => by have := (hr10 g e).1; have := hV1; omega)))
          clear lD10 rD10 aD10 hxD10 hgD10 lE10 rE10 hxE10 hgE10 lF10 rF10 hgx10 hr10 mx10 hv10 hx10 hg10
          generalize (wx10.setCell ⟨w1.heap.size + 1, 6, none⟩ (.slice (some ⟨g10, 0, none⟩) 2 cap10)) = Y10 at *
          cases hm11 : expect s_rpar l10 with
          | no a =>
            have HMM := Lib.hid (HM10.out.trans (bind_no hm11))
            have HC11 := Lib.hid (fun W (hW : PX n pb l10 W) => rd_no (expect_any n pb l10 ⟨#[41]⟩ W hW.ps (by decide)) hm11)
            clear hm11
            go_wp2_with (go_at_call 138; with_reducible refine (HC11.out _ HX10.out).mono ?_; rintro e w11 ⟨rfl, hg11⟩)
            exact ⟨rfl, Gives.of_no HMM.out ((HG10.out).trans hg11)⟩
          | ok u11 l11 =>
            have HM11 := Lib.hid (HM10.out.trans (bind_ok hm11))
            have HC11 := Lib.hid (fun W (hW : PX n pb l10 W) => rd_is (g := fun _ : Unit => Value.tuple #[]) (expect_any n pb l10 ⟨#[41]⟩ W hW.ps (by decide)) hW hm11)
            clear hm11 HM10
            go_wp2_with (go_at_call 138; with_reducible refine (HC11.out _ HX10.out).mono ?_; rintro e w11 ⟨rfl, hx11, hg11⟩; have mR11 := (mR10).grown hg11 nb0; have mL11 := (mL10).grown hg11 (fun e => by injection e with e; have := hg1.size; omega); have mA11 := (mA10).grown hg11 hP1; obtain ⟨cR0, cR1, cR2, cR3, cR4, cR5, cR6⟩ := (mR11).c7; obtain ⟨fR0, fR1, fR2, fR3, fR4, fR5, fR6⟩ := (mR11).f7; obtain ⟨cL0, cL1, cL2, cL3, cL4, cL5, cL6⟩ := (mL11).c7)
            have q := (mR11).s7 (.int .i64 x8) (.string ⟨#[]⟩) (.int .i64 0) (.string ⟨#[]⟩) (.int .i64 0) (.string ⟨#[]⟩) (.slice (some ⟨g10, 0, none⟩) 2 cap10)
            obtain ⟨s0, s1, s2, s3, s4, s5, s6⟩ := q.c7
            exact bodyPost_ret (v := .agg #[.int .i64 x8, .string ⟨#[]⟩, .int .i64 0, .string ⟨#[]⟩, .int .i64 0, .string ⟨#[]⟩, .slice (some ⟨g10, 0, none⟩) 2 cap10]) (by simp [results, Tryz.results176, go_sem, s0, s1, s2, s3, s4, s5, s6]) rfl (give_box [.int .i64 x8, .string ⟨#[]⟩, .int .i64 0, .string ⟨#[]⟩, .int .i64 0, .string ⟨#[]⟩, .slice (some ⟨g10, 0, none⟩) 2 cap10] HM11.out (exprV_at x8 [] num0 num0 mA11 rfl hV1 hR1 _) hx11 HN0.out (((HG10.out).trans hg11)) (Nat.le_of_eq HE0.out.symm))

end Sy
end Go.Proofs.YtggeepimihhpjaaGreatDoor
