/- resized. -/
import Derived.Test.YtggeepimihhpjaaGreatDoorPE
namespace Go.Proofs.YtggeepimihhpjaaGreatDoor
open Go.RowKit Go.Shelf Sl Fr Lx
namespace Sy
set_option linter.unusedVariables false
set_option linter.unusedSimpArgs false

def Btw (lo hi : Nat) : Nat → Prop := fun b => lo ≤ b ∧ b < hi
mutual
theorem ER.lt {w : World} {S : Nat → Prop} : ∀ (e : ExprT) (cs : List Value), ER w S e cs → ER w (fun b => S b ∧ b < w.heap.size) e cs
  | .mk op nm k ww args, cs, h => by
    unfold ER at h ⊢
    obtain ⟨A, c, h1, h2, h3⟩ := h
    refine ⟨A, c, h1, h2, fun hne => ?_⟩
    obtain ⟨b, o, h4, h5, h6, h7⟩ := h3 hne
    exact ⟨b, o, h4, ⟨h5, h6⟩, h6, AR.lt b o args h7⟩
theorem AR.lt {w : World} {S : Nat → Prop} (b : Nat) : ∀ (o : Nat) (l : List ExprT), AR w S b o l → AR w (fun b => S b ∧ b < w.heap.size) b o l
  | o, [], h => by unfold AR; trivial
  | o, e :: r, h => by
    unfold AR at h ⊢
    obtain ⟨⟨cs, h1, h2⟩, h3⟩ := h
    exact ⟨⟨cs, ER.lt e cs h1, h2⟩, AR.lt b (o + 7) r h3⟩
end
section
variable {W W' V : World} {e : ExprT} {cs : List Value} {lo hi L j pb : Nat} {v : Value}
theorem erb_of (h : ER W (Fresh V) e cs) : ER W (Btw V.heap.size W.heap.size) e cs := ER.mono (fun b hb => ⟨hb.1, hb.2⟩) _ _ (ER.lt _ _ h)
theorem erb_set (h : L < lo ∨ hi ≤ L) (hv : ER W (Btw lo hi) e cs) : ER (W.setCell ⟨L, j, none⟩ v) (Btw lo hi) e cs :=
  ER.grown (grown_set W L j v) (fun g hg hf => by injection hg with hg; subst hg; obtain ⟨h1, h2⟩ := hf; omega) e cs hv
theorem erb_call (h : pb < lo) (hg : W.grownBy W' (some pb)) (hv : ER W (Btw lo hi) e cs) : ER W' (Btw lo hi) e cs :=
  ER.grown hg (fun g hg hf => by injection hg with hg; subst hg; obtain ⟨h1, h2⟩ := hf; omega) e cs hv
theorem erb_alloc (o : Obj) (hv : ER W (Btw lo hi) e cs) : ER (W.alloc o) (Btw lo hi) e cs := ER.grown (World.grownBy_alloc W o none) (fun g hg => by cases hg) e cs hv
theorem erb_setAll {b0 : Nat} (h2 : b0 < lo) : ∀ (vs : List Value) (W : World) (i : Nat), ER W (Btw lo hi) e cs → ER (Fr.setAll b0 W i vs) (Btw lo hi) e cs
  | [], W, i, h => h
  | v :: vs, W, i, h => erb_setAll h2 vs _ _ (erb_set (.inl h2) h)
end
theorem box_new2 (w : World) (o : Obj) (z : Array Value) (T : TypeId) : BoxL ((w.alloc o).alloc (.cells z T)) (w.heap.size + 1) z := by
  have := BoxL.new (w.alloc o) z T
  rwa [World.size_alloc] at this
theorem exprV_argsb {w W1 : World} {a : ExprT} {A : Option Addr} {c b0 bs lo hi : Nat} (op : Int) (nm : By) (k ww : NumT) (hv : ER W1 (Btw lo hi) a (eC a A c)) (hb : BoxL W1 bs #[.int .i64 a.op, .string ⟨a.nm.toArray⟩, .int .i64 a.k.n, .string ⟨a.k.p.toArray⟩, .int .i64 a.w.n, .string ⟨a.w.p.toArray⟩, .slice A a.args.length c])
    (h1 : w.heap.size ≤ lo) (h2 : b0 < lo) (h3 : lo ≤ bs) (vs : List Value) :
    ExprV w (.mk op nm k ww [a]) (Fr.setAll b0 W1 0 vs) (.agg #[.int .i64 op, .string ⟨nm.toArray⟩, .int .i64 k.n, .string ⟨k.p.toArray⟩, .int .i64 ww.n, .string ⟨ww.p.toArray⟩, .slice (some ⟨bs, 0, none⟩) 1 1]) := by
  have hv3 := erb_setAll h2 vs W1 0 hv
  have hb2 := hb.setFar (b := b0) (by omega) vs 0
  refine ⟨some ⟨bs, 0, none⟩, 1, rfl, ER.intro (e := .mk op nm k ww [a]) (Nat.le_refl _) fun _ => ⟨bs, 0, rfl, Nat.le_trans h1 h3, hb2.lt, ?_⟩⟩
  show AR _ _ _ _ [a]
  unfold AR
  refine ⟨⟨eC a A c, ER.mono (fun b hb => Nat.le_trans h1 hb.1) _ _ hv3, fun j u hj => ?_⟩, by unfold AR; trivial⟩
  rw [Nat.zero_add]
  exact (hb2.cells j u (by simpa [eC] using hj)).1

set_option maxRecDepth 100000 in
set_option maxHeartbeats 2000000 in
theorem resized_any (n pb : Nat) (l : List Tk) (j : Nat) (IE : ExpI j) (w : World) (h : PX n pb l w) :
    Calls Tryz.prog 177 #[.pointer (some ⟨pb, 0, none⟩), .int .i64 (j : Int)] w (Gives n pb l (resizedP (exprP j)) (ExprV w) w) := by
  have HIE := Lib.hid IE
  clear IE
  have hlt0 := h.lt
  obtain ⟨m0, bA⟩ := start1 w #[.int .i64 0, .string ⟨#[]⟩, .int .i64 0, .string ⟨#[]⟩, .int .i64 0, .string ⟨#[]⟩, .slice none 0 0] 63
  have hX := h.below bA
  have hgX : w.grownBy _ (some pb) := gb bA
  have nb0 : some w.heap.size ≠ some pb := fun e => by injection e with e; omega
  have HB0 := Lib.hid (Nat.le_refl w.heap.size)
  have HN0 := Lib.hid h.room
  go_enter Tryz.func177, Tryz.ntmps177
  go_upto_region 1 with fail
  generalize w.alloc (.cells #[.int .i64 0, .string ⟨#[]⟩, .int .i64 0, .string ⟨#[]⟩, .int .i64 0, .string ⟨#[]⟩, .slice none 0 0] 63) = X at *
  obtain ⟨b0, hb0⟩ : ∃ b, b = w.heap.size := ⟨_, rfl⟩
  rw [← hb0] at m0 nb0 HN0 ⊢
  have HE0 := Lib.hid hb0
  have HX := Lib.hid hX
  have HM0 := Lib.hid m0
  have HGX := Lib.hid hgX
  have HM := Lib.hid (show resizedP (exprP j) l = _ from congrFun (resizedP.eq_1 (exprP j)) l)
  clear h bA hX m0 hgX hlt0 hb0
  cases hm1 : exprP j l with
  | no a =>
    have HMM := Lib.hid (HM.out.trans (bind_no hm1))
    have HC1 := Lib.hid (fun W (hW : PX n pb l W) => rd_no (HIE.out n pb l W hW) hm1)
    clear hm1
    go_wp2_with (go_at_call 164; with_reducible refine (HC1.out _ HX.out).mono ?_; rintro e w1 ⟨rfl, hg1⟩)
    exact ⟨rfl, Gives.of_no HMM.out ((HGX.out).trans hg1)⟩
  | ok a1 l1 =>
    have HM1 := Lib.hid (HM.out.trans (bind_ok hm1))
    have HC1 := Lib.hid (fun W (hW : PX n pb l W) => rd_ok (HIE.out n pb l W hW) hW hm1)
    clear hm1 HM
    by_cases he2 : (nextT l1).text = s_ats
    · have HM2 := Lib.hid (by have q := HM1.out; rw [bind_ok (show accept s_ats l1 = .ok true (l1).tail from if_pos he2)] at q; simp only [↓reduceIte, Bool.false_eq_true] at q; exact q)
      have HC2 := Lib.hid (fun W (hW : PX n pb l1 W) => accept_yes (z := ⟨#[64]⟩) hW (by decide) he2)
      generalize (l1).tail = l2 at *
      clear HM1
      cases hm3 : numP l2 with
      | no a =>
        have HMM := Lib.hid (HM2.out.trans (bind_no hm3))
        have HC3 := Lib.hid (fun W (hW : PX n pb l2 W) => rd_no (num_any n pb l2 W hW) hm3)
        clear hm3
        go_wp2_with (first
          | (go_at_call 164; refine (HC1.out _ HX.out).mono ?_; rintro e w1 ⟨_, rfl, ⟨A1, c1, rfl, hv1⟩, hx1, hg1⟩; have mR1 := (HM0.out).grown hg1 nb0; have hV1 := (HGX.out).size; have hR1 := (HM0.out).lt; have hP1 := (HX.out).lt)
          | (go_at_call 145; with_reducible refine (HC2.out _ ((((hx1).alloc (.cells #[.int .i64 a1.op, .string ⟨a1.nm.toArray⟩, .int .i64 a1.k.n, .string ⟨a1.k.p.toArray⟩, .int .i64 a1.w.n, .string ⟨a1.w.p.toArray⟩, .slice A1 a1.args.length c1] 63))).alloc (.cells #[.int .i64 13, .string ⟨#[]⟩, .int .i64 0, .string ⟨#[]⟩, .int .i64 0, .string ⟨#[]⟩, .slice (some ⟨w1.heap.size, 0, none⟩) 1 1] 63))).mono ?_; rintro e w2 ⟨rfl, hx2, hg2⟩; have mR2 := (((mR1).keep ((Below.refl _ w1).alloc (Nat.le_refl _) (.cells #[.int .i64 a1.op, .string ⟨a1.nm.toArray⟩, .int .i64 a1.k.n, .string ⟨a1.k.p.toArray⟩, .int .i64 a1.w.n, .string ⟨a1.w.p.toArray⟩, .slice A1 a1.args.length c1] 63))).keep ((Below.refl _ (w1.alloc (.cells #[.int .i64 a1.op, .string ⟨a1.nm.toArray⟩, .int .i64 a1.k.n, .string ⟨a1.k.p.toArray⟩, .int .i64 a1.w.n, .string ⟨a1.w.p.toArray⟩, .slice A1 a1.args.length c1] 63))).alloc (Nat.le_refl _) (.cells #[.int .i64 13, .string ⟨#[]⟩, .int .i64 0, .string ⟨#[]⟩, .int .i64 0, .string ⟨#[]⟩, .slice (some ⟨w1.heap.size, 0, none⟩) 1 1] 63))).grown hg2 nb0; have mL2 := (box_new2 w1 (.cells #[.int .i64 a1.op, .string ⟨a1.nm.toArray⟩, .int .i64 a1.k.n, .string ⟨a1.k.p.toArray⟩, .int .i64 a1.w.n, .string ⟨a1.w.p.toArray⟩, .slice A1 a1.args.length c1] 63) #[.int .i64 13, .string ⟨#[]⟩, .int .i64 0, .string ⟨#[]⟩, .int .i64 0, .string ⟨#[]⟩, .slice (some ⟨w1.heap.size, 0, none⟩) 1 1] 63).grown hg2 (fun e => by injection e with e; have := hg1.size; omega))
          | (go_at_call 141; with_reducible refine (HC3.out _ hx2).mono ?_; rintro e w3 ⟨rfl, hg3⟩))
        exact ⟨rfl, Gives.of_no HMM.out ((((((((((HGX.out).trans hg1)).trans (World.grownBy_alloc w1 (.cells #[.int .i64 a1.op, .string ⟨a1.nm.toArray⟩, .int .i64 a1.k.n, .string ⟨a1.k.p.toArray⟩, .int .i64 a1.w.n, .string ⟨a1.w.p.toArray⟩, .slice A1 a1.args.length c1] 63) _))).trans (World.grownBy_alloc (w1.alloc (.cells #[.int .i64 a1.op, .string ⟨a1.nm.toArray⟩, .int .i64 a1.k.n, .string ⟨a1.k.p.toArray⟩, .int .i64 a1.w.n, .string ⟨a1.w.p.toArray⟩, .slice A1 a1.args.length c1] 63)) (.cells #[.int .i64 13, .string ⟨#[]⟩, .int .i64 0, .string ⟨#[]⟩, .int .i64 0, .string ⟨#[]⟩, .slice (some ⟨w1.heap.size, 0, none⟩) 1 1] 63) _))).trans hg2)).trans hg3)⟩
      | ok x3 l3 =>
        have HM3 := Lib.hid (HM2.out.trans (bind_ok hm3))
        have HC3 := Lib.hid (fun W (hW : PX n pb l2 W) => rd_is (g := fun x : NumT => .agg #[.int .i64 x.n, .string ⟨x.p.toArray⟩]) (num_any n pb l2 W hW) hW hm3)
        clear hm3 HM2
        go_upto_region 4 with (first
          | (go_at_call 164; refine (HC1.out _ HX.out).mono ?_; rintro e w1 ⟨_, rfl, ⟨A1, c1, rfl, hv1⟩, hx1, hg1⟩; have mR1 := (HM0.out).grown hg1 nb0; have hV1 := (HGX.out).size; have hR1 := (HM0.out).lt; have hP1 := (HX.out).lt)
          | (go_at_call 145; with_reducible refine (HC2.out _ ((((hx1).alloc (.cells #[.int .i64 a1.op, .string ⟨a1.nm.toArray⟩, .int .i64 a1.k.n, .string ⟨a1.k.p.toArray⟩, .int .i64 a1.w.n, .string ⟨a1.w.p.toArray⟩, .slice A1 a1.args.length c1] 63))).alloc (.cells #[.int .i64 13, .string ⟨#[]⟩, .int .i64 0, .string ⟨#[]⟩, .int .i64 0, .string ⟨#[]⟩, .slice (some ⟨w1.heap.size, 0, none⟩) 1 1] 63))).mono ?_; rintro e w2 ⟨rfl, hx2, hg2⟩; have mR2 := (((mR1).keep ((Below.refl _ w1).alloc (Nat.le_refl _) (.cells #[.int .i64 a1.op, .string ⟨a1.nm.toArray⟩, .int .i64 a1.k.n, .string ⟨a1.k.p.toArray⟩, .int .i64 a1.w.n, .string ⟨a1.w.p.toArray⟩, .slice A1 a1.args.length c1] 63))).keep ((Below.refl _ (w1.alloc (.cells #[.int .i64 a1.op, .string ⟨a1.nm.toArray⟩, .int .i64 a1.k.n, .string ⟨a1.k.p.toArray⟩, .int .i64 a1.w.n, .string ⟨a1.w.p.toArray⟩, .slice A1 a1.args.length c1] 63))).alloc (Nat.le_refl _) (.cells #[.int .i64 13, .string ⟨#[]⟩, .int .i64 0, .string ⟨#[]⟩, .int .i64 0, .string ⟨#[]⟩, .slice (some ⟨w1.heap.size, 0, none⟩) 1 1] 63))).grown hg2 nb0; have mL2 := (box_new2 w1 (.cells #[.int .i64 a1.op, .string ⟨a1.nm.toArray⟩, .int .i64 a1.k.n, .string ⟨a1.k.p.toArray⟩, .int .i64 a1.w.n, .string ⟨a1.w.p.toArray⟩, .slice A1 a1.args.length c1] 63) #[.int .i64 13, .string ⟨#[]⟩, .int .i64 0, .string ⟨#[]⟩, .int .i64 0, .string ⟨#[]⟩, .slice (some ⟨w1.heap.size, 0, none⟩) 1 1] 63).grown hg2 (fun e => by injection e with e; have := hg1.size; omega))
          | (go_at_call 141; with_reducible refine (HC3.out _ hx2).mono ?_; rintro e w3 ⟨rfl, hx3, hg3⟩; have mR3 := (mR2).grown hg3 nb0; have mL3 := (mL2).grown hg3 (fun e => by injection e with e; have := hg1.size; omega); obtain ⟨cL0, cL1, cL2, cL3, cL4, cL5, cL6⟩ := (mL3).c7; obtain ⟨fL0, fL1, fL2, fL3, fL4, fL5, fL6⟩ := (mL3).f7))
        have hl4 := hg1.size
        have hbL4 : w1.heap.size + 1 ≠ b0 := fun e => by omega
        have hLb4 : w1.heap.size + 1 ≠ w1.heap.size := fun e => by omega
        have hwL4 : w.heap.size ≤ w1.heap.size + 1 := by have := hV1; omega
        have hnL4 : n ≤ w1.heap.size + 1 := by have := (HX.out).room; omega
        have mL4 : BoxL (((w3.setCell ⟨w1.heap.size + 1, 0, none⟩ (.int .i64 12)).setCell ⟨w1.heap.size + 1, 2, none⟩ (.int .i64 x3.n)).setCell ⟨w1.heap.size + 1, 3, none⟩ (.string ⟨x3.p.toArray⟩)) (w1.heap.size + 1) #[.int .i64 12, .string ⟨#[]⟩, .int .i64 x3.n, .string ⟨x3.p.toArray⟩, .int .i64 0, .string ⟨#[]⟩, .slice (some ⟨w1.heap.size, 0, none⟩) 1 1] := by have q := (((mL3).set1 (i := 0) (by simp) (.int .i64 12)).set1 (i := 2) (by simp) (.int .i64 x3.n)).set1 (i := 3) (by simp) (.string ⟨x3.p.toArray⟩); simpa using q
        have mR4 := (((mR3).far1 hbL4 0 (.int .i64 12)).far1 hbL4 2 (.int .i64 x3.n)).far1 hbL4 3 (.string ⟨x3.p.toArray⟩)
        have bx4 := (((((((((BoxL.new w1 #[.int .i64 a1.op, .string ⟨a1.nm.toArray⟩, .int .i64 a1.k.n, .string ⟨a1.k.p.toArray⟩, .int .i64 a1.w.n, .string ⟨a1.w.p.toArray⟩, .slice A1 a1.args.length c1] 63)).keep ((Below.refl _ (w1.alloc (.cells #[.int .i64 a1.op, .string ⟨a1.nm.toArray⟩, .int .i64 a1.k.n, .string ⟨a1.k.p.toArray⟩, .int .i64 a1.w.n, .string ⟨a1.w.p.toArray⟩, .slice A1 a1.args.length c1] 63))).alloc (Nat.le_refl _) (.cells #[.int .i64 13, .string ⟨#[]⟩, .int .i64 0, .string ⟨#[]⟩, .int .i64 0, .string ⟨#[]⟩, .slice (some ⟨w1.heap.size, 0, none⟩) 1 1] 63))).grown hg2 (fun e => by injection e with e; have := hg1.size; omega))).grown hg3 (fun e => by injection e with e; have := hg1.size; omega))).far1 hLb4 0 (.int .i64 12)).far1 hLb4 2 (.int .i64 x3.n)).far1 hLb4 3 (.string ⟨x3.p.toArray⟩)
        have er4 := (erb_set (j := 3) (v := .string ⟨x3.p.toArray⟩) (L := w1.heap.size + 1) (.inr (by omega)) (erb_set (j := 2) (v := .int .i64 x3.n) (L := w1.heap.size + 1) (.inr (by omega)) (erb_set (j := 0) (v := .int .i64 12) (L := w1.heap.size + 1) (.inr (by omega)) (erb_call hP1 hg3 (erb_call hP1 hg2 (erb_alloc (.cells #[.int .i64 13, .string ⟨#[]⟩, .int .i64 0, .string ⟨#[]⟩, .int .i64 0, .string ⟨#[]⟩, .slice (some ⟨w1.heap.size, 0, none⟩) 1 1] 63) (erb_alloc (.cells #[.int .i64 a1.op, .string ⟨a1.nm.toArray⟩, .int .i64 a1.k.n, .string ⟨a1.k.p.toArray⟩, .int .i64 a1.w.n, .string ⟨a1.w.p.toArray⟩, .slice A1 a1.args.length c1] 63) (erb_of hv1))))))))
        have HX4 := Lib.hid ((((hx3).grown (grown_set _ (w1.heap.size + 1) 0 (.int .i64 12)) (fun g e => by injection e with e; omega)).grown (grown_set _ (w1.heap.size + 1) 2 (.int .i64 x3.n)) (fun g e => by injection e with e; omega)).grown (grown_set _ (w1.heap.size + 1) 3 (.string ⟨x3.p.toArray⟩)) (fun g e => by injection e with e; omega))
        have HG4 : Hid (w.grownBy (((w3.setCell ⟨w1.heap.size + 1, 0, none⟩ (.int .i64 12)).setCell ⟨w1.heap.size + 1, 2, none⟩ (.int .i64 x3.n)).setCell ⟨w1.heap.size + 1, 3, none⟩ (.string ⟨x3.p.toArray⟩)) (some pb)) := Lib.hid (grown_fresh (W := w) hwL4 [.string ⟨x3.p.toArray⟩] _ 3 (grown_fresh (W := w) hwL4 [.int .i64 x3.n] _ 2 (grown_fresh (W := w) hwL4 [.int .i64 12] _ 0 (((((((((((HGX.out).trans hg1)).trans (World.grownBy_alloc w1 (.cells #[.int .i64 a1.op, .string ⟨a1.nm.toArray⟩, .int .i64 a1.k.n, .string ⟨a1.k.p.toArray⟩, .int .i64 a1.w.n, .string ⟨a1.w.p.toArray⟩, .slice A1 a1.args.length c1] 63) _))).trans (World.grownBy_alloc (w1.alloc (.cells #[.int .i64 a1.op, .string ⟨a1.nm.toArray⟩, .int .i64 a1.k.n, .string ⟨a1.k.p.toArray⟩, .int .i64 a1.w.n, .string ⟨a1.w.p.toArray⟩, .slice A1 a1.args.length c1] 63)) (.cells #[.int .i64 13, .string ⟨#[]⟩, .int .i64 0, .string ⟨#[]⟩, .int .i64 0, .string ⟨#[]⟩, .slice (some ⟨w1.heap.size, 0, none⟩) 1 1] 63) _))).trans hg2)).trans hg3)))))
        clear cL0 fL0 cL1 fL1 cL2 fL2 cL3 fL3 cL4 fL4 cL5 fL5 cL6 fL6
        generalize (((w3.setCell ⟨w1.heap.size + 1, 0, none⟩ (.int .i64 12)).setCell ⟨w1.heap.size + 1, 2, none⟩ (.int .i64 x3.n)).setCell ⟨w1.heap.size + 1, 3, none⟩ (.string ⟨x3.p.toArray⟩)) = Y4 at *
        cases hm5 : behind s_colon numP l3 with
        | no a =>
          have HMM := Lib.hid (HM3.out.trans (bind_no hm5))
          have HC5 := Lib.hid (fun W (hW : PX n pb l3 W) => rd_no (numBehind_any n pb l3 ⟨#[58]⟩ (by decide) W hW) hm5)
          clear hm5
          go_wp2_with (go_at_call 134; with_reducible refine (HC5.out _ HX4.out).mono ?_; rintro e w5 ⟨rfl, hg5⟩)
          exact ⟨rfl, Gives.of_no HMM.out ((HG4.out).trans hg5)⟩
        | ok x5 l5 =>
          have HM5 := Lib.hid (HM3.out.trans (bind_ok hm5))
          have HC5 := Lib.hid (fun W (hW : PX n pb l3 W) => rd_is (g := fun x : NumT => .agg #[.int .i64 x.n, .string ⟨x.p.toArray⟩]) (numBehind_any n pb l3 ⟨#[58]⟩ (by decide) W hW) hW hm5)
          clear hm5 HM3
          go_upto_region 5 with (go_at_call 134; with_reducible refine (HC5.out _ HX4.out).mono ?_; rintro e w5 ⟨rfl, hx5, hg5⟩; have mR5 := (mR4).grown hg5 nb0; have mL5 := (mL4).grown hg5 (fun e => by injection e with e; have := hg1.size; omega); obtain ⟨cL0, cL1, cL2, cL3, cL4, cL5, cL6⟩ := (mL5).c7; obtain ⟨fL0, fL1, fL2, fL3, fL4, fL5, fL6⟩ := (mL5).f7)
          have hl6 := hg1.size
          have hbL6 : w1.heap.size + 1 ≠ b0 := fun e => by omega
          have hLb6 : w1.heap.size + 1 ≠ w1.heap.size := fun e => by omega
          have hwL6 : w.heap.size ≤ w1.heap.size + 1 := by have := hV1; omega
          have hnL6 : n ≤ w1.heap.size + 1 := by have := (HX.out).room; omega
          have mL6 : BoxL ((w5.setCell ⟨w1.heap.size + 1, 4, none⟩ (.int .i64 x5.n)).setCell ⟨w1.heap.size + 1, 5, none⟩ (.string ⟨x5.p.toArray⟩)) (w1.heap.size + 1) #[.int .i64 12, .string ⟨#[]⟩, .int .i64 x3.n, .string ⟨x3.p.toArray⟩, .int .i64 x5.n, .string ⟨x5.p.toArray⟩, .slice (some ⟨w1.heap.size, 0, none⟩) 1 1] := by have q := ((mL5).set1 (i := 4) (by simp) (.int .i64 x5.n)).set1 (i := 5) (by simp) (.string ⟨x5.p.toArray⟩); simpa using q
          have mR6 := ((mR5).far1 hbL6 4 (.int .i64 x5.n)).far1 hbL6 5 (.string ⟨x5.p.toArray⟩)
          have bx6 := ((((bx4).grown hg5 (fun e => by injection e with e; have := hg1.size; omega))).far1 hLb6 4 (.int .i64 x5.n)).far1 hLb6 5 (.string ⟨x5.p.toArray⟩)
          have er6 := (erb_set (j := 5) (v := .string ⟨x5.p.toArray⟩) (L := w1.heap.size + 1) (.inr (by omega)) (erb_set (j := 4) (v := .int .i64 x5.n) (L := w1.heap.size + 1) (.inr (by omega)) (erb_call hP1 hg5 er4)))
          have HX6 := Lib.hid (((hx5).grown (grown_set _ (w1.heap.size + 1) 4 (.int .i64 x5.n)) (fun g e => by injection e with e; omega)).grown (grown_set _ (w1.heap.size + 1) 5 (.string ⟨x5.p.toArray⟩)) (fun g e => by injection e with e; omega))
          have HG6 : Hid (w.grownBy ((w5.setCell ⟨w1.heap.size + 1, 4, none⟩ (.int .i64 x5.n)).setCell ⟨w1.heap.size + 1, 5, none⟩ (.string ⟨x5.p.toArray⟩)) (some pb)) := Lib.hid (grown_fresh (W := w) hwL6 [.string ⟨x5.p.toArray⟩] _ 5 (grown_fresh (W := w) hwL6 [.int .i64 x5.n] _ 4 (((HG4.out).trans hg5))))
          clear cL0 fL0 cL1 fL1 cL2 fL2 cL3 fL3 cL4 fL4 cL5 fL5 cL6 fL6
          generalize ((w5.setCell ⟨w1.heap.size + 1, 4, none⟩ (.int .i64 x5.n)).setCell ⟨w1.heap.size + 1, 5, none⟩ (.string ⟨x5.p.toArray⟩)) = Y6 at *
          cases hm7 : expect s_rbrc l5 with
          | no a =>
            have HMM := Lib.hid (HM5.out.trans (bind_no hm7))
            have HC7 := Lib.hid (fun W (hW : PX n pb l5 W) => rd_no (expect_any n pb l5 ⟨#[125]⟩ W hW.ps (by decide)) hm7)
            clear hm7
            go_wp2_with (go_at_call 138; with_reducible refine (HC7.out _ HX6.out).mono ?_; rintro e w7 ⟨rfl, hg7⟩)
            exact ⟨rfl, Gives.of_no HMM.out ((HG6.out).trans hg7)⟩
          | ok u7 l7 =>
            have HM7 := Lib.hid (HM5.out.trans (bind_ok hm7))
            have HC7 := Lib.hid (fun W (hW : PX n pb l5 W) => rd_is (g := fun _ : Unit => Value.tuple #[]) (expect_any n pb l5 ⟨#[125]⟩ W hW.ps (by decide)) hW hm7)
            clear hm7 HM5
            go_wp2_with (go_at_call 138; with_reducible refine (HC7.out _ HX6.out).mono ?_; rintro e w7 ⟨rfl, hx7, hg7⟩; have mR7 := (mR6).grown hg7 nb0; have mL7 := (mL6).grown hg7 (fun e => by injection e with e; have := hg1.size; omega); obtain ⟨cR0, cR1, cR2, cR3, cR4, cR5, cR6⟩ := (mR7).c7; obtain ⟨fR0, fR1, fR2, fR3, fR4, fR5, fR6⟩ := (mR7).f7; obtain ⟨cL0, cL1, cL2, cL3, cL4, cL5, cL6⟩ := (mL7).c7)
            have q := (mR7).s7 (.int .i64 12) (.string ⟨#[]⟩) (.int .i64 x3.n) (.string ⟨x3.p.toArray⟩) (.int .i64 x5.n) (.string ⟨x5.p.toArray⟩) (.slice (some ⟨w1.heap.size, 0, none⟩) 1 1)
            obtain ⟨s0, s1, s2, s3, s4, s5, s6⟩ := q.c7
            exact bodyPost_ret (v := .agg #[.int .i64 12, .string ⟨#[]⟩, .int .i64 x3.n, .string ⟨x3.p.toArray⟩, .int .i64 x5.n, .string ⟨x5.p.toArray⟩, .slice (some ⟨w1.heap.size, 0, none⟩) 1 1]) (by simp [results, Tryz.results177, go_sem, s0, s1, s2, s3, s4, s5, s6]) rfl (give_box [.int .i64 12, .string ⟨#[]⟩, .int .i64 x3.n, .string ⟨x3.p.toArray⟩, .int .i64 x5.n, .string ⟨x5.p.toArray⟩, .slice (some ⟨w1.heap.size, 0, none⟩) 1 1] HM7.out (exprV_argsb 12 [] x3 _ (erb_call hP1 hg7 er6) ((bx6).grown hg7 (fun e => by injection e with e; have := hg1.size; omega)) hV1 hR1 hg1.size _) hx7 HN0.out (((HG6.out).trans hg7)) (Nat.le_of_eq HE0.out.symm))
    · have HM2 := Lib.hid (by have q := HM1.out; rw [bind_ok (show accept s_ats l1 = .ok false l1 from if_neg he2)] at q; simp only [↓reduceIte, Bool.false_eq_true] at q; exact q)
      have HC2 := Lib.hid (fun W (hW : PX n pb l1 W) => accept_no (z := ⟨#[64]⟩) hW (by decide) he2)
      clear HM1
      cases hm8 : behind s_colon numP l1 with
      | no a =>
        have HMM := Lib.hid (HM2.out.trans (bind_no hm8))
        have HC8 := Lib.hid (fun W (hW : PX n pb l1 W) => rd_no (numBehind_any n pb l1 ⟨#[58]⟩ (by decide) W hW) hm8)
        clear hm8
        go_wp2_with (first
          | (go_at_call 164; refine (HC1.out _ HX.out).mono ?_; rintro e w1 ⟨_, rfl, ⟨A1, c1, rfl, hv1⟩, hx1, hg1⟩; have mR1 := (HM0.out).grown hg1 nb0; have hV1 := (HGX.out).size; have hR1 := (HM0.out).lt; have hP1 := (HX.out).lt)
          | (go_at_call 145; with_reducible refine (HC2.out _ ((((hx1).alloc (.cells #[.int .i64 a1.op, .string ⟨a1.nm.toArray⟩, .int .i64 a1.k.n, .string ⟨a1.k.p.toArray⟩, .int .i64 a1.w.n, .string ⟨a1.w.p.toArray⟩, .slice A1 a1.args.length c1] 63))).alloc (.cells #[.int .i64 13, .string ⟨#[]⟩, .int .i64 0, .string ⟨#[]⟩, .int .i64 0, .string ⟨#[]⟩, .slice (some ⟨w1.heap.size, 0, none⟩) 1 1] 63))).mono ?_; rintro e w2 ⟨rfl, hx2, hg2⟩; have mR2 := (((mR1).keep ((Below.refl _ w1).alloc (Nat.le_refl _) (.cells #[.int .i64 a1.op, .string ⟨a1.nm.toArray⟩, .int .i64 a1.k.n, .string ⟨a1.k.p.toArray⟩, .int .i64 a1.w.n, .string ⟨a1.w.p.toArray⟩, .slice A1 a1.args.length c1] 63))).keep ((Below.refl _ (w1.alloc (.cells #[.int .i64 a1.op, .string ⟨a1.nm.toArray⟩, .int .i64 a1.k.n, .string ⟨a1.k.p.toArray⟩, .int .i64 a1.w.n, .string ⟨a1.w.p.toArray⟩, .slice A1 a1.args.length c1] 63))).alloc (Nat.le_refl _) (.cells #[.int .i64 13, .string ⟨#[]⟩, .int .i64 0, .string ⟨#[]⟩, .int .i64 0, .string ⟨#[]⟩, .slice (some ⟨w1.heap.size, 0, none⟩) 1 1] 63))).grown hg2 nb0; have mL2 := (box_new2 w1 (.cells #[.int .i64 a1.op, .string ⟨a1.nm.toArray⟩, .int .i64 a1.k.n, .string ⟨a1.k.p.toArray⟩, .int .i64 a1.w.n, .string ⟨a1.w.p.toArray⟩, .slice A1 a1.args.length c1] 63) #[.int .i64 13, .string ⟨#[]⟩, .int .i64 0, .string ⟨#[]⟩, .int .i64 0, .string ⟨#[]⟩, .slice (some ⟨w1.heap.size, 0, none⟩) 1 1] 63).grown hg2 (fun e => by injection e with e; have := hg1.size; omega))
          | (go_at_call 134; with_reducible refine (HC8.out _ hx2).mono ?_; rintro e w8 ⟨rfl, hg8⟩))
        exact ⟨rfl, Gives.of_no HMM.out ((((((((((HGX.out).trans hg1)).trans (World.grownBy_alloc w1 (.cells #[.int .i64 a1.op, .string ⟨a1.nm.toArray⟩, .int .i64 a1.k.n, .string ⟨a1.k.p.toArray⟩, .int .i64 a1.w.n, .string ⟨a1.w.p.toArray⟩, .slice A1 a1.args.length c1] 63) _))).trans (World.grownBy_alloc (w1.alloc (.cells #[.int .i64 a1.op, .string ⟨a1.nm.toArray⟩, .int .i64 a1.k.n, .string ⟨a1.k.p.toArray⟩, .int .i64 a1.w.n, .string ⟨a1.w.p.toArray⟩, .slice A1 a1.args.length c1] 63)) (.cells #[.int .i64 13, .string ⟨#[]⟩, .int .i64 0, .string ⟨#[]⟩, .int .i64 0, .string ⟨#[]⟩, .slice (some ⟨w1.heap.size, 0, none⟩) 1 1] 63) _))).trans hg2)).trans hg8)⟩
      | ok x8 l8 =>
        have HM8 := Lib.hid (HM2.out.trans (bind_ok hm8))
        have HC8 := Lib.hid (fun W (hW : PX n pb l1 W) => rd_is (g := fun x : NumT => .agg #[.int .i64 x.n, .string ⟨x.p.toArray⟩]) (numBehind_any n pb l1 ⟨#[58]⟩ (by decide) W hW) hW hm8)
        clear hm8 HM2
        go_upto_region 5 with (first
          | (go_at_call 164; refine (HC1.out _ HX.out).mono ?_; rintro e w1 ⟨_, rfl, ⟨A1, c1, rfl, hv1⟩, hx1, hg1⟩; have mR1 := (HM0.out).grown hg1 nb0; have hV1 := (HGX.out).size; have hR1 := (HM0.out).lt; have hP1 := (HX.out).lt)
          | (go_at_call 145; with_reducible refine (HC2.out _ ((((hx1).alloc (.cells #[.int .i64 a1.op, .string ⟨a1.nm.toArray⟩, .int .i64 a1.k.n, .string ⟨a1.k.p.toArray⟩, .int .i64 a1.w.n, .string ⟨a1.w.p.toArray⟩, .slice A1 a1.args.length c1] 63))).alloc (.cells #[.int .i64 13, .string ⟨#[]⟩, .int .i64 0, .string ⟨#[]⟩, .int .i64 0, .string ⟨#[]⟩, .slice (some ⟨w1.heap.size, 0, none⟩) 1 1] 63))).mono ?_; rintro e w2 ⟨rfl, hx2, hg2⟩; have mR2 := (((mR1).keep ((Below.refl _ w1).alloc (Nat.le_refl _) (.cells #[.int .i64 a1.op, .string ⟨a1.nm.toArray⟩, .int .i64 a1.k.n, .string ⟨a1.k.p.toArray⟩, .int .i64 a1.w.n, .string ⟨a1.w.p.toArray⟩, .slice A1 a1.args.length c1] 63))).keep ((Below.refl _ (w1.alloc (.cells #[.int .i64 a1.op, .string ⟨a1.nm.toArray⟩, .int .i64 a1.k.n, .string ⟨a1.k.p.toArray⟩, .int .i64 a1.w.n, .string ⟨a1.w.p.toArray⟩, .slice A1 a1.args.length c1] 63))).alloc (Nat.le_refl _) (.cells #[.int .i64 13, .string ⟨#[]⟩, .int .i64 0, .string ⟨#[]⟩, .int .i64 0, .string ⟨#[]⟩, .slice (some ⟨w1.heap.size, 0, none⟩) 1 1] 63))).grown hg2 nb0; have mL2 := (box_new2 w1 (.cells #[.int .i64 a1.op, .string ⟨a1.nm.toArray⟩, .int .i64 a1.k.n, .string ⟨a1.k.p.toArray⟩, .int .i64 a1.w.n, .string ⟨a1.w.p.toArray⟩, .slice A1 a1.args.length c1] 63) #[.int .i64 13, .string ⟨#[]⟩, .int .i64 0, .string ⟨#[]⟩, .int .i64 0, .string ⟨#[]⟩, .slice (some ⟨w1.heap.size, 0, none⟩) 1 1] 63).grown hg2 (fun e => by injection e with e; have := hg1.size; omega))
          | (go_at_call 134; with_reducible refine (HC8.out _ hx2).mono ?_; rintro e w8 ⟨rfl, hx8, hg8⟩; have mR8 := (mR2).grown hg8 nb0; have mL8 := (mL2).grown hg8 (fun e => by injection e with e; have := hg1.size; omega); obtain ⟨cL0, cL1, cL2, cL3, cL4, cL5, cL6⟩ := (mL8).c7; obtain ⟨fL0, fL1, fL2, fL3, fL4, fL5, fL6⟩ := (mL8).f7))
        have hl9 := hg1.size
        have hbL9 : w1.heap.size + 1 ≠ b0 := fun e => by omega
        have hLb9 : w1.heap.size + 1 ≠ w1.heap.size := fun e => by omega
        have hwL9 : w.heap.size ≤ w1.heap.size + 1 := by have := hV1; omega
        have hnL9 : n ≤ w1.heap.size + 1 := by have := (HX.out).room; omega
        have mL9 : BoxL ((w8.setCell ⟨w1.heap.size + 1, 4, none⟩ (.int .i64 x8.n)).setCell ⟨w1.heap.size + 1, 5, none⟩ (.string ⟨x8.p.toArray⟩)) (w1.heap.size + 1) #[.int .i64 13, .string ⟨#[]⟩, .int .i64 0, .string ⟨#[]⟩, .int .i64 x8.n, .string ⟨x8.p.toArray⟩, .slice (some ⟨w1.heap.size, 0, none⟩) 1 1] := by have q := ((mL8).set1 (i := 4) (by simp) (.int .i64 x8.n)).set1 (i := 5) (by simp) (.string ⟨x8.p.toArray⟩); simpa using q
        have mR9 := ((mR8).far1 hbL9 4 (.int .i64 x8.n)).far1 hbL9 5 (.string ⟨x8.p.toArray⟩)
        have bx9 := ((((((((BoxL.new w1 #[.int .i64 a1.op, .string ⟨a1.nm.toArray⟩, .int .i64 a1.k.n, .string ⟨a1.k.p.toArray⟩, .int .i64 a1.w.n, .string ⟨a1.w.p.toArray⟩, .slice A1 a1.args.length c1] 63)).keep ((Below.refl _ (w1.alloc (.cells #[.int .i64 a1.op, .string ⟨a1.nm.toArray⟩, .int .i64 a1.k.n, .string ⟨a1.k.p.toArray⟩, .int .i64 a1.w.n, .string ⟨a1.w.p.toArray⟩, .slice A1 a1.args.length c1] 63))).alloc (Nat.le_refl _) (.cells #[.int .i64 13, .string ⟨#[]⟩, .int .i64 0, .string ⟨#[]⟩, .int .i64 0, .string ⟨#[]⟩, .slice (some ⟨w1.heap.size, 0, none⟩) 1 1] 63))).grown hg2 (fun e => by injection e with e; have := hg1.size; omega))).grown hg8 (fun e => by injection e with e; have := hg1.size; omega))).far1 hLb9 4 (.int .i64 x8.n)).far1 hLb9 5 (.string ⟨x8.p.toArray⟩)
        have er9 := (erb_set (j := 5) (v := .string ⟨x8.p.toArray⟩) (L := w1.heap.size + 1) (.inr (by omega)) (erb_set (j := 4) (v := .int .i64 x8.n) (L := w1.heap.size + 1) (.inr (by omega)) (erb_call hP1 hg8 (erb_call hP1 hg2 (erb_alloc (.cells #[.int .i64 13, .string ⟨#[]⟩, .int .i64 0, .string ⟨#[]⟩, .int .i64 0, .string ⟨#[]⟩, .slice (some ⟨w1.heap.size, 0, none⟩) 1 1] 63) (erb_alloc (.cells #[.int .i64 a1.op, .string ⟨a1.nm.toArray⟩, .int .i64 a1.k.n, .string ⟨a1.k.p.toArray⟩, .int .i64 a1.w.n, .string ⟨a1.w.p.toArray⟩, .slice A1 a1.args.length c1] 63) (erb_of hv1)))))))
        have HX9 := Lib.hid (((hx8).grown (grown_set _ (w1.heap.size + 1) 4 (.int .i64 x8.n)) (fun g e => by injection e with e; omega)).grown (grown_set _ (w1.heap.size + 1) 5 (.string ⟨x8.p.toArray⟩)) (fun g e => by injection e with e; omega))
        have HG9 : Hid (w.grownBy ((w8.setCell ⟨w1.heap.size + 1, 4, none⟩ (.int .i64 x8.n)).setCell ⟨w1.heap.size + 1, 5, none⟩ (.string ⟨x8.p.toArray⟩)) (some pb)) := Lib.hid (grown_fresh (W := w) hwL9 [.string ⟨x8.p.toArray⟩] _ 5 (grown_fresh (W := w) hwL9 [.int .i64 x8.n] _ 4 (((((((((((HGX.out).trans hg1)).trans (World.grownBy_alloc w1 (.cells #[.int .i64 a1.op, .string ⟨a1.nm.toArray⟩, .int .i64 a1.k.n, .string ⟨a1.k.p.toArray⟩, .int .i64 a1.w.n, .string ⟨a1.w.p.toArray⟩, .slice A1 a1.args.length c1] 63) _))).trans (World.grownBy_alloc (w1.alloc (.cells #[.int .i64 a1.op, .string ⟨a1.nm.toArray⟩, .int .i64 a1.k.n, .string ⟨a1.k.p.toArray⟩, .int .i64 a1.w.n, .string ⟨a1.w.p.toArray⟩, .slice A1 a1.args.length c1] 63)) (.cells #[.int .i64 13, .string ⟨#[]⟩, .int .i64 0, .string ⟨#[]⟩, .int .i64 0, .string ⟨#[]⟩, .slice (some ⟨w1.heap.size, 0, none⟩) 1 1] 63) _))).trans hg2)).trans hg8))))
        clear cL0 fL0 cL1 fL1 cL2 fL2 cL3 fL3 cL4 fL4 cL5 fL5 cL6 fL6
        generalize ((w8.setCell ⟨w1.heap.size + 1, 4, none⟩ (.int .i64 x8.n)).setCell ⟨w1.heap.size + 1, 5, none⟩ (.string ⟨x8.p.toArray⟩)) = Y9 at *
        cases hm10 : expect s_rbrc l8 with
        | no a =>
          have HMM := Lib.hid (HM8.out.trans (bind_no hm10))
          have HC10 := Lib.hid (fun W (hW : PX n pb l8 W) => rd_no (expect_any n pb l8 ⟨#[125]⟩ W hW.ps (by decide)) hm10)
          clear hm10
          go_wp2_with (go_at_call 138; with_reducible refine (HC10.out _ HX9.out).mono ?_; rintro e w10 ⟨rfl, hg10⟩)
          exact ⟨rfl, Gives.of_no HMM.out ((HG9.out).trans hg10)⟩
        | ok u10 l10 =>
          have HM10 := Lib.hid (HM8.out.trans (bind_ok hm10))
          have HC10 := Lib.hid (fun W (hW : PX n pb l8 W) => rd_is (g := fun _ : Unit => Value.tuple #[]) (expect_any n pb l8 ⟨#[125]⟩ W hW.ps (by decide)) hW hm10)
          clear hm10 HM8
          go_wp2_with (go_at_call 138; with_reducible refine (HC10.out _ HX9.out).mono ?_; rintro e w10 ⟨rfl, hx10, hg10⟩; have mR10 := (mR9).grown hg10 nb0; have mL10 := (mL9).grown hg10 (fun e => by injection e with e; have := hg1.size; omega); obtain ⟨cR0, cR1, cR2, cR3, cR4, cR5, cR6⟩ := (mR10).c7; obtain ⟨fR0, fR1, fR2, fR3, fR4, fR5, fR6⟩ := (mR10).f7; obtain ⟨cL0, cL1, cL2, cL3, cL4, cL5, cL6⟩ := (mL10).c7)
          have q := (mR10).s7 (.int .i64 13) (.string ⟨#[]⟩) (.int .i64 0) (.string ⟨#[]⟩) (.int .i64 x8.n) (.string ⟨x8.p.toArray⟩) (.slice (some ⟨w1.heap.size, 0, none⟩) 1 1)
          obtain ⟨s0, s1, s2, s3, s4, s5, s6⟩ := q.c7
          exact bodyPost_ret (v := .agg #[.int .i64 13, .string ⟨#[]⟩, .int .i64 0, .string ⟨#[]⟩, .int .i64 x8.n, .string ⟨x8.p.toArray⟩, .slice (some ⟨w1.heap.size, 0, none⟩) 1 1]) (by simp [results, Tryz.results177, go_sem, s0, s1, s2, s3, s4, s5, s6]) rfl (give_box [.int .i64 13, .string ⟨#[]⟩, .int .i64 0, .string ⟨#[]⟩, .int .i64 x8.n, .string ⟨x8.p.toArray⟩, .slice (some ⟨w1.heap.size, 0, none⟩) 1 1] HM10.out (exprV_argsb 13 [] num0 _ (erb_call hP1 hg10 er9) ((bx9).grown hg10 (fun e => by injection e with e; have := hg1.size; omega)) hV1 hR1 hg1.size _) hx10 HN0.out (((HG9.out).trans hg10)) (Nat.le_of_eq HE0.out.symm))

end Sy
end Go.Proofs.YtggeepimihhpjaaGreatDoor
