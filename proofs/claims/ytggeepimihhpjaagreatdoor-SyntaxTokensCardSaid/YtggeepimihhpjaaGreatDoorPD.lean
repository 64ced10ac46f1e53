/- Expressions in memory. constant. -/
import Derived.Test.YtggeepimihhpjaaGreatDoorPB
namespace Go.Proofs.YtggeepimihhpjaaGreatDoor
open Go.RowKit Go.Shelf Sl Fr Lx
namespace Fr
section
variable {W : World} {b : Nat} {x0 x1 x2 x3 x4 x5 x6 : Value}
theorem BoxL.c7 (h : BoxL W b #[x0, x1, x2, x3, x4, x5, x6]) : W.cell? ⟨b, 0, none⟩ = some x0 ∧ W.cell? ⟨b, 1, none⟩ = some x1 ∧ W.cell? ⟨b, 2, none⟩ = some x2 ∧ W.cell? ⟨b, 3, none⟩ = some x3 ∧ W.cell? ⟨b, 4, none⟩ = some x4 ∧ W.cell? ⟨b, 5, none⟩ = some x5 ∧ W.cell? ⟨b, 6, none⟩ = some x6 := ⟨(h.cells 0 _ rfl).1, (h.cells 1 _ rfl).1, (h.cells 2 _ rfl).1, (h.cells 3 _ rfl).1, (h.cells 4 _ rfl).1, (h.cells 5 _ rfl).1, (h.cells 6 _ rfl).1⟩
theorem BoxL.f7 (h : BoxL W b #[x0, x1, x2, x3, x4, x5, x6]) : W.frozen? ⟨b, 0, none⟩ = false ∧ W.frozen? ⟨b, 1, none⟩ = false ∧ W.frozen? ⟨b, 2, none⟩ = false ∧ W.frozen? ⟨b, 3, none⟩ = false ∧ W.frozen? ⟨b, 4, none⟩ = false ∧ W.frozen? ⟨b, 5, none⟩ = false ∧ W.frozen? ⟨b, 6, none⟩ = false := ⟨(h.cells 0 _ rfl).2, (h.cells 1 _ rfl).2, (h.cells 2 _ rfl).2, (h.cells 3 _ rfl).2, (h.cells 4 _ rfl).2, (h.cells 5 _ rfl).2, (h.cells 6 _ rfl).2⟩
theorem BoxL.s7 (h : BoxL W b #[x0, x1, x2, x3, x4, x5, x6]) (y0 y1 y2 y3 y4 y5 y6 : Value) : BoxL (((((((W.setCell ⟨b, 0, none⟩ y0).setCell ⟨b, 1, none⟩ y1).setCell ⟨b, 2, none⟩ y2).setCell ⟨b, 3, none⟩ y3).setCell ⟨b, 4, none⟩ y4).setCell ⟨b, 5, none⟩ y5).setCell ⟨b, 6, none⟩ y6) b #[y0, y1, y2, y3, y4, y5, y6] := h.setAll [y0, y1, y2, y3, y4, y5, y6] rfl
end
end Fr
namespace Sy
set_option linter.unusedVariables false
set_option linter.unusedSimpArgs false

def ExprT.op : ExprT → Int
  | .mk op _ _ _ _ => op
def ExprT.nm : ExprT → By
  | .mk _ nm _ _ _ => nm
def ExprT.k : ExprT → NumT
  | .mk _ _ k _ _ => k
def ExprT.w : ExprT → NumT
  | .mk _ _ _ w _ => w
def ExprT.args : ExprT → List ExprT
  | .mk _ _ _ _ l => l
def eC (e : ExprT) (A : Option Addr) (c : Nat) : List Value := [.int .i64 e.op, .string ⟨e.nm.toArray⟩, .int .i64 e.k.n, .string ⟨e.k.p.toArray⟩, .int .i64 e.w.n, .string ⟨e.w.p.toArray⟩, .slice A e.args.length c]
mutual
def ER (w : World) (S : Nat → Prop) : ExprT → List Value → Prop
  | .mk op nm k ww args, cs => ∃ A c, cs = eC (.mk op nm k ww args) A c ∧ args.length ≤ c ∧ (args ≠ [] → ∃ b o, A = some ⟨b, o, none⟩ ∧ S b ∧ b < w.heap.size ∧ AR w S b o args)
def AR (w : World) (S : Nat → Prop) (b : Nat) : Nat → List ExprT → Prop
  | o, [] => True
  | o, e :: r => (∃ cs, ER w S e cs ∧ ∀ j u, cs[j]? = some u → w.cell? ⟨b, o + j, none⟩ = some u) ∧ AR w S b (o + 7) r
end
mutual
theorem ER.grown {w w' : World} {S : Nat → Prop} {row : Option Nat} (hg : w.grownBy w' row) (hr : ∀ g, row = some g → ¬ S g) : ∀ (e : ExprT) (cs : List Value), ER w S e cs → ER w' S e cs
  | .mk op nm k ww args, cs, h => by
    unfold ER at h ⊢
    obtain ⟨A, c, h1, h2, h3⟩ := h
    refine ⟨A, c, h1, h2, fun hne => ?_⟩
    obtain ⟨b, o, h4, h5, h6, h7⟩ := h3 hne
    exact ⟨b, o, h4, h5, Nat.lt_of_lt_of_le h6 hg.size, AR.grown hg hr b h5 h6 o args h7⟩
theorem AR.grown {w w' : World} {S : Nat → Prop} {row : Option Nat} (hg : w.grownBy w' row) (hr : ∀ g, row = some g → ¬ S g) (b : Nat) (hb : S b) (hlt : b < w.heap.size) : ∀ (o : Nat) (l : List ExprT), AR w S b o l → AR w' S b o l
  | o, [], h => by unfold AR; trivial
  | o, e :: r, h => by
    unfold AR at h ⊢
    obtain ⟨⟨cs, h1, h2⟩, h3⟩ := h
    exact ⟨⟨cs, ER.grown hg hr e cs h1, fun j u hj => (hg.cell_far ⟨b, o + j, none⟩ hlt (fun e => hr b e.symm hb)).trans (h2 j u hj)⟩, AR.grown hg hr b hb hlt (o + 7) r h3⟩
end
mutual
theorem ER.mono {w : World} {S S' : Nat → Prop} (hs : ∀ b, S b → S' b) : ∀ (e : ExprT) (cs : List Value), ER w S e cs → ER w S' e cs
  | .mk op nm k ww args, cs, h => by
    unfold ER at h ⊢
    obtain ⟨A, c, h1, h2, h3⟩ := h
    refine ⟨A, c, h1, h2, fun hne => ?_⟩
    obtain ⟨b, o, h4, h5, h6, h7⟩ := h3 hne
    exact ⟨b, o, h4, hs b h5, h6, AR.mono hs b o args h7⟩
theorem AR.mono {w : World} {S S' : Nat → Prop} (hs : ∀ b, S b → S' b) (b : Nat) : ∀ (o : Nat) (l : List ExprT), AR w S b o l → AR w S' b o l
  | o, [], h => by unfold AR; trivial
  | o, e :: r, h => by
    unfold AR at h ⊢
    obtain ⟨⟨cs, h1, h2⟩, h3⟩ := h
    exact ⟨⟨cs, ER.mono hs e cs h1, h2⟩, AR.mono hs b (o + 7) r h3⟩
end
theorem ER.out {w : World} {S : Nat → Prop} {e : ExprT} {cs : List Value} (h : ER w S e cs) : ∃ A c, cs = eC e A c ∧ e.args.length ≤ c ∧ (e.args ≠ [] → ∃ b o, A = some ⟨b, o, none⟩ ∧ S b ∧ b < w.heap.size ∧ AR w S b o e.args) := by
  cases e with
  | mk op nm k ww args =>
    unfold ER at h
    exact h
theorem ER.intro {w : World} {S : Nat → Prop} {e : ExprT} {A : Option Addr} {c : Nat} (h1 : e.args.length ≤ c) (h3 : e.args ≠ [] → ∃ b o, A = some ⟨b, o, none⟩ ∧ S b ∧ b < w.heap.size ∧ AR w S b o e.args) : ER w S e (eC e A c) := by
  cases e with
  | mk op nm k ww args =>
    unfold ER
    exact ⟨A, c, rfl, h1, h3⟩
theorem ER.leaf {w : World} {S : Nat → Prop} (op : Int) (nm : By) (k ww : NumT) : ER w S (.mk op nm k ww []) [.int .i64 op, .string ⟨nm.toArray⟩, .int .i64 k.n, .string ⟨k.p.toArray⟩, .int .i64 ww.n, .string ⟨ww.p.toArray⟩, .slice none 0 0] :=
  ER.intro (e := .mk op nm k ww []) (A := none) (c := 0) (Nat.le_refl _) (fun h => absurd rfl h)
def Fresh (w : World) : Nat → Prop := fun b => w.heap.size ≤ b
def ExprV (w : World) : ExprT → World → Value → Prop := fun e w' v => ∃ A c, v = .agg #[.int .i64 e.op, .string ⟨e.nm.toArray⟩, .int .i64 e.k.n, .string ⟨e.k.p.toArray⟩, .int .i64 e.w.n, .string ⟨e.w.p.toArray⟩, .slice A e.args.length c] ∧ ER w' (Fresh w) e (eC e A c)
theorem ExprV.leaf {w w' : World} (op : Int) (nm : By) (k ww : NumT) : ExprV w (.mk op nm k ww []) w' (.agg #[.int .i64 op, .string ⟨nm.toArray⟩, .int .i64 k.n, .string ⟨k.p.toArray⟩, .int .i64 ww.n, .string ⟨ww.p.toArray⟩, .slice none 0 0]) :=
  ⟨none, 0, rfl, ER.leaf op nm k ww⟩
end Sy
end Go.Proofs.YtggeepimihhpjaaGreatDoor

namespace Go.Proofs.YtggeepimihhpjaaGreatDoor
open Go.RowKit Go.Shelf Sl Fr Lx
namespace Sy
set_option linter.unusedVariables false
set_option linter.unusedSimpArgs false

set_option maxRecDepth 100000 in
set_option maxHeartbeats 4000000 in
theorem constant_any (n pb : Nat) (l : List Tk) (w : World) (h : PX n pb l w) :
    Calls Tryz.prog 175 #[.pointer (some ⟨pb, 0, none⟩)] w (Gives n pb l constP (ExprV w) w) := by
  have hlt0 := h.lt
  obtain ⟨m0, bA⟩ := start1 w #[.int .i64 0, .string ⟨#[]⟩, .int .i64 0, .string ⟨#[]⟩, .int .i64 0, .string ⟨#[]⟩, .slice none 0 0] 63
  have hX := h.below bA
  have hgX : w.grownBy _ (some pb) := gb bA
  have nb0 : some w.heap.size ≠ some pb := fun e => by injection e with e; omega
  have HB0 := Lib.hid (Nat.le_refl w.heap.size)
  have HN0 := Lib.hid h.room
  go_enter Tryz.func175, Tryz.ntmps175
  go_upto_region 1 with fail
  generalize w.alloc (.cells #[.int .i64 0, .string ⟨#[]⟩, .int .i64 0, .string ⟨#[]⟩, .int .i64 0, .string ⟨#[]⟩, .slice none 0 0] 63) = X at *
  obtain ⟨b0, hb0⟩ : ∃ b, b = w.heap.size := ⟨_, rfl⟩
  rw [← hb0] at m0 nb0 HN0 ⊢
  have HE0 := Lib.hid hb0
  have HX := Lib.hid hX
  have HM0 := Lib.hid m0
  have HGX := Lib.hid hgX
  have HM := Lib.hid (congrFun constP.eq_1 l)
  clear h bA hX m0 hgX hlt0 hb0
  cases hm1 : numP l with
  | no a =>
    have HMM := Lib.hid (HM.out.trans (bind_no hm1))
    have HC1 := Lib.hid (fun W (hW : PX n pb l W) => rd_no (num_any n pb l W hW) hm1)
    clear hm1
    go_wp2_with (go_at_call 141; with_reducible refine (HC1.out _ HX.out).mono ?_; rintro e w1 ⟨rfl, hg1⟩)
    exact ⟨rfl, Gives.of_no HMM.out ((HGX.out).trans hg1)⟩
  | ok x1 l1 =>
    have HM1 := Lib.hid (HM.out.trans (bind_ok hm1))
    have HC1 := Lib.hid (fun W (hW : PX n pb l W) => rd_is (g := fun x : NumT => .agg #[.int .i64 x.n, .string ⟨x.p.toArray⟩]) (num_any n pb l W hW) hW hm1)
    clear hm1 HM
    cases hm2 : behind s_colon numP l1 with
    | no a =>
      have HMM := Lib.hid (HM1.out.trans (bind_no hm2))
      have HC2 := Lib.hid (fun W (hW : PX n pb l1 W) => rd_no (numBehind_any n pb l1 ⟨#[58]⟩ (by decide) W hW) hm2)
      clear hm2
      go_wp2_with (first
        | (go_at_call 141; with_reducible refine (HC1.out _ HX.out).mono ?_; rintro e w1 ⟨rfl, hx1, hg1⟩; have mR1 := (HM0.out).grown hg1 nb0)
        | (go_at_call 134; with_reducible refine (HC2.out _ hx1).mono ?_; rintro e w2 ⟨rfl, hg2⟩))
      exact ⟨rfl, Gives.of_no HMM.out ((((HGX.out).trans hg1)).trans hg2)⟩
    | ok x2 l2 =>
      have HM2 := Lib.hid (HM1.out.trans (bind_ok hm2))
      have HC2 := Lib.hid (fun W (hW : PX n pb l1 W) => rd_is (g := fun x : NumT => .agg #[.int .i64 x.n, .string ⟨x.p.toArray⟩]) (numBehind_any n pb l1 ⟨#[58]⟩ (by decide) W hW) hW hm2)
      clear hm2 HM1
      cases hm3 : expect s_rsq l2 with
      | no a =>
        have HMM := Lib.hid (HM2.out.trans (bind_no hm3))
        have HC3 := Lib.hid (fun W (hW : PX n pb l2 W) => rd_no (expect_any n pb l2 ⟨#[93]⟩ W hW.ps (by decide)) hm3)
        clear hm3
        go_wp2_with (first
          | (go_at_call 141; with_reducible refine (HC1.out _ HX.out).mono ?_; rintro e w1 ⟨rfl, hx1, hg1⟩; have mR1 := (HM0.out).grown hg1 nb0)
          | (go_at_call 134; with_reducible refine (HC2.out _ hx1).mono ?_; rintro e w2 ⟨rfl, hx2, hg2⟩; have mR2 := (mR1).grown hg2 nb0)
          | (go_at_call 138; with_reducible refine (HC3.out _ ((hx2).alloc (.cells #[.int .i64 1, .string ⟨#[]⟩, .int .i64 x1.n, .string ⟨x1.p.toArray⟩, .int .i64 x2.n, .string ⟨x2.p.toArray⟩, .slice none 0 0] 63))).mono ?_; rintro e w3 ⟨rfl, hg3⟩))
        exact ⟨rfl, Gives.of_no HMM.out ((((((((HGX.out).trans hg1)).trans hg2)).trans (World.grownBy_alloc w2 (.cells #[.int .i64 1, .string ⟨#[]⟩, .int .i64 x1.n, .string ⟨x1.p.toArray⟩, .int .i64 x2.n, .string ⟨x2.p.toArray⟩, .slice none 0 0] 63) _))).trans hg3)⟩
      | ok u3 l3 =>
        have HM3 := Lib.hid (HM2.out.trans (bind_ok hm3))
        have HC3 := Lib.hid (fun W (hW : PX n pb l2 W) => rd_is (g := fun _ : Unit => Value.tuple #[]) (expect_any n pb l2 ⟨#[93]⟩ W hW.ps (by decide)) hW hm3)
        clear hm3 HM2
        go_wp2_with (first
          | (go_at_call 141; with_reducible refine (HC1.out _ HX.out).mono ?_; rintro e w1 ⟨rfl, hx1, hg1⟩; have mR1 := (HM0.out).grown hg1 nb0)
          | (go_at_call 134; with_reducible refine (HC2.out _ hx1).mono ?_; rintro e w2 ⟨rfl, hx2, hg2⟩; have mR2 := (mR1).grown hg2 nb0)
          | (go_at_call 138; with_reducible refine (HC3.out _ ((hx2).alloc (.cells #[.int .i64 1, .string ⟨#[]⟩, .int .i64 x1.n, .string ⟨x1.p.toArray⟩, .int .i64 x2.n, .string ⟨x2.p.toArray⟩, .slice none 0 0] 63))).mono ?_; rintro e w3 ⟨rfl, hx3, hg3⟩; have mR3 := ((mR2).keep ((Below.refl _ w2).alloc (Nat.le_refl _) (.cells #[.int .i64 1, .string ⟨#[]⟩, .int .i64 x1.n, .string ⟨x1.p.toArray⟩, .int .i64 x2.n, .string ⟨x2.p.toArray⟩, .slice none 0 0] 63))).grown hg3 nb0; have mL3 := (BoxL.new w2 #[.int .i64 1, .string ⟨#[]⟩, .int .i64 x1.n, .string ⟨x1.p.toArray⟩, .int .i64 x2.n, .string ⟨x2.p.toArray⟩, .slice none 0 0] 63).grown hg3 (fun e => by injection e with e; have := (hx2).lt; omega); obtain ⟨cR0, cR1, cR2, cR3, cR4, cR5, cR6⟩ := (mR3).c7; obtain ⟨fR0, fR1, fR2, fR3, fR4, fR5, fR6⟩ := (mR3).f7; obtain ⟨cL0, cL1, cL2, cL3, cL4, cL5, cL6⟩ := (mL3).c7))
        have q := (mR3).s7 (.int .i64 1) (.string ⟨#[]⟩) (.int .i64 x1.n) (.string ⟨x1.p.toArray⟩) (.int .i64 x2.n) (.string ⟨x2.p.toArray⟩) (.slice none 0 0)
        obtain ⟨s0, s1, s2, s3, s4, s5, s6⟩ := q.c7
        exact bodyPost_ret (v := .agg #[.int .i64 1, .string ⟨#[]⟩, .int .i64 x1.n, .string ⟨x1.p.toArray⟩, .int .i64 x2.n, .string ⟨x2.p.toArray⟩, .slice none 0 0]) (by simp [results, Tryz.results175, go_sem, s0, s1, s2, s3, s4, s5, s6]) rfl (give_box [.int .i64 1, .string ⟨#[]⟩, .int .i64 x1.n, .string ⟨x1.p.toArray⟩, .int .i64 x2.n, .string ⟨x2.p.toArray⟩, .slice none 0 0] HM3.out (ExprV.leaf _ _ _ _) hx3 HN0.out (((((((((HGX.out).trans hg1)).trans hg2)).trans (World.grownBy_alloc w2 (.cells #[.int .i64 1, .string ⟨#[]⟩, .int .i64 x1.n, .string ⟨x1.p.toArray⟩, .int .i64 x2.n, .string ⟨x2.p.toArray⟩, .slice none 0 0] 63) _))).trans hg3)) (Nat.le_of_eq HE0.out.symm))

end Sy
end Go.Proofs.YtggeepimihhpjaaGreatDoor
