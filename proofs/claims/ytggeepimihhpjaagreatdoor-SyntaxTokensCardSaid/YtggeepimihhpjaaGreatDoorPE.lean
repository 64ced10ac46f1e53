/- expr: at the depth 1; one deeper, by what operation, resized and expr give. -/
import Derived.Test.YtggeepimihhpjaaGreatDoorPD
namespace Go.Proofs.YtggeepimihhpjaaGreatDoor
open Go.RowKit Go.Shelf Sl Fr Lx
namespace Sy
set_option linter.unusedVariables false
set_option linter.unusedSimpArgs false

def ExpI (k : Nat) : Prop := ∀ (n pb : Nat) (l : List Tk) (w : World), PX n pb l w → Calls Tryz.prog 164 #[.pointer (some ⟨pb, 0, none⟩), .int .i64 (k : Int)] w (Gives n pb l (exprP k) (ExprV w) w)
def OpI (k : Nat) : Prop := ∀ (n pb : Nat) (l : List Tk) (w : World), PX n pb l w → Calls Tryz.prog 176 #[.pointer (some ⟨pb, 0, none⟩), .int .i64 (k : Int)] w (Gives n pb l (operationP (exprP k)) (ExprV w) w)
def ResI (k : Nat) : Prop := ∀ (n pb : Nat) (l : List Tk) (w : World), PX n pb l w → Calls Tryz.prog 177 #[.pointer (some ⟨pb, 0, none⟩), .int .i64 (k : Int)] w (Gives n pb l (resizedP (exprP k)) (ExprV w) w)

theorem refP_some (e : PM ExprT) : refP (some e) = (do
  let nm ← nameP
  if ← accept s_lsq then do
    let a ← e
    expect s_rsq
    pure (.mk 15 nm num0 num0 [a])
  else pure (.mk 14 nm num0 num0 [])) := rfl
theorem ER.setAll {W V : World} {b0 : Nat} (h2 : b0 < V.heap.size) {e : ExprT} {cs : List Value} : ∀ (vs : List Value) (W : World) (i : Nat), ER W (Fresh V) e cs → ER (Fr.setAll b0 W i vs) (Fresh V) e cs
  | [], W, i, h => h
  | v :: vs, W, i, h => ER.setAll (W := W) h2 vs _ _ (ER.grown (grown_set W b0 i v) (fun g hg hf => by injection hg with hg; subst hg; exact absurd hf (by unfold Fresh; omega)) e cs h)
theorem exprV_pass {w V w1 : World} {x : ExprT} {A : Option Addr} {c b0 : Nat} (hv : ER w1 (Fresh V) x (eC x A c)) (h1 : w.heap.size ≤ V.heap.size) (h2 : b0 < V.heap.size) (vs : List Value) :
    ExprV w x (Fr.setAll b0 w1 0 vs) (.agg #[.int .i64 x.op, .string ⟨x.nm.toArray⟩, .int .i64 x.k.n, .string ⟨x.k.p.toArray⟩, .int .i64 x.w.n, .string ⟨x.w.p.toArray⟩, .slice A x.args.length c]) :=
  ⟨A, c, rfl, ER.mono (fun b hb => Nat.le_trans h1 hb) _ _ (ER.setAll (W := w1) h2 vs w1 0 hv)⟩
theorem exprV_one {w V w1 : World} {a : ExprT} {A : Option Addr} {c b0 : Nat} (op : Int) (nm : By) (k ww : NumT) (hv : ER w1 (Fresh V) a (eC a A c)) (h1 : w.heap.size ≤ V.heap.size) (h2 : b0 < V.heap.size) (h3 : V.heap.size ≤ w1.heap.size) (T : TypeId) (vs : List Value) :
    ExprV w (.mk op nm k ww [a]) (Fr.setAll b0 (w1.alloc (.cells #[.int .i64 a.op, .string ⟨a.nm.toArray⟩, .int .i64 a.k.n, .string ⟨a.k.p.toArray⟩, .int .i64 a.w.n, .string ⟨a.w.p.toArray⟩, .slice A a.args.length c] T)) 0 vs)
      (.agg #[.int .i64 op, .string ⟨nm.toArray⟩, .int .i64 k.n, .string ⟨k.p.toArray⟩, .int .i64 ww.n, .string ⟨ww.p.toArray⟩, .slice (some ⟨w1.heap.size, 0, none⟩) 1 1]) := by
  have hv2 : ER (w1.alloc (.cells #[.int .i64 a.op, .string ⟨a.nm.toArray⟩, .int .i64 a.k.n, .string ⟨a.k.p.toArray⟩, .int .i64 a.w.n, .string ⟨a.w.p.toArray⟩, .slice A a.args.length c] T)) (Fresh V) a (eC a A c) := ER.grown (World.grownBy_alloc w1 _ none) (fun g hg => by cases hg) _ _ hv
  have hv3 := ER.setAll (W := w1) h2 vs _ 0 hv2
  have hb := (BoxL.new w1 #[.int .i64 a.op, .string ⟨a.nm.toArray⟩, .int .i64 a.k.n, .string ⟨a.k.p.toArray⟩, .int .i64 a.w.n, .string ⟨a.w.p.toArray⟩, .slice A a.args.length c] T).setFar (b := b0) (by omega) vs 0
  refine ⟨some ⟨w1.heap.size, 0, none⟩, 1, rfl, ER.intro (e := .mk op nm k ww [a]) (Nat.le_refl _) fun _ => ⟨w1.heap.size, 0, rfl, Nat.le_trans h1 h3, hb.lt, ?_⟩⟩
  show AR _ _ _ _ [a]
  unfold AR
  refine ⟨⟨eC a A c, ER.mono (fun b hb => Nat.le_trans h1 hb) _ _ hv3, fun j u hj => ?_⟩, by unfold AR; trivial⟩
  rw [Nat.zero_add]
  exact (hb.cells j u (by simpa [eC] using hj)).1

theorem exprV_args1 {w V W1 : World} {a : ExprT} {A : Option Addr} {c b0 bs : Nat} (op : Int) (nm : By) (k ww : NumT) (hv : ER W1 (Fresh V) a (eC a A c)) (hb : BoxL W1 bs #[.int .i64 a.op, .string ⟨a.nm.toArray⟩, .int .i64 a.k.n, .string ⟨a.k.p.toArray⟩, .int .i64 a.w.n, .string ⟨a.w.p.toArray⟩, .slice A a.args.length c])
    (h1 : w.heap.size ≤ V.heap.size) (h2 : b0 < V.heap.size) (h3 : V.heap.size ≤ bs) (vs : List Value) :
    ExprV w (.mk op nm k ww [a]) (Fr.setAll b0 W1 0 vs) (.agg #[.int .i64 op, .string ⟨nm.toArray⟩, .int .i64 k.n, .string ⟨k.p.toArray⟩, .int .i64 ww.n, .string ⟨ww.p.toArray⟩, .slice (some ⟨bs, 0, none⟩) 1 1]) := by
  have hv3 := ER.setAll (W := W1) h2 vs _ 0 hv
  have hb2 := hb.setFar (b := b0) (by omega) vs 0
  refine ⟨some ⟨bs, 0, none⟩, 1, rfl, ER.intro (e := .mk op nm k ww [a]) (Nat.le_refl _) fun _ => ⟨bs, 0, rfl, Nat.le_trans h1 h3, hb2.lt, ?_⟩⟩
  show AR _ _ _ _ [a]
  unfold AR
  refine ⟨⟨eC a A c, ER.mono (fun b hb => Nat.le_trans h1 hb) _ _ hv3, fun j u hj => ?_⟩, by unfold AR; trivial⟩
  rw [Nat.zero_add]
  exact (hb2.cells j u (by simpa [eC] using hj)).1
theorem er_set {W V : World} {L j : Nat} {v : Value} {e : ExprT} {cs : List Value} (h : L < V.heap.size) (hv : ER W (Fresh V) e cs) : ER (W.setCell ⟨L, j, none⟩ v) (Fresh V) e cs :=
  ER.grown (grown_set W L j v) (fun g hg hf => by injection hg with hg; subst hg; exact absurd hf (by unfold Fresh; omega)) e cs hv
theorem er_call {W W' V : World} {pb : Nat} {e : ExprT} {cs : List Value} (h : pb < V.heap.size) (hg : W.grownBy W' (some pb)) (hv : ER W (Fresh V) e cs) : ER W' (Fresh V) e cs :=
  ER.grown hg (fun g hg hf => by injection hg with hg; subst hg; exact absurd hf (by unfold Fresh; omega)) e cs hv
theorem er_alloc {W V : World} {e : ExprT} {cs : List Value} (o : Obj) (hv : ER W (Fresh V) e cs) : ER (W.alloc o) (Fresh V) e cs := ER.grown (World.grownBy_alloc W o none) (fun g hg => by cases hg) e cs hv

set_option maxRecDepth 100000 in
set_option maxHeartbeats 2000000 in
theorem expr_one (n pb : Nat) (l : List Tk) (w : World) (h : PX n pb l w) :
    Calls Tryz.prog 164 #[.pointer (some ⟨pb, 0, none⟩), .int .i64 1] w (Gives n pb l (exprP 1) (ExprV w) w) := by
  have hlt0 := h.lt
  obtain ⟨m0, bA⟩ := start1 w #[.int .i64 0, .string ⟨#[]⟩, .int .i64 0, .string ⟨#[]⟩, .int .i64 0, .string ⟨#[]⟩, .slice none 0 0] 63
  have hX := h.below bA
  have hgX : w.grownBy _ (some pb) := gb bA
  have nb0 : some w.heap.size ≠ some pb := fun e => by injection e with e; omega
  have HB0 := Lib.hid (Nat.le_refl w.heap.size)
  have HN0 := Lib.hid h.room
  go_enter Tryz.func164, Tryz.ntmps164
  go_upto_region 1 with fail
  generalize w.alloc (.cells #[.int .i64 0, .string ⟨#[]⟩, .int .i64 0, .string ⟨#[]⟩, .int .i64 0, .string ⟨#[]⟩, .slice none 0 0] 63) = X at *
  obtain ⟨b0, hb0⟩ : ∃ b, b = w.heap.size := ⟨_, rfl⟩
  rw [← hb0] at m0 nb0 HN0 ⊢
  have HE0 := Lib.hid hb0
  have HX := Lib.hid hX
  have HM0 := Lib.hid m0
  have HGX := Lib.hid hgX
  have HM := Lib.hid (congrFun exprP.eq_2 l)
  clear h bA hX m0 hgX hlt0 hb0
  by_cases he1 : (nextT l).text = s_lsq
  · have HM1 := Lib.hid (by have q := HM.out; rw [bind_ok (show accept s_lsq l = .ok true (l).tail from if_pos he1)] at q; simp only [↓reduceIte, Bool.false_eq_true] at q; exact q)
    have HC1 := Lib.hid (fun W (hW : PX n pb l W) => accept_yes (z := ⟨#[91]⟩) hW (by decide) he1)
    generalize (l).tail = l1 at *
    clear HM
    cases hm2 : constP l1 with
    | no a =>
      have HMM := Lib.hid (HM1.out.trans hm2)
      have HC2 := Lib.hid (fun W (hW : PX n pb l1 W) => rd_no (constant_any n pb l1 W hW) hm2)
      clear hm2
      go_wp2_with (first
        | (go_at_call 145; with_reducible refine (HC1.out _ HX.out).mono ?_; rintro e w1 ⟨rfl, hx1, hg1⟩; have mR1 := (HM0.out).grown hg1 nb0)
        | (go_at_call 175; with_reducible refine (HC2.out _ hx1).mono ?_; rintro e w2 ⟨rfl, hg2⟩))
      exact ⟨rfl, Gives.of_no HMM.out ((((HGX.out).trans hg1)).trans hg2)⟩
    | ok a2 l2 =>
      have HM2 := Lib.hid (HM1.out.trans hm2)
      have HC2 := Lib.hid (fun W (hW : PX n pb l1 W) => rd_ok (constant_any n pb l1 W hW) hW hm2)
      clear hm2 HM1
      go_wp2_with (first
        | (go_at_call 145; with_reducible refine (HC1.out _ HX.out).mono ?_; rintro e w1 ⟨rfl, hx1, hg1⟩; have mR1 := (HM0.out).grown hg1 nb0)
        | (go_at_call 175; refine (HC2.out _ hx1).mono ?_; rintro e w2 ⟨_, rfl, ⟨A2, c2, rfl, hv2⟩, hx2, hg2⟩; have mR2 := (mR1).grown hg2 nb0; have hV2 := (((HGX.out).trans hg1)).size; have hR2 := (mR1).lt; have hP2 := (hx1).lt; obtain ⟨cR0, cR1, cR2, cR3, cR4, cR5, cR6⟩ := (mR2).c7; obtain ⟨fR0, fR1, fR2, fR3, fR4, fR5, fR6⟩ := (mR2).f7))
      have q := (mR2).s7 (.int .i64 a2.op) (.string ⟨a2.nm.toArray⟩) (.int .i64 a2.k.n) (.string ⟨a2.k.p.toArray⟩) (.int .i64 a2.w.n) (.string ⟨a2.w.p.toArray⟩) (.slice A2 a2.args.length c2)
      obtain ⟨s0, s1, s2, s3, s4, s5, s6⟩ := q.c7
      exact bodyPost_ret (v := .agg #[.int .i64 a2.op, .string ⟨a2.nm.toArray⟩, .int .i64 a2.k.n, .string ⟨a2.k.p.toArray⟩, .int .i64 a2.w.n, .string ⟨a2.w.p.toArray⟩, .slice A2 a2.args.length c2]) (by simp [results, Tryz.results164, go_sem, s0, s1, s2, s3, s4, s5, s6]) rfl (give_box [.int .i64 a2.op, .string ⟨a2.nm.toArray⟩, .int .i64 a2.k.n, .string ⟨a2.k.p.toArray⟩, .int .i64 a2.w.n, .string ⟨a2.w.p.toArray⟩, .slice A2 a2.args.length c2] HM2.out (exprV_pass hv2 hV2 hR2 _) hx2 HN0.out (((((HGX.out).trans hg1)).trans hg2)) (Nat.le_of_eq HE0.out.symm))
  · have HM1 := Lib.hid (by have q := HM.out; rw [bind_ok (show accept s_lsq l = .ok false l from if_neg he1)] at q; simp only [↓reduceIte, Bool.false_eq_true] at q; exact q)
    have HC1 := Lib.hid (fun W (hW : PX n pb l W) => accept_no (z := ⟨#[91]⟩) hW (by decide) he1)
    clear HM
    have q2 := HM1.out
    unfold refP at q2
    have HMr := Lib.hid q2
    clear q2 HM1
    cases hm3 : nameP l with
    | no a =>
      have HMM := Lib.hid (HMr.out.trans (bind_no hm3))
      have HC3 := Lib.hid (fun W (hW : PX n pb l W) => rd_no (name_any n pb l W hW.ps) hm3)
      clear hm3
      go_wp2_with (first
        | (go_at_call 145; with_reducible refine (HC1.out _ HX.out).mono ?_; rintro e w1 ⟨rfl, hx1, hg1⟩; have mR1 := (HM0.out).grown hg1 nb0)
        | (go_at_call 133; with_reducible refine (HC3.out _ hx1).mono ?_; rintro e w3 ⟨rfl, hg3⟩))
      exact ⟨rfl, Gives.of_no HMM.out ((((HGX.out).trans hg1)).trans hg3)⟩
    | ok x3 l3 =>
      have HM3 := Lib.hid (HMr.out.trans (bind_ok hm3))
      have HC3 := Lib.hid (fun W (hW : PX n pb l W) => rd_is (g := fun x : By => .string ⟨x.toArray⟩) (name_any n pb l W hW.ps) hW hm3)
      clear hm3 HMr
      go_wp2_with (first
        | (go_at_call 145; with_reducible refine (HC1.out _ HX.out).mono ?_; rintro e w1 ⟨rfl, hx1, hg1⟩; have mR1 := (HM0.out).grown hg1 nb0)
        | (go_at_call 133; with_reducible refine (HC3.out _ hx1).mono ?_; rintro e w3 ⟨rfl, hx3, hg3⟩; have mR3 := (mR1).grown hg3 nb0; obtain ⟨cR0, cR1, cR2, cR3, cR4, cR5, cR6⟩ := ((mR3).keep ((Below.refl _ w3).alloc (Nat.le_refl _) (.cells #[.int .i64 14, .string ⟨x3.toArray⟩, .int .i64 0, .string ⟨#[]⟩, .int .i64 0, .string ⟨#[]⟩, .slice none 0 0] 63))).c7; obtain ⟨fR0, fR1, fR2, fR3, fR4, fR5, fR6⟩ := ((mR3).keep ((Below.refl _ w3).alloc (Nat.le_refl _) (.cells #[.int .i64 14, .string ⟨x3.toArray⟩, .int .i64 0, .string ⟨#[]⟩, .int .i64 0, .string ⟨#[]⟩, .slice none 0 0] 63))).f7; obtain ⟨cL0, cL1, cL2, cL3, cL4, cL5, cL6⟩ := (BoxL.new w3 #[.int .i64 14, .string ⟨x3.toArray⟩, .int .i64 0, .string ⟨#[]⟩, .int .i64 0, .string ⟨#[]⟩, .slice none 0 0] 63).c7))
      have q := ((mR3).keep ((Below.refl _ w3).alloc (Nat.le_refl _) (.cells #[.int .i64 14, .string ⟨x3.toArray⟩, .int .i64 0, .string ⟨#[]⟩, .int .i64 0, .string ⟨#[]⟩, .slice none 0 0] 63))).s7 (.int .i64 14) (.string ⟨x3.toArray⟩) (.int .i64 0) (.string ⟨#[]⟩) (.int .i64 0) (.string ⟨#[]⟩) (.slice none 0 0)
      obtain ⟨s0, s1, s2, s3, s4, s5, s6⟩ := q.c7
      exact bodyPost_ret (v := .agg #[.int .i64 14, .string ⟨x3.toArray⟩, .int .i64 0, .string ⟨#[]⟩, .int .i64 0, .string ⟨#[]⟩, .slice none 0 0]) (by simp [results, Tryz.results164, go_sem, s0, s1, s2, s3, s4, s5, s6]) rfl (give_box [.int .i64 14, .string ⟨x3.toArray⟩, .int .i64 0, .string ⟨#[]⟩, .int .i64 0, .string ⟨#[]⟩, .slice none 0 0] HM3.out (ExprV.leaf _ _ _ _) ((hx3).alloc (.cells #[.int .i64 14, .string ⟨x3.toArray⟩, .int .i64 0, .string ⟨#[]⟩, .int .i64 0, .string ⟨#[]⟩, .slice none 0 0] 63)) HN0.out (((((((HGX.out).trans hg1)).trans hg3)).trans (World.grownBy_alloc w3 (.cells #[.int .i64 14, .string ⟨x3.toArray⟩, .int .i64 0, .string ⟨#[]⟩, .int .i64 0, .string ⟨#[]⟩, .slice none 0 0] 63) _))) (Nat.le_of_eq HE0.out.symm))

set_option maxRecDepth 100000 in
set_option maxHeartbeats 2000000 in
theorem expr_step (n pb : Nat) (l : List Tk) (m K j : Nat) (hK : K = m + 2) (hj : j = m + 1) (hm8 : m ≤ 10) (IE : ExpI (m + 1)) (IO : OpI (m + 1)) (IR : ResI (m + 1)) (w : World) (h : PX n pb l w) :
    Calls Tryz.prog 164 #[.pointer (some ⟨pb, 0, none⟩), .int .i64 (K : Int)] w (Gives n pb l (exprP (m + 2)) (ExprV w) w) := by
  have hm1 : (1 : Int) < (K : Int) := by omega
  have hsub : (K : Int) - 1 = (j : Int) := by omega
  have HIE := Lib.hid IE
  have HIO := Lib.hid IO
  have HIR := Lib.hid IR
  rw [← hj] at HIE HIO HIR
  have HJ := Lib.hid hj
  have hjb : j ≤ 20 := by omega
  have hKb : K ≤ 20 := by omega
  clear hK hj IE IO IR
  have hlt0 := h.lt
  obtain ⟨m0, bA⟩ := start1 w #[.int .i64 0, .string ⟨#[]⟩, .int .i64 0, .string ⟨#[]⟩, .int .i64 0, .string ⟨#[]⟩, .slice none 0 0] 63
  have hX := h.below bA
  have hgX : w.grownBy _ (some pb) := gb bA
  have nb0 : some w.heap.size ≠ some pb := fun e => by injection e with e; omega
  have HB0 := Lib.hid (Nat.le_refl w.heap.size)
  have HN0 := Lib.hid h.room
  go_enter Tryz.func164, Tryz.ntmps164
  go_upto_region 1 with fail
  generalize w.alloc (.cells #[.int .i64 0, .string ⟨#[]⟩, .int .i64 0, .string ⟨#[]⟩, .int .i64 0, .string ⟨#[]⟩, .slice none 0 0] 63) = X at *
  obtain ⟨b0, hb0⟩ : ∃ b, b = w.heap.size := ⟨_, rfl⟩
  rw [← hb0] at m0 nb0 HN0 ⊢
  have HE0 := Lib.hid hb0
  have HX := Lib.hid hX
  have HM0 := Lib.hid m0
  have HGX := Lib.hid hgX
  have HM := Lib.hid (congrFun (exprP.eq_3 m) l)
  clear h bA hX m0 hgX hlt0 hb0
  have HMj1 := Lib.hid (by have q := HM.out; rw [← HJ.out] at q; exact q)
  clear HM
  by_cases he2 : (nextT l).text = s_lsq
  · have HM2 := Lib.hid (by have q := HMj1.out; rw [bind_ok (show accept s_lsq l = .ok true (l).tail from if_pos he2)] at q; simp only [↓reduceIte, Bool.false_eq_true] at q; exact q)
    have HC2 := Lib.hid (fun W (hW : PX n pb l W) => accept_yes (z := ⟨#[91]⟩) hW (by decide) he2)
    generalize (l).tail = l2 at *
    clear HMj1
    cases hm3 : constP l2 with
    | no a =>
      have HMM := Lib.hid (HM2.out.trans hm3)
      have HC3 := Lib.hid (fun W (hW : PX n pb l2 W) => rd_no (constant_any n pb l2 W hW) hm3)
      clear hm3
      go_wp2_with (first
        | (go_at_call 145; with_reducible refine (HC2.out _ HX.out).mono ?_; rintro e w2 ⟨rfl, hx2, hg2⟩; have mR2 := (HM0.out).grown hg2 nb0)
        | (go_at_call 175; with_reducible refine (HC3.out _ hx2).mono ?_; rintro e w3 ⟨rfl, hg3⟩))
      exact ⟨rfl, Gives.of_no HMM.out ((((HGX.out).trans hg2)).trans hg3)⟩
    | ok a3 l3 =>
      have HM3 := Lib.hid (HM2.out.trans hm3)
      have HC3 := Lib.hid (fun W (hW : PX n pb l2 W) => rd_ok (constant_any n pb l2 W hW) hW hm3)
      clear hm3 HM2
      go_wp2_with (first
        | (go_at_call 145; with_reducible refine (HC2.out _ HX.out).mono ?_; rintro e w2 ⟨rfl, hx2, hg2⟩; have mR2 := (HM0.out).grown hg2 nb0)
        | (go_at_call 175; refine (HC3.out _ hx2).mono ?_; rintro e w3 ⟨_, rfl, ⟨A3, c3, rfl, hv3⟩, hx3, hg3⟩; have mR3 := (mR2).grown hg3 nb0; have hV3 := (((HGX.out).trans hg2)).size; have hR3 := (mR2).lt; have hP3 := (hx2).lt; obtain ⟨cR0, cR1, cR2, cR3, cR4, cR5, cR6⟩ := (mR3).c7; obtain ⟨fR0, fR1, fR2, fR3, fR4, fR5, fR6⟩ := (mR3).f7))
      have q := (mR3).s7 (.int .i64 a3.op) (.string ⟨a3.nm.toArray⟩) (.int .i64 a3.k.n) (.string ⟨a3.k.p.toArray⟩) (.int .i64 a3.w.n) (.string ⟨a3.w.p.toArray⟩) (.slice A3 a3.args.length c3)
      obtain ⟨s0, s1, s2, s3, s4, s5, s6⟩ := q.c7
      exact bodyPost_ret (v := .agg #[.int .i64 a3.op, .string ⟨a3.nm.toArray⟩, .int .i64 a3.k.n, .string ⟨a3.k.p.toArray⟩, .int .i64 a3.w.n, .string ⟨a3.w.p.toArray⟩, .slice A3 a3.args.length c3]) (by simp [results, Tryz.results164, go_sem, s0, s1, s2, s3, s4, s5, s6]) rfl (give_box [.int .i64 a3.op, .string ⟨a3.nm.toArray⟩, .int .i64 a3.k.n, .string ⟨a3.k.p.toArray⟩, .int .i64 a3.w.n, .string ⟨a3.w.p.toArray⟩, .slice A3 a3.args.length c3] HM3.out (exprV_pass hv3 hV3 hR3 _) hx3 HN0.out (((((HGX.out).trans hg2)).trans hg3)) (Nat.le_of_eq HE0.out.symm))
  · have HM2 := Lib.hid (by have q := HMj1.out; rw [bind_ok (show accept s_lsq l = .ok false l from if_neg he2)] at q; simp only [↓reduceIte, Bool.false_eq_true] at q; exact q)
    have HC2 := Lib.hid (fun W (hW : PX n pb l W) => accept_no (z := ⟨#[91]⟩) hW (by decide) he2)
    clear HMj1
    by_cases he4 : (nextT l).text = s_tilde
    · have HM4 := Lib.hid (by have q := HM2.out; rw [bind_ok (show accept s_tilde l = .ok true (l).tail from if_pos he4)] at q; simp only [↓reduceIte, Bool.false_eq_true] at q; exact q)
      have HC4 := Lib.hid (fun W (hW : PX n pb l W) => accept_yes (z := ⟨#[126]⟩) hW (by decide) he4)
      generalize (l).tail = l4 at *
      clear HM2
      cases hm5 : exprP j l4 with
      | no a =>
        have HMM := Lib.hid (HM4.out.trans (bind_no hm5))
        have HC5 := Lib.hid (fun W (hW : PX n pb l4 W) => rd_no (HIE.out n pb l4 W hW) hm5)
        clear hm5
        go_wp2_with (first
          | (go_at_call 145; with_reducible refine (HC2.out _ HX.out).mono ?_; rintro e w2 ⟨rfl, hx2, hg2⟩; have mR2 := (HM0.out).grown hg2 nb0)
          | (go_at_call 145; with_reducible refine (HC4.out _ hx2).mono ?_; rintro e w4 ⟨rfl, hx4, hg4⟩; have mR4 := (mR2).grown hg4 nb0)
          | (go_at_call 164; with_reducible refine (HC5.out _ hx4).mono ?_; rintro e w5 ⟨rfl, hg5⟩))
        exact ⟨rfl, Gives.of_no HMM.out ((((((HGX.out).trans hg2)).trans hg4)).trans hg5)⟩
      | ok a5 l5 =>
        have HM5 := Lib.hid (HM4.out.trans (bind_ok hm5))
        have HC5 := Lib.hid (fun W (hW : PX n pb l4 W) => rd_ok (HIE.out n pb l4 W hW) hW hm5)
        clear hm5 HM4
        go_wp2_with (first
          | (go_at_call 145; with_reducible refine (HC2.out _ HX.out).mono ?_; rintro e w2 ⟨rfl, hx2, hg2⟩; have mR2 := (HM0.out).grown hg2 nb0)
          | (go_at_call 145; with_reducible refine (HC4.out _ hx2).mono ?_; rintro e w4 ⟨rfl, hx4, hg4⟩; have mR4 := (mR2).grown hg4 nb0)
          | (go_at_call 164; refine (HC5.out _ hx4).mono ?_; rintro e w5 ⟨_, rfl, ⟨A5, c5, rfl, hv5⟩, hx5, hg5⟩; have mR5 := (mR4).grown hg5 nb0; have hV5 := (((((HGX.out).trans hg2)).trans hg4)).size; have hR5 := (mR4).lt; have hP5 := (hx4).lt; obtain ⟨cR0, cR1, cR2, cR3, cR4, cR5, cR6⟩ := ((mR5).keep ((Below.refl _ w5).alloc (Nat.le_refl _) (.cells #[.int .i64 a5.op, .string ⟨a5.nm.toArray⟩, .int .i64 a5.k.n, .string ⟨a5.k.p.toArray⟩, .int .i64 a5.w.n, .string ⟨a5.w.p.toArray⟩, .slice A5 a5.args.length c5] 63))).c7; obtain ⟨fR0, fR1, fR2, fR3, fR4, fR5, fR6⟩ := ((mR5).keep ((Below.refl _ w5).alloc (Nat.le_refl _) (.cells #[.int .i64 a5.op, .string ⟨a5.nm.toArray⟩, .int .i64 a5.k.n, .string ⟨a5.k.p.toArray⟩, .int .i64 a5.w.n, .string ⟨a5.w.p.toArray⟩, .slice A5 a5.args.length c5] 63))).f7))
        have q := ((mR5).keep ((Below.refl _ w5).alloc (Nat.le_refl _) (.cells #[.int .i64 a5.op, .string ⟨a5.nm.toArray⟩, .int .i64 a5.k.n, .string ⟨a5.k.p.toArray⟩, .int .i64 a5.w.n, .string ⟨a5.w.p.toArray⟩, .slice A5 a5.args.length c5] 63))).s7 (.int .i64 2) (.string ⟨#[]⟩) (.int .i64 0) (.string ⟨#[]⟩) (.int .i64 0) (.string ⟨#[]⟩) (.slice (some ⟨w5.heap.size, 0, none⟩) 1 1)
        obtain ⟨s0, s1, s2, s3, s4, s5, s6⟩ := q.c7
        exact bodyPost_ret (v := .agg #[.int .i64 2, .string ⟨#[]⟩, .int .i64 0, .string ⟨#[]⟩, .int .i64 0, .string ⟨#[]⟩, .slice (some ⟨w5.heap.size, 0, none⟩) 1 1]) (by simp [results, Tryz.results164, go_sem, s0, s1, s2, s3, s4, s5, s6]) rfl (give_box [.int .i64 2, .string ⟨#[]⟩, .int .i64 0, .string ⟨#[]⟩, .int .i64 0, .string ⟨#[]⟩, .slice (some ⟨w5.heap.size, 0, none⟩) 1 1] HM5.out (exprV_one 2 [] num0 num0 hv5 hV5 hR5 hg5.size _ _) ((hx5).alloc (.cells #[.int .i64 a5.op, .string ⟨a5.nm.toArray⟩, .int .i64 a5.k.n, .string ⟨a5.k.p.toArray⟩, .int .i64 a5.w.n, .string ⟨a5.w.p.toArray⟩, .slice A5 a5.args.length c5] 63)) HN0.out (((((((((HGX.out).trans hg2)).trans hg4)).trans hg5)).trans (World.grownBy_alloc w5 (.cells #[.int .i64 a5.op, .string ⟨a5.nm.toArray⟩, .int .i64 a5.k.n, .string ⟨a5.k.p.toArray⟩, .int .i64 a5.w.n, .string ⟨a5.w.p.toArray⟩, .slice A5 a5.args.length c5] 63) _))) (Nat.le_of_eq HE0.out.symm))
    · have HM4 := Lib.hid (by have q := HM2.out; rw [bind_ok (show accept s_tilde l = .ok false l from if_neg he4)] at q; simp only [↓reduceIte, Bool.false_eq_true] at q; exact q)
      have HC4 := Lib.hid (fun W (hW : PX n pb l W) => accept_no (z := ⟨#[126]⟩) hW (by decide) he4)
      clear HM2
      by_cases he6 : (nextT l).text = s_lpar
      · have HM6 := Lib.hid (by have q := HM4.out; rw [bind_ok (show accept s_lpar l = .ok true (l).tail from if_pos he6)] at q; simp only [↓reduceIte, Bool.false_eq_true] at q; exact q)
        have HC6 := Lib.hid (fun W (hW : PX n pb l W) => accept_yes (z := ⟨#[40]⟩) hW (by decide) he6)
        generalize (l).tail = l6 at *
        clear HM4
        cases hm7 : operationP (exprP j) l6 with
        | no a =>
          have HMM := Lib.hid (HM6.out.trans hm7)
          have HC7 := Lib.hid (fun W (hW : PX n pb l6 W) => rd_no (HIO.out n pb l6 W hW) hm7)
          clear hm7
          go_wp2_with (first
            | (go_at_call 145; with_reducible refine (HC2.out _ HX.out).mono ?_; rintro e w2 ⟨rfl, hx2, hg2⟩; have mR2 := (HM0.out).grown hg2 nb0)
            | (go_at_call 145; with_reducible refine (HC4.out _ hx2).mono ?_; rintro e w4 ⟨rfl, hx4, hg4⟩; have mR4 := (mR2).grown hg4 nb0)
            | (go_at_call 145; with_reducible refine (HC6.out _ hx4).mono ?_; rintro e w6 ⟨rfl, hx6, hg6⟩; have mR6 := (mR4).grown hg6 nb0)
            | (go_at_call 176; with_reducible refine (HC7.out _ hx6).mono ?_; rintro e w7 ⟨rfl, hg7⟩))
          exact ⟨rfl, Gives.of_no HMM.out ((((((((HGX.out).trans hg2)).trans hg4)).trans hg6)).trans hg7)⟩
        | ok a7 l7 =>
          have HM7 := Lib.hid (HM6.out.trans hm7)
          have HC7 := Lib.hid (fun W (hW : PX n pb l6 W) => rd_ok (HIO.out n pb l6 W hW) hW hm7)
          clear hm7 HM6
          go_wp2_with (first
            | (go_at_call 145; with_reducible refine (HC2.out _ HX.out).mono ?_; rintro e w2 ⟨rfl, hx2, hg2⟩; have mR2 := (HM0.out).grown hg2 nb0)
            | (go_at_call 145; with_reducible refine (HC4.out _ hx2).mono ?_; rintro e w4 ⟨rfl, hx4, hg4⟩; have mR4 := (mR2).grown hg4 nb0)
            | (go_at_call 145; with_reducible refine (HC6.out _ hx4).mono ?_; rintro e w6 ⟨rfl, hx6, hg6⟩; have mR6 := (mR4).grown hg6 nb0)
            | (go_at_call 176; refine (HC7.out _ hx6).mono ?_; rintro e w7 ⟨_, rfl, ⟨A7, c7, rfl, hv7⟩, hx7, hg7⟩; have mR7 := (mR6).grown hg7 nb0; have hV7 := (((((((HGX.out).trans hg2)).trans hg4)).trans hg6)).size; have hR7 := (mR6).lt; have hP7 := (hx6).lt; obtain ⟨cR0, cR1, cR2, cR3, cR4, cR5, cR6⟩ := (mR7).c7; obtain ⟨fR0, fR1, fR2, fR3, fR4, fR5, fR6⟩ := (mR7).f7))
          have q := (mR7).s7 (.int .i64 a7.op) (.string ⟨a7.nm.toArray⟩) (.int .i64 a7.k.n) (.string ⟨a7.k.p.toArray⟩) (.int .i64 a7.w.n) (.string ⟨a7.w.p.toArray⟩) (.slice A7 a7.args.length c7)
          obtain ⟨s0, s1, s2, s3, s4, s5, s6⟩ := q.c7
          exact bodyPost_ret (v := .agg #[.int .i64 a7.op, .string ⟨a7.nm.toArray⟩, .int .i64 a7.k.n, .string ⟨a7.k.p.toArray⟩, .int .i64 a7.w.n, .string ⟨a7.w.p.toArray⟩, .slice A7 a7.args.length c7]) (by simp [results, Tryz.results164, go_sem, s0, s1, s2, s3, s4, s5, s6]) rfl (give_box [.int .i64 a7.op, .string ⟨a7.nm.toArray⟩, .int .i64 a7.k.n, .string ⟨a7.k.p.toArray⟩, .int .i64 a7.w.n, .string ⟨a7.w.p.toArray⟩, .slice A7 a7.args.length c7] HM7.out (exprV_pass hv7 hV7 hR7 _) hx7 HN0.out (((((((((HGX.out).trans hg2)).trans hg4)).trans hg6)).trans hg7)) (Nat.le_of_eq HE0.out.symm))
      · have HM6 := Lib.hid (by have q := HM4.out; rw [bind_ok (show accept s_lpar l = .ok false l from if_neg he6)] at q; simp only [↓reduceIte, Bool.false_eq_true] at q; exact q)
        have HC6 := Lib.hid (fun W (hW : PX n pb l W) => accept_no (z := ⟨#[40]⟩) hW (by decide) he6)
        clear HM4
        by_cases he8 : (nextT l).text = s_lbrc
        · have HM8 := Lib.hid (by have q := HM6.out; rw [bind_ok (show accept s_lbrc l = .ok true (l).tail from if_pos he8)] at q; simp only [↓reduceIte, Bool.false_eq_true] at q; exact q)
          have HC8 := Lib.hid (fun W (hW : PX n pb l W) => accept_yes (z := ⟨#[123]⟩) hW (by decide) he8)
          generalize (l).tail = l8 at *
          clear HM6
          cases hm9 : resizedP (exprP j) l8 with
          | no a =>
            have HMM := Lib.hid (HM8.out.trans hm9)
            have HC9 := Lib.hid (fun W (hW : PX n pb l8 W) => rd_no (HIR.out n pb l8 W hW) hm9)
            clear hm9
            go_wp2_with (first
              | (go_at_call 145; with_reducible refine (HC2.out _ HX.out).mono ?_; rintro e w2 ⟨rfl, hx2, hg2⟩; have mR2 := (HM0.out).grown hg2 nb0)
              | (go_at_call 145; with_reducible refine (HC4.out _ hx2).mono ?_; rintro e w4 ⟨rfl, hx4, hg4⟩; have mR4 := (mR2).grown hg4 nb0)
              | (go_at_call 145; with_reducible refine (HC6.out _ hx4).mono ?_; rintro e w6 ⟨rfl, hx6, hg6⟩; have mR6 := (mR4).grown hg6 nb0)
              | (go_at_call 145; with_reducible refine (HC8.out _ hx6).mono ?_; rintro e w8 ⟨rfl, hx8, hg8⟩; have mR8 := (mR6).grown hg8 nb0)
              | (go_at_call 177; with_reducible refine (HC9.out _ hx8).mono ?_; rintro e w9 ⟨rfl, hg9⟩))
            exact ⟨rfl, Gives.of_no HMM.out ((((((((((HGX.out).trans hg2)).trans hg4)).trans hg6)).trans hg8)).trans hg9)⟩
          | ok a9 l9 =>
            have HM9 := Lib.hid (HM8.out.trans hm9)
            have HC9 := Lib.hid (fun W (hW : PX n pb l8 W) => rd_ok (HIR.out n pb l8 W hW) hW hm9)
            clear hm9 HM8
            go_wp2_with (first
              | (go_at_call 145; with_reducible refine (HC2.out _ HX.out).mono ?_; rintro e w2 ⟨rfl, hx2, hg2⟩; have mR2 := (HM0.out).grown hg2 nb0)
              | (go_at_call 145; with_reducible refine (HC4.out _ hx2).mono ?_; rintro e w4 ⟨rfl, hx4, hg4⟩; have mR4 := (mR2).grown hg4 nb0)
              | (go_at_call 145; with_reducible refine (HC6.out _ hx4).mono ?_; rintro e w6 ⟨rfl, hx6, hg6⟩; have mR6 := (mR4).grown hg6 nb0)
              | (go_at_call 145; with_reducible refine (HC8.out _ hx6).mono ?_; rintro e w8 ⟨rfl, hx8, hg8⟩; have mR8 := (mR6).grown hg8 nb0)
              | (go_at_call 177; refine (HC9.out _ hx8).mono ?_; rintro e w9 ⟨_, rfl, ⟨A9, c9, rfl, hv9⟩, hx9, hg9⟩; have mR9 := (mR8).grown hg9 nb0; have hV9 := (((((((((HGX.out).trans hg2)).trans hg4)).trans hg6)).trans hg8)).size; have hR9 := (mR8).lt; have hP9 := (hx8).lt; obtain ⟨cR0, cR1, cR2, cR3, cR4, cR5, cR6⟩ := (mR9).c7; obtain ⟨fR0, fR1, fR2, fR3, fR4, fR5, fR6⟩ := (mR9).f7))
            have q := (mR9).s7 (.int .i64 a9.op) (.string ⟨a9.nm.toArray⟩) (.int .i64 a9.k.n) (.string ⟨a9.k.p.toArray⟩) (.int .i64 a9.w.n) (.string ⟨a9.w.p.toArray⟩) (.slice A9 a9.args.length c9)
            obtain ⟨s0, s1, s2, s3, s4, s5, s6⟩ := q.c7
            exact bodyPost_ret (v := .agg #[.int .i64 a9.op, .string ⟨a9.nm.toArray⟩, .int .i64 a9.k.n, .string ⟨a9.k.p.toArray⟩, .int .i64 a9.w.n, .string ⟨a9.w.p.toArray⟩, .slice A9 a9.args.length c9]) (by simp [results, Tryz.results164, go_sem, s0, s1, s2, s3, s4, s5, s6]) rfl (give_box [.int .i64 a9.op, .string ⟨a9.nm.toArray⟩, .int .i64 a9.k.n, .string ⟨a9.k.p.toArray⟩, .int .i64 a9.w.n, .string ⟨a9.w.p.toArray⟩, .slice A9 a9.args.length c9] HM9.out (exprV_pass hv9 hV9 hR9 _) hx9 HN0.out (((((((((((HGX.out).trans hg2)).trans hg4)).trans hg6)).trans hg8)).trans hg9)) (Nat.le_of_eq HE0.out.symm))
        · have HM8 := Lib.hid (by have q := HM6.out; rw [bind_ok (show accept s_lbrc l = .ok false l from if_neg he8)] at q; simp only [↓reduceIte, Bool.false_eq_true] at q; exact q)
          have HC8 := Lib.hid (fun W (hW : PX n pb l W) => accept_no (z := ⟨#[123]⟩) hW (by decide) he8)
          clear HM6
          have HMr10 := Lib.hid (by have q := HM8.out; rw [refP_some] at q; exact q)
          clear HM8
          cases hm11 : nameP l with
          | no a =>
            have HMM := Lib.hid (HMr10.out.trans (bind_no hm11))
            have HC11 := Lib.hid (fun W (hW : PX n pb l W) => rd_no (name_any n pb l W hW.ps) hm11)
            clear hm11
            go_wp2_with (first
              | (go_at_call 145; with_reducible refine (HC2.out _ HX.out).mono ?_; rintro e w2 ⟨rfl, hx2, hg2⟩; have mR2 := (HM0.out).grown hg2 nb0)
              | (go_at_call 145; with_reducible refine (HC4.out _ hx2).mono ?_; rintro e w4 ⟨rfl, hx4, hg4⟩; have mR4 := (mR2).grown hg4 nb0)
              | (go_at_call 145; with_reducible refine (HC6.out _ hx4).mono ?_; rintro e w6 ⟨rfl, hx6, hg6⟩; have mR6 := (mR4).grown hg6 nb0)
              | (go_at_call 145; with_reducible refine (HC8.out _ hx6).mono ?_; rintro e w8 ⟨rfl, hx8, hg8⟩; have mR8 := (mR6).grown hg8 nb0)
              | (go_at_call 133; with_reducible refine (HC11.out _ hx8).mono ?_; rintro e w11 ⟨rfl, hg11⟩))
            exact ⟨rfl, Gives.of_no HMM.out ((((((((((HGX.out).trans hg2)).trans hg4)).trans hg6)).trans hg8)).trans hg11)⟩
          | ok x11 l11 =>
            have HM11 := Lib.hid (HMr10.out.trans (bind_ok hm11))
            have HC11 := Lib.hid (fun W (hW : PX n pb l W) => rd_is (g := fun x : By => .string ⟨x.toArray⟩) (name_any n pb l W hW.ps) hW hm11)
            clear hm11 HMr10
            by_cases he12 : (nextT l11).text = s_lsq
            · have HM12 := Lib.hid (by have q := HM11.out; rw [bind_ok (show accept s_lsq l11 = .ok true (l11).tail from if_pos he12)] at q; simp only [↓reduceIte, Bool.false_eq_true] at q; exact q)
              have HC12 := Lib.hid (fun W (hW : PX n pb l11 W) => accept_yes (z := ⟨#[91]⟩) hW (by decide) he12)
              generalize (l11).tail = l12 at *
              clear HM11
              cases hm13 : exprP j l12 with
              | no a =>
                have HMM := Lib.hid (HM12.out.trans (bind_no hm13))
                have HC13 := Lib.hid (fun W (hW : PX n pb l12 W) => rd_no (HIE.out n pb l12 W hW) hm13)
                clear hm13
                go_wp2_with (first
                  | (go_at_call 145; with_reducible refine (HC2.out _ HX.out).mono ?_; rintro e w2 ⟨rfl, hx2, hg2⟩; have mR2 := (HM0.out).grown hg2 nb0)
                  | (go_at_call 145; with_reducible refine (HC4.out _ hx2).mono ?_; rintro e w4 ⟨rfl, hx4, hg4⟩; have mR4 := (mR2).grown hg4 nb0)
                  | (go_at_call 145; with_reducible refine (HC6.out _ hx4).mono ?_; rintro e w6 ⟨rfl, hx6, hg6⟩; have mR6 := (mR4).grown hg6 nb0)
                  | (go_at_call 145; with_reducible refine (HC8.out _ hx6).mono ?_; rintro e w8 ⟨rfl, hx8, hg8⟩; have mR8 := (mR6).grown hg8 nb0)
                  | (go_at_call 133; with_reducible refine (HC11.out _ hx8).mono ?_; rintro e w11 ⟨rfl, hx11, hg11⟩; have mR11 := (mR8).grown hg11 nb0)
                  | (go_at_call 145; with_reducible refine (HC12.out _ ((hx11).alloc (.cells #[.int .i64 14, .string ⟨x11.toArray⟩, .int .i64 0, .string ⟨#[]⟩, .int .i64 0, .string ⟨#[]⟩, .slice none 0 0] 63))).mono ?_; rintro e w12 ⟨rfl, hx12, hg12⟩; have mR12 := ((mR11).keep ((Below.refl _ w11).alloc (Nat.le_refl _) (.cells #[.int .i64 14, .string ⟨x11.toArray⟩, .int .i64 0, .string ⟨#[]⟩, .int .i64 0, .string ⟨#[]⟩, .slice none 0 0] 63))).grown hg12 nb0; have mL12 := (BoxL.new w11 #[.int .i64 14, .string ⟨x11.toArray⟩, .int .i64 0, .string ⟨#[]⟩, .int .i64 0, .string ⟨#[]⟩, .slice none 0 0] 63).grown hg12 (fun e => by injection e with e; have := (hx11).lt; omega))
                  | (go_at_call 164; with_reducible refine (HC13.out _ hx12).mono ?_; rintro e w13 ⟨rfl, hg13⟩))
                exact ⟨rfl, Gives.of_no HMM.out ((((((((((((((((HGX.out).trans hg2)).trans hg4)).trans hg6)).trans hg8)).trans hg11)).trans (World.grownBy_alloc w11 (.cells #[.int .i64 14, .string ⟨x11.toArray⟩, .int .i64 0, .string ⟨#[]⟩, .int .i64 0, .string ⟨#[]⟩, .slice none 0 0] 63) _))).trans hg12)).trans hg13)⟩
              | ok a13 l13 =>
                have HM13 := Lib.hid (HM12.out.trans (bind_ok hm13))
                have HC13 := Lib.hid (fun W (hW : PX n pb l12 W) => rd_ok (HIE.out n pb l12 W hW) hW hm13)
                clear hm13 HM12
                go_upto_region 12 with (first
                  | (go_at_call 145; with_reducible refine (HC2.out _ HX.out).mono ?_; rintro e w2 ⟨rfl, hx2, hg2⟩; have mR2 := (HM0.out).grown hg2 nb0)
                  | (go_at_call 145; with_reducible refine (HC4.out _ hx2).mono ?_; rintro e w4 ⟨rfl, hx4, hg4⟩; have mR4 := (mR2).grown hg4 nb0)
                  | (go_at_call 145; with_reducible refine (HC6.out _ hx4).mono ?_; rintro e w6 ⟨rfl, hx6, hg6⟩; have mR6 := (mR4).grown hg6 nb0)
                  | (go_at_call 145; with_reducible refine (HC8.out _ hx6).mono ?_; rintro e w8 ⟨rfl, hx8, hg8⟩; have mR8 := (mR6).grown hg8 nb0)
                  | (go_at_call 133; with_reducible refine (HC11.out _ hx8).mono ?_; rintro e w11 ⟨rfl, hx11, hg11⟩; have mR11 := (mR8).grown hg11 nb0)
                  | (go_at_call 145; with_reducible refine (HC12.out _ ((hx11).alloc (.cells #[.int .i64 14, .string ⟨x11.toArray⟩, .int .i64 0, .string ⟨#[]⟩, .int .i64 0, .string ⟨#[]⟩, .slice none 0 0] 63))).mono ?_; rintro e w12 ⟨rfl, hx12, hg12⟩; have mR12 := ((mR11).keep ((Below.refl _ w11).alloc (Nat.le_refl _) (.cells #[.int .i64 14, .string ⟨x11.toArray⟩, .int .i64 0, .string ⟨#[]⟩, .int .i64 0, .string ⟨#[]⟩, .slice none 0 0] 63))).grown hg12 nb0; have mL12 := (BoxL.new w11 #[.int .i64 14, .string ⟨x11.toArray⟩, .int .i64 0, .string ⟨#[]⟩, .int .i64 0, .string ⟨#[]⟩, .slice none 0 0] 63).grown hg12 (fun e => by injection e with e; have := (hx11).lt; omega))
                  | (go_at_call 164; refine (HC13.out _ hx12).mono ?_; rintro e w13 ⟨_, rfl, ⟨A13, c13, rfl, hv13⟩, hx13, hg13⟩; have mR13 := (mR12).grown hg13 nb0; have mL13 := (mL12).grown hg13 (fun e => by injection e with e; have := (hx11).lt; omega); have hV13 := (((((((((((((((HGX.out).trans hg2)).trans hg4)).trans hg6)).trans hg8)).trans hg11)).trans (World.grownBy_alloc w11 (.cells #[.int .i64 14, .string ⟨x11.toArray⟩, .int .i64 0, .string ⟨#[]⟩, .int .i64 0, .string ⟨#[]⟩, .slice none 0 0] 63) _))).trans hg12)).size; have hR13 := (mR12).lt; have hP13 := (hx12).lt; have hL13 := (mL12).lt; obtain ⟨cL0, cL1, cL2, cL3, cL4, cL5, cL6⟩ := ((mL13).keep ((Below.refl _ w13).alloc (Nat.le_refl _) (.cells #[.int .i64 a13.op, .string ⟨a13.nm.toArray⟩, .int .i64 a13.k.n, .string ⟨a13.k.p.toArray⟩, .int .i64 a13.w.n, .string ⟨a13.w.p.toArray⟩, .slice A13 a13.args.length c13] 63))).c7; obtain ⟨fL0, fL1, fL2, fL3, fL4, fL5, fL6⟩ := ((mL13).keep ((Below.refl _ w13).alloc (Nat.le_refl _) (.cells #[.int .i64 a13.op, .string ⟨a13.nm.toArray⟩, .int .i64 a13.k.n, .string ⟨a13.k.p.toArray⟩, .int .i64 a13.w.n, .string ⟨a13.w.p.toArray⟩, .slice A13 a13.args.length c13] 63))).f7))
                have hpl := (hx12).lt
                have hLb : w11.heap.size ≠ w13.heap.size := fun e => by have := hg13.size; omega
                have hbL : w11.heap.size ≠ b0 := fun e => by have := (mR11).lt; omega
                have hwL : w.heap.size ≤ w11.heap.size := (((((((((((HGX.out).trans hg2)).trans hg4)).trans hg6)).trans hg8)).trans hg11)).size
                have hnL : n ≤ w11.heap.size := (hx11).room
                have mLa := ((mL13).keep ((Below.refl _ w13).alloc (Nat.le_refl _) (.cells #[.int .i64 a13.op, .string ⟨a13.nm.toArray⟩, .int .i64 a13.k.n, .string ⟨a13.k.p.toArray⟩, .int .i64 a13.w.n, .string ⟨a13.w.p.toArray⟩, .slice A13 a13.args.length c13] 63))).set1 (i := 0) (by simp) (.int .i64 15)
                have mLb := mLa.set1 (i := 6) (by simp) (.slice (some ⟨w13.heap.size, 0, none⟩) 1 1)
                have mL9 : BoxL (((w13.alloc (.cells #[.int .i64 a13.op, .string ⟨a13.nm.toArray⟩, .int .i64 a13.k.n, .string ⟨a13.k.p.toArray⟩, .int .i64 a13.w.n, .string ⟨a13.w.p.toArray⟩, .slice A13 a13.args.length c13] 63)).setCell ⟨w11.heap.size, 0, none⟩ (.int .i64 15)).setCell ⟨w11.heap.size, 6, none⟩ (.slice (some ⟨w13.heap.size, 0, none⟩) 1 1)) (w11.heap.size) #[.int .i64 15, .string ⟨x11.toArray⟩, .int .i64 0, .string ⟨#[]⟩, .int .i64 0, .string ⟨#[]⟩, .slice (some ⟨w13.heap.size, 0, none⟩) 1 1] := by simpa using mLb
                have mR9 := (((mR13).keep ((Below.refl _ w13).alloc (Nat.le_refl _) (.cells #[.int .i64 a13.op, .string ⟨a13.nm.toArray⟩, .int .i64 a13.k.n, .string ⟨a13.k.p.toArray⟩, .int .i64 a13.w.n, .string ⟨a13.w.p.toArray⟩, .slice A13 a13.args.length c13] 63))).far1 hbL 0 (.int .i64 15)).far1 hbL 6 (.slice (some ⟨w13.heap.size, 0, none⟩) 1 1)
                have bx9 := ((BoxL.new w13 #[.int .i64 a13.op, .string ⟨a13.nm.toArray⟩, .int .i64 a13.k.n, .string ⟨a13.k.p.toArray⟩, .int .i64 a13.w.n, .string ⟨a13.w.p.toArray⟩, .slice A13 a13.args.length c13] 63).far1 hLb 0 (.int .i64 15)).far1 hLb 6 (.slice (some ⟨w13.heap.size, 0, none⟩) 1 1)
                have hv9 := er_set (j := 6) (v := .slice (some ⟨w13.heap.size, 0, none⟩) 1 1) hL13 (er_set (j := 0) (v := .int .i64 15) hL13 (er_alloc (.cells #[.int .i64 a13.op, .string ⟨a13.nm.toArray⟩, .int .i64 a13.k.n, .string ⟨a13.k.p.toArray⟩, .int .i64 a13.w.n, .string ⟨a13.w.p.toArray⟩, .slice A13 a13.args.length c13] 63) hv13))
                have hx9 := ((((hx13).alloc (.cells #[.int .i64 a13.op, .string ⟨a13.nm.toArray⟩, .int .i64 a13.k.n, .string ⟨a13.k.p.toArray⟩, .int .i64 a13.w.n, .string ⟨a13.w.p.toArray⟩, .slice A13 a13.args.length c13] 63))).grown (grown_set _ (w11.heap.size) 0 (.int .i64 15)) (fun g e => by injection e with e; omega)).grown (grown_set _ (w11.heap.size) 6 (.slice (some ⟨w13.heap.size, 0, none⟩) 1 1)) (fun g e => by injection e with e; omega)
                have hg9 := grown_fresh (W := w) hwL [.slice (some ⟨w13.heap.size, 0, none⟩) 1 1] _ 6 (grown_fresh (W := w) hwL [.int .i64 15] _ 0 (((((((((((((((((((HGX.out).trans hg2)).trans hg4)).trans hg6)).trans hg8)).trans hg11)).trans (World.grownBy_alloc w11 (.cells #[.int .i64 14, .string ⟨x11.toArray⟩, .int .i64 0, .string ⟨#[]⟩, .int .i64 0, .string ⟨#[]⟩, .slice none 0 0] 63) _))).trans hg12)).trans hg13)).trans (World.grownBy_alloc w13 (.cells #[.int .i64 a13.op, .string ⟨a13.nm.toArray⟩, .int .i64 a13.k.n, .string ⟨a13.k.p.toArray⟩, .int .i64 a13.w.n, .string ⟨a13.w.p.toArray⟩, .slice A13 a13.args.length c13] 63) _))))
                have HX9 := Lib.hid hx9
                have HG9 : Hid (w.grownBy (((w13.alloc (.cells #[.int .i64 a13.op, .string ⟨a13.nm.toArray⟩, .int .i64 a13.k.n, .string ⟨a13.k.p.toArray⟩, .int .i64 a13.w.n, .string ⟨a13.w.p.toArray⟩, .slice A13 a13.args.length c13] 63)).setCell ⟨w11.heap.size, 0, none⟩ (.int .i64 15)).setCell ⟨w11.heap.size, 6, none⟩ (.slice (some ⟨w13.heap.size, 0, none⟩) 1 1)) (some pb)) := Lib.hid hg9
                have HV9 := Lib.hid hv9
                have BX9 := Lib.hid bx9
                have hbs9 := hg13.size
                clear hx9 hg9 hv9 bx9 mLa mLb cL0 fL0 cL1 fL1 cL2 fL2 cL3 fL3 cL4 fL4 cL5 fL5 cL6 fL6
                generalize ((w13.alloc (.cells #[.int .i64 a13.op, .string ⟨a13.nm.toArray⟩, .int .i64 a13.k.n, .string ⟨a13.k.p.toArray⟩, .int .i64 a13.w.n, .string ⟨a13.w.p.toArray⟩, .slice A13 a13.args.length c13] 63)).setCell ⟨w11.heap.size, 0, none⟩ (.int .i64 15)).setCell ⟨w11.heap.size, 6, none⟩ (.slice (some ⟨w13.heap.size, 0, none⟩) 1 1) = Y at *
                cases hm14 : expect s_rsq l13 with
                | no a =>
                  have HMM := Lib.hid (HM13.out.trans (bind_no hm14))
                  have HC14 := Lib.hid (fun W (hW : PX n pb l13 W) => rd_no (expect_any n pb l13 ⟨#[93]⟩ W hW.ps (by decide)) hm14)
                  clear hm14
                  go_wp2_with (go_at_call 138; with_reducible refine (HC14.out _ HX9.out).mono ?_; rintro e w14 ⟨rfl, hg14⟩)
                  exact ⟨rfl, Gives.of_no HMM.out ((HG9.out).trans hg14)⟩
                | ok u14 l14 =>
                  have HM14 := Lib.hid (HM13.out.trans (bind_ok hm14))
                  have HC14 := Lib.hid (fun W (hW : PX n pb l13 W) => rd_is (g := fun _ : Unit => Value.tuple #[]) (expect_any n pb l13 ⟨#[93]⟩ W hW.ps (by decide)) hW hm14)
                  clear hm14 HM13
                  go_wp2_with (go_at_call 138; with_reducible refine (HC14.out _ HX9.out).mono ?_; rintro e w14 ⟨rfl, hx14, hg14⟩; have mR14 := (mR9).grown hg14 nb0; have mL14 := (mL9).grown hg14 (fun e => by injection e with e; have := (hx11).lt; omega); obtain ⟨cR0, cR1, cR2, cR3, cR4, cR5, cR6⟩ := (mR14).c7; obtain ⟨fR0, fR1, fR2, fR3, fR4, fR5, fR6⟩ := (mR14).f7; obtain ⟨cL0, cL1, cL2, cL3, cL4, cL5, cL6⟩ := (mL14).c7)
                  have q := (mR14).s7 (.int .i64 15) (.string ⟨x11.toArray⟩) (.int .i64 0) (.string ⟨#[]⟩) (.int .i64 0) (.string ⟨#[]⟩) (.slice (some ⟨w13.heap.size, 0, none⟩) 1 1)
                  obtain ⟨s0, s1, s2, s3, s4, s5, s6⟩ := q.c7
                  exact bodyPost_ret (v := .agg #[.int .i64 15, .string ⟨x11.toArray⟩, .int .i64 0, .string ⟨#[]⟩, .int .i64 0, .string ⟨#[]⟩, .slice (some ⟨w13.heap.size, 0, none⟩) 1 1]) (by simp [results, Tryz.results164, go_sem, s0, s1, s2, s3, s4, s5, s6]) rfl (give_box [.int .i64 15, .string ⟨x11.toArray⟩, .int .i64 0, .string ⟨#[]⟩, .int .i64 0, .string ⟨#[]⟩, .slice (some ⟨w13.heap.size, 0, none⟩) 1 1] HM14.out (exprV_args1 15 _ num0 num0 (er_call hpl hg14 HV9.out) (BX9.out.grown hg14 (fun e => by injection e with e; omega)) hV13 hR13 hbs9 _) hx14 HN0.out (((HG9.out).trans hg14)) (Nat.le_of_eq HE0.out.symm))
            · have HM12 := Lib.hid (by have q := HM11.out; rw [bind_ok (show accept s_lsq l11 = .ok false l11 from if_neg he12)] at q; simp only [↓reduceIte, Bool.false_eq_true] at q; exact q)
              have HC12 := Lib.hid (fun W (hW : PX n pb l11 W) => accept_no (z := ⟨#[91]⟩) hW (by decide) he12)
              clear HM11
              go_wp2_with (first
                | (go_at_call 145; with_reducible refine (HC2.out _ HX.out).mono ?_; rintro e w2 ⟨rfl, hx2, hg2⟩; have mR2 := (HM0.out).grown hg2 nb0)
                | (go_at_call 145; with_reducible refine (HC4.out _ hx2).mono ?_; rintro e w4 ⟨rfl, hx4, hg4⟩; have mR4 := (mR2).grown hg4 nb0)
                | (go_at_call 145; with_reducible refine (HC6.out _ hx4).mono ?_; rintro e w6 ⟨rfl, hx6, hg6⟩; have mR6 := (mR4).grown hg6 nb0)
                | (go_at_call 145; with_reducible refine (HC8.out _ hx6).mono ?_; rintro e w8 ⟨rfl, hx8, hg8⟩; have mR8 := (mR6).grown hg8 nb0)
                | (go_at_call 133; with_reducible refine (HC11.out _ hx8).mono ?_; rintro e w11 ⟨rfl, hx11, hg11⟩; have mR11 := (mR8).grown hg11 nb0)
                | (go_at_call 145; with_reducible refine (HC12.out _ ((hx11).alloc (.cells #[.int .i64 14, .string ⟨x11.toArray⟩, .int .i64 0, .string ⟨#[]⟩, .int .i64 0, .string ⟨#[]⟩, .slice none 0 0] 63))).mono ?_; rintro e w12 ⟨rfl, hx12, hg12⟩; have mR12 := ((mR11).keep ((Below.refl _ w11).alloc (Nat.le_refl _) (.cells #[.int .i64 14, .string ⟨x11.toArray⟩, .int .i64 0, .string ⟨#[]⟩, .int .i64 0, .string ⟨#[]⟩, .slice none 0 0] 63))).grown hg12 nb0; have mL12 := (BoxL.new w11 #[.int .i64 14, .string ⟨x11.toArray⟩, .int .i64 0, .string ⟨#[]⟩, .int .i64 0, .string ⟨#[]⟩, .slice none 0 0] 63).grown hg12 (fun e => by injection e with e; have := (hx11).lt; omega); obtain ⟨cR0, cR1, cR2, cR3, cR4, cR5, cR6⟩ := (mR12).c7; obtain ⟨fR0, fR1, fR2, fR3, fR4, fR5, fR6⟩ := (mR12).f7; obtain ⟨cL0, cL1, cL2, cL3, cL4, cL5, cL6⟩ := (mL12).c7))
              have q := (mR12).s7 (.int .i64 14) (.string ⟨x11.toArray⟩) (.int .i64 0) (.string ⟨#[]⟩) (.int .i64 0) (.string ⟨#[]⟩) (.slice none 0 0)
              obtain ⟨s0, s1, s2, s3, s4, s5, s6⟩ := q.c7
              exact bodyPost_ret (v := .agg #[.int .i64 14, .string ⟨x11.toArray⟩, .int .i64 0, .string ⟨#[]⟩, .int .i64 0, .string ⟨#[]⟩, .slice none 0 0]) (by simp [results, Tryz.results164, go_sem, s0, s1, s2, s3, s4, s5, s6]) rfl (give_box [.int .i64 14, .string ⟨x11.toArray⟩, .int .i64 0, .string ⟨#[]⟩, .int .i64 0, .string ⟨#[]⟩, .slice none 0 0] HM12.out (ExprV.leaf 14 _ _ _) hx12 HN0.out (((((((((((((((HGX.out).trans hg2)).trans hg4)).trans hg6)).trans hg8)).trans hg11)).trans (World.grownBy_alloc w11 (.cells #[.int .i64 14, .string ⟨x11.toArray⟩, .int .i64 0, .string ⟨#[]⟩, .int .i64 0, .string ⟨#[]⟩, .slice none 0 0] 63) _))).trans hg12)) (Nat.le_of_eq HE0.out.symm))

end Sy
end Go.Proofs.YtggeepimihhpjaaGreatDoor
