/- operator. operation: the list of arguments as it grows. -/
import Derived.Test.YtggeepimihhpjaaGreatDoorPF
import Derived.Test.YtggeepimihhpjaaGreatDoorPA
import Derived.Deep.AppendLies
import Derived.Laws.OwnMore
import Derived.Great.BuildSlice
namespace Go.Proofs.YtggeepimihhpjaaGreatDoor
open Go.RowKit Go.Shelf Sl Fr Lx
namespace Sy
set_option linter.unusedVariables false
set_option linter.unusedSimpArgs false
attribute [local go_sem] field_t0 field_t1 field_t2

theorem find_ops (z : By) : ∀ l : List (By × Int), findS z (l.map fun x => (x.1, Value.int .i64 x.2)) = (l.find? fun x => x.1 == z).map fun x => Value.int .i64 x.2
  | [] => rfl
  | x :: r => by
    rw [List.map_cons, findS, List.find?_cons]
    by_cases h : x.1 = z
    · rw [if_pos h, show (x.1 == z) = true by rw [h]; simp]; rfl
    · rw [if_neg h, show (x.1 == z) = false by simpa using h, find_ops z r]
theorem zero_int (w : World) : (zeroValue 3).run Tryz.prog w = .ok (.int .i64 0) w := by kernel_rfl
def IntZ : Int → World → Value → Prop := fun x _ v => v = .int .i64 x
theorem operatorP_none {l : List Tk} (h : (opsT.find? fun x => x.1 == (nextT l).text) = none) : operatorP l = .no (nextT l).at_ := by unfold operatorP; rw [h]
theorem operatorP_some {l : List Tk} {x : By × Int} (h : (opsT.find? fun x => x.1 == (nextT l).text) = some x) : operatorP l = .ok x.2 l.tail := by unfold operatorP; rw [h]

set_option maxRecDepth 100000 in
set_option maxHeartbeats 2000000 in
theorem operator_any (n pb : Nat) (l : List Tk) (w : World) (h : PX n pb l w) :
    Calls Tryz.prog 181 #[.pointer (some ⟨pb, 0, none⟩)] w (Gives n pb l operatorP IntZ w) := by
  obtain ⟨mO, d2, hmap, hlt⟩ := field2_ps h.ps
  have e2 := fun q : Later w => (q.below.cell (p := ⟨pb, 2, none⟩) hlt).trans d2
  have HN := Lib.hid (fun q : Later w => next_any n pb l q.val (h.ps.below q.below))
  unfold tkA at HN
  have HS := Lib.hid (fun W (hW : PX n pb l W) hk => skip_any n pb l W hW.ps hk)
  have HR := Lib.hid (fun W (hW : PX n pb l W) => refuse_any n pb l W hW.ps)
  have HX := Lib.hid h
  have HK := Lib.hid (fun (he : (nextT l).text ≠ []) => h.ps.lt.kind4 he)
  have elk := fun q : Later w => (hmap.kept (grown_below q.below) (by simp)).lookup_ok (P := Tryz.prog) Tryz.underlying163 Tryz.underlying9 ⟨(nextT l).text.toArray⟩ _ (zero_int q.val)
  rw [show bys (⟨(nextT l).text.toArray⟩ : ByteArray) = (nextT l).text from rfl, show findS (nextT l).text opsE = _ from find_ops _ _] at elk
  clear h hmap d2
  cases hf : opsT.find? fun x => x.1 == (nextT l).text with
  | none =>
    have HM := Lib.hid (operatorP_none hf)
    rw [hf] at elk
    simp only [Option.map_none, Option.getD_none, Option.isSome_none] at elk
    generalize (⟨(nextT l).text.toArray⟩ : ByteArray) = tx at *
    generalize (nextT l).kind = kk at *
    generalize (nextT l).at_ = ta at *
    clear hf HK HS
    go_enter Tryz.func181, Tryz.ntmps181
    go_upto_region 1 with fail
    refine wp_region_later (by kernel_rfl) (by kernel_rfl) ?_
    repeat (go_big_quiet_step (((go_at_call 95; with_reducible exact later_of (HN.out _)))))
    refine wpQuiet_nil ?_
    intro _ hw'
    obtain ⟨z, hw''⟩ := hw'
    subst hw''
    have HZ := Lib.hid (HX.out.below z.below)
    have HG : Hid (w.grownBy z.val (some pb)) := Lib.hid (gb z.below)
    clear elk e2 HN
    go_wp2_with (go_at_call 162; with_reducible refine (HR.out _ HZ.out).mono ?_; rintro e w2 ⟨rfl, hb2⟩)
    exact ⟨rfl, Gives.of_no HM.out (HG.out.trans (gb hb2))⟩
  | some x =>
    have HM := Lib.hid (operatorP_some hf)
    obtain ⟨h3, h4⟩ := find_mem hf
    have hne : (nextT l).text ≠ [] := by
      have h5 : x.1 = (nextT l).text := by simpa using h4
      rw [← h5]
      have : ∀ z ∈ opsT, z.1 ≠ [] := by decide
      exact this x h3
    have hk4 := HK.out hne
    rw [hf] at elk
    simp only [Option.map_some, Option.getD_some, Option.isSome_some] at elk
    generalize (⟨(nextT l).text.toArray⟩ : ByteArray) = tx at *
    generalize x.2 = xv at *
    clear hf HK HR h3 h4 hne
    go_enter Tryz.func181, Tryz.ntmps181
    go_upto_region 1 with fail
    refine wp_region_later (by kernel_rfl) (by kernel_rfl) ?_
    repeat (go_big_quiet_step (((go_at_call 95; with_reducible exact later_of (HN.out _)))))
    refine wpQuiet_nil ?_
    intro _ hw'
    obtain ⟨z, hw''⟩ := hw'
    subst hw''
    have HZ := Lib.hid (HX.out.below z.below)
    have HG : Hid (w.grownBy z.val (some pb)) := Lib.hid (gb z.below)
    clear elk e2 HN
    go_wp2_with (go_at_call 163; with_reducible refine (HS.out _ HZ.out hk4).mono ?_; rintro e w2 ⟨rfl, hp2, hg2⟩)
    go_ret
    exact Gives.of_ok HM.out rfl hp2 (HG.out.trans hg2)

end Sy
end Go.Proofs.YtggeepimihhpjaaGreatDoor

namespace Go.Proofs.YtggeepimihhpjaaGreatDoor
open Go.RowKit Go.Shelf Sl Fr Lx
namespace Sy
set_option linter.unusedVariables false
set_option linter.unusedSimpArgs false

def HL (w : World) (S : Nat → Prop) : List ExprT → List Value → Prop
  | [], vs => vs = []
  | e :: r, vs => ∃ A c vs', vs = eC e A c ++ vs' ∧ ER w S e (eC e A c) ∧ HL w S r vs'
section
variable {w w' : World} {S S' : Nat → Prop}
theorem HL.grown {row : Option Nat} (hg : w.grownBy w' row) (hr : ∀ g, row = some g → ¬ S g) : ∀ {l : List ExprT} {vs : List Value}, HL w S l vs → HL w' S l vs
  | [], _, h => h
  | _ :: _, _, ⟨A, c, vs', h1, h2, h3⟩ => ⟨A, c, vs', h1, ER.grown hg hr _ _ h2, h3.grown hg hr⟩
theorem HL.lt : ∀ {l : List ExprT} {vs : List Value}, HL w S l vs → HL w (fun b => S b ∧ b < w.heap.size) l vs
  | [], _, h => h
  | _ :: _, _, ⟨A, c, vs', h1, h2, h3⟩ => ⟨A, c, vs', h1, ER.lt _ _ h2, h3.lt⟩
theorem HL.mono (hs : ∀ b, S b → S' b) : ∀ {l : List ExprT} {vs : List Value}, HL w S l vs → HL w S' l vs
  | [], _, h => h
  | _ :: _, _, ⟨A, c, vs', h1, h2, h3⟩ => ⟨A, c, vs', h1, ER.mono hs _ _ h2, h3.mono hs⟩
theorem HL.snoc {e : ExprT} {A : Option Addr} {c : Nat} (he : ER w S e (eC e A c)) : ∀ {l : List ExprT} {vs : List Value}, HL w S l vs → HL w S (l ++ [e]) (vs ++ eC e A c)
  | [], _, h => by cases h; exact ⟨A, c, [], by simp, he, rfl⟩
  | _ :: _, _, ⟨A', c', vs', h1, h2, h3⟩ => ⟨A', c', vs' ++ eC e A c, by rw [h1, List.append_assoc], h2, h3.snoc he⟩
theorem HL.ar (b : Nat) : ∀ {l : List ExprT} {vs : List Value} (o : Nat), HL w S l vs → (∀ j u, vs[j]? = some u → w.cell? ⟨b, o + j, none⟩ = some u) → AR w S b o l
  | [], _, o, h, _ => by unfold AR; trivial
  | e :: r, vs, o, ⟨A, c, vs', h1, h2, h3⟩, hc => by
    unfold AR
    subst h1
    refine ⟨⟨eC e A c, h2, fun j u hj => hc j u ?_⟩, HL.ar b (o + 7) h3 fun j u hj => ?_⟩
    · rw [List.getElem?_append_left (List.getElem?_eq_some_iff.1 hj).1]; exact hj
    · rw [show o + 7 + j = o + (7 + j) by omega]
      refine hc (7 + j) u ?_
      rw [List.getElem?_append_right (by simp [eC])]
      simpa [eC] using hj
end
def AT (W : World) (base L : Nat) (v : Value) (es : List ExprT) : Prop := ∃ vs, W.ownsRow base 63 7 v es.length vs ∧ v.ownBlock ≠ some L ∧ HL W (fun b => base ≤ b ∧ b ≠ L ∧ v.ownBlock ≠ some b) es vs
section
variable {W W' : World} {base L : Nat} {v : Value} {es : List ExprT}
theorem AT.kept {row : Option Nat} (h : AT W base L v es) (hg : W.grownBy W' row) (hr : ∀ g, row = some g → g < base ∨ g = L) : AT W' base L v es := by
  obtain ⟨vs, h1, h2, h3⟩ := h
  refine ⟨vs, h1.kept hg ?_, h2, h3.grown hg ?_⟩
  · cases hb : v.ownBlock with
    | none => exact .inl rfl
    | some g =>
      refine .inr fun e => ?_
      have h4 := (h1.lt g hb).1
      rw [hb] at h2
      rcases hr g e.symm with h5 | h5
      · omega
      · exact h2 (by rw [h5])
  · intro g e ⟨h4, h5, h6⟩
    rcases hr g e with h7 | h7
    · omega
    · exact h5 h7
theorem AT.grown {pb : Nat} (h : AT W base L v es) (hg : W.grownBy W' (some pb)) (ne : pb < base) : AT W' base L v es := h.kept hg fun g e => .inl (by injection e with e; omega)
theorem AT.set (h : AT W base L v es) (j : Nat) (u : Value) : AT (W.setCell ⟨L, j, none⟩ u) base L v es := h.kept (grown_set W L j u) fun g e => .inr (by injection e with e; omega)
theorem AT.alloc (h : AT W base L v es) (o : Obj) : AT (W.alloc o) base L v es := h.kept (World.grownBy_alloc W o none) fun g e => by cases e
theorem AT.setAll {b0 : Nat} (hb : b0 < base) : ∀ (vs : List Value) (W : World) (i : Nat), AT W base L v es → AT (Fr.setAll b0 W i vs) base L v es
  | [], W, i, h => h
  | u :: vs, W, i, h => AT.setAll hb vs _ _ (h.kept (grown_set W b0 i u) fun g e => .inl (by injection e with e; omega))
theorem AT.first {w1 : World} {a : ExprT} {A : Option Addr} {c lo : Nat} (hv : ER w1 (Btw lo w1.heap.size) a (eC a A c)) (hlo : lo ≤ w1.heap.size) (o : Obj) :
    AT ((w1.alloc (.cells #[.int .i64 a.op, .string ⟨a.nm.toArray⟩, .int .i64 a.k.n, .string ⟨a.k.p.toArray⟩, .int .i64 a.w.n, .string ⟨a.w.p.toArray⟩, .slice A a.args.length c] 63)).alloc o) lo (w1.heap.size + 1) (.slice (some ⟨w1.heap.size, 0, none⟩) 1 1) [a] := by
  have h1 := World.ownsRow_lit (base := lo) (e := 63) (size := 7) w1 #[.int .i64 a.op, .string ⟨a.nm.toArray⟩, .int .i64 a.k.n, .string ⟨a.k.p.toArray⟩, .int .i64 a.w.n, .string ⟨a.w.p.toArray⟩, .slice A a.args.length c] 1 hlo (by unfold maxLen; omega) rfl
  refine ⟨eC a A c, h1.alloc o, ?_, A, c, [], by simp, ?_, rfl⟩
  · intro e; simp [Value.ownBlock] at e
  · refine ER.mono (fun b hb => ⟨hb.1, ?_, ?_⟩) _ _ (erb_alloc o (erb_alloc _ hv))
    · have := hb.2; omega
    · intro e; have h2 : w1.heap.size = b := by simpa [Value.ownBlock] using e
      have := hb.2; omega
theorem exprV_at {w : World} {b0 g cap k : Nat} (op : Int) (nm : By) (kk ww : NumT) (h : AT W base L (.slice (some ⟨g, 0, none⟩) k cap) es) (hk : es.length = k) (h1 : w.heap.size ≤ base) (h2 : b0 < base) (us : List Value) :
    ExprV w (.mk op nm kk ww es) (Fr.setAll b0 W 0 us) (.agg #[.int .i64 op, .string ⟨nm.toArray⟩, .int .i64 kk.n, .string ⟨kk.p.toArray⟩, .int .i64 ww.n, .string ⟨ww.p.toArray⟩, .slice (some ⟨g, 0, none⟩) k cap]) := by
  subst hk
  obtain ⟨vs, h3, h4, h5⟩ := AT.setAll h2 us W 0 h
  have hcap : es.length ≤ cap := by
    rcases h3.2 with ⟨e, _⟩ | ⟨g', cap', cur, e, _, _, h6, _⟩
    · cases e
    · injection e with _ _ e; rw [e]; exact h6
  refine ⟨some ⟨g, 0, none⟩, cap, rfl, ER.intro (e := .mk op nm kk ww es) hcap fun _ => ⟨g, 0, rfl, Nat.le_trans h1 (h3.lt g rfl).1, (h3.lt g rfl).2, HL.ar g 0 (h5.mono fun b hb => Nat.le_trans h1 hb.1) fun j u hj => ?_⟩⟩
  rw [Nat.zero_add, h3.cellAt j (by have := (List.getElem?_eq_some_iff.1 hj).1; rw [h3.1] at this; exact this)]
  exact hj
end
theorem infoExpr : (Tryz.prog.info? 63).map (fun i => (i.zero, i.size, i.bytes)) = some (some (.agg #[.int .i64 0, .string ⟨#[]⟩, .int .i64 0, .string ⟨#[]⟩, .int .i64 0, .string ⟨#[]⟩, .slice none 0 0]), 7, 96) := by kernel_rfl
theorem wp_append_at {W W2 : World} {base L pb : Nat} {v : Value} {es : List ExprT} {b : ExprT} {A : Option Addr} {c : Nat} {o : Oper} {a : Act} {K : Act → World → Prop} {Q : Exit → Act → World → Prop} (s x : Operand)
    (ho : o.op = .call { callee := .builtin .append, args := #[s, x], argTypes := #[61, 61] }) (hs : a.eval s = v) (hx : a.eval x = .slice (some ⟨W2.heap.size, 0, none⟩) 1 1)
    (h : AT W base L v es) (hL : L < W.heap.size) (hb : base ≤ W.heap.size) (hg : W.grownBy W2 (some pb)) (hpb : pb < base) (hv : ER W2 (Fresh W) b (eC b A c)) (hes : es.length ≤ 2)
    (hK : ∀ g cap wx, AT wx base L (.slice (some ⟨g, 0, none⟩) (es.length + 1) cap) (es ++ [b]) → (∃ r, (W2.alloc (.cells #[.int .i64 b.op, .string ⟨b.nm.toArray⟩, .int .i64 b.k.n, .string ⟨b.k.p.toArray⟩, .int .i64 b.w.n, .string ⟨b.w.p.toArray⟩, .slice A b.args.length c] 63)).grownBy wx r ∧ ∀ g, r = some g → base ≤ g ∧ g ≠ L) → K (a.put o.dst (.slice (some ⟨g, 0, none⟩) (es.length + 1) cap)) wx) :
    o.wp Tryz.prog a (W2.alloc (.cells #[.int .i64 b.op, .string ⟨b.nm.toArray⟩, .int .i64 b.k.n, .string ⟨b.k.p.toArray⟩, .int .i64 b.w.n, .string ⟨b.w.p.toArray⟩, .slice A b.args.length c] 63)) K Q := by
  obtain ⟨i0, hi0, hzz⟩ : ∃ i, Tryz.prog.info? 63 = some i ∧ (i.zero, i.size, i.bytes) = (some (.agg #[.int .i64 0, .string ⟨#[]⟩, .int .i64 0, .string ⟨#[]⟩, .int .i64 0, .string ⟨#[]⟩, .slice none 0 0]), 7, 96) := by
    have := infoExpr
    cases hi : Tryz.prog.info? 63 with
    | none => rw [hi] at this; cases this
    | some i => rw [hi] at this; exact ⟨i, rfl, by simpa using this⟩
  simp only [Prod.mk.injEq] at hzz
  obtain ⟨hz0, hz1, hz2⟩ := hzz
  have h2 := (h.grown hg hpb).alloc (.cells #[.int .i64 b.op, .string ⟨b.nm.toArray⟩, .int .i64 b.k.n, .string ⟨b.k.p.toArray⟩, .int .i64 b.w.n, .string ⟨b.w.p.toArray⟩, .slice A b.args.length c] 63)
  have hown0 : ∀ g, v.ownBlock = some g → g < W.heap.size := by
    obtain ⟨vs, h3, _⟩ := h
    exact fun g hg => (h3.lt g hg).2
  obtain ⟨vs, h3, h4, h5⟩ := h2
  have hsz := hg.size
  refine wp_append_lies _ s x _ ho base 63 i0 _ 7 96 Tryz.underlying61 hi0 hz0 hz1 hz2 rfl (by decide) v es.length vs hs h3 ⟨W2.heap.size, 0, none⟩ 1 1 (eC b A c) hx rfl (World.news_of_block (cs := #[.int .i64 b.op, .string ⟨b.nm.toArray⟩, .int .i64 b.k.n, .string ⟨b.k.p.toArray⟩, .int .i64 b.w.n, .string ⟨b.w.p.toArray⟩, .slice A b.args.length c]) (t := 63) (fr := (0, 0)) (heap_alloc_new W2 _)) (by simp [eC, Value.oneCell']) (by decide) (by unfold maxLen; omega) (by omega) (by simp; omega) _ rfl ?_
  intro g cap wx hown hgrow hat hlt
  refine hK g cap wx ⟨vs ++ eC b A c, by rw [List.length_append]; exact hown, ?_, HL.snoc ?_ ?_⟩ ⟨_, hgrow, fun g hg => ⟨(h3.lt g hg).1, fun e => h4 (by rw [hg, e])⟩⟩
  · intro e
    have e : g = L := by simpa [Value.ownBlock] using e
    rcases hat with hat | hat
    · exact h4 (by rw [hat, e])
    · simp at hat; omega
  · have h6 := ER.grown hgrow (fun g hg hf => by have := hown0 g hg; have := hf.1; omega) _ _ (erb_alloc (.cells #[.int .i64 b.op, .string ⟨b.nm.toArray⟩, .int .i64 b.k.n, .string ⟨b.k.p.toArray⟩, .int .i64 b.w.n, .string ⟨b.w.p.toArray⟩, .slice A b.args.length c] 63) (erb_of hv))
    refine ER.mono (fun x hb => ⟨Nat.le_trans ‹base ≤ W.heap.size› hb.1, fun e => ?_, fun e => ?_⟩) _ _ h6
    · have := hb.1; omega
    · have e : g = x := by simpa [Value.ownBlock] using e
      have h7 := hb.1
      have h8 := hb.2
      rcases hat with hat | hat
      · have := hown0 g hat; omega
      · simp at hat; omega
  · refine HL.mono (fun x hb => ⟨hb.1.1, hb.1.2.1, fun e => ?_⟩) (HL.grown hgrow (fun g hg hf => hf.1.2.2 hg) (HL.lt h5))
    have e : g = x := by simpa [Value.ownBlock] using e
    rcases hat with hat | hat
    · exact hb.1.2.2 (by rw [hat, e])
    · have := hb.2; simp at this hat; omega

end Sy
end Go.Proofs.YtggeepimihhpjaaGreatDoor
