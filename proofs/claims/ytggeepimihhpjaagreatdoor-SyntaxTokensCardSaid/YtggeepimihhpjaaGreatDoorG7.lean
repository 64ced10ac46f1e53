/- Complete and sound: expressions. Complete and sound: rules, lists, items. Complete and sound: rules, bindings, items. -/
import Derived.Test.YtggeepimihhpjaaGreatDoorG4
namespace Go.Proofs.YtggeepimihhpjaaGreatDoor
open Lx Go.Lib
namespace Sy
set_option linter.unusedVariables false

theorem exprP_one : exprP 1 = (accept s_lsq >>= fun b => if b = true then constP else refP none) := rfl
theorem exprP_two (m : Nat) : exprP (m + 2) = (accept s_lsq >>= fun b => if b = true then constP else accept s_tilde >>= fun b => if b = true then (exprP (m + 1) >>= fun a => Pure.pure (.mk 2 [] num0 num0 [a])) else
    accept s_lpar >>= fun b => if b = true then operationP (exprP (m + 1)) else accept s_lbrc >>= fun b => if b = true then resizedP (exprP (m + 1)) else refP (some (exprP (m + 1)))) := rfl
theorem Cm.const {k w : NumT} (hk : NumOK k) (hw : NumOK w) (st : List By) : Cm constP (.mk 1 [] k w []) (tkN k ++ ((3, s_colon) :: tkN w ++ ([(3, s_rsq)] ++ []))) st :=
  (Cm.num hk).bind ((Cm.behind 3 s_colon (Cm.num hw)).bind ((Cm.expect 3 s_rsq []).bind (Cm.pure _ st) (Nx.nil _ _)) (by show s_rsq ∉ pm; decide)) (by show s_colon ∉ pm; decide)
theorem ops_sign {s : By} {op : Int} (h : (s, op) ∈ opsT) : tok s = (3, s.length) ∧ s ≠ [] ∧ s ∉ [s_lsq, s_quest] ∧ opsT.find? (fun x => x.1 == s) = some (s, op) := by
  have : ∀ x ∈ opsT, tok x.1 = (3, x.1.length) ∧ x.1 ≠ [] ∧ x.1 ∉ [s_lsq, s_quest] ∧ opsT.find? (fun y => y.1 == x.1) = some x := by decide
  exact this _ h
theorem Cm.operator {s : By} {op : Int} (h : (s, op) ∈ opsT) (st : List By) : Cm operatorP op [(3, s)] st := fun l r hl hlr ht _ => by
  obtain ⟨t, m, rfl, h1, h2, h3⟩ := ht.cons
  rw [h3.nil]
  unfold operatorP
  rw [show (nextT (t :: r)).text = s from h2, (ops_sign h).2.2.2]
  rfl
theorem Cm.expr {m : Nat} {e : ExprT} {ts : List KT} (h : EOK m e ts) : Cm (exprP m) e ts [s_lsq] := by
  induction h with
  | @const m k w hk hw =>
    cases m with
    | zero => rw [exprP_one]; exact (Cm.yes 3 s_lsq []).bind (Cm.const hk hw _) (Nx.nil _ _)
    | succ m => rw [exprP_two]; exact (Cm.yes 3 s_lsq []).bind (Cm.const hk hw _) (Nx.nil _ _)
  | @ref m nm h =>
    have n1 : nm ∉ [s_lsq] := by rw [List.mem_singleton]; exact name_nsign h (by decide)
    have n2 : nm ∉ [s_tilde] := by rw [List.mem_singleton]; exact name_nsign h (by decide)
    have n3 : nm ∉ [s_lpar] := by rw [List.mem_singleton]; exact name_nsign h (by decide)
    have n4 : nm ∉ [s_lbrc] := by rw [List.mem_singleton]; exact name_nsign h (by decide)
    cases m with
    | zero => rw [exprP_one]; exact (Cm.no s_lsq).bind ((Cm.name h []).bind (Cm.pure _ _) (Nx.nil _ _)) n1
    | succ m =>
      rw [exprP_two]
      exact (Cm.no s_lsq).bind ((Cm.no s_tilde).bind ((Cm.no s_lpar).bind ((Cm.no s_lbrc).bind ((Cm.name h []).bind ((Cm.no s_lsq).bind (Cm.pure _ _) (Nx.self _)) (Nx.nil _ _)) n4) n3) n2) n1
  | @mem m nm a ta h ha ih =>
    have n1 : nm ∉ [s_lsq] := by rw [List.mem_singleton]; exact name_nsign h (by decide)
    have n2 : nm ∉ [s_tilde] := by rw [List.mem_singleton]; exact name_nsign h (by decide)
    have n3 : nm ∉ [s_lpar] := by rw [List.mem_singleton]; exact name_nsign h (by decide)
    have n4 : nm ∉ [s_lbrc] := by rw [List.mem_singleton]; exact name_nsign h (by decide)
    rw [exprP_two]
    exact (Cm.no s_lsq).bind ((Cm.no s_tilde).bind ((Cm.no s_lpar).bind ((Cm.no s_lbrc).bind ((Cm.name h []).bind ((Cm.yes 3 s_lsq []).bind (ih.bind ((Cm.expect 3 s_rsq []).bind (Cm.pure _ _) (Nx.nil _ _)) (by show s_rsq ∉ [s_lsq]; decide)) (Nx.nil _ _)) (Nx.nil _ _)) n4) n3) n2) n1
  | @not m a ta ha ih =>
    rw [exprP_two]
    exact (Cm.no s_lsq).bind ((Cm.yes 3 s_tilde []).bind (ih.bind (Cm.pure _ _) (Nx.self _)) (Nx.nil _ _)) (by show s_tilde ∉ [s_lsq]; decide)
  | @two m op s a b ta tb ho ha hb iha ihb =>
    have n1 : s ∉ [s_lsq] := fun h => (ops_sign ho).2.2.1 (by simp at h ⊢; exact .inl h)
    have n2 : s ∉ [s_quest] := fun h => (ops_sign ho).2.2.1 (by simp at h ⊢; exact .inr h)
    rw [exprP_two]
    exact (Cm.no s_lsq).bind ((Cm.no s_tilde).bind ((Cm.yes 3 s_lpar []).bind (iha.bind ((Cm.no s_quest).bind ((Cm.operator ho []).bind (ihb.bind ((Cm.expect 3 s_rpar []).bind (Cm.pure _ _) (Nx.nil _ _)) (by show s_rpar ∉ [s_lsq]; decide)) (Nx.nil _ _)) n2) n1) (Nx.nil _ _)) (by show s_lpar ∉ [s_tilde]; decide)) (by show s_lpar ∉ [s_lsq]; decide)
  | @mux m a b c ta tb tc ha hb hc iha ihb ihc =>
    rw [exprP_two]
    exact (Cm.no s_lsq).bind ((Cm.no s_tilde).bind ((Cm.yes 3 s_lpar []).bind (iha.bind ((Cm.yes 3 s_quest []).bind (ihb.bind ((Cm.expect 3 s_colon []).bind (ihc.bind ((Cm.expect 3 s_rpar []).bind (Cm.pure _ _) (Nx.nil _ _)) (by show s_rpar ∉ [s_lsq]; decide)) (Nx.nil _ _)) (by show s_colon ∉ [s_lsq]; decide)) (Nx.nil _ _)) (by show s_quest ∉ [s_lsq]; decide)) (Nx.nil _ _)) (by show s_lpar ∉ [s_tilde]; decide)) (by show s_lpar ∉ [s_lsq]; decide)
  | @slice m k w a ta ha hk hw ih =>
    rw [exprP_two]
    exact (Cm.no s_lsq).bind ((Cm.no s_tilde).bind ((Cm.no s_lpar).bind ((Cm.yes 3 s_lbrc []).bind (ih.bind ((Cm.yes 3 s_ats []).bind ((Cm.num hk).bind ((Cm.behind 3 s_colon (Cm.num hw)).bind ((Cm.expect 3 s_rbrc []).bind (Cm.pure _ _) (Nx.nil _ _)) (by show s_rbrc ∉ pm; decide)) (by show s_colon ∉ pm; decide)) (Nx.nil _ _)) (by show s_ats ∉ [s_lsq]; decide)) (Nx.nil _ _)) (by show s_lbrc ∉ [s_lpar]; decide)) (by show s_lbrc ∉ [s_tilde]; decide)) (by show s_lbrc ∉ [s_lsq]; decide)
  | @ext m w a ta ha hw ih =>
    rw [exprP_two]
    exact (Cm.no s_lsq).bind ((Cm.no s_tilde).bind ((Cm.no s_lpar).bind ((Cm.yes 3 s_lbrc []).bind (ih.bind ((Cm.no s_ats).bind ((Cm.behind 3 s_colon (Cm.num hw)).bind ((Cm.expect 3 s_rbrc []).bind (Cm.pure _ _) (Nx.nil _ _)) (by show s_rbrc ∉ pm; decide)) (by show s_colon ∉ [s_ats]; decide)) (by show s_colon ∉ [s_lsq]; decide)) (Nx.nil _ _)) (by show s_lbrc ∉ [s_lpar]; decide)) (by show s_lbrc ∉ [s_tilde]; decide)) (by show s_lbrc ∉ [s_lsq]; decide)

theorem Sd.yes {α : Type} {w : By} {k n : Nat} (hw : tok w = (k, n)) (h0 : w ≠ []) {f : Bool → PM α} {P : α → List KT → Prop} (h1 : Sd (f true) (fun x ts => P x ([(k, w)] ++ ts))) (h2 : Sd (f false) P) : Sd (Sy.accept w >>= f) P :=
  (Sd.accept hw h0).bind fun b c hb => by
    rcases hb with ⟨rfl, rfl⟩ | ⟨rfl, rfl⟩
    · exact h1
    · exact h2
theorem Sd.const : Sd constP (fun e ts => ∃ k w, NumOK k ∧ NumOK w ∧ e = .mk 1 [] k w [] ∧ ts = tkN k ++ ((3, s_colon) :: tkN w ++ ([(3, s_rsq)] ++ []))) :=
  Sd.num.bind fun k a ha => (Sd.behind (w := s_colon) (k := 3) (n := 1) (P := fun w ts => NumOK w ∧ ts = (3, s_colon) :: tkN w) (by decide) (by decide) (Sd.num.mono fun w ts h => ⟨h.1, by rw [h.2]⟩)).bind fun w b hb => (Sd.expect (k := 3) (n := 1) (by decide) (by decide)).bind fun _ c hc => Sd.pure ⟨k, w, ha.1, hb.1, rfl, by rw [ha.2, hb.2, hc]⟩
theorem Sd.operator : Sd operatorP (fun op ts => ∃ s, (s, op) ∈ opsT ∧ ts = [(3, s)]) := fun l x r hl he => by
  unfold operatorP at he
  cases hf : opsT.find? (fun x => x.1 == (nextT l).text) with
  | none => rw [hf] at he; cases he
  | some y =>
    rw [hf] at he
    injection he with h1 h2
    subst h2; subst h1
    have hm := List.mem_of_find?_eq_some hf
    have ht : y.1 = (nextT l).text := by have := List.find?_some hf; simpa using this
    obtain ⟨q1, q2, _⟩ := ops_sign (s := y.1) (op := y.2) hm
    have hne : (nextT l).text ≠ [] := by rw [← ht]; exact q2
    refine ⟨hl.tail hne, _, Tks.one hl, y.1, hm, ?_⟩
    rcases hl.next with q | q
    · show [((nextT l).kind, (nextT l).text)] = _
      have := q.1
      rw [← ht] at this ⊢
      rw [tok_kind_eq this q1]
    · exact absurd q.2.1 hne
theorem Sd.operation {m : Nat} {e : PM ExprT} (he : Sd e (EOK (m + 1))) : Sd (operationP e) (fun x ts => EOK (m + 2) x ([(3, s_lpar)] ++ ts)) :=
  he.bind fun a ta ha => Sd.yes (k := 3) (n := 1) (by decide) (by decide)
    (he.bind fun b tb hb => (Sd.expect (k := 3) (n := 1) (by decide) (by decide)).bind fun _ c1 hc1 => he.bind fun c tc hc => (Sd.expect (k := 3) (n := 1) (by decide) (by decide)).bind fun _ c2 hc2 => Sd.pure (by subst hc1; subst hc2; simpa using EOK.mux ha hb hc))
    (Sd.operator.bind fun op c1 h1 => he.bind fun b tb hb => (Sd.expect (k := 3) (n := 1) (by decide) (by decide)).bind fun _ c2 hc2 => Sd.pure (by obtain ⟨s, ho, rfl⟩ := h1; subst hc2; simpa using EOK.two ho ha hb))
theorem Sd.behindN : Sd (Sy.behind s_colon numP) (fun w ts => NumOK w ∧ ts = (3, s_colon) :: tkN w) := Sd.behind (w := s_colon) (k := 3) (n := 1) (by decide) (by decide) (Sd.num.mono fun w ts h => ⟨h.1, by rw [h.2]⟩)
theorem Sd.resized {m : Nat} {e : PM ExprT} (he : Sd e (EOK (m + 1))) : Sd (resizedP e) (fun x ts => EOK (m + 2) x ([(3, s_lbrc)] ++ ts)) :=
  he.bind fun a ta ha => Sd.yes (k := 3) (n := 1) (by decide) (by decide)
    (Sd.num.bind fun k c1 h1 => Sd.behindN.bind fun w c2 h2 => (Sd.expect (k := 3) (n := 1) (by decide) (by decide)).bind fun _ c3 h3 => Sd.pure (by obtain ⟨k1, rfl⟩ := h1; obtain ⟨k2, rfl⟩ := h2; subst h3; simpa using EOK.slice ha k1 k2))
    (Sd.behindN.bind fun w c2 h2 => (Sd.expect (k := 3) (n := 1) (by decide) (by decide)).bind fun _ c3 h3 => Sd.pure (by obtain ⟨k2, rfl⟩ := h2; subst h3; simpa using EOK.ext ha k2))
theorem Sd.ref0 {m : Nat} : Sd (refP none) (EOK (m + 1)) := Sd.name.bind fun nm a ha => Sd.pure (by obtain ⟨h, rfl⟩ := ha; exact EOK.ref h)
theorem Sd.ref1 {m : Nat} {e : PM ExprT} (he : Sd e (EOK (m + 1))) : Sd (refP (some e)) (EOK (m + 2)) :=
  Sd.name.bind fun nm a ha => Sd.yes (k := 3) (n := 1) (by decide) (by decide)
    (he.bind fun x tx hx => (Sd.expect (k := 3) (n := 1) (by decide) (by decide)).bind fun _ c3 h3 => Sd.pure (by obtain ⟨h, rfl⟩ := ha; subst h3; simpa using EOK.mem h hx))
    (Sd.pure (by obtain ⟨h, rfl⟩ := ha; exact EOK.ref h))
theorem Sd.constE {m : Nat} : Sd constP (fun x ts => EOK (m + 1) x ([(3, s_lsq)] ++ ts)) := Sd.const.mono fun x ts h => by
  obtain ⟨k, w, hk, hw, rfl, rfl⟩ := h
  exact EOK.const hk hw
theorem Sd.expr : ∀ m, Sd (exprP m) (EOK m)
  | 0 => fun l x r hl he => by cases he
  | 1 => by
    rw [exprP_one]
    exact Sd.yes (k := 3) (n := 1) (by decide) (by decide) Sd.constE Sd.ref0
  | m + 2 => by
    have ih := Sd.expr (m + 1)
    rw [exprP_two]
    exact Sd.yes (k := 3) (n := 1) (by decide) (by decide) Sd.constE (Sd.yes (k := 3) (n := 1) (by decide) (by decide) (ih.bind fun a ta ha => Sd.pure (EOK.not ha)) (Sd.yes (k := 3) (n := 1) (by decide) (by decide) (Sd.operation ih) (Sd.yes (k := 3) (n := 1) (by decide) (by decide) (Sd.resized ih) (Sd.ref1 ih))))
end Sy
end Go.Proofs.YtggeepimihhpjaaGreatDoor

namespace Go.Proofs.YtggeepimihhpjaaGreatDoor
open Lx Go.Lib
namespace Sy
set_option linter.unusedVariables false

inductive Seq {α : Type} (P : α → List KT → Prop) : List α → List KT → Prop
  | nil : Seq P [] []
  | cons {x : α} {xs : List α} {a b : List KT} (h : P x a) (t : Seq P xs b) : Seq P (x :: xs) (a ++ b)
theorem Seq.snoc {α : Type} {P : α → List KT → Prop} {xs : List α} {a b : List KT} {x : α} (h : Seq P xs a) (hx : P x b) : Seq P (xs ++ [x]) (a ++ b) := by
  induction h with
  | nil => simpa using Seq.cons hx Seq.nil
  | cons h1 h2 ih => rw [List.cons_append, List.append_assoc]; exact Seq.cons h1 ih
theorem Seq.next {α : Type} {P : α → List KT → Prop} {stop : By} {st : List By} {k : Nat} (hst : stop ∉ st) (hP : ∀ x ts, P x ts → ∃ j w us, ts = (j, w) :: us ∧ w ∉ st) {xs : List α} {ts : List KT} (h : Seq P xs ts) {l r : List Tk} (ht : Tks l (ts ++ [(k, stop)]) r) : (nextT l).text ∉ st := by
  cases h with
  | nil => rw [Tks.next (k := k) (w := stop) (b := []) ht]; exact hst
  | @cons x xs a b hx hxs =>
    obtain ⟨j, w, us, rfl, h3⟩ := hP x a hx
    rw [Tks.next (k := j) (w := w) (b := us ++ b ++ [(k, stop)]) ht]; exact h3
theorem Cm.loopR {α : Type} {P : α → List KT → Prop} {stop : By} {st : List By} {f : List α → PM (List α)} {k : Nat} (hk : ∀ a, Keeps (f a) 1) (hst : stop ∉ st)
    (hP : ∀ x ts, P x ts → (∀ acc, Cm (f acc) (acc ++ [x]) ts st) ∧ ∃ j w us, ts = (j, w) :: us ∧ w ≠ stop ∧ w ∉ st) :
    ∀ {xs : List α} {ts : List KT}, Seq P xs ts → ∀ acc, Cm (loopP stop f acc) (acc ++ xs) (ts ++ [(k, stop)]) [] := by
  intro xs ts h
  induction h with
  | nil =>
    intro acc l r hl hlr ht _
    obtain ⟨t, m, rfl, h1, h2, h3⟩ := Tks.cons ht
    rw [loopP_step hk hl, if_pos (show (nextT (t :: m)).text = stop from h2), List.append_nil, h3.nil]; rfl
  | @cons x xs a b hx hxs ih =>
    intro acc l r hl hlr ht hr
    obtain ⟨h1, j, w, us, h2, h3, _⟩ := hP x a hx
    rw [List.append_assoc] at ht
    obtain ⟨l1, k1, k2⟩ := ht.split
    have hn : (nextT l).text = w := by rw [h2] at k1; exact k1.next
    have hl1 := Tks.lt hl hlr k1 k2
    have hs := h1 acc l l1 hl hl1 k1 (Seq.next hst (fun x ts hx => by obtain ⟨_, j, w, us, e, _, h⟩ := hP x ts hx; exact ⟨j, w, us, e, h⟩) hxs k2)
    rw [loopP_step hk hl, if_neg (by rw [hn]; exact h3), hs]
    show loopP stop f (acc ++ [x]) l1 = _
    rw [show acc ++ x :: xs = (acc ++ [x]) ++ xs by simp]
    exact ih (acc ++ [x]) l1 r hl1 hlr k2 hr
def Com {α : Type} (P : α → List KT → Prop) : α → List KT → Prop := fun x ts => ∃ b, P x b ∧ ts = [(3, s_comma)] ++ (b ++ [])
inductive Lst {α : Type} (P : α → List KT → Prop) : List α → List KT → Prop
  | nil : Lst P [] ([(3, s_lpar)] ++ ([(3, s_rpar)] ++ []))
  | cons {x : α} {xs : List α} {a b : List KT} (h : P x a) (t : Seq (Com P) xs b) : Lst P (x :: xs) ([(3, s_lpar)] ++ ([] ++ (a ++ (b ++ [(3, s_rpar)]))))
theorem listP_def {α : Type} (part : PM α) : listP part = (expect s_lpar >>= fun _ => accept s_rpar >>= fun b => if b = true then Pure.pure [] else part >>= fun x => loopP s_rpar (fun acc => expect s_comma >>= fun _ => part >>= fun y => Pure.pure (acc ++ [y])) [x]) := rfl
theorem Cm.bindF {α β : Type} {m : PM α} {f : α → PM β} {x : α} {y : β} {a b : List KT} {st st' : List By} (h : Cm m x a st) (hf : Cm (f x) y b st') (hn : ∀ l r, Tks l b r → (nextT l).text ∉ st) : Cm (m >>= f) y (a ++ b) st' := fun l r hl hlr ht hr => by
  obtain ⟨l1, h1, h2⟩ := ht.split
  have hl1 := Tks.lt hl hlr h1 h2
  rw [bind_ok (h l l1 hl hl1 h1 (hn l1 r h2))]
  exact hf l1 r hl1 hlr h2 hr
theorem Cm.list {α : Type} {P : α → List KT → Prop} {part : PM α} (hk : ∀ acc : List α, Keeps (Sy.expect s_comma >>= fun _ => part >>= fun y => Pure.pure (acc ++ [y])) 1) {st : List By} (hst : s_comma ∉ st ∧ s_rpar ∉ st)
    (hP : ∀ x ts, P x ts → Cm part x ts st ∧ ∃ j w us, ts = (j, w) :: us ∧ w ≠ s_rpar) {xs : List α} {ts : List KT} (h : Lst P xs ts) : Cm (listP part) xs ts [] := by
  rw [listP_def]
  cases h with
  | nil => exact (Cm.expect 3 s_lpar []).bind ((Cm.yes 3 s_rpar []).bind (Cm.pure _ _) (Nx.nil _ _)) (Nx.nil _ _)
  | @cons x xs a b hx ht =>
    obtain ⟨h1, j, w, us, rfl, h3⟩ := hP x a hx
    have hs : ∀ y ts, Com P y ts → (∀ acc : List α, Cm (Sy.expect s_comma >>= fun _ => part >>= fun y => Pure.pure (acc ++ [y])) (acc ++ [y]) ts st) ∧ ∃ j w us, ts = (j, w) :: us ∧ w ≠ s_rpar ∧ w ∉ st := fun y ts hy => by
      obtain ⟨b, hb, rfl⟩ := hy
      exact ⟨fun acc => (Cm.expect 3 s_comma []).bind ((hP y b hb).1.bind (Cm.pure _ _) (Nx.self _)) (Nx.nil _ _), 3, s_comma, _, rfl, by decide, hst.1⟩
    have hl := Cm.loopR (k := 3) (stop := s_rpar) hk hst.2 hs ht [x]
    refine (Cm.expect 3 s_lpar []).bind ((Cm.no s_rpar).bind (Cm.bindF h1 hl fun l r h2 => Seq.next hst.2 (fun y ts hy => by obtain ⟨_, j, w, us, e, _, h⟩ := hs y ts hy; exact ⟨j, w, us, e, h⟩) ht h2) ?_) (Nx.nil _ _)
    show w ∉ [s_rpar]
    rw [List.mem_singleton]; exact h3
theorem Sd.list {α : Type} {P : α → List KT → Prop} {part : PM α} (hk : ∀ acc : List α, Keeps (Sy.expect s_comma >>= fun _ => part >>= fun y => Pure.pure (acc ++ [y])) 1) (hP : Sd part P) : Sd (listP part) (Lst P) := by
  rw [listP_def]
  refine (Sd.expect (k := 3) (n := 1) (by decide) (by decide)).bind fun _ c0 h0 => Sd.yes (w := s_rpar) (k := 3) (n := 1) (by decide) (by decide) (Sd.pure (by subst h0; exact Lst.nil)) (hP.bind fun x a hx => ?_)
  refine (Sd.loop (stop := s_rpar) (k := 3) (n := 1) (by decide) (by decide) hk (I := fun acc ts => ∃ xs, acc = [x] ++ xs ∧ Seq (Com P) xs ts) (fun acc ts hI => ?_) [x] [] ⟨[], rfl, Seq.nil⟩).mono ?_
  · obtain ⟨xs, rfl, hs⟩ := hI
    refine (Sd.expect (w := s_comma) (k := 3) (n := 1) (by decide) (by decide)).bind fun _ c1 h1 => hP.bind fun y b hy => Sd.pure ⟨xs ++ [y], by simp, hs.snoc ⟨b, hy, by subst h1; rfl⟩⟩
  · rintro acc us ⟨vs, rfl, xs, rfl, hs⟩
    subst h0
    exact Lst.cons hx hs
end Sy
end Go.Proofs.YtggeepimihhpjaaGreatDoor

namespace Go.Proofs.YtggeepimihhpjaaGreatDoor
open Lx Go.Lib
namespace Sy
set_option linter.unusedVariables false

inductive ROK : RuleT → List KT → Prop
  | init : ROK ⟨0, [], 0⟩ ([(1, w_init)] ++ [])
  | keep : ROK ⟨1, [], 0⟩ ([(1, w_keep)] ++ [])
  | copy {f : By} (h : NameT f) : ROK ⟨2, f, 0⟩ ([(1, w_copy)] ++ ([(1, f)] ++ []))
  | add {f : By} {n : Nat} (h : NameT f) (hn : n ≤ 1000000) : ROK ⟨3, f, (n : Int)⟩ ([(1, w_add)] ++ ([(1, f)] ++ ([(2, itoa (n : Int))] ++ [])))
theorem Cm.rule {x : RuleT} {ts : List KT} (h : ROK x ts) (st : List By) : Cm ruleP x ts st := by
  cases h with
  | init => exact (Cm.yes 1 w_init []).bind (Cm.pure _ _) (Nx.nil _ _)
  | keep => exact (Cm.no w_init).bind ((Cm.yes 1 w_keep []).bind (Cm.pure _ _) (Nx.nil _ _)) (by show w_keep ∉ [w_init]; decide)
  | copy h => exact (Cm.no w_init).bind ((Cm.no w_keep).bind ((Cm.yes 1 w_copy []).bind ((Cm.name h []).bind (Cm.pure _ _) (Nx.nil _ _)) (Nx.nil _ _)) (by show w_copy ∉ [w_keep]; decide)) (by show w_copy ∉ [w_init]; decide)
  | add h hn => exact (Cm.no w_init).bind ((Cm.no w_keep).bind ((Cm.no w_copy).bind ((Cm.expect 1 w_add []).bind ((Cm.name h []).bind ((Cm.number (least := 0) hn (Nat.zero_le _) []).bind (Cm.pure _ _) (Nx.nil _ _)) (Nx.nil _ _)) (Nx.nil _ _)) (by show w_add ∉ [w_copy]; decide)) (by show w_add ∉ [w_keep]; decide)) (by show w_add ∉ [w_init]; decide)
theorem ROK.next {x : RuleT} {ts : List KT} (h : ROK x ts) : ∃ w us, ts = (1, w) :: us ∧ w ∈ [w_init, w_keep, w_copy, w_add] := by
  cases h with
  | init => exact ⟨_, _, rfl, by decide⟩
  | keep => exact ⟨_, _, rfl, by decide⟩
  | copy h => exact ⟨_, _, rfl, by decide⟩
  | add h hn => exact ⟨_, _, rfl, by decide⟩
theorem Sd.rule : Sd ruleP ROK :=
  Sd.yes (k := 1) (n := 4) (w := w_init) (by decide) (by decide) (Sd.pure ROK.init) <| Sd.yes (k := 1) (n := 4) (w := w_keep) (by decide) (by decide) (Sd.pure ROK.keep) <|
    Sd.yes (k := 1) (n := 4) (w := w_copy) (by decide) (by decide) (Sd.name.bind fun f a ha => Sd.pure (by obtain ⟨h, rfl⟩ := ha; exact ROK.copy h)) <|
    (Sd.expect (w := w_add) (k := 1) (n := 3) (by decide) (by decide)).bind fun _ c hc => Sd.name.bind fun f a ha => (Sd.number 0).bind fun n b hb => Sd.pure (by obtain ⟨h, rfl⟩ := ha; obtain ⟨h1, _, rfl⟩ := hb; subst hc; exact ROK.add h h1)
def NumR : NumT → List KT → Prop := fun x ts => NumOK x ∧ ts = tkN x
def BindR : BindT → List KT → Prop := fun x ts => NameT x.port ∧ NameT x.chan ∧ ts = [(1, x.port)] ++ ([(3, s_eqs)] ++ ([(1, x.chan)] ++ []))
def NameR : By → List KT → Prop := fun x ts => NameT x ∧ ts = [(1, x)]
theorem Cm.binding {x : BindT} (h1 : NameT x.port) (h2 : NameT x.chan) (st : List By) : Cm bindP x ([(1, x.port)] ++ ([(3, s_eqs)] ++ ([(1, x.chan)] ++ []))) st :=
  (Cm.name h1 []).bind ((Cm.expect 3 s_eqs []).bind ((Cm.name h2 []).bind (Cm.pure _ _) (Nx.nil _ _)) (Nx.nil _ _)) (Nx.nil _ _)
theorem Sd.binding : Sd bindP BindR := Sd.name.bind fun p a ha => (Sd.expect (w := s_eqs) (k := 3) (n := 1) (by decide) (by decide)).bind fun _ c hc => Sd.name.bind fun q b hb => Sd.pure (by obtain ⟨h, rfl⟩ := ha; obtain ⟨h2, rfl⟩ := hb; subst hc; exact ⟨h, h2, rfl⟩)
theorem keeps_com {α : Type} {part : PM α} (h : Keeps part 1) (acc : List α) : Keeps (expect s_comma >>= fun _ => part >>= fun y => Pure.pure (acc ++ [y])) 1 := (Keeps.expect (by decide)).bind0 fun _ => h.z.bind0 fun y => Keeps.pure _
theorem tok_nsign {w : By} {k : Nat} (h : IsTok w k) (hk : k = 1 ∨ k = 2) : w ≠ s_rpar := fun e => by
  have := tok_kind_eq h (j := 3) (n := 1) (by rw [e]; decide)
  omega
theorem Cm.nums {xs : List NumT} {ts : List KT} (h : Lst NumR xs ts) : Cm (listP numP) xs ts [] := Cm.list (keeps_com Keeps.num) (st := pm) (by decide) (fun x ts hx => by
  obtain ⟨h, rfl⟩ := hx
  obtain ⟨k, w, us, e, hk, ht⟩ := tkN_first h
  exact ⟨Cm.num h, k, w, us, e, tok_nsign ht hk⟩) h
theorem Cm.binds {xs : List BindT} {ts : List KT} (h : Lst BindR xs ts) : Cm (listP bindP) xs ts [] := Cm.list (keeps_com Keeps.binding) (st := []) (by decide) (fun x ts hx => by
  obtain ⟨h, h2, rfl⟩ := hx
  exact ⟨Cm.binding h h2 [], 1, _, _, rfl, name_nsign h (by decide)⟩) h
theorem Cm.names {xs : List By} {ts : List KT} (h : Lst NameR xs ts) : Cm (listP nameP) xs ts [] := Cm.list (keeps_com Keeps.name) (st := []) (by decide) (fun x ts hx => by
  obtain ⟨h, rfl⟩ := hx
  exact ⟨Cm.name h [], 1, _, _, rfl, name_nsign h (by decide)⟩) h
theorem Sd.nums : Sd (listP numP) (Lst NumR) := Sd.list (keeps_com Keeps.num) Sd.num
theorem Sd.binds : Sd (listP bindP) (Lst BindR) := Sd.list (keeps_com Keeps.binding) Sd.binding
theorem Sd.names : Sd (listP nameP) (Lst NameR) := Sd.list (keeps_com Keeps.name) Sd.name
theorem Cm.bracket {d : NumT} (h : NumOK d) (st : List By) : Cm bracketP d ((3, s_lsq) :: tkN d ++ ([(3, s_rsq)] ++ [])) st := (Cm.behind 3 s_lsq (Cm.num h)).bind ((Cm.expect 3 s_rsq []).bind (Cm.pure _ _) (Nx.nil _ _)) (by show s_rsq ∉ pm; decide)
theorem Sd.bracket : Sd bracketP (fun d ts => NumOK d ∧ ts = (3, s_lsq) :: tkN d ++ ([(3, s_rsq)] ++ [])) :=
  (Sd.behind (w := s_lsq) (k := 3) (n := 1) (P := fun d ts => NumOK d ∧ ts = (3, s_lsq) :: tkN d) (by decide) (by decide) (Sd.num.mono fun w ts h => ⟨h.1, by rw [h.2]⟩)).bind fun d a ha => (Sd.expect (w := s_rsq) (k := 3) (n := 1) (by decide) (by decide)).bind fun _ c hc => Sd.pure ⟨ha.1, by rw [ha.2, hc]⟩
theorem Sd.behindW {w : By} {k n : Nat} (hw : tok w = (k, n)) (h0 : w ≠ []) : Sd (Sy.behind w numP) (fun x ts => NumOK x ∧ ts = (k, w) :: tkN x) := Sd.behind hw h0 (Sd.num.mono fun w ts h => ⟨h.1, by rw [h.2]⟩)
theorem Sd.exprW {w : By} {k n : Nat} (hw : tok w = (k, n)) (h0 : w ≠ []) : Sd (Sy.exprB w) (fun x ts => ∃ ta, EOK 8 x ta ∧ ts = (k, w) :: ta) := Sd.behind hw h0 ((Sd.expr 8).mono fun x ts h => ⟨ts, h, rfl⟩)
def ist : List By := [s_lsq, s_plus, s_minus]
theorem Cm.itemW {w : By} {p : PM ItemT} {x : ItemT} {ts : List KT} {st : List By} (hf : itemsT.find? (fun y => y.1 == w) = some (w, p)) (h : Cm p x ts st) : Cm itemP x ([(1, w)] ++ ts) st := fun l r hl hlr ht hr => by
  obtain ⟨t, m, rfl, h1, h2, h3⟩ := Tks.cons ht
  unfold itemP
  rw [show (nextT (t :: m)).text = w from h2, hf]
  refine h m r ?_ hlr h3 hr
  exact Tks.lt hl hlr (a := [(t.kind, t.text)]) ⟨[t], rfl, rfl⟩ h3
inductive IOK : ItemT → List KT → Prop
  | input {n : By} {w : NumT} (hn : NameT n) (hw : NumOK w) : IOK { item0 with kind := 1, name := n, width := w } ([(1, w_in)] ++ ([(1, n)] ++ ((3, s_colon) :: tkN w ++ [])))
  | output {n : By} {w : NumT} (hn : NameT n) (hw : NumOK w) : IOK { item0 with kind := 2, name := n, width := w } ([(1, w_out)] ++ ([(1, n)] ++ ((3, s_colon) :: tkN w ++ [])))
  | channel {n : By} {w : NumT} {d : NumT} (hn : NameT n) (hw : NumOK w) (hd : NumOK d) : IOK { item0 with kind := 3, name := n, width := w, depth := d } ([(1, w_chan)] ++ ([(1, n)] ++ ((3, s_colon) :: tkN w ++ ((3, s_lsq) :: tkN d ++ ([(3, s_rsq)] ++ []) ++ []))))
  | register {n : By} {w : NumT} {i : NumT} {a : ExprT} {ta : List KT} {ru : RuleT} {tr : List KT} (hn : NameT n) (hw : NumOK w) (hi : NumOK i) (ha : EOK 8 a ta) (hru : ROK ru tr) : IOK { item0 with kind := 4, name := n, width := w, init := i, a := a, rule := ru } ([(1, w_reg)] ++ ([(1, n)] ++ ((3, s_colon) :: tkN w ++ ((3, s_eqs) :: tkN i ++ ((3, s_arrow) :: ta ++ (tr ++ []))))))
  | wire {n : By} {w : NumT} {a : ExprT} {ta : List KT} (hn : NameT n) (hw : NumOK w) (ha : EOK 8 a ta) : IOK { item0 with kind := 5, name := n, width := w, a := a } ([(1, w_wire)] ++ ([(1, n)] ++ ((3, s_colon) :: tkN w ++ ((3, s_eqs) :: ta ++ []))))
  | memory {n : By} {w : NumT} {d : NumT} {a : ExprT} {ta : List KT} {b : ExprT} {tb : List KT} {c : ExprT} {tc : List KT} {ru : RuleT} {tr : List KT} (hn : NameT n) (hw : NumOK w) (hd : NumOK d) (ha : EOK 8 a ta) (hb : EOK 8 b tb) (hc : EOK 8 c tc) (hru : ROK ru tr) : IOK { item0 with kind := 6, name := n, width := w, depth := d, a := a, b := b, c := c, rule := ru } ([(1, w_mem)] ++ ([(1, n)] ++ ((3, s_colon) :: tkN w ++ ((3, s_lsq) :: tkN d ++ ([(3, s_rsq)] ++ []) ++ ((1, w_if) :: ta ++ ((1, w_at) :: tb ++ ((3, s_eqs) :: tc ++ (tr ++ []))))))))
  | take {n : By} {a : ExprT} {ta : List KT} (hn : NameT n) (ha : EOK 8 a ta) : IOK { item0 with kind := 7, name := n, a := a } ([(1, w_take)] ++ ([(1, n)] ++ ((1, w_if) :: ta ++ [])))
  | put {n : By} {a : ExprT} {ta : List KT} {b : ExprT} {tb : List KT} (hn : NameT n) (ha : EOK 8 a ta) (hb : EOK 8 b tb) : IOK { item0 with kind := 8, name := n, a := a, b := b } ([(1, w_put)] ++ ([(1, n)] ++ ((1, w_if) :: ta ++ ((3, s_eqs) :: tb ++ []))))
  | inst {n : By} {o : By} {ar : List NumT} {lar : List KT} {ps : List BindT} {lps : List KT} (hn : NameT n) (ho : NameT o) (har : Lst NumR ar lar) (hps : Lst BindR ps lps) : IOK { item0 with kind := 9, name := n, of_ := o, args := ar, ports := ps } ([(1, w_inst)] ++ ([(1, n)] ++ ([(3, s_colon)] ++ ([(1, o)] ++ (lar ++ (lps ++ []))))))
theorem nx_rule {x : RuleT} {ts us : List KT} {st' : List By} (h : ROK x ts) : Nx (ts ++ us) [s_lsq] st' := by
  obtain ⟨w, vs, rfl, hw⟩ := h.next
  show w ∉ [s_lsq]
  have : ∀ w ∈ [w_init, w_keep, w_copy, w_add], w ∉ [s_lsq] := by decide
  exact this w hw
theorem Cm.item {x : ItemT} {ts : List KT} (h : IOK x ts) : Cm itemP x ts ist := by
  cases h with
  | input hn hw => exact Cm.itemW (p := inputP) rfl ((Cm.name hn []).bind ((Cm.behind 3 s_colon (Cm.num hw)).bind (Cm.pure _ ist) (by show ∀ w ∈ pm, w ∈ ist; decide)) (Nx.nil _ _))
  | output hn hw => exact Cm.itemW (p := outputP) rfl ((Cm.name hn []).bind ((Cm.behind 3 s_colon (Cm.num hw)).bind (Cm.pure _ ist) (by show ∀ w ∈ pm, w ∈ ist; decide)) (Nx.nil _ _))
  | channel hn hw hd => exact Cm.itemW (p := channelP) rfl ((Cm.name hn []).bind ((Cm.behind 3 s_colon (Cm.num hw)).bind ((Cm.bracket hd []).bind (Cm.pure _ ist) (Nx.nil _ _)) (by show s_lsq ∉ pm; decide)) (Nx.nil _ _))
  | register hn hw hi ha hru => have hnr := fun us st' => nx_rule (us := us) (st' := st') hru; exact Cm.itemW (p := registerP) rfl ((Cm.name hn []).bind ((Cm.behind 3 s_colon (Cm.num hw)).bind ((Cm.behind 3 s_eqs (Cm.num hi)).bind ((Cm.behind 3 s_arrow (Cm.expr ha)).bind ((Cm.rule hru []).bind (Cm.pure _ ist) (Nx.nil _ _)) (hnr _ _)) (by show s_arrow ∉ pm; decide)) (by show s_eqs ∉ pm; decide)) (Nx.nil _ _))
  | wire hn hw ha => exact Cm.itemW (p := wireP) rfl ((Cm.name hn []).bind ((Cm.behind 3 s_colon (Cm.num hw)).bind ((Cm.behind 3 s_eqs (Cm.expr ha)).bind (Cm.pure _ ist) (by show ∀ w ∈ [s_lsq], w ∈ ist; decide)) (by show s_eqs ∉ pm; decide)) (Nx.nil _ _))
  | memory hn hw hd ha hb hc hru => have hnr := fun us st' => nx_rule (us := us) (st' := st') hru; exact Cm.itemW (p := memoryP) rfl ((Cm.name hn []).bind ((Cm.behind 3 s_colon (Cm.num hw)).bind ((Cm.bracket hd []).bind ((Cm.behind 1 w_if (Cm.expr ha)).bind ((Cm.behind 1 w_at (Cm.expr hb)).bind ((Cm.behind 3 s_eqs (Cm.expr hc)).bind ((Cm.rule hru []).bind (Cm.pure _ ist) (Nx.nil _ _)) (hnr _ _)) (by show s_eqs ∉ [s_lsq]; decide)) (by show w_at ∉ [s_lsq]; decide)) (Nx.nil _ _)) (by show s_lsq ∉ pm; decide)) (Nx.nil _ _))
  | take hn ha => exact Cm.itemW (p := takeP) rfl ((Cm.name hn []).bind ((Cm.behind 1 w_if (Cm.expr ha)).bind (Cm.pure _ ist) (by show ∀ w ∈ [s_lsq], w ∈ ist; decide)) (Nx.nil _ _))
  | put hn ha hb => exact Cm.itemW (p := putP) rfl ((Cm.name hn []).bind ((Cm.behind 1 w_if (Cm.expr ha)).bind ((Cm.behind 3 s_eqs (Cm.expr hb)).bind (Cm.pure _ ist) (by show ∀ w ∈ [s_lsq], w ∈ ist; decide)) (by show s_eqs ∉ [s_lsq]; decide)) (Nx.nil _ _))
  | inst hn ho har hps => exact Cm.itemW (p := instP) rfl ((Cm.name hn []).bind ((Cm.expect 3 s_colon []).bind ((Cm.name ho []).bind ((Cm.nums har).bind ((Cm.binds hps).bind (Cm.pure _ ist) (Nx.nil _ _)) (Nx.nil _ _)) (Nx.nil _ _)) (Nx.nil _ _)) (Nx.nil _ _))
theorem Sd.input : Sd inputP (fun x ts => IOK x ([(1, w_in)] ++ ts)) := Sd.name.bind fun n a0 q0 => (Sd.behindW (w := s_colon) (k := 3) (n := 1) (by decide) (by decide)).bind fun w a1 q1 => Sd.pure (by obtain ⟨hn, rfl⟩ := q0; obtain ⟨hw, rfl⟩ := q1; simpa using IOK.input hn hw)
theorem Sd.output : Sd outputP (fun x ts => IOK x ([(1, w_out)] ++ ts)) := Sd.name.bind fun n a0 q0 => (Sd.behindW (w := s_colon) (k := 3) (n := 1) (by decide) (by decide)).bind fun w a1 q1 => Sd.pure (by obtain ⟨hn, rfl⟩ := q0; obtain ⟨hw, rfl⟩ := q1; simpa using IOK.output hn hw)
theorem Sd.channel : Sd channelP (fun x ts => IOK x ([(1, w_chan)] ++ ts)) := Sd.name.bind fun n a0 q0 => (Sd.behindW (w := s_colon) (k := 3) (n := 1) (by decide) (by decide)).bind fun w a1 q1 => Sd.bracket.bind fun d a2 q2 => Sd.pure (by obtain ⟨hn, rfl⟩ := q0; obtain ⟨hw, rfl⟩ := q1; obtain ⟨hd, rfl⟩ := q2; simpa using IOK.channel hn hw hd)
theorem Sd.register : Sd registerP (fun x ts => IOK x ([(1, w_reg)] ++ ts)) := Sd.name.bind fun n a0 q0 => (Sd.behindW (w := s_colon) (k := 3) (n := 1) (by decide) (by decide)).bind fun w a1 q1 => (Sd.behindW (w := s_eqs) (k := 3) (n := 1) (by decide) (by decide)).bind fun i a2 q2 => (Sd.exprW (w := s_arrow) (k := 3) (n := 2) (by decide) (by decide)).bind fun a a3 q3 => Sd.rule.bind fun ru a4 hru => Sd.pure (by obtain ⟨hn, rfl⟩ := q0; obtain ⟨hw, rfl⟩ := q1; obtain ⟨hi, rfl⟩ := q2; obtain ⟨ta, ha, rfl⟩ := q3; skip; simpa using IOK.register hn hw hi ha hru)
theorem Sd.wire : Sd wireP (fun x ts => IOK x ([(1, w_wire)] ++ ts)) := Sd.name.bind fun n a0 q0 => (Sd.behindW (w := s_colon) (k := 3) (n := 1) (by decide) (by decide)).bind fun w a1 q1 => (Sd.exprW (w := s_eqs) (k := 3) (n := 1) (by decide) (by decide)).bind fun a a2 q2 => Sd.pure (by obtain ⟨hn, rfl⟩ := q0; obtain ⟨hw, rfl⟩ := q1; obtain ⟨ta, ha, rfl⟩ := q2; simpa using IOK.wire hn hw ha)
theorem Sd.memory : Sd memoryP (fun x ts => IOK x ([(1, w_mem)] ++ ts)) := Sd.name.bind fun n a0 q0 => (Sd.behindW (w := s_colon) (k := 3) (n := 1) (by decide) (by decide)).bind fun w a1 q1 => Sd.bracket.bind fun d a2 q2 => (Sd.exprW (w := w_if) (k := 1) (n := 2) (by decide) (by decide)).bind fun a a3 q3 => (Sd.exprW (w := w_at) (k := 1) (n := 2) (by decide) (by decide)).bind fun b a4 q4 => (Sd.exprW (w := s_eqs) (k := 3) (n := 1) (by decide) (by decide)).bind fun c a5 q5 => Sd.rule.bind fun ru a6 hru => Sd.pure (by obtain ⟨hn, rfl⟩ := q0; obtain ⟨hw, rfl⟩ := q1; obtain ⟨hd, rfl⟩ := q2; obtain ⟨ta, ha, rfl⟩ := q3; obtain ⟨tb, hb, rfl⟩ := q4; obtain ⟨tc, hc, rfl⟩ := q5; skip; simpa using IOK.memory hn hw hd ha hb hc hru)
theorem Sd.take : Sd takeP (fun x ts => IOK x ([(1, w_take)] ++ ts)) := Sd.name.bind fun n a0 q0 => (Sd.exprW (w := w_if) (k := 1) (n := 2) (by decide) (by decide)).bind fun a a1 q1 => Sd.pure (by obtain ⟨hn, rfl⟩ := q0; obtain ⟨ta, ha, rfl⟩ := q1; simpa using IOK.take hn ha)
theorem Sd.put : Sd putP (fun x ts => IOK x ([(1, w_put)] ++ ts)) := Sd.name.bind fun n a0 q0 => (Sd.exprW (w := w_if) (k := 1) (n := 2) (by decide) (by decide)).bind fun a a1 q1 => (Sd.exprW (w := s_eqs) (k := 3) (n := 1) (by decide) (by decide)).bind fun b a2 q2 => Sd.pure (by obtain ⟨hn, rfl⟩ := q0; obtain ⟨ta, ha, rfl⟩ := q1; obtain ⟨tb, hb, rfl⟩ := q2; simpa using IOK.put hn ha hb)
theorem Sd.inst : Sd instP (fun x ts => IOK x ([(1, w_inst)] ++ ts)) := Sd.name.bind fun n a0 q0 => (Sd.expect (w := s_colon) (k := 3) (n := 1) (by decide) (by decide)).bind fun _ a1 q1 => Sd.name.bind fun o a2 q2 => Sd.nums.bind fun ar a3 har => Sd.binds.bind fun ps a4 hps => Sd.pure (by obtain ⟨hn, rfl⟩ := q0; subst q1; obtain ⟨ho, rfl⟩ := q2; skip; skip; simpa using IOK.inst hn ho har hps)
theorem Sd.item : Sd itemP IOK := fun l x r hl he => by
  unfold itemP at he
  cases hf : itemsT.find? (fun x => x.1 == (nextT l).text) with
  | none => rw [hf] at he; cases he
  | some y =>
    rw [hf] at he
    replace he : y.2 l.tail = .ok x r := he
    have hm := List.mem_of_find?_eq_some hf
    have ht : y.1 = (nextT l).text := by have := List.find?_some hf; simpa using this
    have key : ∀ (w : By) (n : Nat) (p : PM ItemT), y = (w, p) → tok w = (1, n) → w ≠ [] → Sd p (fun x ts => IOK x ([(1, w)] ++ ts)) → LT r ∧ ∃ ts, Tks l ts r ∧ IOK x ts := fun w n p e hw h0 hp => by
      subst e
      have hne : (nextT l).text ≠ [] := by rw [← ht]; exact h0
      obtain ⟨g1, us, g2, g3⟩ := hp l.tail x r (hl.tail hne) he
      refine ⟨g1, [(1, w)] ++ us, Tks.app ?_ g2, g3⟩
      have h1 := Tks.one hl
      rcases hl.next with q | q
      · have q1 := q.1
        have e : kt (nextT l) = (1, w) := by
          show ((nextT l).kind, (nextT l).text) = _
          rw [← ht] at q1 ⊢
          rw [tok_kind_eq q1 hw]
        rwa [e] at h1
      · exact absurd q.2.1 hne
    simp only [itemsT, List.mem_cons, List.not_mem_nil, or_false] at hm
    rcases hm with hm | hm | hm | hm | hm | hm | hm | hm | hm
    · exact key w_in 2 _ hm (by decide) (by decide) Sd.input
    · exact key w_out 3 _ hm (by decide) (by decide) Sd.output
    · exact key w_chan 4 _ hm (by decide) (by decide) Sd.channel
    · exact key w_reg 3 _ hm (by decide) (by decide) Sd.register
    · exact key w_wire 4 _ hm (by decide) (by decide) Sd.wire
    · exact key w_mem 3 _ hm (by decide) (by decide) Sd.memory
    · exact key w_take 4 _ hm (by decide) (by decide) Sd.take
    · exact key w_put 3 _ hm (by decide) (by decide) Sd.put
    · exact key w_inst 4 _ hm (by decide) (by decide) Sd.inst
end Sy
end Go.Proofs.YtggeepimihhpjaaGreatDoor
