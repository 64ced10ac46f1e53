/- Where reading fails; what is printed of what was parsed. The law's small functions: parsed, printed, tokens. The law's tokens. The reference's comparisons: lists of strings. -/
import Derived.Test.YtggeepimihhpjaaGreatDoorTI
import Derived.Test.YtggeepimihhpjaaGreatDoorTO
namespace Go.Proofs.YtggeepimihhpjaaGreatDoor
open Lx Go.Lib
namespace Sy
set_option linter.unusedVariables false
set_option linter.unusedSimpArgs false

structure KF {α : Type} (m : PM α) (k : Nat) : Prop where
  keep : Keeps m k
  no : ∀ l a, LT l → m l = .no a → ∃ d r, l = d ++ r ∧ LT r ∧ a = (nextT r).at_
theorem no_here {l : List Tk} (hl : LT l) : ∃ d r, l = d ++ r ∧ LT r ∧ (nextT l).at_ = (nextT r).at_ := ⟨[], l, rfl, hl, rfl⟩
theorem KF.mono {α : Type} {m : PM α} {k j : Nat} (h : KF m k) (hj : j ≤ k) : KF m j := ⟨h.keep.mono hj, h.no⟩
theorem KF.z {α : Type} {m : PM α} {k : Nat} (h : KF m k) : KF m 0 := h.mono (Nat.zero_le _)
theorem KF.pure {α : Type} (x : α) : KF (Pure.pure x : PM α) 0 := ⟨Keeps.pure x, fun l a hl he => by cases he⟩
theorem KF.bind {α β : Type} {m : PM α} {f : α → PM β} {j k : Nat} (h : KF m j) (hf : ∀ x, KF (f x) k) : KF (m >>= f) (j + k) := ⟨h.keep.bind fun x => (hf x).keep, fun l a hl he => by
  cases hm : m l with
  | no b => rw [bind_no hm] at he; injection he with he; subst he; exact h.no l b hl hm
  | ok x l1 =>
    rw [bind_ok hm] at he
    obtain ⟨a1, a2, d1, a3⟩ := h.keep.out l x l1 hl hm
    obtain ⟨d, r, b1, b2, b3⟩ := (hf x).no l1 a a1 he
    exact ⟨d1 ++ d, r, by rw [a3, b1, List.append_assoc], b2, b3⟩⟩
theorem KF.bind0 {α β : Type} {m : PM α} {f : α → PM β} {j : Nat} (h : KF m j) (hf : ∀ x, KF (f x) 0) : KF (m >>= f) j := KF.bind h hf
theorem KF.ite {α : Type} {m n : PM α} {k : Nat} {b : Bool} (h1 : KF m k) (h2 : KF n k) : KF (if b = true then m else n) k := by
  cases b
  · exact h2
  · exact h1
theorem KF.accept {w : By} (hw : w ≠ []) : KF (Sy.accept w) 0 := ⟨Keeps.accept hw, fun l a hl he => by unfold Sy.accept at he; split at he <;> cases he⟩
theorem KF.expect {w : By} (hw : w ≠ []) : KF (Sy.expect w) 1 := ⟨Keeps.expect hw, fun l a hl he => by
  unfold Sy.expect at he
  split at he
  · cases he
  · injection he with he; subst he; exact no_here hl⟩
theorem KF.name : KF nameP 1 := ⟨Keeps.name, fun l a hl he => by
  unfold nameP at he
  split at he
  · injection he with he; subst he; exact no_here hl
  · cases he⟩
theorem KF.number (k : Nat) : KF (numberP k) 1 := ⟨Keeps.number k, fun l a hl he => by
  unfold numberP at he
  split at he
  · injection he with he; subst he; exact no_here hl
  · cases he⟩
theorem KF.refuse {α : Type} {k : Nat} : KF (Sy.refuse : PM α) k := ⟨Keeps.refuse, fun l a hl he => by injection he with he; subst he; exact no_here hl⟩
theorem KF.loop {α : Type} {stop : By} {step : α → PM α} (hw : stop ≠ []) (hs : ∀ a, KF (step a) 1) (a : α) : KF (loopP stop step a) 1 := by
  refine ⟨Keeps.loop hw (fun a => (hs a).keep) a, fun l => ?_⟩
  generalize hn : l.length = n
  induction n using Nat.strongRecOn generalizing l a with
  | _ n ih =>
    subst hn
    intro x hl he
    rw [loopP_step (fun a => (hs a).keep) hl] at he
    split at he
    · cases he
    · cases hm : step a l with
      | no e => rw [hm] at he; injection he with he; subst he; exact (hs a).no l e hl hm
      | ok b l1 =>
        rw [hm] at he
        obtain ⟨h1, h2, d, h3⟩ := (hs a).keep.out l b l1 hl hm
        obtain ⟨d2, r, k1, k2, k3⟩ := ih l1.length (by omega) b l1 rfl x h1 he
        exact ⟨d ++ d2, r, by rw [h3, k1, List.append_assoc], k2, k3⟩
theorem KF.behind {α : Type} {w : By} (hw : w ≠ []) {m : PM α} {k : Nat} (h : KF m k) : KF (behind w m) (1 + k) := KF.bind (KF.expect hw) fun _ => h
theorem KF.list {α : Type} {part : PM α} (h : KF part 1) : KF (listP part) 1 :=
  KF.bind0 (KF.expect (by decide)) fun _ => (KF.accept (by decide)).bind0 fun b => KF.ite (KF.pure _) ((h.mono (Nat.zero_le _)).bind0 fun x =>
    (KF.loop (by decide) (fun acc => (KF.expect (by decide)).bind0 fun _ => (h.mono (Nat.zero_le _)).bind0 fun y => KF.pure _) _).mono (Nat.zero_le _))
theorem KF.num : KF numP 1 := ⟨Keeps.num, fun l a hl he => by
  have h1 : KF (do let n ← numberP 0; Pure.pure ⟨n, []⟩ : PM NumT) 1 := (KF.number 0).bind0 fun _ => KF.pure _
  have h2 : KF (do
    let p ← nameP
    if ← Sy.accept s_plus then do
      let n ← numberP 1
      Pure.pure ⟨n, p⟩
    else if ← Sy.accept s_minus then do
      let n ← numberP 1
      Pure.pure ⟨-n, p⟩
    else Pure.pure ⟨0, p⟩ : PM NumT) 1 := KF.name.bind0 fun p => (KF.accept (by decide)).bind0 fun b => KF.ite ((KF.number 1).z.bind0 fun n => KF.pure _) ((KF.accept (by decide)).bind0 fun b => KF.ite ((KF.number 1).z.bind0 fun n => KF.pure _) (KF.pure _))
  unfold numP at he
  split at he
  · exact h1.no l a hl he
  · exact h2.no l a hl he⟩
theorem KF.acc {α : Type} {w : By} (hw : w ≠ []) {m n : PM α} {k : Nat} (h1 : KF m k) (h2 : KF n k) : KF (do if ← Sy.accept w then m else n : PM α) k := by
  have := (KF.accept hw).bind fun b => KF.ite (b := b) h1 h2
  rwa [Nat.zero_add] at this
theorem KF.const : KF constP 1 := KF.num.bind0 fun k => (KF.behind (by decide) KF.num).z.bind0 fun w => (KF.expect (by decide)).z.bind0 fun _ => KF.pure _
theorem KF.bracket : KF bracketP 1 := (KF.behind (by decide) KF.num).mono (by omega) |>.bind0 fun n => (KF.expect (by decide)).z.bind0 fun _ => KF.pure _
theorem KF.operator : KF operatorP 1 := ⟨Keeps.operator, fun l a hl he => by
  unfold operatorP at he
  split at he
  · injection he with he; subst he; exact no_here hl
  · cases he⟩
theorem KF.operation {e : PM ExprT} (h : KF e 1) : KF (operationP e) 1 := h.bind0 fun a => KF.acc (by decide)
  (h.z.bind0 fun b => (KF.expect (by decide)).z.bind0 fun _ => h.z.bind0 fun c => (KF.expect (by decide)).z.bind0 fun _ => KF.pure _)
  (KF.operator.z.bind0 fun op => h.z.bind0 fun b => (KF.expect (by decide)).z.bind0 fun _ => KF.pure _)
theorem KF.resized {e : PM ExprT} (h : KF e 1) : KF (resizedP e) 1 := h.bind0 fun a => KF.acc (by decide)
  (KF.num.z.bind0 fun k => (KF.behind (by decide) KF.num).z.bind0 fun w => (KF.expect (by decide)).z.bind0 fun _ => KF.pure _)
  ((KF.behind (by decide) KF.num).z.bind0 fun w => (KF.expect (by decide)).z.bind0 fun _ => KF.pure _)
theorem KF.ref0 : KF (refP none) 1 := KF.name.bind0 fun nm => KF.pure _
theorem KF.ref1 {e : PM ExprT} (h : KF e 1) : KF (refP (some e)) 1 := KF.name.bind0 fun nm => KF.acc (by decide)
  (h.z.bind0 fun a => (KF.expect (by decide)).z.bind0 fun _ => KF.pure _) (KF.pure _)
theorem KF.expr : ∀ n, KF (exprP n) 1
  | 0 => KF.refuse
  | 1 => KF.acc (by decide) KF.const KF.ref0
  | m + 2 => by
    have h := KF.expr (m + 1)
    exact KF.acc (by decide) KF.const (KF.acc (by decide) (h.bind0 fun a => KF.pure _) (KF.acc (by decide) (KF.operation h) (KF.acc (by decide) (KF.resized h) (KF.ref1 h))))
theorem KF.exprB {w : By} (hw : w ≠ []) : KF (exprB w) 1 := (KF.behind hw (KF.expr 8)).mono (by omega)
theorem KF.rule : KF ruleP 0 := KF.acc (by decide) (KF.pure _) (KF.acc (by decide) (KF.pure _) (KF.acc (by decide) (KF.name.z.bind0 fun f => KF.pure _)
  ((KF.expect (by decide)).z.bind0 fun _ => KF.name.z.bind0 fun f => (KF.number 0).z.bind0 fun n => KF.pure _)))
theorem KF.binding : KF bindP 1 := KF.name.bind0 fun p => (KF.expect (by decide)).z.bind0 fun _ => KF.name.z.bind0 fun c => KF.pure _
theorem KF.input : KF inputP 0 := KF.name.z.bind0 fun n => (KF.behind (by decide) KF.num).z.bind0 fun w => KF.pure _
theorem KF.output : KF outputP 0 := KF.name.z.bind0 fun n => (KF.behind (by decide) KF.num).z.bind0 fun w => KF.pure _
theorem KF.channel : KF channelP 0 := KF.name.z.bind0 fun n => (KF.behind (by decide) KF.num).z.bind0 fun w => KF.bracket.z.bind0 fun d => KF.pure _
theorem KF.register : KF registerP 0 := KF.name.z.bind0 fun n => (KF.behind (by decide) KF.num).z.bind0 fun w => (KF.behind (by decide) KF.num).z.bind0 fun i => (KF.exprB (by decide)).z.bind0 fun a => KF.rule.bind0 fun r => KF.pure _
theorem KF.wire : KF wireP 0 := KF.name.z.bind0 fun n => (KF.behind (by decide) KF.num).z.bind0 fun w => (KF.exprB (by decide)).z.bind0 fun a => KF.pure _
theorem KF.memory : KF memoryP 0 := KF.name.z.bind0 fun n => (KF.behind (by decide) KF.num).z.bind0 fun w => KF.bracket.z.bind0 fun d => (KF.exprB (by decide)).z.bind0 fun a => (KF.exprB (by decide)).z.bind0 fun b => (KF.exprB (by decide)).z.bind0 fun c => KF.rule.bind0 fun r => KF.pure _
theorem KF.take : KF takeP 0 := KF.name.z.bind0 fun n => (KF.exprB (by decide)).z.bind0 fun a => KF.pure _
theorem KF.put : KF putP 0 := KF.name.z.bind0 fun n => (KF.exprB (by decide)).z.bind0 fun a => (KF.exprB (by decide)).z.bind0 fun b => KF.pure _
theorem KF.inst : KF instP 0 := KF.name.z.bind0 fun n => (KF.expect (by decide)).z.bind0 fun _ => KF.name.z.bind0 fun o => (KF.list KF.num).z.bind0 fun ar => (KF.list KF.binding).z.bind0 fun ps => KF.pure _
theorem items_kf : ∀ x ∈ itemsT, KF x.2 0 := by
  intro x hx
  simp only [itemsT, List.mem_cons, List.not_mem_nil, or_false] at hx
  rcases hx with rfl | rfl | rfl | rfl | rfl | rfl | rfl | rfl | rfl
  · exact KF.input
  · exact KF.output
  · exact KF.channel
  · exact KF.register
  · exact KF.wire
  · exact KF.memory
  · exact KF.take
  · exact KF.put
  · exact KF.inst
theorem KF.item : KF itemP 1 := ⟨Keeps.item, fun l a hl he => by
  unfold itemP at he
  split at he
  · injection he with he; subst he; exact no_here hl
  · rename_i y hy
    obtain ⟨h3, h4⟩ := find_mem hy
    have h5 : y.1 = (nextT l).text := by simpa using h4
    obtain ⟨q, b, d1, c⟩ := taken hl (hl.kind4 (by rw [← h5]; exact items_word y h3))
    obtain ⟨d2, r, e1, e2, e3⟩ := (items_kf y h3).no _ _ q he
    exact ⟨d1 ++ d2, r, by rw [List.append_assoc, ← e1]; exact c, e2, e3⟩⟩
theorem KF.itemStep (acc : List ItemT) : KF (do let i ← itemP; Sy.expect s_semi; Pure.pure (acc ++ [i]) : PM (List ItemT)) 1 := KF.item.bind0 fun i => (KF.expect (by decide)).z.bind0 fun _ => KF.pure _
theorem KF.module : KF moduleP 1 := (KF.expect (by decide)).bind0 fun _ => KF.name.z.bind0 fun n => (KF.list KF.name).z.bind0 fun ps => (KF.expect (by decide)).z.bind0 fun _ => KF.name.z.bind0 fun c => (KF.expect (by decide)).z.bind0 fun _ =>
  (KF.loop (by decide) KF.itemStep _).z.bind0 fun is => KF.pure _
theorem KF.moduleStep (acc : FileT) : KF (do let m ← moduleP; Pure.pure (acc ++ [m]) : PM FileT) 1 := KF.module.bind0 fun m => KF.pure _
theorem file_no : ∀ (N : Nat) (l : List Tk) (acc : FileT) (a : Nat), l.length = N → LT l → loopP [] (fun acc => do let m ← moduleP; Pure.pure (acc ++ [m])) acc l = .no a → ∃ d r, l = d ++ r ∧ LT r ∧ a = (nextT r).at_ := by
  intro N
  induction N using Nat.strongRecOn with
  | _ N ih =>
    intro l acc a hN hl he
    rw [loopP_step Keeps.moduleStep hl] at he
    split at he
    · cases he
    · cases hm : (do let m ← moduleP; Pure.pure (acc ++ [m]) : PM FileT) l with
      | no e => rw [hm] at he; injection he with he; subst he; exact (KF.moduleStep acc).no l e hl hm
      | ok b l1 =>
        rw [hm] at he
        obtain ⟨h1, h2, d, h3⟩ := (Keeps.moduleStep acc).out l b l1 hl hm
        obtain ⟨d2, r, k1, k2, k3⟩ := ih l1.length (by omega) l1 b a rfl h1 he
        exact ⟨d ++ d2, r, by rw [h3, k1, List.append_assoc], k2, k3⟩
theorem lex_at_le : ∀ (l : By) (a : Nat), ∀ t ∈ (lex a l).1, t.at_ ≤ a + l.length := by
  intro l
  refine lex_ind (P := fun l => ∀ a, ∀ t ∈ (lex a l).1, t.at_ ≤ a + l.length) ?_ ?_ ?_ ?_ ?_ l
  · intro a t ht; cases ht
  · intro c r h ih a t ht
    rw [lex_sp h] at ht
    have := ih _ t ht
    simp only [List.length_cons]; omega
  · intro c r h hc ih a t ht
    rw [lex_cm h hc] at ht
    have h1 := ih _ t ht
    have h2 := span_le notLf (c :: r)
    rw [List.length_drop] at h1
    omega
  · intro c r h hc hz a t ht; rw [lex_bad h hc hz] at ht; cases ht
  · intro c r h hc hz ih a t ht
    rw [lex_tok h hc hz] at ht
    rcases List.mem_cons.1 ht with rfl | ht
    · exact Nat.le_add_right _ _
    · have h1 := ih _ t ht
      have h2 := tok_le (c :: r)
      rw [List.length_drop] at h1
      omega
theorem lex_wt : ∀ (l : By) (a : Nat), wt ((lex a l).1.map kt) ≤ l.length := by
  intro l
  refine lex_ind (P := fun l => ∀ a, wt ((lex a l).1.map kt) ≤ l.length) ?_ ?_ ?_ ?_ ?_ l
  · intro a; exact Nat.le_refl _
  · intro c r h ih a; rw [lex_sp h]; exact Nat.le_succ_of_le (ih _)
  · intro c r h hc ih a; rw [lex_cm h hc]; exact Nat.le_trans (ih _) (by rw [List.length_drop]; omega)
  · intro c r h hc ht a; rw [lex_bad h hc ht]; exact Nat.zero_le _
  · intro c r h hc ht ih a
    rw [lex_tok h hc ht]
    have h1 := ih (a + (tok (c :: r)).2)
    have h2 := tok_le (c :: r)
    rw [List.length_drop] at h1
    rw [List.map_cons, wt_cons]
    show ((c :: r).take (tok (c :: r)).2).length + _ ≤ _
    rw [List.length_take]
    omega
theorem print_ok {f : FileT} {ts : List KT} (h : Seq MOK f ts) (hw : wt ts ≤ 2000) : ∃ T, printR f = (T, 0) ∧ T.length ≤ 8000 ∧ fileX f = some T ∧ (lex 0 T).2 = none ∧ (lex 0 T).1.map kt = ts ∧ parseR T = (f, 0, 0) := by
  obtain ⟨T, h1, h2, h3⟩ := file_tx h
  have hT : T.length ≤ 8000 := by omega
  obtain ⟨l, k1, k2⟩ := h2 [] 0
  rw [List.append_nil, lex_nil] at k1
  have k3 : (lex 0 T).2 = none := by rw [k1]
  have k4 : (lex 0 T).1.map kt = ts := by rw [k1, List.append_nil]; exact k2
  have hp : parseR T = (f, 0, 0) := parseR_iff.2 ⟨hT, k3, by rw [k4]; exact h⟩
  refine ⟨T, ?_, hT, h1, k3, k4, hp⟩
  unfold printR
  rw [h1, wr_some, if_pos (by simpa using hT), List.nil_append]
  show (if (parseR T).2.2 ≠ 0 then _ else _) = _
  rw [hp, if_neg (by simp), if_pos ((eqF_iff f f).2 rfl)]
theorem print_parsed {T0 : By} {f : FileT} (h : parseR T0 = (f, 0, 0)) (hl : T0.length ≤ 2000) : ∃ T, printR f = (T, 0) ∧ T.length ≤ 8000 ∧ (lex 0 T).2 = none ∧ (lex 0 T0).2 = none ∧ (lex 0 T).1.map kt = (lex 0 T0).1.map kt ∧ parseR T = (f, 0, 0) := by
  obtain ⟨h1, h2, h3⟩ := parseR_iff.1 h
  obtain ⟨T, a1, a2, _, a3, a4, a5⟩ := print_ok h3 (Nat.le_trans (lex_wt T0 0) hl)
  exact ⟨T, a1, a2, a3, h2, a4, a5⟩
theorem parse_no {T : By} (h : (parseR T).2.2 ≠ 0) (hl : T.length ≤ 8000) : (parseR T).1 = [] ∧ ((parseR T).2.2 = 5 ∨ (parseR T).2.2 = 90) ∧ (parseR T).2.1 ≤ T.length := by
  cases he : (lex 0 T).2 with
  | some e =>
    have e1 : parseR T = ([], e, 5) := by unfold parseR; rw [lexR_bad hl he, if_pos (by simp)]
    rw [e1]
    have := lex_before T 0 e he
    exact ⟨rfl, .inl rfl, by show e ≤ T.length; omega⟩
  | none =>
    have e0 : parseR T = match fileP ((lex 0 T).1 ++ [endT T.length]) with
      | .ok f _ => (f, 0, 0)
      | .no a => ([], a, 90) := by unfold parseR; rw [lexR_ok hl he, if_neg (by simp)]; rfl
    obtain ⟨hLT, _⟩ := lexR_good (lexR_ok hl he)
    cases hf : fileP ((lex 0 T).1 ++ [endT T.length]) with
    | ok f r => rw [e0, hf] at h; exact absurd rfl h
    | no a =>
      rw [e0, hf]
      refine ⟨rfl, .inr rfl, ?_⟩
      obtain ⟨d, r, h1, h2, h3⟩ := file_no _ _ [] a rfl hLT hf
      show a ≤ T.length
      rw [h3]
      have hm : nextT r ∈ (lex 0 T).1 ++ [endT T.length] := by
        rw [h1]
        cases r with
        | nil => exact absurd rfl h2.ne
        | cons t m => simp [nextT]
      rcases List.mem_append.1 hm with q | q
      · have := lex_at_le T 0 _ q; omega
      · rw [List.mem_singleton] at q; rw [q]; exact Nat.le_refl _
theorem parse_yes {T : By} (h : (parseR T).2.2 = 0) : parseR T = ((parseR T).1, 0, 0) := by
  unfold parseR at h ⊢
  by_cases he : (lexR T).2.2 ≠ 0
  · rw [if_pos he] at h; exact absurd h he
  · rw [if_neg he] at h ⊢
    split at h
    · rfl
    · cases h
end Sy
end Go.Proofs.YtggeepimihhpjaaGreatDoor

namespace Go.Proofs.YtggeepimihhpjaaGreatDoor
open Go.RowKit Go.Shelf Go.Lib Sl Fr Lx
namespace Sy
set_option linter.unusedVariables false
set_option linter.unusedSimpArgs false

theorem grown_cellO (W : World) (b i : Nat) (v : Value) : W.grownBy (W.setCell ⟨b, i, none⟩ v) (some b) :=
  ⟨rfl, rfl, rfl, by simp, fun k hk hne => by
    have : b ≠ k := fun e => hne (by rw [e])
    simp only [World.setCell, Array.getElem?_modify]
    rw [if_neg this]⟩
theorem keep3O {w3 W : World} {b : Nat} {v0 v1 v2 : Value} {f : FileT} {vs : List Value} {A : Option Addr} (hml : ML W (Fresh w3) f vs) (hfr : FR W (Fresh w3) A vs) (h0 : b < w3.heap.size) :
    ML (((W.setCell ⟨b, 0, none⟩ v0).setCell ⟨b, 1, none⟩ v1).setCell ⟨b, 2, none⟩ v2) (Fresh w3) f vs ∧ FR (((W.setCell ⟨b, 0, none⟩ v0).setCell ⟨b, 1, none⟩ v1).setCell ⟨b, 2, none⟩ v2) (Fresh w3) A vs := by
  have q : ∀ g, some b = some g → ¬ Fresh w3 g := fun g e hf => by injection e with e; subst e; exact absurd hf (Nat.not_le.2 h0)
  exact ⟨((hml.grown (grown_cellO _ b 0 v0) q).grown (grown_cellO _ b 1 v1) q).grown (grown_cellO _ b 2 v2) q, ((hfr.grown (grown_cellO _ b 0 v0) q).grown (grown_cellO _ b 1 v1) q).grown (grown_cellO _ b 2 v2) q⟩
def PdG (r : FileT × Nat × Nat) (w : World) (e : Ending) (w' : World) : Prop := ∃ A c vs, e = .returned (.agg #[.slice A r.1.length c, .int .i64 (r.2.1 : Int), .int .i64 (r.2.2 : Int)]) ∧ r.1.length ≤ c ∧ vs.length = r.1.length * 4 ∧ ML w' (Fresh w) r.1 vs ∧ FR w' (Fresh w) A vs ∧ Below w.heap.size w w'
set_option maxRecDepth 100000 in
set_option maxHeartbeats 8000000 in
theorem parsed_any (s : ByteArray) (w : World) (hs : s.size ≤ 281474976710656) (hv : Vars w) (hc : VarsC w) (hg : ∀ g name, Tryz.prog.globalNamed name = some g → g < w.heap.size) :
    Calls Tryz.prog 16 #[.string s] w (PdG (parseR (bys s)) w) := by
  obtain ⟨m0, bA⟩ := startO w #[.slice none 0 0, .int .i64 0, .int .i64 0] 41
  have HP := Lib.hid (fun (W : World) (hb : Below w.heap.size w W) => parse_any s W hs (hv.keep hb) (hc.keep hb) (fun g name h => Nat.lt_of_lt_of_le (hg g name h) hb.size))
  clear hv hc hg hs
  generalize parseR (bys s) = R at *
  go_enter Tryz.func16, Tryz.ntmps16
  go_upto_region 1 with fail
  generalize hXe : w.alloc (.cells #[.slice none 0 0, .int .i64 0, .int .i64 0] 41) = X at *
  clear hXe
  have HM := Lib.hid m0.boxL
  have HB := Lib.hid bA
  clear m0 bA
  go_upto_region 2 with (go_at_call 28; refine (HP.out X HB.out).mono ?_; rintro e w3 ⟨A2, c2, vs2, rfl, hcap2, hvl2, hml2, hfr2, hb3⟩)
  have b5 := (Below.refl w3.heap.size w3).alloc (Nat.le_refl _) (.cells #[.slice A2 R.1.length c2] 27)
  have m5 := (startO w3 #[.slice A2 R.1.length c2] 27).1
  generalize hYe : w3.alloc (.cells #[.slice A2 R.1.length c2] 27) = Y at *
  clear hYe
  have c5 := m5.cell (i := 0) rfl
  have y0 := (HM.out.keep hb3).keep b5
  have hbX : Below X.heap.size X Y := hb3.trans (b5.mono hb3.size)
  have hbY : Below w.heap.size w Y := HB.out.trans (hbX.mono HB.out.size)
  have hlX := HM.out.lt
  have hml5 := hml2.grown (grown_below b5) (fun g e => by cases e)
  have hfr5 := hfr2.grown (grown_below b5) (fun g e => by cases e)
  clear hml2 hfr2
  obtain ⟨k0, k1, k2⟩ := y0.c3
  obtain ⟨f0, f1, f2⟩ := y0.f3
  go_wp2_with fail
  have q := y0.s3 (.slice A2 R.1.length c2) (.int .i64 (R.2.1 : Int)) (.int .i64 (R.2.2 : Int))
  obtain ⟨s0, s1, s2⟩ := q.c3
  have zb := below_set1 (below_set1 (below_set1 hbY (Nat.le_refl _) 0 (.slice A2 R.1.length c2)) (Nat.le_refl _) 1 (.int .i64 (R.2.1 : Int))) (Nat.le_refl _) 2 (.int .i64 (R.2.2 : Int))
  obtain ⟨z1, z2⟩ := keep3O (v0 := .slice A2 R.1.length c2) (v1 := .int .i64 (R.2.1 : Int)) (v2 := .int .i64 (R.2.2 : Int)) hml5 hfr5 hlX
  have hX1 := HB.out.size
  have hfs : ∀ b, Fresh X b → Fresh w b := fun b hb => by unfold Fresh at *; omega
  exact bodyPost_ret (v := .agg #[.slice A2 R.1.length c2, .int .i64 (R.2.1 : Int), .int .i64 (R.2.2 : Int)]) (by simp [results, Tryz.results16, go_sem, s0, s1, s2]) rfl ⟨A2, c2, vs2, rfl, hcap2, hvl2, z1.mono hfs, z2.mono hfs, zb⟩
set_option maxRecDepth 100000 in
set_option maxHeartbeats 8000000 in
theorem printed_any (f : FileT) (hok : OkF f) (hsm : SmF f) (A : Option Addr) (c : Nat) (vs : List Value) (w : World) (hml : ML w (fun b => b < w.heap.size) f vs) (hfr : FR w (fun b => b < w.heap.size) A vs) (hv : Vars w) (hc : VarsC w) (hg : ∀ g name, Tryz.prog.globalNamed name = some g → g < w.heap.size) :
    Calls Tryz.prog 18 #[.agg #[.slice A f.length c]] w fun e w' => e = .returned (.agg #[.string ⟨(printR f).1.toArray⟩, .int .i64 ((printR f).2 : Int)]) ∧ Below w.heap.size w w' := by
  obtain ⟨m0, m1, bA⟩ := start2X w #[.slice A f.length c] #[.string ⟨#[]⟩, .int .i64 0] 27 33
  have HP := Lib.hid (fun (W : World) (hb : Below w.heap.size w W) => print_any f hok hsm A c vs W ((hml.grown (grown_below hb) (fun g e => by cases e)).mono (fun b h => Nat.lt_of_lt_of_le h hb.size)) ((hfr.grown (grown_below hb) (fun g e => by cases e)).mono (fun b h => Nat.lt_of_lt_of_le h hb.size)) (hv.keep hb) (hc.keep hb) (fun g name h => Nat.lt_of_lt_of_le (hg g name h) hb.size))
  clear hv hc hg hml hfr hok hsm
  generalize printR f = R at *
  go_enter Tryz.func18, Tryz.ntmps18
  go_upto_region 1 with fail
  generalize hXe : (w.alloc (.cells #[.slice A f.length c] 27)).alloc (.cells #[.string ⟨#[]⟩, .int .i64 0] 33) = X at *
  clear hXe
  have c0 := m0.cell (i := 0) rfl
  have HM := Lib.hid m1.boxL
  have HB := Lib.hid bA
  clear m0 m1 bA
  go_upto_region 2 with (go_at_call 32; refine (HP.out X HB.out).mono ?_; rintro e w3 ⟨rfl, hb3⟩)
  have y0 := HM.out.keep hb3
  have hbY : Below w.heap.size w w3 := HB.out.trans (hb3.mono HB.out.size)
  obtain ⟨k0, k1⟩ := y0.c2
  obtain ⟨f0, f1⟩ := y0.f2
  go_wp2_with fail
  have q := y0.s2 (.string ⟨R.1.toArray⟩) (.int .i64 (R.2 : Int))
  obtain ⟨s0, s1⟩ := q.c2
  have zb := below_set1 (below_set1 hbY (b := w.heap.size + 1) (by omega) 0 (.string ⟨R.1.toArray⟩)) (b := w.heap.size + 1) (by omega) 1 (.int .i64 (R.2 : Int))
  exact bodyPost_ret (v := .agg #[.string ⟨R.1.toArray⟩, .int .i64 (R.2 : Int)]) (by simp [results, Tryz.results18, go_sem, s0, s1]) rfl ⟨rfl, zb⟩
end Sy
end Go.Proofs.YtggeepimihhpjaaGreatDoor

namespace Go.Proofs.YtggeepimihhpjaaGreatDoor
open Go.RowKit Go.Shelf Go.Lib Sl Fr Lx
namespace Sy
set_option linter.unusedVariables false
set_option linter.unusedSimpArgs false

def tksR (l : By) : List Tk := if (lexR l).2.2 ≠ 0 then [] else (lexR l).1
def TkG (ts : List Tk) (w : World) (e : Ending) (w' : World) : Prop := ∃ A c, e = .returned (.slice A ts.length c) ∧ ts.length ≤ c ∧ TokF w' w.heap.size A ts ∧ Below w.heap.size w w'
set_option maxRecDepth 100000 in
set_option maxHeartbeats 8000000 in
theorem tokens_any (s : ByteArray) (w : World) (hs : s.size ≤ 281474976710656) (hv : Vars w) :
    Calls Tryz.prog 13 #[.string s] w (TkG (tksR (bys s)) w) := by
  have HL := Lib.hid (lex_any s w hs hv)
  have hr : tksR (bys s) = if (lexR (bys s)).2.2 ≠ 0 then [] else (lexR (bys s)).1 := rfl
  have HR := Lib.hid hr
  have hgd := fun ts a h => @lexR_good (bys s) ts a h
  generalize tksR (bys s) = R at *
  generalize lexR (bys s) = L at *
  obtain ⟨ts, at_, er⟩ := L
  have HGD : Hid (er = 0 → LT ts ∧ (∀ t ∈ ts, t.text.length ≤ 8000) ∧ ts.length ≤ 10000 ∧ at_ = 0) := Lib.hid (fun e => hgd ts at_ (by rw [e]))
  clear hgd hr hv hs
  go_enter Tryz.func13, Tryz.ntmps13
  go_upto_region 2 with (go_at_call 26; refine (HL.out).mono ?_; rintro e w1 ⟨A1, c1, rfl, hc1, hn1, hf1, hb1⟩)
  by_cases her : er = 0
  · subst her
    have HE : Hid (R = ts) := Lib.hid (by rw [HR.out]; rfl)
    obtain ⟨ts0, n, hts, _⟩ := (HGD.out rfl).1
    have hlen : ts.length = ts0.length + 1 := by rw [hts]; simp
    have hle := (HGD.out rfl).2.2.1
    obtain ⟨b, o, rfl, hb0, hb2, hcell⟩ := hf1 (by intro e; have := congrArg List.length e; rw [tkVs_length, hlen] at this; simp at this)
    have hcl : w1.cell? ⟨b, o + ts0.length * 3, none⟩ = some (.int .i64 4) := hcell _ _ (tkVs_get (ts := ts) (i := ts0.length) (t := ⟨4, [], n⟩) (by rw [hts]; simp)).1
    have HF := Lib.hid hf1
    clear hf1 hcell hn1 HR HL HGD
    generalize ts0.length = m at *
    have HTS := Lib.hid hts
    have HC1 := Lib.hid hc1
    have HLEN := Lib.hid hlen
    clear hts
    have hm : m ≤ 10000 := by omega
    have hm0 : ((m : Int) + 1 == 0) = false := by simp; omega
    rw [hlen]
    clear hlen hc1 hle
    go_wp2_with fail
    go_ret
    rw [HE.out]
    exact ⟨some ⟨b, o, none⟩, c1, by rw [HLEN.out]; rfl, HC1.out, HF.out, hb1⟩
  · have HE : Hid (R = []) := Lib.hid (by rw [HR.out]; exact if_pos her)
    have heb : ((er : Int) != 0) = true := by simp; omega
    go_wp2_with fail
    go_ret
    rw [HE.out]
    exact ⟨none, 0, rfl, Nat.le_refl _, TokF.nil _ _ _, hb1⟩
end Sy
end Go.Proofs.YtggeepimihhpjaaGreatDoor

namespace Go.Proofs.YtggeepimihhpjaaGreatDoor
open Go.RowKit Go.Shelf Go.Lib Sl Fr Lx
namespace Sy
set_option linter.unusedVariables false
set_option linter.unusedSimpArgs false
attribute [local go_sem high] eq_str neq_str eq_num neq_num eq_bind neq_bind eq_rule neq_rule

set_option maxRecDepth 100000 in
set_option maxHeartbeats 4000000 in
theorem rstrings (l m : List By) (A B : Option Addr) (ca cb : Nat) (w : World) (S S' : Nat → Prop) (hm : m.length ≤ 281474976710656) (hA : FR w S A (strsC l)) (hB : FR w S' B (strsC m)) :
    Calls Tryz.prog 83 #[.slice A l.length ca, .slice B m.length cb] w (RetB (eqL eqD l m) w) := by
  by_cases hlen : l.length = m.length
  · have hn : l.length ≤ 281474976710656 := by rw [hlen]; exact hm
    clear hm
    have HA := Lib.hid hA
    have HB := Lib.hid hB
    have H0 : Hid (EqAt eqD l m w (.int .i64 0) w) := Lib.hid ⟨0, rfl, Nat.zero_le _, fun j x y h => absurd h (Nat.not_lt_zero _), Below.refl _ _⟩
    have HL := Lib.hid hlen
    rw [← hlen]
    clear hA hB hlen
    go_enter Tryz.func83, Tryz.ntmps83
    go_wp2_with fail
    go_loopw [5] (EqAt eqD l m w) (fun i _ => l.length - (RowKit.intOf i).toNat)
    case atStart => exact H0.out
    case round =>
      obtain ⟨k, rfl, hk, hall, hb⟩ := hrel
      have HALL := Lib.hid hall
      have HBL := Lib.hid hb
      clear hall hb H0
      by_cases hlt : k < l.length
      · obtain ⟨x, hx⟩ : ∃ x, l[k]? = some x := ⟨l[k], List.getElem?_eq_getElem hlt⟩
        obtain ⟨y, hy⟩ : ∃ y, m[k]? = some y := ⟨m[k]'(by rw [← HL.out]; exact hlt), List.getElem?_eq_getElem _⟩
        have gA0 : (strsC l)[k]? = some (.string ⟨x.toArray⟩) := by unfold strsC; rw [List.getElem?_map, hx]; rfl
        obtain ⟨bA, oA, rfl, hbA, hcA⟩ := HA.out.get gA0
        have gB0 : (strsC m)[k]? = some (.string ⟨y.toArray⟩) := by unfold strsC; rw [List.getElem?_map, hy]; rfl
        obtain ⟨bB, oB, rfl, hbB, hcB⟩ := HB.out.get gB0
        have HX := Lib.hid hx
        have HY := Lib.hid hy
        have hblA := Nat.lt_of_lt_of_le hbA HBL.out.size
        have hblB := Nat.lt_of_lt_of_le hbB HBL.out.size
        have zA0 : ∀ p : Later wr, p.val.cell? ⟨bA, oA + k, none⟩ = some (.string ⟨x.toArray⟩) := fun p => Later.cell (a := ⟨bA, oA + k, none⟩) ((HBL.out.cell (p := ⟨bA, oA + k, none⟩) hbA).trans (hcA _ _ gA0)) hblA p
        have zB0 : ∀ p : Later wr, p.val.cell? ⟨bB, oB + k, none⟩ = some (.string ⟨y.toArray⟩) := fun p => Later.cell (a := ⟨bB, oB + k, none⟩) ((HBL.out.cell (p := ⟨bB, oB + k, none⟩) hbB).trans (hcB _ _ gB0)) hblB p
        have hi0 : ¬ (k : Int) < 0 := by omega
        have hi1 : (k : Int) < (l.length : Int) := by omega
        clear hx hy hcA hcB hbA hbB gA0 gB0
        cases hxy : decide (x = y) with
        | false =>
          have hxb : (x == y) = false := beq_eq_false_iff_ne.2 (of_decide_eq_false hxy)
          have hxn : ¬ x = y := of_decide_eq_false hxy
          go_upto_region 6 with fail
          refine wp_region_later (by kernel_rfl) (by kernel_rfl) ?_
          repeat (go_big_quiet_step (fail))
          refine wpQuiet_nil ?_
          intro _ hw'
          obtain ⟨q, hw''⟩ := hw'
          subst hw''
          have hbq := q.below
          generalize q.val = W5 at *
          clear zA0 zB0
          try rw [hxy]
          go_wp2_with fail
          go_ret
          exact ⟨by rw [eqL_no HX.out HY.out (by unfold eqD; exact hxy)]; rfl, HBL.out.trans (hbq.mono HBL.out.size)⟩
        | true =>
          have hxb : (x == y) = true := beq_iff_eq.2 (of_decide_eq_true hxy)
          go_upto_region 6 with fail
          refine wp_region_later (by kernel_rfl) (by kernel_rfl) ?_
          repeat (go_big_quiet_step (fail))
          refine wpQuiet_nil ?_
          intro _ hw'
          obtain ⟨q, hw''⟩ := hw'
          subst hw''
          have hbq := q.below
          generalize q.val = W5 at *
          clear zA0 zB0
          try rw [hxy]
          go_wp2_with fail
          go_roundw
          case rel => exact ⟨k + 1, by go_num, by omega, (fun j x' y' hj h1 h2 => by
            rcases Nat.lt_or_ge j k with h | h
            · exact HALL.out j x' y' h h1 h2
            · obtain rfl : j = k := by omega
              rw [HX.out] at h1; rw [HY.out] at h2
              injection h1 with h1; injection h2 with h2
              rw [← h1, ← h2]; unfold eqD; exact hxy), HBL.out.trans (hbq.mono HBL.out.size)⟩
          case measure => simp [RowKit.intOf]; omega
      · have hkk : k = l.length := by omega
        have HT : Hid (eqL eqD l m = true) := Lib.hid (eqL_yes HL.out fun j x y h1 h2 => HALL.out j x y (by have := (List.getElem?_eq_some_iff.1 h1).1; omega) h1 h2)
        go_wp2_with fail
        go_ret
        exact ⟨by rw [HT.out]; rfl, HBL.out⟩
  · have hne : ¬ ((l.length : Int) = (m.length : Int)) := by omega
    have hne2 : ((l.length : Int) != (m.length : Int)) = true := by simpa using hne
    have hne3 : (l.length != m.length) = true := by simpa using hlen
    have hne4 : (l.length == m.length) = false := by simpa using hlen
    have HF := Lib.hid (eqL_len (E := eqD) hlen)
    clear hA hB
    go_enter Tryz.func83, Tryz.ntmps83
    go_wp2_with fail
    go_ret
    exact ⟨by rw [HF.out]; rfl, Below.refl _ _⟩

end Sy
end Go.Proofs.YtggeepimihhpjaaGreatDoor
