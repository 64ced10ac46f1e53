/- Tokens and separators: what stands behind a separator does not matter; what stands behind a token does not matter; a token alone. -/
import Derived.Test.YtiebhlmjpnhepaaDoorM1
namespace Go.Proofs.YtiebhlmjpnhepaaDoor
namespace Lx
set_option linter.unusedVariables false

def isSep (c : UInt8) : Prop := c = 32 ∨ c = 10
theorem isSep.wd {c : UInt8} (h : isSep c) : isWd c = false := by rcases h with rfl | rfl <;> decide
theorem isSep.sp {c : UInt8} (h : isSep c) : isSp c = true := by rcases h with rfl | rfl <;> decide
theorem take_app_le {l a : By} {n : Nat} (h : n ≤ l.length) : (l ++ a).take n = l.take n := by rw [List.take_append_of_le_length h]
theorem drop_app_le {l a : By} {n : Nat} (h : n ≤ l.length) : (l ++ a).drop n = l.drop n ++ a := List.drop_append_of_le_length h

theorem sgn_sep {s : UInt8} (hs : isSep s) (t : By) : ∀ {l : By}, l ≠ [] → sgn (l ++ s :: t) = sgn l
  | [], h => absurd rfl h
  | [c], _ => by
    rw [List.cons_append, List.nil_append, sgn_cons, sgn_cons]
    rcases hs with rfl | rfl <;> simp
  | c :: d :: r, _ => by
    rw [List.cons_append, List.cons_append, sgn_cons, sgn_cons]
    rfl
theorem tok_sep {s : UInt8} (hs : isSep s) (t : By) {l : By} (h : l ≠ []) : tok (l ++ s :: t) = tok l := by
  unfold tok
  rw [span_sep hs.wd t l, take_app_le (span_le isWd l), sgn_sep hs t h]
theorem sgn_take {l : By} {m : Nat} (h : sgn l ≤ m) (hm : 1 ≤ m) : sgn (l.take m) = sgn l := by
  cases l with
  | nil => simp
  | cons c r =>
    obtain ⟨m, rfl⟩ : ∃ k, m = k + 1 := ⟨m - 1, by omega⟩
    rw [List.take_succ_cons]
    rw [sgn_cons] at h
    rw [sgn_cons, sgn_cons]
    cases m with
    | zero =>
      by_cases h2 : (c = 45 ∧ r.head? = some 62) ∨ (c = 61 ∧ r.head? = some 61)
      · rw [if_pos h2] at h; omega
      · rw [if_neg h2, if_neg (by simp)]
    | succ m =>
      have : (r.take (m + 1)).head? = r.head? := by cases r <;> simp
      rw [this]
theorem tok_take {l : By} {m : Nat} (h : (tok l).2 ≠ 0) (hm : (tok l).2 ≤ m) : tok (l.take m) = tok l := by
  have hz := h
  unfold tok at h hm ⊢
  by_cases h1 : span isWd l ≠ 0
  · rw [if_pos h1] at h hm ⊢
    by_cases h2 : wkind (l.take (span isWd l)) ≠ 0
    · rw [if_pos h2] at h hm ⊢
      rw [span_take hm, if_pos h1, List.take_take, Nat.min_eq_left hm, if_pos h2]
    · rw [if_neg h2] at h
      exact absurd rfl h
  · rw [if_neg h1] at h hm ⊢
    by_cases h2 : sgn l ≠ 0
    · rw [if_pos h2] at h hm ⊢
      have h0 : span isWd (l.take m) = 0 := by
        rw [span_take (by omega)]
        omega
      rw [if_neg (by omega), sgn_take hm (by simp only at hm; omega), if_pos h2]
    · rw [if_neg h2] at h
      exact absurd rfl h
theorem tok_text {l : By} (h : (tok l).2 ≠ 0) : tok (l.take (tok l).2) = tok l := tok_take h (Nat.le_refl _)

theorem cm_app {c : UInt8} {r a : By} (h : isCm (c :: r) = true) : isCm (c :: r ++ a) = true := by
  unfold isCm at h
  split at h
  · rename_i e; rw [e]; rfl
  · cases h
theorem cm_iff {c : UInt8} {r : By} : isCm (c :: r) = true ↔ c = 47 ∧ r.head? = some 47 := by
  constructor
  · intro h
    unfold isCm at h
    split at h
    · rename_i e
      injection e with e1 e2
      subst e1 e2
      exact ⟨rfl, rfl⟩
    · cases h
  · rintro ⟨rfl, h⟩
    cases r with
    | nil => cases h
    | cons d r => simp at h; subst h; rfl
theorem cm_sep {c s : UInt8} {r t : By} (hs : isSep s) (h : isCm (c :: r) = false) : isCm (c :: r ++ s :: t) = false := by
  rw [Bool.eq_false_iff] at h ⊢
  intro h'
  apply h
  rw [List.cons_append, cm_iff] at h'
  rw [cm_iff]
  refine ⟨h'.1, ?_⟩
  cases r with
  | nil =>
    have := h'.2
    rcases hs with rfl | rfl <;> simp at this
  | cons d r => simpa using h'.2
theorem cm_take {c : UInt8} {r : By} {m : Nat} (hm : 2 ≤ m) : isCm ((c :: r).take m) = isCm (c :: r) := by
  obtain ⟨m, rfl⟩ : ∃ k, m = k + 2 := ⟨m - 2, by omega⟩
  rw [List.take_succ_cons]
  have : (r.take (m + 1)).head? = r.head? := by cases r <;> simp
  rw [Bool.eq_iff_iff, cm_iff, cm_iff, this]
theorem cm_take1 {c : UInt8} {r : By} {m : Nat} (h : isCm (c :: r) = false) (hm : 1 ≤ m) : isCm ((c :: r).take m) = false := by
  by_cases h2 : 2 ≤ m
  · rw [cm_take h2, h]
  · rw [show m = 1 by omega]
    show isCm (c :: []) = false
    rw [Bool.eq_false_iff]
    intro h'
    exact absurd (cm_iff.1 h').2 (by simp)

/-- Every offset of a token grows with the offset at which the list begins. -/
def shiftT (k : Nat) (t : Tk) : Tk := ⟨t.kind, t.text, t.at_ + k⟩
theorem shift_zero (t : Tk) : shiftT 0 t = t := rfl
theorem lex_shift (k : Nat) : ∀ (l : By) (a : Nat), lex (a + k) l = ((lex a l).1.map (shiftT k), (lex a l).2.map (· + k)) := by
  intro l
  refine lex_ind (P := fun l => ∀ a, lex (a + k) l = ((lex a l).1.map (shiftT k), (lex a l).2.map (· + k))) ?_ ?_ ?_ ?_ ?_ l
  · intro a; rfl
  · intro c r h ih a
    rw [lex_sp h, lex_sp h, ← ih, show a + k + 1 = a + 1 + k by omega]
  · intro c r h hc ih a
    rw [lex_cm h hc, lex_cm h hc, ← ih, show a + k + span notLf (c :: r) = a + span notLf (c :: r) + k by omega]
  · intro c r h hc ht a
    rw [lex_bad h hc ht, lex_bad h hc ht]; rfl
  · intro c r h hc ht ih a
    rw [lex_tok h hc ht, lex_tok h hc ht, show a + k + (tok (c :: r)).2 = a + (tok (c :: r)).2 + k by omega, ih]
    rfl

/-- The list is well-formed. -/
def WF (l : By) : Prop := (lex 0 l).2 = none
theorem lex_err (a : Nat) (l : By) : (lex a l).2 = (lex 0 l).2.map (· + a) := by
  have := lex_shift a l 0
  rw [Nat.zero_add] at this
  rw [this]
theorem lex_wf {a : Nat} {l : By} : (lex a l).2 = none ↔ WF l := by
  rw [lex_err a l]; unfold WF; simp
theorem lex_at (a : Nat) (l : By) : (lex a l).1 = (lex 0 l).1.map (shiftT a) := by
  have := lex_shift a l 0
  rw [Nat.zero_add] at this
  rw [this]

/-- A well-formed list, a line feed, another list. -/
theorem lex_lf (t : By) : ∀ (l : By) (a : Nat), WF l → lex a (l ++ 10 :: t) = ((lex a l).1 ++ (lex (a + l.length + 1) t).1, (lex (a + l.length + 1) t).2) := by
  intro l
  refine lex_ind (P := fun l => ∀ a, WF l → lex a (l ++ 10 :: t) = ((lex a l).1 ++ (lex (a + l.length + 1) t).1, (lex (a + l.length + 1) t).2)) ?_ ?_ ?_ ?_ ?_ l
  · intro a _
    rw [List.nil_append, lex_sp (by decide), lex_nil]
    simp
  · intro c r h ih a hw
    unfold WF at hw
    rw [lex_sp h] at hw
    rw [List.cons_append, lex_sp h, lex_sp h, ih (a + 1) (lex_wf.1 hw), List.length_cons, show a + 1 + r.length + 1 = a + (r.length + 1) + 1 by omega]
  · intro c r h hc ih a hw
    unfold WF at hw
    rw [lex_cm h hc] at hw
    have hl := span_le notLf (c :: r)
    rw [lex_cm h hc, List.cons_append, lex_cm h (by rw [← List.cons_append]; exact cm_app hc), ← List.cons_append, span_sep (by decide), drop_app_le hl, ih _ (lex_wf.1 hw), List.length_drop]
    rw [show a + span notLf (c :: r) + ((c :: r).length - span notLf (c :: r)) + 1 = a + (c :: r).length + 1 by omega]
  · intro c r h hc ht a hw
    unfold WF at hw
    rw [lex_bad h hc ht] at hw
    cases hw
  · intro c r h hc ht ih a hw
    unfold WF at hw
    rw [lex_tok h hc ht] at hw
    have hl := tok_le (c :: r)
    have e := tok_sep (s := 10) (.inr rfl) t (l := c :: r) (by simp)
    rw [lex_tok h hc ht, List.cons_append, lex_tok h (by rw [← List.cons_append]; exact cm_sep (.inr rfl) hc) (by rw [← List.cons_append, e]; exact ht), ← List.cons_append, e, take_app_le hl, drop_app_le hl, ih _ (lex_wf.1 hw), List.length_drop]
    rw [show a + (tok (c :: r)).2 + ((c :: r).length - (tok (c :: r)).2) + 1 = a + (c :: r).length + 1 by omega]
    rfl
/-- A malformed list, a separator, any further bytes. -/
theorem lex_more {s : UInt8} (hs : isSep s) (t : By) : ∀ (l : By) (a e : Nat), (lex a l).2 = some e → (lex a (l ++ s :: t)).2 = some e := by
  intro l
  refine lex_ind (P := fun l => ∀ a e, (lex a l).2 = some e → (lex a (l ++ s :: t)).2 = some e) ?_ ?_ ?_ ?_ ?_ l
  · intro a e h; cases h
  · intro c r h ih a e he
    rw [lex_sp h] at he
    rw [List.cons_append, lex_sp h, ih _ _ he]
  · intro c r h hc ih a e he
    rw [lex_cm h hc] at he
    have hl := span_le notLf (c :: r)
    have hne : (c :: r).drop (span notLf (c :: r)) ≠ [] := by
      intro h0
      rw [h0] at he
      cases he
    have e2 : span notLf (c :: r ++ s :: t) = span notLf (c :: r) := by
      have h1 := span_stop notLf (c :: r)
      have : ∀ (l : By), l.drop (span notLf l) ≠ [] → span notLf (l ++ s :: t) = span notLf l := by
        intro l
        induction l with
        | nil => intro h; exact absurd rfl h
        | cons d m ihm =>
          intro h
          cases hd : notLf d with
          | true =>
            rw [List.cons_append, span_yes hd, span_yes hd, ihm (by rw [span_yes hd, List.drop_succ_cons] at h; exact h)]
          | false => rw [List.cons_append, span_no hd, span_no hd]
      exact this _ hne
    rw [List.cons_append, lex_cm h (by rw [← List.cons_append]; exact cm_app hc), ← List.cons_append, e2, drop_app_le hl, ih _ _ he]
  · intro c r h hc ht a e he
    rw [lex_bad h hc ht] at he
    have e1 := tok_sep hs t (l := c :: r) (by simp)
    rw [List.cons_append, lex_bad h (by rw [← List.cons_append]; exact cm_sep hs hc) (by rw [← List.cons_append, e1]; exact ht)]
    exact he
  · intro c r h hc ht ih a e he
    rw [lex_tok h hc ht] at he
    have hl := tok_le (c :: r)
    have e1 := tok_sep hs t (l := c :: r) (by simp)
    rw [List.cons_append, lex_tok h (by rw [← List.cons_append]; exact cm_sep hs hc) (by rw [← List.cons_append, e1]; exact ht), ← List.cons_append, e1, drop_app_le hl, ih _ _ he]
/-- What stands before an error is well-formed; the error lies inside. -/
theorem lex_before : ∀ (l : By) (a e : Nat), (lex a l).2 = some e → a ≤ e ∧ e < a + l.length ∧ WF (l.take (e - a)) := by
  intro l
  refine lex_ind (P := fun l => ∀ a e, (lex a l).2 = some e → a ≤ e ∧ e < a + l.length ∧ WF (l.take (e - a))) ?_ ?_ ?_ ?_ ?_ l
  · intro a e h; cases h
  · intro c r h ih a e he
    rw [lex_sp h] at he
    obtain ⟨h1, h2, h3⟩ := ih _ _ he
    refine ⟨by omega, by simp; omega, ?_⟩
    rw [show e - a = (e - (a + 1)) + 1 by omega, List.take_succ_cons]
    unfold WF
    rw [lex_sp h]
    exact lex_wf.2 h3
  · intro c r h hc ih a e he
    rw [lex_cm h hc] at he
    have hl := span_le notLf (c :: r)
    have h2' := cm_span hc
    obtain ⟨h1, h2, h3⟩ := ih _ _ he
    rw [List.length_drop] at h2
    refine ⟨by omega, by omega, ?_⟩
    have e1 : span notLf ((c :: r).take (e - a)) = span notLf (c :: r) := span_take (by omega)
    have e2 : ((c :: r).take (e - a)).drop (span notLf (c :: r)) = ((c :: r).drop (span notLf (c :: r))).take (e - (a + span notLf (c :: r))) := by
      rw [List.drop_take]; congr 1; omega
    obtain ⟨m, hm⟩ : ∃ m, e - a = m + 1 := ⟨e - a - 1, by omega⟩
    rw [hm, List.take_succ_cons] at e1 e2 ⊢
    unfold WF
    rw [lex_cm h (by rw [← List.take_succ_cons, cm_take (by omega)]; exact hc), e1, e2]
    exact lex_wf.2 h3
  · intro c r h hc ht a e he
    rw [lex_bad h hc ht] at he
    injection he with he
    subst he
    refine ⟨by omega, by simp, ?_⟩
    rw [Nat.sub_self, List.take_zero]; rfl
  · intro c r h hc ht ih a e he
    rw [lex_tok h hc ht] at he
    have hl := tok_le (c :: r)
    obtain ⟨h1, h2, h3⟩ := ih _ _ he
    rw [List.length_drop] at h2
    refine ⟨by omega, by omega, ?_⟩
    have e1 : tok ((c :: r).take (e - a)) = tok (c :: r) := tok_take ht (by omega)
    have e2 : ((c :: r).take (e - a)).drop (tok (c :: r)).2 = ((c :: r).drop (tok (c :: r)).2).take (e - (a + (tok (c :: r)).2)) := by
      rw [List.drop_take]; congr 1; omega
    obtain ⟨m, hm⟩ : ∃ m, e - a = m + 1 := ⟨e - a - 1, by omega⟩
    have hc2 : isCm ((c :: r).take (e - a)) = false := cm_take1 hc (by omega)
    rw [hm, List.take_succ_cons] at e1 e2 hc2 ⊢
    unfold WF
    rw [lex_tok h hc2 (by rw [e1]; exact ht), e1, e2]
    exact lex_wf.2 h3

end Lx
end Go.Proofs.YtiebhlmjpnhepaaDoor
