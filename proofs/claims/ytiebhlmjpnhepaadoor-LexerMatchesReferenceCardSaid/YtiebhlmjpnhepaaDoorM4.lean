/- The pieces as the program finds them. -/
import Derived.Test.YtiebhlmjpnhepaaDoorM3
namespace Go.Proofs.YtiebhlmjpnhepaaDoor
namespace Lx
set_option linter.unusedVariables false

def sp1 (l : By) : Nat := if isCm l then span notLf l else span isSp l
def wordP (l : By) : Nat × Nat := if wkind (l.take (span isWd l)) ≠ 0 then (wkind (l.take (span isWd l)), span isWd l) else (0, 0)
def signP (l : By) : Nat × Nat := if sgn l ≠ 0 then (3, sgn l) else (0, 0)
def fstP (l : By) : Nat × Nat := if sp1 l ≠ 0 then (0, sp1 l) else if (wordP l).2 ≠ 0 then wordP l else signP l

theorem wd_sgn {c : UInt8} {r : By} (h : isWd c = true) : sgn (c :: r) = 0 := by
  rw [sgn_cons]
  have hall : ∀ d ∈ oneSigns, isWd d = false := by decide
  rw [if_neg (by
    rintro (⟨rfl, _⟩ | ⟨rfl, _⟩)
    · exact absurd h (by decide)
    · exact absurd h (by decide)), if_neg (fun hm => by rw [hall c hm] at h; cases h)]
theorem wkind_nil : wkind [] = 0 := rfl
theorem span_pos {p : UInt8 → Bool} {l : By} (h : span p l ≠ 0) : ∃ c r, l = c :: r ∧ p c = true := by
  cases l with
  | nil => exact absurd rfl h
  | cons c r =>
    refine ⟨c, r, rfl, ?_⟩
    cases hp : p c with
    | true => rfl
    | false => rw [span_no hp] at h; exact absurd rfl h
theorem fst_tok {l : By} (h : sp1 l = 0) : fstP l = tok l := by
  unfold fstP tok
  rw [if_neg (by omega)]
  by_cases h1 : span isWd l ≠ 0
  · rw [if_pos h1]
    unfold wordP
    by_cases h2 : wkind (l.take (span isWd l)) ≠ 0
    · rw [if_pos h2, if_pos h1]
    · rw [if_neg h2, if_neg (by simp)]
      obtain ⟨c, r, rfl, hc⟩ := span_pos h1
      unfold signP
      rw [wd_sgn hc, if_neg (by simp)]
  · rw [if_neg h1]
    have h0 : span isWd l = 0 := by omega
    have hw : wordP l = (0, 0) := by
      unfold wordP
      rw [h0, List.take_zero, wkind_nil, if_neg (by simp)]
    rw [hw, if_neg (by simp)]
    rfl
theorem cm_sp {c : UInt8} {r : By} (h : isCm (c :: r) = true) : isSp c = false := by
  obtain ⟨rfl, _⟩ := cm_iff.1 h
  decide
theorem lex_spaces : ∀ (n a : Nat) (l : By), n ≤ span isSp l → lex a l = lex (a + n) (l.drop n)
  | 0, a, l, h => rfl
  | n + 1, a, [], h => by simp [span] at h
  | n + 1, a, c :: r, h => by
    cases hc : isSp c with
    | false => rw [span_no hc] at h; omega
    | true =>
      rw [span_yes hc] at h
      rw [lex_sp hc, List.drop_succ_cons, lex_spaces n (a + 1) r (by omega), show a + 1 + n = a + (n + 1) by omega]
/-- What the first piece says of the tokens. -/
theorem fst_lex {l : By} (hl : l ≠ []) (a : Nat) :
    ((fstP l).2 = 0 ∧ fstP l = (0, 0) ∧ lex a l = ([], some a)) ∨
    ((fstP l).2 ≠ 0 ∧ (fstP l).1 = 0 ∧ lex a l = lex (a + (fstP l).2) (l.drop (fstP l).2)) ∨
    ((fstP l).2 ≠ 0 ∧ (fstP l).1 ≠ 0 ∧ fstP l = tok l ∧ lex a l = (⟨(fstP l).1, l.take (fstP l).2, a⟩ :: (lex (a + (fstP l).2) (l.drop (fstP l).2)).1, (lex (a + (fstP l).2) (l.drop (fstP l).2)).2)) := by
  cases l with
  | nil => exact absurd rfl hl
  | cons c r =>
    by_cases h : sp1 (c :: r) = 0
    · rw [fst_tok h]
      have hs : isSp c = false := by
        cases hs : isSp c with
        | false => rfl
        | true =>
          exfalso
          unfold sp1 at h
          split at h
          · rename_i hc
            have := cm_span hc
            omega
          · rw [span_yes hs] at h; omega
      have hc : isCm (c :: r) = false := by
        cases hc : isCm (c :: r) with
        | false => rfl
        | true =>
          exfalso
          unfold sp1 at h
          rw [if_pos hc] at h
          have := cm_span hc
          omega
      by_cases ht : (tok (c :: r)).2 = 0
      · exact .inl ⟨ht, tok_zero ht, lex_bad hs hc ht⟩
      · exact .inr (.inr ⟨ht, by have := tok_kind ht; omega, rfl, lex_tok hs hc ht⟩)
    · right; left
      have e : fstP (c :: r) = (0, sp1 (c :: r)) := by unfold fstP; rw [if_pos h]
      rw [e]
      refine ⟨h, rfl, ?_⟩
      cases hc : isCm (c :: r) with
      | true =>
        rw [show sp1 (c :: r) = span notLf (c :: r) by unfold sp1; rw [if_pos hc]]
        exact lex_cm (cm_sp hc) hc
      | false =>
        rw [show sp1 (c :: r) = span isSp (c :: r) by unfold sp1; rw [if_neg (by simp [hc])]]
        exact lex_spaces _ a _ (Nat.le_refl _)
theorem fst_le (l : By) : (fstP l).2 ≤ l.length := by
  by_cases h : sp1 l = 0
  · rw [fst_tok h]; exact tok_le l
  · rw [show fstP l = (0, sp1 l) by unfold fstP; rw [if_pos h]]
    show sp1 l ≤ _
    unfold sp1
    split
    · exact span_le _ _
    · exact span_le _ _
/-- Kind, as the program finds it. -/
theorem kind_fst (l : By) : kindOf l = if (fstP l).1 = 0 ∨ (fstP l).2 < l.length then 0 else (fstP l).1 := by
  have hle := fst_le l
  cases l with
  | nil => rfl
  | cons c r =>
    by_cases h : sp1 (c :: r) = 0
    · rw [fst_tok h] at hle ⊢
      unfold kindOf
      by_cases h2 : (tok (c :: r)).2 = (c :: r).length
      · rw [if_pos ⟨by simp, h2⟩]
        have h3 : (tok (c :: r)).2 ≠ 0 := by rw [h2]; simp
        have := tok_kind h3
        rw [if_neg (by omega)]
      · rw [if_neg (by simp only [ne_eq, reduceCtorEq, not_false_eq_true, true_and]; exact h2), if_pos (.inr (by omega))]
    · rw [show fstP (c :: r) = (0, sp1 (c :: r)) by unfold fstP; rw [if_pos h], if_pos (.inl rfl)]
      cases hk : kindOf (c :: r) with
      | zero => rfl
      | succ k =>
        exfalso
        have h1 : IsTok (c :: r) (kindOf (c :: r)) := kind_tok (by omega)
        have h2 : (tok (c :: r)).2 ≠ 0 := by rw [h1.2]; simp
        obtain ⟨h3, h4⟩ := tok_sp h2
        apply h
        unfold sp1
        rw [if_neg (by simp [h4]), span_no h3]

/-- The signs as the program looks them up. -/
def tabS : List By := [[45, 62], [61, 61], [40], [41], [123], [125], [91], [93], [44], [59], [58], [61], [43], [45], [38], [124], [94], [126], [60], [63], [64], [35], [46]]
def sgnFrom : List By → By → Nat
  | [], _ => 0
  | s :: r, l => if s.isPrefixOf l then s.length else sgnFrom r l
theorem from_none : ∀ (t : List By) (l : By), (∀ s ∈ t, s.isPrefixOf l = false) → sgnFrom t l = 0
  | [], _, _ => rfl
  | s :: r, l, h => by
    rw [sgnFrom, if_neg (by simp [h s (List.mem_cons_self ..)]), from_none r l (fun x hx => h x (List.mem_cons_of_mem _ hx))]
theorem from_ones (c : UInt8) (r : By) : ∀ (t : By), sgnFrom (t.map fun d => [d]) (c :: r) = if c ∈ t then 1 else 0
  | [] => rfl
  | d :: t => by
    rw [List.map_cons, sgnFrom, from_ones c r t]
    simp only [List.isPrefixOf, Bool.and_true, beq_iff_eq, List.mem_cons]
    by_cases h : d = c
    · subst h; simp
    · rw [if_neg h]
      by_cases h2 : c ∈ t
      · rw [if_pos h2, if_pos (.inr h2)]
      · rw [if_neg h2, if_neg (fun h3 => h3.elim (fun h4 => h h4.symm) h2)]
theorem tab_split : tabS = [45, 62] :: [61, 61] :: (oneSigns.map fun d => [d]) := rfl
theorem sgn_tab (l : By) : sgnFrom tabS l = sgn l := by
  rw [tab_split]
  cases l with
  | nil => rfl
  | cons c r =>
    have e : ∀ a b : UInt8, ([a, b] : By).isPrefixOf (c :: r) = (a == c && (r.head? == some b)) := by
      intro a b
      cases r with
      | nil => simp [List.isPrefixOf]
      | cons d r =>
        simp only [List.isPrefixOf, Bool.and_true, List.head?_cons]
        congr 1
        rw [Bool.eq_iff_iff, beq_iff_eq, beq_iff_eq]
        exact ⟨fun h => by rw [h], fun h => (Option.some.inj h).symm⟩
    have hl1 : ∀ a b : UInt8, ([a, b] : By).length = 2 := fun _ _ => rfl
    rw [sgnFrom, sgnFrom, from_ones, e, e, sgn_cons, hl1, hl1]
    by_cases h1 : c = 45 ∧ r.head? = some 62
    · rw [if_pos (show ((45 : UInt8) == c && r.head? == some 62) = true by rw [h1.1, h1.2]; decide), if_pos (Or.inl h1)]
    · have n1 : ¬ ((45 : UInt8) == c && r.head? == some 62) = true := by
        rw [Bool.and_eq_true, beq_iff_eq, beq_iff_eq]
        exact fun h => h1 ⟨h.1.symm, h.2⟩
      rw [if_neg n1]
      by_cases h2 : c = 61 ∧ r.head? = some 61
      · rw [if_pos (show ((61 : UInt8) == c && r.head? == some 61) = true by rw [h2.1, h2.2]; decide), if_pos (Or.inr h2)]
      · have n2 : ¬ ((61 : UInt8) == c && r.head? == some 61) = true := by
          rw [Bool.and_eq_true, beq_iff_eq, beq_iff_eq]
          exact fun h => h2 ⟨h.1.symm, h.2⟩
        have n3 : ¬ ((c = 45 ∧ r.head? = some 62) ∨ (c = 61 ∧ r.head? = some 61)) := fun h => h.elim h1 h2
        rw [if_neg n2, if_neg n3]

theorem numV_le (l : By) : ∀ v : Nat, v ≤ 1000001 → numV v l ≤ 1000001 := by
  induction l with
  | nil => intro v h; exact h
  | cons c r ih =>
    intro v h
    show numV (min (10 * v + (c.toNat - 48)) 1000001) r ≤ 1000001
    exact ih _ (Nat.min_le_right _ _)
theorem isNum_cons (c : UInt8) (r : By) : isNum (c :: r) = if c = 48 then r.isEmpty else (c :: r).all isD && decide (numV 0 (c :: r) ≤ 1000000) := rfl
theorem isNum_zero {r : By} : isNum (48 :: r) = r.isEmpty := by
  have := isNum_cons 48 r
  generalize numV 0 (48 :: r) = v at *
  rw [this, if_pos rfl]
theorem isNum_other {c : UInt8} {r : By} (h : c ≠ 48) : isNum (c :: r) = ((c :: r).all isD && decide (numV 0 (c :: r) ≤ 1000000)) := by
  have := isNum_cons c r
  generalize numV 0 (c :: r) = v at *
  rw [this, if_neg h]

end Lx
end Go.Proofs.YtiebhlmjpnhepaaDoor
