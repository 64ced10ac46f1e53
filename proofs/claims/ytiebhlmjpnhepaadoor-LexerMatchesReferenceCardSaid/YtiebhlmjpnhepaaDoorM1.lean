/- Bytes of source files, pieces of white space, words, signs; the tokens of a list of bytes. -/
import Derived.KernelRfl
namespace Go.Proofs.YtiebhlmjpnhepaaDoor
namespace Lx
set_option linter.unusedVariables false

abbrev By := List UInt8
def isL (c : UInt8) : Bool := decide (97 ≤ (c.toNat : Int) ∧ (c.toNat : Int) ≤ 122)
def isD (c : UInt8) : Bool := decide (48 ≤ (c.toNat : Int) ∧ (c.toNat : Int) ≤ 57)
def isWd (c : UInt8) : Bool := isL c || isD c
def isSp (c : UInt8) : Bool := c == 32 || c == 10
def notLf (c : UInt8) : Bool := c != 10
/-- How many bytes of a set a list begins with. -/
def span (p : UInt8 → Bool) : By → Nat
  | [] => 0
  | c :: r => if p c then span p r + 1 else 0

theorem span_le (p : UInt8 → Bool) : ∀ l : By, span p l ≤ l.length
  | [] => Nat.le_refl _
  | c :: r => by
    have := span_le p r
    unfold span
    split
    · simp; omega
    · omega
theorem span_all (p : UInt8 → Bool) : ∀ l : By, ∀ c ∈ l.take (span p l), p c = true
  | [], c, h => by simp [span] at h
  | d :: r, c, h => by
    unfold span at h
    split at h
    · rename_i hd
      simp only [List.take_succ_cons, List.mem_cons] at h
      rcases h with rfl | h
      · exact hd
      · exact span_all p r c h
    · simp at h
theorem span_stop (p : UInt8 → Bool) : ∀ l : By, ∀ c, (l.drop (span p l)).head? = some c → p c = false
  | [], c, h => by simp at h
  | d :: r, c, h => by
    unfold span at h
    split at h
    · exact span_stop p r c (by simpa using h)
    · rename_i hd
      simp at h
      subst h
      simpa using hd
theorem span_app {p : UInt8 → Bool} {a : By} : ∀ {l : By}, (∀ c ∈ l, p c = true) → span p (l ++ a) = l.length + span p a
  | [], _ => by simp
  | c :: r, h => by
    have := span_app (a := a) (fun d hd => h d (List.mem_cons_of_mem _ hd) : ∀ d ∈ r, p d = true)
    rw [List.cons_append, span, if_pos (h c (List.mem_cons_self ..)), this, List.length_cons]
    omega
/-- A byte that is not in the set ends the span, whatever stands behind it. -/
theorem span_sep {p : UInt8 → Bool} {c : UInt8} (hc : p c = false) (t : By) : ∀ l : By, span p (l ++ c :: t) = span p l
  | [] => by simp [span, hc]
  | d :: r => by rw [List.cons_append, span, span, span_sep hc t r]
theorem span_take {p : UInt8 → Bool} : ∀ {l : By} {m : Nat}, span p l ≤ m → span p (l.take m) = span p l
  | [], m, h => by simp
  | c :: r, 0, h => by
    rw [Nat.le_zero] at h
    rw [h]; rfl
  | c :: r, m + 1, h => by
    rw [List.take_succ_cons]
    unfold span at h ⊢
    split
    · rename_i hc
      rw [if_pos hc] at h
      rw [span_take (by omega)]
    · rfl
theorem span_nil {p : UInt8 → Bool} : span p [] = 0 := rfl
theorem span_yes {p : UInt8 → Bool} {c : UInt8} {r : By} (h : p c = true) : span p (c :: r) = span p r + 1 := by rw [span, if_pos h]
theorem span_no {p : UInt8 → Bool} {c : UInt8} {r : By} (h : p c = false) : span p (c :: r) = 0 := by rw [span, if_neg (by simp [h])]

/-- The value of digits, no more than 1000001. -/
def numV : Nat → By → Nat
  | v, [] => v
  | v, c :: r => numV (min (10 * v + (c.toNat - 48)) 1000001) r
def isName : By → Bool
  | [] => false
  | c :: _ => isL c
def isNum : By → Bool
  | [] => false
  | c :: r => if c = 48 then r.isEmpty else (c :: r).all isD && decide (numV 0 (c :: r) ≤ 1000000)
/-- The kind of a word. -/
def wkind (w : By) : Nat := if isName w then 1 else if isNum w then 2 else 0
def oneSigns : By := [40, 41, 123, 125, 91, 93, 44, 59, 58, 61, 43, 45, 38, 124, 94, 126, 60, 63, 64, 35, 46]
/-- The length of the sign that a list begins with. -/
def sgn : By → Nat
  | [] => 0
  | c :: r => if (c = 45 ∧ r.head? = some 62) ∨ (c = 61 ∧ r.head? = some 61) then 2 else if c ∈ oneSigns then 1 else 0
/-- The token that a list begins with: its kind and length; 0 and 0 if there is none. -/
def tok (l : By) : Nat × Nat :=
  if span isWd l ≠ 0 then (if wkind (l.take (span isWd l)) ≠ 0 then (wkind (l.take (span isWd l)), span isWd l) else (0, 0))
  else if sgn l ≠ 0 then (3, sgn l) else (0, 0)
def isCm : By → Bool
  | 47 :: 47 :: _ => true
  | _ => false

structure Tk where
  kind : Nat
  text : By
  at_ : Nat
deriving DecidableEq

/-- The tokens of a list of bytes that begins at an offset; the offset of what is malformed. -/
def lexF : Nat → Nat → By → List Tk × Option Nat
  | 0, a, l => ([], none)
  | f + 1, a, [] => ([], none)
  | f + 1, a, c :: r =>
    if isSp c then lexF f (a + 1) r
    else if isCm (c :: r) then lexF f (a + span notLf (c :: r)) ((c :: r).drop (span notLf (c :: r)))
    else if (tok (c :: r)).2 = 0 then ([], some a)
    else
      let x := lexF f (a + (tok (c :: r)).2) ((c :: r).drop (tok (c :: r)).2)
      (⟨(tok (c :: r)).1, (c :: r).take (tok (c :: r)).2, a⟩ :: x.1, x.2)

theorem sgn_cons (c : UInt8) (r : By) : sgn (c :: r) = if (c = 45 ∧ r.head? = some 62) ∨ (c = 61 ∧ r.head? = some 61) then 2 else if c ∈ oneSigns then 1 else 0 := rfl
theorem sgn_le : ∀ l : By, sgn l ≤ l.length
  | [] => Nat.le_refl _
  | [c] => by
    by_cases h : c ∈ oneSigns <;> simp [sgn, h]
  | c :: d :: r => by
    rw [sgn_cons]
    by_cases h : (c = 45 ∧ (d :: r).head? = some 62) ∨ (c = 61 ∧ (d :: r).head? = some 61)
    · rw [if_pos h]; simp
    · rw [if_neg h]
      by_cases h2 : c ∈ oneSigns
      · rw [if_pos h2]; simp
      · rw [if_neg h2]; simp
theorem tok_le (l : By) : (tok l).2 ≤ l.length := by
  unfold tok
  have h1 := span_le isWd l
  have h2 := sgn_le l
  split
  · split
    · exact h1
    · simp
  · split
    · exact h2
    · simp
theorem tok_kind {l : By} (h : (tok l).2 ≠ 0) : (tok l).1 = 1 ∨ (tok l).1 = 2 ∨ (tok l).1 = 3 := by
  unfold tok at h ⊢
  split
  · rename_i h1
    rw [if_pos h1] at h
    split
    · rename_i h2
      unfold wkind at h2 ⊢
      simp only
      split
      · simp
      · split
        · simp
        · rename_i h3 h4
          simp [h3, h4] at h2
    · rename_i h2
      rw [if_neg h2] at h
      simp at h
  · rename_i h1
    rw [if_neg h1] at h
    split
    · simp
    · rename_i h2
      rw [if_neg h2] at h
      simp at h
theorem tok_zero {l : By} (h : (tok l).2 = 0) : tok l = (0, 0) := by
  unfold tok at h ⊢
  split
  · rename_i h1
    rw [if_pos h1] at h
    split
    · rename_i h2
      rw [if_pos h2] at h
      exact absurd h h1
    · rfl
  · rename_i h1
    rw [if_neg h1] at h
    split
    · rename_i h2
      rw [if_pos h2] at h
      exact absurd h h2
    · rfl
theorem cm_span {c : UInt8} {r : By} (h : isCm (c :: r) = true) : 2 ≤ span notLf (c :: r) := by
  unfold isCm at h
  split at h
  · rename_i e
    rw [e, span_yes (by decide), span_yes (by decide)]
    omega
  · cases h

/-- More fuel than bytes: the fuel does not matter. -/
theorem lexF_fuel : ∀ (f g a : Nat) (l : By), l.length < f → l.length < g → lexF f a l = lexF g a l := by
  intro f
  induction f with
  | zero => intro g a l h; omega
  | succ f ih =>
    intro g a l hf hg
    obtain ⟨g, rfl⟩ : ∃ g', g = g' + 1 := ⟨g - 1, by omega⟩
    cases l with
    | nil => rfl
    | cons c r =>
      simp only [List.length_cons] at hf hg
      rw [lexF, lexF]
      split
      · exact ih g _ r (by omega) (by omega)
      · split
        · rename_i hc
          have := cm_span hc
          exact ih g _ _ (by simp only [List.length_drop, List.length_cons]; omega) (by simp only [List.length_drop, List.length_cons]; omega)
        · split
          · rfl
          · rename_i ht
            have := tok_le (c :: r)
            rw [ih g _ _ (by simp only [List.length_drop, List.length_cons]; omega) (by simp only [List.length_drop, List.length_cons]; omega)]
def lex (a : Nat) (l : By) : List Tk × Option Nat := lexF (l.length + 1) a l

theorem lex_nil (a : Nat) : lex a [] = ([], none) := rfl
theorem lex_sp {a : Nat} {c : UInt8} {r : By} (h : isSp c = true) : lex a (c :: r) = lex (a + 1) r := by
  unfold lex
  rw [List.length_cons, lexF, if_pos h]
theorem lex_cm {a : Nat} {c : UInt8} {r : By} (h : isSp c = false) (hc : isCm (c :: r) = true) : lex a (c :: r) = lex (a + span notLf (c :: r)) ((c :: r).drop (span notLf (c :: r))) := by
  unfold lex
  have := cm_span hc
  have := span_le notLf (c :: r)
  rw [List.length_cons, lexF, if_neg (by simp [h]), if_pos hc]
  exact lexF_fuel _ _ _ _ (by simp only [List.length_drop, List.length_cons]; omega) (by simp only [List.length_drop, List.length_cons]; omega)
theorem lex_bad {a : Nat} {c : UInt8} {r : By} (h : isSp c = false) (hc : isCm (c :: r) = false) (ht : (tok (c :: r)).2 = 0) : lex a (c :: r) = ([], some a) := by
  unfold lex
  rw [List.length_cons, lexF, if_neg (by simp [h]), if_neg (by simp [hc]), if_pos ht]
theorem lex_tok {a : Nat} {c : UInt8} {r : By} (h : isSp c = false) (hc : isCm (c :: r) = false) (ht : (tok (c :: r)).2 ≠ 0) :
    lex a (c :: r) = (⟨(tok (c :: r)).1, (c :: r).take (tok (c :: r)).2, a⟩ :: (lex (a + (tok (c :: r)).2) ((c :: r).drop (tok (c :: r)).2)).1, (lex (a + (tok (c :: r)).2) ((c :: r).drop (tok (c :: r)).2)).2) := by
  unfold lex
  rw [List.length_cons, lexF, if_neg (by simp [h]), if_neg (by simp [hc]), if_neg ht]
  have := tok_le (c :: r)
  rw [lexF_fuel (r.length + 1) (((c :: r).drop (tok (c :: r)).2).length + 1) _ _ (by simp only [List.length_drop, List.length_cons]; omega) (by omega)]

/-- Induction over a list as it is lexed. -/
theorem lex_ind {P : By → Prop} (h0 : P []) (h1 : ∀ c r, isSp c = true → P r → P (c :: r))
    (h2 : ∀ c r, isSp c = false → isCm (c :: r) = true → P ((c :: r).drop (span notLf (c :: r))) → P (c :: r))
    (h3 : ∀ c r, isSp c = false → isCm (c :: r) = false → (tok (c :: r)).2 = 0 → P (c :: r))
    (h4 : ∀ c r, isSp c = false → isCm (c :: r) = false → (tok (c :: r)).2 ≠ 0 → P ((c :: r).drop (tok (c :: r)).2) → P (c :: r)) : ∀ l, P l := by
  intro l
  generalize hn : l.length = n
  induction n using Nat.strongRecOn generalizing l with
  | _ n ih =>
    subst hn
    cases l with
    | nil => exact h0
    | cons c r =>
      cases hs : isSp c with
      | true => exact h1 c r hs (ih r.length (by simp) r rfl)
      | false =>
        cases hc : isCm (c :: r) with
        | true =>
          have := cm_span hc
          exact h2 c r hs hc (ih _ (by simp only [List.length_drop, List.length_cons]; omega) _ rfl)
        | false =>
          by_cases ht : (tok (c :: r)).2 = 0
          · exact h3 c r hs hc ht
          · have := tok_le (c :: r)
            exact h4 c r hs hc ht (ih _ (by simp only [List.length_drop, List.length_cons]; omega) _ rfl)

end Lx
end Go.Proofs.YtiebhlmjpnhepaaDoor
