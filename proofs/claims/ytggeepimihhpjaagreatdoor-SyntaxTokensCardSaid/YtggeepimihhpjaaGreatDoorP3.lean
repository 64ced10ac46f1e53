/- The text of a token alone; joined tokens; what stands between tokens; kinds. The pieces as the program finds them. What the reference's kind and Kind say. The trees of source files; what the parser reads. What reading takes and leaves: tokens with an end behind them; suffixes; loops without fuel. -/
import Derived.Test.YtggeepimihhpjaaGreatDoorM2
namespace Go.Proofs.YtggeepimihhpjaaGreatDoor
namespace Lx
set_option linter.unusedVariables false

def IsTok (w : By) (k : Nat) : Prop := w ≠ [] ∧ tok w = (k, w.length)
theorem tok_sp {c : UInt8} {r : By} (h : (tok (c :: r)).2 ≠ 0) : isSp c = false ∧ isCm (c :: r) = false := by
  have key : isWd c = true ∨ sgn (c :: r) ≠ 0 := by
    cases hw : isWd c with
    | true => exact .inl rfl
    | false =>
      right
      intro h0
      apply h
      unfold tok
      rw [span_no hw, if_neg (by simp), h0, if_neg (by simp)]
  constructor
  · cases hs : isSp c with
    | false => rfl
    | true =>
      have : c = 32 ∨ c = 10 := by simpa [isSp] using hs
      rcases this with rfl | rfl
      · rcases key with h1 | h1
        · exact absurd h1 (by decide)
        · exfalso; apply h1; rw [sgn_cons, if_neg (by simp), if_neg (by decide)]
      · rcases key with h1 | h1
        · exact absurd h1 (by decide)
        · exfalso; apply h1; rw [sgn_cons, if_neg (by simp), if_neg (by decide)]
  · rw [Bool.eq_false_iff]
    intro hc
    obtain ⟨rfl, _⟩ := cm_iff.1 hc
    rcases key with h1 | h1
    · exact absurd h1 (by decide)
    · apply h1; rw [sgn_cons, if_neg (by simp), if_neg (by decide)]
theorem IsTok.kind {w : By} {k : Nat} (h : IsTok w k) : k = 1 ∨ k = 2 ∨ k = 3 := by
  have h0 : (tok w).2 ≠ 0 := by
    rw [h.2]
    intro h0
    exact h.1 (List.eq_nil_of_length_eq_zero h0)
  have := tok_kind h0
  rwa [h.2] at this
theorem tok_isTok {l : By} (h : (tok l).2 ≠ 0) : IsTok (l.take (tok l).2) (tok l).1 := by
  have hl := tok_le l
  refine ⟨fun h0 => ?_, ?_⟩
  · have := congrArg List.length h0
    rw [List.length_take, Nat.min_eq_left hl] at this
    exact h this
  · rw [tok_text h, List.length_take, Nat.min_eq_left hl]
theorem lex_then {w : By} {k : Nat} (h : IsTok w k) {s : UInt8} (hs : isSep s) (t : By) (a : Nat) :
    lex a (w ++ s :: t) = (⟨k, w, a⟩ :: (lex (a + w.length + 1) t).1, (lex (a + w.length + 1) t).2) := by
  obtain ⟨h0, h1⟩ := h
  have e := tok_sep hs t h0
  cases w with
  | nil => exact absurd rfl h0
  | cons c r =>
    have hz : (tok (c :: r)).2 ≠ 0 := by rw [h1]; simp
    obtain ⟨hsp, hc⟩ := tok_sp hz
    rw [List.cons_append, lex_tok hsp (by rw [← List.cons_append]; exact cm_sep hs hc) (by rw [← List.cons_append, e]; exact hz), ← List.cons_append, e, h1]
    simp only [take_app_le (Nat.le_refl _), List.take_length, drop_app_le (Nat.le_refl _), List.drop_length, List.nil_append]
    rw [lex_sp hs.sp]

def whiteS : Bool → By → Bool
  | _, [] => true
  | true, c :: r => if c = 10 then whiteS false r else whiteS true r
  | false, c :: r => if isSp c then whiteS false r else if c = 47 ∧ r.head? = some 47 then whiteS true r else false
theorem white_cm : ∀ (x y : By), (∀ c ∈ x, notLf c = true) → whiteS true (x ++ y) = whiteS true y
  | [], y, _ => rfl
  | c :: r, y, h => by
    have hc : notLf c = true := h c (by simp)
    have : c ≠ 10 := by simpa [notLf] using hc
    rw [List.cons_append, whiteS, if_neg this, white_cm r y (fun d hd => h d (List.mem_cons_of_mem _ hd))]

theorem lex_first : ∀ (l : By) (a : Nat), (∀ t ts e, lex a l = (t :: ts, e) → ∃ d, t.at_ = a + d ∧ d + t.text.length ≤ l.length ∧ t.text = (l.drop d).take t.text.length ∧ IsTok t.text t.kind ∧ whiteS false (l.take d) = true ∧ lex (a + d + t.text.length) (l.drop (d + t.text.length)) = (ts, e)) ∧
    (lex a l = ([], none) → whiteS false l = true) := by
  intro l
  refine lex_ind (P := fun l => ∀ a, (∀ t ts e, lex a l = (t :: ts, e) → ∃ d, t.at_ = a + d ∧ d + t.text.length ≤ l.length ∧ t.text = (l.drop d).take t.text.length ∧ IsTok t.text t.kind ∧ whiteS false (l.take d) = true ∧ lex (a + d + t.text.length) (l.drop (d + t.text.length)) = (ts, e)) ∧
    (lex a l = ([], none) → whiteS false l = true)) ?_ ?_ ?_ ?_ ?_ l
  · intro a
    refine ⟨fun t ts e h => ?_, fun _ => rfl⟩
    rw [lex_nil] at h
    cases h
  · intro c r h ih a
    obtain ⟨i1, i2⟩ := ih (a + 1)
    rw [lex_sp h]
    refine ⟨fun t ts e he => ?_, fun he => ?_⟩
    · obtain ⟨d, h1, h2, h3, h4, h5, h6⟩ := i1 t ts e he
      refine ⟨d + 1, by omega, by simp; omega, by simpa using h3, h4, by rw [List.take_succ_cons, whiteS, if_pos h]; exact h5, ?_⟩
      rw [show d + 1 + t.text.length = (d + t.text.length) + 1 by omega, List.drop_succ_cons, show a + (d + 1) + t.text.length = a + 1 + d + t.text.length by omega]
      exact h6
    · rw [whiteS, if_pos h]; exact i2 he
  · intro c r h hc ih a
    have hl := span_le notLf (c :: r)
    have h2' := cm_span hc
    have hall := span_all notLf (c :: r)
    have hstop := span_stop notLf (c :: r)
    obtain ⟨i1, i2⟩ := ih (a + span notLf (c :: r))
    rw [lex_cm h hc]
    have hsplit : (c :: r).take (span notLf (c :: r)) ++ (c :: r).drop (span notLf (c :: r)) = c :: r := List.take_append_drop _ _
    have htake : ∀ d, (c :: r).take (span notLf (c :: r) + d) = (c :: r).take (span notLf (c :: r)) ++ ((c :: r).drop (span notLf (c :: r))).take d := fun d => List.take_add
    have h47 := cm_iff.1 hc
    generalize span notLf (c :: r) = n at *
    obtain ⟨m, rfl⟩ : ∃ m, n = m + 2 := ⟨n - 2, by omega⟩
    have hw : ∀ y : By, (∀ d, y.head? = some d → notLf d = false) → whiteS false y = true → whiteS false ((c :: r).take (m + 2) ++ y) = true := by
      intro y hy hyw
      obtain ⟨r', rfl⟩ : ∃ r', r = 47 :: r' := by
        cases r with
        | nil => simp at h47
        | cons d r' => simp at h47; exact ⟨r', by rw [h47.2]⟩
      have hx : ∀ d ∈ (47 :: r' : By).take (m + 1), notLf d = true := fun d hd => hall d (by rw [List.take_succ_cons]; exact List.mem_cons_of_mem _ hd)
      rw [List.take_succ_cons, List.cons_append, whiteS, if_neg (by simp [h]), if_pos (by refine ⟨h47.1, ?_⟩; rw [List.take_succ_cons]; rfl), white_cm _ _ hx]
      cases y with
      | nil => rfl
      | cons d y' =>
        have : d = 10 := by have := hy d rfl; simpa [notLf] using this
        subst this
        rw [whiteS, if_pos rfl]
        rw [whiteS, if_pos (by decide)] at hyw
        exact hyw
    refine ⟨fun t ts e he => ?_, fun he => ?_⟩
    · obtain ⟨d, h1, h2, h3, h4, h5, h6⟩ := i1 t ts e he
      rw [List.length_drop] at h2
      refine ⟨m + 2 + d, by omega, by omega, by rw [← List.drop_drop]; exact h3, h4, ?_, ?_⟩
      · rw [htake d]
        refine hw _ (fun x hx => ?_) h5
        cases d with
        | zero => simp at hx
        | succ d =>
          refine hstop x ?_
          generalize (c :: r).drop (m + 2) = z at *
          cases z with
          | nil => simp at hx
          | cons y z => simpa using hx
      · rw [show m + 2 + d + t.text.length = (m + 2) + (d + t.text.length) by omega, ← List.drop_drop, show a + (m + 2 + d) + t.text.length = a + (m + 2) + d + t.text.length by omega]
        exact h6
    · have := hw _ hstop (i2 he)
      rwa [hsplit] at this
  · intro c r h hc ht a
    rw [lex_bad h hc ht]
    exact ⟨fun t ts e he => by (injection he with h1; cases h1), fun he => by (injection he with h1 h2; cases h2)⟩
  · intro c r h hc ht ih a
    rw [lex_tok h hc ht]
    have hl := tok_le (c :: r)
    refine ⟨fun t ts e he => ?_, fun he => by injection he with h1; cases h1⟩
    injection he with h1 h2
    injection h1 with h1 h3
    subst h1 h2 h3
    have hlen : ((c :: r).take (tok (c :: r)).2).length = (tok (c :: r)).2 := by rw [List.length_take, Nat.min_eq_left hl]
    refine ⟨0, rfl, by rw [hlen]; omega, by rw [hlen]; rfl, tok_isTok ht, rfl, ?_⟩
    rw [hlen, Nat.zero_add, Nat.add_zero]

theorem lex_toks : ∀ (ts : List Tk) (l : By) (a : Nat) (e : Option Nat), lex a l = (ts, e) → ∀ t ∈ ts, IsTok t.text t.kind ∧ t.text.length ≤ l.length
  | [], l, a, e, h, t, ht => by cases ht
  | u :: r, l, a, e, h, t, ht => by
    obtain ⟨d, h1, h2, h3, h4, h5, h6⟩ := (lex_first _ a).1 u r e h
    rcases List.mem_cons.1 ht with rfl | ht
    · exact ⟨h4, by omega⟩
    · obtain ⟨k1, k2⟩ := lex_toks r _ _ e h6 t ht
      exact ⟨k1, by rw [List.length_drop] at k2; omega⟩

end Lx
end Go.Proofs.YtggeepimihhpjaaGreatDoor

namespace Go.Proofs.YtggeepimihhpjaaGreatDoor
namespace Lx
set_option linter.unusedVariables false

def sp1 (l : By) : Nat := if isCm l then span notLf l else span isSp l
def wordP (l : By) : Nat × Nat := if wkind (l.take (span isWd l)) ≠ 0 then (wkind (l.take (span isWd l)), span isWd l) else (0, 0)
def signP (l : By) : Nat × Nat := if sgn l ≠ 0 then (3, sgn l) else (0, 0)
def fstP (l : By) : Nat × Nat := if sp1 l ≠ 0 then (0, sp1 l) else if (wordP l).2 ≠ 0 then wordP l else signP l

theorem wd_sgn {c : UInt8} {r : By} (h : isWd c = true) : sgn (c :: r) = 0 := by
  rw [sgn_cons]
  have hall : ∀ d ∈ oneSigns, isWd d = false := by decide
  rw [if_neg (by
    rintro (⟨rfl, _⟩ | ⟨rfl, _⟩)
    · exact absurd h (by decide)
    · exact absurd h (by decide)), if_neg (fun hm => by rw [hall c hm] at h; cases h)]
theorem wkind_nil : wkind [] = 0 := rfl
theorem span_pos {p : UInt8 → Bool} {l : By} (h : span p l ≠ 0) : ∃ c r, l = c :: r ∧ p c = true := by
  cases l with
  | nil => exact absurd rfl h
  | cons c r =>
    refine ⟨c, r, rfl, ?_⟩
    cases hp : p c with
    | true => rfl
    | false => rw [span_no hp] at h; exact absurd rfl h
theorem fst_tok {l : By} (h : sp1 l = 0) : fstP l = tok l := by
  unfold fstP tok
  rw [if_neg (by omega)]
  by_cases h1 : span isWd l ≠ 0
  · rw [if_pos h1]
    unfold wordP
    by_cases h2 : wkind (l.take (span isWd l)) ≠ 0
    · rw [if_pos h2, if_pos h1]
    · rw [if_neg h2, if_neg (by simp)]
      obtain ⟨c, r, rfl, hc⟩ := span_pos h1
      unfold signP
      rw [wd_sgn hc, if_neg (by simp)]
  · rw [if_neg h1]
    have h0 : span isWd l = 0 := by omega
    have hw : wordP l = (0, 0) := by
      unfold wordP
      rw [h0, List.take_zero, wkind_nil, if_neg (by simp)]
    rw [hw, if_neg (by simp)]
    rfl
theorem cm_sp {c : UInt8} {r : By} (h : isCm (c :: r) = true) : isSp c = false := by
  obtain ⟨rfl, _⟩ := cm_iff.1 h
  decide
theorem lex_spaces : ∀ (n a : Nat) (l : By), n ≤ span isSp l → lex a l = lex (a + n) (l.drop n)
  | 0, a, l, h => rfl
  | n + 1, a, [], h => by simp [span] at h
  | n + 1, a, c :: r, h => by
    cases hc : isSp c with
    | false => rw [span_no hc] at h; omega
    | true =>
      rw [span_yes hc] at h
      rw [lex_sp hc, List.drop_succ_cons, lex_spaces n (a + 1) r (by omega), show a + 1 + n = a + (n + 1) by omega]
theorem fst_lex {l : By} (hl : l ≠ []) (a : Nat) :
    ((fstP l).2 = 0 ∧ fstP l = (0, 0) ∧ lex a l = ([], some a)) ∨
    ((fstP l).2 ≠ 0 ∧ (fstP l).1 = 0 ∧ lex a l = lex (a + (fstP l).2) (l.drop (fstP l).2)) ∨
    ((fstP l).2 ≠ 0 ∧ (fstP l).1 ≠ 0 ∧ fstP l = tok l ∧ lex a l = (⟨(fstP l).1, l.take (fstP l).2, a⟩ :: (lex (a + (fstP l).2) (l.drop (fstP l).2)).1, (lex (a + (fstP l).2) (l.drop (fstP l).2)).2)) := by
  cases l with
  | nil => exact absurd rfl hl
  | cons c r =>
    by_cases h : sp1 (c :: r) = 0
    · rw [fst_tok h]
      have hs : isSp c = false := by
        cases hs : isSp c with
        | false => rfl
        | true =>
          exfalso
          unfold sp1 at h
          split at h
          · rename_i hc
            have := cm_span hc
            omega
          · rw [span_yes hs] at h; omega
      have hc : isCm (c :: r) = false := by
        cases hc : isCm (c :: r) with
        | false => rfl
        | true =>
          exfalso
          unfold sp1 at h
          rw [if_pos hc] at h
          have := cm_span hc
          omega
      by_cases ht : (tok (c :: r)).2 = 0
      · exact .inl ⟨ht, tok_zero ht, lex_bad hs hc ht⟩
      · exact .inr (.inr ⟨ht, by have := tok_kind ht; omega, rfl, lex_tok hs hc ht⟩)
    · right; left
      have e : fstP (c :: r) = (0, sp1 (c :: r)) := by unfold fstP; rw [if_pos h]
      rw [e]
      refine ⟨h, rfl, ?_⟩
      cases hc : isCm (c :: r) with
      | true =>
        rw [show sp1 (c :: r) = span notLf (c :: r) by unfold sp1; rw [if_pos hc]]
        exact lex_cm (cm_sp hc) hc
      | false =>
        rw [show sp1 (c :: r) = span isSp (c :: r) by unfold sp1; rw [if_neg (by simp [hc])]]
        exact lex_spaces _ a _ (Nat.le_refl _)
theorem fst_le (l : By) : (fstP l).2 ≤ l.length := by
  by_cases h : sp1 l = 0
  · rw [fst_tok h]; exact tok_le l
  · rw [show fstP l = (0, sp1 l) by unfold fstP; rw [if_pos h]]
    show sp1 l ≤ _
    unfold sp1
    split
    · exact span_le _ _
    · exact span_le _ _

def tabS : List By := [[45, 62], [61, 61], [40], [41], [123], [125], [91], [93], [44], [59], [58], [61], [43], [45], [38], [124], [94], [126], [60], [63], [64], [35], [46]]
def sgnFrom : List By → By → Nat
  | [], _ => 0
  | s :: r, l => if s.isPrefixOf l then s.length else sgnFrom r l
theorem from_ones (c : UInt8) (r : By) : ∀ (t : By), sgnFrom (t.map fun d => [d]) (c :: r) = if c ∈ t then 1 else 0
  | [] => rfl
  | d :: t => by
    rw [List.map_cons, sgnFrom, from_ones c r t]
    simp only [List.isPrefixOf, Bool.and_true, beq_iff_eq, List.mem_cons]
    by_cases h : d = c
    · subst h; simp
    · rw [if_neg h]
      by_cases h2 : c ∈ t
      · rw [if_pos h2, if_pos (.inr h2)]
      · rw [if_neg h2, if_neg (fun h3 => h3.elim (fun h4 => h h4.symm) h2)]
theorem tab_split : tabS = [45, 62] :: [61, 61] :: (oneSigns.map fun d => [d]) := rfl
theorem sgn_tab (l : By) : sgnFrom tabS l = sgn l := by
  rw [tab_split]
  cases l with
  | nil => rfl
  | cons c r =>
    have e : ∀ a b : UInt8, ([a, b] : By).isPrefixOf (c :: r) = (a == c && (r.head? == some b)) := by
      intro a b
      cases r with
      | nil => simp [List.isPrefixOf]
      | cons d r =>
        simp only [List.isPrefixOf, Bool.and_true, List.head?_cons]
        congr 1
        rw [Bool.eq_iff_iff, beq_iff_eq, beq_iff_eq]
        exact ⟨fun h => by rw [h], fun h => (Option.some.inj h).symm⟩
    have hl1 : ∀ a b : UInt8, ([a, b] : By).length = 2 := fun _ _ => rfl
    rw [sgnFrom, sgnFrom, from_ones, e, e, sgn_cons, hl1, hl1]
    by_cases h1 : c = 45 ∧ r.head? = some 62
    · rw [if_pos (show ((45 : UInt8) == c && r.head? == some 62) = true by rw [h1.1, h1.2]; decide), if_pos (Or.inl h1)]
    · have n1 : ¬ ((45 : UInt8) == c && r.head? == some 62) = true := by
        rw [Bool.and_eq_true, beq_iff_eq, beq_iff_eq]
        exact fun h => h1 ⟨h.1.symm, h.2⟩
      rw [if_neg n1]
      by_cases h2 : c = 61 ∧ r.head? = some 61
      · rw [if_pos (show ((61 : UInt8) == c && r.head? == some 61) = true by rw [h2.1, h2.2]; decide), if_pos (Or.inr h2)]
      · have n2 : ¬ ((61 : UInt8) == c && r.head? == some 61) = true := by
          rw [Bool.and_eq_true, beq_iff_eq, beq_iff_eq]
          exact fun h => h2 ⟨h.1.symm, h.2⟩
        have n3 : ¬ ((c = 45 ∧ r.head? = some 62) ∨ (c = 61 ∧ r.head? = some 61)) := fun h => h.elim h1 h2
        rw [if_neg n2, if_neg n3]

theorem numV_le (l : By) : ∀ v : Nat, v ≤ 1000001 → numV v l ≤ 1000001 := by
  induction l with
  | nil => intro v h; exact h
  | cons c r ih =>
    intro v h
    show numV (min (10 * v + (c.toNat - 48)) 1000001) r ≤ 1000001
    exact ih _ (Nat.min_le_right _ _)
theorem isNum_cons (c : UInt8) (r : By) : isNum (c :: r) = if c = 48 then r.isEmpty else (c :: r).all isD && decide (numV 0 (c :: r) ≤ 1000000) := rfl
theorem isNum_zero {r : By} : isNum (48 :: r) = r.isEmpty := by
  have := isNum_cons 48 r
  generalize numV 0 (48 :: r) = v at *
  rw [this, if_pos rfl]
theorem isNum_other {c : UInt8} {r : By} (h : c ≠ 48) : isNum (c :: r) = ((c :: r).all isD && decide (numV 0 (c :: r) ≤ 1000000)) := by
  have := isNum_cons c r
  generalize numV 0 (c :: r) = v at *
  rw [this, if_neg h]

end Lx
end Go.Proofs.YtggeepimihhpjaaGreatDoor

namespace Go.Proofs.YtggeepimihhpjaaGreatDoor
namespace Lx
set_option linter.unusedVariables false

theorem numV_stuck : ∀ (l : By) (v : Nat), v = 1000001 → numV v l = 1000001
  | [], v, h => h
  | c :: r, v, h => by
    show numV (min (10 * v + (c.toNat - 48)) 1000001) r = 1000001
    exact numV_stuck r _ (by omega)
theorem numV_app (a b : By) : ∀ v, numV v (a ++ b) = numV (numV v a) b := by
  induction a with
  | nil => intro v; rfl
  | cons c r ih => intro v; exact ih _
theorem isD_wd {c : UInt8} (h : isD c = true) : isWd c = true := by simp [isWd, h]
theorem isD_notL {c : UInt8} (h : isD c = true) : isL c = false := by
  simp only [isD, isL, decide_eq_true_eq, decide_eq_false_iff_not] at h ⊢
  omega
theorem isNum_yes {c : UInt8} {r : By} (hz : c = 48 → r = []) (ha : (c :: r).all isD = true) (h : numV 0 (c :: r) ≤ 1000000) : isNum (c :: r) = true := by
  by_cases h48 : c = 48
  · rw [hz h48, h48, isNum_zero]; rfl
  · have e := isNum_other (r := r) h48
    generalize numV 0 (c :: r) = v at *
    rw [e, ha, Bool.true_and]
    exact decide_eq_true h
theorem all_span {p : UInt8 → Bool} : ∀ {l : By}, l.all p = true → span p l = l.length
  | [], _ => rfl
  | c :: r, h => by
    simp only [List.all_cons, Bool.and_eq_true] at h
    rw [span_yes h.1, all_span h.2, List.length_cons]

end Lx
end Go.Proofs.YtggeepimihhpjaaGreatDoor

namespace Go.Proofs.YtggeepimihhpjaaGreatDoor
open Lx
namespace Sy
set_option linter.unusedVariables false

structure NumT where
  n : Int
  p : By
deriving DecidableEq
inductive ExprT where
  | mk (op : Int) (name : By) (k w : NumT) (args : List ExprT)
structure RuleT where
  kind : Int
  from_ : By
  n : Int
deriving DecidableEq
structure BindT where
  port : By
  chan : By
deriving DecidableEq
structure ItemT where
  kind : Int
  name : By
  width : NumT
  depth : NumT
  init : NumT
  a : ExprT
  b : ExprT
  c : ExprT
  rule : RuleT
  of_ : By
  args : List NumT
  ports : List BindT
structure ModT where
  name : By
  clock : By
  params : List By
  items : List ItemT
abbrev FileT := List ModT
def num0 : NumT := ⟨0, []⟩
def expr0 : ExprT := .mk 0 [] num0 num0 []
def rule0 : RuleT := ⟨0, [], 0⟩
def item0 : ItemT := ⟨0, [], num0, num0, num0, expr0, expr0, expr0, rule0, [], [], []⟩

def w_module : By := [109, 111, 100, 117, 108, 101]
def w_in : By := [105, 110]
def w_out : By := [111, 117, 116]
def w_chan : By := [99, 104, 97, 110]
def w_reg : By := [114, 101, 103]
def w_wire : By := [119, 105, 114, 101]
def w_mem : By := [109, 101, 109]
def w_take : By := [116, 97, 107, 101]
def w_put : By := [112, 117, 116]
def w_inst : By := [105, 110, 115, 116]
def w_if : By := [105, 102]
def w_at : By := [97, 116]
def w_init : By := [105, 110, 105, 116]
def w_keep : By := [107, 101, 101, 112]
def w_copy : By := [99, 111, 112, 121]
def w_add : By := [97, 100, 100]
def s_lpar : By := [40]
def s_rpar : By := [41]
def s_lbrc : By := [123]
def s_rbrc : By := [125]
def s_lsq : By := [91]
def s_rsq : By := [93]
def s_comma : By := [44]
def s_semi : By := [59]
def s_colon : By := [58]
def s_eqs : By := [61]
def s_plus : By := [43]
def s_minus : By := [45]
def s_amp : By := [38]
def s_bar : By := [124]
def s_hat : By := [94]
def s_tilde : By := [126]
def s_lts : By := [60]
def s_quest : By := [63]
def s_ats : By := [64]
def s_dot : By := [46]
def s_arrow : By := [45, 62]
def s_eqeq : By := [61, 61]
def reserved : List By := [w_module, w_in, w_out, w_chan, w_reg, w_wire, w_mem, w_take, w_put, w_inst, w_if, w_at, w_init, w_keep, w_copy, w_add]
def opsT : List (By × Int) := [(s_amp, 3), (s_bar, 4), (s_hat, 5), (s_plus, 6), (s_minus, 7), (s_eqeq, 8), (s_lts, 9), (s_dot, 11)]

inductive Res (α : Type) where
  | ok (x : α) (l : List Tk)
  | no (at_ : Nat)
def PM (α : Type) := List Tk → Res α
def PM.bind {α β : Type} (m : PM α) (f : α → PM β) : PM β := fun l => match m l with
  | .ok x r => f x r
  | .no a => .no a
instance : Monad PM := ⟨@fun α x l => .ok x l⟩ |> fun (i : Pure PM) => { pure := i.pure, bind := PM.bind }
theorem bind_ok {α β : Type} {m : PM α} {f : α → PM β} {l r : List Tk} {x : α} (h : m l = .ok x r) : (m >>= f) l = f x r := by
  show PM.bind m f l = _
  unfold PM.bind
  rw [h]
theorem bind_no {α β : Type} {m : PM α} {f : α → PM β} {l : List Tk} {a : Nat} (h : m l = .no a) : (m >>= f) l = .no a := by
  show PM.bind m f l = _
  unfold PM.bind
  rw [h]
theorem pure_eq {α : Type} (x : α) (l : List Tk) : (pure x : PM α) l = .ok x l := rfl

def nextT : List Tk → Tk
  | [] => ⟨4, [], 0⟩
  | t :: _ => t
def refuse {α : Type} : PM α := fun l => .no (nextT l).at_
def accept (w : By) : PM Bool := fun l => if (nextT l).text = w then .ok true l.tail else .ok false l
def expect (w : By) : PM Unit := fun l => if (nextT l).text = w then .ok () l.tail else .no (nextT l).at_
def nameP : PM By := fun l => if (nextT l).kind ≠ 1 ∨ (nextT l).text ∈ reserved then .no (nextT l).at_ else .ok (nextT l).text l.tail
def numberP (least : Nat) : PM Nat := fun l => if (nextT l).kind ≠ 2 ∨ numV 0 (nextT l).text < least then .no (nextT l).at_ else .ok (numV 0 (nextT l).text) l.tail
def loopF {α : Type} (stop : By) (step : α → PM α) : Nat → α → PM α
  | 0, a => fun l => .no 0
  | f + 1, a => fun l => if (nextT l).text = stop then .ok a l.tail else match step a l with
    | .no e => .no e
    | .ok b r => loopF stop step f b r
def loopP {α : Type} (stop : By) (step : α → PM α) (a : α) : PM α := fun l => loopF stop step (l.length + 1) a l
def listP {α : Type} (part : PM α) : PM (List α) := do
  expect s_lpar
  if ← accept s_rpar then pure [] else do
    let x ← part
    loopP s_rpar (fun acc => do expect s_comma; let y ← part; pure (acc ++ [y])) [x]
def numP : PM NumT := fun l => if (nextT l).kind = 2 then (do let n ← numberP 0; pure ⟨n, []⟩ : PM NumT) l else (do
  let p ← nameP
  if ← accept s_plus then do
    let n ← numberP 1
    pure ⟨n, p⟩
  else if ← accept s_minus then do
    let n ← numberP 1
    pure ⟨-n, p⟩
  else pure ⟨0, p⟩ : PM NumT) l
def behind {α : Type} (w : By) (m : PM α) : PM α := do expect w; m
def bracketP : PM NumT := do let n ← behind s_lsq numP; expect s_rsq; pure n
def constP : PM ExprT := do let k ← numP; let w ← behind s_colon numP; expect s_rsq; pure (.mk 1 [] k w [])
def operatorP : PM Int := fun l => match opsT.find? (fun x => x.1 == (nextT l).text) with
  | none => .no (nextT l).at_
  | some x => .ok x.2 l.tail
def operationP (e : PM ExprT) : PM ExprT := do
  let a ← e
  if ← accept s_quest then do
    let b ← e
    expect s_colon
    let c ← e
    expect s_rpar
    pure (.mk 10 [] num0 num0 [a, b, c])
  else do
    let op ← operatorP
    let b ← e
    expect s_rpar
    pure (.mk op [] num0 num0 [a, b])
def resizedP (e : PM ExprT) : PM ExprT := do
  let a ← e
  if ← accept s_ats then do
    let k ← numP
    let w ← behind s_colon numP
    expect s_rbrc
    pure (.mk 12 [] k w [a])
  else do
    let w ← behind s_colon numP
    expect s_rbrc
    pure (.mk 13 [] num0 w [a])
def refP (deep : Option (PM ExprT)) : PM ExprT := do
  let nm ← nameP
  match deep with
  | none => pure (.mk 14 nm num0 num0 [])
  | some e => do
    if ← accept s_lsq then do
      let a ← e
      expect s_rsq
      pure (.mk 15 nm num0 num0 [a])
    else pure (.mk 14 nm num0 num0 [])
def exprP : Nat → PM ExprT
  | 0 => refuse
  | 1 => do if ← accept s_lsq then constP else refP none
  | m + 2 => do
    if ← accept s_lsq then constP
    else if ← accept s_tilde then do
      let a ← exprP (m + 1)
      pure (.mk 2 [] num0 num0 [a])
    else if ← accept s_lpar then operationP (exprP (m + 1))
    else if ← accept s_lbrc then resizedP (exprP (m + 1))
    else refP (some (exprP (m + 1)))
def exprB (w : By) : PM ExprT := behind w (exprP 8)
def ruleP : PM RuleT := do
  if ← accept w_init then pure ⟨0, [], 0⟩
  else if ← accept w_keep then pure ⟨1, [], 0⟩
  else if ← accept w_copy then do
    let f ← nameP
    pure ⟨2, f, 0⟩
  else do
    expect w_add
    let f ← nameP
    let n ← numberP 0
    pure ⟨3, f, n⟩
def bindP : PM BindT := do let p ← nameP; expect s_eqs; let c ← nameP; pure ⟨p, c⟩
def inputP : PM ItemT := do let n ← nameP; let w ← behind s_colon numP; pure { item0 with kind := 1, name := n, width := w }
def outputP : PM ItemT := do let n ← nameP; let w ← behind s_colon numP; pure { item0 with kind := 2, name := n, width := w }
def channelP : PM ItemT := do let n ← nameP; let w ← behind s_colon numP; let d ← bracketP; pure { item0 with kind := 3, name := n, width := w, depth := d }
def registerP : PM ItemT := do
  let n ← nameP
  let w ← behind s_colon numP
  let i ← behind s_eqs numP
  let a ← exprB s_arrow
  let r ← ruleP
  pure { item0 with kind := 4, name := n, width := w, init := i, a := a, rule := r }
def wireP : PM ItemT := do let n ← nameP; let w ← behind s_colon numP; let a ← exprB s_eqs; pure { item0 with kind := 5, name := n, width := w, a := a }
def memoryP : PM ItemT := do
  let n ← nameP
  let w ← behind s_colon numP
  let d ← bracketP
  let a ← exprB w_if
  let b ← exprB w_at
  let c ← exprB s_eqs
  let r ← ruleP
  pure { item0 with kind := 6, name := n, width := w, depth := d, a := a, b := b, c := c, rule := r }
def takeP : PM ItemT := do let n ← nameP; let a ← exprB w_if; pure { item0 with kind := 7, name := n, a := a }
def putP : PM ItemT := do let n ← nameP; let a ← exprB w_if; let b ← exprB s_eqs; pure { item0 with kind := 8, name := n, a := a, b := b }
def instP : PM ItemT := do
  let n ← nameP
  expect s_colon
  let o ← nameP
  let as ← listP numP
  let ps ← listP bindP
  pure { item0 with kind := 9, name := n, of_ := o, args := as, ports := ps }
def itemsT : List (By × PM ItemT) := [(w_in, inputP), (w_out, outputP), (w_chan, channelP), (w_reg, registerP), (w_wire, wireP), (w_mem, memoryP), (w_take, takeP), (w_put, putP), (w_inst, instP)]
def itemP : PM ItemT := fun l => match itemsT.find? (fun x => x.1 == (nextT l).text) with
  | none => .no (nextT l).at_
  | some x => x.2 l.tail
def moduleP : PM ModT := do
  expect w_module
  let n ← nameP
  let ps ← listP nameP
  expect s_ats
  let c ← nameP
  expect s_lbrc
  let is ← loopP s_rbrc (fun acc => do let i ← itemP; expect s_semi; pure (acc ++ [i])) []
  pure ⟨n, c, ps, is⟩
def fileP : PM FileT := loopP [] (fun acc => do let m ← moduleP; pure (acc ++ [m])) []
end Sy
end Go.Proofs.YtggeepimihhpjaaGreatDoor

namespace Go.Proofs.YtggeepimihhpjaaGreatDoor
open Lx
namespace Sy
set_option linter.unusedVariables false

def LT (l : List Tk) : Prop := ∃ (ts : List Tk) (n : Nat), l = ts ++ [⟨4, [], n⟩] ∧ ∀ t ∈ ts, IsTok t.text t.kind
theorem LT.ne {l : List Tk} (h : LT l) : l ≠ [] := by
  obtain ⟨ts, n, rfl, _⟩ := h
  simp
theorem LT.next {l : List Tk} (h : LT l) : (IsTok (nextT l).text (nextT l).kind ∧ LT l.tail) ∨ ((nextT l).kind = 4 ∧ (nextT l).text = [] ∧ l.tail = []) := by
  obtain ⟨ts, n, rfl, ht⟩ := h
  cases ts with
  | nil => exact .inr ⟨rfl, rfl, rfl⟩
  | cons t r => exact .inl ⟨ht t (by simp), r, n, rfl, fun x hx => ht x (List.mem_cons_of_mem _ hx)⟩
theorem LT.tail {l : List Tk} (h : LT l) (hk : (nextT l).text ≠ []) : LT l.tail := by
  rcases h.next with h1 | h1
  · exact h1.2
  · exact absurd h1.2.1 hk
theorem LT.tail_kind {l : List Tk} (h : LT l) (hk : (nextT l).kind ≠ 4) : LT l.tail := by
  rcases h.next with h1 | h1
  · exact h1.2
  · exact absurd h1.1 hk
theorem LT.cons {l : List Tk} (h : LT l) : l = nextT l :: l.tail := by
  cases l with
  | nil => exact absurd rfl h.ne
  | cons t r => rfl
structure Keeps {α : Type} (m : PM α) (k : Nat) : Prop where
  out : ∀ l x r, LT l → m l = .ok x r → LT r ∧ r.length + k ≤ l.length ∧ ∃ d, l = d ++ r
theorem Keeps.mono {α : Type} {m : PM α} {k j : Nat} (h : Keeps m k) (hj : j ≤ k) : Keeps m j := ⟨fun l x r hl he => by obtain ⟨h1, h2, h3⟩ := h.out l x r hl he; exact ⟨h1, by omega, h3⟩⟩
theorem Keeps.pure {α : Type} (x : α) : Keeps (Pure.pure x : PM α) 0 := ⟨fun l y r hl he => by
  injection he with h1 h2
  subst h2
  exact ⟨hl, Nat.le_refl _, [], rfl⟩⟩
theorem bind_eq {α β : Type} {m : PM α} {f : α → PM β} {l r : List Tk} {y : β} (h : (m >>= f) l = .ok y r) : ∃ x l1, m l = .ok x l1 ∧ f x l1 = .ok y r := by
  cases hm : m l with
  | ok x l1 => rw [bind_ok hm] at h; exact ⟨x, l1, rfl, h⟩
  | no a => rw [bind_no hm] at h; cases h
theorem Keeps.bind {α β : Type} {m : PM α} {f : α → PM β} {j k : Nat} (h : Keeps m j) (hf : ∀ x, Keeps (f x) k) : Keeps (m >>= f) (j + k) := ⟨fun l y r hl he => by
  obtain ⟨x, l1, h1, h2⟩ := bind_eq he
  obtain ⟨a1, a2, d1, a3⟩ := h.out l x l1 hl h1
  obtain ⟨b1, b2, d2, b3⟩ := (hf x).out l1 y r a1 h2
  exact ⟨b1, by omega, d1 ++ d2, by rw [a3, b3, List.append_assoc]⟩⟩
theorem Keeps.bind0 {α β : Type} {m : PM α} {f : α → PM β} {j : Nat} (h : Keeps m j) (hf : ∀ x, Keeps (f x) 0) : Keeps (m >>= f) j := Keeps.bind h hf
theorem Keeps.ite {α : Type} {m n : PM α} {k : Nat} {b : Bool} (h1 : Keeps m k) (h2 : Keeps n k) : Keeps (if b = true then m else n) k := by
  cases b
  · exact h2
  · exact h1
theorem taken {l : List Tk} (h : LT l) (hk : (nextT l).kind ≠ 4) : LT l.tail ∧ l.tail.length + 1 ≤ l.length ∧ ∃ d, l = d ++ l.tail := by
  have hc := h.cons
  refine ⟨h.tail_kind hk, ?_, [nextT l], ?_⟩
  · conv => rhs; rw [hc]
    simp
  · conv => lhs; rw [hc]
    rfl
theorem LT.kind4 {l : List Tk} (h : LT l) (hk : (nextT l).text ≠ []) : (nextT l).kind ≠ 4 := fun h4 => by
  rcases h.next with h1 | h1
  · have := h1.1.kind; omega
  · exact hk h1.2.1
theorem Keeps.accept {w : By} (hw : w ≠ []) : Keeps (accept w) 0 := ⟨fun l x r hl he => by
  unfold Sy.accept at he
  split at he
  · rename_i h
    injection he with h1 h2
    subst h2
    obtain ⟨a, b, c⟩ := taken hl (hl.kind4 (by rw [h]; exact hw))
    exact ⟨a, by omega, c⟩
  · injection he with h1 h2
    subst h2
    exact ⟨hl, Nat.le_refl _, [], rfl⟩⟩
theorem Keeps.expect {w : By} (hw : w ≠ []) : Keeps (expect w) 1 := ⟨fun l x r hl he => by
  unfold Sy.expect at he
  split at he
  · rename_i h
    injection he with h1 h2
    subst h2
    exact taken hl (hl.kind4 (by rw [h]; exact hw))
  · cases he⟩
theorem Keeps.name : Keeps nameP 1 := ⟨fun l x r hl he => by
  unfold nameP at he
  split at he
  · cases he
  · rename_i h
    injection he with h1 h2
    subst h2
    exact taken hl (by omega)⟩
theorem Keeps.number (k : Nat) : Keeps (numberP k) 1 := ⟨fun l x r hl he => by
  unfold numberP at he
  split at he
  · cases he
  · rename_i h
    injection he with h1 h2
    subst h2
    exact taken hl (by omega)⟩
theorem loopF_fuel {α : Type} {stop : By} {step : α → PM α} (hs : ∀ a, Keeps (step a) 1) : ∀ (f g : Nat) (a : α) (l : List Tk), LT l → l.length < f → l.length < g → loopF stop step f a l = loopF stop step g a l := by
  intro f
  induction f with
  | zero => intro g a l _ h; omega
  | succ f ih =>
    intro g a l hl hf hg
    obtain ⟨g, rfl⟩ : ∃ g', g = g' + 1 := ⟨g - 1, by omega⟩
    unfold loopF
    split
    · rfl
    · cases hm : step a l with
      | no e => rfl
      | ok b r =>
        obtain ⟨h1, h2, _⟩ := (hs a).out l b r hl hm
        exact ih g b r h1 (by omega) (by omega)
theorem loopF_succ {α : Type} (stop : By) (step : α → PM α) (f : Nat) (a : α) (l : List Tk) : loopF stop step (f + 1) a l = if (nextT l).text = stop then .ok a l.tail else match step a l with
    | .no e => .no e
    | .ok b r => loopF stop step f b r := rfl
theorem loopP_step {α : Type} {stop : By} {step : α → PM α} (hs : ∀ a, Keeps (step a) 1) {a : α} {l : List Tk} (hl : LT l) :
    loopP stop step a l = if (nextT l).text = stop then .ok a l.tail else match step a l with
      | .no e => .no e
      | .ok b r => loopP stop step b r := by
  rw [show loopP stop step a l = loopF stop step (l.length + 1) a l from rfl, loopF_succ]
  by_cases h : (nextT l).text = stop
  · rw [if_pos h, if_pos h]
  · rw [if_neg h, if_neg h]
    cases hm : step a l with
    | no e => rfl
    | ok b r =>
      obtain ⟨h1, h2, _⟩ := (hs a).out l b r hl hm
      exact loopF_fuel hs _ _ b r h1 (by omega) (by omega)
theorem Keeps.loop {α : Type} {stop : By} {step : α → PM α} (hw : stop ≠ []) (hs : ∀ a, Keeps (step a) 1) (a : α) : Keeps (loopP stop step a) 1 := by
  refine ⟨fun l => ?_⟩
  generalize hn : l.length = n
  induction n using Nat.strongRecOn generalizing l a with
  | _ n ih =>
    subst hn
    intro x r hl he
    rw [loopP_step hs hl] at he
    split at he
    · rename_i h
      injection he with h1 h2
      subst h2
      exact taken hl (hl.kind4 (by rw [h]; exact hw))
    · cases hm : step a l with
      | no e => rw [hm] at he; cases he
      | ok b l1 =>
        rw [hm] at he
        obtain ⟨h1, h2, d, h3⟩ := (hs a).out l b l1 hl hm
        obtain ⟨k1, k2, d2, k3⟩ := ih l1.length (by omega) b l1 rfl x r h1 he
        exact ⟨k1, by omega, d ++ d2, by rw [h3, k3, List.append_assoc]⟩
theorem Keeps.behind {α : Type} {w : By} (hw : w ≠ []) {m : PM α} {k : Nat} (h : Keeps m k) : Keeps (behind w m) (1 + k) := Keeps.bind (Keeps.expect hw) fun _ => h
theorem Keeps.list {α : Type} {part : PM α} (h : Keeps part 1) : Keeps (listP part) 1 :=
  Keeps.bind0 (Keeps.expect (by decide)) fun _ => (Keeps.accept (by decide)).bind0 fun b => Keeps.ite (Keeps.pure _) ((h.mono (Nat.zero_le _)).bind0 fun x =>
    (Keeps.loop (by decide) (fun acc => (Keeps.expect (by decide)).bind0 fun _ => (h.mono (Nat.zero_le _)).bind0 fun y => Keeps.pure _) _).mono (Nat.zero_le _))
theorem Keeps.num : Keeps numP 1 := by
  have h1 : Keeps (do let n ← numberP 0; Pure.pure ⟨n, []⟩ : PM NumT) 1 := (Keeps.number 0).bind0 fun _ => Keeps.pure _
  have h2 : Keeps (do
    let p ← nameP
    if ← Sy.accept s_plus then do
      let n ← numberP 1
      Pure.pure ⟨n, p⟩
    else if ← Sy.accept s_minus then do
      let n ← numberP 1
      Pure.pure ⟨-n, p⟩
    else Pure.pure ⟨0, p⟩ : PM NumT) 1 :=
    Keeps.name.bind0 fun p => (Keeps.accept (by decide)).bind0 fun b => Keeps.ite (((Keeps.number 1).mono (Nat.zero_le _)).bind0 fun n => Keeps.pure _)
      ((Keeps.accept (by decide)).bind0 fun b => Keeps.ite (((Keeps.number 1).mono (Nat.zero_le _)).bind0 fun n => Keeps.pure _) (Keeps.pure _))
  refine ⟨fun l x r hl he => ?_⟩
  unfold numP at he
  split at he
  · exact h1.out l x r hl he
  · exact h2.out l x r hl he

end Sy
end Go.Proofs.YtggeepimihhpjaaGreatDoor
