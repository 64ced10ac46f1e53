/- The text of a token alone; joined tokens; what stands between tokens; kinds. -/
import Derived.Test.YtiebhlmjpnhepaaDoorM2
namespace Go.Proofs.YtiebhlmjpnhepaaDoor
namespace Lx
set_option linter.unusedVariables false

/-- w is the text of a token of the kind k. -/
def IsTok (w : By) (k : Nat) : Prop := w ≠ [] ∧ tok w = (k, w.length)
theorem tok_sp {c : UInt8} {r : By} (h : (tok (c :: r)).2 ≠ 0) : isSp c = false ∧ isCm (c :: r) = false := by
  have key : isWd c = true ∨ sgn (c :: r) ≠ 0 := by
    cases hw : isWd c with
    | true => exact .inl rfl
    | false =>
      right
      intro h0
      apply h
      unfold tok
      rw [span_no hw, if_neg (by simp), h0, if_neg (by simp)]
  constructor
  · cases hs : isSp c with
    | false => rfl
    | true =>
      have : c = 32 ∨ c = 10 := by simpa [isSp] using hs
      rcases this with rfl | rfl
      · rcases key with h1 | h1
        · exact absurd h1 (by decide)
        · exfalso; apply h1; rw [sgn_cons, if_neg (by simp), if_neg (by decide)]
      · rcases key with h1 | h1
        · exact absurd h1 (by decide)
        · exfalso; apply h1; rw [sgn_cons, if_neg (by simp), if_neg (by decide)]
  · rw [Bool.eq_false_iff]
    intro hc
    obtain ⟨rfl, _⟩ := cm_iff.1 hc
    rcases key with h1 | h1
    · exact absurd h1 (by decide)
    · apply h1; rw [sgn_cons, if_neg (by simp), if_neg (by decide)]
theorem IsTok.kind {w : By} {k : Nat} (h : IsTok w k) : k = 1 ∨ k = 2 ∨ k = 3 := by
  have h0 : (tok w).2 ≠ 0 := by
    rw [h.2]
    intro h0
    exact h.1 (List.eq_nil_of_length_eq_zero h0)
  have := tok_kind h0
  rwa [h.2] at this
theorem tok_isTok {l : By} (h : (tok l).2 ≠ 0) : IsTok (l.take (tok l).2) (tok l).1 := by
  have hl := tok_le l
  refine ⟨fun h0 => ?_, ?_⟩
  · have := congrArg List.length h0
    rw [List.length_take, Nat.min_eq_left hl] at this
    exact h this
  · rw [tok_text h, List.length_take, Nat.min_eq_left hl]
theorem lex_one {w : By} {k : Nat} (h : IsTok w k) (a : Nat) : lex a w = ([⟨k, w, a⟩], none) := by
  obtain ⟨h0, h1⟩ := h
  cases w with
  | nil => exact absurd rfl h0
  | cons c r =>
    have hz : (tok (c :: r)).2 ≠ 0 := by rw [h1]; simp
    obtain ⟨hs, hc⟩ := tok_sp hz
    rw [lex_tok hs hc hz, h1]
    simp [lex_nil]
theorem lex_then {w : By} {k : Nat} (h : IsTok w k) {s : UInt8} (hs : isSep s) (t : By) (a : Nat) :
    lex a (w ++ s :: t) = (⟨k, w, a⟩ :: (lex (a + w.length + 1) t).1, (lex (a + w.length + 1) t).2) := by
  obtain ⟨h0, h1⟩ := h
  have e := tok_sep hs t h0
  cases w with
  | nil => exact absurd rfl h0
  | cons c r =>
    have hz : (tok (c :: r)).2 ≠ 0 := by rw [h1]; simp
    obtain ⟨hsp, hc⟩ := tok_sp hz
    rw [List.cons_append, lex_tok hsp (by rw [← List.cons_append]; exact cm_sep hs hc) (by rw [← List.cons_append, e]; exact hz), ← List.cons_append, e, h1]
    simp only [take_app_le (Nat.le_refl _), List.take_length, drop_app_le (Nat.le_refl _), List.drop_length, List.nil_append]
    rw [lex_sp hs.sp]

/-- Texts with single blanks between them. -/
def joinL : List By → By
  | [] => []
  | [w] => w
  | w :: v :: r => w ++ 32 :: joinL (v :: r)
theorem lex_join : ∀ (ts : List Tk), (∀ t ∈ ts, IsTok t.text t.kind) → ∀ a, (lex a (joinL (ts.map Tk.text))).2 = none ∧ (lex a (joinL (ts.map Tk.text))).1.map (fun t => (t.kind, t.text)) = ts.map (fun t => (t.kind, t.text))
  | [], _, a => by simp [joinL, lex_nil]
  | [t], h, a => by
    simp only [List.map_cons, List.map_nil, joinL]
    rw [lex_one (h t (by simp)) a]
    simp
  | t :: u :: r, h, a => by
    obtain ⟨h1, h2⟩ := lex_join (u :: r) (fun x hx => h x (List.mem_cons_of_mem _ hx)) (a + t.text.length + 1)
    simp only [List.map_cons, joinL] at h1 h2 ⊢
    rw [lex_then (h t (by simp)) (.inl rfl)]
    exact ⟨h1, by simp only [List.map_cons]; rw [h2]⟩
theorem joinL_len : ∀ ws : List By, (joinL ws).length ≤ (ws.map List.length).sum + ws.length
  | [] => by simp [joinL]
  | [w] => by simp [joinL]
  | w :: v :: r => by
    have := joinL_len (v :: r)
    simp only [joinL, List.length_append, List.length_cons, List.map_cons, List.sum_cons] at this ⊢
    omega

/-- Blanks, line feeds, comments. -/
def whiteS : Bool → By → Bool
  | _, [] => true
  | true, c :: r => if c = 10 then whiteS false r else whiteS true r
  | false, c :: r => if isSp c then whiteS false r else if c = 47 ∧ r.head? = some 47 then whiteS true r else false
theorem white_cm : ∀ (x y : By), (∀ c ∈ x, notLf c = true) → whiteS true (x ++ y) = whiteS true y
  | [], y, _ => rfl
  | c :: r, y, h => by
    have hc : notLf c = true := h c (by simp)
    have : c ≠ 10 := by simpa [notLf] using hc
    rw [List.cons_append, whiteS, if_neg this, white_cm r y (fun d hd => h d (List.mem_cons_of_mem _ hd))]

/-- The first token: what stands ahead of it, itself, what stands behind. -/
theorem lex_first : ∀ (l : By) (a : Nat), (∀ t ts e, lex a l = (t :: ts, e) → ∃ d, t.at_ = a + d ∧ d + t.text.length ≤ l.length ∧ t.text = (l.drop d).take t.text.length ∧ IsTok t.text t.kind ∧ whiteS false (l.take d) = true ∧ lex (a + d + t.text.length) (l.drop (d + t.text.length)) = (ts, e)) ∧
    (lex a l = ([], none) → whiteS false l = true) := by
  intro l
  refine lex_ind (P := fun l => ∀ a, (∀ t ts e, lex a l = (t :: ts, e) → ∃ d, t.at_ = a + d ∧ d + t.text.length ≤ l.length ∧ t.text = (l.drop d).take t.text.length ∧ IsTok t.text t.kind ∧ whiteS false (l.take d) = true ∧ lex (a + d + t.text.length) (l.drop (d + t.text.length)) = (ts, e)) ∧
    (lex a l = ([], none) → whiteS false l = true)) ?_ ?_ ?_ ?_ ?_ l
  · intro a
    refine ⟨fun t ts e h => ?_, fun _ => rfl⟩
    rw [lex_nil] at h
    cases h
  · intro c r h ih a
    obtain ⟨i1, i2⟩ := ih (a + 1)
    rw [lex_sp h]
    refine ⟨fun t ts e he => ?_, fun he => ?_⟩
    · obtain ⟨d, h1, h2, h3, h4, h5, h6⟩ := i1 t ts e he
      refine ⟨d + 1, by omega, by simp; omega, by simpa using h3, h4, by rw [List.take_succ_cons, whiteS, if_pos h]; exact h5, ?_⟩
      rw [show d + 1 + t.text.length = (d + t.text.length) + 1 by omega, List.drop_succ_cons, show a + (d + 1) + t.text.length = a + 1 + d + t.text.length by omega]
      exact h6
    · rw [whiteS, if_pos h]; exact i2 he
  · intro c r h hc ih a
    have hl := span_le notLf (c :: r)
    have h2' := cm_span hc
    have hall := span_all notLf (c :: r)
    have hstop := span_stop notLf (c :: r)
    obtain ⟨i1, i2⟩ := ih (a + span notLf (c :: r))
    rw [lex_cm h hc]
    have hsplit : (c :: r).take (span notLf (c :: r)) ++ (c :: r).drop (span notLf (c :: r)) = c :: r := List.take_append_drop _ _
    have htake : ∀ d, (c :: r).take (span notLf (c :: r) + d) = (c :: r).take (span notLf (c :: r)) ++ ((c :: r).drop (span notLf (c :: r))).take d := fun d => List.take_add
    have h47 := cm_iff.1 hc
    generalize span notLf (c :: r) = n at *
    obtain ⟨m, rfl⟩ : ∃ m, n = m + 2 := ⟨n - 2, by omega⟩
    have hw : ∀ y : By, (∀ d, y.head? = some d → notLf d = false) → whiteS false y = true → whiteS false ((c :: r).take (m + 2) ++ y) = true := by
      intro y hy hyw
      obtain ⟨r', rfl⟩ : ∃ r', r = 47 :: r' := by
        cases r with
        | nil => simp at h47
        | cons d r' => simp at h47; exact ⟨r', by rw [h47.2]⟩
      have hx : ∀ d ∈ (47 :: r' : By).take (m + 1), notLf d = true := fun d hd => hall d (by rw [List.take_succ_cons]; exact List.mem_cons_of_mem _ hd)
      rw [List.take_succ_cons, List.cons_append, whiteS, if_neg (by simp [h]), if_pos (by refine ⟨h47.1, ?_⟩; rw [List.take_succ_cons]; rfl), white_cm _ _ hx]
      cases y with
      | nil => rfl
      | cons d y' =>
        have : d = 10 := by have := hy d rfl; simpa [notLf] using this
        subst this
        rw [whiteS, if_pos rfl]
        rw [whiteS, if_pos (by decide)] at hyw
        exact hyw
    refine ⟨fun t ts e he => ?_, fun he => ?_⟩
    · obtain ⟨d, h1, h2, h3, h4, h5, h6⟩ := i1 t ts e he
      rw [List.length_drop] at h2
      refine ⟨m + 2 + d, by omega, by omega, by rw [← List.drop_drop]; exact h3, h4, ?_, ?_⟩
      · rw [htake d]
        refine hw _ (fun x hx => ?_) h5
        cases d with
        | zero => simp at hx
        | succ d =>
          refine hstop x ?_
          generalize (c :: r).drop (m + 2) = z at *
          cases z with
          | nil => simp at hx
          | cons y z => simpa using hx
      · rw [show m + 2 + d + t.text.length = (m + 2) + (d + t.text.length) by omega, ← List.drop_drop, show a + (m + 2 + d) + t.text.length = a + (m + 2) + d + t.text.length by omega]
        exact h6
    · have := hw _ hstop (i2 he)
      rwa [hsplit] at this
  · intro c r h hc ht a
    rw [lex_bad h hc ht]
    exact ⟨fun t ts e he => by (injection he with h1; cases h1), fun he => by (injection he with h1 h2; cases h2)⟩
  · intro c r h hc ht ih a
    rw [lex_tok h hc ht]
    have hl := tok_le (c :: r)
    refine ⟨fun t ts e he => ?_, fun he => by injection he with h1; cases h1⟩
    injection he with h1 h2
    injection h1 with h1 h3
    subst h1 h2 h3
    have hlen : ((c :: r).take (tok (c :: r)).2).length = (tok (c :: r)).2 := by rw [List.length_take, Nat.min_eq_left hl]
    refine ⟨0, rfl, by rw [hlen]; omega, by rw [hlen]; rfl, tok_isTok ht, rfl, ?_⟩
    rw [hlen, Nat.zero_add, Nat.add_zero]

/-- The tokens of a well-formed list, from an offset on. -/
def Cov (s : By) : Nat → List Tk → Prop
  | from_, [] => from_ ≤ s.length ∧ whiteS false (s.drop from_) = true
  | from_, t :: r => from_ ≤ t.at_ ∧ t.at_ + t.text.length ≤ s.length ∧ (s.drop t.at_).take t.text.length = t.text ∧ IsTok t.text t.kind ∧ whiteS false ((s.drop from_).take (t.at_ - from_)) = true ∧ Cov s (t.at_ + t.text.length) r
theorem lex_cov (s : By) : ∀ (ts : List Tk) (a : Nat), a ≤ s.length → lex a (s.drop a) = (ts, none) → Cov s a ts
  | [], a, ha, h => ⟨ha, (lex_first _ a).2 h⟩
  | t :: r, a, ha, h => by
    obtain ⟨d, h1, h2, h3, h4, h5, h6⟩ := (lex_first _ a).1 t r none h
    rw [List.length_drop] at h2
    rw [List.drop_drop] at h3 h6
    refine ⟨by omega, by omega, by rw [h1]; exact h3.symm, h4, by rw [show t.at_ - a = d by omega]; exact h5, ?_⟩
    rw [h1]
    exact lex_cov s r _ (by omega) (by rw [show a + d + t.text.length = a + (d + t.text.length) by omega] at h6 ⊢; exact h6)
theorem lex_toks : ∀ (ts : List Tk) (l : By) (a : Nat) (e : Option Nat), lex a l = (ts, e) → ∀ t ∈ ts, IsTok t.text t.kind ∧ t.text.length ≤ l.length
  | [], l, a, e, h, t, ht => by cases ht
  | u :: r, l, a, e, h, t, ht => by
    obtain ⟨d, h1, h2, h3, h4, h5, h6⟩ := (lex_first _ a).1 u r e h
    rcases List.mem_cons.1 ht with rfl | ht
    · exact ⟨h4, by omega⟩
    · obtain ⟨k1, k2⟩ := lex_toks r _ _ e h6 t ht
      exact ⟨k1, by rw [List.length_drop] at k2; omega⟩
/-- The texts together are no longer than the list. -/
theorem lex_sum : ∀ (ts : List Tk) (l : By) (a : Nat) (e : Option Nat), lex a l = (ts, e) → (ts.map (fun t => t.text.length)).sum ≤ l.length ∧ ts.length ≤ l.length
  | [], l, a, e, h => by simp
  | u :: r, l, a, e, h => by
    obtain ⟨d, h1, h2, h3, h4, h5, h6⟩ := (lex_first _ a).1 u r e h
    obtain ⟨k1, k2⟩ := lex_sum r _ _ e h6
    rw [List.length_drop] at k1 k2
    have : u.text.length ≠ 0 := fun h0 => h4.1 (List.eq_nil_of_length_eq_zero h0)
    simp only [List.map_cons, List.sum_cons, List.length_cons]
    omega

/-- The kind of the tokens with a text. -/
def kindOf (w : By) : Nat := if w ≠ [] ∧ (tok w).2 = w.length then (tok w).1 else 0
theorem kind_yes {w : By} {k : Nat} (h : IsTok w k) : kindOf w = k := by
  unfold kindOf
  rw [if_pos ⟨h.1, by rw [h.2]⟩, h.2]
theorem kind_tok {w : By} (h : kindOf w ≠ 0) : IsTok w (kindOf w) := by
  unfold kindOf at h ⊢
  split
  · rename_i hh
    exact ⟨hh.1, by rw [← hh.2]⟩
  · rename_i hh
    rw [if_neg hh] at h
    exact absurd rfl h
/-- A string has a kind exactly if it is its only token. -/
theorem kind_alone (w : By) : kindOf w ≠ 0 ↔ ∃ t, lex 0 w = ([t], none) ∧ t.text = w := by
  constructor
  · intro h
    exact ⟨_, lex_one (kind_tok h) 0, rfl⟩
  · rintro ⟨t, h1, h2⟩
    obtain ⟨k1, k2⟩ := lex_toks _ _ _ _ h1 t (by simp)
    rw [h2] at k1
    rw [kind_yes k1]
    have := k1.kind
    omega
theorem kind_same {w : By} {t : Tk} (h : lex 0 w = ([t], none)) (ht : t.text = w) : t.kind = kindOf w := by
  obtain ⟨k1, k2⟩ := lex_toks _ _ _ _ h t (by simp)
  rw [ht] at k1
  rw [kind_yes k1]

end Lx
end Go.Proofs.YtiebhlmjpnhepaaDoor
