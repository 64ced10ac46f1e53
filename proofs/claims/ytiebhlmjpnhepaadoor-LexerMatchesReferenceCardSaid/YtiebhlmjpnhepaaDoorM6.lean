/- What the reference's kind and Kind say. -/
import Derived.Test.YtiebhlmjpnhepaaDoorM4
namespace Go.Proofs.YtiebhlmjpnhepaaDoor
namespace Lx
set_option linter.unusedVariables false

theorem numV_stuck : ∀ (l : By) (v : Nat), v = 1000001 → numV v l = 1000001
  | [], v, h => h
  | c :: r, v, h => by
    show numV (min (10 * v + (c.toNat - 48)) 1000001) r = 1000001
    exact numV_stuck r _ (by omega)
theorem numV_app (a b : By) : ∀ v, numV v (a ++ b) = numV (numV v a) b := by
  induction a with
  | nil => intro v; rfl
  | cons c r ih => intro v; exact ih _
theorem isD_wd {c : UInt8} (h : isD c = true) : isWd c = true := by simp [isWd, h]
theorem isD_notL {c : UInt8} (h : isD c = true) : isL c = false := by
  simp only [isD, isL, decide_eq_true_eq, decide_eq_false_iff_not] at h ⊢
  omega
/-- What kind says of any string. -/
def rkF (l : By) : Nat := if l.all isWd then wkind l else 0
theorem rkF_nil : rkF [] = 0 := rfl
theorem rkF_not {l : By} {c : UInt8} (hc : c ∈ l) (h : isWd c = false) : rkF l = 0 := by
  unfold rkF
  rw [if_neg]
  intro ha
  rw [List.all_eq_true] at ha
  rw [ha c hc] at h
  cases h
theorem rkF_name {c : UInt8} {r : By} (h : (c :: r).all isWd = true) (hc : isD c = false) : rkF (c :: r) = 1 := by
  unfold rkF
  rw [if_pos h]
  have h1 : isWd c = true := List.all_eq_true.1 h c (by simp)
  have h2 : isL c = true := by simpa [isWd, hc] using h1
  unfold wkind
  rw [if_pos (by simpa [isName] using h2)]
theorem rkF_num {c : UInt8} {r : By} (hc : isD c = true) (h : isNum (c :: r) = false) : rkF (c :: r) = 0 := by
  unfold rkF wkind
  have : isName (c :: r) = false := isD_notL hc
  rw [this, h]
  simp
theorem rkF_two {c : UInt8} {r : By} (hc : isD c = true) (ha : (c :: r).all isD = true) (h : isNum (c :: r) = true) : rkF (c :: r) = 2 := by
  unfold rkF wkind
  have : isName (c :: r) = false := isD_notL hc
  rw [this, h, if_pos (by
    rw [List.all_eq_true] at ha ⊢
    exact fun x hx => isD_wd (ha x hx))]
  simp
theorem isNum_lead {r : By} (hr : r ≠ []) : isNum (48 :: r) = false := by
  rw [isNum_zero]
  cases r with
  | nil => exact absurd rfl hr
  | cons d r => rfl
theorem isNum_no {c : UInt8} {r : By} (hr : r ≠ []) (h : (c :: r).all isD = false ∨ 1000000 < numV 0 (c :: r)) : isNum (c :: r) = false := by
  by_cases h48 : c = 48
  · rw [h48]; exact isNum_lead hr
  · have e := isNum_other (r := r) h48
    generalize numV 0 (c :: r) = v at *
    rw [e, Bool.and_eq_false_iff]
    rcases h with h | h
    · exact .inl h
    · right
      simp only [decide_eq_false_iff_not]
      omega
theorem isNum_yes {c : UInt8} {r : By} (hz : c = 48 → r = []) (ha : (c :: r).all isD = true) (h : numV 0 (c :: r) ≤ 1000000) : isNum (c :: r) = true := by
  by_cases h48 : c = 48
  · rw [hz h48, h48, isNum_zero]; rfl
  · have e := isNum_other (r := r) h48
    generalize numV 0 (c :: r) = v at *
    rw [e, ha, Bool.true_and]
    exact decide_eq_true h
theorem span_one {p : UInt8 → Bool} : ∀ {l : By} {n : Nat} {e : UInt8}, n ≤ span p l → l[n]? = some e → p e = true → n + 1 ≤ span p l
  | [], n, e, h, he, hp => by simp at he
  | c :: r, n, e, h, he, hp => by
    cases hc : p c with
    | false =>
      rw [span_no hc] at h
      obtain rfl : n = 0 := by omega
      simp at he
      subst he
      rw [hc] at hp; cases hp
    | true =>
      rw [span_yes hc] at h ⊢
      cases n with
      | zero => omega
      | succ n =>
        have := span_one (l := r) (n := n) (e := e) (by omega) (by simpa using he) hp
        omega
theorem span_end {p : UInt8 → Bool} : ∀ {l : By} {n : Nat} {e : UInt8}, n ≤ span p l → l[n]? = some e → p e = false → span p l = n
  | [], n, e, h, he, hp => by simp at he
  | c :: r, n, e, h, he, hp => by
    cases hc : p c with
    | false => rw [span_no hc] at h ⊢; omega
    | true =>
      rw [span_yes hc] at h ⊢
      cases n with
      | zero =>
        simp at he
        subst he
        rw [hc] at hp; cases hp
      | succ n =>
        have := span_end (l := r) (n := n) (e := e) (by omega) (by simpa using he) hp
        omega
theorem all_span {p : UInt8 → Bool} : ∀ {l : By}, l.all p = true → span p l = l.length
  | [], _ => rfl
  | c :: r, h => by
    simp only [List.all_cons, Bool.and_eq_true] at h
    rw [span_yes h.1, all_span h.2, List.length_cons]
theorem span_all_of {p : UInt8 → Bool} : ∀ {l : By}, span p l = l.length → l.all p = true
  | [], _ => rfl
  | c :: r, h => by
    cases hc : p c with
    | false => rw [span_no hc] at h; simp at h
    | true =>
      rw [span_yes hc, List.length_cons] at h
      rw [List.all_cons, hc, span_all_of (by omega)]; rfl
/-- What Kind says of any string. -/
theorem kind_ref (l : By) : kindOf l = if l ≠ [] ∧ sgn l = l.length then 3 else rkF l := by
  cases l with
  | nil => rfl
  | cons c r =>
    unfold kindOf tok rkF
    by_cases hw : isWd c = true
    · have h0 := wd_sgn (r := r) hw
      have h1 : span isWd (c :: r) ≠ 0 := by rw [span_yes hw]; omega
      rw [if_pos h1, h0, if_neg (c := _ ∧ (0 : Nat) = _) (by simp)]
      by_cases ha : (c :: r).all isWd = true
      · have hs := all_span ha
        rw [hs, List.take_length, if_pos ha]
        by_cases hk : wkind (c :: r) ≠ 0
        · rw [if_pos hk, if_pos ⟨by simp, rfl⟩]
        · rw [if_neg hk, if_neg (by simp)]
          omega
      · rw [if_neg ha, if_neg]
        rintro ⟨_, h2⟩
        apply ha
        apply span_all_of
        split at h2
        · exact h2
        · simp at h2
    · have hw2 : isWd c = false := by simpa using hw
      have hs := span_no (r := r) hw2
      rw [hs, if_neg (c := (0 : Nat) ≠ 0) (by simp), if_neg (c := (c :: r).all isWd = true) (by simp [hw2])]
      by_cases h0 : sgn (c :: r) ≠ 0
      · rw [if_pos h0]
      · rw [if_neg h0]
        have h0' : sgn (c :: r) = 0 := by omega
        rw [h0', if_neg (by simp), if_neg (by simp)]

end Lx
end Go.Proofs.YtiebhlmjpnhepaaDoor
