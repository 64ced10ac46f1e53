/- What the reference reads of a string: digits from the left, at most 19, no number above the limit; and that both ways of reading agree. -/
import Derived.Test.YtajpklacaaegcaaGreatDoorM5
namespace Go.Proofs.YtajpklacaaegcaaGreatDoor
namespace Fr
open Lib
set_option linter.unusedVariables false

def isDig (c : UInt8) : Bool := decide (48 ≤ c.toNat) && decide (c.toNat ≤ 57)
/-- The number and what is left: fuel, the number so far, the bytes. -/
def rdL : Nat → Nat → List UInt8 → Nat × List UInt8
  | 0, n, l => (n, l)
  | _ + 1, n, [] => (n, [])
  | f + 1, n, c :: r => if isDig c then (if 461168601842738790 < n then (0, []) else rdL f (10 * n + (c.toNat - 48)) r) else (n, c :: r)

theorem rdL_len : ∀ (f n : Nat) (l : List UInt8), (rdL f n l).2.length ≤ l.length := by
  intro f
  induction f with
  | zero => intro n l; exact Nat.le_refl _
  | succ f ih =>
    intro n l
    cases l with
    | nil => exact Nat.le_refl _
    | cons c r =>
      rw [rdL]
      split
      · split
        · simp
        · have := ih (10 * n + (c.toNat - 48)) r
          simp only [List.length_cons]
          omega
      · exact Nat.le_refl _
theorem rdL_le : ∀ (f n : Nat) (l : List UInt8), n ≤ 4611686018427387909 → (rdL f n l).1 ≤ 4611686018427387909 := by
  intro f
  induction f with
  | zero => intro n l h; exact h
  | succ f ih =>
    intro n l h
    cases l with
    | nil => exact h
    | cons c r =>
      rw [rdL]
      split
      · rename_i hc
        unfold isDig at hc
        rw [Bool.and_eq_true, decide_eq_true_eq, decide_eq_true_eq] at hc
        split
        · simp
        · exact ih _ _ (by omega)
      · exact h

theorem nDigits_le19 (u : Nat) (h : u ≤ 4611686018427387904) : nDigits u ≤ 19 := by
  rcases Nat.lt_or_ge (nDigits u) 20 with h1 | h1
  · omega
  · rcases Nat.lt_or_ge u (10 ^ 19) with h2 | h2
    · have := nDigits_le20 u (by omega)
      have h3 : nDigits u = 20 := by omega
      exfalso
      rcases Nat.lt_or_ge u 10 with h5 | h5
      · rw [nDigits_small h5] at h3; cases h3
      · have h4 : nDigits (u / 10) = 19 := by rw [nDigits_big (by omega)] at h3; omega
        have h6 : 10 ^ 18 ≤ u / 10 := by
          rcases Nat.lt_or_ge (u / 10) (10 ^ 18) with h7 | h7
          · exfalso
            exact absurd h4 (by have := nd_lt 18 (by decide) _ h7; omega)
          · exact h7
        omega
    · omega
where
  nd_lt : ∀ (k : Nat), 1 ≤ k → ∀ u : Nat, u < 10 ^ k → nDigits u ≤ k := by
    intro k
    induction k with
    | zero => intro h; omega
    | succ k ih =>
      intro _ u hu
      rcases Nat.lt_or_ge u 10 with h5 | h5
      · rw [nDigits_small h5]; omega
      · rw [nDigits_big (by omega)]
        rcases Nat.eq_zero_or_pos k with h0 | h0
        · subst h0; simp at hu; omega
        · have := ih h0 (u / 10) (by rw [Nat.pow_succ] at hu; omega)
          omega

theorem dig_num {x : Nat} (h : x < 10) : isDig (UInt8.ofNat (48 + x)) = true := by unfold isDig; rw [byte_num x h]; simp; omega

theorem rd_dec : ∀ (u : Nat), u ≤ 4611686018427387904 → ∀ (f : Nat) (r : List UInt8), nDigits u ≤ f → rdL f 0 (decDigits u ++ r) = rdL (f - nDigits u) u r := by
  intro u
  induction u using Nat.strongRecOn with
  | _ u ih =>
    intro hu f r hf
    rw [decDigits]
    have hp := nDigits_pos u
    obtain ⟨g, rfl⟩ : ∃ g, f = g + 1 := ⟨f - 1, by omega⟩
    by_cases h : u < 10
    · rw [dif_pos h, List.singleton_append, rdL, if_pos (dig_num h), if_neg (by omega), byte_num u h, nDigits_small h]
      congr 1
      omega
    · have hd := nDigits_big (u := u) h
      rw [dif_neg h, List.append_assoc, List.singleton_append, ih (u / 10) (by omega) (by omega) (g + 1) _ (by omega)]
      obtain ⟨e, he⟩ : ∃ e, g + 1 - nDigits (u / 10) = e + 1 := ⟨g - nDigits (u / 10), by omega⟩
      rw [he, rdL, if_pos (dig_num (Nat.mod_lt _ (by decide))), if_neg (by omega), byte_num _ (Nat.mod_lt _ (by decide))]
      congr 1
      · omega
      · omega
theorem rd_nil (f n : Nat) : rdL f n [] = (n, []) := by cases f <;> rfl
theorem rd_slash (f n : Nat) (r : List UInt8) : rdL f n (47 :: r) = (n, 47 :: r) := by cases f <;> rfl
theorem rd_itoa (u : Nat) (h : u ≤ 4611686018427387904) : rdL 19 0 (decDigits u) = (u, []) := by
  have := rd_dec u h 19 [] (nDigits_le19 u h)
  rwa [List.append_nil, rd_nil] at this
theorem rd_itoa_slash (u : Nat) (h : u ≤ 4611686018427387904) (r : List UInt8) : rdL 19 0 (decDigits u ++ 47 :: r) = (u, 47 :: r) := by
  rw [rd_dec u h 19 _ (nDigits_le19 u h), rd_slash]

/-! The reference's Parse. -/
/-- Where the digits begin. -/
def sgnL (l : List UInt8) : Nat := if l.head? = some 45 then 1 else 0
def refn (l : List UInt8) : Int := if l.head? = some 45 then -((rdL 19 0 (l.drop (sgnL l))).1 : Int) else ((rdL 19 0 (l.drop (sgnL l))).1 : Int)
def refd (l : List UInt8) : Int := if (rdL 19 0 (l.drop (sgnL l))).2 = [] then 1 else ((rdL 19 0 ((rdL 19 0 (l.drop (sgnL l))).2.drop 1)).1 : Int)

theorem dec_head (u : Nat) (r : List UInt8) : (decDigits u ++ r).head? ≠ some 45 := by
  obtain ⟨c, t, hcr⟩ := List.exists_cons_of_ne_nil (dec_ne u)
  have hc := dec_digit u c (by rw [hcr]; exact List.mem_cons_self ..)
  rw [hcr]
  simp only [List.cons_append, List.head?_cons, ne_eq, Option.some.injEq]
  intro e
  rw [e] at hc
  revert hc; decide

theorem ref_dec (u d : Nat) (hu : u ≤ 4611686018427387904) (hd : d ≤ 4611686018427387904) (h1 : 1 ≤ d) :
    (rdL 19 0 (if d = 1 then decDigits u else decDigits u ++ 47 :: decDigits d)).1 = u ∧
    (if (rdL 19 0 (if d = 1 then decDigits u else decDigits u ++ 47 :: decDigits d)).2 = [] then 1 else (rdL 19 0 ((rdL 19 0 (if d = 1 then decDigits u else decDigits u ++ 47 :: decDigits d)).2.drop 1)).1) = d := by
  by_cases h : d = 1
  · rw [if_pos h, rd_itoa u hu]
    exact ⟨rfl, by simp [h]⟩
  · rw [if_neg h, rd_itoa_slash u hu]
    refine ⟨rfl, ?_⟩
    simp [rd_itoa d hd]

theorem ref_text {q : Rat} {n d : Int} (h : IsF q n d) : refn (textL n d) = n ∧ refd (textL n d) = d := by
  have hn := h.n62
  have hd := h.d62
  have hp := h.pos
  unfold I62 at hn hd
  obtain ⟨D, rfl⟩ : ∃ D : Nat, d = (D : Int) := ⟨d.toNat, by omega⟩
  have e2 : itoa (D : Int) = decDigits D := itoa_nonneg D
  have hD : ((D : Int) = 1) = (D = 1) := propext ⟨fun h => by omega, fun h => by omega⟩
  by_cases h0 : n < 0
  · obtain ⟨u, rfl⟩ : ∃ u : Nat, n = -(u : Int) := ⟨n.natAbs, by omega⟩
    have e1 : itoa (-(u : Int)) = 45 :: decDigits u := itoa_neg u (by omega)
    have et : textL (-(u : Int)) D = 45 :: (if D = 1 then decDigits u else decDigits u ++ 47 :: decDigits D) := by
      unfold textL
      rw [e1, e2]
      simp only [hD]
      split <;> simp
    obtain ⟨r1, r2⟩ := ref_dec u D (by omega) (by omega) (by omega)
    unfold refn refd sgnL
    rw [et]
    simp only [List.head?_cons, if_true, List.drop_succ_cons, List.drop_zero]
    rw [r1]
    refine ⟨rfl, ?_⟩
    generalize (if D = 1 then decDigits u else decDigits u ++ 47 :: decDigits D) = X at *
    split <;> rename_i hc
    · rw [if_pos hc] at r2; omega
    · rw [if_neg hc] at r2; rw [r2]
  · obtain ⟨u, rfl⟩ : ∃ u : Nat, n = (u : Int) := ⟨n.toNat, by omega⟩
    have e1 : itoa (u : Int) = decDigits u := itoa_nonneg u
    have et : textL (u : Int) D = (if D = 1 then decDigits u else decDigits u ++ 47 :: decDigits D) := by
      unfold textL
      rw [e1, e2]
      simp only [hD]
      split <;> simp
    have hh : (if D = 1 then decDigits u else decDigits u ++ 47 :: decDigits D).head? ≠ some 45 := by
      split
      · have := dec_head u []
        rwa [List.append_nil] at this
      · exact dec_head u _
    obtain ⟨r1, r2⟩ := ref_dec u D (by omega) (by omega) (by omega)
    unfold refn refd sgnL
    rw [et, if_neg hh, if_neg hh, List.drop_zero, r1]
    refine ⟨rfl, ?_⟩
    generalize (if D = 1 then decDigits u else decDigits u ++ 47 :: decDigits D) = X at *
    split <;> rename_i hc
    · rw [if_pos hc] at r2; omega
    · rw [if_neg hc] at r2; rw [r2]

/-- What the reference returns. -/
def refOk (l : List UInt8) : Bool := validB (refn l) (refd l) && decide (textL (refn l) (refd l) = l)
theorem ref_same (l : List UInt8) : refOk l = parOk l ∧ (refOk l = true → refn l = parn l ∧ refd l = pard l) := by
  by_cases h : parOk l = true
  · obtain ⟨q, hq, ht⟩ := par_ok h
    obtain ⟨e1, e2⟩ := ref_text hq
    rw [ht] at e1 e2
    have h2 : refOk l = true := by
      unfold refOk
      rw [e1, e2, (validB_iff _ _).2 ⟨q, hq⟩]
      simpa using ht
    exact ⟨by rw [h, h2], fun _ => ⟨e1, e2⟩⟩
  · have h2 : refOk l = false := by
      rw [Bool.eq_false_iff]
      intro h3
      have h4 := h3
      unfold refOk at h4
      rw [Bool.and_eq_true, decide_eq_true_eq] at h4
      obtain ⟨q, hq⟩ := (validB_iff _ _).1 h4.1
      apply h
      have := par_yes hq
      rwa [h4.2] at this
    exact ⟨by rw [h2]; simpa using h, fun h3 => by rw [h2] at h3; cases h3⟩
end Fr
end Go.Proofs.YtajpklacaaegcaaGreatDoor
