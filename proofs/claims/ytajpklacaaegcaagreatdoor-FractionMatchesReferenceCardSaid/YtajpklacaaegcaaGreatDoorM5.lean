/- Texts of fractions: cut at the sign '/', digits read from the left, as Go's library and as the reference read them. -/
import Derived.Test.YtajpklacaaegcaaGreatDoorP3
import Derived.Lib.AtoiAllCases
namespace Go.Proofs.YtajpklacaaegcaaGreatDoor
namespace Fr
open Lib
set_option linter.unusedVariables false

theorem byte_num (x : Nat) (h : x < 10) : (UInt8.ofNat (48 + x)).toNat = 48 + x := by
  rw [UInt8.toNat_ofNat']; omega
theorem dec_digit : ∀ (u : Nat), ∀ c ∈ decDigits u, 48 ≤ c.toNat ∧ c.toNat ≤ 57 := by
  intro u
  induction u using Nat.strongRecOn with
  | _ u ih =>
    intro c hc
    rw [decDigits] at hc
    by_cases h : u < 10
    · rw [dif_pos h, List.mem_singleton] at hc
      subst hc
      rw [byte_num u h]; omega
    · rw [dif_neg h, List.mem_append, List.mem_singleton] at hc
      rcases hc with hc | hc
      · exact ih (u / 10) (by omega) c hc
      · subst hc
        rw [byte_num _ (Nat.mod_lt _ (by decide))]
        have := Nat.mod_lt u (show 0 < 10 by decide)
        omega
theorem dec_ne (u : Nat) : decDigits u ≠ [] := by
  intro h
  have := congrArg List.length h
  rw [decDigits_length] at this
  have := nDigits_pos u
  simp at *
  omega

/-- Go's digits, read on behind a number. -/
theorem pu_dec : ∀ (u : Nat), u < 18446744073709551616 → ∀ r, parseUint10 0 (decDigits u ++ r) = parseUint10 u r := by
  intro u
  induction u using Nat.strongRecOn with
  | _ u ih =>
    intro hu r
    rw [decDigits]
    by_cases h : u < 10
    · rw [dif_pos h, List.singleton_append, parseUint10, byte_num u h, if_pos (by omega), if_neg (by omega), if_neg (by omega)]
      congr 1
      omega
    · rw [dif_neg h, List.append_assoc, List.singleton_append, ih (u / 10) (by omega) (by omega), parseUint10, byte_num _ (Nat.mod_lt _ (by decide))]
      have := Nat.mod_lt u (show 0 < 10 by decide)
      rw [if_pos (by omega), if_neg (by omega), if_neg (by omega)]
      congr 1
      omega
theorem mag_dec (u : Nat) (h : u < 18446744073709551616) : parseMag (decDigits u) = .ok u := by
  have := pu_dec u h []
  rw [List.append_nil] at this
  unfold parseMag
  rw [if_neg (dec_ne u), this, parseUint10]

theorem atoi_itoa (n : Int) (h : I62 n) : atoiV (itoa n) = n := by
  unfold I62 at h
  unfold itoa
  by_cases h0 : n < 0
  · rw [if_pos h0]
    unfold atoiV
    rw [atoiAll_minus, mag_dec _ (by omega)]
    unfold signed
    simp only
    rw [if_neg (by omega)]
    simp only
    omega
  · rw [if_neg h0]
    obtain ⟨c, r, hcr⟩ := List.exists_cons_of_ne_nil (dec_ne n.toNat)
    have hc := dec_digit n.toNat c (by rw [hcr]; exact List.mem_cons_self ..)
    unfold atoiV
    rw [hcr, atoiAll_plain c r (by omega) (by omega), ← hcr, mag_dec _ (by omega)]
    unfold signless
    simp only
    rw [if_neg (by omega)]
    simp only
    omega

/-! The sign '/'. -/
theorem cutL_hit (a b : List UInt8) (h : ∀ c ∈ a, c ≠ 47) : cutL (a ++ 47 :: b) = (a, b, true) := by
  have e : index (a ++ 47 :: b) [47] = a.length := by
    refine index_first (by simp) ?_ ?_
    · rw [occAt_iff_take _ _ _ (by simp)]
      simp
    · intro j hj
      rw [Bool.eq_false_iff]
      intro ho
      have h1 := occAt_head rfl ho
      rw [List.getElem?_append_left hj, List.getElem?_eq_getElem hj] at h1
      exact h _ (List.getElem_mem hj) (Option.some.inj h1)
  unfold cutL cut
  rw [e, if_pos (by omega)]
  simp
theorem cutL_miss (a : List UInt8) (h : ∀ c ∈ a, c ≠ 47) : cutL a = (a, [], false) := by
  have e : index a [47] = -1 := by
    refine index_none fun j hj => ?_
    rw [Bool.eq_false_iff]
    intro ho
    have h1 := occAt_head rfl ho
    exact h _ (List.mem_of_getElem? h1) rfl
  unfold cutL cut
  rw [e, if_neg (by omega)]

theorem itoa_no47 (n : Int) : ∀ c ∈ itoa n, c ≠ 47 := by
  intro c hc
  unfold itoa at hc
  split at hc
  · rcases List.mem_cons.1 hc with h | h
    · rw [h]; decide
    · have := dec_digit _ c h
      intro e; rw [e] at this; revert this; decide
  · have := dec_digit _ c hc
    intro e; rw [e] at this; revert this; decide

/-- What Parse reads of the text of a fraction. -/
theorem par_text {q : Rat} {n d : Int} (h : IsF q n d) : parn (textL n d) = n ∧ pard (textL n d) = d := by
  unfold parn pard lowL textL
  by_cases hd : d = 1
  · rw [if_pos hd, cutL_miss _ (itoa_no47 n)]
    refine ⟨atoi_itoa n h.n62, ?_⟩
    simp only
    rw [hd]
    decide +kernel
  · rw [if_neg hd, List.append_assoc, List.singleton_append, cutL_hit _ _ (itoa_no47 n)]
    exact ⟨atoi_itoa n h.n62, atoi_itoa d h.d62⟩
theorem par_yes {q : Rat} {n d : Int} (h : IsF q n d) : parOk (textL n d) = true := by
  unfold parOk
  rw [(par_text h).1, (par_text h).2, (validB_iff n d).2 ⟨q, h⟩]
  simp
theorem par_ok {l : List UInt8} (h : parOk l = true) : ∃ q, IsF q (parn l) (pard l) ∧ textL (parn l) (pard l) = l := by
  unfold parOk at h
  rw [Bool.and_eq_true, decide_eq_true_eq] at h
  obtain ⟨q, hq⟩ := (validB_iff _ _).1 h.1
  exact ⟨q, hq, h.2⟩
end Fr
end Go.Proofs.YtajpklacaaegcaaGreatDoor
