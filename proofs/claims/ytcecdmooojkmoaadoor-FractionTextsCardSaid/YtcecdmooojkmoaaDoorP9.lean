/- What the reference's ParseIn returns: what Parse does. -/
import Derived.Test.YtcecdmooojkmoaaDoorP8
import Derived.Test.YtcecdmooojkmoaaDoorP4
namespace Go.Proofs.YtcecdmooojkmoaaDoor
open Go.RowKit Go.Shelf Go.Sort
namespace Fr
set_option linter.unusedVariables false

theorem rdL_suffix : ∀ (f n : Nat) (l : List UInt8), ∃ k, k ≤ l.length ∧ (rdL f n l).2 = l.drop k := by
  intro f
  induction f with
  | zero => intro n l; exact ⟨0, by omega, rfl⟩
  | succ f ih =>
    intro n l
    cases l with
    | nil => exact ⟨0, by omega, rfl⟩
    | cons c r =>
      rw [rdL]
      split
      · split
        · exact ⟨(c :: r).length, Nat.le_refl _, by simp⟩
        · obtain ⟨k, hk, e⟩ := ih (10 * n + (c.toNat - 48)) r
          exact ⟨k + 1, by simp; omega, by rw [e, List.drop_succ_cons]⟩
      · exact ⟨0, by omega, rfl⟩

theorem sgnL_le {l : List UInt8} : sgnL l ≤ l.length := by
  unfold sgnL
  split
  · rename_i h
    cases l with
    | nil => cases h
    | cons c r => simp
  · omega

/-- Both calls of read. -/
theorem ref_read (s : ByteArray) (hs : s.size ≤ 281474976710656) : ∃ N A : Nat, N ≤ 4611686018427387909 ∧
    (∀ W : World, Calls Tryd.prog 41 #[.string s, .int .i64 (sgnL s.data.toList : Nat)] W fun o w' => o = .returned (.tuple #[.int .i64 (N : Int), .int .i64 (A : Int)]) ∧ W = w') ∧
    refn s.data.toList = (if s.data.toList.head? = some 45 then -(N : Int) else (N : Int)) ∧
    (A = s.size ∧ refd s.data.toList = 1 ∨ A < s.size ∧ ∃ D E : Nat, D ≤ 4611686018427387909 ∧ refd s.data.toList = D ∧
      ∀ W : World, Calls Tryd.prog 41 #[.string s, .int .i64 ((A : Int) + 1)] W fun o w' => o = .returned (.tuple #[.int .i64 (D : Int), .int .i64 (E : Int)]) ∧ W = w') := by
  have hlen : s.data.toList.length = s.size := by simp
  have hsg := sgnL_le (l := s.data.toList)
  rw [hlen] at hsg
  obtain ⟨k, hk, he⟩ := rdL_suffix 19 0 (s.data.toList.drop (sgnL s.data.toList))
  rw [List.length_drop, hlen] at hk
  rw [List.drop_drop] at he
  refine ⟨(rdL 19 0 (s.data.toList.drop (sgnL s.data.toList))).1, s.size - (rdL 19 0 (s.data.toList.drop (sgnL s.data.toList))).2.length, rdL_le _ _ _ (by omega), fun W => read_any s _ W hsg hs, rfl, ?_⟩
  have hA : s.size - (rdL 19 0 (s.data.toList.drop (sgnL s.data.toList))).2.length = sgnL s.data.toList + k := by
    rw [he, List.length_drop, hlen]; omega
  rw [hA]
  by_cases h : (rdL 19 0 (s.data.toList.drop (sgnL s.data.toList))).2 = []
  · left
    rw [h] at hA
    refine ⟨by simp at hA; omega, ?_⟩
    unfold refd
    rw [if_pos h]
  · right
    have hlt : sgnL s.data.toList + k < s.size := by
      rcases Nat.lt_or_ge (sgnL s.data.toList + k) s.size with h1 | h1
      · exact h1
      · exfalso; apply h; rw [he, List.drop_eq_nil_of_le (by omega)]
    refine ⟨hlt, (rdL 19 0 (s.data.toList.drop (sgnL s.data.toList + k + 1))).1, _, rdL_le _ _ _ (by omega), ?_, fun W => by
      have := read_any s (sgnL s.data.toList + k + 1) W (by omega) hs
      exact this⟩
    unfold refd
    rw [if_neg h, he, List.drop_drop]

/-- The sign. -/
theorem ref_sign (s : ByteArray) : (s.size = 0 ∧ s.data.toList.head? ≠ some 45) ∨ ∃ h : 0 < s.size, (s[0] = 45 ∧ s.data.toList.head? = some 45) ∨ (s[0] ≠ 45 ∧ s.data.toList.head? ≠ some 45) := by
  rcases Nat.eq_zero_or_pos s.size with h | h
  · left
    refine ⟨h, ?_⟩
    have : s.data.toList = [] := List.eq_nil_of_length_eq_zero (by simpa using h)
    rw [this]
    simp
  · right
    refine ⟨h, ?_⟩
    have hd := drop_cons s 0 h
    rw [List.drop_zero] at hd
    by_cases e : s[0] = 45
    · left; exact ⟨e, by rw [hd, e]; rfl⟩
    · right; exact ⟨e, by rw [hd]; simpa using e⟩

theorem ref_results (l : List UInt8) : (validB (refn l) (refd l) = false ∧ pN l = 0 ∧ pD l = 0 ∧ pE l = 5) ∨
    (I62 (refn l) ∧ 0 ≤ refd l ∧ refd l ≤ 9223372036854775807 ∧ validB (refn l) (refd l) = true ∧ textL (refn l) (refd l) ≠ l ∧ pN l = 0 ∧ pD l = 0 ∧ pE l = 5) ∨
    (I62 (refn l) ∧ 0 ≤ refd l ∧ refd l ≤ 9223372036854775807 ∧ validB (refn l) (refd l) = true ∧ textL (refn l) (refd l) = l ∧ pN l = refn l ∧ pD l = refd l ∧ pE l = 0) := by
  obtain ⟨h1, h2⟩ := ref_same l
  by_cases hv : validB (refn l) (refd l) = true
  · right
    obtain ⟨q, hq⟩ := (validB_iff _ _).1 hv
    have hd := hq.d62
    have hp := hq.pos
    unfold I62 at hd
    by_cases ht : textL (refn l) (refd l) = l
    · right
      have hr : refOk l = true := by unfold refOk; rw [hv, ht]; simp
      obtain ⟨e1, e2⟩ := h2 hr
      rw [hr] at h1
      exact ⟨hq.n62, by omega, by omega, hv, ht, by unfold pN; rw [← h1, if_pos rfl, e1], by unfold pD; rw [← h1, if_pos rfl, e2], by unfold pE; rw [← h1, if_pos rfl]⟩
    · left
      have hr : refOk l = false := by unfold refOk; rw [hv]; simpa using ht
      rw [hr] at h1
      exact ⟨hq.n62, by omega, by omega, hv, ht, by unfold pN; rw [← h1, if_neg (by simp)], by unfold pD; rw [← h1, if_neg (by simp)], by unfold pE; rw [← h1, if_neg (by simp)]⟩
  · left
    have hv' : validB (refn l) (refd l) = false := by simpa using hv
    have hr : refOk l = false := by unfold refOk; rw [hv']; rfl
    rw [hr] at h1
    exact ⟨hv', by unfold pN; rw [← h1, if_neg (by simp)], by unfold pD; rw [← h1, if_neg (by simp)], by unfold pE; rw [← h1, if_neg (by simp)]⟩
end Fr
end Go.Proofs.YtcecdmooojkmoaaDoor
