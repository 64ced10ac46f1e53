/- Plain facts of digest trees: a leaf's path leads to the root; another leaf, another path, another length do not; what a changed leaf changes. -/
import Derived.Test.YtgjmhddekggilaaM3
namespace Go.Proofs.Ytgjmhddekggilaa
namespace Dg

/-- The path of each leaf leads to the root. -/
theorem lead_path : ∀ (N : Nat) (zs : List Int) (i : Nat), zs.length ≤ N → i < zs.length → leadT zs.length i (zs[i]?.getD 0) (pathT zs i) = some (rootT zs)
  | 0, zs, i, h, hi => by omega
  | N + 1, zs, i, h, hi => by
    by_cases h1 : zs.length ≤ 1
    · rw [leadT_one _ _ _ _ h1, pathT_one _ _ h1, rootT_one _ h1, if_pos rfl]
      match zs, h1, hi with
      | [x], _, hi =>
        have : i = 0 := by simpa using hi
        subst this
        rfl
    · have h2 : 1 < zs.length := by omega
      have ih := lead_path N (levelI zs) (i / 2) (by rw [levelI_length]; omega) (by rw [levelI_length]; omega)
      rw [levelI_length] at ih
      rw [leadT_step _ _ _ _ h2, pathT_step _ _ h2, rootT_step _ h2]
      by_cases hp : partnerN i < zs.length
      · rw [if_pos hp]
        unfold beside
        rw [if_pos hp, List.singleton_append]
        simp only []
        rw [← level_up zs i hi hp]
        exact ih
      · rw [if_neg hp]
        unfold beside
        rw [if_neg hp, List.nil_append, ← level_same zs i hi hp]
        exact ih

theorem path_len : ∀ (b : Nat) (zs : List Int) (i : Nat), zs.length ≤ 2 ^ b → (pathT zs i).length ≤ b
  | 0, zs, i, h => by rw [pathT_one zs i (by simpa using h)]; exact Nat.le_refl _
  | b + 1, zs, i, h => by
    by_cases h1 : zs.length ≤ 1
    · rw [pathT_one zs i h1]; simp
    · rw [pathT_step zs i (by omega)]
      have ih := path_len b (levelI zs) (i / 2) (by rw [levelI_length]; rw [Nat.pow_succ] at h; omega)
      have hb : (beside zs i).length ≤ 1 := by unfold beside; split <;> simp
      rw [List.length_append]
      omega

/-- How long a path of the leaf i of n is. -/
def plenF : Nat → Nat → Nat → Nat
  | 0, _, _ => 0
  | f + 1, n, i => if n ≤ 1 then 0 else (if partnerN i < n then 1 else 0) + plenF f ((n + 1) / 2) (i / 2)

theorem lead_len : ∀ (f n i : Nat) (d : Int) (p : List Int) (r : Int), n ≤ f → leadT n i d p = some r → p.length = plenF f n i
  | 0, n, i, d, p, r, hf, h => by
    rw [leadT_one n i d p (by omega)] at h
    by_cases hp : p = []
    · rw [hp]; rfl
    · rw [if_neg hp] at h; cases h
  | f + 1, n, i, d, p, r, hf, h => by
    by_cases h1 : n ≤ 1
    · rw [leadT_one n i d p h1] at h
      by_cases hp : p = []
      · rw [hp]; simp only [plenF]; rw [if_pos h1]; rfl
      · rw [if_neg hp] at h; cases h
    · rw [leadT_step n i d p (by omega)] at h
      simp only [plenF]
      rw [if_neg h1]
      by_cases hp : partnerN i < n
      · rw [if_pos hp] at h
        rw [if_pos hp]
        cases p with
        | nil => cases h
        | cons x q =>
          have := lead_len f _ _ _ q r (by omega) h
          simp only [List.length_cons]
          omega
      · rw [if_neg hp] at h
        rw [if_neg hp]
        have := lead_len f _ _ _ p r (by omega) h
        omega

/-- Another digest as the leaf leads elsewhere. -/
theorem lead_leaf : ∀ (f n i : Nat) (d d' : Int) (p : List Int) (r : Int), n ≤ f → R d → R d' → leadT n i d p = some r → leadT n i d' p = some r → d = d'
  | 0, n, i, d, d', p, r, hf, hd, hd', h, h' => by
    rw [leadT_one n i _ p (by omega)] at h h'
    by_cases hp : p = []
    · rw [if_pos hp] at h h'; rw [← h'] at h; exact Option.some.inj h
    · rw [if_neg hp] at h; cases h
  | f + 1, n, i, d, d', p, r, hf, hd, hd', h, h' => by
    by_cases h1 : n ≤ 1
    · rw [leadT_one n i _ p h1] at h h'
      by_cases hp : p = []
      · rw [if_pos hp] at h h'; rw [← h'] at h; exact Option.some.inj h
      · rw [if_neg hp] at h; cases h
    · rw [leadT_step n i _ p (by omega)] at h h'
      by_cases hp : partnerN i < n
      · rw [if_pos hp] at h h'
        cases p with
        | nil => cases h
        | cons x q => exact besideI_own hd hd' (lead_leaf f _ _ _ _ q r (by omega) (besideI_range _ _ _) (besideI_range _ _ _) h h')
      · rw [if_neg hp] at h h'
        exact lead_leaf f _ _ _ _ p r (by omega) hd hd' h h'

/-- A path with one digest changed leads elsewhere. -/
theorem lead_other : ∀ (f n i : Nat) (d : Int) (p : List Int) (t : Nat) (v : Int) (r : Int), n ≤ f → t < p.length → R v → (∀ x ∈ p, R x) → leadT n i d p = some r → leadT n i d (p.set t v) = some r → v = p[t]?.getD 0
  | 0, n, i, d, p, t, v, r, hf, ht, hv, hp, h, h' => by
    rw [leadT_one n i _ p (by omega)] at h
    by_cases hp : p = []
    · rw [hp] at ht; simp at ht
    · rw [if_neg hp] at h; cases h
  | f + 1, n, i, d, p, t, v, r, hf, ht, hv, hR, h, h' => by
    by_cases h1 : n ≤ 1
    · rw [leadT_one n i _ p h1] at h
      by_cases hp : p = []
      · rw [hp] at ht; simp at ht
      · rw [if_neg hp] at h; cases h
    · rw [leadT_step n i _ _ (by omega)] at h h'
      by_cases hp : partnerN i < n
      · rw [if_pos hp] at h h'
        cases p with
        | nil => cases h
        | cons x q =>
          cases t with
          | zero =>
            have e := lead_leaf f _ _ _ _ q r (by omega) (besideI_range _ _ _) (besideI_range _ _ _) h h'
            have := besideI_other (hR x (by simp)) hv e
            simp [this]
          | succ t =>
            have := lead_other f _ _ _ q t v r (by omega) (by simpa using ht) hv (fun y hy => hR y (by simp [hy])) h h'
            simpa using this
      · rw [if_neg hp] at h h'
        exact lead_other f _ _ _ p t v r (by omega) ht hv hR h h'

theorem partner_ne (i : Nat) : partnerN i ≠ i := by unfold partnerN; split <;> omega
theorem beside_set (zs : List Int) (i : Nat) (v : Int) : beside (zs.set i v) i = beside zs i := by
  unfold beside
  rw [List.length_set]
  have : (zs.set i v)[partnerN i]? = zs[partnerN i]? := by rw [List.getElem?_set_ne (Ne.symm (partner_ne i))]
  rw [this]

theorem level_set (zs : List Int) (i : Nat) (v : Int) : ∃ v', levelI (zs.set i v) = (levelI zs).set (i / 2) v' := by
  refine ⟨levelAt (zs.set i v) (i / 2), ?_⟩
  apply List.ext_getElem?
  intro j
  by_cases hj : j < (zs.length + 1) / 2
  · have e1 : (levelI (zs.set i v))[j]? = some (levelAt (zs.set i v) j) := by
      unfold levelI; rw [List.getElem?_map, List.length_set, List.getElem?_range hj]; rfl
    have e2 : (levelI zs)[j]? = some (levelAt zs j) := by
      unfold levelI; rw [List.getElem?_map, List.getElem?_range hj]; rfl
    rw [e1]
    by_cases hji : j = i / 2
    · subst hji
      rw [List.getElem?_set_self (by rw [levelI_length]; omega)]
    · rw [List.getElem?_set_ne (Ne.symm hji), e2]
      congr 1
      unfold levelAt
      rw [List.length_set, List.getElem?_set_ne (by omega), List.getElem?_set_ne (by omega)]
  · rw [List.getElem?_eq_none (by rw [levelI_length, List.length_set]; omega), List.getElem?_eq_none (by rw [List.length_set, levelI_length]; omega)]

theorem path_set : ∀ (N : Nat) (zs : List Int) (i : Nat) (v : Int), zs.length ≤ N → i < zs.length → pathT (zs.set i v) i = pathT zs i
  | 0, zs, i, v, h, hi => by omega
  | N + 1, zs, i, v, h, hi => by
    by_cases h1 : zs.length ≤ 1
    · rw [pathT_one _ _ (by rw [List.length_set]; exact h1), pathT_one _ _ h1]
    · rw [pathT_step (zs.set i v) i (by rw [List.length_set]; omega), pathT_step zs i (by omega), beside_set]
      obtain ⟨v', e⟩ := level_set zs i v
      rw [e, path_set N (levelI zs) (i / 2) v' (by rw [levelI_length]; omega) (by rw [levelI_length]; omega)]

/-- The root changes with the leaf, and only then. -/
theorem root_set (zs : List Int) (i : Nat) (v : Int) (hi : i < zs.length) (hv : R v) (hR : ∀ x ∈ zs, R x) : rootT zs = rootT (zs.set i v) ↔ v = zs[i]?.getD 0 := by
  have l1 := lead_path zs.length zs i (Nat.le_refl _) hi
  have l2 := lead_path zs.length (zs.set i v) i (by rw [List.length_set]; exact Nat.le_refl _) (by rw [List.length_set]; exact hi)
  rw [List.length_set, path_set zs.length zs i v (Nat.le_refl _) hi, List.getElem?_set_self hi] at l2
  constructor
  · intro e
    rw [← e] at l2
    exact lead_leaf zs.length _ _ _ _ _ _ (Nat.le_refl _) hv (by rw [List.getElem?_eq_getElem hi]; exact hR _ (List.getElem_mem hi)) l2 l1
  · intro e
    rw [← e] at l1
    have l2' : leadT zs.length i v (pathT zs i) = some (rootT (zs.set i v)) := l2
    rw [l2'] at l1
    exact (Option.some.inj l1).symm

theorem path_range : ∀ (N : Nat) (zs : List Int) (i : Nat), zs.length ≤ N → (∀ x ∈ zs, R x) → ∀ x ∈ pathT zs i, R x
  | 0, zs, i, h, hR => by rw [pathT_one zs i (by omega)]; simp
  | N + 1, zs, i, h, hR => by
    by_cases h1 : zs.length ≤ 1
    · rw [pathT_one zs i h1]; simp
    · rw [pathT_step zs i (by omega)]
      have hl : ∀ x ∈ levelI zs, R x := by
        intro x hx
        unfold levelI at hx
        rw [List.mem_map] at hx
        obtain ⟨k, hk, rfl⟩ := hx
        rw [List.mem_range] at hk
        unfold levelAt
        split
        · exact joinI_range _ _
        · rw [List.getElem?_eq_getElem (by omega)]; exact hR _ (List.getElem_mem _)
      intro x hx
      rcases List.mem_append.1 hx with hx | hx
      · unfold beside at hx
        split at hx
        · rename_i hp
          rw [List.mem_singleton] at hx
          subst hx
          rw [List.getElem?_eq_getElem hp]; exact hR _ (List.getElem_mem _)
        · simp at hx
      · exact path_range N (levelI zs) (i / 2) (by rw [levelI_length]; omega) hl x hx

end Dg
end Go.Proofs.Ytgjmhddekggilaa
