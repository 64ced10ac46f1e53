/- Plain facts: on which side each digest of a path is joined; what two accepted paths for one root have in common. -/
import Derived.Test.YtgjmhddekggilaaM6
namespace Go.Proofs.Ytgjmhddekggilaa
namespace Dg

/-- Whether each digest of the path of the leaf i of n is the left one of its pair. -/
def sidesF : Nat → Nat → Nat → List Bool
  | 0, _, _ => []
  | f + 1, n, i => if n ≤ 1 then [] else (if i % 2 = 1 then [true] else if i + 1 < n then [false] else []) ++ sidesF f ((n + 1) / 2) (i / 2)
def sidesT (n i : Nat) : List Bool := sidesF n n i
def side1 (n i : Nat) : List Bool := if i % 2 = 1 then [true] else if i + 1 < n then [false] else []

theorem sidesF_eq : ∀ (f g n i : Nat), n ≤ f → n ≤ g → sidesF f n i = sidesF g n i
  | 0, 0, _, _, _, _ => rfl
  | 0, g + 1, n, i, h, _ => by simp only [sidesF]; rw [if_pos (by omega : n ≤ 1)]
  | f + 1, 0, n, i, _, h => by simp only [sidesF]; rw [if_pos (by omega : n ≤ 1)]
  | f + 1, g + 1, n, i, h, h' => by
    simp only [sidesF]
    by_cases hn : n ≤ 1
    · rw [if_pos hn, if_pos hn]
    · rw [if_neg hn, if_neg hn, sidesF_eq f g _ _ (by omega) (by omega)]
theorem sidesT_one (n i : Nat) (h : n ≤ 1) : sidesT n i = [] := by
  unfold sidesT
  cases n with
  | zero => rfl
  | succ n => simp only [sidesF]; rw [if_pos h]
theorem sidesT_step (n i : Nat) (h : 1 < n) : sidesT n i = side1 n i ++ sidesT ((n + 1) / 2) (i / 2) := by
  unfold sidesT side1
  rw [sidesF_eq n (n + 1) n i (Nat.le_refl _) (by omega)]
  simp only [sidesF]
  rw [if_neg (by omega), sidesF_eq n ((n + 1) / 2) _ _ (by omega) (Nat.le_refl _)]

theorem sides_len : ∀ (b n i : Nat), n ≤ 2 ^ b → (sidesT n i).length ≤ b
  | 0, n, i, h => by rw [sidesT_one n i (by simpa using h)]; exact Nat.le_refl _
  | b + 1, n, i, h => by
    by_cases h1 : n ≤ 1
    · rw [sidesT_one n i h1]; simp
    · rw [sidesT_step n i (by omega)]
      have ih := sides_len b ((n + 1) / 2) (i / 2) (by rw [Nat.pow_succ] at h; omega)
      have hb : (side1 n i).length ≤ 1 := by unfold side1; split <;> (try split) <;> simp
      rw [List.length_append]
      omega

/-- The digest after k digests of a path. -/
def foldTo (d : Int) (p : List Int) (S : List Bool) : Nat → Int
  | 0 => d
  | k + 1 => besideI (foldTo d p S k) (p[k]?.getD 0) (S[k]?.getD false)

theorem foldTo_cons (d x : Int) (p : List Int) (s : Bool) (S : List Bool) : ∀ k, foldTo d (x :: p) (s :: S) (k + 1) = foldTo (besideI d x s) p S k
  | 0 => rfl
  | k + 1 => by
    show besideI (foldTo d (x :: p) (s :: S) (k + 1)) _ _ = besideI (foldTo (besideI d x s) p S k) _ _
    rw [foldTo_cons d x p s S k]
    simp

theorem lead_fold : ∀ (f n i : Nat) (d : Int) (p : List Int) (T : Int), n ≤ f → i < n → leadT n i d p = some T → p.length = (sidesT n i).length ∧ foldTo d p (sidesT n i) (sidesT n i).length = T
  | 0, n, i, d, p, T, hf, hi, h => by omega
  | f + 1, n, i, d, p, T, hf, hi, h => by
    by_cases h1 : n ≤ 1
    · rw [leadT_one n i d p h1] at h
      rw [sidesT_one n i h1]
      by_cases hp : p = []
      · rw [if_pos hp] at h
        exact ⟨by rw [hp]; rfl, Option.some.inj h⟩
      · rw [if_neg hp] at h; cases h
    · rw [leadT_step n i d p (by omega)] at h
      rw [sidesT_step n i (by omega)]
      by_cases hp : partnerN i < n
      · rw [if_pos hp] at h
        have hs : side1 n i = [decide (partnerN i < i)] := by
          unfold side1
          unfold partnerN at hp ⊢
          by_cases he : i % 2 = 1
          · rw [if_pos he, if_neg (by omega), decide_eq_true (by omega)]
          · rw [if_neg he]
            have he0 : i % 2 = 0 := by omega
            rw [if_pos he0] at hp
            rw [if_pos hp, if_pos he0, decide_eq_false (by omega)]
        rw [hs, List.singleton_append]
        cases p with
        | nil => cases h
        | cons x q =>
          obtain ⟨e1, e2⟩ := lead_fold f _ _ _ q T (by omega) (by omega) h
          exact ⟨by simp [e1], by rw [List.length_cons, foldTo_cons]; exact e2⟩
      · rw [if_neg hp] at h
        have hs : side1 n i = [] := by
          obtain ⟨e1, e2⟩ := partner_lt i n hi hp
          unfold side1
          rw [if_neg (by omega), if_neg (by omega)]
        rw [hs, List.nil_append]
        exact lead_fold f _ _ _ p T (by omega) (by omega) h

/-- All digests so far agree. -/
def eqTo (d x : Int) (P p : List Int) : Nat → Bool
  | 0 => d == x
  | k + 1 => eqTo d x P p k && (P[k]?.getD 0 == p[k]?.getD 0)

/-- No collision on the first k levels. -/
def noneTo (d x : Int) (P p : List Int) (S : List Bool) (k : Nat) : Prop :=
  ∀ m, m < k → ¬ ((foldTo d P S m ≠ foldTo x p S m ∨ P[m]?.getD 0 ≠ p[m]?.getD 0) ∧ foldTo d P S (m + 1) = foldTo x p S (m + 1))

theorem bind_back (d x : Int) (P p : List Int) (S : List Bool) : ∀ k, noneTo d x P p S k → foldTo d P S k = foldTo x p S k → eqTo d x P p k = true
  | 0, _, h => by simpa [eqTo, foldTo] using h
  | k + 1, hn, h => by
    have h1 := hn k (by omega)
    have h2 : foldTo d P S k = foldTo x p S k ∧ P[k]?.getD 0 = p[k]?.getD 0 := by
      constructor
      · exact Classical.byContradiction fun h' => h1 ⟨.inl h', h⟩
      · exact Classical.byContradiction fun h' => h1 ⟨.inr h', h⟩
    have ih := bind_back d x P p S k (fun m hm => hn m (by omega)) h2.1
    simp only [eqTo]
    rw [ih, h2.2]
    simp

end Dg
end Go.Proofs.Ytgjmhddekggilaa
