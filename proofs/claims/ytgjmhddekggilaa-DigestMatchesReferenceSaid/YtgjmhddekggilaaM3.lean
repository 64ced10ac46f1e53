/- Plain facts of digest trees: roots, paths, what a path leads to. -/
import Derived.Test.YtgjmhddekggilaaM2
namespace Go.Proofs.Ytgjmhddekggilaa
namespace Dg

/-- The root, level by level. -/
def rootF : Nat → List Int → Int
  | 0, l => l.headD 0
  | f + 1, l => if l.length ≤ 1 then l.headD 0 else rootF f (levelI l)
def rootT (l : List Int) : Int := rootF l.length l
def rootI (l : List Int) : Int := if l = [] then wordsI [] else rootT l

theorem rootF_eq : ∀ (f g : Nat) (l : List Int), l.length ≤ f → l.length ≤ g → rootF f l = rootF g l
  | 0, 0, _, _, _ => rfl
  | 0, g + 1, l, h, _ => by simp only [rootF]; rw [if_pos (by omega)]
  | f + 1, 0, l, _, h => by simp only [rootF]; rw [if_pos (by omega)]
  | f + 1, g + 1, l, h, h' => by
    simp only [rootF]
    by_cases hl : l.length ≤ 1
    · rw [if_pos hl, if_pos hl]
    · rw [if_neg hl, if_neg hl]
      exact rootF_eq f g _ (by rw [levelI_length]; omega) (by rw [levelI_length]; omega)

theorem rootT_one (l : List Int) (h : l.length ≤ 1) : rootT l = l.headD 0 := by
  unfold rootT
  cases hl : l.length with
  | zero => rfl
  | succ n => simp only [rootF]; rw [if_pos h]
theorem rootT_step (l : List Int) (h : 1 < l.length) : rootT l = rootT (levelI l) := by
  unfold rootT
  rw [rootF_eq l.length (l.length + 1) l (Nat.le_refl _) (by omega)]
  simp only [rootF]
  rw [if_neg (by omega)]
  exact rootF_eq _ _ _ (by rw [levelI_length]; omega) (Nat.le_refl _)

/-- The path of the leaf i, level by level. -/
def beside (l : List Int) (i : Nat) : List Int := if partnerN i < l.length then [l[partnerN i]?.getD 0] else []
def pathF : Nat → List Int → Nat → List Int
  | 0, _, _ => []
  | f + 1, l, i => if l.length ≤ 1 then [] else beside l i ++ pathF f (levelI l) (i / 2)
def pathT (l : List Int) (i : Nat) : List Int := pathF l.length l i

theorem pathF_eq : ∀ (f g : Nat) (l : List Int) (i : Nat), l.length ≤ f → l.length ≤ g → pathF f l i = pathF g l i
  | 0, 0, _, _, _, _ => rfl
  | 0, g + 1, l, i, h, _ => by simp only [pathF]; rw [if_pos (by omega)]
  | f + 1, 0, l, i, _, h => by simp only [pathF]; rw [if_pos (by omega)]
  | f + 1, g + 1, l, i, h, h' => by
    simp only [pathF]
    by_cases hl : l.length ≤ 1
    · rw [if_pos hl, if_pos hl]
    · rw [if_neg hl, if_neg hl, pathF_eq f g _ _ (by rw [levelI_length]; omega) (by rw [levelI_length]; omega)]

theorem pathT_one (l : List Int) (i : Nat) (h : l.length ≤ 1) : pathT l i = [] := by
  unfold pathT
  cases hl : l.length with
  | zero => rfl
  | succ n => simp only [pathF]; rw [if_pos h]
theorem pathT_step (l : List Int) (i : Nat) (h : 1 < l.length) : pathT l i = beside l i ++ pathT (levelI l) (i / 2) := by
  unfold pathT
  rw [pathF_eq l.length (l.length + 1) l i (Nat.le_refl _) (by omega)]
  simp only [pathF]
  rw [if_neg (by omega), pathF_eq _ (levelI l).length (levelI l) _ (by rw [levelI_length]; omega) (Nat.le_refl _)]

def besideI (d p : Int) (left : Bool) : Int := if left then joinI p d else joinI d p
theorem beside_left (d p : Int) : joinI p d = besideI d p true := by simp [besideI]
theorem beside_right (d p : Int) : joinI d p = besideI d p false := by simp [besideI]
theorem besideI_range (d p : Int) (left : Bool) : R (besideI d p left) := by
  cases left
  · rw [← beside_right]; exact joinI_range _ _
  · rw [← beside_left]; exact joinI_range _ _
theorem besideI_own {d d' p : Int} {left : Bool} (h : R d) (h' : R d') (e : besideI d p left = besideI d' p left) : d = d' := by
  cases left
  · rw [← beside_right, ← beside_right] at e; exact joinI_left h h' e
  · rw [← beside_left, ← beside_left] at e; exact joinI_right h h' e
theorem besideI_other {d p p' : Int} {left : Bool} (h : R p) (h' : R p') (e : besideI d p left = besideI d p' left) : p = p' := by
  cases left
  · rw [← beside_right, ← beside_right] at e; exact joinI_right h h' e
  · rw [← beside_left, ← beside_left] at e; exact joinI_left h h' e

/-- What a path leads to from the digest d at the index i on a level of n digests; nothing where its length is another. -/
def leadF : Nat → Nat → Nat → Int → List Int → Option Int
  | 0, _, _, d, p => if p = [] then some d else none
  | f + 1, n, i, d, p =>
    if n ≤ 1 then (if p = [] then some d else none)
    else if partnerN i < n then (match p with
      | [] => none
      | x :: q => leadF f ((n + 1) / 2) (i / 2) (besideI d x (decide (partnerN i < i))) q)
    else leadF f ((n + 1) / 2) (i / 2) d p
def leadT (n i : Nat) (d : Int) (p : List Int) : Option Int := leadF n n i d p

theorem leadF_eq : ∀ (f g n i : Nat) (d : Int) (p : List Int), n ≤ f → n ≤ g → leadF f n i d p = leadF g n i d p
  | 0, 0, _, _, _, _, _, _ => rfl
  | 0, g + 1, n, i, d, p, h, _ => by simp only [leadF]; rw [if_pos (by omega : n ≤ 1)]
  | f + 1, 0, n, i, d, p, _, h => by simp only [leadF]; rw [if_pos (by omega : n ≤ 1)]
  | f + 1, g + 1, n, i, d, p, h, h' => by
    simp only [leadF]
    by_cases hn : n ≤ 1
    · rw [if_pos hn, if_pos hn]
    · rw [if_neg hn, if_neg hn]
      cases p with
      | nil => simp only []; rw [leadF_eq f g _ _ d [] (by omega) (by omega)]
      | cons x q => simp only []; rw [leadF_eq f g _ _ _ q (by omega) (by omega), leadF_eq f g _ _ d (x :: q) (by omega) (by omega)]

theorem leadT_one (n i : Nat) (d : Int) (p : List Int) (h : n ≤ 1) : leadT n i d p = if p = [] then some d else none := by
  unfold leadT
  cases n with
  | zero => rfl
  | succ n => simp only [leadF]; rw [if_pos h]
theorem leadT_step (n i : Nat) (d : Int) (p : List Int) (h : 1 < n) : leadT n i d p =
    if partnerN i < n then (match p with
      | [] => none
      | x :: q => leadT ((n + 1) / 2) (i / 2) (besideI d x (decide (partnerN i < i))) q)
    else leadT ((n + 1) / 2) (i / 2) d p := by
  unfold leadT
  rw [leadF_eq n (n + 1) n i d p (Nat.le_refl _) (by omega)]
  simp only [leadF]
  rw [if_neg (by omega)]
  cases p with
  | nil => simp only []; rw [leadF_eq n _ ((n + 1) / 2) (i / 2) d [] (by omega) (Nat.le_refl _)]
  | cons x q => simp only []; rw [leadF_eq n _ ((n + 1) / 2) (i / 2) _ q (by omega) (Nat.le_refl _), leadF_eq n _ ((n + 1) / 2) (i / 2) d (x :: q) (by omega) (Nat.le_refl _)]

/-- The length of the path of the leaf i of n. -/
def pathLen : Nat → Nat → Nat → Nat
  | 0, _, _ => 0
  | f + 1, n, i => if n ≤ 1 then 0 else (if partnerN i < n then 1 else 0) + pathLen f ((n + 1) / 2) (i / 2)

theorem partner_lt (i n : Nat) (hi : i < n) (h : ¬ partnerN i < n) : i % 2 = 0 ∧ i + 1 = n := by
  unfold partnerN at h; split at h <;> omega
theorem partner_half (i : Nat) : partnerN i / 2 = i / 2 := by unfold partnerN; split <;> omega

/-- The digest above a digest and the one beside it. -/
theorem level_up (l : List Int) (i : Nat) (hi : i < l.length) (h : partnerN i < l.length) : (levelI l)[i / 2]?.getD 0 = besideI (l[i]?.getD 0) (l[partnerN i]?.getD 0) (decide (partnerN i < i)) := by
  rw [levelI_at l _ (by omega)]
  unfold levelAt
  unfold partnerN at h ⊢
  by_cases he : i % 2 = 0
  · rw [if_pos he] at h ⊢
    have e : 2 * (i / 2) = i := by omega
    rw [e, if_pos h, decide_eq_false (by omega), ← beside_right]
  · rw [if_neg he] at h ⊢
    have e : 2 * (i / 2) = i - 1 := by omega
    have e' : i - 1 + 1 = i := by omega
    rw [e, e', if_pos hi, decide_eq_true (by omega), ← beside_left]
theorem level_same (l : List Int) (i : Nat) (hi : i < l.length) (h : ¬ partnerN i < l.length) : (levelI l)[i / 2]?.getD 0 = l[i]?.getD 0 := by
  obtain ⟨he, hl⟩ := partner_lt i _ hi h
  rw [levelI_at l _ (by omega)]
  unfold levelAt
  have e : 2 * (i / 2) = i := by omega
  rw [e, if_neg (by omega)]

end Dg
end Go.Proofs.Ytgjmhddekggilaa
