/- The least of the shortest cycles, found step by step: from its least node, each time to the least node from which the way back is as short as can be. -/
import Derived.Test.YtmagfkpnlkhofaaZ5
namespace Go.Proofs.Ytmagfkpnlkhofaa
namespace Dgr
set_option linter.unusedVariables false

/-- d is the length of the shortest walk from w to v. -/
def Dist (es : Edges) (w v d : Nat) : Prop := Walk es d w v ∧ ∀ e, e < d → ¬ Walk es e w v
theorem Walk.cons {es : Edges} {d v u w : Nat} (h : (v, u) ∈ es) (h' : Walk es d u w) : Walk es (d + 1) v w := by
  have h1 : Walk es 1 v u := ⟨v, rfl, h⟩
  have := h1.trans h'
  rwa [Nat.add_comm] at this
theorem Walk.uncons {es : Edges} : ∀ {d v w : Nat}, Walk es (d + 1) v w → ∃ u, (v, u) ∈ es ∧ Walk es d u w
  | 0, v, w, ⟨u, h, he⟩ => by cases h; exact ⟨w, he, rfl⟩
  | d + 1, v, w, ⟨u, h, he⟩ => by
    obtain ⟨x, h1, h2⟩ := h.uncons
    exact ⟨x, h1, u, h2, he⟩
/-- The list that the steps make. -/
structure Greedy (es : Edges) (first L : Nat) (l : List Nat) : Prop where
  len : l.length = L
  head : l[0]? = some first
  next : ∀ (k a b : Nat), k + 1 < L → l[k]? = some a → l[k + 1]? = some b → (a, b) ∈ es ∧ Dist es b first (L - (k + 1)) ∧ ∀ w, (a, w) ∈ es → Dist es w first (L - (k + 1)) → b ≤ w
theorem Greedy.walk {es : Edges} {first L : Nat} {l : List Nat} (h : Greedy es first L l) : ∀ (k a : Nat), l[k]? = some a → Walk es k first a
  | 0, a, ha => by rw [h.head] at ha; cases ha; rfl
  | k + 1, a, ha => by
    have hk : k + 1 < L := by rw [← h.len]; exact (List.getElem?_eq_some_iff.1 ha).1
    obtain ⟨b, hb⟩ : ∃ b, l[k]? = some b := ⟨_, List.getElem?_eq_getElem (by rw [h.len]; omega)⟩
    exact ⟨b, h.walk k b hb, (h.next k b a hk hb ha).1⟩
/-- A word is at most another one if at the first place where they part it is less. -/
theorem lex_of {l m : List Nat} : ∀ (hl : l.length = m.length), (∀ (k a b : Nat), (∀ j, j < k → l[j]? = m[j]?) → l[k]? = some a → m[k]? = some b → a ≤ b) → lexLe l m := by
  induction l generalizing m with
  | nil => intro _ _; trivial
  | cons a l ih =>
    intro hl h
    cases m with
    | nil => simp at hl
    | cons b m =>
      have h0 := h 0 a b (by omega) rfl rfl
      rcases Nat.lt_or_ge a b with hab | hab
      · exact .inl hab
      · have e : a = b := by omega
        subst e
        refine .inr ⟨rfl, ih (by simpa using hl) fun k x y hj hx hy => h (k + 1) x y (fun j hjk => ?_) (by simpa using hx) (by simpa using hy)⟩
        cases j with
        | zero => rfl
        | succ j => simpa using hj j (by omega)
theorem greedy_least {es : Edges} {first d : Nat} {l : List Nat} (h : Greedy es first (d + 1) l) (hw : Walk es (d + 1) first first) (hmin : ∀ e u, e < d → ¬ Walk es (e + 1) u u) (hfirst : ∀ v, v < first → ¬ Walk es (d + 1) v v) : IsLeast es l := by
  obtain ⟨f, hf⟩ : ∃ f : Nat → Nat, ∀ i, i < d + 1 → l[i]? = some (f i) := ⟨fun i => l.getD i 0, fun i hi => by simp [List.getD, h.len, hi]⟩
  -- the last one has an edge to the first
  have hlast : (f d, first) ∈ es := by
    rcases Nat.eq_zero_or_pos d with hd | hd
    · subst hd
      have h0 := hf 0 (by omega)
      rw [h.head] at h0
      cases h0
      obtain ⟨u, h1, h2⟩ := hw
      cases h1
      exact h2
    · obtain ⟨m, rfl⟩ : ∃ m, d = m + 1 := ⟨d - 1, by omega⟩
      have := (h.next m _ _ (by omega) (hf m (by omega)) (hf (m + 1) (by omega))).2.1.1
      rw [show m + 1 + 1 - (m + 1) = 1 by omega] at this
      obtain ⟨u, h1, h2⟩ := this
      cases h1
      exact h2
  have hcyc : IsCyc es l := by
    refine ⟨by rw [h.len]; omega, nodup_of_inj fun i j v hi hj => ?_, fun i v w hv hw' => ?_⟩
    · -- two places of one node would make a shorter closed walk
      have key : ∀ (i j : Nat), i < j → l[i]? = some v → l[j]? = some v → False := fun i j hij hi hj => by
        have hjl : j < d + 1 := by rw [← h.len]; exact (List.getElem?_eq_some_iff.1 hj).1
        have hstep : ∀ k, i + k < d + 1 → Walk es k v (f (i + k)) := by
          intro k
          induction k with
          | zero =>
            intro _
            have := hf i (by omega)
            rw [hi] at this
            exact Option.some.inj this
          | succ k ih =>
            intro hk
            exact ⟨_, ih (by omega), (h.next (i + k) _ _ (by omega) (hf _ (by omega)) (hf (i + k + 1) (by omega))).1⟩
        have := hstep (j - i) (by omega)
        rw [show i + (j - i) = j by omega] at this
        have e := hf j hjl
        rw [hj] at e
        cases e
        obtain ⟨m, hm⟩ : ∃ m, j - i = m + 1 := ⟨j - i - 1, by omega⟩
        rw [hm] at this
        exact hmin m _ (by omega) this
      rcases Nat.lt_trichotomy i j with hij | hij | hij
      · exact (key i j hij hi hj).elim
      · exact hij
      · exact (key j i hij hj hi).elim
    · have hi : i < d + 1 := by rw [← h.len]; exact (List.getElem?_eq_some_iff.1 hv).1
      rw [h.len] at hw'
      by_cases hid : i = d
      · subst hid
        rw [Nat.mod_self, h.head] at hw'
        cases hw'
        have := hf i hi
        rw [hv] at this
        cases this
        exact hlast
      · rw [Nat.mod_eq_of_lt (by omega)] at hw'
        exact (h.next i v w (by omega) hv hw').1
  have hlen : ∀ m, IsCyc es m → l.length ≤ m.length := fun m hm => by
    obtain ⟨v, _, hv⟩ := hm.walk
    have hp := hm.pos
    refine Classical.byContradiction fun hc => ?_
    obtain ⟨e, he⟩ : ∃ e, m.length = e + 1 := ⟨m.length - 1, by omega⟩
    rw [he] at hv
    rw [h.len] at hc
    exact hmin e v (by omega) hv
  refine ⟨hcyc, hlen, fun m hm hml => lex_of hml.symm fun k a b hpre ha hb => ?_⟩
  have hml' : m.length = d + 1 := by rw [hml, h.len]
  obtain ⟨g, hg⟩ : ∃ g : Nat → Nat, ∀ i, i < d + 1 → m[i]? = some (g i) := ⟨fun i => m.getD i 0, fun i hi => by simp [List.getD, hml', hi]⟩
  have hback : ∀ j, j ≤ d → Walk es (d + 1 - j) (g j) (g 0) := by
    have : ∀ r, r ≤ d → Walk es (r + 1) (g (d - r)) (g 0) := by
      intro r
      induction r with
      | zero =>
        intro _
        refine ⟨g d, rfl, hm.edge d _ _ (hg d (by omega)) ?_⟩
        rw [hml', Nat.mod_self]
        exact hg 0 (by omega)
      | succ r ih =>
        intro hr
        have hw1 := ih (by omega)
        refine Walk.cons (hm.edge (d - (r + 1)) _ (g (d - r)) (hg _ (by omega)) ?_) hw1
        rw [hml', Nat.mod_eq_of_lt (by omega), show d - (r + 1) + 1 = d - r by omega]
        exact hg _ (by omega)
    intro j hj
    have := this (d - j) (by omega)
    rwa [show d - j + 1 = d + 1 - j by omega, show d - (d - j) = j by omega] at this
  have hg0 : Walk es (d + 1) (g 0) (g 0) := hback 0 (by omega)
  cases k with
  | zero =>
    rw [h.head] at ha
    rw [hg 0 (by omega)] at hb
    cases ha
    cases hb
    refine Nat.le_of_not_lt fun hlt => hfirst _ hlt hg0
  | succ k =>
    have hk : k + 1 < d + 1 := by rw [← h.len]; exact (List.getElem?_eq_some_iff.1 ha).1
    have e0 : g 0 = first := by
      have := hpre 0 (by omega)
      rw [h.head, hg 0 (by omega)] at this
      exact (Option.some.inj this).symm
    have ek : f k = g k := by
      have := hpre k (by omega)
      rw [hf k (by omega), hg k (by omega)] at this
      exact Option.some.inj this
    have hb' := hg (k + 1) hk
    rw [hb] at hb'
    cases hb'
    have hedge : (f k, g (k + 1)) ∈ es := by
      rw [ek]
      refine hm.edge k _ _ (hg k (by omega)) ?_
      rw [hml', Nat.mod_eq_of_lt hk]
      exact hg _ hk
    have hd1 : Walk es (d + 1 - (k + 1)) (g (k + 1)) first := by rw [← e0]; exact hback (k + 1) (by omega)
    refine (h.next k (f k) a hk (hf k (by omega)) ha).2.2 _ hedge ⟨hd1, fun e he hw' => ?_⟩
    -- a shorter way back would make a shorter closed walk
    have h1 := h.walk k _ (hf k (by omega))
    have h2 : Walk es (k + 1) first (g (k + 1)) := ⟨_, h1, hedge⟩
    have h3 := h2.trans hw'
    obtain ⟨x, hx⟩ : ∃ x, k + 1 + e = x + 1 := ⟨k + e, by omega⟩
    rw [hx] at h3
    exact hmin x _ (by omega) h3

end Dgr
end Go.Proofs.Ytmagfkpnlkhofaa
