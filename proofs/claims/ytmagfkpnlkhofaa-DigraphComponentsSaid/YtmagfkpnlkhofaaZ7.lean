/- Lengths of shortest walks, reckoned in rounds over all edges. -/
import Derived.Test.YtmagfkpnlkhofaaZ6
namespace Go.Proofs.Ytmagfkpnlkhofaa
namespace Dgr
set_option linter.unusedVariables false

theorem dist_of_walk {es : Edges} {w v d : Nat} (h : Walk es d w v) : ∃ e, e ≤ d ∧ Dist es w v e := by
  induction d using Nat.strongRecOn with
  | _ d ih =>
    by_cases hx : ∃ e, e < d ∧ Walk es e w v
    · obtain ⟨e, he, hw⟩ := hx
      obtain ⟨k, hk, hd⟩ := ih e he hw
      exact ⟨k, by omega, hd⟩
    · exact ⟨d, Nat.le_refl _, h, fun e he hw => hx ⟨e, he, hw⟩⟩
theorem Dist.unique {es : Edges} {w v d e : Nat} (h : Dist es w v d) (h' : Dist es w v e) : d = e := by
  rcases Nat.lt_trichotomy d e with hl | hl | hl
  · exact absurd h.1 (h'.2 d hl)
  · exact hl
  · exact absurd h'.1 (h.2 e hl)
/-- A shortest walk comes to each node at most once: it has fewer edges than there are nodes. -/
theorem Dist.lt {n : Nat} {es : Edges} (ok : Ok n es) {w v d : Nat} (hw : w < n) (h : Dist es w v d) : d < n := by
  obtain ⟨f, h0, h1, he⟩ := h.1.nodes
  have hne : ∀ i j, i < j → j ≤ d → f i ≠ f j := fun i j hij hj e => by
    have a := walk_of he i 0 (by omega)
    have b := walk_of he (d - j) j (by omega)
    rw [Nat.zero_add, h0, e] at a
    rw [show j + (d - j) = d by omega, h1] at b
    exact h.2 (i + (d - j)) (by omega) (a.trans b)
  have hlt : ∀ i, i ≤ d → f i < n := fun i hi => by
    cases i with
    | zero => rw [h0]; exact hw
    | succ i => exact (ok _ (he i (by omega))).2
  have := nodup_len n ((List.range (d + 1)).map f) (by
    refine List.pairwise_map.2 (List.Pairwise.imp_of_mem ?_ (List.pairwise_lt_range (n := d + 1)))
    intro a b ha hb hab
    exact hne a b hab (by have := List.mem_range.1 hb; omega)) (fun x hx => by
    obtain ⟨i, hi, rfl⟩ := List.mem_map.1 hx
    exact hlt i (by have := List.mem_range.1 hi; omega))
  simp at this
  omega
/-- What is known in round d when the edges ps are done: the lengths up to d, and those of d + 1 that one of ps gives. -/
def BQ (es : Edges) (v d : Nat) (ps : Edges) (w k : Nat) : Prop := (k ≤ d ∧ Dist es w v k) ∨ (k = d + 1 ∧ Dist es w v (d + 1) ∧ ∃ u, (w, u) ∈ ps ∧ Dist es u v d)
def BackAt (n : Nat) (es : Edges) (v d : Nat) (ps : Edges) (f : Nat → Int) : Prop := ∀ w, w < n → (∃ k : Nat, f w = k ∧ BQ es v d ps w k) ∨ (f w = -1 ∧ ∀ k, ¬ BQ es v d ps w k)
theorem back_start {n : Nat} {es : Edges} {v : Nat} {f : Nat → Int} (hv : f v = 0) (hf : ∀ w, w ≠ v → f w = -1) : BackAt n es v 0 [] f := fun w hw => by
  by_cases h : w = v
  · subst h
    exact .inl ⟨0, hv, .inl ⟨Nat.le_refl _, rfl, fun e he => by omega⟩⟩
  · refine .inr ⟨hf w h, fun k hk => ?_⟩
    rcases hk with ⟨h1, h2⟩ | ⟨_, _, u, hu, _⟩
    · have : k = 0 := by omega
      subst this
      exact h h2.1
    · cases hu
theorem back_keep {n : Nat} {es : Edges} {v d : Nat} {ps : Edges} {f : Nat → Int} (h : BackAt n es v d ps f) {a b : Nat} (ha : a < n) (hb : b < n) (hc : ¬ (f b = d ∧ f a < 0)) : BackAt n es v d (ps ++ [(a, b)]) f := fun w hw => by
  have hmono : ∀ k, BQ es v d ps w k → BQ es v d (ps ++ [(a, b)]) w k := fun k hk => by
    rcases hk with hk | ⟨h1, h2, u, hu, h3⟩
    · exact .inl hk
    · exact .inr ⟨h1, h2, u, by simp [hu], h3⟩
  rcases h w hw with ⟨k, h1, h2⟩ | ⟨h1, h2⟩
  · exact .inl ⟨k, h1, hmono k h2⟩
  · refine .inr ⟨h1, fun k hk => ?_⟩
    rcases hk with hk | ⟨e1, e2, u, hu, e3⟩
    · exact h2 k (.inl hk)
    · rcases List.mem_append.1 hu with hu | hu
      · exact h2 k (.inr ⟨e1, e2, u, hu, e3⟩)
      · simp only [List.mem_singleton, Prod.mk.injEq] at hu
        obtain ⟨rfl, rfl⟩ := hu
        refine hc ⟨?_, by omega⟩
        rcases h u hb with ⟨k', h3, h4⟩ | ⟨_, h4⟩
        · rcases h4 with ⟨_, h5⟩ | ⟨h6, h5, _⟩
          · rw [h3, h5.unique e3]
          · have := h5.unique e3; omega
        · exact absurd (.inl ⟨Nat.le_refl _, e3⟩) (h4 d)
theorem back_set {n : Nat} {es : Edges} {v d : Nat} {ps : Edges} {f : Nat → Int} (h : BackAt n es v d ps f) {a b : Nat} (ha : a < n) (hb : b < n) (he : (a, b) ∈ es) (h1 : f b = d) (h2 : f a < 0) {g : Nat → Int} (hg : g a = (d + 1 : Nat)) (hg' : ∀ w, w ≠ a → g w = f w) : BackAt n es v d (ps ++ [(a, b)]) g := by
  have hbd : Dist es b v d := by
    rcases h b hb with ⟨k, h3, h4⟩ | ⟨h3, _⟩
    · have : k = d := by omega
      subst this
      rcases h4 with ⟨_, h5⟩ | ⟨h6, _⟩
      · exact h5
      · omega
    · omega
  have hna : ∀ k, ¬ BQ es v d ps a k := by
    rcases h a ha with ⟨k, h3, _⟩ | ⟨_, h4⟩
    · omega
    · exact h4
  have had : Dist es a v (d + 1) := ⟨Walk.cons he hbd.1, fun e hlt hw => by
    obtain ⟨k, hk, hd⟩ := dist_of_walk hw
    exact hna k (.inl ⟨by omega, hd⟩)⟩
  intro w hw
  by_cases hwa : w = a
  · subst hwa
    exact .inl ⟨d + 1, hg, .inr ⟨rfl, had, b, by simp, hbd⟩⟩
  · rw [hg' w hwa]
    have hiff : ∀ k, BQ es v d (ps ++ [(a, b)]) w k ↔ BQ es v d ps w k := fun k => by
      unfold BQ
      refine or_congr Iff.rfl (and_congr Iff.rfl (and_congr Iff.rfl (exists_congr fun u => and_congr ?_ Iff.rfl)))
      simp [hwa]
    rcases h w hw with ⟨k, h3, h4⟩ | ⟨h3, h4⟩
    · exact .inl ⟨k, h3, (hiff k).2 h4⟩
    · exact .inr ⟨h3, fun k hk => h4 k ((hiff k).1 hk)⟩
theorem back_round {n : Nat} {es : Edges} {v d : Nat} {f : Nat → Int} (h : BackAt n es v d es f) : BackAt n es v (d + 1) [] f := fun w hw => by
  have hiff : ∀ k, BQ es v (d + 1) [] w k ↔ BQ es v d es w k := fun k => by
    unfold BQ
    constructor
    · rintro (⟨h1, h2⟩ | ⟨_, _, u, hu, _⟩)
      · by_cases hk : k ≤ d
        · exact .inl ⟨hk, h2⟩
        · have : k = d + 1 := by omega
          subst this
          refine .inr ⟨rfl, h2, ?_⟩
          obtain ⟨u, hu, hw'⟩ := h2.1.uncons
          refine ⟨u, hu, hw', fun e he hx => h2.2 (e + 1) (by omega) (Walk.cons hu hx)⟩
      · cases hu
    · rintro (⟨h1, h2⟩ | ⟨h1, h2, _⟩)
      · exact .inl ⟨by omega, h2⟩
      · subst h1; exact .inl ⟨Nat.le_refl _, h2⟩
  rcases h w hw with ⟨k, h3, h4⟩ | ⟨h3, h4⟩
  · exact .inl ⟨k, h3, (hiff k).2 h4⟩
  · exact .inr ⟨h3, fun k hk => h4 k ((hiff k).1 hk)⟩
/-- Behind n rounds all lengths are known. -/
theorem back_done {n : Nat} {es : Edges} (ok : Ok n es) {v : Nat} {f : Nat → Int} (h : BackAt n es v n [] f) {w : Nat} (hw : w < n) : (∃ k : Nat, f w = k ∧ Dist es w v k) ∨ (f w = -1 ∧ ∀ k, ¬ Walk es k w v) := by
  rcases h w hw with ⟨k, h3, h4⟩ | ⟨h3, h4⟩
  · rcases h4 with ⟨_, h5⟩ | ⟨_, _, u, hu, _⟩
    · exact .inl ⟨k, h3, h5⟩
    · cases hu
  · refine .inr ⟨h3, fun k hk => ?_⟩
    obtain ⟨e, _, hd⟩ := dist_of_walk hk
    exact h4 e (.inl ⟨by have := hd.lt ok hw; omega, hd⟩)

/-- Reach: marks that grow along the edges, in rounds. -/
def MarkAt (es : Edges) (v d : Nat) (m : Nat → Bool) : Prop := (∀ w, m w = true → Rch es v w) ∧ ∀ w k, k ≤ d → Walk es k v w → m w = true
theorem mark_start {es : Edges} {v : Nat} {m : Nat → Bool} (hv : m v = true) (hm : ∀ w, w ≠ v → m w = false) : MarkAt es v 0 m := by
  refine ⟨fun w hw => ?_, fun w k hk h => ?_⟩
  · by_cases h : w = v
    · subst h; exact .refl _ _
    · rw [hm w h] at hw; cases hw
  · have : k = 0 := by omega
    subst this
    cases h
    exact hv
/-- In round d, when the edges ps are done. -/
def MarkIn (es : Edges) (v d : Nat) (ps : Edges) (m : Nat → Bool) : Prop := MarkAt es v d m ∧ ∀ u w, (u, w) ∈ ps → (∃ k, k ≤ d ∧ Walk es k v u) → m w = true
theorem mark_step {es : Edges} {v d : Nat} {ps : Edges} {m : Nat → Bool} (h : MarkIn es v d ps m) {a b : Nat} (he : (a, b) ∈ es) {m' : Nat → Bool} (h1 : m' b = (m b || m a)) (h2 : ∀ w, w ≠ b → m' w = m w) : MarkIn es v d (ps ++ [(a, b)]) m' := by
  have hmono : ∀ w, m w = true → m' w = true := fun w hw => by
    by_cases hb : w = b
    · subst hb; rw [h1, hw]; rfl
    · rw [h2 w hb]; exact hw
  refine ⟨⟨fun w hw => ?_, fun w k hk hx => hmono w (h.1.2 w k hk hx)⟩, fun u w hu hx => ?_⟩
  · by_cases hb : w = b
    · subst hb
      rw [h1, Bool.or_eq_true] at hw
      rcases hw with hw | hw
      · exact h.1.1 _ hw
      · exact (h.1.1 _ hw).step he
    · rw [h2 w hb] at hw
      exact h.1.1 w hw
  · rcases List.mem_append.1 hu with hu | hu
    · exact hmono w (h.2 u w hu hx)
    · simp only [List.mem_singleton, Prod.mk.injEq] at hu
      obtain ⟨rfl, rfl⟩ := hu
      obtain ⟨k, hk, hw⟩ := hx
      rw [h1, h.1.2 u k hk hw, Bool.or_true]
theorem mark_round {es : Edges} {v d : Nat} {m : Nat → Bool} (h : MarkIn es v d es m) : MarkAt es v (d + 1) m := by
  refine ⟨h.1.1, fun w k hk hw => ?_⟩
  by_cases hkd : k ≤ d
  · exact h.1.2 w k hkd hw
  · have : k = d + 1 := by omega
    subst this
    obtain ⟨u, h1, h2⟩ := hw
    exact h.2 u w h2 ⟨d, Nat.le_refl _, h1⟩
theorem Rch.walk {es : Edges} {v w : Nat} (h : Rch es v w) : ∃ k, Walk es k v w := by
  rcases h with rfl | h
  · exact ⟨0, rfl⟩
  · obtain ⟨d, hd⟩ := h.walk
    exact ⟨d + 1, hd⟩
theorem mark_done {n : Nat} {es : Edges} (ok : Ok n es) {v : Nat} (hv : v < n) {m : Nat → Bool} (h : MarkAt es v n m) (w : Nat) : m w = true ↔ Rch es v w := by
  refine ⟨h.1 w, fun hr => ?_⟩
  obtain ⟨k, hk⟩ := hr.walk
  obtain ⟨e, _, hd⟩ := dist_of_walk hk
  exact h.2 w e (by have := hd.lt ok hv; omega) hd.1

end Dgr
end Go.Proofs.Ytmagfkpnlkhofaa
