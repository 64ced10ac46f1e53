/- Cycles walked along the nearest nodes. -/
import Derived.Test.YtmagfkpnlkhofaaZ9
namespace Go.Proofs.Ytmagfkpnlkhofaa
namespace Dgr
set_option linter.unusedVariables false

theorem dist_rev {es : Edges} {v w d : Nat} : Dist (rev es) v w d ↔ Dist es w v d := by
  unfold Dist
  rw [walk_rev]
  exact and_congr_right fun _ => forall_congr' fun e => forall_congr' fun _ => not_congr walk_rev
/-- The numbers are the distances to v. -/
theorem DistF.to {n : Nat} {es : Edges} {v : Nat} {f : Nat → Int} (h : DistF n (rev es) v f) {w : Nat} (hw : w < n) : (∃ k : Nat, f w = k ∧ Dist es w v k) ∨ (f w = -1 ∧ ¬ Rch es w v) := by
  rcases h w hw with ⟨k, h1, h2⟩ | ⟨h1, h2⟩
  · exact .inl ⟨k, h1, dist_rev.1 h2⟩
  · exact .inr ⟨h1, fun hr => h2 (rch_rev.2 hr)⟩
theorem DistF.eq {n : Nat} {es : Edges} {v : Nat} {f : Nat → Int} (h : DistF n (rev es) v f) {w d : Nat} (hw : w < n) (hd : Dist es w v d) : f w = d := by
  rcases h.to hw with ⟨k, h1, h2⟩ | ⟨_, h2⟩
  · rw [h1, h2.unique hd]
  · exact absurd hd.1.rch h2
/-- A nearest successor of u. -/
structure Next (es : Edges) (v u x d : Nat) : Prop where
  edge : (u, x) ∈ es
  dist : Dist es x v d
  best : ∀ y e, (u, y) ∈ es → Dist es y v e → d < e ∨ (d = e ∧ x ≤ y)
/-- From a node that is not v and leads to it, a step nearer. -/
theorem Next.of_dist {es : Edges} {v u x d k : Nat} (h : Next es v u x d) (hu : Dist es u v (k + 1)) : d = k := by
  obtain ⟨y, hy, hw⟩ := Walk.uncons hu.1
  have hy2 : Dist es y v k := ⟨hw, fun e he hwe => hu.2 (e + 1) (by omega) (Walk.cons hy hwe)⟩
  have h1 := h.best y k hy hy2
  have h2 : ¬ d < k := fun hlt => hu.2 (d + 1) (by omega) (Walk.cons h.edge h.dist.1)
  omega
/-- The list of the steps so far. -/
structure Trail (es : Edges) (v L : Nat) (l : List Nat) : Prop where
  head : l[0]? = some v
  step : ∀ (k a b : Nat), l[k]? = some a → l[k + 1]? = some b → (a, b) ∈ es ∧ Dist es b v (L - (k + 1)) ∧ ∀ w, (a, w) ∈ es → Dist es w v (L - (k + 1)) → b ≤ w
theorem Trail.one (es : Edges) (v L : Nat) : Trail es v L [v] := ⟨rfl, fun k a b h1 h2 => by simp at h2⟩
theorem Trail.snoc {es : Edges} {v L u x d : Nat} {l : List Nat} (h : Trail es v L (l ++ [u])) (hn : Next es v u x d) (hd : d + (l.length + 1) = L) : Trail es v L (l ++ [u] ++ [x]) := by
  refine ⟨by rw [List.getElem?_append_left (by simp)]; exact h.head, fun k a b ha hb => ?_⟩
  have hk : k + 1 < (l ++ [u] ++ [x]).length := (List.getElem?_eq_some_iff.1 hb).1
  simp only [List.length_append, List.length_cons, List.length_nil] at hk
  by_cases hkl : k + 1 < (l ++ [u]).length
  · rw [List.getElem?_append_left hkl] at hb
    rw [List.getElem?_append_left (by omega)] at ha
    exact h.step k a b ha hb
  · simp only [List.length_append, List.length_cons, List.length_nil] at hkl
    obtain rfl : k = l.length := by omega
    rw [List.getElem?_append_left (by simp), List.getElem?_append_right (Nat.le_refl _), Nat.sub_self, List.getElem?_cons_zero] at ha
    rw [List.getElem?_append_right (by simp)] at hb
    simp only [List.length_append, List.length_cons, List.length_nil, Nat.sub_self, List.getElem?_cons_zero, Option.some.injEq] at hb
    cases ha
    subst hb
    obtain rfl : d = L - (l.length + 1) := by omega
    refine ⟨hn.edge, hn.dist, fun w hw hdw => ?_⟩
    have := hn.best w _ hw hdw
    omega
theorem Trail.greedy {es : Edges} {v L u : Nat} {l : List Nat} (h : Trail es v L (l ++ [u])) (hl : l.length = L) (hL : 0 < L) : Greedy es v L l := by
  refine ⟨hl, ?_, fun k a b hk ha hb => ?_⟩
  · have := h.head
    rwa [List.getElem?_append_left (by omega)] at this
  · exact h.step k a b (by rw [List.getElem?_append_left (by omega)]; exact ha) (by rw [List.getElem?_append_left (by omega)]; exact hb)
/-- What the walk from v finds: no cycle through v; or the least of the shortest ones. -/
def Found (es : Edges) (v : Nat) : Option (List Nat) → Prop
  | none => ∀ d, ¬ Walk es (d + 1) v v
  | some l => ∃ d, Greedy es v (d + 1) l ∧ Walk es (d + 1) v v ∧ ∀ e, e < d → ¬ Walk es (e + 1) v v
theorem found_none {es : Edges} {v : Nat} (h : ∀ w, (v, w) ∈ es → ¬ Rch es w v) : Found es v none := fun d hw => by
  obtain ⟨y, hy, hw'⟩ := Walk.uncons hw
  exact h y hy hw'.rch
theorem found_some {es : Edges} {v x d : Nat} {l : List Nat} (hn : Next es v v x d) (hg : Greedy es v (d + 1) l) : Found es v (some l) :=
  ⟨d, hg, Walk.cons hn.edge hn.dist.1, fun e he hw => by
    obtain ⟨y, hy, hw'⟩ := Walk.uncons hw
    obtain ⟨e', h1, h2⟩ := dist_of_walk hw'
    have := hn.best y e' hy h2
    omega⟩
theorem Found.length {es : Edges} {v : Nat} {l : List Nat} (h : Found es v (some l)) : 0 < l.length := by
  obtain ⟨d, hg, _⟩ := h
  rw [hg.len]; omega
/-- The best of the nodes below k. -/
structure Best (es : Edges) (k : Nat) (b : Option (List Nat)) : Prop where
  none_ : b = none → ∀ v, v < k → ∀ d, ¬ Walk es (d + 1) v v
  some_ : ∀ l, b = some l → ∃ first d, first < k ∧ Greedy es first (d + 1) l ∧ Walk es (d + 1) first first ∧ (∀ v e, v < k → e < d → ¬ Walk es (e + 1) v v) ∧ ∀ v, v < first → ¬ Walk es (d + 1) v v
theorem Best.start (es : Edges) : Best es 0 none := ⟨fun _ v hv => by omega, fun l h => (by cases h)⟩
theorem Best.skip {es : Edges} {k : Nat} {b : Option (List Nat)} (h : Best es k b) (hf : Found es k none) : Best es (k + 1) b := by
  refine ⟨fun hb v hv d => ?_, fun l hl => ?_⟩
  · by_cases hvk : v = k
    · subst hvk; exact hf d
    · exact h.none_ hb v (by omega) d
  · obtain ⟨first, d, h1, h2, h3, h4, h5⟩ := h.some_ l hl
    refine ⟨first, d, by omega, h2, h3, fun v e hv he => ?_, h5⟩
    by_cases hvk : v = k
    · subst hvk; exact hf e
    · exact h4 v e (by omega) he
theorem Best.first {es : Edges} {k : Nat} (h : Best es k none) {l : List Nat} (hf : Found es k (some l)) : Best es (k + 1) (some l) := by
  obtain ⟨d, h1, h2, h3⟩ := hf
  refine ⟨fun hb => (by cases hb), fun m hm => ?_⟩
  cases hm
  refine ⟨k, d, by omega, h1, h2, fun v e hv he => ?_, fun v hv => h.none_ rfl v hv d⟩
  by_cases hvk : v = k
  · subst hvk; exact h3 e he
  · exact h.none_ rfl v (by omega) e
theorem Best.better {es : Edges} {k : Nat} {m l : List Nat} (h : Best es k (some m)) (hf : Found es k (some l)) (hlt : l.length < m.length) : Best es (k + 1) (some l) := by
  obtain ⟨d, h1, h2, h3⟩ := hf
  obtain ⟨first, d', g1, g2, g3, g4, g5⟩ := h.some_ m rfl
  have e1 := h1.len
  have e2 := g2.len
  refine ⟨fun hb => (by cases hb), fun x hx => ?_⟩
  cases hx
  refine ⟨k, d, by omega, h1, h2, fun v e hv he => ?_, fun v hv => g4 v d hv (by omega)⟩
  by_cases hvk : v = k
  · subst hvk; exact h3 e he
  · exact g4 v e (by omega) (by omega)
theorem Best.keep {es : Edges} {k : Nat} {m l : List Nat} (h : Best es k (some m)) (hf : Found es k (some l)) (hge : ¬ l.length < m.length) : Best es (k + 1) (some m) := by
  obtain ⟨d, h1, h2, h3⟩ := hf
  obtain ⟨first, d', g1, g2, g3, g4, g5⟩ := h.some_ m rfl
  have e1 := h1.len
  have e2 := g2.len
  refine ⟨fun hb => (by cases hb), fun x hx => ?_⟩
  cases hx
  refine ⟨first, d', by omega, g2, g3, fun v e hv he => ?_, g5⟩
  by_cases hvk : v = k
  · subst hvk; exact h3 e (by omega)
  · exact g4 v e (by omega) he
/-- What Cycle finds. -/
def CycIs (es : Edges) : Option (List Nat) → Prop
  | none => Acyclic es
  | some l => IsLeast es l
theorem Best.done {n : Nat} {es : Edges} (ok : Ok n es) {b : Option (List Nat)} (h : Best es n b) : CycIs es b := by
  have out : ∀ {v d : Nat}, Walk es (d + 1) v v → v < n := fun {v d} hw => (Way.lt ok hw.way).1
  cases b with
  | none =>
    intro v hw
    obtain ⟨d, hd⟩ := hw.walk
    exact h.none_ rfl v (out hd) d hd
  | some l =>
    obtain ⟨first, d, h1, h2, h3, h4, h5⟩ := h.some_ l rfl
    exact greedy_least h2 h3 (fun e u he hw => h4 u e (out hw) he hw) h5
theorem CycIs.unique {es : Edges} {b c : Option (List Nat)} (h : CycIs es b) (h' : CycIs es c) : b = c := by
  cases b with
  | none =>
    cases c with
    | none => rfl
    | some l => exact absurd h (cyc_iff.1 ⟨l, IsLeast.cyc h'⟩)
  | some l =>
    cases c with
    | none => exact absurd h' (cyc_iff.1 ⟨l, IsLeast.cyc h⟩)
    | some m => rw [IsLeast.unique h h']

end Dgr
end Go.Proofs.Ytmagfkpnlkhofaa
