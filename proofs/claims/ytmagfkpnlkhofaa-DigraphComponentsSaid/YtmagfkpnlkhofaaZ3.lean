/- Reachable nodes as lists, depths, strongly connected components. -/
import Derived.Test.YtmagfkpnlkhofaaZ2
namespace Go.Proofs.Ytmagfkpnlkhofaa
namespace Dgr
set_option linter.unusedVariables false

/-- A node that is reached along an edge from another node that is reached. -/
theorem Way.before {es : Edges} {v w : Nat} (h : Way es v w) (hne : v ≠ w) : ∃ u, u ≠ w ∧ Rch es v u ∧ (u, w) ∈ es := by
  induction h with
  | one h => exact ⟨v, hne, .refl _ _, h⟩
  | @more u x hw he ih =>
    by_cases hux : u = x
    · subst hux
      exact ih hne
    · exact ⟨u, hux, .inr hw, he⟩
open Classical in
/-- The nodes below n with a property, in increasing order. -/
noncomputable def those (n : Nat) (p : Nat → Prop) : List Nat := (List.range n).filter fun w => decide (p w)
theorem mem_those {n : Nat} {p : Nat → Prop} {w : Nat} : w ∈ those n p ↔ w < n ∧ p w := by simp [those]
theorem those_lt (n : Nat) (p : Nat → Prop) : (those n p).Pairwise (· < ·) := List.Pairwise.filter _ List.pairwise_lt_range
/-- An increasing list is known by its elements. -/
theorem inc_ext : ∀ {l m : List Nat}, l.Pairwise (· < ·) → m.Pairwise (· < ·) → (∀ x, x ∈ l ↔ x ∈ m) → l = m
  | [], [], _, _, _ => rfl
  | [], b :: m, _, _, h => by have := (h b).2 (by simp); cases this
  | a :: l, [], _, _, h => by have := (h a).1 (by simp); cases this
  | a :: l, b :: m, hl, hm, h => by
    obtain ⟨hl1, hl2⟩ := List.pairwise_cons.1 hl
    obtain ⟨hm1, hm2⟩ := List.pairwise_cons.1 hm
    have e : a = b := by
      rcases List.mem_cons.1 ((h a).1 (by simp)) with e | ha
      · exact e
      · rcases List.mem_cons.1 ((h b).2 (by simp)) with e | hb
        · exact e.symm
        · have := hm1 a ha; have := hl1 b hb; omega
    subst e
    congr 1
    refine inc_ext hl2 hm2 fun x => ⟨fun hx => ?_, fun hx => ?_⟩
    · rcases List.mem_cons.1 ((h x).1 (by simp [hx])) with e | hx'
      · subst e; have := hl1 x hx; omega
      · exact hx'
    · rcases List.mem_cons.1 ((h x).2 (by simp [hx])) with e | hx'
      · subst e; have := hm1 x hx; omega
      · exact hx'
theorem those_of {n : Nat} {p : Nat → Prop} {l : List Nat} (h1 : l.Pairwise (· < ·)) (h2 : ∀ x, x ∈ l ↔ x < n ∧ p x) : l = those n p := inc_ext h1 (those_lt n p) fun x => by rw [h2, mem_those]
noncomputable def reachL (n : Nat) (es : Edges) (v : Nat) : List Nat := those n (Rch es v)
/-- The class of a node. -/
def Both (es : Edges) (v w : Nat) : Prop := Rch es v w ∧ Rch es w v
theorem Both.refl (es : Edges) (v : Nat) : Both es v v := ⟨.refl _ _, .refl _ _⟩
theorem Both.symm {es : Edges} {v w : Nat} (h : Both es v w) : Both es w v := ⟨h.2, h.1⟩
theorem Both.trans {es : Edges} {v u w : Nat} (h : Both es v u) (h' : Both es u w) : Both es v w := ⟨h.1.trans h'.1, h'.2.trans h.2⟩
noncomputable def classL (n : Nat) (es : Edges) (v : Nat) : List Nat := those n (Both es v)
/-- The classes, in the order of their least nodes. -/
noncomputable def compL (n : Nat) (es : Edges) : List (List Nat) := (those n fun v => ∀ u, u < v → ¬ Both es v u).map (classL n es)
theorem class_eq {n : Nat} {es : Edges} {v w : Nat} (h : Both es v w) : classL n es v = classL n es w := inc_ext (those_lt _ _) (those_lt _ _) fun x => by
  unfold classL
  rw [mem_those, mem_those]
  exact and_congr_right fun _ => ⟨fun hx => h.symm.trans hx, fun hx => h.trans hx⟩
/-- The least node of a class. -/
theorem class_least {n : Nat} {es : Edges} {v : Nat} (hv : v < n) : ∃ u, u ≤ v ∧ Both es v u ∧ ∀ x, x < u → ¬ Both es u x := by
  induction v using Nat.strongRecOn with
  | _ v ih =>
    by_cases h : ∃ u, u < v ∧ Both es v u
    · obtain ⟨u, hu, hb⟩ := h
      obtain ⟨x, h1, h2, h3⟩ := ih u hu (by omega)
      exact ⟨x, by omega, hb.trans h2, h3⟩
    · exact ⟨v, Nat.le_refl _, .refl _ _, fun x hx hb => h ⟨x, hx, hb⟩⟩
theorem rev_both {es : Edges} {v w : Nat} : Both (rev es) v w ↔ Both es v w := by
  unfold Both
  rw [rch_rev, rch_rev]
  exact And.comm
theorem comp_rev (n : Nat) (es : Edges) : compL n (rev es) = compL n es := by
  unfold compL classL
  have e : Both (rev es) = Both es := funext fun v => funext fun w => propext rev_both
  rw [e]

/-- Depths: 0 without predecessors, else 1 more than the greatest of a predecessor. -/
structure IsDepth (n : Nat) (es : Edges) (f : Nat → Nat) : Prop where
  le : ∀ u v, (u, v) ∈ es → f u + 1 ≤ f v
  from_ : ∀ v, v < n → f v = 0 ∨ ∃ u, (u, v) ∈ es ∧ f v = f u + 1
theorem IsDepth.index {n : Nat} {es : Edges} {f : Nat → Nat} (h : IsDepth n es f) {l : List Nat} (ho : Ord n es l) (hl : l.length = n) (ok : Ok n es) : ∀ (i v : Nat), l[i]? = some v → f v ≤ i := by
  intro i
  induction i using Nat.strongRecOn with
  | _ i ih =>
    intro v hv
    rcases h.from_ v (ho.lt v (List.mem_of_getElem? hv)) with h0 | ⟨u, hu, e⟩
    · omega
    · obtain ⟨j, _, hj⟩ := ho.at hl (ok _ hu).1
      have := ho.edge hj hv hu
      have := ih j this u hj
      omega
theorem IsDepth.unique {n : Nat} {es : Edges} {f g : Nat → Nat} (h : IsDepth n es f) (h' : IsDepth n es g) {l : List Nat} (ho : Ord n es l) (hl : l.length = n) (ok : Ok n es) {v : Nat} (hv : v < n) : f v = g v := by
  have : ∀ (i v : Nat), l[i]? = some v → f v = g v := by
    intro i
    induction i using Nat.strongRecOn with
    | _ i ih =>
      intro v hv
      have hvn := ho.lt v (List.mem_of_getElem? hv)
      have hp : ∀ u, (u, v) ∈ es → f u = g u := fun u hu => by
        obtain ⟨j, _, hj⟩ := ho.at hl (ok _ hu).1
        exact ih j (ho.edge hj hv hu) u hj
      rcases h.from_ v hvn with h0 | ⟨u, hu, e⟩
      · rcases h'.from_ v hvn with h1 | ⟨u, hu, e⟩
        · omega
        · have := h.le u v hu; omega
      · have h1 := h'.le u v hu
        rcases h'.from_ v hvn with h2 | ⟨x, hx, e2⟩
        · have := hp u hu; omega
        · have := h.le x v hx
          have := hp u hu
          have := hp x hx
          omega
  obtain ⟨i, _, hi⟩ := ho.at hl hv
  exact this i v hi
theorem IsDepth.lt {n : Nat} {es : Edges} {f : Nat → Nat} (h : IsDepth n es f) {l : List Nat} (ho : Ord n es l) (hl : l.length = n) (ok : Ok n es) {v : Nat} (hv : v < n) : f v < n := by
  obtain ⟨i, hi, e⟩ := ho.at hl hv
  have := h.index ho hl ok i v e
  omega
/-- A list is a topological order. -/
structure IsTopo (n : Nat) (es : Edges) (l : List Nat) : Prop where
  len : l.length = n
  nodup : l.Nodup
  lt : ∀ v ∈ l, v < n
  edge : ∀ (i j v w : Nat), l[i]? = some v → l[j]? = some w → (v, w) ∈ es → i < j
theorem orderF_topo {n : Nat} {es : Edges} {l : List Nat} (h : orderF n es = some l) : IsTopo n es l := by
  obtain ⟨ho, hl⟩ := orderF_some h
  exact ⟨hl, ho.nodup, ho.lt, fun i j v w hi hj he => ho.edge hi hj he⟩
/-- Two neighbours exchanged: a topological order if and only if no edge joins them. -/
theorem topo_rev {n : Nat} {es : Edges} {l : List Nat} (h : IsTopo n es l) : IsTopo n (rev es) l.reverse := by
  refine ⟨by simp [h.len], List.pairwise_reverse.2 (h.nodup.imp fun h e => h e.symm), fun v hv => h.lt v (List.mem_reverse.1 hv), fun i j v w hi hj he => ?_⟩
  have hi' := (List.getElem?_eq_some_iff.1 hi).1
  have hj' := (List.getElem?_eq_some_iff.1 hj).1
  rw [List.length_reverse] at hi' hj'
  rw [List.getElem?_reverse hi'] at hi
  rw [List.getElem?_reverse hj'] at hj
  have := h.edge _ _ _ _ hj hi (mem_rev.1 he)
  omega

end Dgr
end Go.Proofs.Ytmagfkpnlkhofaa
