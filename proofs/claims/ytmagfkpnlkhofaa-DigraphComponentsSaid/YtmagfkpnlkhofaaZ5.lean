/- Two neighbours exchanged; the nodes sorted by depth; what makes a list a topological order. -/
import Derived.Test.YtmagfkpnlkhofaaZ4
namespace Go.Proofs.Ytmagfkpnlkhofaa
namespace Dgr
set_option linter.unusedVariables false

/-- Where the node stands that an exchange of the places a and a + 1 brings to i. -/
def sw (a i : Nat) : Nat := if i = a then a + 1 else if i = a + 1 then a else i
theorem sw_sw (a i : Nat) : sw a (sw a i) = i := by
  unfold sw
  by_cases h1 : i = a
  · subst h1; simp
  · by_cases h2 : i = a + 1
    · subst h2; simp
    · simp [h1, h2]
theorem sw_lt {a i n : Nat} (ha : a + 1 < n) (hi : i < n) : sw a i < n := by
  unfold sw
  split
  · exact ha
  · split
    · omega
    · exact hi
theorem nodup_of_inj {l : List Nat} (h : ∀ (i j v : Nat), l[i]? = some v → l[j]? = some v → i = j) : l.Nodup := by
  refine List.pairwise_iff_getElem.2 fun i j hi hj hij e => ?_
  have := h i j l[i] (List.getElem?_eq_getElem hi) (by rw [List.getElem?_eq_getElem hj, ← e])
  omega
theorem IsTopo.inj {n : Nat} {es : Edges} {l : List Nat} (h : IsTopo n es l) {i j v : Nat} (hi : l[i]? = some v) (hj : l[j]? = some v) : i = j :=
  (List.getElem?_inj (List.getElem?_eq_some_iff.1 hi).1 h.nodup).1 (hi.trans hj.symm)
/-- Two neighbours exchanged: a topological order if and only if no edge joins them. -/
theorem topo_swap {n : Nat} {es : Edges} {l m : List Nat} (h : IsTopo n es l) {a v w : Nat} (ha : a + 1 < n) (hv : l[a]? = some v) (hw : l[a + 1]? = some w) (hm : m.length = n) (hs : ∀ i, i < n → m[i]? = l[sw a i]?) : IsTopo n es m ↔ (v, w) ∉ es := by
  constructor
  · intro ht he
    have h1 : m[a + 1]? = some v := by rw [hs _ ha]; unfold sw; simp [hv]
    have h2 : m[a]? = some w := by rw [hs _ (by omega)]; unfold sw; simp [hw]
    have := ht.edge _ _ _ _ h1 h2 he
    omega
  · intro hn
    have hlt : ∀ {i x : Nat}, m[i]? = some x → i < n := fun {i x} hx => by rw [← hm]; exact (List.getElem?_eq_some_iff.1 hx).1
    refine ⟨hm, nodup_of_inj fun i j x hi hj => ?_, fun x hx => ?_, fun i j x y hi hj he => ?_⟩
    · have e1 := hs i (hlt hi)
      have e2 := hs j (hlt hj)
      have := h.inj (e1.symm.trans hi) (e2.symm.trans hj)
      rw [← sw_sw a i, this, sw_sw]
    · obtain ⟨i, hi, e⟩ := List.getElem_of_mem hx
      have hi' : m[i]? = some x := by rw [List.getElem?_eq_getElem hi, e]
      rw [hs i (hlt hi')] at hi'
      exact h.lt x (List.mem_of_getElem? hi')
    · have e1 := (hs i (hlt hi)).symm.trans hi
      have e2 := (hs j (hlt hj)).symm.trans hj
      have hlt2 := h.edge _ _ _ _ e1 e2 he
      refine Classical.byContradiction fun hc => ?_
      -- then the two are the exchanged ones
      have hcase : i = a + 1 ∧ j = a := by
        unfold sw at hlt2
        by_cases i1 : i = a
        · by_cases j1 : j = a
          · subst i1 j1; simp at hlt2
          · by_cases j2 : j = a + 1
            · omega
            · simp [i1, j1, j2] at hlt2; omega
        · by_cases i2 : i = a + 1
          · by_cases j1 : j = a
            · exact ⟨i2, j1⟩
            · by_cases j2 : j = a + 1
              · subst i2 j2; simp at hlt2
              · simp [i2, j1, j2] at hlt2; omega
          · by_cases j1 : j = a
            · simp [i1, i2, j1] at hlt2; omega
            · by_cases j2 : j = a + 1
              · simp [i1, i2, j2] at hlt2; omega
              · simp [i1, i2, j1, j2] at hlt2; omega
      obtain ⟨rfl, rfl⟩ := hcase
      have f1 : sw j (j + 1) = j := by unfold sw; simp
      have f2 : sw j j = j + 1 := by unfold sw; simp
      rw [f1, hv] at e1
      rw [f2, hw] at e2
      cases e1
      cases e2
      exact hn he

/-- In the greedy order each node is the least one that could stand there: a lesser one that stands later is held back by one that stands no earlier. -/
theorem order_blocked {n : Nat} {es : Edges} {l : List Nat} (h : Ord n es l) (hl : l.length = n) (ok : Ok n es) {i j v w : Nat} (hij : i < j) (hi : l[i]? = some v) (hj : l[j]? = some w) (hlt : w < v) : ∃ m u, i ≤ m ∧ m < n ∧ l[m]? = some u ∧ (u, w) ∈ es := by
  have hn : w ∉ l.take i := fun hm => by
    obtain ⟨k, hk, e⟩ := List.getElem_of_mem hm
    simp only [List.length_take] at hk
    rw [List.getElem_take] at e
    have hk' : l[k]? = some w := by rw [List.getElem?_eq_getElem (by omega), e]
    have := (List.getElem?_inj (by omega) h.nodup).1 (hk'.trans hj.symm)
    omega
  obtain ⟨u, hu, hx⟩ := h.least i v w hi hlt hn
  obtain ⟨m, hm, e⟩ := h.at hl (ok _ hu).1
  refine ⟨m, u, ?_, hm, e, hu⟩
  refine Classical.byContradiction fun hc => hx ?_
  have : (l.take i)[m]? = some u := by rw [List.getElem?_take_of_lt (by omega), e]
  exact List.mem_of_getElem? this

/-- The nodes sorted by depth, k depths of them. -/
def byDepth (n : Nat) (f : Nat → Nat) : Nat → List Nat
  | 0 => []
  | k + 1 => byDepth n f k ++ (List.range n).filter fun v => f v == k
theorem mem_byDepth {n : Nat} {f : Nat → Nat} : ∀ {k v : Nat}, v ∈ byDepth n f k ↔ v < n ∧ f v < k
  | 0, v => by simp [byDepth]
  | k + 1, v => by
    rw [byDepth, List.mem_append, mem_byDepth, List.mem_filter, List.mem_range, beq_iff_eq]
    constructor
    · rintro (⟨h1, h2⟩ | ⟨h1, h2⟩) <;> exact ⟨h1, by omega⟩
    · rintro ⟨h1, h2⟩
      by_cases h : f v = k
      · exact .inr ⟨h1, h⟩
      · exact .inl ⟨h1, by omega⟩
theorem byDepth_sorted {n : Nat} {f : Nat → Nat} : ∀ k : Nat, (byDepth n f k).Pairwise fun v w => f v < f w ∨ (f v = f w ∧ v < w)
  | 0 => by simp [byDepth]
  | k + 1 => by
    rw [byDepth, List.pairwise_append]
    refine ⟨byDepth_sorted k, ?_, fun v hv w hw => ?_⟩
    · refine List.Pairwise.imp_of_mem ?_ (List.Pairwise.filter _ (List.pairwise_lt_range (n := n)))
      intro a b ha hb hab
      simp only [List.mem_filter, beq_iff_eq] at ha hb
      exact .inr ⟨by omega, hab⟩
    · have h1 := (mem_byDepth.1 hv).2
      simp only [List.mem_filter, beq_iff_eq] at hw
      omega
/-- .. are a topological order. -/
theorem byDepth_topo {n : Nat} {es : Edges} {f : Nat → Nat} (h : IsDepth n es f) (hf : ∀ v, v < n → f v < n) (ok : Ok n es) : IsTopo n es (byDepth n f n) := by
  have hs := byDepth_sorted (n := n) (f := f) n
  have hnd : (byDepth n f n).Nodup := hs.imp fun hab e => by subst e; omega
  have hlen : (byDepth n f n).length = n := by
    have h1 := nodup_len n _ hnd (fun x hx => (mem_byDepth.1 hx).1)
    have h2 := nodup_sub (m := byDepth n f n) List.nodup_range (fun x hx => mem_byDepth.2 ⟨List.mem_range.1 hx, hf x (List.mem_range.1 hx)⟩)
    simp at h2
    omega
  refine ⟨hlen, hnd, fun v hv => (mem_byDepth.1 hv).1, fun i j v w hi hj he => ?_⟩
  refine Classical.byContradiction fun hc => ?_
  have hlt := h.le v w he
  obtain ⟨hil, e1⟩ := List.getElem?_eq_some_iff.1 hi
  obtain ⟨hjl, e2⟩ := List.getElem?_eq_some_iff.1 hj
  by_cases hij : i = j
  · subst hij
    rw [e1] at e2
    subst e2
    omega
  · have := List.pairwise_iff_getElem.1 hs j i hjl hil (by omega)
    rw [e1, e2] at this
    omega

end Dgr
end Go.Proofs.Ytmagfkpnlkhofaa
