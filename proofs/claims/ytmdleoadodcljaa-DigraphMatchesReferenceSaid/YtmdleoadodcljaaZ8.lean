/- Directed graphs as lists of pairs: paths, reachability, the greedy order. Walks of a given length, cycles, the shortest ones. Reachable nodes as lists, depths, strongly connected components. The graph of the components; another edge; the graph the other way round. Two neighbours exchanged; the nodes sorted by depth; what makes a list a topological order. The least of the shortest cycles, found step by step: from its least node, each time to the least node from which the way back is as short as can be. Lengths of shortest walks, reckoned in rounds over all edges. Depths reckoned along an order; what Check asks. -/

namespace Go.Proofs.Ytmdleoadodcljaa
namespace Dgr
set_option linter.unusedVariables false

abbrev Edges := List (Nat × Nat)
/-- All ends are nodes. -/
def Ok (n : Nat) (es : Edges) : Prop := ∀ e ∈ es, e.1 < n ∧ e.2 < n
/-- A path with at least one edge leads from v to w. -/
inductive Way (es : Edges) : Nat → Nat → Prop
  | one {v w : Nat} : (v, w) ∈ es → Way es v w
  | more {v u w : Nat} : Way es v u → (u, w) ∈ es → Way es v w
/-- w is reachable from v. -/
def Rch (es : Edges) (v w : Nat) : Prop := v = w ∨ Way es v w

theorem Way.trans {es : Edges} {v u w : Nat} (h : Way es v u) (h' : Way es u w) : Way es v w := by
  induction h' with
  | one h' => exact .more h h'
  | more _ h' ih => exact .more ih h'
theorem Way.cons {es : Edges} {v u w : Nat} (h : (v, u) ∈ es) (h' : Way es u w) : Way es v w := (Way.one h).trans h'
theorem Rch.refl (es : Edges) (v : Nat) : Rch es v v := .inl rfl
theorem Rch.trans {es : Edges} {v u w : Nat} (h : Rch es v u) (h' : Rch es u w) : Rch es v w := by
  rcases h with rfl | h
  · exact h'
  · rcases h' with rfl | h'
    · exact .inr h
    · exact .inr (h.trans h')
theorem Rch.edge {es : Edges} {v w : Nat} (h : (v, w) ∈ es) : Rch es v w := .inr (.one h)
theorem Rch.step {es : Edges} {v u w : Nat} (h : Rch es v u) (h' : (u, w) ∈ es) : Rch es v w := h.trans (.edge h')
theorem Rch.way {es : Edges} {v u w : Nat} (h : Rch es v u) (h' : (u, w) ∈ es) : Way es v w := by
  rcases h with rfl | h
  · exact .one h'
  · exact .more h h'
theorem Way.last {es : Edges} {v w : Nat} (h : Way es v w) : ∃ u, Rch es v u ∧ (u, w) ∈ es := by
  cases h with
  | one h => exact ⟨v, .refl _ _, h⟩
  | more h h' => exact ⟨_, .inr h, h'⟩
theorem Way.first {es : Edges} {v w : Nat} (h : Way es v w) : ∃ u, (v, u) ∈ es ∧ Rch es u w := by
  induction h with
  | one h => exact ⟨_, h, .refl _ _⟩
  | more _ h' ih => obtain ⟨u, h1, h2⟩ := ih; exact ⟨u, h1, h2.step h'⟩
theorem Way.mono {es fs : Edges} (hs : ∀ e ∈ es, e ∈ fs) {v w : Nat} (h : Way es v w) : Way fs v w := by
  induction h with
  | one h => exact .one (hs _ h)
  | more _ h' ih => exact .more ih (hs _ h')
theorem Way.lt {n : Nat} {es : Edges} (ok : Ok n es) {v w : Nat} (h : Way es v w) : v < n ∧ w < n := by
  induction h with
  | one h => exact ok _ h
  | more _ h' ih => exact ⟨ih.1, (ok _ h').2⟩
theorem Rch.lt {n : Nat} {es : Edges} (ok : Ok n es) {v w : Nat} (hv : v < n) (h : Rch es v w) : w < n := by
  rcases h with rfl | h
  · exact hv
  · exact (h.lt ok).2
/-- Another edge closes a way through it, or none. -/
theorem way_add {es : Edges} {a b v w : Nat} (h : Way (es ++ [(a, b)]) v w) : Way es v w ∨ (Rch es v a ∧ Rch es b w) := by
  induction h with
  | one h =>
    rcases List.mem_append.1 h with h | h
    · exact .inl (.one h)
    · simp only [List.mem_singleton, Prod.mk.injEq] at h
      obtain ⟨rfl, rfl⟩ := h
      exact .inr ⟨.refl _ _, .refl _ _⟩
  | more _ h' ih =>
    rcases List.mem_append.1 h' with h' | h'
    · rcases ih with ih | ⟨h1, h2⟩
      · exact .inl (.more ih h')
      · exact .inr ⟨h1, h2.step h'⟩
    · simp only [List.mem_singleton, Prod.mk.injEq] at h'
      obtain ⟨rfl, rfl⟩ := h'
      rcases ih with ih | ⟨h1, _⟩
      · exact .inr ⟨.inr ih, .refl _ _⟩
      · exact .inr ⟨h1, .refl _ _⟩
/-- All edges the other way round. -/
def rev (es : Edges) : Edges := es.map fun e => (e.2, e.1)
theorem mem_rev {es : Edges} {v w : Nat} : (v, w) ∈ rev es ↔ (w, v) ∈ es := by
  simp only [rev, List.mem_map, Prod.mk.injEq]
  constructor
  · rintro ⟨⟨a, b⟩, h, rfl, rfl⟩; exact h
  · intro h; exact ⟨(w, v), h, rfl, rfl⟩
theorem Way.rev {es : Edges} {v w : Nat} (h : Way es v w) : Way (rev es) w v := by
  induction h with
  | one h => exact .one (mem_rev.2 h)
  | more _ h' ih => exact .cons (mem_rev.2 h') ih
theorem rev_rev (es : Edges) : Dgr.rev (Dgr.rev es) = es := by
  unfold Dgr.rev
  rw [List.map_map]
  exact List.map_id es
theorem way_rev {es : Edges} {v w : Nat} : Way (rev es) v w ↔ Way es w v := ⟨fun h => by have := h.rev; rwa [rev_rev] at this, Way.rev⟩
theorem rch_rev {es : Edges} {v w : Nat} : Rch (rev es) v w ↔ Rch es w v := by
  unfold Rch
  rw [way_rev]
  exact or_congr ⟨Eq.symm, Eq.symm⟩ Iff.rfl

def Acyclic (es : Edges) : Prop := ∀ v, ¬ Way es v v

/-- Different numbers below n are at most n. -/
theorem nodup_len : ∀ (n : Nat) (l : List Nat), l.Nodup → (∀ x ∈ l, x < n) → l.length ≤ n
  | 0, l, _, h => by
    cases l with
    | nil => simp
    | cons a l => have := h a (by simp); omega
  | n + 1, l, hd, h => by
    have h1 := nodup_len n (l.erase n) (hd.erase n) (fun x hx => by
      have h2 := h x (List.mem_of_mem_erase hx)
      have h3 : x ≠ n := fun e => by subst e; exact (List.Nodup.not_mem_erase hd) hx
      omega)
    by_cases hn : n ∈ l
    · rw [List.length_erase_of_mem hn] at h1; omega
    · rw [List.erase_of_not_mem hn] at h1; omega
/-- .. and if they are n, each number below n is among them. -/
theorem nodup_all {n : Nat} {l : List Nat} (hd : l.Nodup) (h : ∀ x ∈ l, x < n) (hl : l.length = n) {v : Nat} (hv : v < n) : v ∈ l := by
  refine Classical.byContradiction fun hn => ?_
  have := nodup_len n (v :: l) (List.nodup_cons.2 ⟨hn, hd⟩) (fun x hx => by
    rcases List.mem_cons.1 hx with rfl | hx
    · exact hv
    · exact h x hx)
  simp at this
  omega

theorem nodup_sub : ∀ {l m : List Nat}, l.Nodup → (∀ x ∈ l, x ∈ m) → l.length ≤ m.length
  | [], m, _, _ => by simp
  | a :: l, m, hd, h => by
    have h1 := List.nodup_cons.1 hd
    have ha := h a (by simp)
    have := nodup_sub (l := l) (m := m.erase a) h1.2 (fun x hx => (List.mem_erase_of_ne (show x ≠ a from fun e => h1.1 (e ▸ hx))).2 (h x (by simp [hx])))
    rw [List.length_erase_of_mem ha] at this
    have := List.length_pos_of_mem ha
    simp
    omega

/-- A node that is not in the list, all of whose predecessors are. -/
def freeB (es : Edges) (acc : List Nat) (v : Nat) : Bool := !acc.contains v && es.all fun e => e.2 != v || acc.contains e.1
theorem freeB_iff {es : Edges} {acc : List Nat} {v : Nat} : freeB es acc v = true ↔ v ∉ acc ∧ ∀ u, (u, v) ∈ es → u ∈ acc := by
  simp only [freeB, Bool.and_eq_true, Bool.not_eq_true', List.all_eq_true, Bool.or_eq_true, bne_iff_ne, List.contains_iff_mem]
  refine and_congr (by simp) ⟨fun h u hu => ?_, fun h e he => ?_⟩
  · rcases h _ hu with h | h
    · exact absurd rfl h
    · exact h
  · obtain ⟨a, b⟩ := e
    by_cases hb : b = v
    · subst hb; exact .inr (h a he)
    · exact .inl hb
def nextFree (n : Nat) (es : Edges) (acc : List Nat) : Option Nat := (List.range n).find? (freeB es acc)
theorem nextFree_some {n : Nat} {es : Edges} {acc : List Nat} {v : Nat} (h : nextFree n es acc = some v) : v < n ∧ freeB es acc v = true ∧ ∀ w, w < v → freeB es acc w = false := by
  unfold nextFree at h
  rw [List.find?_eq_some_iff_append] at h
  obtain ⟨h1, as, bs, h2, h3⟩ := h
  have hlen : as.length < n := by
    have := congrArg List.length h2
    simp at this
    omega
  have hv : v = as.length := by
    have := congrArg (fun l => l[as.length]?) h2
    simp [hlen] at this
    exact this.symm
  refine ⟨by omega, h1, fun w hw => ?_⟩
  have hw' : w ∈ as := by
    have := congrArg (fun l => l[w]?) h2
    have hwn : w < n := by omega
    have hwl : w < as.length := by omega
    simp only [List.getElem?_append_left hwl] at this
    rw [List.getElem?_range hwn] at this
    exact List.mem_of_getElem? this.symm
  simpa using h3 w hw'
theorem nextFree_none {n : Nat} {es : Edges} {acc : List Nat} (h : nextFree n es acc = none) : ∀ v, v < n → freeB es acc v = false := fun v hv => by
  unfold nextFree at h
  rw [List.find?_eq_none] at h
  simpa using h v (List.mem_range.2 hv)
/-- The least order: k more nodes. -/
def orderGo (n : Nat) (es : Edges) : Nat → List Nat → Option (List Nat)
  | 0, acc => some acc
  | k + 1, acc => (nextFree n es acc).bind fun v => orderGo n es k (acc ++ [v])
def orderF (n : Nat) (es : Edges) : Option (List Nat) := orderGo n es n []

/-- What is true of the list so far. -/
structure Ord (n : Nat) (es : Edges) (l : List Nat) : Prop where
  nodup : l.Nodup
  lt : ∀ v ∈ l, v < n
  pred : ∀ (i : Nat) (v u : Nat), l[i]? = some v → (u, v) ∈ es → u ∈ l.take i
  least : ∀ (i : Nat) (v w : Nat), l[i]? = some v → w < v → w ∉ l.take i → ∃ u, (u, w) ∈ es ∧ u ∉ l.take i
theorem Ord.nil (n : Nat) (es : Edges) : Ord n es [] := ⟨by simp, by simp, by simp, by simp⟩
theorem Ord.snoc {n : Nat} {es : Edges} {l : List Nat} (h : Ord n es l) {v : Nat} (hv : nextFree n es l = some v) : Ord n es (l ++ [v]) := by
  obtain ⟨h1, h2, h3⟩ := nextFree_some hv
  rw [freeB_iff] at h2
  refine ⟨?_, fun x hx => ?_, fun i x u hx hu => ?_, fun i x w hx hw hn => ?_⟩
  · rw [List.nodup_append]
    exact ⟨h.nodup, by simp, fun a ha b hb => by simp at hb; subst hb; exact fun e => h2.1 (e ▸ ha)⟩
  · rcases List.mem_append.1 hx with hx | hx
    · exact h.lt x hx
    · simp at hx; omega
  · by_cases hi : i < l.length
    · rw [List.getElem?_append_left hi] at hx
      rw [List.take_append_of_le_length (by omega)]
      exact h.pred i x u hx hu
    · have hi' : i = l.length := by
        have := (List.getElem?_eq_some_iff.1 hx).1
        simp at this
        omega
      subst hi'
      simp at hx
      subst hx
      rw [List.take_append_of_le_length (Nat.le_refl _), List.take_length]
      exact h2.2 u hu
  · by_cases hi : i < l.length
    · rw [List.getElem?_append_left hi] at hx
      rw [List.take_append_of_le_length (by omega)] at hn ⊢
      exact h.least i x w hx hw hn
    · have hi' : i = l.length := by
        have := (List.getElem?_eq_some_iff.1 hx).1
        simp at this
        omega
      subst hi'
      simp at hx
      subst hx
      rw [List.take_append_of_le_length (Nat.le_refl _), List.take_length] at hn ⊢
      have h4 := h3 w hw
      refine Classical.byContradiction fun hc => ?_
      have : freeB es l w = true := freeB_iff.2 ⟨hn, fun u hu => Classical.byContradiction fun hu' => hc ⟨u, hu, hu'⟩⟩
      rw [this] at h4
      cases h4
theorem orderGo_some {n : Nat} {es : Edges} : ∀ (k : Nat) (acc l : List Nat), Ord n es acc → orderGo n es k acc = some l → Ord n es l ∧ l.length = acc.length + k
  | 0, acc, l, h, e => by cases e; exact ⟨h, rfl⟩
  | k + 1, acc, l, h, e => by
    unfold orderGo at e
    cases hv : nextFree n es acc with
    | none => rw [hv] at e; cases e
    | some v =>
      rw [hv] at e
      have := orderGo_some k (acc ++ [v]) l (h.snoc hv) e
      refine ⟨this.1, ?_⟩
      rw [this.2]
      simp
      omega
theorem orderF_some {n : Nat} {es : Edges} {l : List Nat} (h : orderF n es = some l) : Ord n es l ∧ l.length = n := by
  have := orderGo_some n [] l (.nil n es) h
  simpa using this
/-- Where a node stands. -/
theorem Ord.at {n : Nat} {es : Edges} {l : List Nat} (h : Ord n es l) (hl : l.length = n) {v : Nat} (hv : v < n) : ∃ i, i < n ∧ l[i]? = some v := by
  have := nodup_all h.nodup h.lt hl hv
  obtain ⟨i, hi, e⟩ := List.getElem_of_mem this
  exact ⟨i, by omega, by rw [List.getElem?_eq_getElem hi, e]⟩
theorem Ord.edge {n : Nat} {es : Edges} {l : List Nat} (h : Ord n es l) {i j v w : Nat} (hi : l[i]? = some v) (hj : l[j]? = some w) (he : (v, w) ∈ es) : i < j := by
  have := h.pred j w v hj he
  obtain ⟨k, hk, e⟩ := List.getElem_of_mem this
  simp only [List.length_take] at hk
  have e2 : l[k]? = some v := by
    rw [List.getElem_take] at e
    rw [List.getElem?_eq_getElem (by omega), e]
  have : k = i := by
    have h1 : k < l.length := by omega
    have h2 : i < l.length := (List.getElem?_eq_some_iff.1 hi).1
    exact (List.getElem?_inj h1 h.nodup).1 (e2.trans hi.symm)
  omega
theorem Ord.way {n : Nat} {es : Edges} {l : List Nat} (h : Ord n es l) (hl : l.length = n) (ok : Ok n es) {v w : Nat} (hw : Way es v w) : ∀ i j : Nat, l[i]? = some v → l[j]? = some w → i < j := by
  induction hw with
  | one he => exact fun i j hi hj => h.edge hi hj he
  | more hw he ih =>
    intro i j hi hj
    obtain ⟨k, _, hk⟩ := h.at hl (ok _ he).1
    have := ih i k hi hk
    have := h.edge hk hj he
    omega
theorem orderF_acyclic {n : Nat} {es : Edges} (ok : Ok n es) {l : List Nat} (h : orderF n es = some l) : Acyclic es := fun v hw => by
  obtain ⟨ho, hl⟩ := orderF_some h
  obtain ⟨i, _, hi⟩ := ho.at hl (hw.lt ok).1
  have := ho.way hl ok hw i i hi hi
  omega

/-- If each of some nodes has a predecessor among them, a way leads from one of them to itself. -/
theorem closed_way {n : Nat} {es : Edges} (S : Nat → Prop) (hS : ∀ v, S v → v < n ∧ ∃ u, S u ∧ (u, v) ∈ es) {v0 : Nat} (h0 : S v0) : ∃ v, Way es v v := by
  refine Classical.byContradiction fun hno => ?_
  -- longer and longer lists of different nodes, each before the next
  have grow : ∀ k : Nat, ∃ l : List Nat, l.length = k + 1 ∧ l.Nodup ∧ (∀ x ∈ l, S x) ∧ (∃ a t, l = a :: t ∧ ∀ x ∈ t, Way es a x) := by
    intro k
    induction k with
    | zero => exact ⟨[v0], rfl, by simp, by simp [h0], v0, [], rfl, by simp⟩
    | succ k ih =>
      obtain ⟨l, h1, h2, h3, a, t, rfl, h4⟩ := ih
      obtain ⟨_, u, hu, he⟩ := hS a (h3 a (by simp))
      have hw : ∀ x ∈ a :: t, Way es u x := fun x hx => by
        rcases List.mem_cons.1 hx with rfl | hx
        · exact .one he
        · exact .cons he (h4 x hx)
      refine ⟨u :: a :: t, by simp at h1 ⊢; omega, List.nodup_cons.2 ⟨fun hm => hno ⟨u, hw u hm⟩, h2⟩, fun x hx => ?_, u, a :: t, rfl, hw⟩
      rcases List.mem_cons.1 hx with rfl | hx
      · exact hu
      · exact h3 x hx
  obtain ⟨l, h1, h2, h3, _⟩ := grow n
  have := nodup_len n l h2 (fun x hx => (hS x (h3 x hx)).1)
  omega
theorem orderGo_none {n : Nat} {es : Edges} (ok : Ok n es) : ∀ (k : Nat) (acc : List Nat), Ord n es acc → acc.length + k = n → orderGo n es k acc = none → ∃ v, Way es v v
  | 0, acc, h, hk, e => by cases e
  | k + 1, acc, h, hk, e => by
    unfold orderGo at e
    cases hv : nextFree n es acc with
    | some v =>
      rw [hv] at e
      exact orderGo_none ok k (acc ++ [v]) (h.snoc hv) (by simp; omega) e
    | none =>
      have hf := nextFree_none hv
      have hex : ∃ v0, v0 < n ∧ v0 ∉ acc := by
        refine Classical.byContradiction fun hc => ?_
        have hall : ∀ v, v < n → v ∈ acc := fun v hv => Classical.byContradiction fun hn => hc ⟨v, hv, hn⟩
        have := nodup_sub List.nodup_range (fun x hx => hall x (List.mem_range.1 hx))
        simp at this
        omega
      obtain ⟨v0, h1, h2⟩ := hex
      refine closed_way (n := n) (fun v => v < n ∧ v ∉ acc) (fun v hv => ⟨hv.1, ?_⟩) ⟨h1, h2⟩
      have h3 := hf v hv.1
      refine Classical.byContradiction fun hc => ?_
      have : freeB es acc v = true := freeB_iff.2 ⟨hv.2, fun u hu => Classical.byContradiction fun hu' => hc ⟨u, ⟨(ok _ hu).1, hu'⟩, hu⟩⟩
      rw [this] at h3
      cases h3
theorem orderF_none {n : Nat} {es : Edges} (ok : Ok n es) (h : orderF n es = none) : ∃ v, Way es v v := orderGo_none ok n [] (.nil n es) (by simp) h
theorem orderF_iff {n : Nat} {es : Edges} (ok : Ok n es) : (∃ l, orderF n es = some l) ↔ Acyclic es := by
  constructor
  · rintro ⟨l, h⟩; exact orderF_acyclic ok h
  · intro h
    cases ho : orderF n es with
    | some l => exact ⟨l, rfl⟩
    | none => obtain ⟨v, hv⟩ := orderF_none ok ho; exact absurd hv (h v)

end Dgr
end Go.Proofs.Ytmdleoadodcljaa

namespace Go.Proofs.Ytmdleoadodcljaa
namespace Dgr
set_option linter.unusedVariables false

/-- A walk of d edges from v to w. -/
def Walk (es : Edges) : Nat → Nat → Nat → Prop
  | 0, v, w => v = w
  | d + 1, v, w => ∃ u, Walk es d v u ∧ (u, w) ∈ es
theorem Walk.way {es : Edges} : ∀ {d v w : Nat}, Walk es (d + 1) v w → Way es v w
  | 0, v, w, ⟨u, h, he⟩ => by cases h; exact .one he
  | d + 1, v, w, ⟨u, h, he⟩ => .more h.way he
theorem Way.walk {es : Edges} {v w : Nat} (h : Way es v w) : ∃ d, Walk es (d + 1) v w := by
  induction h with
  | one h => exact ⟨0, _, rfl, h⟩
  | more _ he ih => obtain ⟨d, h⟩ := ih; exact ⟨d + 1, _, h, he⟩
theorem Walk.trans {es : Edges} {d : Nat} : ∀ {e v u w : Nat}, Walk es d v u → Walk es e u w → Walk es (d + e) v w
  | 0, v, u, w, h, h' => by cases h'; exact h
  | e + 1, v, u, w, h, ⟨x, h1, h2⟩ => ⟨x, h.trans h1, h2⟩
/-- The nodes of a walk. -/
theorem Walk.nodes {es : Edges} : ∀ {d v w : Nat}, Walk es d v w → ∃ f : Nat → Nat, f 0 = v ∧ f d = w ∧ ∀ i, i < d → (f i, f (i + 1)) ∈ es
  | 0, v, w, h => ⟨fun _ => v, rfl, h, fun i hi => by omega⟩
  | d + 1, v, w, ⟨u, h, he⟩ => by
    obtain ⟨f, h1, h2, h3⟩ := h.nodes
    refine ⟨fun i => if i ≤ d then f i else w, by simp [h1], if_neg (by omega), fun i hi => ?_⟩
    by_cases hid : i = d
    · subst hid
      show ((if i ≤ i then f i else w), (if i + 1 ≤ i then f (i + 1) else w)) ∈ es
      rw [if_pos (Nat.le_refl _), if_neg (by omega), h2]
      exact he
    · have h4 : i ≤ d := by omega
      have h5 : i + 1 ≤ d := by omega
      simp only [h4, h5, if_true]
      exact h3 i (by omega)
theorem walk_of {es : Edges} {f : Nat → Nat} {d : Nat} (h : ∀ i, i < d → (f i, f (i + 1)) ∈ es) : ∀ k i : Nat, i + k ≤ d → Walk es k (f i) (f (i + k))
  | 0, i, _ => rfl
  | k + 1, i, hk => ⟨f (i + k), walk_of h k i (by omega), h (i + k) (by omega)⟩

/-- A cycle: different nodes, each with an edge to the next, the last one to the first. -/
structure IsCyc (es : Edges) (l : List Nat) : Prop where
  pos : 0 < l.length
  nodup : l.Nodup
  edge : ∀ i v w : Nat, l[i]? = some v → l[(i + 1) % l.length]? = some w → (v, w) ∈ es
theorem IsCyc.walk {es : Edges} {l : List Nat} (h : IsCyc es l) : ∃ v, l[0]? = some v ∧ Walk es l.length v v := by
  have h0 := h.pos
  obtain ⟨f, hf⟩ : ∃ f : Nat → Nat, ∀ i, i < l.length → l[i]? = some (f i) := ⟨fun i => l.getD i 0, fun i hi => by simp [List.getD, hi]⟩
  refine ⟨f 0, hf 0 h0, ?_⟩
  have hw : ∀ k, k < l.length → Walk es k (f 0) (f k) := by
    intro k
    induction k with
    | zero => intro _; rfl
    | succ k ih =>
      intro hk
      exact ⟨f k, ih (by omega), h.edge k _ _ (hf k (by omega)) (by rw [Nat.mod_eq_of_lt hk]; exact hf _ hk)⟩
  obtain ⟨m, hm⟩ : ∃ m, l.length = m + 1 := ⟨l.length - 1, by omega⟩
  rw [hm]
  refine ⟨f m, hw m (by omega), h.edge m _ _ (hf m (by omega)) ?_⟩
  rw [← hm, Nat.mod_self]
  exact hf 0 h0
theorem IsCyc.way {es : Edges} {l : List Nat} (h : IsCyc es l) : ∃ v, v ∈ l ∧ Way es v v := by
  obtain ⟨v, hv, hw⟩ := h.walk
  obtain ⟨m, hm⟩ : ∃ m, l.length = m + 1 := ⟨l.length - 1, by have := h.pos; omega⟩
  rw [hm] at hw
  exact ⟨v, List.mem_of_getElem? hv, hw.way⟩
/-- A closed walk that no closed walk is shorter than is a cycle. -/
theorem cyc_of_walk {es : Edges} {d v : Nat} (h : Walk es (d + 1) v v) (hmin : ∀ e u, e < d → ¬ Walk es (e + 1) u u) : ∃ l, IsCyc es l ∧ l.length = d + 1 ∧ l[0]? = some v := by
  obtain ⟨f, h0, h1, he⟩ := h.nodes
  have hne : ∀ i j, i < j → j < d + 1 → f i ≠ f j := fun i j hij hj e => by
    have hw := walk_of he (j - i) i (by omega)
    rw [show i + (j - i) = j by omega, ← e] at hw
    obtain ⟨m, hm⟩ : ∃ m, j - i = m + 1 := ⟨j - i - 1, by omega⟩
    rw [hm] at hw
    exact hmin m _ (by omega) hw
  refine ⟨(List.range (d + 1)).map f, ⟨by simp, ?_, fun i x y hx hy => ?_⟩, by simp, by simp [h0]⟩
  · refine List.pairwise_map.2 ?_
    refine List.Pairwise.imp_of_mem ?_ (List.pairwise_lt_range (n := d + 1))
    intro a b ha hb hab
    exact hne a b hab (List.mem_range.1 hb)
  · have hi : i < d + 1 := by have := (List.getElem?_eq_some_iff.1 hx).1; simpa using this
    simp only [List.length_map, List.length_range] at hy
    rw [List.getElem?_map, List.getElem?_range hi] at hx
    have hm : (i + 1) % (d + 1) < d + 1 := Nat.mod_lt _ (by omega)
    rw [List.getElem?_map, List.getElem?_range hm] at hy
    simp only [Option.map_some, Option.some.injEq] at hx hy
    subst hx hy
    by_cases hd : i = d
    · subst hd
      rw [Nat.mod_self, h0, ← h1]
      exact he i (by omega)
    · rw [Nat.mod_eq_of_lt (by omega)]
      exact he i (by omega)
/-- Of any closed walk a shortest one. -/
theorem least_walk {es : Edges} {d v : Nat} (h : Walk es (d + 1) v v) : ∃ e u, e ≤ d ∧ Walk es (e + 1) u u ∧ ∀ e' u', e' < e → ¬ Walk es (e' + 1) u' u' := by
  induction d using Nat.strongRecOn generalizing v with
  | _ d ih =>
    by_cases hx : ∃ e u, e < d ∧ Walk es (e + 1) u u
    · obtain ⟨e, u, hlt, hw⟩ := hx
      obtain ⟨e2, u2, h1, h2, h3⟩ := ih e hlt hw
      exact ⟨e2, u2, by omega, h2, h3⟩
    · exact ⟨d, v, Nat.le_refl _, h, fun e u hlt hw => hx ⟨e, u, hlt, hw⟩⟩
theorem cyc_iff {es : Edges} : (∃ l, IsCyc es l) ↔ ¬ Acyclic es := by
  constructor
  · rintro ⟨l, h⟩ ha
    obtain ⟨v, _, hv⟩ := h.way
    exact ha v hv
  · intro h
    obtain ⟨v, hv⟩ := Classical.not_forall.1 h
    obtain ⟨d, hw⟩ := (Classical.not_not.1 hv).walk
    obtain ⟨e, u, _, h2, h3⟩ := least_walk hw
    obtain ⟨l, hl, _⟩ := cyc_of_walk h2 h3
    exact ⟨l, hl⟩

/-- a stands before b, or is b, in the order of words. -/
def lexLe : List Nat → List Nat → Prop
  | [], _ => True
  | _ :: _, [] => False
  | a :: l, b :: m => a < b ∨ (a = b ∧ lexLe l m)
theorem lexLe.refl : ∀ l, lexLe l l
  | [] => trivial
  | a :: l => .inr ⟨rfl, lexLe.refl l⟩
theorem lexLe.anti : ∀ {l m : List Nat}, lexLe l m → lexLe m l → l = m
  | [], [], _, _ => rfl
  | [], b :: m, _, h => h.elim
  | a :: l, [], h, _ => h.elim
  | a :: l, b :: m, h, h' => by
    rcases h with h | ⟨rfl, h⟩
    · rcases h' with h' | ⟨e, _⟩ <;> omega
    · rcases h' with h' | ⟨_, h'⟩
      · omega
      · rw [h.anti h']
theorem lexLe.head {a b : Nat} {l m : List Nat} (h : lexLe (a :: l) (b :: m)) : a ≤ b := by
  rcases h with h | ⟨rfl, _⟩ <;> omega
/-- The shortest cycle, of several the least. -/
structure IsLeast (es : Edges) (l : List Nat) : Prop where
  cyc : IsCyc es l
  short : ∀ m, IsCyc es m → l.length ≤ m.length
  least : ∀ m, IsCyc es m → m.length = l.length → lexLe l m
theorem IsLeast.unique {es : Edges} {l m : List Nat} (h : IsLeast es l) (h' : IsLeast es m) : l = m := by
  have h1 := h.short m h'.cyc
  have h2 := h'.short l h.cyc
  exact (h.least m h'.cyc (by omega)).anti (h'.least l h.cyc (by omega))
/-- No closed walk is shorter. -/
theorem IsLeast.walk {es : Edges} {l : List Nat} (h : IsLeast es l) {d v : Nat} (hd : d + 1 < l.length) : ¬ Walk es (d + 1) v v := fun hw => by
  obtain ⟨e, u, he, h2, h3⟩ := least_walk hw
  obtain ⟨m, hm, hl, _⟩ := cyc_of_walk h2 h3
  have := h.short m hm
  omega
/-- A cycle, begun at another of its nodes. -/
def turn (l : List Nat) (k : Nat) : List Nat := l.drop k ++ l.take k
theorem turn_length (l : List Nat) (k : Nat) : (turn l k).length = l.length := by unfold turn; simp; omega
theorem turn_get {l : List Nat} {k : Nat} (hk : k < l.length) {i : Nat} (hi : i < l.length) : (turn l k)[i]? = l[(k + i) % l.length]? := by
  unfold turn
  by_cases h : i < l.length - k
  · rw [List.getElem?_append_left (by simp; omega), List.getElem?_drop, Nat.mod_eq_of_lt (by omega)]
  · rw [List.getElem?_append_right (by simp; omega), List.length_drop, List.getElem?_take_of_lt (by omega)]
    congr 1
    rw [show k + i = (i - (l.length - k)) + l.length by omega, Nat.add_mod_right, Nat.mod_eq_of_lt (by omega)]
theorem IsCyc.turn {es : Edges} {l : List Nat} (h : IsCyc es l) {k : Nat} (hk : k < l.length) : IsCyc es (turn l k) := by
  have h0 := h.pos
  refine ⟨by rw [turn_length]; exact h0, ?_, fun i v w hv hw => ?_⟩
  · unfold Dgr.turn
    have := h.nodup
    rw [← List.take_append_drop k l, List.nodup_append] at this
    rw [List.nodup_append]
    exact ⟨this.2.1, this.1, fun a ha b hb e => this.2.2 b hb a ha e.symm⟩
  · rw [turn_length] at hw
    have hi : i < l.length := by have := (List.getElem?_eq_some_iff.1 hv).1; rwa [turn_length] at this
    rw [turn_get hk hi] at hv
    rw [turn_get hk (Nat.mod_lt _ h0)] at hw
    refine h.edge _ v w hv ?_
    rw [← hw]
    congr 1
    rw [Nat.add_mod_mod, Nat.mod_add_mod, Nat.add_assoc]
/-- The least cycle begins with its least node. -/
theorem IsLeast.head {es : Edges} {l : List Nat} (h : IsLeast es l) {i v w : Nat} (h0 : l[0]? = some v) (hi : l[i]? = some w) : v ≤ w := by
  have hil := (List.getElem?_eq_some_iff.1 hi).1
  have hl := h.least (turn l i) (h.cyc.turn hil) (turn_length _ _)
  have e := turn_get hil h.cyc.pos
  rw [Nat.add_zero, Nat.mod_eq_of_lt hil, hi] at e
  cases l with
  | nil => simp at h0
  | cons a l =>
    cases ht : turn (a :: l) i with
    | nil => rw [ht] at e; simp at e
    | cons b m =>
      rw [ht] at hl e
      simp at h0 e
      subst h0 e
      exact hl.head

end Dgr
end Go.Proofs.Ytmdleoadodcljaa

namespace Go.Proofs.Ytmdleoadodcljaa
namespace Dgr
set_option linter.unusedVariables false

/-- A node that is reached along an edge from another node that is reached. -/
theorem Way.before {es : Edges} {v w : Nat} (h : Way es v w) (hne : v ≠ w) : ∃ u, u ≠ w ∧ Rch es v u ∧ (u, w) ∈ es := by
  induction h with
  | one h => exact ⟨v, hne, .refl _ _, h⟩
  | @more u x hw he ih =>
    by_cases hux : u = x
    · subst hux
      exact ih hne
    · exact ⟨u, hux, .inr hw, he⟩
open Classical in
/-- The nodes below n with a property, in increasing order. -/
noncomputable def those (n : Nat) (p : Nat → Prop) : List Nat := (List.range n).filter fun w => decide (p w)
theorem mem_those {n : Nat} {p : Nat → Prop} {w : Nat} : w ∈ those n p ↔ w < n ∧ p w := by simp [those]
theorem those_lt (n : Nat) (p : Nat → Prop) : (those n p).Pairwise (· < ·) := List.Pairwise.filter _ List.pairwise_lt_range
/-- An increasing list is known by its elements. -/
theorem inc_ext : ∀ {l m : List Nat}, l.Pairwise (· < ·) → m.Pairwise (· < ·) → (∀ x, x ∈ l ↔ x ∈ m) → l = m
  | [], [], _, _, _ => rfl
  | [], b :: m, _, _, h => by have := (h b).2 (by simp); cases this
  | a :: l, [], _, _, h => by have := (h a).1 (by simp); cases this
  | a :: l, b :: m, hl, hm, h => by
    obtain ⟨hl1, hl2⟩ := List.pairwise_cons.1 hl
    obtain ⟨hm1, hm2⟩ := List.pairwise_cons.1 hm
    have e : a = b := by
      rcases List.mem_cons.1 ((h a).1 (by simp)) with e | ha
      · exact e
      · rcases List.mem_cons.1 ((h b).2 (by simp)) with e | hb
        · exact e.symm
        · have := hm1 a ha; have := hl1 b hb; omega
    subst e
    congr 1
    refine inc_ext hl2 hm2 fun x => ⟨fun hx => ?_, fun hx => ?_⟩
    · rcases List.mem_cons.1 ((h x).1 (by simp [hx])) with e | hx'
      · subst e; have := hl1 x hx; omega
      · exact hx'
    · rcases List.mem_cons.1 ((h x).2 (by simp [hx])) with e | hx'
      · subst e; have := hm1 x hx; omega
      · exact hx'
theorem those_of {n : Nat} {p : Nat → Prop} {l : List Nat} (h1 : l.Pairwise (· < ·)) (h2 : ∀ x, x ∈ l ↔ x < n ∧ p x) : l = those n p := inc_ext h1 (those_lt n p) fun x => by rw [h2, mem_those]
noncomputable def reachL (n : Nat) (es : Edges) (v : Nat) : List Nat := those n (Rch es v)
/-- The class of a node. -/
def Both (es : Edges) (v w : Nat) : Prop := Rch es v w ∧ Rch es w v
theorem Both.refl (es : Edges) (v : Nat) : Both es v v := ⟨.refl _ _, .refl _ _⟩
theorem Both.symm {es : Edges} {v w : Nat} (h : Both es v w) : Both es w v := ⟨h.2, h.1⟩
theorem Both.trans {es : Edges} {v u w : Nat} (h : Both es v u) (h' : Both es u w) : Both es v w := ⟨h.1.trans h'.1, h'.2.trans h.2⟩
noncomputable def classL (n : Nat) (es : Edges) (v : Nat) : List Nat := those n (Both es v)
/-- The classes, in the order of their least nodes. -/
noncomputable def compL (n : Nat) (es : Edges) : List (List Nat) := (those n fun v => ∀ u, u < v → ¬ Both es v u).map (classL n es)
theorem class_eq {n : Nat} {es : Edges} {v w : Nat} (h : Both es v w) : classL n es v = classL n es w := inc_ext (those_lt _ _) (those_lt _ _) fun x => by
  unfold classL
  rw [mem_those, mem_those]
  exact and_congr_right fun _ => ⟨fun hx => h.symm.trans hx, fun hx => h.trans hx⟩
/-- The least node of a class. -/
theorem class_least {n : Nat} {es : Edges} {v : Nat} (hv : v < n) : ∃ u, u ≤ v ∧ Both es v u ∧ ∀ x, x < u → ¬ Both es u x := by
  induction v using Nat.strongRecOn with
  | _ v ih =>
    by_cases h : ∃ u, u < v ∧ Both es v u
    · obtain ⟨u, hu, hb⟩ := h
      obtain ⟨x, h1, h2, h3⟩ := ih u hu (by omega)
      exact ⟨x, by omega, hb.trans h2, h3⟩
    · exact ⟨v, Nat.le_refl _, .refl _ _, fun x hx hb => h ⟨x, hx, hb⟩⟩
theorem rev_both {es : Edges} {v w : Nat} : Both (rev es) v w ↔ Both es v w := by
  unfold Both
  rw [rch_rev, rch_rev]
  exact And.comm
theorem comp_rev (n : Nat) (es : Edges) : compL n (rev es) = compL n es := by
  unfold compL classL
  have e : Both (rev es) = Both es := funext fun v => funext fun w => propext rev_both
  rw [e]

/-- Depths: 0 without predecessors, else 1 more than the greatest of a predecessor. -/
structure IsDepth (n : Nat) (es : Edges) (f : Nat → Nat) : Prop where
  le : ∀ u v, (u, v) ∈ es → f u + 1 ≤ f v
  from_ : ∀ v, v < n → f v = 0 ∨ ∃ u, (u, v) ∈ es ∧ f v = f u + 1
theorem IsDepth.index {n : Nat} {es : Edges} {f : Nat → Nat} (h : IsDepth n es f) {l : List Nat} (ho : Ord n es l) (hl : l.length = n) (ok : Ok n es) : ∀ (i v : Nat), l[i]? = some v → f v ≤ i := by
  intro i
  induction i using Nat.strongRecOn with
  | _ i ih =>
    intro v hv
    rcases h.from_ v (ho.lt v (List.mem_of_getElem? hv)) with h0 | ⟨u, hu, e⟩
    · omega
    · obtain ⟨j, _, hj⟩ := ho.at hl (ok _ hu).1
      have := ho.edge hj hv hu
      have := ih j this u hj
      omega
theorem IsDepth.unique {n : Nat} {es : Edges} {f g : Nat → Nat} (h : IsDepth n es f) (h' : IsDepth n es g) {l : List Nat} (ho : Ord n es l) (hl : l.length = n) (ok : Ok n es) {v : Nat} (hv : v < n) : f v = g v := by
  have : ∀ (i v : Nat), l[i]? = some v → f v = g v := by
    intro i
    induction i using Nat.strongRecOn with
    | _ i ih =>
      intro v hv
      have hvn := ho.lt v (List.mem_of_getElem? hv)
      have hp : ∀ u, (u, v) ∈ es → f u = g u := fun u hu => by
        obtain ⟨j, _, hj⟩ := ho.at hl (ok _ hu).1
        exact ih j (ho.edge hj hv hu) u hj
      rcases h.from_ v hvn with h0 | ⟨u, hu, e⟩
      · rcases h'.from_ v hvn with h1 | ⟨u, hu, e⟩
        · omega
        · have := h.le u v hu; omega
      · have h1 := h'.le u v hu
        rcases h'.from_ v hvn with h2 | ⟨x, hx, e2⟩
        · have := hp u hu; omega
        · have := h.le x v hx
          have := hp u hu
          have := hp x hx
          omega
  obtain ⟨i, _, hi⟩ := ho.at hl hv
  exact this i v hi
theorem IsDepth.lt {n : Nat} {es : Edges} {f : Nat → Nat} (h : IsDepth n es f) {l : List Nat} (ho : Ord n es l) (hl : l.length = n) (ok : Ok n es) {v : Nat} (hv : v < n) : f v < n := by
  obtain ⟨i, hi, e⟩ := ho.at hl hv
  have := h.index ho hl ok i v e
  omega
/-- A list is a topological order. -/
structure IsTopo (n : Nat) (es : Edges) (l : List Nat) : Prop where
  len : l.length = n
  nodup : l.Nodup
  lt : ∀ v ∈ l, v < n
  edge : ∀ (i j v w : Nat), l[i]? = some v → l[j]? = some w → (v, w) ∈ es → i < j
theorem orderF_topo {n : Nat} {es : Edges} {l : List Nat} (h : orderF n es = some l) : IsTopo n es l := by
  obtain ⟨ho, hl⟩ := orderF_some h
  exact ⟨hl, ho.nodup, ho.lt, fun i j v w hi hj he => ho.edge hi hj he⟩
/-- Two neighbours exchanged: a topological order if and only if no edge joins them. -/
theorem topo_rev {n : Nat} {es : Edges} {l : List Nat} (h : IsTopo n es l) : IsTopo n (rev es) l.reverse := by
  refine ⟨by simp [h.len], List.pairwise_reverse.2 (h.nodup.imp fun h e => h e.symm), fun v hv => h.lt v (List.mem_reverse.1 hv), fun i j v w hi hj he => ?_⟩
  have hi' := (List.getElem?_eq_some_iff.1 hi).1
  have hj' := (List.getElem?_eq_some_iff.1 hj).1
  rw [List.length_reverse] at hi' hj'
  rw [List.getElem?_reverse hi'] at hi
  rw [List.getElem?_reverse hj'] at hj
  have := h.edge _ _ _ _ hj hi (mem_rev.1 he)
  omega

end Dgr
end Go.Proofs.Ytmdleoadodcljaa

namespace Go.Proofs.Ytmdleoadodcljaa
namespace Dgr
set_option linter.unusedVariables false

theorem Walk.rev {es : Edges} : ∀ {d v w : Nat}, Walk es d v w → Walk (rev es) d w v
  | 0, v, w, h => h.symm
  | d + 1, v, w, ⟨u, h, he⟩ => by
    have h1 : Walk (Dgr.rev es) 1 w u := ⟨w, rfl, mem_rev.2 he⟩
    have := h1.trans h.rev
    rwa [Nat.add_comm] at this
theorem walk_rev {es : Edges} {d v w : Nat} : Walk (rev es) d v w ↔ Walk es d w v := ⟨fun h => by have := h.rev; rwa [rev_rev] at this, Walk.rev⟩
theorem acyclic_rev {es : Edges} : Acyclic (rev es) ↔ Acyclic es := forall_congr' fun v => not_congr way_rev
theorem IsLeast.len_rev {es : Edges} {l m : List Nat} (h : IsLeast es l) (h' : IsLeast (rev es) m) : l.length = m.length := by
  have key : ∀ {fs : Edges} {a b : List Nat}, IsLeast fs a → IsLeast (rev fs) b → a.length ≤ b.length := fun {fs a b} ha hb => by
    obtain ⟨v, _, hw⟩ := hb.cyc.walk
    have hb0 := hb.cyc.pos
    refine Classical.byContradiction fun hc => ?_
    obtain ⟨d, hd⟩ : ∃ d, b.length = d + 1 := ⟨b.length - 1, by omega⟩
    rw [hd] at hw
    exact ha.walk (by omega) (walk_rev.1 hw)
  have h1 := key h h'
  have h2 := key h' (by rw [rev_rev]; exact h)
  omega

/-- Another edge closes a cycle if and only if a way leads back. -/
theorem acyclic_add {es : Edges} (ha : Acyclic es) {v w : Nat} : Acyclic (es ++ [(v, w)]) ↔ ¬ Rch es w v := by
  constructor
  · intro h hr
    refine h v ?_
    have he : (v, w) ∈ es ++ [(v, w)] := by simp
    rcases hr with rfl | hr
    · exact .one he
    · exact .cons he (hr.mono fun e he => by simp [he])
  · intro h x hx
    rcases way_add hx with hx | ⟨h1, h2⟩
    · exact ha x hx
    · exact h (h2.trans h1)
/-- .. and each cycle goes through it. -/
theorem cyc_add {es : Edges} (ha : Acyclic es) {v w : Nat} {l : List Nat} (h : IsCyc (es ++ [(v, w)]) l) : v ∈ l ∧ w ∈ l := by
  refine Classical.byContradiction fun hc => ?_
  have : IsCyc es l := ⟨h.pos, h.nodup, fun i a b hi hj => by
    rcases List.mem_append.1 (h.edge i a b hi hj) with he | he
    · exact he
    · simp only [List.mem_singleton, Prod.mk.injEq] at he
      obtain ⟨rfl, rfl⟩ := he
      exact absurd ⟨List.mem_of_getElem? hi, List.mem_of_getElem? hj⟩ hc⟩
  obtain ⟨x, _, hx⟩ := this.way
  exact ha x hx

/-- The edges between classes. -/
def small (c : Nat → Nat) (es : Edges) : Edges := (es.filter fun e => c e.1 != c e.2).map fun e => (c e.1, c e.2)
theorem mem_small {c : Nat → Nat} {es : Edges} {i j : Nat} : (i, j) ∈ small c es ↔ i ≠ j ∧ ∃ u w, (u, w) ∈ es ∧ c u = i ∧ c w = j := by
  simp only [small, List.mem_map, List.mem_filter, bne_iff_ne, Prod.mk.injEq]
  constructor
  · rintro ⟨⟨u, w⟩, ⟨h1, h2⟩, rfl, rfl⟩; exact ⟨h2, u, w, h1, rfl, rfl⟩
  · rintro ⟨h, u, w, h1, rfl, rfl⟩; exact ⟨(u, w), ⟨h1, h⟩, rfl, rfl⟩
theorem small_way {n : Nat} {c : Nat → Nat} {es : Edges} (ok : Ok n es) (hc : ∀ v w, v < n → w < n → (c v = c w ↔ Both es v w)) {i j : Nat} (h : Way (small c es) i j) : ∀ u w, u < n → w < n → c u = i → c w = j → Rch es u w := by
  induction h with
  | one h =>
    intro u w hu hw e1 e2
    obtain ⟨_, x, y, he, e3, e4⟩ := mem_small.1 h
    have h1 := (hc u x hu (ok _ he).1).1 (by rw [e1, e3])
    have h2 := (hc y w (ok _ he).2 hw).1 (by rw [e4, e2])
    exact (h1.1.step he).trans h2.1
  | more _ h ih =>
    intro u w hu hw e1 e2
    obtain ⟨_, x, y, he, e3, e4⟩ := mem_small.1 h
    have h2 := (hc y w (ok _ he).2 hw).1 (by rw [e4, e2])
    exact ((ih u x hu (ok _ he).1 e1 e3).step he).trans h2.1
/-- The graph of the components has no cycle. -/
theorem small_acyclic {n : Nat} {c : Nat → Nat} {es : Edges} (ok : Ok n es) (hc : ∀ v w, v < n → w < n → (c v = c w ↔ Both es v w)) : Acyclic (small c es) := fun i hi => by
  obtain ⟨k, h1, h2⟩ := hi.first
  obtain ⟨hne, x, y, he, e3, e4⟩ := mem_small.1 h1
  have hb : Rch es y x := by
    rcases h2 with rfl | h2
    · exact absurd rfl hne
    · exact small_way ok hc h2 y x (ok _ he).2 (ok _ he).1 e4 e3
  have := (hc x y (ok _ he).1 (ok _ he).2).2 ⟨.edge he, hb⟩
  exact hne (by rw [← e3, ← e4, this])
/-- A graph has no cycle if and only if different nodes lie in different classes and no edge leads from a node to itself. -/
theorem acyclic_classes {n : Nat} {es : Edges} (ok : Ok n es) : Acyclic es ↔ (∀ v w, v < n → w < n → Both es v w → v = w) ∧ ∀ v, (v, v) ∉ es := by
  constructor
  · intro h
    refine ⟨fun v w hv hw hb => ?_, fun v hv => h v (.one hv)⟩
    rcases hb.1 with e | h1
    · exact e
    · rcases hb.2 with e | h2
      · exact e.symm
      · exact absurd (h1.trans h2) (h v)
  · rintro ⟨h1, h2⟩ v hv
    obtain ⟨u, he, hr⟩ := hv.first
    have e := h1 v u (ok _ he).1 (ok _ he).2 ⟨.edge he, hr⟩
    subst e
    exact h2 v he
theorem acyclic_mono {es fs : Edges} (hs : ∀ e ∈ es, e ∈ fs) (h : Acyclic fs) : Acyclic es := fun v hv => h v (hv.mono hs)
theorem rch_mono {es fs : Edges} (hs : ∀ e ∈ es, e ∈ fs) {v w : Nat} (h : Rch es v w) : Rch fs v w := h.imp id (Way.mono hs)

end Dgr
end Go.Proofs.Ytmdleoadodcljaa

namespace Go.Proofs.Ytmdleoadodcljaa
namespace Dgr
set_option linter.unusedVariables false

/-- Where the node stands that an exchange of the places a and a + 1 brings to i. -/
def sw (a i : Nat) : Nat := if i = a then a + 1 else if i = a + 1 then a else i
theorem sw_sw (a i : Nat) : sw a (sw a i) = i := by
  unfold sw
  by_cases h1 : i = a
  · subst h1; simp
  · by_cases h2 : i = a + 1
    · subst h2; simp
    · simp [h1, h2]
theorem sw_lt {a i n : Nat} (ha : a + 1 < n) (hi : i < n) : sw a i < n := by
  unfold sw
  split
  · exact ha
  · split
    · omega
    · exact hi
theorem nodup_of_inj {l : List Nat} (h : ∀ (i j v : Nat), l[i]? = some v → l[j]? = some v → i = j) : l.Nodup := by
  refine List.pairwise_iff_getElem.2 fun i j hi hj hij e => ?_
  have := h i j l[i] (List.getElem?_eq_getElem hi) (by rw [List.getElem?_eq_getElem hj, ← e])
  omega
theorem IsTopo.inj {n : Nat} {es : Edges} {l : List Nat} (h : IsTopo n es l) {i j v : Nat} (hi : l[i]? = some v) (hj : l[j]? = some v) : i = j :=
  (List.getElem?_inj (List.getElem?_eq_some_iff.1 hi).1 h.nodup).1 (hi.trans hj.symm)
/-- Two neighbours exchanged: a topological order if and only if no edge joins them. -/
theorem topo_swap {n : Nat} {es : Edges} {l m : List Nat} (h : IsTopo n es l) {a v w : Nat} (ha : a + 1 < n) (hv : l[a]? = some v) (hw : l[a + 1]? = some w) (hm : m.length = n) (hs : ∀ i, i < n → m[i]? = l[sw a i]?) : IsTopo n es m ↔ (v, w) ∉ es := by
  constructor
  · intro ht he
    have h1 : m[a + 1]? = some v := by rw [hs _ ha]; unfold sw; simp [hv]
    have h2 : m[a]? = some w := by rw [hs _ (by omega)]; unfold sw; simp [hw]
    have := ht.edge _ _ _ _ h1 h2 he
    omega
  · intro hn
    have hlt : ∀ {i x : Nat}, m[i]? = some x → i < n := fun {i x} hx => by rw [← hm]; exact (List.getElem?_eq_some_iff.1 hx).1
    refine ⟨hm, nodup_of_inj fun i j x hi hj => ?_, fun x hx => ?_, fun i j x y hi hj he => ?_⟩
    · have e1 := hs i (hlt hi)
      have e2 := hs j (hlt hj)
      have := h.inj (e1.symm.trans hi) (e2.symm.trans hj)
      rw [← sw_sw a i, this, sw_sw]
    · obtain ⟨i, hi, e⟩ := List.getElem_of_mem hx
      have hi' : m[i]? = some x := by rw [List.getElem?_eq_getElem hi, e]
      rw [hs i (hlt hi')] at hi'
      exact h.lt x (List.mem_of_getElem? hi')
    · have e1 := (hs i (hlt hi)).symm.trans hi
      have e2 := (hs j (hlt hj)).symm.trans hj
      have hlt2 := h.edge _ _ _ _ e1 e2 he
      refine Classical.byContradiction fun hc => ?_
      -- then the two are the exchanged ones
      have hcase : i = a + 1 ∧ j = a := by
        unfold sw at hlt2
        by_cases i1 : i = a
        · by_cases j1 : j = a
          · subst i1 j1; simp at hlt2
          · by_cases j2 : j = a + 1
            · omega
            · simp [i1, j1, j2] at hlt2; omega
        · by_cases i2 : i = a + 1
          · by_cases j1 : j = a
            · exact ⟨i2, j1⟩
            · by_cases j2 : j = a + 1
              · subst i2 j2; simp at hlt2
              · simp [i2, j1, j2] at hlt2; omega
          · by_cases j1 : j = a
            · simp [i1, i2, j1] at hlt2; omega
            · by_cases j2 : j = a + 1
              · simp [i1, i2, j2] at hlt2; omega
              · simp [i1, i2, j1, j2] at hlt2; omega
      obtain ⟨rfl, rfl⟩ := hcase
      have f1 : sw j (j + 1) = j := by unfold sw; simp
      have f2 : sw j j = j + 1 := by unfold sw; simp
      rw [f1, hv] at e1
      rw [f2, hw] at e2
      cases e1
      cases e2
      exact hn he

/-- In the greedy order each node is the least one that could stand there: a lesser one that stands later is held back by one that stands no earlier. -/
theorem order_blocked {n : Nat} {es : Edges} {l : List Nat} (h : Ord n es l) (hl : l.length = n) (ok : Ok n es) {i j v w : Nat} (hij : i < j) (hi : l[i]? = some v) (hj : l[j]? = some w) (hlt : w < v) : ∃ m u, i ≤ m ∧ m < n ∧ l[m]? = some u ∧ (u, w) ∈ es := by
  have hn : w ∉ l.take i := fun hm => by
    obtain ⟨k, hk, e⟩ := List.getElem_of_mem hm
    simp only [List.length_take] at hk
    rw [List.getElem_take] at e
    have hk' : l[k]? = some w := by rw [List.getElem?_eq_getElem (by omega), e]
    have := (List.getElem?_inj (by omega) h.nodup).1 (hk'.trans hj.symm)
    omega
  obtain ⟨u, hu, hx⟩ := h.least i v w hi hlt hn
  obtain ⟨m, hm, e⟩ := h.at hl (ok _ hu).1
  refine ⟨m, u, ?_, hm, e, hu⟩
  refine Classical.byContradiction fun hc => hx ?_
  have : (l.take i)[m]? = some u := by rw [List.getElem?_take_of_lt (by omega), e]
  exact List.mem_of_getElem? this

/-- The nodes sorted by depth, k depths of them. -/
def byDepth (n : Nat) (f : Nat → Nat) : Nat → List Nat
  | 0 => []
  | k + 1 => byDepth n f k ++ (List.range n).filter fun v => f v == k
theorem mem_byDepth {n : Nat} {f : Nat → Nat} : ∀ {k v : Nat}, v ∈ byDepth n f k ↔ v < n ∧ f v < k
  | 0, v => by simp [byDepth]
  | k + 1, v => by
    rw [byDepth, List.mem_append, mem_byDepth, List.mem_filter, List.mem_range, beq_iff_eq]
    constructor
    · rintro (⟨h1, h2⟩ | ⟨h1, h2⟩) <;> exact ⟨h1, by omega⟩
    · rintro ⟨h1, h2⟩
      by_cases h : f v = k
      · exact .inr ⟨h1, h⟩
      · exact .inl ⟨h1, by omega⟩
theorem byDepth_sorted {n : Nat} {f : Nat → Nat} : ∀ k : Nat, (byDepth n f k).Pairwise fun v w => f v < f w ∨ (f v = f w ∧ v < w)
  | 0 => by simp [byDepth]
  | k + 1 => by
    rw [byDepth, List.pairwise_append]
    refine ⟨byDepth_sorted k, ?_, fun v hv w hw => ?_⟩
    · refine List.Pairwise.imp_of_mem ?_ (List.Pairwise.filter _ (List.pairwise_lt_range (n := n)))
      intro a b ha hb hab
      simp only [List.mem_filter, beq_iff_eq] at ha hb
      exact .inr ⟨by omega, hab⟩
    · have h1 := (mem_byDepth.1 hv).2
      simp only [List.mem_filter, beq_iff_eq] at hw
      omega
/-- .. are a topological order. -/
theorem byDepth_topo {n : Nat} {es : Edges} {f : Nat → Nat} (h : IsDepth n es f) (hf : ∀ v, v < n → f v < n) (ok : Ok n es) : IsTopo n es (byDepth n f n) := by
  have hs := byDepth_sorted (n := n) (f := f) n
  have hnd : (byDepth n f n).Nodup := hs.imp fun hab e => by subst e; omega
  have hlen : (byDepth n f n).length = n := by
    have h1 := nodup_len n _ hnd (fun x hx => (mem_byDepth.1 hx).1)
    have h2 := nodup_sub (m := byDepth n f n) List.nodup_range (fun x hx => mem_byDepth.2 ⟨List.mem_range.1 hx, hf x (List.mem_range.1 hx)⟩)
    simp at h2
    omega
  refine ⟨hlen, hnd, fun v hv => (mem_byDepth.1 hv).1, fun i j v w hi hj he => ?_⟩
  refine Classical.byContradiction fun hc => ?_
  have hlt := h.le v w he
  obtain ⟨hil, e1⟩ := List.getElem?_eq_some_iff.1 hi
  obtain ⟨hjl, e2⟩ := List.getElem?_eq_some_iff.1 hj
  by_cases hij : i = j
  · subst hij
    rw [e1] at e2
    subst e2
    omega
  · have := List.pairwise_iff_getElem.1 hs j i hjl hil (by omega)
    rw [e1, e2] at this
    omega

end Dgr
end Go.Proofs.Ytmdleoadodcljaa

namespace Go.Proofs.Ytmdleoadodcljaa
namespace Dgr
set_option linter.unusedVariables false

/-- d is the length of the shortest walk from w to v. -/
def Dist (es : Edges) (w v d : Nat) : Prop := Walk es d w v ∧ ∀ e, e < d → ¬ Walk es e w v
theorem Walk.cons {es : Edges} {d v u w : Nat} (h : (v, u) ∈ es) (h' : Walk es d u w) : Walk es (d + 1) v w := by
  have h1 : Walk es 1 v u := ⟨v, rfl, h⟩
  have := h1.trans h'
  rwa [Nat.add_comm] at this
theorem Walk.uncons {es : Edges} : ∀ {d v w : Nat}, Walk es (d + 1) v w → ∃ u, (v, u) ∈ es ∧ Walk es d u w
  | 0, v, w, ⟨u, h, he⟩ => by cases h; exact ⟨w, he, rfl⟩
  | d + 1, v, w, ⟨u, h, he⟩ => by
    obtain ⟨x, h1, h2⟩ := h.uncons
    exact ⟨x, h1, u, h2, he⟩
/-- The list that the steps make. -/
structure Greedy (es : Edges) (first L : Nat) (l : List Nat) : Prop where
  len : l.length = L
  head : l[0]? = some first
  next : ∀ (k a b : Nat), k + 1 < L → l[k]? = some a → l[k + 1]? = some b → (a, b) ∈ es ∧ Dist es b first (L - (k + 1)) ∧ ∀ w, (a, w) ∈ es → Dist es w first (L - (k + 1)) → b ≤ w
theorem Greedy.walk {es : Edges} {first L : Nat} {l : List Nat} (h : Greedy es first L l) : ∀ (k a : Nat), l[k]? = some a → Walk es k first a
  | 0, a, ha => by rw [h.head] at ha; cases ha; rfl
  | k + 1, a, ha => by
    have hk : k + 1 < L := by rw [← h.len]; exact (List.getElem?_eq_some_iff.1 ha).1
    obtain ⟨b, hb⟩ : ∃ b, l[k]? = some b := ⟨_, List.getElem?_eq_getElem (by rw [h.len]; omega)⟩
    exact ⟨b, h.walk k b hb, (h.next k b a hk hb ha).1⟩
/-- A word is at most another one if at the first place where they part it is less. -/
theorem lex_of {l m : List Nat} : ∀ (hl : l.length = m.length), (∀ (k a b : Nat), (∀ j, j < k → l[j]? = m[j]?) → l[k]? = some a → m[k]? = some b → a ≤ b) → lexLe l m := by
  induction l generalizing m with
  | nil => intro _ _; trivial
  | cons a l ih =>
    intro hl h
    cases m with
    | nil => simp at hl
    | cons b m =>
      have h0 := h 0 a b (by omega) rfl rfl
      rcases Nat.lt_or_ge a b with hab | hab
      · exact .inl hab
      · have e : a = b := by omega
        subst e
        refine .inr ⟨rfl, ih (by simpa using hl) fun k x y hj hx hy => h (k + 1) x y (fun j hjk => ?_) (by simpa using hx) (by simpa using hy)⟩
        cases j with
        | zero => rfl
        | succ j => simpa using hj j (by omega)
theorem greedy_least {es : Edges} {first d : Nat} {l : List Nat} (h : Greedy es first (d + 1) l) (hw : Walk es (d + 1) first first) (hmin : ∀ e u, e < d → ¬ Walk es (e + 1) u u) (hfirst : ∀ v, v < first → ¬ Walk es (d + 1) v v) : IsLeast es l := by
  obtain ⟨f, hf⟩ : ∃ f : Nat → Nat, ∀ i, i < d + 1 → l[i]? = some (f i) := ⟨fun i => l.getD i 0, fun i hi => by simp [List.getD, h.len, hi]⟩
  -- the last one has an edge to the first
  have hlast : (f d, first) ∈ es := by
    rcases Nat.eq_zero_or_pos d with hd | hd
    · subst hd
      have h0 := hf 0 (by omega)
      rw [h.head] at h0
      cases h0
      obtain ⟨u, h1, h2⟩ := hw
      cases h1
      exact h2
    · obtain ⟨m, rfl⟩ : ∃ m, d = m + 1 := ⟨d - 1, by omega⟩
      have := (h.next m _ _ (by omega) (hf m (by omega)) (hf (m + 1) (by omega))).2.1.1
      rw [show m + 1 + 1 - (m + 1) = 1 by omega] at this
      obtain ⟨u, h1, h2⟩ := this
      cases h1
      exact h2
  have hcyc : IsCyc es l := by
    refine ⟨by rw [h.len]; omega, nodup_of_inj fun i j v hi hj => ?_, fun i v w hv hw' => ?_⟩
    · -- two places of one node would make a shorter closed walk
      have key : ∀ (i j : Nat), i < j → l[i]? = some v → l[j]? = some v → False := fun i j hij hi hj => by
        have hjl : j < d + 1 := by rw [← h.len]; exact (List.getElem?_eq_some_iff.1 hj).1
        have hstep : ∀ k, i + k < d + 1 → Walk es k v (f (i + k)) := by
          intro k
          induction k with
          | zero =>
            intro _
            have := hf i (by omega)
            rw [hi] at this
            exact Option.some.inj this
          | succ k ih =>
            intro hk
            exact ⟨_, ih (by omega), (h.next (i + k) _ _ (by omega) (hf _ (by omega)) (hf (i + k + 1) (by omega))).1⟩
        have := hstep (j - i) (by omega)
        rw [show i + (j - i) = j by omega] at this
        have e := hf j hjl
        rw [hj] at e
        cases e
        obtain ⟨m, hm⟩ : ∃ m, j - i = m + 1 := ⟨j - i - 1, by omega⟩
        rw [hm] at this
        exact hmin m _ (by omega) this
      rcases Nat.lt_trichotomy i j with hij | hij | hij
      · exact (key i j hij hi hj).elim
      · exact hij
      · exact (key j i hij hj hi).elim
    · have hi : i < d + 1 := by rw [← h.len]; exact (List.getElem?_eq_some_iff.1 hv).1
      rw [h.len] at hw'
      by_cases hid : i = d
      · subst hid
        rw [Nat.mod_self, h.head] at hw'
        cases hw'
        have := hf i hi
        rw [hv] at this
        cases this
        exact hlast
      · rw [Nat.mod_eq_of_lt (by omega)] at hw'
        exact (h.next i v w (by omega) hv hw').1
  have hlen : ∀ m, IsCyc es m → l.length ≤ m.length := fun m hm => by
    obtain ⟨v, _, hv⟩ := hm.walk
    have hp := hm.pos
    refine Classical.byContradiction fun hc => ?_
    obtain ⟨e, he⟩ : ∃ e, m.length = e + 1 := ⟨m.length - 1, by omega⟩
    rw [he] at hv
    rw [h.len] at hc
    exact hmin e v (by omega) hv
  refine ⟨hcyc, hlen, fun m hm hml => lex_of hml.symm fun k a b hpre ha hb => ?_⟩
  have hml' : m.length = d + 1 := by rw [hml, h.len]
  obtain ⟨g, hg⟩ : ∃ g : Nat → Nat, ∀ i, i < d + 1 → m[i]? = some (g i) := ⟨fun i => m.getD i 0, fun i hi => by simp [List.getD, hml', hi]⟩
  have hback : ∀ j, j ≤ d → Walk es (d + 1 - j) (g j) (g 0) := by
    have : ∀ r, r ≤ d → Walk es (r + 1) (g (d - r)) (g 0) := by
      intro r
      induction r with
      | zero =>
        intro _
        refine ⟨g d, rfl, hm.edge d _ _ (hg d (by omega)) ?_⟩
        rw [hml', Nat.mod_self]
        exact hg 0 (by omega)
      | succ r ih =>
        intro hr
        have hw1 := ih (by omega)
        refine Walk.cons (hm.edge (d - (r + 1)) _ (g (d - r)) (hg _ (by omega)) ?_) hw1
        rw [hml', Nat.mod_eq_of_lt (by omega), show d - (r + 1) + 1 = d - r by omega]
        exact hg _ (by omega)
    intro j hj
    have := this (d - j) (by omega)
    rwa [show d - j + 1 = d + 1 - j by omega, show d - (d - j) = j by omega] at this
  have hg0 : Walk es (d + 1) (g 0) (g 0) := hback 0 (by omega)
  cases k with
  | zero =>
    rw [h.head] at ha
    rw [hg 0 (by omega)] at hb
    cases ha
    cases hb
    refine Nat.le_of_not_lt fun hlt => hfirst _ hlt hg0
  | succ k =>
    have hk : k + 1 < d + 1 := by rw [← h.len]; exact (List.getElem?_eq_some_iff.1 ha).1
    have e0 : g 0 = first := by
      have := hpre 0 (by omega)
      rw [h.head, hg 0 (by omega)] at this
      exact (Option.some.inj this).symm
    have ek : f k = g k := by
      have := hpre k (by omega)
      rw [hf k (by omega), hg k (by omega)] at this
      exact Option.some.inj this
    have hb' := hg (k + 1) hk
    rw [hb] at hb'
    cases hb'
    have hedge : (f k, g (k + 1)) ∈ es := by
      rw [ek]
      refine hm.edge k _ _ (hg k (by omega)) ?_
      rw [hml', Nat.mod_eq_of_lt hk]
      exact hg _ hk
    have hd1 : Walk es (d + 1 - (k + 1)) (g (k + 1)) first := by rw [← e0]; exact hback (k + 1) (by omega)
    refine (h.next k (f k) a hk (hf k (by omega)) ha).2.2 _ hedge ⟨hd1, fun e he hw' => ?_⟩
    -- a shorter way back would make a shorter closed walk
    have h1 := h.walk k _ (hf k (by omega))
    have h2 : Walk es (k + 1) first (g (k + 1)) := ⟨_, h1, hedge⟩
    have h3 := h2.trans hw'
    obtain ⟨x, hx⟩ : ∃ x, k + 1 + e = x + 1 := ⟨k + e, by omega⟩
    rw [hx] at h3
    exact hmin x _ (by omega) h3

end Dgr
end Go.Proofs.Ytmdleoadodcljaa

namespace Go.Proofs.Ytmdleoadodcljaa
namespace Dgr
set_option linter.unusedVariables false

theorem dist_of_walk {es : Edges} {w v d : Nat} (h : Walk es d w v) : ∃ e, e ≤ d ∧ Dist es w v e := by
  induction d using Nat.strongRecOn with
  | _ d ih =>
    by_cases hx : ∃ e, e < d ∧ Walk es e w v
    · obtain ⟨e, he, hw⟩ := hx
      obtain ⟨k, hk, hd⟩ := ih e he hw
      exact ⟨k, by omega, hd⟩
    · exact ⟨d, Nat.le_refl _, h, fun e he hw => hx ⟨e, he, hw⟩⟩
theorem Dist.unique {es : Edges} {w v d e : Nat} (h : Dist es w v d) (h' : Dist es w v e) : d = e := by
  rcases Nat.lt_trichotomy d e with hl | hl | hl
  · exact absurd h.1 (h'.2 d hl)
  · exact hl
  · exact absurd h'.1 (h.2 e hl)
/-- A shortest walk comes to each node at most once: it has fewer edges than there are nodes. -/
theorem Dist.lt {n : Nat} {es : Edges} (ok : Ok n es) {w v d : Nat} (hw : w < n) (h : Dist es w v d) : d < n := by
  obtain ⟨f, h0, h1, he⟩ := h.1.nodes
  have hne : ∀ i j, i < j → j ≤ d → f i ≠ f j := fun i j hij hj e => by
    have a := walk_of he i 0 (by omega)
    have b := walk_of he (d - j) j (by omega)
    rw [Nat.zero_add, h0, e] at a
    rw [show j + (d - j) = d by omega, h1] at b
    exact h.2 (i + (d - j)) (by omega) (a.trans b)
  have hlt : ∀ i, i ≤ d → f i < n := fun i hi => by
    cases i with
    | zero => rw [h0]; exact hw
    | succ i => exact (ok _ (he i (by omega))).2
  have := nodup_len n ((List.range (d + 1)).map f) (by
    refine List.pairwise_map.2 (List.Pairwise.imp_of_mem ?_ (List.pairwise_lt_range (n := d + 1)))
    intro a b ha hb hab
    exact hne a b hab (by have := List.mem_range.1 hb; omega)) (fun x hx => by
    obtain ⟨i, hi, rfl⟩ := List.mem_map.1 hx
    exact hlt i (by have := List.mem_range.1 hi; omega))
  simp at this
  omega
/-- What is known in round d when the edges ps are done: the lengths up to d, and those of d + 1 that one of ps gives. -/
def BQ (es : Edges) (v d : Nat) (ps : Edges) (w k : Nat) : Prop := (k ≤ d ∧ Dist es w v k) ∨ (k = d + 1 ∧ Dist es w v (d + 1) ∧ ∃ u, (w, u) ∈ ps ∧ Dist es u v d)
def BackAt (n : Nat) (es : Edges) (v d : Nat) (ps : Edges) (f : Nat → Int) : Prop := ∀ w, w < n → (∃ k : Nat, f w = k ∧ BQ es v d ps w k) ∨ (f w = -1 ∧ ∀ k, ¬ BQ es v d ps w k)
theorem back_start {n : Nat} {es : Edges} {v : Nat} {f : Nat → Int} (hv : f v = 0) (hf : ∀ w, w ≠ v → f w = -1) : BackAt n es v 0 [] f := fun w hw => by
  by_cases h : w = v
  · subst h
    exact .inl ⟨0, hv, .inl ⟨Nat.le_refl _, rfl, fun e he => by omega⟩⟩
  · refine .inr ⟨hf w h, fun k hk => ?_⟩
    rcases hk with ⟨h1, h2⟩ | ⟨_, _, u, hu, _⟩
    · have : k = 0 := by omega
      subst this
      exact h h2.1
    · cases hu
theorem back_keep {n : Nat} {es : Edges} {v d : Nat} {ps : Edges} {f : Nat → Int} (h : BackAt n es v d ps f) {a b : Nat} (ha : a < n) (hb : b < n) (hc : ¬ (f b = d ∧ f a < 0)) : BackAt n es v d (ps ++ [(a, b)]) f := fun w hw => by
  have hmono : ∀ k, BQ es v d ps w k → BQ es v d (ps ++ [(a, b)]) w k := fun k hk => by
    rcases hk with hk | ⟨h1, h2, u, hu, h3⟩
    · exact .inl hk
    · exact .inr ⟨h1, h2, u, by simp [hu], h3⟩
  rcases h w hw with ⟨k, h1, h2⟩ | ⟨h1, h2⟩
  · exact .inl ⟨k, h1, hmono k h2⟩
  · refine .inr ⟨h1, fun k hk => ?_⟩
    rcases hk with hk | ⟨e1, e2, u, hu, e3⟩
    · exact h2 k (.inl hk)
    · rcases List.mem_append.1 hu with hu | hu
      · exact h2 k (.inr ⟨e1, e2, u, hu, e3⟩)
      · simp only [List.mem_singleton, Prod.mk.injEq] at hu
        obtain ⟨rfl, rfl⟩ := hu
        refine hc ⟨?_, by omega⟩
        rcases h u hb with ⟨k', h3, h4⟩ | ⟨_, h4⟩
        · rcases h4 with ⟨_, h5⟩ | ⟨h6, h5, _⟩
          · rw [h3, h5.unique e3]
          · have := h5.unique e3; omega
        · exact absurd (.inl ⟨Nat.le_refl _, e3⟩) (h4 d)
theorem back_set {n : Nat} {es : Edges} {v d : Nat} {ps : Edges} {f : Nat → Int} (h : BackAt n es v d ps f) {a b : Nat} (ha : a < n) (hb : b < n) (he : (a, b) ∈ es) (h1 : f b = d) (h2 : f a < 0) {g : Nat → Int} (hg : g a = (d + 1 : Nat)) (hg' : ∀ w, w ≠ a → g w = f w) : BackAt n es v d (ps ++ [(a, b)]) g := by
  have hbd : Dist es b v d := by
    rcases h b hb with ⟨k, h3, h4⟩ | ⟨h3, _⟩
    · have : k = d := by omega
      subst this
      rcases h4 with ⟨_, h5⟩ | ⟨h6, _⟩
      · exact h5
      · omega
    · omega
  have hna : ∀ k, ¬ BQ es v d ps a k := by
    rcases h a ha with ⟨k, h3, _⟩ | ⟨_, h4⟩
    · omega
    · exact h4
  have had : Dist es a v (d + 1) := ⟨Walk.cons he hbd.1, fun e hlt hw => by
    obtain ⟨k, hk, hd⟩ := dist_of_walk hw
    exact hna k (.inl ⟨by omega, hd⟩)⟩
  intro w hw
  by_cases hwa : w = a
  · subst hwa
    exact .inl ⟨d + 1, hg, .inr ⟨rfl, had, b, by simp, hbd⟩⟩
  · rw [hg' w hwa]
    have hiff : ∀ k, BQ es v d (ps ++ [(a, b)]) w k ↔ BQ es v d ps w k := fun k => by
      unfold BQ
      refine or_congr Iff.rfl (and_congr Iff.rfl (and_congr Iff.rfl (exists_congr fun u => and_congr ?_ Iff.rfl)))
      simp [hwa]
    rcases h w hw with ⟨k, h3, h4⟩ | ⟨h3, h4⟩
    · exact .inl ⟨k, h3, (hiff k).2 h4⟩
    · exact .inr ⟨h3, fun k hk => h4 k ((hiff k).1 hk)⟩
theorem back_round {n : Nat} {es : Edges} {v d : Nat} {f : Nat → Int} (h : BackAt n es v d es f) : BackAt n es v (d + 1) [] f := fun w hw => by
  have hiff : ∀ k, BQ es v (d + 1) [] w k ↔ BQ es v d es w k := fun k => by
    unfold BQ
    constructor
    · rintro (⟨h1, h2⟩ | ⟨_, _, u, hu, _⟩)
      · by_cases hk : k ≤ d
        · exact .inl ⟨hk, h2⟩
        · have : k = d + 1 := by omega
          subst this
          refine .inr ⟨rfl, h2, ?_⟩
          obtain ⟨u, hu, hw'⟩ := h2.1.uncons
          refine ⟨u, hu, hw', fun e he hx => h2.2 (e + 1) (by omega) (Walk.cons hu hx)⟩
      · cases hu
    · rintro (⟨h1, h2⟩ | ⟨h1, h2, _⟩)
      · exact .inl ⟨by omega, h2⟩
      · subst h1; exact .inl ⟨Nat.le_refl _, h2⟩
  rcases h w hw with ⟨k, h3, h4⟩ | ⟨h3, h4⟩
  · exact .inl ⟨k, h3, (hiff k).2 h4⟩
  · exact .inr ⟨h3, fun k hk => h4 k ((hiff k).1 hk)⟩
/-- Behind n rounds all lengths are known. -/
theorem back_done {n : Nat} {es : Edges} (ok : Ok n es) {v : Nat} {f : Nat → Int} (h : BackAt n es v n [] f) {w : Nat} (hw : w < n) : (∃ k : Nat, f w = k ∧ Dist es w v k) ∨ (f w = -1 ∧ ∀ k, ¬ Walk es k w v) := by
  rcases h w hw with ⟨k, h3, h4⟩ | ⟨h3, h4⟩
  · rcases h4 with ⟨_, h5⟩ | ⟨_, _, u, hu, _⟩
    · exact .inl ⟨k, h3, h5⟩
    · cases hu
  · refine .inr ⟨h3, fun k hk => ?_⟩
    obtain ⟨e, _, hd⟩ := dist_of_walk hk
    exact h4 e (.inl ⟨by have := hd.lt ok hw; omega, hd⟩)

/-- Reach: marks that grow along the edges, in rounds. -/
def MarkAt (es : Edges) (v d : Nat) (m : Nat → Bool) : Prop := (∀ w, m w = true → Rch es v w) ∧ ∀ w k, k ≤ d → Walk es k v w → m w = true
theorem mark_start {es : Edges} {v : Nat} {m : Nat → Bool} (hv : m v = true) (hm : ∀ w, w ≠ v → m w = false) : MarkAt es v 0 m := by
  refine ⟨fun w hw => ?_, fun w k hk h => ?_⟩
  · by_cases h : w = v
    · subst h; exact .refl _ _
    · rw [hm w h] at hw; cases hw
  · have : k = 0 := by omega
    subst this
    cases h
    exact hv
/-- In round d, when the edges ps are done. -/
def MarkIn (es : Edges) (v d : Nat) (ps : Edges) (m : Nat → Bool) : Prop := MarkAt es v d m ∧ ∀ u w, (u, w) ∈ ps → (∃ k, k ≤ d ∧ Walk es k v u) → m w = true
theorem mark_step {es : Edges} {v d : Nat} {ps : Edges} {m : Nat → Bool} (h : MarkIn es v d ps m) {a b : Nat} (he : (a, b) ∈ es) {m' : Nat → Bool} (h1 : m' b = (m b || m a)) (h2 : ∀ w, w ≠ b → m' w = m w) : MarkIn es v d (ps ++ [(a, b)]) m' := by
  have hmono : ∀ w, m w = true → m' w = true := fun w hw => by
    by_cases hb : w = b
    · subst hb; rw [h1, hw]; rfl
    · rw [h2 w hb]; exact hw
  refine ⟨⟨fun w hw => ?_, fun w k hk hx => hmono w (h.1.2 w k hk hx)⟩, fun u w hu hx => ?_⟩
  · by_cases hb : w = b
    · subst hb
      rw [h1, Bool.or_eq_true] at hw
      rcases hw with hw | hw
      · exact h.1.1 _ hw
      · exact (h.1.1 _ hw).step he
    · rw [h2 w hb] at hw
      exact h.1.1 w hw
  · rcases List.mem_append.1 hu with hu | hu
    · exact hmono w (h.2 u w hu hx)
    · simp only [List.mem_singleton, Prod.mk.injEq] at hu
      obtain ⟨rfl, rfl⟩ := hu
      obtain ⟨k, hk, hw⟩ := hx
      rw [h1, h.1.2 u k hk hw, Bool.or_true]
theorem mark_round {es : Edges} {v d : Nat} {m : Nat → Bool} (h : MarkIn es v d es m) : MarkAt es v (d + 1) m := by
  refine ⟨h.1.1, fun w k hk hw => ?_⟩
  by_cases hkd : k ≤ d
  · exact h.1.2 w k hkd hw
  · have : k = d + 1 := by omega
    subst this
    obtain ⟨u, h1, h2⟩ := hw
    exact h.2 u w h2 ⟨d, Nat.le_refl _, h1⟩
theorem Rch.walk {es : Edges} {v w : Nat} (h : Rch es v w) : ∃ k, Walk es k v w := by
  rcases h with rfl | h
  · exact ⟨0, rfl⟩
  · obtain ⟨d, hd⟩ := h.walk
    exact ⟨d + 1, hd⟩
theorem mark_done {n : Nat} {es : Edges} (ok : Ok n es) {v : Nat} (hv : v < n) {m : Nat → Bool} (h : MarkAt es v n m) (w : Nat) : m w = true ↔ Rch es v w := by
  refine ⟨h.1 w, fun hr => ?_⟩
  obtain ⟨k, hk⟩ := hr.walk
  obtain ⟨e, _, hd⟩ := dist_of_walk hk
  exact h.2 w e (by have := hd.lt ok hv; omega) hd.1

end Dgr
end Go.Proofs.Ytmdleoadodcljaa

namespace Go.Proofs.Ytmdleoadodcljaa
namespace Dgr
set_option linter.unusedVariables false

/-- The depth of v, when the edges ps are done: f0 are the depths ahead of it. -/
structure DIn (v : Nat) (f0 : Nat → Nat) (ps : Edges) (f : Nat → Nat) : Prop where
  other : ∀ w, w ≠ v → f w = f0 w
  le : ∀ u, (u, v) ∈ ps → f0 u + 1 ≤ f v
  from_ : f v = 0 ∨ ∃ u, (u, v) ∈ ps ∧ f v = f0 u + 1
theorem DIn.start {v : Nat} {f0 : Nat → Nat} (h : f0 v = 0) : DIn v f0 [] f0 := ⟨fun _ _ => rfl, fun u hu => (by cases hu), .inl h⟩
theorem DIn.skip {v : Nat} {f0 f : Nat → Nat} {ps : Edges} (h : DIn v f0 ps f) {a b : Nat} (hb : b ≠ v) : DIn v f0 (ps ++ [(a, b)]) f := by
  refine ⟨h.other, fun u hu => ?_, ?_⟩
  · rcases List.mem_append.1 hu with hu | hu
    · exact h.le u hu
    · simp only [List.mem_singleton, Prod.mk.injEq] at hu
      exact absurd hu.2.symm hb
  · rcases h.from_ with h0 | ⟨u, hu, e⟩
    · exact .inl h0
    · exact .inr ⟨u, by simp [hu], e⟩
theorem DIn.take {v : Nat} {f0 f g : Nat → Nat} {ps : Edges} (h : DIn v f0 ps f) {a : Nat} (ha : a ≠ v) (hg : g v = max (f v) (f a + 1)) (hg' : ∀ w, w ≠ v → g w = f w) : DIn v f0 (ps ++ [(a, v)]) g := by
  have ea := h.other a ha
  refine ⟨fun w hw => (hg' w hw).trans (h.other w hw), fun u hu => ?_, ?_⟩
  · rcases List.mem_append.1 hu with hu | hu
    · have := h.le u hu; omega
    · simp only [List.mem_singleton, Prod.mk.injEq] at hu
      obtain ⟨rfl, _⟩ := hu
      omega
  · by_cases hc : f v ≤ f a + 1
    · exact .inr ⟨a, by simp, by omega⟩
    · rcases h.from_ with h0 | ⟨u, hu, e⟩
      · omega
      · exact .inr ⟨u, by simp [hu], by omega⟩
/-- The depths, when the first i nodes of the order are done. -/
structure DOut (es : Edges) (l : List Nat) (i : Nat) (f : Nat → Nat) : Prop where
  done : ∀ (j v : Nat), j < i → l[j]? = some v → (∀ u, (u, v) ∈ es → f u + 1 ≤ f v) ∧ (f v = 0 ∨ ∃ u, (u, v) ∈ es ∧ f v = f u + 1)
  todo : ∀ (j v : Nat), i ≤ j → l[j]? = some v → f v = 0
theorem DOut.start {es : Edges} {l : List Nat} {f : Nat → Nat} (h : ∀ v ∈ l, f v = 0) : DOut es l 0 f := ⟨fun j v hj _ => by omega, fun j v _ hv => h v (List.mem_of_getElem? hv)⟩
theorem DOut.step {n : Nat} {es : Edges} {l : List Nat} (ho : IsTopo n es l) (ok : Ok n es) {i v : Nat} {f g : Nat → Nat} (h : DOut es l i f) (hv : l[i]? = some v) (hg : DIn v f es g) : DOut es l (i + 1) g := by
  have hall : ∀ u, u < n → ∃ j, l[j]? = some u := fun u hu => by
    obtain ⟨j, hj, e⟩ := List.getElem_of_mem (nodup_all ho.nodup ho.lt ho.len hu)
    exact ⟨j, by rw [List.getElem?_eq_getElem hj, e]⟩
  have hpre : ∀ (j w u : Nat), j ≤ i → l[j]? = some w → (u, w) ∈ es → u ≠ v := fun j w u hj hw hu e => by
    subst e
    have := ho.edge i j u w hv hw hu
    omega
  refine ⟨fun j w hj hw => ?_, fun j w hj hw => ?_⟩
  · by_cases hji : j = i
    · subst hji
      rw [hv] at hw
      cases hw
      refine ⟨fun u hu => ?_, ?_⟩
      · rw [hg.other u (hpre j v u (Nat.le_refl _) hv hu)]
        exact hg.le u hu
      · rcases hg.from_ with h0 | ⟨u, hu, e⟩
        · exact .inl h0
        · exact .inr ⟨u, hu, by rw [hg.other u (hpre j v u (Nat.le_refl _) hv hu)]; exact e⟩
    · have hwv : w ≠ v := fun e => by subst e; exact hji (ho.inj hw hv)
      obtain ⟨h1, h2⟩ := h.done j w (by omega) hw
      rw [hg.other w hwv]
      refine ⟨fun u hu => ?_, ?_⟩
      · rw [hg.other u (hpre j w u (by omega) hw hu)]
        exact h1 u hu
      · rcases h2 with h0 | ⟨u, hu, e⟩
        · exact .inl h0
        · exact .inr ⟨u, hu, by rw [hg.other u (hpre j w u (by omega) hw hu)]; exact e⟩
  · have hwv : w ≠ v := fun e => by subst e; have := ho.inj hw hv; omega
    rw [hg.other w hwv]
    exact h.todo j w (by omega) hw
theorem DOut.depth {n : Nat} {es : Edges} {l : List Nat} (ho : IsTopo n es l) (ok : Ok n es) {f : Nat → Nat} (h : DOut es l n f) : IsDepth n es f := by
  have hall : ∀ u, u < n → ∃ j, j < n ∧ l[j]? = some u := fun u hu => by
    obtain ⟨j, hj, e⟩ := List.getElem_of_mem (nodup_all ho.nodup ho.lt ho.len hu)
    exact ⟨j, by rw [← ho.len]; exact hj, by rw [List.getElem?_eq_getElem hj, e]⟩
  refine ⟨fun u v he => ?_, fun v hv => ?_⟩
  · obtain ⟨j, hj, e⟩ := hall v (ok _ he).2
    exact (h.done j v hj e).1 u he
  · obtain ⟨j, hj, e⟩ := hall v hv
    exact (h.done j v hj e).2

/-- What Check keeps of a list: for each number its place and 1, or 0. -/
def Seen (l : List Nat) (k : Nat) (f : Nat → Nat) : Prop := ∀ v, (∃ i, i < k ∧ l[i]? = some v ∧ f v = i + 1) ∨ (f v = 0 ∧ ∀ i, i < k → l[i]? ≠ some v)
theorem Seen.start (l : List Nat) {f : Nat → Nat} (h : ∀ v, f v = 0) : Seen l 0 f := fun v => .inr ⟨h v, fun i hi => by omega⟩
theorem Seen.step {l : List Nat} {k v : Nat} {f g : Nat → Nat} (h : Seen l k f) (hv : l[k]? = some v) (h0 : f v = 0) (hg : g v = k + 1) (hg' : ∀ w, w ≠ v → g w = f w) : Seen l (k + 1) g := fun w => by
  by_cases hw : w = v
  · subst hw; exact .inl ⟨k, by omega, hv, hg⟩
  · rw [hg' w hw]
    rcases h w with ⟨i, hi, e1, e2⟩ | ⟨e1, e2⟩
    · exact .inl ⟨i, by omega, e1, e2⟩
    · refine .inr ⟨e1, fun i hi => ?_⟩
      by_cases hik : i = k
      · subst hik; rw [hv]; exact fun e => hw (Option.some.inj e).symm
      · exact e2 i (by omega)
/-- A number that was seen stands there already. -/
theorem Seen.twice {l : List Nat} {k v : Nat} {f : Nat → Nat} (h : Seen l k f) (hv : l[k]? = some v) (h0 : 0 < f v) : ¬ l.Nodup := fun hd => by
  rcases h v with ⟨i, hi, e1, _⟩ | ⟨e1, _⟩
  · have := (List.getElem?_inj (List.getElem?_eq_some_iff.1 e1).1 hd).1 (e1.trans hv.symm)
    omega
  · omega
/-- All numbers were seen once: the edges decide. -/
theorem Seen.topo {n : Nat} {es : Edges} {l : List Nat} (ok : Ok n es) (hl : l.length = n) (hlt : ∀ v ∈ l, v < n) {f : Nat → Nat} (hd : l.Nodup) (h : Seen l n f) : IsTopo n es l ↔ ∀ e ∈ es, f e.1 < f e.2 := by
  have hat : ∀ {i v : Nat}, l[i]? = some v → f v = i + 1 := fun {i v} hi => by
    have hin : i < n := by rw [← hl]; exact (List.getElem?_eq_some_iff.1 hi).1
    rcases h v with ⟨j, hj, e1, e2⟩ | ⟨_, e2⟩
    · have := (List.getElem?_inj (List.getElem?_eq_some_iff.1 e1).1 hd).1 (e1.trans hi.symm)
      omega
    · exact absurd hi (e2 i hin)
  have hall : ∀ u, u < n → ∃ j, l[j]? = some u := fun u hu => by
    obtain ⟨j, hj, e⟩ := List.getElem_of_mem (nodup_all hd hlt hl hu)
    exact ⟨j, by rw [List.getElem?_eq_getElem hj, e]⟩
  constructor
  · intro ht e he
    obtain ⟨i, hi⟩ := hall e.1 (ok _ he).1
    obtain ⟨j, hj⟩ := hall e.2 (ok _ he).2
    have := ht.edge i j e.1 e.2 hi hj he
    rw [hat hi, hat hj]
    omega
  · intro hf
    refine ⟨hl, hd, hlt, fun i j v w hi hj he => ?_⟩
    have := hf _ he
    simp only at this
    rw [hat hi, hat hj] at this
    omega

end Dgr
end Go.Proofs.Ytmdleoadodcljaa
