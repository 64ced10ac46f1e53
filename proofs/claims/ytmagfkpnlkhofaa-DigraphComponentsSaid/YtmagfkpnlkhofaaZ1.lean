/- Directed graphs as lists of pairs: paths, reachability, the greedy order. -/
namespace Go.Proofs.Ytmagfkpnlkhofaa
namespace Dgr
set_option linter.unusedVariables false

abbrev Edges := List (Nat × Nat)
/-- All ends are nodes. -/
def Ok (n : Nat) (es : Edges) : Prop := ∀ e ∈ es, e.1 < n ∧ e.2 < n
/-- A path with at least one edge leads from v to w. -/
inductive Way (es : Edges) : Nat → Nat → Prop
  | one {v w : Nat} : (v, w) ∈ es → Way es v w
  | more {v u w : Nat} : Way es v u → (u, w) ∈ es → Way es v w
/-- w is reachable from v. -/
def Rch (es : Edges) (v w : Nat) : Prop := v = w ∨ Way es v w

theorem Way.trans {es : Edges} {v u w : Nat} (h : Way es v u) (h' : Way es u w) : Way es v w := by
  induction h' with
  | one h' => exact .more h h'
  | more _ h' ih => exact .more ih h'
theorem Way.cons {es : Edges} {v u w : Nat} (h : (v, u) ∈ es) (h' : Way es u w) : Way es v w := (Way.one h).trans h'
theorem Rch.refl (es : Edges) (v : Nat) : Rch es v v := .inl rfl
theorem Rch.trans {es : Edges} {v u w : Nat} (h : Rch es v u) (h' : Rch es u w) : Rch es v w := by
  rcases h with rfl | h
  · exact h'
  · rcases h' with rfl | h'
    · exact .inr h
    · exact .inr (h.trans h')
theorem Rch.edge {es : Edges} {v w : Nat} (h : (v, w) ∈ es) : Rch es v w := .inr (.one h)
theorem Rch.step {es : Edges} {v u w : Nat} (h : Rch es v u) (h' : (u, w) ∈ es) : Rch es v w := h.trans (.edge h')
theorem Rch.way {es : Edges} {v u w : Nat} (h : Rch es v u) (h' : (u, w) ∈ es) : Way es v w := by
  rcases h with rfl | h
  · exact .one h'
  · exact .more h h'
theorem Way.last {es : Edges} {v w : Nat} (h : Way es v w) : ∃ u, Rch es v u ∧ (u, w) ∈ es := by
  cases h with
  | one h => exact ⟨v, .refl _ _, h⟩
  | more h h' => exact ⟨_, .inr h, h'⟩
theorem Way.first {es : Edges} {v w : Nat} (h : Way es v w) : ∃ u, (v, u) ∈ es ∧ Rch es u w := by
  induction h with
  | one h => exact ⟨_, h, .refl _ _⟩
  | more _ h' ih => obtain ⟨u, h1, h2⟩ := ih; exact ⟨u, h1, h2.step h'⟩
theorem Way.mono {es fs : Edges} (hs : ∀ e ∈ es, e ∈ fs) {v w : Nat} (h : Way es v w) : Way fs v w := by
  induction h with
  | one h => exact .one (hs _ h)
  | more _ h' ih => exact .more ih (hs _ h')
theorem Way.lt {n : Nat} {es : Edges} (ok : Ok n es) {v w : Nat} (h : Way es v w) : v < n ∧ w < n := by
  induction h with
  | one h => exact ok _ h
  | more _ h' ih => exact ⟨ih.1, (ok _ h').2⟩
theorem Rch.lt {n : Nat} {es : Edges} (ok : Ok n es) {v w : Nat} (hv : v < n) (h : Rch es v w) : w < n := by
  rcases h with rfl | h
  · exact hv
  · exact (h.lt ok).2
/-- Another edge closes a way through it, or none. -/
theorem way_add {es : Edges} {a b v w : Nat} (h : Way (es ++ [(a, b)]) v w) : Way es v w ∨ (Rch es v a ∧ Rch es b w) := by
  induction h with
  | one h =>
    rcases List.mem_append.1 h with h | h
    · exact .inl (.one h)
    · simp only [List.mem_singleton, Prod.mk.injEq] at h
      obtain ⟨rfl, rfl⟩ := h
      exact .inr ⟨.refl _ _, .refl _ _⟩
  | more _ h' ih =>
    rcases List.mem_append.1 h' with h' | h'
    · rcases ih with ih | ⟨h1, h2⟩
      · exact .inl (.more ih h')
      · exact .inr ⟨h1, h2.step h'⟩
    · simp only [List.mem_singleton, Prod.mk.injEq] at h'
      obtain ⟨rfl, rfl⟩ := h'
      rcases ih with ih | ⟨h1, _⟩
      · exact .inr ⟨.inr ih, .refl _ _⟩
      · exact .inr ⟨h1, .refl _ _⟩
/-- All edges the other way round. -/
def rev (es : Edges) : Edges := es.map fun e => (e.2, e.1)
theorem mem_rev {es : Edges} {v w : Nat} : (v, w) ∈ rev es ↔ (w, v) ∈ es := by
  simp only [rev, List.mem_map, Prod.mk.injEq]
  constructor
  · rintro ⟨⟨a, b⟩, h, rfl, rfl⟩; exact h
  · intro h; exact ⟨(w, v), h, rfl, rfl⟩
theorem Way.rev {es : Edges} {v w : Nat} (h : Way es v w) : Way (rev es) w v := by
  induction h with
  | one h => exact .one (mem_rev.2 h)
  | more _ h' ih => exact .cons (mem_rev.2 h') ih
theorem rev_rev (es : Edges) : Dgr.rev (Dgr.rev es) = es := by
  unfold Dgr.rev
  rw [List.map_map]
  exact List.map_id es
theorem way_rev {es : Edges} {v w : Nat} : Way (rev es) v w ↔ Way es w v := ⟨fun h => by have := h.rev; rwa [rev_rev] at this, Way.rev⟩
theorem rch_rev {es : Edges} {v w : Nat} : Rch (rev es) v w ↔ Rch es w v := by
  unfold Rch
  rw [way_rev]
  exact or_congr ⟨Eq.symm, Eq.symm⟩ Iff.rfl

def Acyclic (es : Edges) : Prop := ∀ v, ¬ Way es v v

/-- Different numbers below n are at most n. -/
theorem nodup_len : ∀ (n : Nat) (l : List Nat), l.Nodup → (∀ x ∈ l, x < n) → l.length ≤ n
  | 0, l, _, h => by
    cases l with
    | nil => simp
    | cons a l => have := h a (by simp); omega
  | n + 1, l, hd, h => by
    have h1 := nodup_len n (l.erase n) (hd.erase n) (fun x hx => by
      have h2 := h x (List.mem_of_mem_erase hx)
      have h3 : x ≠ n := fun e => by subst e; exact (List.Nodup.not_mem_erase hd) hx
      omega)
    by_cases hn : n ∈ l
    · rw [List.length_erase_of_mem hn] at h1; omega
    · rw [List.erase_of_not_mem hn] at h1; omega
/-- .. and if they are n, each number below n is among them. -/
theorem nodup_all {n : Nat} {l : List Nat} (hd : l.Nodup) (h : ∀ x ∈ l, x < n) (hl : l.length = n) {v : Nat} (hv : v < n) : v ∈ l := by
  refine Classical.byContradiction fun hn => ?_
  have := nodup_len n (v :: l) (List.nodup_cons.2 ⟨hn, hd⟩) (fun x hx => by
    rcases List.mem_cons.1 hx with rfl | hx
    · exact hv
    · exact h x hx)
  simp at this
  omega

theorem nodup_sub : ∀ {l m : List Nat}, l.Nodup → (∀ x ∈ l, x ∈ m) → l.length ≤ m.length
  | [], m, _, _ => by simp
  | a :: l, m, hd, h => by
    have h1 := List.nodup_cons.1 hd
    have ha := h a (by simp)
    have := nodup_sub (l := l) (m := m.erase a) h1.2 (fun x hx => (List.mem_erase_of_ne (show x ≠ a from fun e => h1.1 (e ▸ hx))).2 (h x (by simp [hx])))
    rw [List.length_erase_of_mem ha] at this
    have := List.length_pos_of_mem ha
    simp
    omega

/-- A node that is not in the list, all of whose predecessors are. -/
def freeB (es : Edges) (acc : List Nat) (v : Nat) : Bool := !acc.contains v && es.all fun e => e.2 != v || acc.contains e.1
theorem freeB_iff {es : Edges} {acc : List Nat} {v : Nat} : freeB es acc v = true ↔ v ∉ acc ∧ ∀ u, (u, v) ∈ es → u ∈ acc := by
  simp only [freeB, Bool.and_eq_true, Bool.not_eq_true', List.all_eq_true, Bool.or_eq_true, bne_iff_ne, List.contains_iff_mem]
  refine and_congr (by simp) ⟨fun h u hu => ?_, fun h e he => ?_⟩
  · rcases h _ hu with h | h
    · exact absurd rfl h
    · exact h
  · obtain ⟨a, b⟩ := e
    by_cases hb : b = v
    · subst hb; exact .inr (h a he)
    · exact .inl hb
def nextFree (n : Nat) (es : Edges) (acc : List Nat) : Option Nat := (List.range n).find? (freeB es acc)
theorem nextFree_some {n : Nat} {es : Edges} {acc : List Nat} {v : Nat} (h : nextFree n es acc = some v) : v < n ∧ freeB es acc v = true ∧ ∀ w, w < v → freeB es acc w = false := by
  unfold nextFree at h
  rw [List.find?_eq_some_iff_append] at h
  obtain ⟨h1, as, bs, h2, h3⟩ := h
  have hlen : as.length < n := by
    have := congrArg List.length h2
    simp at this
    omega
  have hv : v = as.length := by
    have := congrArg (fun l => l[as.length]?) h2
    simp [hlen] at this
    exact this.symm
  refine ⟨by omega, h1, fun w hw => ?_⟩
  have hw' : w ∈ as := by
    have := congrArg (fun l => l[w]?) h2
    have hwn : w < n := by omega
    have hwl : w < as.length := by omega
    simp only [List.getElem?_append_left hwl] at this
    rw [List.getElem?_range hwn] at this
    exact List.mem_of_getElem? this.symm
  simpa using h3 w hw'
theorem nextFree_none {n : Nat} {es : Edges} {acc : List Nat} (h : nextFree n es acc = none) : ∀ v, v < n → freeB es acc v = false := fun v hv => by
  unfold nextFree at h
  rw [List.find?_eq_none] at h
  simpa using h v (List.mem_range.2 hv)
/-- The least order: k more nodes. -/
def orderGo (n : Nat) (es : Edges) : Nat → List Nat → Option (List Nat)
  | 0, acc => some acc
  | k + 1, acc => (nextFree n es acc).bind fun v => orderGo n es k (acc ++ [v])
def orderF (n : Nat) (es : Edges) : Option (List Nat) := orderGo n es n []

/-- What is true of the list so far. -/
structure Ord (n : Nat) (es : Edges) (l : List Nat) : Prop where
  nodup : l.Nodup
  lt : ∀ v ∈ l, v < n
  pred : ∀ (i : Nat) (v u : Nat), l[i]? = some v → (u, v) ∈ es → u ∈ l.take i
  least : ∀ (i : Nat) (v w : Nat), l[i]? = some v → w < v → w ∉ l.take i → ∃ u, (u, w) ∈ es ∧ u ∉ l.take i
theorem Ord.nil (n : Nat) (es : Edges) : Ord n es [] := ⟨by simp, by simp, by simp, by simp⟩
theorem Ord.snoc {n : Nat} {es : Edges} {l : List Nat} (h : Ord n es l) {v : Nat} (hv : nextFree n es l = some v) : Ord n es (l ++ [v]) := by
  obtain ⟨h1, h2, h3⟩ := nextFree_some hv
  rw [freeB_iff] at h2
  refine ⟨?_, fun x hx => ?_, fun i x u hx hu => ?_, fun i x w hx hw hn => ?_⟩
  · rw [List.nodup_append]
    exact ⟨h.nodup, by simp, fun a ha b hb => by simp at hb; subst hb; exact fun e => h2.1 (e ▸ ha)⟩
  · rcases List.mem_append.1 hx with hx | hx
    · exact h.lt x hx
    · simp at hx; omega
  · by_cases hi : i < l.length
    · rw [List.getElem?_append_left hi] at hx
      rw [List.take_append_of_le_length (by omega)]
      exact h.pred i x u hx hu
    · have hi' : i = l.length := by
        have := (List.getElem?_eq_some_iff.1 hx).1
        simp at this
        omega
      subst hi'
      simp at hx
      subst hx
      rw [List.take_append_of_le_length (Nat.le_refl _), List.take_length]
      exact h2.2 u hu
  · by_cases hi : i < l.length
    · rw [List.getElem?_append_left hi] at hx
      rw [List.take_append_of_le_length (by omega)] at hn ⊢
      exact h.least i x w hx hw hn
    · have hi' : i = l.length := by
        have := (List.getElem?_eq_some_iff.1 hx).1
        simp at this
        omega
      subst hi'
      simp at hx
      subst hx
      rw [List.take_append_of_le_length (Nat.le_refl _), List.take_length] at hn ⊢
      have h4 := h3 w hw
      refine Classical.byContradiction fun hc => ?_
      have : freeB es l w = true := freeB_iff.2 ⟨hn, fun u hu => Classical.byContradiction fun hu' => hc ⟨u, hu, hu'⟩⟩
      rw [this] at h4
      cases h4
theorem orderGo_some {n : Nat} {es : Edges} : ∀ (k : Nat) (acc l : List Nat), Ord n es acc → orderGo n es k acc = some l → Ord n es l ∧ l.length = acc.length + k
  | 0, acc, l, h, e => by cases e; exact ⟨h, rfl⟩
  | k + 1, acc, l, h, e => by
    unfold orderGo at e
    cases hv : nextFree n es acc with
    | none => rw [hv] at e; cases e
    | some v =>
      rw [hv] at e
      have := orderGo_some k (acc ++ [v]) l (h.snoc hv) e
      refine ⟨this.1, ?_⟩
      rw [this.2]
      simp
      omega
theorem orderF_some {n : Nat} {es : Edges} {l : List Nat} (h : orderF n es = some l) : Ord n es l ∧ l.length = n := by
  have := orderGo_some n [] l (.nil n es) h
  simpa using this
/-- Where a node stands. -/
theorem Ord.at {n : Nat} {es : Edges} {l : List Nat} (h : Ord n es l) (hl : l.length = n) {v : Nat} (hv : v < n) : ∃ i, i < n ∧ l[i]? = some v := by
  have := nodup_all h.nodup h.lt hl hv
  obtain ⟨i, hi, e⟩ := List.getElem_of_mem this
  exact ⟨i, by omega, by rw [List.getElem?_eq_getElem hi, e]⟩
theorem Ord.edge {n : Nat} {es : Edges} {l : List Nat} (h : Ord n es l) {i j v w : Nat} (hi : l[i]? = some v) (hj : l[j]? = some w) (he : (v, w) ∈ es) : i < j := by
  have := h.pred j w v hj he
  obtain ⟨k, hk, e⟩ := List.getElem_of_mem this
  simp only [List.length_take] at hk
  have e2 : l[k]? = some v := by
    rw [List.getElem_take] at e
    rw [List.getElem?_eq_getElem (by omega), e]
  have : k = i := by
    have h1 : k < l.length := by omega
    have h2 : i < l.length := (List.getElem?_eq_some_iff.1 hi).1
    exact (List.getElem?_inj h1 h.nodup).1 (e2.trans hi.symm)
  omega
theorem Ord.way {n : Nat} {es : Edges} {l : List Nat} (h : Ord n es l) (hl : l.length = n) (ok : Ok n es) {v w : Nat} (hw : Way es v w) : ∀ i j : Nat, l[i]? = some v → l[j]? = some w → i < j := by
  induction hw with
  | one he => exact fun i j hi hj => h.edge hi hj he
  | more hw he ih =>
    intro i j hi hj
    obtain ⟨k, _, hk⟩ := h.at hl (ok _ he).1
    have := ih i k hi hk
    have := h.edge hk hj he
    omega
theorem orderF_acyclic {n : Nat} {es : Edges} (ok : Ok n es) {l : List Nat} (h : orderF n es = some l) : Acyclic es := fun v hw => by
  obtain ⟨ho, hl⟩ := orderF_some h
  obtain ⟨i, _, hi⟩ := ho.at hl (hw.lt ok).1
  have := ho.way hl ok hw i i hi hi
  omega

/-- If each of some nodes has a predecessor among them, a way leads from one of them to itself. -/
theorem closed_way {n : Nat} {es : Edges} (S : Nat → Prop) (hS : ∀ v, S v → v < n ∧ ∃ u, S u ∧ (u, v) ∈ es) {v0 : Nat} (h0 : S v0) : ∃ v, Way es v v := by
  refine Classical.byContradiction fun hno => ?_
  -- longer and longer lists of different nodes, each before the next
  have grow : ∀ k : Nat, ∃ l : List Nat, l.length = k + 1 ∧ l.Nodup ∧ (∀ x ∈ l, S x) ∧ (∃ a t, l = a :: t ∧ ∀ x ∈ t, Way es a x) := by
    intro k
    induction k with
    | zero => exact ⟨[v0], rfl, by simp, by simp [h0], v0, [], rfl, by simp⟩
    | succ k ih =>
      obtain ⟨l, h1, h2, h3, a, t, rfl, h4⟩ := ih
      obtain ⟨_, u, hu, he⟩ := hS a (h3 a (by simp))
      have hw : ∀ x ∈ a :: t, Way es u x := fun x hx => by
        rcases List.mem_cons.1 hx with rfl | hx
        · exact .one he
        · exact .cons he (h4 x hx)
      refine ⟨u :: a :: t, by simp at h1 ⊢; omega, List.nodup_cons.2 ⟨fun hm => hno ⟨u, hw u hm⟩, h2⟩, fun x hx => ?_, u, a :: t, rfl, hw⟩
      rcases List.mem_cons.1 hx with rfl | hx
      · exact hu
      · exact h3 x hx
  obtain ⟨l, h1, h2, h3, _⟩ := grow n
  have := nodup_len n l h2 (fun x hx => (hS x (h3 x hx)).1)
  omega
theorem orderGo_none {n : Nat} {es : Edges} (ok : Ok n es) : ∀ (k : Nat) (acc : List Nat), Ord n es acc → acc.length + k = n → orderGo n es k acc = none → ∃ v, Way es v v
  | 0, acc, h, hk, e => by cases e
  | k + 1, acc, h, hk, e => by
    unfold orderGo at e
    cases hv : nextFree n es acc with
    | some v =>
      rw [hv] at e
      exact orderGo_none ok k (acc ++ [v]) (h.snoc hv) (by simp; omega) e
    | none =>
      have hf := nextFree_none hv
      have hex : ∃ v0, v0 < n ∧ v0 ∉ acc := by
        refine Classical.byContradiction fun hc => ?_
        have hall : ∀ v, v < n → v ∈ acc := fun v hv => Classical.byContradiction fun hn => hc ⟨v, hv, hn⟩
        have := nodup_sub List.nodup_range (fun x hx => hall x (List.mem_range.1 hx))
        simp at this
        omega
      obtain ⟨v0, h1, h2⟩ := hex
      refine closed_way (n := n) (fun v => v < n ∧ v ∉ acc) (fun v hv => ⟨hv.1, ?_⟩) ⟨h1, h2⟩
      have h3 := hf v hv.1
      refine Classical.byContradiction fun hc => ?_
      have : freeB es acc v = true := freeB_iff.2 ⟨hv.2, fun u hu => Classical.byContradiction fun hu' => hc ⟨u, ⟨(ok _ hu).1, hu'⟩, hu⟩⟩
      rw [this] at h3
      cases h3
theorem orderF_none {n : Nat} {es : Edges} (ok : Ok n es) (h : orderF n es = none) : ∃ v, Way es v v := orderGo_none ok n [] (.nil n es) (by simp) h
theorem orderF_iff {n : Nat} {es : Edges} (ok : Ok n es) : (∃ l, orderF n es = some l) ↔ Acyclic es := by
  constructor
  · rintro ⟨l, h⟩; exact orderF_acyclic ok h
  · intro h
    cases ho : orderF n es with
    | some l => exact ⟨l, rfl⟩
    | none => obtain ⟨v, hv⟩ := orderF_none ok ho; exact absurd hv (h v)

end Dgr
end Go.Proofs.Ytmagfkpnlkhofaa
