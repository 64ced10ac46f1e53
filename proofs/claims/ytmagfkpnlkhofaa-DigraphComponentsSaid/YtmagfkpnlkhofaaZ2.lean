/- Walks of a given length, cycles, the shortest ones. -/
import Derived.Test.YtmagfkpnlkhofaaZ1
namespace Go.Proofs.Ytmagfkpnlkhofaa
namespace Dgr
set_option linter.unusedVariables false

/-- A walk of d edges from v to w. -/
def Walk (es : Edges) : Nat → Nat → Nat → Prop
  | 0, v, w => v = w
  | d + 1, v, w => ∃ u, Walk es d v u ∧ (u, w) ∈ es
theorem Walk.way {es : Edges} : ∀ {d v w : Nat}, Walk es (d + 1) v w → Way es v w
  | 0, v, w, ⟨u, h, he⟩ => by cases h; exact .one he
  | d + 1, v, w, ⟨u, h, he⟩ => .more h.way he
theorem Way.walk {es : Edges} {v w : Nat} (h : Way es v w) : ∃ d, Walk es (d + 1) v w := by
  induction h with
  | one h => exact ⟨0, _, rfl, h⟩
  | more _ he ih => obtain ⟨d, h⟩ := ih; exact ⟨d + 1, _, h, he⟩
theorem Walk.trans {es : Edges} {d : Nat} : ∀ {e v u w : Nat}, Walk es d v u → Walk es e u w → Walk es (d + e) v w
  | 0, v, u, w, h, h' => by cases h'; exact h
  | e + 1, v, u, w, h, ⟨x, h1, h2⟩ => ⟨x, h.trans h1, h2⟩
/-- The nodes of a walk. -/
theorem Walk.nodes {es : Edges} : ∀ {d v w : Nat}, Walk es d v w → ∃ f : Nat → Nat, f 0 = v ∧ f d = w ∧ ∀ i, i < d → (f i, f (i + 1)) ∈ es
  | 0, v, w, h => ⟨fun _ => v, rfl, h, fun i hi => by omega⟩
  | d + 1, v, w, ⟨u, h, he⟩ => by
    obtain ⟨f, h1, h2, h3⟩ := h.nodes
    refine ⟨fun i => if i ≤ d then f i else w, by simp [h1], if_neg (by omega), fun i hi => ?_⟩
    by_cases hid : i = d
    · subst hid
      show ((if i ≤ i then f i else w), (if i + 1 ≤ i then f (i + 1) else w)) ∈ es
      rw [if_pos (Nat.le_refl _), if_neg (by omega), h2]
      exact he
    · have h4 : i ≤ d := by omega
      have h5 : i + 1 ≤ d := by omega
      simp only [h4, h5, if_true]
      exact h3 i (by omega)
theorem walk_of {es : Edges} {f : Nat → Nat} {d : Nat} (h : ∀ i, i < d → (f i, f (i + 1)) ∈ es) : ∀ k i : Nat, i + k ≤ d → Walk es k (f i) (f (i + k))
  | 0, i, _ => rfl
  | k + 1, i, hk => ⟨f (i + k), walk_of h k i (by omega), h (i + k) (by omega)⟩

/-- A cycle: different nodes, each with an edge to the next, the last one to the first. -/
structure IsCyc (es : Edges) (l : List Nat) : Prop where
  pos : 0 < l.length
  nodup : l.Nodup
  edge : ∀ i v w : Nat, l[i]? = some v → l[(i + 1) % l.length]? = some w → (v, w) ∈ es
theorem IsCyc.walk {es : Edges} {l : List Nat} (h : IsCyc es l) : ∃ v, l[0]? = some v ∧ Walk es l.length v v := by
  have h0 := h.pos
  obtain ⟨f, hf⟩ : ∃ f : Nat → Nat, ∀ i, i < l.length → l[i]? = some (f i) := ⟨fun i => l.getD i 0, fun i hi => by simp [List.getD, hi]⟩
  refine ⟨f 0, hf 0 h0, ?_⟩
  have hw : ∀ k, k < l.length → Walk es k (f 0) (f k) := by
    intro k
    induction k with
    | zero => intro _; rfl
    | succ k ih =>
      intro hk
      exact ⟨f k, ih (by omega), h.edge k _ _ (hf k (by omega)) (by rw [Nat.mod_eq_of_lt hk]; exact hf _ hk)⟩
  obtain ⟨m, hm⟩ : ∃ m, l.length = m + 1 := ⟨l.length - 1, by omega⟩
  rw [hm]
  refine ⟨f m, hw m (by omega), h.edge m _ _ (hf m (by omega)) ?_⟩
  rw [← hm, Nat.mod_self]
  exact hf 0 h0
theorem IsCyc.way {es : Edges} {l : List Nat} (h : IsCyc es l) : ∃ v, v ∈ l ∧ Way es v v := by
  obtain ⟨v, hv, hw⟩ := h.walk
  obtain ⟨m, hm⟩ : ∃ m, l.length = m + 1 := ⟨l.length - 1, by have := h.pos; omega⟩
  rw [hm] at hw
  exact ⟨v, List.mem_of_getElem? hv, hw.way⟩
/-- A closed walk that no closed walk is shorter than is a cycle. -/
theorem cyc_of_walk {es : Edges} {d v : Nat} (h : Walk es (d + 1) v v) (hmin : ∀ e u, e < d → ¬ Walk es (e + 1) u u) : ∃ l, IsCyc es l ∧ l.length = d + 1 ∧ l[0]? = some v := by
  obtain ⟨f, h0, h1, he⟩ := h.nodes
  have hne : ∀ i j, i < j → j < d + 1 → f i ≠ f j := fun i j hij hj e => by
    have hw := walk_of he (j - i) i (by omega)
    rw [show i + (j - i) = j by omega, ← e] at hw
    obtain ⟨m, hm⟩ : ∃ m, j - i = m + 1 := ⟨j - i - 1, by omega⟩
    rw [hm] at hw
    exact hmin m _ (by omega) hw
  refine ⟨(List.range (d + 1)).map f, ⟨by simp, ?_, fun i x y hx hy => ?_⟩, by simp, by simp [h0]⟩
  · refine List.pairwise_map.2 ?_
    refine List.Pairwise.imp_of_mem ?_ (List.pairwise_lt_range (n := d + 1))
    intro a b ha hb hab
    exact hne a b hab (List.mem_range.1 hb)
  · have hi : i < d + 1 := by have := (List.getElem?_eq_some_iff.1 hx).1; simpa using this
    simp only [List.length_map, List.length_range] at hy
    rw [List.getElem?_map, List.getElem?_range hi] at hx
    have hm : (i + 1) % (d + 1) < d + 1 := Nat.mod_lt _ (by omega)
    rw [List.getElem?_map, List.getElem?_range hm] at hy
    simp only [Option.map_some, Option.some.injEq] at hx hy
    subst hx hy
    by_cases hd : i = d
    · subst hd
      rw [Nat.mod_self, h0, ← h1]
      exact he i (by omega)
    · rw [Nat.mod_eq_of_lt (by omega)]
      exact he i (by omega)
/-- Of any closed walk a shortest one. -/
theorem least_walk {es : Edges} {d v : Nat} (h : Walk es (d + 1) v v) : ∃ e u, e ≤ d ∧ Walk es (e + 1) u u ∧ ∀ e' u', e' < e → ¬ Walk es (e' + 1) u' u' := by
  induction d using Nat.strongRecOn generalizing v with
  | _ d ih =>
    by_cases hx : ∃ e u, e < d ∧ Walk es (e + 1) u u
    · obtain ⟨e, u, hlt, hw⟩ := hx
      obtain ⟨e2, u2, h1, h2, h3⟩ := ih e hlt hw
      exact ⟨e2, u2, by omega, h2, h3⟩
    · exact ⟨d, v, Nat.le_refl _, h, fun e u hlt hw => hx ⟨e, u, hlt, hw⟩⟩
theorem cyc_iff {es : Edges} : (∃ l, IsCyc es l) ↔ ¬ Acyclic es := by
  constructor
  · rintro ⟨l, h⟩ ha
    obtain ⟨v, _, hv⟩ := h.way
    exact ha v hv
  · intro h
    obtain ⟨v, hv⟩ := Classical.not_forall.1 h
    obtain ⟨d, hw⟩ := (Classical.not_not.1 hv).walk
    obtain ⟨e, u, _, h2, h3⟩ := least_walk hw
    obtain ⟨l, hl, _⟩ := cyc_of_walk h2 h3
    exact ⟨l, hl⟩

/-- a stands before b, or is b, in the order of words. -/
def lexLe : List Nat → List Nat → Prop
  | [], _ => True
  | _ :: _, [] => False
  | a :: l, b :: m => a < b ∨ (a = b ∧ lexLe l m)
theorem lexLe.refl : ∀ l, lexLe l l
  | [] => trivial
  | a :: l => .inr ⟨rfl, lexLe.refl l⟩
theorem lexLe.anti : ∀ {l m : List Nat}, lexLe l m → lexLe m l → l = m
  | [], [], _, _ => rfl
  | [], b :: m, _, h => h.elim
  | a :: l, [], h, _ => h.elim
  | a :: l, b :: m, h, h' => by
    rcases h with h | ⟨rfl, h⟩
    · rcases h' with h' | ⟨e, _⟩ <;> omega
    · rcases h' with h' | ⟨_, h'⟩
      · omega
      · rw [h.anti h']
theorem lexLe.head {a b : Nat} {l m : List Nat} (h : lexLe (a :: l) (b :: m)) : a ≤ b := by
  rcases h with h | ⟨rfl, _⟩ <;> omega
/-- The shortest cycle, of several the least. -/
structure IsLeast (es : Edges) (l : List Nat) : Prop where
  cyc : IsCyc es l
  short : ∀ m, IsCyc es m → l.length ≤ m.length
  least : ∀ m, IsCyc es m → m.length = l.length → lexLe l m
theorem IsLeast.unique {es : Edges} {l m : List Nat} (h : IsLeast es l) (h' : IsLeast es m) : l = m := by
  have h1 := h.short m h'.cyc
  have h2 := h'.short l h.cyc
  exact (h.least m h'.cyc (by omega)).anti (h'.least l h.cyc (by omega))
/-- No closed walk is shorter. -/
theorem IsLeast.walk {es : Edges} {l : List Nat} (h : IsLeast es l) {d v : Nat} (hd : d + 1 < l.length) : ¬ Walk es (d + 1) v v := fun hw => by
  obtain ⟨e, u, he, h2, h3⟩ := least_walk hw
  obtain ⟨m, hm, hl, _⟩ := cyc_of_walk h2 h3
  have := h.short m hm
  omega
/-- A cycle, begun at another of its nodes. -/
def turn (l : List Nat) (k : Nat) : List Nat := l.drop k ++ l.take k
theorem turn_length (l : List Nat) (k : Nat) : (turn l k).length = l.length := by unfold turn; simp; omega
theorem turn_get {l : List Nat} {k : Nat} (hk : k < l.length) {i : Nat} (hi : i < l.length) : (turn l k)[i]? = l[(k + i) % l.length]? := by
  unfold turn
  by_cases h : i < l.length - k
  · rw [List.getElem?_append_left (by simp; omega), List.getElem?_drop, Nat.mod_eq_of_lt (by omega)]
  · rw [List.getElem?_append_right (by simp; omega), List.length_drop, List.getElem?_take_of_lt (by omega)]
    congr 1
    rw [show k + i = (i - (l.length - k)) + l.length by omega, Nat.add_mod_right, Nat.mod_eq_of_lt (by omega)]
theorem IsCyc.turn {es : Edges} {l : List Nat} (h : IsCyc es l) {k : Nat} (hk : k < l.length) : IsCyc es (turn l k) := by
  have h0 := h.pos
  refine ⟨by rw [turn_length]; exact h0, ?_, fun i v w hv hw => ?_⟩
  · unfold Dgr.turn
    have := h.nodup
    rw [← List.take_append_drop k l, List.nodup_append] at this
    rw [List.nodup_append]
    exact ⟨this.2.1, this.1, fun a ha b hb e => this.2.2 b hb a ha e.symm⟩
  · rw [turn_length] at hw
    have hi : i < l.length := by have := (List.getElem?_eq_some_iff.1 hv).1; rwa [turn_length] at this
    rw [turn_get hk hi] at hv
    rw [turn_get hk (Nat.mod_lt _ h0)] at hw
    refine h.edge _ v w hv ?_
    rw [← hw]
    congr 1
    rw [Nat.add_mod_mod, Nat.mod_add_mod, Nat.add_assoc]
/-- The least cycle begins with its least node. -/
theorem IsLeast.head {es : Edges} {l : List Nat} (h : IsLeast es l) {i v w : Nat} (h0 : l[0]? = some v) (hi : l[i]? = some w) : v ≤ w := by
  have hil := (List.getElem?_eq_some_iff.1 hi).1
  have hl := h.least (turn l i) (h.cyc.turn hil) (turn_length _ _)
  have e := turn_get hil h.cyc.pos
  rw [Nat.add_zero, Nat.mod_eq_of_lt hil, hi] at e
  cases l with
  | nil => simp at h0
  | cons a l =>
    cases ht : turn (a :: l) i with
    | nil => rw [ht] at e; simp at e
    | cons b m =>
      rw [ht] at hl e
      simp at h0 e
      subst h0 e
      exact hl.head

end Dgr
end Go.Proofs.Ytmagfkpnlkhofaa
