/- The graph of the components; another edge; the graph the other way round. -/
import Derived.Test.YtmagfkpnlkhofaaZ3
namespace Go.Proofs.Ytmagfkpnlkhofaa
namespace Dgr
set_option linter.unusedVariables false

theorem Walk.rev {es : Edges} : ∀ {d v w : Nat}, Walk es d v w → Walk (rev es) d w v
  | 0, v, w, h => h.symm
  | d + 1, v, w, ⟨u, h, he⟩ => by
    have h1 : Walk (Dgr.rev es) 1 w u := ⟨w, rfl, mem_rev.2 he⟩
    have := h1.trans h.rev
    rwa [Nat.add_comm] at this
theorem walk_rev {es : Edges} {d v w : Nat} : Walk (rev es) d v w ↔ Walk es d w v := ⟨fun h => by have := h.rev; rwa [rev_rev] at this, Walk.rev⟩
theorem acyclic_rev {es : Edges} : Acyclic (rev es) ↔ Acyclic es := forall_congr' fun v => not_congr way_rev
theorem IsLeast.len_rev {es : Edges} {l m : List Nat} (h : IsLeast es l) (h' : IsLeast (rev es) m) : l.length = m.length := by
  have key : ∀ {fs : Edges} {a b : List Nat}, IsLeast fs a → IsLeast (rev fs) b → a.length ≤ b.length := fun {fs a b} ha hb => by
    obtain ⟨v, _, hw⟩ := hb.cyc.walk
    have hb0 := hb.cyc.pos
    refine Classical.byContradiction fun hc => ?_
    obtain ⟨d, hd⟩ : ∃ d, b.length = d + 1 := ⟨b.length - 1, by omega⟩
    rw [hd] at hw
    exact ha.walk (by omega) (walk_rev.1 hw)
  have h1 := key h h'
  have h2 := key h' (by rw [rev_rev]; exact h)
  omega

/-- Another edge closes a cycle if and only if a way leads back. -/
theorem acyclic_add {es : Edges} (ha : Acyclic es) {v w : Nat} : Acyclic (es ++ [(v, w)]) ↔ ¬ Rch es w v := by
  constructor
  · intro h hr
    refine h v ?_
    have he : (v, w) ∈ es ++ [(v, w)] := by simp
    rcases hr with rfl | hr
    · exact .one he
    · exact .cons he (hr.mono fun e he => by simp [he])
  · intro h x hx
    rcases way_add hx with hx | ⟨h1, h2⟩
    · exact ha x hx
    · exact h (h2.trans h1)
/-- .. and each cycle goes through it. -/
theorem cyc_add {es : Edges} (ha : Acyclic es) {v w : Nat} {l : List Nat} (h : IsCyc (es ++ [(v, w)]) l) : v ∈ l ∧ w ∈ l := by
  refine Classical.byContradiction fun hc => ?_
  have : IsCyc es l := ⟨h.pos, h.nodup, fun i a b hi hj => by
    rcases List.mem_append.1 (h.edge i a b hi hj) with he | he
    · exact he
    · simp only [List.mem_singleton, Prod.mk.injEq] at he
      obtain ⟨rfl, rfl⟩ := he
      exact absurd ⟨List.mem_of_getElem? hi, List.mem_of_getElem? hj⟩ hc⟩
  obtain ⟨x, _, hx⟩ := this.way
  exact ha x hx

/-- The edges between classes. -/
def small (c : Nat → Nat) (es : Edges) : Edges := (es.filter fun e => c e.1 != c e.2).map fun e => (c e.1, c e.2)
theorem mem_small {c : Nat → Nat} {es : Edges} {i j : Nat} : (i, j) ∈ small c es ↔ i ≠ j ∧ ∃ u w, (u, w) ∈ es ∧ c u = i ∧ c w = j := by
  simp only [small, List.mem_map, List.mem_filter, bne_iff_ne, Prod.mk.injEq]
  constructor
  · rintro ⟨⟨u, w⟩, ⟨h1, h2⟩, rfl, rfl⟩; exact ⟨h2, u, w, h1, rfl, rfl⟩
  · rintro ⟨h, u, w, h1, rfl, rfl⟩; exact ⟨(u, w), ⟨h1, h⟩, rfl, rfl⟩
theorem small_way {n : Nat} {c : Nat → Nat} {es : Edges} (ok : Ok n es) (hc : ∀ v w, v < n → w < n → (c v = c w ↔ Both es v w)) {i j : Nat} (h : Way (small c es) i j) : ∀ u w, u < n → w < n → c u = i → c w = j → Rch es u w := by
  induction h with
  | one h =>
    intro u w hu hw e1 e2
    obtain ⟨_, x, y, he, e3, e4⟩ := mem_small.1 h
    have h1 := (hc u x hu (ok _ he).1).1 (by rw [e1, e3])
    have h2 := (hc y w (ok _ he).2 hw).1 (by rw [e4, e2])
    exact (h1.1.step he).trans h2.1
  | more _ h ih =>
    intro u w hu hw e1 e2
    obtain ⟨_, x, y, he, e3, e4⟩ := mem_small.1 h
    have h2 := (hc y w (ok _ he).2 hw).1 (by rw [e4, e2])
    exact ((ih u x hu (ok _ he).1 e1 e3).step he).trans h2.1
/-- The graph of the components has no cycle. -/
theorem small_acyclic {n : Nat} {c : Nat → Nat} {es : Edges} (ok : Ok n es) (hc : ∀ v w, v < n → w < n → (c v = c w ↔ Both es v w)) : Acyclic (small c es) := fun i hi => by
  obtain ⟨k, h1, h2⟩ := hi.first
  obtain ⟨hne, x, y, he, e3, e4⟩ := mem_small.1 h1
  have hb : Rch es y x := by
    rcases h2 with rfl | h2
    · exact absurd rfl hne
    · exact small_way ok hc h2 y x (ok _ he).2 (ok _ he).1 e4 e3
  have := (hc x y (ok _ he).1 (ok _ he).2).2 ⟨.edge he, hb⟩
  exact hne (by rw [← e3, ← e4, this])
/-- A graph has no cycle if and only if different nodes lie in different classes and no edge leads from a node to itself. -/
theorem acyclic_classes {n : Nat} {es : Edges} (ok : Ok n es) : Acyclic es ↔ (∀ v w, v < n → w < n → Both es v w → v = w) ∧ ∀ v, (v, v) ∉ es := by
  constructor
  · intro h
    refine ⟨fun v w hv hw hb => ?_, fun v hv => h v (.one hv)⟩
    rcases hb.1 with e | h1
    · exact e
    · rcases hb.2 with e | h2
      · exact e.symm
      · exact absurd (h1.trans h2) (h v)
  · rintro ⟨h1, h2⟩ v hv
    obtain ⟨u, he, hr⟩ := hv.first
    have e := h1 v u (ok _ he).1 (ok _ he).2 ⟨.edge he, hr⟩
    subst e
    exact h2 v he
theorem acyclic_mono {es fs : Edges} (hs : ∀ e ∈ es, e ∈ fs) (h : Acyclic fs) : Acyclic es := fun v hv => h v (hv.mono hs)
theorem rch_mono {es fs : Edges} (hs : ∀ e ∈ es, e ∈ fs) {v w : Nat} (h : Rch es v w) : Rch fs v w := h.imp id (Way.mono hs)

end Dgr
end Go.Proofs.Ytmagfkpnlkhofaa
