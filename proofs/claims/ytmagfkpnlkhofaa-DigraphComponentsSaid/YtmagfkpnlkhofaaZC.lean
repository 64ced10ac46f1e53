/- Small graphs reckoned: walks, reachability, classes, orders, the least cycle, depths. -/
import Derived.Test.YtmagfkpnlkhofaaZB
namespace Go.Proofs.Ytmagfkpnlkhofaa
namespace Dgr
set_option linter.unusedVariables false

def walkB (es : Edges) : Nat → Nat → Nat → Bool
  | 0, v, w => v == w
  | d + 1, v, w => es.any fun e => e.2 == w && walkB es d v e.1
theorem walkB_iff {es : Edges} : ∀ {d v w : Nat}, walkB es d v w = true ↔ Walk es d v w
  | 0, v, w => by simp [walkB, Walk]
  | d + 1, v, w => by
    simp only [walkB, Walk, List.any_eq_true, Bool.and_eq_true, beq_iff_eq, walkB_iff]
    constructor
    · rintro ⟨⟨a, b⟩, h1, h2, h3⟩
      simp only at h2 h3
      subst h2
      exact ⟨a, h3, h1⟩
    · rintro ⟨u, h1, h2⟩
      exact ⟨(u, w), h2, rfl, h1⟩
theorem not_walk {es : Edges} {d v w : Nat} (h : walkB es d v w = false) : ¬ Walk es d v w := fun hw => by rw [walkB_iff.2 hw] at h; cases h
def rchB (n : Nat) (es : Edges) (v w : Nat) : Bool := (List.range n).any fun d => walkB es d v w
theorem rchB_iff {n : Nat} {es : Edges} (ok : Ok n es) {v w : Nat} (hv : v < n) : rchB n es v w = true ↔ Rch es v w := by
  simp only [rchB, List.any_eq_true, List.mem_range, walkB_iff]
  constructor
  · rintro ⟨d, _, hw⟩
    exact hw.rch
  · intro hr
    obtain ⟨k, hk⟩ := hr.walk
    obtain ⟨e, _, hd⟩ := dist_of_walk hk
    exact ⟨e, hd.lt ok hv, hd.1⟩
theorem those_eq {n : Nat} {p : Nat → Prop} {q : Nat → Bool} (h : ∀ w, w < n → (q w = true ↔ p w)) : those n p = (List.range n).filter q := by
  refine (those_of (List.Pairwise.filter _ List.pairwise_lt_range) fun x => ?_).symm
  rw [List.mem_filter, List.mem_range]
  exact and_congr_right fun hx => h x hx
theorem reach_eq {n : Nat} {es : Edges} (ok : Ok n es) {v : Nat} (hv : v < n) : reachL n es v = (List.range n).filter (rchB n es v) := those_eq fun w _ => rchB_iff ok hv
def bothB (n : Nat) (es : Edges) (v w : Nat) : Bool := rchB n es v w && rchB n es w v
theorem bothB_iff {n : Nat} {es : Edges} (ok : Ok n es) {v w : Nat} (hv : v < n) (hw : w < n) : bothB n es v w = true ↔ Both es v w := by
  rw [bothB, Bool.and_eq_true, rchB_iff ok hv, rchB_iff ok hw]
  exact Iff.rfl
theorem comp_eq {n : Nat} {es : Edges} (ok : Ok n es) : compL n es = ((List.range n).filter fun v => (List.range v).all fun u => !bothB n es v u).map fun v => (List.range n).filter (bothB n es v) := by
  unfold compL
  rw [those_eq (q := fun v => (List.range v).all fun u => !bothB n es v u) fun v hv => ?_]
  · refine List.map_congr_left fun v hv => ?_
    have hvn := List.mem_range.1 (List.mem_filter.1 hv).1
    exact those_eq fun w hw => bothB_iff ok hvn hw
  · simp only [List.all_eq_true, List.mem_range, Bool.not_eq_true']
    refine forall_congr' fun u => forall_congr' fun hu => ?_
    rw [← bothB_iff ok hv (by omega), Bool.eq_false_iff]
/-- A shortest cycle by its steps. -/
theorem least_of {n : Nat} {es : Edges} (ok : Ok n es) {first d : Nat} {l : List Nat} (hl : l.length = d + 1) (h0 : l[0]? = some first)
    (hstep : ((List.range d).all fun k => match l[k]?, l[k + 1]? with
      | some a, some b => es.contains (a, b) && walkB es (d - k) b first && (List.range (d - k)).all (fun e => !walkB es e b first) && es.all (fun e => e.1 != a || !walkB es (d - k) e.2 first || decide (b ≤ e.2))
      | _, _ => false) = true)
    (hw : walkB es (d + 1) first first = true) (hmin : ((List.range d).all fun e => (List.range n).all fun u => !walkB es (e + 1) u u) = true) (hfirst : ((List.range first).all fun v => !walkB es (d + 1) v v) = true) : IsLeast es l := by
  refine greedy_least ⟨hl, h0, fun k a b hk ha hb => ?_⟩ (walkB_iff.1 hw) (fun e u he hwk => ?_) (fun v hv hwk => ?_)
  · have h1 := List.all_eq_true.1 hstep k (List.mem_range.2 (by omega))
    rw [ha, hb] at h1
    simp only [Bool.and_eq_true, List.contains_iff_mem, List.all_eq_true, List.mem_range, Bool.or_eq_true, bne_iff_ne, Bool.not_eq_true', decide_eq_true_eq] at h1
    obtain ⟨⟨⟨h2, h3⟩, h4⟩, h5⟩ := h1
    rw [show d + 1 - (k + 1) = d - k by omega]
    refine ⟨h2, ⟨walkB_iff.1 h3, fun e he => not_walk (h4 e he)⟩, fun w hw hdw => ?_⟩
    rcases h5 (a, w) hw with (h6 | h6) | h6
    · exact absurd rfl h6
    · exact absurd hdw.1 (not_walk h6)
    · exact h6
  · have hu : u < n := (Way.lt ok hwk.way).1
    have := List.all_eq_true.1 (List.all_eq_true.1 hmin e (List.mem_range.2 he)) u (List.mem_range.2 hu)
    exact not_walk (by simpa using this) hwk
  · have := List.all_eq_true.1 hfirst v (List.mem_range.2 hv)
    exact not_walk (by simpa using this) hwk
/-- Depths by their equations. -/
theorem depth_of {n : Nat} {es : Edges} {f : Nat → Nat} (h1 : (es.all fun e => decide (f e.1 + 1 ≤ f e.2)) = true) (h2 : ((List.range n).all fun v => f v == 0 || es.any fun e => e.2 == v && f v == f e.1 + 1) = true) : IsDepth n es f := by
  refine ⟨fun u v he => ?_, fun v hv => ?_⟩
  · simpa using List.all_eq_true.1 h1 (u, v) he
  · have := List.all_eq_true.1 h2 v (List.mem_range.2 hv)
    simp only [Bool.or_eq_true, beq_iff_eq, List.any_eq_true, Bool.and_eq_true] at this
    rcases this with h | ⟨⟨a, b⟩, h3, h4, h5⟩
    · exact .inl h
    · simp only at h4 h5
      subst h4
      exact .inr ⟨a, h3, h5⟩
/-- A list that is an order. -/
theorem topo_of {n : Nat} {es : Edges} {l : List Nat} (hl : l.length = n) (hd : l.Nodup) (hlt : ∀ v ∈ l, v < n) (he : (es.all fun e => decide (l.idxOf e.1 < l.idxOf e.2)) = true) : IsTopo n es l := by
  refine ⟨hl, hd, hlt, fun i j v w hi hj hvw => ?_⟩
  have h1 : l.idxOf v < l.idxOf w := by simpa using List.all_eq_true.1 he (v, w) hvw
  have key : ∀ {i v : Nat}, l[i]? = some v → l.idxOf v = i := fun {i v} hi => by
    obtain ⟨hlt, e⟩ := List.getElem?_eq_some_iff.1 hi
    have := List.Nodup.idxOf_getElem hd i hlt
    rw [e] at this
    exact this
  rw [key hi, key hj] at h1
  exact h1

def ex0 : Edges := [(2, 0), (0, 3), (1, 3)]
def ex1 : Edges := ex0 ++ [(3, 2)]
def ex2 : Edges := ex0 ++ [(1, 1)]
theorem ex0_ok : Ok 4 ex0 := by unfold Ok; decide
theorem ex1_ok : Ok 4 ex1 := by unfold Ok; decide
theorem ex2_ok : Ok 4 ex2 := by unfold Ok; decide
theorem ex0_order : orderF 4 ex0 = some [1, 2, 0, 3] := by decide +kernel
theorem ex1_order : orderF 4 ex1 = none := by decide +kernel
theorem ex_order : orderF 0 [] = some [] := rfl
theorem ex0_reach : reachL 4 ex0 2 = [0, 2, 3] := by rw [reach_eq ex0_ok (by decide)]; decide +kernel
theorem ex1_comp : compL 4 ex1 = [[0, 2, 3], [1]] := by rw [comp_eq ex1_ok]; decide +kernel
theorem ex1_cycle : IsLeast ex1 [0, 3, 2] := least_of (n := 4) ex1_ok (first := 0) (d := 2) rfl rfl (by decide +kernel) (by decide +kernel) (by decide +kernel) (by decide +kernel)
theorem ex2_cycle : IsLeast ex2 [1] := least_of (n := 4) ex2_ok (first := 1) (d := 0) rfl rfl (by decide +kernel) (by decide +kernel) (by decide +kernel) (by decide +kernel)
theorem ex0_acyclic : Acyclic ex0 := orderF_acyclic ex0_ok ex0_order
def exF : Nat → Nat := fun v => if v = 0 then 1 else if v = 3 then 2 else 0
theorem ex0_depth : IsDepth 4 ex0 exF := depth_of (by decide +kernel) (by decide +kernel)
theorem ex0_topo : IsTopo 4 ex0 [2, 0, 1, 3] := topo_of rfl (by decide) (by decide) (by decide +kernel)
theorem ex0_not : ¬ IsTopo 4 ex0 [0, 1, 2, 3] := fun h => by
  have := h.edge 2 0 2 0 rfl rfl (by decide)
  omega

end Dgr
end Go.Proofs.Ytmagfkpnlkhofaa
