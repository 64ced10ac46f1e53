/- Distances found by a search in breadth: what holds of the queue and of the numbers. Cycles walked along the nearest nodes. The least order by counts of missing predecessors; depths handed on along an order. Small graphs reckoned: walks, reachability, classes, orders, the least cycle, depths. -/
import Derived.Test.YtmdleoadodcljaaZ8
namespace Go.Proofs.Ytmdleoadodcljaa
namespace Dgr
set_option linter.unusedVariables false

/-- How many nodes have no number yet. -/
def undis (f : Nat → Int) : Nat → Nat
  | 0 => 0
  | n + 1 => undis f n + if f n = -1 then 1 else 0
theorem undis_le (f : Nat → Int) : ∀ n, undis f n ≤ n
  | 0 => Nat.le_refl _
  | n + 1 => by have := undis_le f n; unfold undis; split <;> omega
theorem undis_up {f g : Nat → Int} {w : Nat} (h : f w = -1) (hg : g w ≠ -1) (hg' : ∀ v, v ≠ w → g v = f v) : ∀ n : Nat, undis f n = undis g n + if w < n then 1 else 0
  | 0 => by simp [undis]
  | n + 1 => by
    have ih := undis_up h hg hg' n
    unfold undis
    by_cases hw : w = n
    · subst hw
      simp only [Nat.lt_irrefl, if_false, Nat.add_zero] at ih
      simp [ih, h, hg]
    · rw [hg' n (Ne.symm hw), ih]
      by_cases hlt : w < n
      · simp only [hlt, if_true, show w < n + 1 from by omega]; omega
      · simp only [hlt, if_false, show ¬ w < n + 1 from by omega]; omega

/-- Every number is a distance. -/
def Nums (n : Nat) (es : Edges) (s : Nat) (f : Nat → Int) : Prop := ∀ v, v < n → f v = -1 ∨ ∃ k : Nat, f v = k ∧ Dist es s v k
/-- Between two nodes of the queue: q1 of distance d, q2 of distance d + 1. -/
structure Bfs (n : Nat) (es : Edges) (s d : Nat) (q1 q2 : List Nat) (f : Nat → Int) : Prop where
  val : Nums n es s f
  lev1 : ∀ v ∈ q1, v < n ∧ f v = d
  lev2 : ∀ v ∈ q2, v < n ∧ f v = (d + 1 : Nat)
  seen : ∀ v k, k ≤ d → Walk es k s v → f v ≠ -1
  shut : ∀ u, u < n → f u ≠ -1 → u ∉ q1 ++ q2 → ∀ w, (u, w) ∈ es → f w ≠ -1
/-- .. while the successors of v are met; those of 'done' have been. -/
structure BfsIn (n : Nat) (es : Edges) (s v d : Nat) (q1 q2 : List Nat) (f : Nat → Int) (don : List Nat) : Prop where
  vn : v < n
  fv : f v = d
  val : Nums n es s f
  lev1 : ∀ v ∈ q1, v < n ∧ f v = d
  lev2 : ∀ v ∈ q2, v < n ∧ f v = (d + 1 : Nat)
  seen : ∀ v k, k ≤ d → Walk es k s v → f v ≠ -1
  shut : ∀ u, u < n → f u ≠ -1 → u ∉ q1 ++ q2 → u ≠ v → ∀ w, (u, w) ∈ es → f w ≠ -1
  cur : ∀ w ∈ don, f w ≠ -1

theorem Bfs.start {n : Nat} {es : Edges} {s : Nat} (hs : s < n) {f : Nat → Int} (h0 : f s = 0) (h1 : ∀ v, v ≠ s → f v = -1) : Bfs n es s 0 [s] [] f := by
  refine ⟨fun v _ => ?_, fun v hv => ?_, fun v hv => (by cases hv), fun v k hk hw => ?_, fun u _ hu hq => ?_⟩
  · by_cases hv : v = s
    · subst hv
      exact .inr ⟨0, by simpa using h0, rfl, fun e he => by omega⟩
    · exact .inl (h1 v hv)
  · obtain rfl : v = s := by simpa using hv
    exact ⟨hs, by simpa using h0⟩
  · obtain rfl : k = 0 := by omega
    have : s = v := hw
    subst this
    omega
  · exfalso
    by_cases h : u = s
    · subst h; simp at hq
    · exact hu (h1 u h)
/-- The queue's first list is empty: one level further. -/
theorem Bfs.shift {n : Nat} {es : Edges} (ok : Ok n es) {s : Nat} (hs : s < n) {d : Nat} {q2 : List Nat} {f : Nat → Int} (h : Bfs n es s d [] q2 f) : Bfs n es s (d + 1) q2 [] f := by
  refine ⟨h.val, h.lev2, fun v hv => (by cases hv), fun v k hk hw => ?_, fun u hu hf hq => h.shut u hu hf (by simpa using hq)⟩
  by_cases hkd : k ≤ d
  · exact h.seen v k hkd hw
  · obtain rfl : k = d + 1 := by omega
    obtain ⟨u, hu, he⟩ := hw
    have hun : u < n := (ok _ he).1
    have hfu := h.seen u d (Nat.le_refl _) hu
    refine h.shut u hun hfu (fun hm => ?_) v he
    have hm' : u ∈ q2 := by simpa using hm
    have h2 := (h.lev2 u hm').2
    rcases h.val u hun with h3 | ⟨k, hk1, hk2⟩
    · exact hfu h3
    · have : k = d + 1 := by omega
      subst this
      exact hk2.2 d (by omega) hu
theorem Bfs.pop {n : Nat} {es : Edges} {s v d : Nat} {q1 q2 : List Nat} {f : Nat → Int} (h : Bfs n es s d (v :: q1) q2 f) : BfsIn n es s v d q1 q2 f [] := by
  have hv := h.lev1 v (by simp)
  refine ⟨hv.1, hv.2, h.val, fun u hu => h.lev1 u (by simp [hu]), h.lev2, h.seen, fun u hu hf hq hne => h.shut u hu hf ?_, fun w hw => (by cases hw)⟩
  simp only [List.cons_append, List.mem_cons, not_or]
  exact ⟨hne, hq⟩
theorem BfsIn.skip {n : Nat} {es : Edges} {s v d : Nat} {q1 q2 : List Nat} {f : Nat → Int} {don : List Nat} (h : BfsIn n es s v d q1 q2 f don) {w : Nat} (hw : f w ≠ -1) : BfsIn n es s v d q1 q2 f (don ++ [w]) :=
  ⟨h.vn, h.fv, h.val, h.lev1, h.lev2, h.seen, h.shut, fun x hx => by
    rcases List.mem_append.1 hx with hx | hx
    · exact h.cur x hx
    · obtain rfl : x = w := by simpa using hx
      exact hw⟩
theorem BfsIn.push {n : Nat} {es : Edges} {s v d : Nat} {q1 q2 : List Nat} {f g : Nat → Int} {don : List Nat} (h : BfsIn n es s v d q1 q2 f don) {w : Nat} (he : (v, w) ∈ es) (hwn : w < n) (hw : f w = -1) (hg : g w = (d + 1 : Nat)) (hg' : ∀ u, u ≠ w → g u = f u) :
    BfsIn n es s v d q1 (q2 ++ [w]) g (don ++ [w]) := by
  have hgw : g w ≠ -1 := by omega
  have mono : ∀ u, f u ≠ -1 → g u ≠ -1 := fun u hu => by
    by_cases huw : u = w
    · subst huw; exact hgw
    · rw [hg' u huw]; exact hu
  have ne_of : ∀ u, f u ≠ -1 → u ≠ w := fun u hu e => hu (e ▸ hw)
  have hvd : Dist es s v d := by
    rcases h.val v h.vn with h1 | ⟨k, h1, h2⟩
    · have := h.fv; omega
    · have : k = d := by have := h.fv; omega
      subst this; exact h2
  refine ⟨h.vn, ?_, fun u hu => ?_, fun u hu => ?_, fun u hu => ?_, fun u k hk hwk => mono u (h.seen u k hk hwk), fun u hu hf hq hne x hx => ?_, fun x hx => ?_⟩
  · rw [hg' v (ne_of v (by have := h.fv; omega))]; exact h.fv
  · by_cases huw : u = w
    · subst huw
      refine .inr ⟨d + 1, hg, ⟨v, hvd.1, he⟩, fun e hed hwe => ?_⟩
      exact h.seen u e (by omega) hwe hw
    · rw [hg' u huw]; exact h.val u hu
  · have := h.lev1 u hu
    rw [hg' u (ne_of u (by omega))]; exact this
  · rcases List.mem_append.1 hu with hu | hu
    · have := h.lev2 u hu
      rw [hg' u (ne_of u (by omega))]; exact this
    · obtain rfl : u = w := by simpa using hu
      exact ⟨hwn, hg⟩
  · simp only [List.mem_append, List.mem_singleton, not_or] at hq
    rw [hg' u hq.2.2] at hf
    exact mono x (h.shut u hu hf (by simp [hq.1, hq.2.1]) hne x hx)
  · rcases List.mem_append.1 hx with hx | hx
    · exact mono x (h.cur x hx)
    · obtain rfl : x = w := by simpa using hx
      exact hgw
theorem BfsIn.done {n : Nat} {es : Edges} {s v d : Nat} {q1 q2 : List Nat} {f : Nat → Int} {don : List Nat} (h : BfsIn n es s v d q1 q2 f don) (hl : ∀ w, (v, w) ∈ es → w ∈ don) : Bfs n es s d q1 q2 f :=
  ⟨h.val, h.lev1, h.lev2, h.seen, fun u hu hf hq w he => by
    by_cases huv : u = v
    · subst huv; exact h.cur w (hl w he)
    · exact h.shut u hu hf hq huv w he⟩

/-- Some split of the queue. -/
def BfsQ (n : Nat) (es : Edges) (s : Nat) (q : List Nat) (f : Nat → Int) : Prop := ∃ d q1 q2, q = q1 ++ q2 ∧ Bfs n es s d q1 q2 f
def BfsP (n : Nat) (es : Edges) (s v : Nat) (q : List Nat) (f : Nat → Int) (don : List Nat) : Prop := ∃ d q1 q2, q = q1 ++ q2 ∧ BfsIn n es s v d q1 q2 f don
theorem BfsQ.pop {n : Nat} {es : Edges} (ok : Ok n es) {s : Nat} (hs : s < n) {v : Nat} {q : List Nat} {f : Nat → Int} (h : BfsQ n es s (v :: q) f) : BfsP n es s v q f [] := by
  obtain ⟨d, q1, q2, hq, h⟩ := h
  cases q1 with
  | nil =>
    have hq' : q2 = v :: q := by simpa using hq.symm
    subst hq'
    exact ⟨d + 1, q, [], by simp, (h.shift ok hs).pop⟩
  | cons x q1 =>
    simp only [List.cons_append, List.cons.injEq] at hq
    obtain ⟨rfl, rfl⟩ := hq
    exact ⟨d, q1, q2, rfl, h.pop⟩
theorem BfsP.skip {n : Nat} {es : Edges} {s v : Nat} {q : List Nat} {f : Nat → Int} {don : List Nat} (h : BfsP n es s v q f don) {w : Nat} (hw : f w ≠ -1) : BfsP n es s v q f (don ++ [w]) := by
  obtain ⟨d, q1, q2, hq, h⟩ := h
  exact ⟨d, q1, q2, hq, h.skip hw⟩
theorem BfsP.push {n : Nat} {es : Edges} {s v : Nat} {q : List Nat} {f g : Nat → Int} {don : List Nat} (h : BfsP n es s v q f don) {w : Nat} (he : (v, w) ∈ es) (hwn : w < n) (hw : f w = -1) (hg : g w = f v + 1) (hg' : ∀ u, u ≠ w → g u = f u) : BfsP n es s v (q ++ [w]) g (don ++ [w]) := by
  obtain ⟨d, q1, q2, rfl, h⟩ := h
  exact ⟨d, q1, q2 ++ [w], by simp, h.push he hwn hw (by rw [hg, h.fv]; simp) hg'⟩
theorem BfsP.done {n : Nat} {es : Edges} {s v : Nat} {q : List Nat} {f : Nat → Int} {don : List Nat} (h : BfsP n es s v q f don) (hl : ∀ w, (v, w) ∈ es → w ∈ don) : BfsQ n es s q f := by
  obtain ⟨d, q1, q2, hq, h⟩ := h
  exact ⟨d, q1, q2, hq, h.done hl⟩
theorem BfsP.fv {n : Nat} {es : Edges} {s v : Nat} {q : List Nat} {f : Nat → Int} {don : List Nat} (h : BfsP n es s v q f don) : v < n ∧ f v ≠ -1 := by
  obtain ⟨d, q1, q2, hq, h⟩ := h
  exact ⟨h.vn, by have := h.fv; omega⟩
theorem BfsP.bound {n : Nat} {es : Edges} (ok : Ok n es) {s v : Nat} (hs : s < n) {q : List Nat} {f : Nat → Int} {don : List Nat} (h : BfsP n es s v q f don) : 0 ≤ f v ∧ f v < n := by
  obtain ⟨d, q1, q2, hq, h⟩ := h
  have h1 := h.fv
  rcases h.val v h.vn with h2 | ⟨k, h2, h3⟩
  · omega
  · have := h3.lt ok hs
    omega
theorem BfsQ.lt {n : Nat} {es : Edges} {s v : Nat} {q : List Nat} {f : Nat → Int} (h : BfsQ n es s (v :: q) f) : v < n := by
  obtain ⟨d, q1, q2, hq, h⟩ := h
  have : v ∈ q1 ++ q2 := by rw [← hq]; simp
  rcases List.mem_append.1 this with h1 | h1
  · exact (h.lev1 v h1).1
  · exact (h.lev2 v h1).1
/-- The numbers are the distances; -1 where no way leads. -/
def DistF (n : Nat) (es : Edges) (s : Nat) (f : Nat → Int) : Prop := ∀ v, v < n → (∃ k : Nat, f v = k ∧ Dist es s v k) ∨ (f v = -1 ∧ ¬ Rch es s v)
theorem BfsQ.end {n : Nat} {es : Edges} (ok : Ok n es) {s : Nat} (hs : s < n) {f : Nat → Int} (h : BfsQ n es s [] f) : DistF n es s f := by
  obtain ⟨d, q1, q2, hq, h⟩ := h
  obtain ⟨rfl, rfl⟩ : q1 = [] ∧ q2 = [] := by
    cases q1 with
    | nil => exact ⟨rfl, by simpa using hq.symm⟩
    | cons => cases hq
  have h0 : f s ≠ -1 := h.seen s 0 (Nat.zero_le _) rfl
  have hw : ∀ {u w : Nat}, Way es u w → f u ≠ -1 → f w ≠ -1 := fun {u w} hw => by
    induction hw with
    | one he => exact fun hu => h.shut _ (ok _ he).1 hu (by simp) _ he
    | more _ he ih => exact fun hu => h.shut _ (ok _ he).1 (ih hu) (by simp) _ he
  intro v hv
  rcases h.val v hv with h1 | h1
  · refine .inr ⟨h1, fun hr => ?_⟩
    rcases hr with rfl | hr
    · exact h0 h1
    · exact hw hr h0 h1
  · exact .inl h1
theorem Walk.rch {es : Edges} {d v w : Nat} (h : Walk es d v w) : Rch es v w := by
  cases d with
  | zero => exact .inl h
  | succ d => exact .inr h.way
theorem DistF.iff {n : Nat} {es : Edges} {s : Nat} {f : Nat → Int} (h : DistF n es s f) {v : Nat} (hv : v < n) : f v ≠ -1 ↔ Rch es s v := by
  rcases h v hv with ⟨k, h1, h2⟩ | ⟨h1, h2⟩
  · exact ⟨fun _ => h2.1.rch, fun _ => by omega⟩
  · exact ⟨fun h' => absurd h1 h', fun h' => absurd h' h2⟩
theorem DistF.num {n : Nat} {es : Edges} {s : Nat} {f : Nat → Int} (h : DistF n es s f) {v : Nat} (hv : v < n) : -1 ≤ f v := by
  rcases h v hv with ⟨k, h1, h2⟩ | ⟨h1, h2⟩ <;> omega

end Dgr
end Go.Proofs.Ytmdleoadodcljaa

namespace Go.Proofs.Ytmdleoadodcljaa
namespace Dgr
set_option linter.unusedVariables false

theorem dist_rev {es : Edges} {v w d : Nat} : Dist (rev es) v w d ↔ Dist es w v d := by
  unfold Dist
  rw [walk_rev]
  exact and_congr_right fun _ => forall_congr' fun e => forall_congr' fun _ => not_congr walk_rev
/-- The numbers are the distances to v. -/
theorem DistF.to {n : Nat} {es : Edges} {v : Nat} {f : Nat → Int} (h : DistF n (rev es) v f) {w : Nat} (hw : w < n) : (∃ k : Nat, f w = k ∧ Dist es w v k) ∨ (f w = -1 ∧ ¬ Rch es w v) := by
  rcases h w hw with ⟨k, h1, h2⟩ | ⟨h1, h2⟩
  · exact .inl ⟨k, h1, dist_rev.1 h2⟩
  · exact .inr ⟨h1, fun hr => h2 (rch_rev.2 hr)⟩
theorem DistF.eq {n : Nat} {es : Edges} {v : Nat} {f : Nat → Int} (h : DistF n (rev es) v f) {w d : Nat} (hw : w < n) (hd : Dist es w v d) : f w = d := by
  rcases h.to hw with ⟨k, h1, h2⟩ | ⟨_, h2⟩
  · rw [h1, h2.unique hd]
  · exact absurd hd.1.rch h2
/-- A nearest successor of u. -/
structure Next (es : Edges) (v u x d : Nat) : Prop where
  edge : (u, x) ∈ es
  dist : Dist es x v d
  best : ∀ y e, (u, y) ∈ es → Dist es y v e → d < e ∨ (d = e ∧ x ≤ y)
/-- From a node that is not v and leads to it, a step nearer. -/
theorem Next.of_dist {es : Edges} {v u x d k : Nat} (h : Next es v u x d) (hu : Dist es u v (k + 1)) : d = k := by
  obtain ⟨y, hy, hw⟩ := Walk.uncons hu.1
  have hy2 : Dist es y v k := ⟨hw, fun e he hwe => hu.2 (e + 1) (by omega) (Walk.cons hy hwe)⟩
  have h1 := h.best y k hy hy2
  have h2 : ¬ d < k := fun hlt => hu.2 (d + 1) (by omega) (Walk.cons h.edge h.dist.1)
  omega
/-- The list of the steps so far. -/
structure Trail (es : Edges) (v L : Nat) (l : List Nat) : Prop where
  head : l[0]? = some v
  step : ∀ (k a b : Nat), l[k]? = some a → l[k + 1]? = some b → (a, b) ∈ es ∧ Dist es b v (L - (k + 1)) ∧ ∀ w, (a, w) ∈ es → Dist es w v (L - (k + 1)) → b ≤ w
theorem Trail.one (es : Edges) (v L : Nat) : Trail es v L [v] := ⟨rfl, fun k a b h1 h2 => by simp at h2⟩
theorem Trail.snoc {es : Edges} {v L u x d : Nat} {l : List Nat} (h : Trail es v L (l ++ [u])) (hn : Next es v u x d) (hd : d + (l.length + 1) = L) : Trail es v L (l ++ [u] ++ [x]) := by
  refine ⟨by rw [List.getElem?_append_left (by simp)]; exact h.head, fun k a b ha hb => ?_⟩
  have hk : k + 1 < (l ++ [u] ++ [x]).length := (List.getElem?_eq_some_iff.1 hb).1
  simp only [List.length_append, List.length_cons, List.length_nil] at hk
  by_cases hkl : k + 1 < (l ++ [u]).length
  · rw [List.getElem?_append_left hkl] at hb
    rw [List.getElem?_append_left (by omega)] at ha
    exact h.step k a b ha hb
  · simp only [List.length_append, List.length_cons, List.length_nil] at hkl
    obtain rfl : k = l.length := by omega
    rw [List.getElem?_append_left (by simp), List.getElem?_append_right (Nat.le_refl _), Nat.sub_self, List.getElem?_cons_zero] at ha
    rw [List.getElem?_append_right (by simp)] at hb
    simp only [List.length_append, List.length_cons, List.length_nil, Nat.sub_self, List.getElem?_cons_zero, Option.some.injEq] at hb
    cases ha
    subst hb
    obtain rfl : d = L - (l.length + 1) := by omega
    refine ⟨hn.edge, hn.dist, fun w hw hdw => ?_⟩
    have := hn.best w _ hw hdw
    omega
theorem Trail.greedy {es : Edges} {v L u : Nat} {l : List Nat} (h : Trail es v L (l ++ [u])) (hl : l.length = L) (hL : 0 < L) : Greedy es v L l := by
  refine ⟨hl, ?_, fun k a b hk ha hb => ?_⟩
  · have := h.head
    rwa [List.getElem?_append_left (by omega)] at this
  · exact h.step k a b (by rw [List.getElem?_append_left (by omega)]; exact ha) (by rw [List.getElem?_append_left (by omega)]; exact hb)
/-- What the walk from v finds: no cycle through v; or the least of the shortest ones. -/
def Found (es : Edges) (v : Nat) : Option (List Nat) → Prop
  | none => ∀ d, ¬ Walk es (d + 1) v v
  | some l => ∃ d, Greedy es v (d + 1) l ∧ Walk es (d + 1) v v ∧ ∀ e, e < d → ¬ Walk es (e + 1) v v
theorem found_none {es : Edges} {v : Nat} (h : ∀ w, (v, w) ∈ es → ¬ Rch es w v) : Found es v none := fun d hw => by
  obtain ⟨y, hy, hw'⟩ := Walk.uncons hw
  exact h y hy hw'.rch
theorem found_some {es : Edges} {v x d : Nat} {l : List Nat} (hn : Next es v v x d) (hg : Greedy es v (d + 1) l) : Found es v (some l) :=
  ⟨d, hg, Walk.cons hn.edge hn.dist.1, fun e he hw => by
    obtain ⟨y, hy, hw'⟩ := Walk.uncons hw
    obtain ⟨e', h1, h2⟩ := dist_of_walk hw'
    have := hn.best y e' hy h2
    omega⟩
theorem Found.length {es : Edges} {v : Nat} {l : List Nat} (h : Found es v (some l)) : 0 < l.length := by
  obtain ⟨d, hg, _⟩ := h
  rw [hg.len]; omega
/-- The best of the nodes below k. -/
structure Best (es : Edges) (k : Nat) (b : Option (List Nat)) : Prop where
  none_ : b = none → ∀ v, v < k → ∀ d, ¬ Walk es (d + 1) v v
  some_ : ∀ l, b = some l → ∃ first d, first < k ∧ Greedy es first (d + 1) l ∧ Walk es (d + 1) first first ∧ (∀ v e, v < k → e < d → ¬ Walk es (e + 1) v v) ∧ ∀ v, v < first → ¬ Walk es (d + 1) v v
theorem Best.start (es : Edges) : Best es 0 none := ⟨fun _ v hv => by omega, fun l h => (by cases h)⟩
theorem Best.skip {es : Edges} {k : Nat} {b : Option (List Nat)} (h : Best es k b) (hf : Found es k none) : Best es (k + 1) b := by
  refine ⟨fun hb v hv d => ?_, fun l hl => ?_⟩
  · by_cases hvk : v = k
    · subst hvk; exact hf d
    · exact h.none_ hb v (by omega) d
  · obtain ⟨first, d, h1, h2, h3, h4, h5⟩ := h.some_ l hl
    refine ⟨first, d, by omega, h2, h3, fun v e hv he => ?_, h5⟩
    by_cases hvk : v = k
    · subst hvk; exact hf e
    · exact h4 v e (by omega) he
theorem Best.first {es : Edges} {k : Nat} (h : Best es k none) {l : List Nat} (hf : Found es k (some l)) : Best es (k + 1) (some l) := by
  obtain ⟨d, h1, h2, h3⟩ := hf
  refine ⟨fun hb => (by cases hb), fun m hm => ?_⟩
  cases hm
  refine ⟨k, d, by omega, h1, h2, fun v e hv he => ?_, fun v hv => h.none_ rfl v hv d⟩
  by_cases hvk : v = k
  · subst hvk; exact h3 e he
  · exact h.none_ rfl v (by omega) e
theorem Best.better {es : Edges} {k : Nat} {m l : List Nat} (h : Best es k (some m)) (hf : Found es k (some l)) (hlt : l.length < m.length) : Best es (k + 1) (some l) := by
  obtain ⟨d, h1, h2, h3⟩ := hf
  obtain ⟨first, d', g1, g2, g3, g4, g5⟩ := h.some_ m rfl
  have e1 := h1.len
  have e2 := g2.len
  refine ⟨fun hb => (by cases hb), fun x hx => ?_⟩
  cases hx
  refine ⟨k, d, by omega, h1, h2, fun v e hv he => ?_, fun v hv => g4 v d hv (by omega)⟩
  by_cases hvk : v = k
  · subst hvk; exact h3 e he
  · exact g4 v e (by omega) (by omega)
theorem Best.keep {es : Edges} {k : Nat} {m l : List Nat} (h : Best es k (some m)) (hf : Found es k (some l)) (hge : ¬ l.length < m.length) : Best es (k + 1) (some m) := by
  obtain ⟨d, h1, h2, h3⟩ := hf
  obtain ⟨first, d', g1, g2, g3, g4, g5⟩ := h.some_ m rfl
  have e1 := h1.len
  have e2 := g2.len
  refine ⟨fun hb => (by cases hb), fun x hx => ?_⟩
  cases hx
  refine ⟨first, d', by omega, g2, g3, fun v e hv he => ?_, g5⟩
  by_cases hvk : v = k
  · subst hvk; exact h3 e (by omega)
  · exact g4 v e (by omega) he
/-- What Cycle finds. -/
def CycIs (es : Edges) : Option (List Nat) → Prop
  | none => Acyclic es
  | some l => IsLeast es l
theorem Best.done {n : Nat} {es : Edges} (ok : Ok n es) {b : Option (List Nat)} (h : Best es n b) : CycIs es b := by
  have out : ∀ {v d : Nat}, Walk es (d + 1) v v → v < n := fun {v d} hw => (Way.lt ok hw.way).1
  cases b with
  | none =>
    intro v hw
    obtain ⟨d, hd⟩ := hw.walk
    exact h.none_ rfl v (out hd) d hd
  | some l =>
    obtain ⟨first, d, h1, h2, h3, h4, h5⟩ := h.some_ l rfl
    exact greedy_least h2 h3 (fun e u he hw => h4 u e (out hw) he hw) h5
theorem CycIs.unique {es : Edges} {b c : Option (List Nat)} (h : CycIs es b) (h' : CycIs es c) : b = c := by
  cases b with
  | none =>
    cases c with
    | none => rfl
    | some l => exact absurd h (cyc_iff.1 ⟨l, IsLeast.cyc h'⟩)
  | some l =>
    cases c with
    | none => exact absurd h' (cyc_iff.1 ⟨l, IsLeast.cyc h⟩)
    | some m => rw [IsLeast.unique h h']

end Dgr
end Go.Proofs.Ytmdleoadodcljaa

namespace Go.Proofs.Ytmdleoadodcljaa
namespace Dgr
set_option linter.unusedVariables false

def succs (es : Edges) (u : Nat) : List Nat := (es.filter fun e => e.1 == u).map (·.2)
theorem mem_succs {es : Edges} {u w : Nat} : w ∈ succs es u ↔ (u, w) ∈ es := by
  simp only [succs, List.mem_map, List.mem_filter, beq_iff_eq]
  constructor
  · rintro ⟨⟨a, b⟩, ⟨h1, h2⟩, h3⟩
    simp only at h2 h3
    subst h2 h3
    exact h1
  · exact fun h => ⟨(u, w), ⟨h, rfl⟩, rfl⟩
theorem succs_snoc (es : Edges) (a b u : Nat) : succs (es ++ [(a, b)]) u = if a = u then succs es u ++ [b] else succs es u := by
  unfold succs
  by_cases h : a = u
  · simp [List.filter_append, h]
  · simp [List.filter_append, h]
theorem succs_len (es : Edges) (u : Nat) : (succs es u).length ≤ es.length := by
  unfold succs
  rw [List.length_map]
  exact List.length_filter_le _ _
/-- How many edges lead to v from nodes that are not listed. -/
def cnt : Edges → List Nat → Nat → Nat
  | [], _, _ => 0
  | e :: es, acc, v => cnt es acc v + if e.2 = v ∧ e.1 ∉ acc then 1 else 0
theorem cnt_append (es fs : Edges) (acc : List Nat) (v : Nat) : cnt (es ++ fs) acc v = cnt es acc v + cnt fs acc v := by
  induction es with
  | nil => simp [cnt]
  | cons e es ih => simp only [List.cons_append, cnt, ih]; omega
theorem cnt_snoc (es : Edges) (a b v : Nat) : cnt (es ++ [(a, b)]) [] v = cnt es [] v + if b = v then 1 else 0 := by
  rw [cnt_append]
  simp [cnt]
theorem cnt_le (es : Edges) (acc : List Nat) (v : Nat) : cnt es acc v ≤ es.length := by
  induction es with
  | nil => simp [cnt]
  | cons e es ih => simp only [cnt, List.length_cons]; split <;> omega
theorem cnt_zero {es : Edges} {acc : List Nat} {v : Nat} : cnt es acc v = 0 ↔ ∀ u, (u, v) ∈ es → u ∈ acc := by
  induction es with
  | nil => simp [cnt]
  | cons e es ih =>
    obtain ⟨a, b⟩ := e
    simp only [cnt, List.mem_cons, Prod.mk.injEq]
    constructor
    · intro h u hu
      have h1 : cnt es acc v = 0 := by omega
      rcases hu with ⟨rfl, rfl⟩ | hu
      · by_cases hm : u ∈ acc
        · exact hm
        · rw [if_pos ⟨rfl, hm⟩] at h; omega
      · exact ih.1 h1 u hu
    · intro h
      have h1 := ih.2 (fun u hu => h u (.inr hu))
      rw [h1]
      split
      · rename_i hc
        exact absurd (h a (.inl ⟨rfl, hc.1.symm⟩)) hc.2
      · rfl
theorem cnt_take {acc : List Nat} {v w : Nat} (hv : v ∉ acc) : ∀ es : Edges, cnt es acc w = cnt es (acc ++ [v]) w + (succs es v).count w
  | [] => by simp [cnt, succs]
  | (a, b) :: es => by
    have ih := cnt_take (w := w) hv es
    have e : succs ((a, b) :: es) v = if a = v then b :: succs es v else succs es v := by
      unfold succs
      by_cases h : a = v
      · simp [h]
      · simp [h]
    rw [e]
    simp only [cnt, List.mem_append, List.mem_singleton, not_or]
    by_cases hav : a = v
    · subst hav
      rw [if_pos rfl, List.count_cons]
      by_cases hbw : b = w
      · subst hbw
        simp [hv]; omega
      · simp [hbw]; omega
    · rw [if_neg hav]
      by_cases hbw : b = w
      · subst hbw
        by_cases haa : a ∈ acc
        · simp [haa]; omega
        · simp [haa, hav]; omega
      · simp [hbw]; omega
/-- The numbers of missing predecessors; -1 for those that are listed. -/
def Miss (n : Nat) (es : Edges) (acc : List Nat) (m : Nat → Int) : Prop := ∀ v, v < n → (v ∈ acc → m v = -1) ∧ (v ∉ acc → m v = cnt es acc v)
theorem Miss.free {n : Nat} {es : Edges} {acc : List Nat} {m : Nat → Int} (h : Miss n es acc m) {v : Nat} (hv : v < n) : (m v == 0) = freeB es acc v := by
  rw [Bool.eq_iff_iff, freeB_iff, beq_iff_eq]
  by_cases hm : v ∈ acc
  · have := (h v hv).1 hm
    exact ⟨fun h0 => by omega, fun h0 => absurd hm h0.1⟩
  · have := (h v hv).2 hm
    rw [this]
    exact ⟨fun h0 => ⟨hm, cnt_zero.1 (by omega)⟩, fun h0 => by rw [cnt_zero.2 h0.2]; rfl⟩
theorem find_congr {α : Type} {p q : α → Bool} : ∀ {l : List α}, (∀ x ∈ l, p x = q x) → l.find? p = l.find? q
  | [], _ => rfl
  | a :: l, h => by
    rw [List.find?_cons, List.find?_cons, h a (by simp), find_congr (fun x hx => h x (by simp [hx]))]
theorem Miss.next {n : Nat} {es : Edges} {acc : List Nat} {m : Nat → Int} (h : Miss n es acc m) : (List.range n).find? (fun v => m v == 0) = nextFree n es acc :=
  find_congr fun v hv => h.free (List.mem_range.1 hv)
/-- .. while those behind v are counted down: k of them have been. -/
def MissIn (n : Nat) (es : Edges) (acc : List Nat) (v k : Nat) (m : Nat → Int) : Prop := ∀ w, w < n → (w ∈ acc ++ [v] → m w = -1) ∧ (w ∉ acc ++ [v] → m w = (cnt es acc w : Int) - ((succs es v).take k).count w)
theorem Miss.take {n : Nat} {es : Edges} {acc : List Nat} {m g : Nat → Int} (h : Miss n es acc m) {v : Nat} (hg : g v = -1) (hg' : ∀ w, w ≠ v → g w = m w) : MissIn n es acc v 0 g := fun w hw => by
  refine ⟨fun hm => ?_, fun hm => ?_⟩
  · by_cases hwv : w = v
    · subst hwv; exact hg
    · rw [hg' w hwv]
      rcases List.mem_append.1 hm with hm | hm
      · exact (h w hw).1 hm
      · exact absurd (by simpa using hm) hwv
  · simp only [List.mem_append, List.mem_singleton, not_or] at hm
    rw [hg' w hm.2, (h w hw).2 hm.1]
    simp
/-- No successor of a node that is free is listed. -/
theorem free_succ {n : Nat} {es : Edges} {acc : List Nat} (ho : Ord n es acc) {v : Nat} (hv : freeB es acc v = true) {x : Nat} (hx : (v, x) ∈ es) : x ∉ acc ++ [v] := fun hm => by
  obtain ⟨h1, h2⟩ := freeB_iff.1 hv
  rcases List.mem_append.1 hm with hm | hm
  · obtain ⟨i, hi, e⟩ := List.getElem_of_mem hm
    have := ho.pred i x v (by rw [List.getElem?_eq_getElem hi, e]) hx
    exact h1 (List.mem_of_mem_take this)
  · obtain rfl : x = v := by simpa using hm
    exact h1 (h2 x hx)
theorem MissIn.step {n : Nat} {es : Edges} {acc : List Nat} (ho : Ord n es acc) {v k x : Nat} {m g : Nat → Int} (h : MissIn n es acc v k m) (hv : freeB es acc v = true) (hx : (succs es v)[k]? = some x) (hg : g x = m x - 1) (hg' : ∀ w, w ≠ x → g w = m w) : MissIn n es acc v (k + 1) g := fun w hw => by
  have hxl := free_succ ho hv (mem_succs.1 (List.mem_of_getElem? hx))
  have ht : (succs es v).take (k + 1) = (succs es v).take k ++ [x] := by rw [List.take_add_one, hx]; rfl
  refine ⟨fun hm => ?_, fun hm => ?_⟩
  · rw [hg' w (fun e => hxl (e ▸ hm))]; exact (h w hw).1 hm
  · rw [ht, List.count_append]
    have h1 := (h w hw).2 hm
    by_cases hwx : w = x
    · subst hwx
      rw [hg, h1]
      simp; omega
    · rw [hg' w hwx, h1]
      rw [List.count_cons]
      have : (x == w) = false := by simpa using Ne.symm hwx
      simp [this]
theorem MissIn.done {n : Nat} {es : Edges} {acc : List Nat} {v k : Nat} {m : Nat → Int} (h : MissIn n es acc v k m) (hv : v ∉ acc) (hk : (succs es v).length ≤ k) : Miss n es (acc ++ [v]) m := fun w hw => by
  refine ⟨(h w hw).1, fun hm => ?_⟩
  rw [(h w hw).2 hm, List.take_of_length_le hk, cnt_take (w := w) hv es]
  omega
theorem MissIn.bound {n : Nat} {es : Edges} {acc : List Nat} {v k : Nat} {m : Nat → Int} (h : MissIn n es acc v k m) {w : Nat} (hw : w < n) : -1 - (es.length : Int) ≤ m w ∧ m w ≤ es.length := by
  by_cases hm : w ∈ acc ++ [v]
  · have := (h w hw).1 hm
    omega
  · have h1 := (h w hw).2 hm
    have h2 := cnt_le es acc w
    have h3 : ((succs es v).take k).count w ≤ es.length := Nat.le_trans List.count_le_length (by rw [List.length_take]; have := succs_len es v; omega)
    omega
/-- What the rounds have left to do. -/
structure OrdTo (n : Nat) (es : Edges) (acc : List Nat) : Prop where
  ord : Ord n es acc
  le : acc.length ≤ n
  rest : orderF n es = orderGo n es (n - acc.length) acc
theorem OrdTo.start (n : Nat) (es : Edges) : OrdTo n es [] := ⟨.nil n es, Nat.zero_le _, rfl⟩
theorem OrdTo.next {n : Nat} {es : Edges} {acc : List Nat} (h : OrdTo n es acc) (hlt : acc.length < n) {v : Nat} (hv : nextFree n es acc = some v) : OrdTo n es (acc ++ [v]) := by
  refine ⟨h.ord.snoc hv, by simp; omega, ?_⟩
  rw [h.rest, show n - acc.length = (n - (acc ++ [v]).length) + 1 by simp; omega]
  simp only [orderGo, hv, Option.bind_some]
theorem OrdTo.stop {n : Nat} {es : Edges} {acc : List Nat} (h : OrdTo n es acc) (hlt : acc.length < n) (hv : nextFree n es acc = none) : orderF n es = none := by
  rw [h.rest, show n - acc.length = (n - acc.length - 1) + 1 by omega]
  simp only [orderGo, hv, Option.bind_none]
theorem OrdTo.done {n : Nat} {es : Edges} {acc : List Nat} (h : OrdTo n es acc) (hn : ¬ acc.length < n) : orderF n es = some acc := by
  rw [h.rest, show n - acc.length = 0 by omega]
  rfl

/-- Depths handed on: those of the first i nodes of the order have reached their successors. -/
structure Push (n : Nat) (es : Edges) (l : List Nat) (i : Nat) (f : Nat → Nat) : Prop where
  le : ∀ j u v, j < i → l[j]? = some u → (u, v) ∈ es → f u + 1 ≤ f v
  from_ : ∀ v, v < n → f v = 0 ∨ ∃ j u, j < i ∧ l[j]? = some u ∧ (u, v) ∈ es ∧ f v = f u + 1
/-- .. and from the next one to those in 'don'. -/
structure PushIn (n : Nat) (es : Edges) (l : List Nat) (i x : Nat) (don : List Nat) (f : Nat → Nat) : Prop where
  le : ∀ j u v, j < i → l[j]? = some u → (u, v) ∈ es → f u + 1 ≤ f v
  cur : ∀ v ∈ don, f x + 1 ≤ f v
  from_ : ∀ v, v < n → f v = 0 ∨ (∃ j u, j < i ∧ l[j]? = some u ∧ (u, v) ∈ es ∧ f v = f u + 1) ∨ ((x, v) ∈ es ∧ f v = f x + 1)
theorem Push.start (n : Nat) (es : Edges) (l : List Nat) {f : Nat → Nat} (h : ∀ v, v < n → f v = 0) : Push n es l 0 f := ⟨fun j u v hj => by omega, fun v hv => .inl (h v hv)⟩
theorem Push.into {n : Nat} {es : Edges} {l : List Nat} {i x : Nat} {f : Nat → Nat} (h : Push n es l i f) : PushIn n es l i x [] f := ⟨h.le, fun v hv => (by cases hv), fun v hv => (h.from_ v hv).imp id .inl⟩
theorem PushIn.step {n : Nat} {es : Edges} {l : List Nat} (ho : IsTopo n es l) {i x y : Nat} {don : List Nat} {f g : Nat → Nat} (h : PushIn n es l i x don f) (hx : l[i]? = some x) (he : (x, y) ∈ es) (hyn : y < n) (hg : g y = max (f y) (f x + 1)) (hg' : ∀ w, w ≠ y → g w = f w) : PushIn n es l i x (don ++ [y]) g := by
  have far : ∀ j u, j ≤ i → l[j]? = some u → u ≠ y := fun j u hj hu e => by
    subst e
    have := ho.edge i j x u hx hu he
    omega
  have hxy : x ≠ y := far i x (Nat.le_refl _) hx
  have mono : ∀ v, f v ≤ g v := fun v => by
    by_cases hv : v = y
    · subst hv; rw [hg]; omega
    · rw [hg' v hv]; exact Nat.le_refl _
  refine ⟨fun j u v hj hu huv => ?_, fun v hv => ?_, fun v hv => ?_⟩
  · rw [hg' u (far j u (by omega) hu)]
    exact Nat.le_trans (h.le j u v hj hu huv) (mono v)
  · rw [hg' x hxy]
    rcases List.mem_append.1 hv with hv | hv
    · exact Nat.le_trans (h.cur v hv) (mono v)
    · obtain rfl : v = y := by simpa using hv
      rw [hg]; omega
  · by_cases hvy : v = y
    · subst hvy
      rw [hg, hg' x hxy]
      by_cases hc : f v ≤ f x + 1
      · exact .inr (.inr ⟨he, by omega⟩)
      · rcases h.from_ v hv with h0 | ⟨j, u, hj, hu, huv, e⟩ | ⟨_, e⟩
        · omega
        · refine .inr (.inl ⟨j, u, hj, hu, huv, ?_⟩)
          rw [hg' u (far j u (by omega) hu)]
          omega
        · omega
    · rw [hg' v hvy]
      rcases h.from_ v hv with h0 | ⟨j, u, hj, hu, huv, e⟩ | ⟨h1, e⟩
      · exact .inl h0
      · exact .inr (.inl ⟨j, u, hj, hu, huv, by rw [hg' u (far j u (by omega) hu)]; exact e⟩)
      · exact .inr (.inr ⟨h1, by rw [hg' x hxy]; exact e⟩)
theorem PushIn.done {n : Nat} {es : Edges} {l : List Nat} {i x : Nat} {don : List Nat} {f : Nat → Nat} (h : PushIn n es l i x don f) (hx : l[i]? = some x) (hd : ∀ v, (x, v) ∈ es → v ∈ don) : Push n es l (i + 1) f := by
  refine ⟨fun j u v hj hu huv => ?_, fun v hv => ?_⟩
  · by_cases hji : j = i
    · subst hji
      rw [hx] at hu
      cases hu
      exact h.cur v (hd v huv)
    · exact h.le j u v (by omega) hu huv
  · rcases h.from_ v hv with h0 | ⟨j, u, hj, hu, huv, e⟩ | ⟨h1, e⟩
    · exact .inl h0
    · exact .inr ⟨j, u, by omega, hu, huv, e⟩
    · exact .inr ⟨i, x, by omega, hx, h1, e⟩
theorem Push.depth {n : Nat} {es : Edges} {l : List Nat} (ho : IsTopo n es l) (ok : Ok n es) {f : Nat → Nat} (h : Push n es l n f) : IsDepth n es f := by
  refine ⟨fun u v huv => ?_, fun v hv => ?_⟩
  · have hu : u < n := (ok _ huv).1
    obtain ⟨j, hj, e⟩ := List.getElem_of_mem (nodup_all ho.nodup ho.lt ho.len hu)
    exact h.le j u v (by rw [← ho.len]; exact hj) (by rw [List.getElem?_eq_getElem hj, e]) huv
  · rcases h.from_ v hv with h0 | ⟨j, u, _, _, huv, e⟩
    · exact .inl h0
    · exact .inr ⟨u, huv, e⟩
/-- No depth is greater than the number of nodes ahead. -/
theorem PushIn.bound {n : Nat} {es : Edges} {l : List Nat} (ho : IsTopo n es l) (ok : Ok n es) {i x : Nat} {don : List Nat} {f : Nat → Nat} (h : PushIn n es l i x don f) (hx : l[i]? = some x) : ∀ (j v : Nat), l[j]? = some v → f v ≤ j := by
  intro j
  induction j using Nat.strongRecOn with
  | _ j ih =>
    intro v hv
    have hvn : v < n := ho.lt v (List.mem_of_getElem? hv)
    rcases h.from_ v hvn with h0 | ⟨k, u, hk, hu, huv, e⟩ | ⟨h1, e⟩
    · omega
    · have h2 := ho.edge k j u v hu hv huv
      have := ih k h2 u hu
      omega
    · have h2 := ho.edge i j x v hx hv h1
      have := ih i h2 x hx
      omega

end Dgr
end Go.Proofs.Ytmdleoadodcljaa

namespace Go.Proofs.Ytmdleoadodcljaa
namespace Dgr
set_option linter.unusedVariables false

def walkB (es : Edges) : Nat → Nat → Nat → Bool
  | 0, v, w => v == w
  | d + 1, v, w => es.any fun e => e.2 == w && walkB es d v e.1
theorem walkB_iff {es : Edges} : ∀ {d v w : Nat}, walkB es d v w = true ↔ Walk es d v w
  | 0, v, w => by simp [walkB, Walk]
  | d + 1, v, w => by
    simp only [walkB, Walk, List.any_eq_true, Bool.and_eq_true, beq_iff_eq, walkB_iff]
    constructor
    · rintro ⟨⟨a, b⟩, h1, h2, h3⟩
      simp only at h2 h3
      subst h2
      exact ⟨a, h3, h1⟩
    · rintro ⟨u, h1, h2⟩
      exact ⟨(u, w), h2, rfl, h1⟩
theorem not_walk {es : Edges} {d v w : Nat} (h : walkB es d v w = false) : ¬ Walk es d v w := fun hw => by rw [walkB_iff.2 hw] at h; cases h
def rchB (n : Nat) (es : Edges) (v w : Nat) : Bool := (List.range n).any fun d => walkB es d v w
theorem rchB_iff {n : Nat} {es : Edges} (ok : Ok n es) {v w : Nat} (hv : v < n) : rchB n es v w = true ↔ Rch es v w := by
  simp only [rchB, List.any_eq_true, List.mem_range, walkB_iff]
  constructor
  · rintro ⟨d, _, hw⟩
    exact hw.rch
  · intro hr
    obtain ⟨k, hk⟩ := hr.walk
    obtain ⟨e, _, hd⟩ := dist_of_walk hk
    exact ⟨e, hd.lt ok hv, hd.1⟩
theorem those_eq {n : Nat} {p : Nat → Prop} {q : Nat → Bool} (h : ∀ w, w < n → (q w = true ↔ p w)) : those n p = (List.range n).filter q := by
  refine (those_of (List.Pairwise.filter _ List.pairwise_lt_range) fun x => ?_).symm
  rw [List.mem_filter, List.mem_range]
  exact and_congr_right fun hx => h x hx
theorem reach_eq {n : Nat} {es : Edges} (ok : Ok n es) {v : Nat} (hv : v < n) : reachL n es v = (List.range n).filter (rchB n es v) := those_eq fun w _ => rchB_iff ok hv
def bothB (n : Nat) (es : Edges) (v w : Nat) : Bool := rchB n es v w && rchB n es w v
theorem bothB_iff {n : Nat} {es : Edges} (ok : Ok n es) {v w : Nat} (hv : v < n) (hw : w < n) : bothB n es v w = true ↔ Both es v w := by
  rw [bothB, Bool.and_eq_true, rchB_iff ok hv, rchB_iff ok hw]
  exact Iff.rfl
theorem comp_eq {n : Nat} {es : Edges} (ok : Ok n es) : compL n es = ((List.range n).filter fun v => (List.range v).all fun u => !bothB n es v u).map fun v => (List.range n).filter (bothB n es v) := by
  unfold compL
  rw [those_eq (q := fun v => (List.range v).all fun u => !bothB n es v u) fun v hv => ?_]
  · refine List.map_congr_left fun v hv => ?_
    have hvn := List.mem_range.1 (List.mem_filter.1 hv).1
    exact those_eq fun w hw => bothB_iff ok hvn hw
  · simp only [List.all_eq_true, List.mem_range, Bool.not_eq_true']
    refine forall_congr' fun u => forall_congr' fun hu => ?_
    rw [← bothB_iff ok hv (by omega), Bool.eq_false_iff]
/-- A shortest cycle by its steps. -/
theorem least_of {n : Nat} {es : Edges} (ok : Ok n es) {first d : Nat} {l : List Nat} (hl : l.length = d + 1) (h0 : l[0]? = some first)
    (hstep : ((List.range d).all fun k => match l[k]?, l[k + 1]? with
      | some a, some b => es.contains (a, b) && walkB es (d - k) b first && (List.range (d - k)).all (fun e => !walkB es e b first) && es.all (fun e => e.1 != a || !walkB es (d - k) e.2 first || decide (b ≤ e.2))
      | _, _ => false) = true)
    (hw : walkB es (d + 1) first first = true) (hmin : ((List.range d).all fun e => (List.range n).all fun u => !walkB es (e + 1) u u) = true) (hfirst : ((List.range first).all fun v => !walkB es (d + 1) v v) = true) : IsLeast es l := by
  refine greedy_least ⟨hl, h0, fun k a b hk ha hb => ?_⟩ (walkB_iff.1 hw) (fun e u he hwk => ?_) (fun v hv hwk => ?_)
  · have h1 := List.all_eq_true.1 hstep k (List.mem_range.2 (by omega))
    rw [ha, hb] at h1
    simp only [Bool.and_eq_true, List.contains_iff_mem, List.all_eq_true, List.mem_range, Bool.or_eq_true, bne_iff_ne, Bool.not_eq_true', decide_eq_true_eq] at h1
    obtain ⟨⟨⟨h2, h3⟩, h4⟩, h5⟩ := h1
    rw [show d + 1 - (k + 1) = d - k by omega]
    refine ⟨h2, ⟨walkB_iff.1 h3, fun e he => not_walk (h4 e he)⟩, fun w hw hdw => ?_⟩
    rcases h5 (a, w) hw with (h6 | h6) | h6
    · exact absurd rfl h6
    · exact absurd hdw.1 (not_walk h6)
    · exact h6
  · have hu : u < n := (Way.lt ok hwk.way).1
    have := List.all_eq_true.1 (List.all_eq_true.1 hmin e (List.mem_range.2 he)) u (List.mem_range.2 hu)
    exact not_walk (by simpa using this) hwk
  · have := List.all_eq_true.1 hfirst v (List.mem_range.2 hv)
    exact not_walk (by simpa using this) hwk
/-- Depths by their equations. -/
theorem depth_of {n : Nat} {es : Edges} {f : Nat → Nat} (h1 : (es.all fun e => decide (f e.1 + 1 ≤ f e.2)) = true) (h2 : ((List.range n).all fun v => f v == 0 || es.any fun e => e.2 == v && f v == f e.1 + 1) = true) : IsDepth n es f := by
  refine ⟨fun u v he => ?_, fun v hv => ?_⟩
  · simpa using List.all_eq_true.1 h1 (u, v) he
  · have := List.all_eq_true.1 h2 v (List.mem_range.2 hv)
    simp only [Bool.or_eq_true, beq_iff_eq, List.any_eq_true, Bool.and_eq_true] at this
    rcases this with h | ⟨⟨a, b⟩, h3, h4, h5⟩
    · exact .inl h
    · simp only at h4 h5
      subst h4
      exact .inr ⟨a, h3, h5⟩
/-- A list that is an order. -/
theorem topo_of {n : Nat} {es : Edges} {l : List Nat} (hl : l.length = n) (hd : l.Nodup) (hlt : ∀ v ∈ l, v < n) (he : (es.all fun e => decide (l.idxOf e.1 < l.idxOf e.2)) = true) : IsTopo n es l := by
  refine ⟨hl, hd, hlt, fun i j v w hi hj hvw => ?_⟩
  have h1 : l.idxOf v < l.idxOf w := by simpa using List.all_eq_true.1 he (v, w) hvw
  have key : ∀ {i v : Nat}, l[i]? = some v → l.idxOf v = i := fun {i v} hi => by
    obtain ⟨hlt, e⟩ := List.getElem?_eq_some_iff.1 hi
    have := List.Nodup.idxOf_getElem hd i hlt
    rw [e] at this
    exact this
  rw [key hi, key hj] at h1
  exact h1

def ex0 : Edges := [(2, 0), (0, 3), (1, 3)]
def ex1 : Edges := ex0 ++ [(3, 2)]
def ex2 : Edges := ex0 ++ [(1, 1)]
theorem ex0_ok : Ok 4 ex0 := by unfold Ok; decide
theorem ex1_ok : Ok 4 ex1 := by unfold Ok; decide
theorem ex2_ok : Ok 4 ex2 := by unfold Ok; decide
theorem ex0_order : orderF 4 ex0 = some [1, 2, 0, 3] := by decide +kernel
theorem ex1_order : orderF 4 ex1 = none := by decide +kernel
theorem ex_order : orderF 0 [] = some [] := rfl
theorem ex0_reach : reachL 4 ex0 2 = [0, 2, 3] := by rw [reach_eq ex0_ok (by decide)]; decide +kernel
theorem ex1_comp : compL 4 ex1 = [[0, 2, 3], [1]] := by rw [comp_eq ex1_ok]; decide +kernel
theorem ex1_cycle : IsLeast ex1 [0, 3, 2] := least_of (n := 4) ex1_ok (first := 0) (d := 2) rfl rfl (by decide +kernel) (by decide +kernel) (by decide +kernel) (by decide +kernel)
theorem ex2_cycle : IsLeast ex2 [1] := least_of (n := 4) ex2_ok (first := 1) (d := 0) rfl rfl (by decide +kernel) (by decide +kernel) (by decide +kernel) (by decide +kernel)
theorem ex0_acyclic : Acyclic ex0 := orderF_acyclic ex0_ok ex0_order
def exF : Nat → Nat := fun v => if v = 0 then 1 else if v = 3 then 2 else 0
theorem ex0_depth : IsDepth 4 ex0 exF := depth_of (by decide +kernel) (by decide +kernel)
theorem ex0_topo : IsTopo 4 ex0 [2, 0, 1, 3] := topo_of rfl (by decide) (by decide) (by decide +kernel)
theorem ex0_not : ¬ IsTopo 4 ex0 [0, 1, 2, 3] := fun h => by
  have := h.edge 2 0 2 0 rfl rfl (by decide)
  omega

end Dgr
end Go.Proofs.Ytmdleoadodcljaa
