/- Distances found by a search in breadth: what holds of the queue and of the numbers. -/
import Derived.Test.YtmagfkpnlkhofaaZ8
namespace Go.Proofs.Ytmagfkpnlkhofaa
namespace Dgr
set_option linter.unusedVariables false

/-- How many nodes have no number yet. -/
def undis (f : Nat → Int) : Nat → Nat
  | 0 => 0
  | n + 1 => undis f n + if f n = -1 then 1 else 0
theorem undis_le (f : Nat → Int) : ∀ n, undis f n ≤ n
  | 0 => Nat.le_refl _
  | n + 1 => by have := undis_le f n; unfold undis; split <;> omega
theorem undis_up {f g : Nat → Int} {w : Nat} (h : f w = -1) (hg : g w ≠ -1) (hg' : ∀ v, v ≠ w → g v = f v) : ∀ n : Nat, undis f n = undis g n + if w < n then 1 else 0
  | 0 => by simp [undis]
  | n + 1 => by
    have ih := undis_up h hg hg' n
    unfold undis
    by_cases hw : w = n
    · subst hw
      simp only [Nat.lt_irrefl, if_false, Nat.add_zero] at ih
      simp [ih, h, hg]
    · rw [hg' n (Ne.symm hw), ih]
      by_cases hlt : w < n
      · simp only [hlt, if_true, show w < n + 1 from by omega]; omega
      · simp only [hlt, if_false, show ¬ w < n + 1 from by omega]; omega

/-- Every number is a distance. -/
def Nums (n : Nat) (es : Edges) (s : Nat) (f : Nat → Int) : Prop := ∀ v, v < n → f v = -1 ∨ ∃ k : Nat, f v = k ∧ Dist es s v k
/-- Between two nodes of the queue: q1 of distance d, q2 of distance d + 1. -/
structure Bfs (n : Nat) (es : Edges) (s d : Nat) (q1 q2 : List Nat) (f : Nat → Int) : Prop where
  val : Nums n es s f
  lev1 : ∀ v ∈ q1, v < n ∧ f v = d
  lev2 : ∀ v ∈ q2, v < n ∧ f v = (d + 1 : Nat)
  seen : ∀ v k, k ≤ d → Walk es k s v → f v ≠ -1
  shut : ∀ u, u < n → f u ≠ -1 → u ∉ q1 ++ q2 → ∀ w, (u, w) ∈ es → f w ≠ -1
/-- .. while the successors of v are met; those of 'done' have been. -/
structure BfsIn (n : Nat) (es : Edges) (s v d : Nat) (q1 q2 : List Nat) (f : Nat → Int) (don : List Nat) : Prop where
  vn : v < n
  fv : f v = d
  val : Nums n es s f
  lev1 : ∀ v ∈ q1, v < n ∧ f v = d
  lev2 : ∀ v ∈ q2, v < n ∧ f v = (d + 1 : Nat)
  seen : ∀ v k, k ≤ d → Walk es k s v → f v ≠ -1
  shut : ∀ u, u < n → f u ≠ -1 → u ∉ q1 ++ q2 → u ≠ v → ∀ w, (u, w) ∈ es → f w ≠ -1
  cur : ∀ w ∈ don, f w ≠ -1

theorem Bfs.start {n : Nat} {es : Edges} {s : Nat} (hs : s < n) {f : Nat → Int} (h0 : f s = 0) (h1 : ∀ v, v ≠ s → f v = -1) : Bfs n es s 0 [s] [] f := by
  refine ⟨fun v _ => ?_, fun v hv => ?_, fun v hv => (by cases hv), fun v k hk hw => ?_, fun u _ hu hq => ?_⟩
  · by_cases hv : v = s
    · subst hv
      exact .inr ⟨0, by simpa using h0, rfl, fun e he => by omega⟩
    · exact .inl (h1 v hv)
  · obtain rfl : v = s := by simpa using hv
    exact ⟨hs, by simpa using h0⟩
  · obtain rfl : k = 0 := by omega
    have : s = v := hw
    subst this
    omega
  · exfalso
    by_cases h : u = s
    · subst h; simp at hq
    · exact hu (h1 u h)
/-- The queue's first list is empty: one level further. -/
theorem Bfs.shift {n : Nat} {es : Edges} (ok : Ok n es) {s : Nat} (hs : s < n) {d : Nat} {q2 : List Nat} {f : Nat → Int} (h : Bfs n es s d [] q2 f) : Bfs n es s (d + 1) q2 [] f := by
  refine ⟨h.val, h.lev2, fun v hv => (by cases hv), fun v k hk hw => ?_, fun u hu hf hq => h.shut u hu hf (by simpa using hq)⟩
  by_cases hkd : k ≤ d
  · exact h.seen v k hkd hw
  · obtain rfl : k = d + 1 := by omega
    obtain ⟨u, hu, he⟩ := hw
    have hun : u < n := (ok _ he).1
    have hfu := h.seen u d (Nat.le_refl _) hu
    refine h.shut u hun hfu (fun hm => ?_) v he
    have hm' : u ∈ q2 := by simpa using hm
    have h2 := (h.lev2 u hm').2
    rcases h.val u hun with h3 | ⟨k, hk1, hk2⟩
    · exact hfu h3
    · have : k = d + 1 := by omega
      subst this
      exact hk2.2 d (by omega) hu
theorem Bfs.pop {n : Nat} {es : Edges} {s v d : Nat} {q1 q2 : List Nat} {f : Nat → Int} (h : Bfs n es s d (v :: q1) q2 f) : BfsIn n es s v d q1 q2 f [] := by
  have hv := h.lev1 v (by simp)
  refine ⟨hv.1, hv.2, h.val, fun u hu => h.lev1 u (by simp [hu]), h.lev2, h.seen, fun u hu hf hq hne => h.shut u hu hf ?_, fun w hw => (by cases hw)⟩
  simp only [List.cons_append, List.mem_cons, not_or]
  exact ⟨hne, hq⟩
theorem BfsIn.skip {n : Nat} {es : Edges} {s v d : Nat} {q1 q2 : List Nat} {f : Nat → Int} {don : List Nat} (h : BfsIn n es s v d q1 q2 f don) {w : Nat} (hw : f w ≠ -1) : BfsIn n es s v d q1 q2 f (don ++ [w]) :=
  ⟨h.vn, h.fv, h.val, h.lev1, h.lev2, h.seen, h.shut, fun x hx => by
    rcases List.mem_append.1 hx with hx | hx
    · exact h.cur x hx
    · obtain rfl : x = w := by simpa using hx
      exact hw⟩
theorem BfsIn.push {n : Nat} {es : Edges} {s v d : Nat} {q1 q2 : List Nat} {f g : Nat → Int} {don : List Nat} (h : BfsIn n es s v d q1 q2 f don) {w : Nat} (he : (v, w) ∈ es) (hwn : w < n) (hw : f w = -1) (hg : g w = (d + 1 : Nat)) (hg' : ∀ u, u ≠ w → g u = f u) :
    BfsIn n es s v d q1 (q2 ++ [w]) g (don ++ [w]) := by
  have hgw : g w ≠ -1 := by omega
  have mono : ∀ u, f u ≠ -1 → g u ≠ -1 := fun u hu => by
    by_cases huw : u = w
    · subst huw; exact hgw
    · rw [hg' u huw]; exact hu
  have ne_of : ∀ u, f u ≠ -1 → u ≠ w := fun u hu e => hu (e ▸ hw)
  have hvd : Dist es s v d := by
    rcases h.val v h.vn with h1 | ⟨k, h1, h2⟩
    · have := h.fv; omega
    · have : k = d := by have := h.fv; omega
      subst this; exact h2
  refine ⟨h.vn, ?_, fun u hu => ?_, fun u hu => ?_, fun u hu => ?_, fun u k hk hwk => mono u (h.seen u k hk hwk), fun u hu hf hq hne x hx => ?_, fun x hx => ?_⟩
  · rw [hg' v (ne_of v (by have := h.fv; omega))]; exact h.fv
  · by_cases huw : u = w
    · subst huw
      refine .inr ⟨d + 1, hg, ⟨v, hvd.1, he⟩, fun e hed hwe => ?_⟩
      exact h.seen u e (by omega) hwe hw
    · rw [hg' u huw]; exact h.val u hu
  · have := h.lev1 u hu
    rw [hg' u (ne_of u (by omega))]; exact this
  · rcases List.mem_append.1 hu with hu | hu
    · have := h.lev2 u hu
      rw [hg' u (ne_of u (by omega))]; exact this
    · obtain rfl : u = w := by simpa using hu
      exact ⟨hwn, hg⟩
  · simp only [List.mem_append, List.mem_singleton, not_or] at hq
    rw [hg' u hq.2.2] at hf
    exact mono x (h.shut u hu hf (by simp [hq.1, hq.2.1]) hne x hx)
  · rcases List.mem_append.1 hx with hx | hx
    · exact mono x (h.cur x hx)
    · obtain rfl : x = w := by simpa using hx
      exact hgw
theorem BfsIn.done {n : Nat} {es : Edges} {s v d : Nat} {q1 q2 : List Nat} {f : Nat → Int} {don : List Nat} (h : BfsIn n es s v d q1 q2 f don) (hl : ∀ w, (v, w) ∈ es → w ∈ don) : Bfs n es s d q1 q2 f :=
  ⟨h.val, h.lev1, h.lev2, h.seen, fun u hu hf hq w he => by
    by_cases huv : u = v
    · subst huv; exact h.cur w (hl w he)
    · exact h.shut u hu hf hq huv w he⟩

/-- Some split of the queue. -/
def BfsQ (n : Nat) (es : Edges) (s : Nat) (q : List Nat) (f : Nat → Int) : Prop := ∃ d q1 q2, q = q1 ++ q2 ∧ Bfs n es s d q1 q2 f
def BfsP (n : Nat) (es : Edges) (s v : Nat) (q : List Nat) (f : Nat → Int) (don : List Nat) : Prop := ∃ d q1 q2, q = q1 ++ q2 ∧ BfsIn n es s v d q1 q2 f don
theorem BfsQ.pop {n : Nat} {es : Edges} (ok : Ok n es) {s : Nat} (hs : s < n) {v : Nat} {q : List Nat} {f : Nat → Int} (h : BfsQ n es s (v :: q) f) : BfsP n es s v q f [] := by
  obtain ⟨d, q1, q2, hq, h⟩ := h
  cases q1 with
  | nil =>
    have hq' : q2 = v :: q := by simpa using hq.symm
    subst hq'
    exact ⟨d + 1, q, [], by simp, (h.shift ok hs).pop⟩
  | cons x q1 =>
    simp only [List.cons_append, List.cons.injEq] at hq
    obtain ⟨rfl, rfl⟩ := hq
    exact ⟨d, q1, q2, rfl, h.pop⟩
theorem BfsP.skip {n : Nat} {es : Edges} {s v : Nat} {q : List Nat} {f : Nat → Int} {don : List Nat} (h : BfsP n es s v q f don) {w : Nat} (hw : f w ≠ -1) : BfsP n es s v q f (don ++ [w]) := by
  obtain ⟨d, q1, q2, hq, h⟩ := h
  exact ⟨d, q1, q2, hq, h.skip hw⟩
theorem BfsP.push {n : Nat} {es : Edges} {s v : Nat} {q : List Nat} {f g : Nat → Int} {don : List Nat} (h : BfsP n es s v q f don) {w : Nat} (he : (v, w) ∈ es) (hwn : w < n) (hw : f w = -1) (hg : g w = f v + 1) (hg' : ∀ u, u ≠ w → g u = f u) : BfsP n es s v (q ++ [w]) g (don ++ [w]) := by
  obtain ⟨d, q1, q2, rfl, h⟩ := h
  exact ⟨d, q1, q2 ++ [w], by simp, h.push he hwn hw (by rw [hg, h.fv]; simp) hg'⟩
theorem BfsP.done {n : Nat} {es : Edges} {s v : Nat} {q : List Nat} {f : Nat → Int} {don : List Nat} (h : BfsP n es s v q f don) (hl : ∀ w, (v, w) ∈ es → w ∈ don) : BfsQ n es s q f := by
  obtain ⟨d, q1, q2, hq, h⟩ := h
  exact ⟨d, q1, q2, hq, h.done hl⟩
theorem BfsP.fv {n : Nat} {es : Edges} {s v : Nat} {q : List Nat} {f : Nat → Int} {don : List Nat} (h : BfsP n es s v q f don) : v < n ∧ f v ≠ -1 := by
  obtain ⟨d, q1, q2, hq, h⟩ := h
  exact ⟨h.vn, by have := h.fv; omega⟩
theorem BfsP.bound {n : Nat} {es : Edges} (ok : Ok n es) {s v : Nat} (hs : s < n) {q : List Nat} {f : Nat → Int} {don : List Nat} (h : BfsP n es s v q f don) : 0 ≤ f v ∧ f v < n := by
  obtain ⟨d, q1, q2, hq, h⟩ := h
  have h1 := h.fv
  rcases h.val v h.vn with h2 | ⟨k, h2, h3⟩
  · omega
  · have := h3.lt ok hs
    omega
theorem BfsQ.lt {n : Nat} {es : Edges} {s v : Nat} {q : List Nat} {f : Nat → Int} (h : BfsQ n es s (v :: q) f) : v < n := by
  obtain ⟨d, q1, q2, hq, h⟩ := h
  have : v ∈ q1 ++ q2 := by rw [← hq]; simp
  rcases List.mem_append.1 this with h1 | h1
  · exact (h.lev1 v h1).1
  · exact (h.lev2 v h1).1
/-- The numbers are the distances; -1 where no way leads. -/
def DistF (n : Nat) (es : Edges) (s : Nat) (f : Nat → Int) : Prop := ∀ v, v < n → (∃ k : Nat, f v = k ∧ Dist es s v k) ∨ (f v = -1 ∧ ¬ Rch es s v)
theorem BfsQ.end {n : Nat} {es : Edges} (ok : Ok n es) {s : Nat} (hs : s < n) {f : Nat → Int} (h : BfsQ n es s [] f) : DistF n es s f := by
  obtain ⟨d, q1, q2, hq, h⟩ := h
  obtain ⟨rfl, rfl⟩ : q1 = [] ∧ q2 = [] := by
    cases q1 with
    | nil => exact ⟨rfl, by simpa using hq.symm⟩
    | cons => cases hq
  have h0 : f s ≠ -1 := h.seen s 0 (Nat.zero_le _) rfl
  have hw : ∀ {u w : Nat}, Way es u w → f u ≠ -1 → f w ≠ -1 := fun {u w} hw => by
    induction hw with
    | one he => exact fun hu => h.shut _ (ok _ he).1 hu (by simp) _ he
    | more _ he ih => exact fun hu => h.shut _ (ok _ he).1 (ih hu) (by simp) _ he
  intro v hv
  rcases h.val v hv with h1 | h1
  · refine .inr ⟨h1, fun hr => ?_⟩
    rcases hr with rfl | hr
    · exact h0 h1
    · exact hw hr h0 h1
  · exact .inl h1
theorem Walk.rch {es : Edges} {d v w : Nat} (h : Walk es d v w) : Rch es v w := by
  cases d with
  | zero => exact .inl h
  | succ d => exact .inr h.way
theorem DistF.iff {n : Nat} {es : Edges} {s : Nat} {f : Nat → Int} (h : DistF n es s f) {v : Nat} (hv : v < n) : f v ≠ -1 ↔ Rch es s v := by
  rcases h v hv with ⟨k, h1, h2⟩ | ⟨h1, h2⟩
  · exact ⟨fun _ => h2.1.rch, fun _ => by omega⟩
  · exact ⟨fun h' => absurd h1 h', fun h' => absurd h' h2⟩
theorem DistF.num {n : Nat} {es : Edges} {s : Nat} {f : Nat → Int} (h : DistF n es s f) {v : Nat} (hv : v < n) : -1 ≤ f v := by
  rcases h v hv with ⟨k, h1, h2⟩ | ⟨h1, h2⟩ <;> omega

end Dgr
end Go.Proofs.Ytmagfkpnlkhofaa
