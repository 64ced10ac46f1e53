/- Depths reckoned along an order; what Check asks. -/
import Derived.Test.YtmagfkpnlkhofaaZ7
namespace Go.Proofs.Ytmagfkpnlkhofaa
namespace Dgr
set_option linter.unusedVariables false

/-- The depth of v, when the edges ps are done: f0 are the depths ahead of it. -/
structure DIn (v : Nat) (f0 : Nat → Nat) (ps : Edges) (f : Nat → Nat) : Prop where
  other : ∀ w, w ≠ v → f w = f0 w
  le : ∀ u, (u, v) ∈ ps → f0 u + 1 ≤ f v
  from_ : f v = 0 ∨ ∃ u, (u, v) ∈ ps ∧ f v = f0 u + 1
theorem DIn.start {v : Nat} {f0 : Nat → Nat} (h : f0 v = 0) : DIn v f0 [] f0 := ⟨fun _ _ => rfl, fun u hu => (by cases hu), .inl h⟩
theorem DIn.skip {v : Nat} {f0 f : Nat → Nat} {ps : Edges} (h : DIn v f0 ps f) {a b : Nat} (hb : b ≠ v) : DIn v f0 (ps ++ [(a, b)]) f := by
  refine ⟨h.other, fun u hu => ?_, ?_⟩
  · rcases List.mem_append.1 hu with hu | hu
    · exact h.le u hu
    · simp only [List.mem_singleton, Prod.mk.injEq] at hu
      exact absurd hu.2.symm hb
  · rcases h.from_ with h0 | ⟨u, hu, e⟩
    · exact .inl h0
    · exact .inr ⟨u, by simp [hu], e⟩
theorem DIn.take {v : Nat} {f0 f g : Nat → Nat} {ps : Edges} (h : DIn v f0 ps f) {a : Nat} (ha : a ≠ v) (hg : g v = max (f v) (f a + 1)) (hg' : ∀ w, w ≠ v → g w = f w) : DIn v f0 (ps ++ [(a, v)]) g := by
  have ea := h.other a ha
  refine ⟨fun w hw => (hg' w hw).trans (h.other w hw), fun u hu => ?_, ?_⟩
  · rcases List.mem_append.1 hu with hu | hu
    · have := h.le u hu; omega
    · simp only [List.mem_singleton, Prod.mk.injEq] at hu
      obtain ⟨rfl, _⟩ := hu
      omega
  · by_cases hc : f v ≤ f a + 1
    · exact .inr ⟨a, by simp, by omega⟩
    · rcases h.from_ with h0 | ⟨u, hu, e⟩
      · omega
      · exact .inr ⟨u, by simp [hu], by omega⟩
/-- The depths, when the first i nodes of the order are done. -/
structure DOut (es : Edges) (l : List Nat) (i : Nat) (f : Nat → Nat) : Prop where
  done : ∀ (j v : Nat), j < i → l[j]? = some v → (∀ u, (u, v) ∈ es → f u + 1 ≤ f v) ∧ (f v = 0 ∨ ∃ u, (u, v) ∈ es ∧ f v = f u + 1)
  todo : ∀ (j v : Nat), i ≤ j → l[j]? = some v → f v = 0
theorem DOut.start {es : Edges} {l : List Nat} {f : Nat → Nat} (h : ∀ v ∈ l, f v = 0) : DOut es l 0 f := ⟨fun j v hj _ => by omega, fun j v _ hv => h v (List.mem_of_getElem? hv)⟩
theorem DOut.step {n : Nat} {es : Edges} {l : List Nat} (ho : IsTopo n es l) (ok : Ok n es) {i v : Nat} {f g : Nat → Nat} (h : DOut es l i f) (hv : l[i]? = some v) (hg : DIn v f es g) : DOut es l (i + 1) g := by
  have hall : ∀ u, u < n → ∃ j, l[j]? = some u := fun u hu => by
    obtain ⟨j, hj, e⟩ := List.getElem_of_mem (nodup_all ho.nodup ho.lt ho.len hu)
    exact ⟨j, by rw [List.getElem?_eq_getElem hj, e]⟩
  have hpre : ∀ (j w u : Nat), j ≤ i → l[j]? = some w → (u, w) ∈ es → u ≠ v := fun j w u hj hw hu e => by
    subst e
    have := ho.edge i j u w hv hw hu
    omega
  refine ⟨fun j w hj hw => ?_, fun j w hj hw => ?_⟩
  · by_cases hji : j = i
    · subst hji
      rw [hv] at hw
      cases hw
      refine ⟨fun u hu => ?_, ?_⟩
      · rw [hg.other u (hpre j v u (Nat.le_refl _) hv hu)]
        exact hg.le u hu
      · rcases hg.from_ with h0 | ⟨u, hu, e⟩
        · exact .inl h0
        · exact .inr ⟨u, hu, by rw [hg.other u (hpre j v u (Nat.le_refl _) hv hu)]; exact e⟩
    · have hwv : w ≠ v := fun e => by subst e; exact hji (ho.inj hw hv)
      obtain ⟨h1, h2⟩ := h.done j w (by omega) hw
      rw [hg.other w hwv]
      refine ⟨fun u hu => ?_, ?_⟩
      · rw [hg.other u (hpre j w u (by omega) hw hu)]
        exact h1 u hu
      · rcases h2 with h0 | ⟨u, hu, e⟩
        · exact .inl h0
        · exact .inr ⟨u, hu, by rw [hg.other u (hpre j w u (by omega) hw hu)]; exact e⟩
  · have hwv : w ≠ v := fun e => by subst e; have := ho.inj hw hv; omega
    rw [hg.other w hwv]
    exact h.todo j w (by omega) hw
theorem DOut.depth {n : Nat} {es : Edges} {l : List Nat} (ho : IsTopo n es l) (ok : Ok n es) {f : Nat → Nat} (h : DOut es l n f) : IsDepth n es f := by
  have hall : ∀ u, u < n → ∃ j, j < n ∧ l[j]? = some u := fun u hu => by
    obtain ⟨j, hj, e⟩ := List.getElem_of_mem (nodup_all ho.nodup ho.lt ho.len hu)
    exact ⟨j, by rw [← ho.len]; exact hj, by rw [List.getElem?_eq_getElem hj, e]⟩
  refine ⟨fun u v he => ?_, fun v hv => ?_⟩
  · obtain ⟨j, hj, e⟩ := hall v (ok _ he).2
    exact (h.done j v hj e).1 u he
  · obtain ⟨j, hj, e⟩ := hall v hv
    exact (h.done j v hj e).2

/-- What Check keeps of a list: for each number its place and 1, or 0. -/
def Seen (l : List Nat) (k : Nat) (f : Nat → Nat) : Prop := ∀ v, (∃ i, i < k ∧ l[i]? = some v ∧ f v = i + 1) ∨ (f v = 0 ∧ ∀ i, i < k → l[i]? ≠ some v)
theorem Seen.start (l : List Nat) {f : Nat → Nat} (h : ∀ v, f v = 0) : Seen l 0 f := fun v => .inr ⟨h v, fun i hi => by omega⟩
theorem Seen.step {l : List Nat} {k v : Nat} {f g : Nat → Nat} (h : Seen l k f) (hv : l[k]? = some v) (h0 : f v = 0) (hg : g v = k + 1) (hg' : ∀ w, w ≠ v → g w = f w) : Seen l (k + 1) g := fun w => by
  by_cases hw : w = v
  · subst hw; exact .inl ⟨k, by omega, hv, hg⟩
  · rw [hg' w hw]
    rcases h w with ⟨i, hi, e1, e2⟩ | ⟨e1, e2⟩
    · exact .inl ⟨i, by omega, e1, e2⟩
    · refine .inr ⟨e1, fun i hi => ?_⟩
      by_cases hik : i = k
      · subst hik; rw [hv]; exact fun e => hw (Option.some.inj e).symm
      · exact e2 i (by omega)
/-- A number that was seen stands there already. -/
theorem Seen.twice {l : List Nat} {k v : Nat} {f : Nat → Nat} (h : Seen l k f) (hv : l[k]? = some v) (h0 : 0 < f v) : ¬ l.Nodup := fun hd => by
  rcases h v with ⟨i, hi, e1, _⟩ | ⟨e1, _⟩
  · have := (List.getElem?_inj (List.getElem?_eq_some_iff.1 e1).1 hd).1 (e1.trans hv.symm)
    omega
  · omega
/-- All numbers were seen once: the edges decide. -/
theorem Seen.topo {n : Nat} {es : Edges} {l : List Nat} (ok : Ok n es) (hl : l.length = n) (hlt : ∀ v ∈ l, v < n) {f : Nat → Nat} (hd : l.Nodup) (h : Seen l n f) : IsTopo n es l ↔ ∀ e ∈ es, f e.1 < f e.2 := by
  have hat : ∀ {i v : Nat}, l[i]? = some v → f v = i + 1 := fun {i v} hi => by
    have hin : i < n := by rw [← hl]; exact (List.getElem?_eq_some_iff.1 hi).1
    rcases h v with ⟨j, hj, e1, e2⟩ | ⟨_, e2⟩
    · have := (List.getElem?_inj (List.getElem?_eq_some_iff.1 e1).1 hd).1 (e1.trans hi.symm)
      omega
    · exact absurd hi (e2 i hin)
  have hall : ∀ u, u < n → ∃ j, l[j]? = some u := fun u hu => by
    obtain ⟨j, hj, e⟩ := List.getElem_of_mem (nodup_all hd hlt hl hu)
    exact ⟨j, by rw [List.getElem?_eq_getElem hj, e]⟩
  constructor
  · intro ht e he
    obtain ⟨i, hi⟩ := hall e.1 (ok _ he).1
    obtain ⟨j, hj⟩ := hall e.2 (ok _ he).2
    have := ht.edge i j e.1 e.2 hi hj he
    rw [hat hi, hat hj]
    omega
  · intro hf
    refine ⟨hl, hd, hlt, fun i j v w hi hj he => ?_⟩
    have := hf _ he
    simp only at this
    rw [hat hi, hat hj] at this
    omega

end Dgr
end Go.Proofs.Ytmagfkpnlkhofaa
