/- The least order by counts of missing predecessors; depths handed on along an order. -/
import Derived.Test.YtmagfkpnlkhofaaZA
namespace Go.Proofs.Ytmagfkpnlkhofaa
namespace Dgr
set_option linter.unusedVariables false

def succs (es : Edges) (u : Nat) : List Nat := (es.filter fun e => e.1 == u).map (·.2)
theorem mem_succs {es : Edges} {u w : Nat} : w ∈ succs es u ↔ (u, w) ∈ es := by
  simp only [succs, List.mem_map, List.mem_filter, beq_iff_eq]
  constructor
  · rintro ⟨⟨a, b⟩, ⟨h1, h2⟩, h3⟩
    simp only at h2 h3
    subst h2 h3
    exact h1
  · exact fun h => ⟨(u, w), ⟨h, rfl⟩, rfl⟩
theorem succs_snoc (es : Edges) (a b u : Nat) : succs (es ++ [(a, b)]) u = if a = u then succs es u ++ [b] else succs es u := by
  unfold succs
  by_cases h : a = u
  · simp [List.filter_append, h]
  · simp [List.filter_append, h]
theorem succs_len (es : Edges) (u : Nat) : (succs es u).length ≤ es.length := by
  unfold succs
  rw [List.length_map]
  exact List.length_filter_le _ _
/-- How many edges lead to v from nodes that are not listed. -/
def cnt : Edges → List Nat → Nat → Nat
  | [], _, _ => 0
  | e :: es, acc, v => cnt es acc v + if e.2 = v ∧ e.1 ∉ acc then 1 else 0
theorem cnt_append (es fs : Edges) (acc : List Nat) (v : Nat) : cnt (es ++ fs) acc v = cnt es acc v + cnt fs acc v := by
  induction es with
  | nil => simp [cnt]
  | cons e es ih => simp only [List.cons_append, cnt, ih]; omega
theorem cnt_snoc (es : Edges) (a b v : Nat) : cnt (es ++ [(a, b)]) [] v = cnt es [] v + if b = v then 1 else 0 := by
  rw [cnt_append]
  simp [cnt]
theorem cnt_le (es : Edges) (acc : List Nat) (v : Nat) : cnt es acc v ≤ es.length := by
  induction es with
  | nil => simp [cnt]
  | cons e es ih => simp only [cnt, List.length_cons]; split <;> omega
theorem cnt_zero {es : Edges} {acc : List Nat} {v : Nat} : cnt es acc v = 0 ↔ ∀ u, (u, v) ∈ es → u ∈ acc := by
  induction es with
  | nil => simp [cnt]
  | cons e es ih =>
    obtain ⟨a, b⟩ := e
    simp only [cnt, List.mem_cons, Prod.mk.injEq]
    constructor
    · intro h u hu
      have h1 : cnt es acc v = 0 := by omega
      rcases hu with ⟨rfl, rfl⟩ | hu
      · by_cases hm : u ∈ acc
        · exact hm
        · rw [if_pos ⟨rfl, hm⟩] at h; omega
      · exact ih.1 h1 u hu
    · intro h
      have h1 := ih.2 (fun u hu => h u (.inr hu))
      rw [h1]
      split
      · rename_i hc
        exact absurd (h a (.inl ⟨rfl, hc.1.symm⟩)) hc.2
      · rfl
theorem cnt_take {acc : List Nat} {v w : Nat} (hv : v ∉ acc) : ∀ es : Edges, cnt es acc w = cnt es (acc ++ [v]) w + (succs es v).count w
  | [] => by simp [cnt, succs]
  | (a, b) :: es => by
    have ih := cnt_take (w := w) hv es
    have e : succs ((a, b) :: es) v = if a = v then b :: succs es v else succs es v := by
      unfold succs
      by_cases h : a = v
      · simp [h]
      · simp [h]
    rw [e]
    simp only [cnt, List.mem_append, List.mem_singleton, not_or]
    by_cases hav : a = v
    · subst hav
      rw [if_pos rfl, List.count_cons]
      by_cases hbw : b = w
      · subst hbw
        simp [hv]; omega
      · simp [hbw]; omega
    · rw [if_neg hav]
      by_cases hbw : b = w
      · subst hbw
        by_cases haa : a ∈ acc
        · simp [haa]; omega
        · simp [haa, hav]; omega
      · simp [hbw]; omega
/-- The numbers of missing predecessors; -1 for those that are listed. -/
def Miss (n : Nat) (es : Edges) (acc : List Nat) (m : Nat → Int) : Prop := ∀ v, v < n → (v ∈ acc → m v = -1) ∧ (v ∉ acc → m v = cnt es acc v)
theorem Miss.free {n : Nat} {es : Edges} {acc : List Nat} {m : Nat → Int} (h : Miss n es acc m) {v : Nat} (hv : v < n) : (m v == 0) = freeB es acc v := by
  rw [Bool.eq_iff_iff, freeB_iff, beq_iff_eq]
  by_cases hm : v ∈ acc
  · have := (h v hv).1 hm
    exact ⟨fun h0 => by omega, fun h0 => absurd hm h0.1⟩
  · have := (h v hv).2 hm
    rw [this]
    exact ⟨fun h0 => ⟨hm, cnt_zero.1 (by omega)⟩, fun h0 => by rw [cnt_zero.2 h0.2]; rfl⟩
theorem find_congr {α : Type} {p q : α → Bool} : ∀ {l : List α}, (∀ x ∈ l, p x = q x) → l.find? p = l.find? q
  | [], _ => rfl
  | a :: l, h => by
    rw [List.find?_cons, List.find?_cons, h a (by simp), find_congr (fun x hx => h x (by simp [hx]))]
theorem Miss.next {n : Nat} {es : Edges} {acc : List Nat} {m : Nat → Int} (h : Miss n es acc m) : (List.range n).find? (fun v => m v == 0) = nextFree n es acc :=
  find_congr fun v hv => h.free (List.mem_range.1 hv)
/-- .. while those behind v are counted down: k of them have been. -/
def MissIn (n : Nat) (es : Edges) (acc : List Nat) (v k : Nat) (m : Nat → Int) : Prop := ∀ w, w < n → (w ∈ acc ++ [v] → m w = -1) ∧ (w ∉ acc ++ [v] → m w = (cnt es acc w : Int) - ((succs es v).take k).count w)
theorem Miss.take {n : Nat} {es : Edges} {acc : List Nat} {m g : Nat → Int} (h : Miss n es acc m) {v : Nat} (hg : g v = -1) (hg' : ∀ w, w ≠ v → g w = m w) : MissIn n es acc v 0 g := fun w hw => by
  refine ⟨fun hm => ?_, fun hm => ?_⟩
  · by_cases hwv : w = v
    · subst hwv; exact hg
    · rw [hg' w hwv]
      rcases List.mem_append.1 hm with hm | hm
      · exact (h w hw).1 hm
      · exact absurd (by simpa using hm) hwv
  · simp only [List.mem_append, List.mem_singleton, not_or] at hm
    rw [hg' w hm.2, (h w hw).2 hm.1]
    simp
/-- No successor of a node that is free is listed. -/
theorem free_succ {n : Nat} {es : Edges} {acc : List Nat} (ho : Ord n es acc) {v : Nat} (hv : freeB es acc v = true) {x : Nat} (hx : (v, x) ∈ es) : x ∉ acc ++ [v] := fun hm => by
  obtain ⟨h1, h2⟩ := freeB_iff.1 hv
  rcases List.mem_append.1 hm with hm | hm
  · obtain ⟨i, hi, e⟩ := List.getElem_of_mem hm
    have := ho.pred i x v (by rw [List.getElem?_eq_getElem hi, e]) hx
    exact h1 (List.mem_of_mem_take this)
  · obtain rfl : x = v := by simpa using hm
    exact h1 (h2 x hx)
theorem MissIn.step {n : Nat} {es : Edges} {acc : List Nat} (ho : Ord n es acc) {v k x : Nat} {m g : Nat → Int} (h : MissIn n es acc v k m) (hv : freeB es acc v = true) (hx : (succs es v)[k]? = some x) (hg : g x = m x - 1) (hg' : ∀ w, w ≠ x → g w = m w) : MissIn n es acc v (k + 1) g := fun w hw => by
  have hxl := free_succ ho hv (mem_succs.1 (List.mem_of_getElem? hx))
  have ht : (succs es v).take (k + 1) = (succs es v).take k ++ [x] := by rw [List.take_add_one, hx]; rfl
  refine ⟨fun hm => ?_, fun hm => ?_⟩
  · rw [hg' w (fun e => hxl (e ▸ hm))]; exact (h w hw).1 hm
  · rw [ht, List.count_append]
    have h1 := (h w hw).2 hm
    by_cases hwx : w = x
    · subst hwx
      rw [hg, h1]
      simp; omega
    · rw [hg' w hwx, h1]
      rw [List.count_cons]
      have : (x == w) = false := by simpa using Ne.symm hwx
      simp [this]
theorem MissIn.done {n : Nat} {es : Edges} {acc : List Nat} {v k : Nat} {m : Nat → Int} (h : MissIn n es acc v k m) (hv : v ∉ acc) (hk : (succs es v).length ≤ k) : Miss n es (acc ++ [v]) m := fun w hw => by
  refine ⟨(h w hw).1, fun hm => ?_⟩
  rw [(h w hw).2 hm, List.take_of_length_le hk, cnt_take (w := w) hv es]
  omega
theorem MissIn.bound {n : Nat} {es : Edges} {acc : List Nat} {v k : Nat} {m : Nat → Int} (h : MissIn n es acc v k m) {w : Nat} (hw : w < n) : -1 - (es.length : Int) ≤ m w ∧ m w ≤ es.length := by
  by_cases hm : w ∈ acc ++ [v]
  · have := (h w hw).1 hm
    omega
  · have h1 := (h w hw).2 hm
    have h2 := cnt_le es acc w
    have h3 : ((succs es v).take k).count w ≤ es.length := Nat.le_trans List.count_le_length (by rw [List.length_take]; have := succs_len es v; omega)
    omega
/-- What the rounds have left to do. -/
structure OrdTo (n : Nat) (es : Edges) (acc : List Nat) : Prop where
  ord : Ord n es acc
  le : acc.length ≤ n
  rest : orderF n es = orderGo n es (n - acc.length) acc
theorem OrdTo.start (n : Nat) (es : Edges) : OrdTo n es [] := ⟨.nil n es, Nat.zero_le _, rfl⟩
theorem OrdTo.next {n : Nat} {es : Edges} {acc : List Nat} (h : OrdTo n es acc) (hlt : acc.length < n) {v : Nat} (hv : nextFree n es acc = some v) : OrdTo n es (acc ++ [v]) := by
  refine ⟨h.ord.snoc hv, by simp; omega, ?_⟩
  rw [h.rest, show n - acc.length = (n - (acc ++ [v]).length) + 1 by simp; omega]
  simp only [orderGo, hv, Option.bind_some]
theorem OrdTo.stop {n : Nat} {es : Edges} {acc : List Nat} (h : OrdTo n es acc) (hlt : acc.length < n) (hv : nextFree n es acc = none) : orderF n es = none := by
  rw [h.rest, show n - acc.length = (n - acc.length - 1) + 1 by omega]
  simp only [orderGo, hv, Option.bind_none]
theorem OrdTo.done {n : Nat} {es : Edges} {acc : List Nat} (h : OrdTo n es acc) (hn : ¬ acc.length < n) : orderF n es = some acc := by
  rw [h.rest, show n - acc.length = 0 by omega]
  rfl

/-- Depths handed on: those of the first i nodes of the order have reached their successors. -/
structure Push (n : Nat) (es : Edges) (l : List Nat) (i : Nat) (f : Nat → Nat) : Prop where
  le : ∀ j u v, j < i → l[j]? = some u → (u, v) ∈ es → f u + 1 ≤ f v
  from_ : ∀ v, v < n → f v = 0 ∨ ∃ j u, j < i ∧ l[j]? = some u ∧ (u, v) ∈ es ∧ f v = f u + 1
/-- .. and from the next one to those in 'don'. -/
structure PushIn (n : Nat) (es : Edges) (l : List Nat) (i x : Nat) (don : List Nat) (f : Nat → Nat) : Prop where
  le : ∀ j u v, j < i → l[j]? = some u → (u, v) ∈ es → f u + 1 ≤ f v
  cur : ∀ v ∈ don, f x + 1 ≤ f v
  from_ : ∀ v, v < n → f v = 0 ∨ (∃ j u, j < i ∧ l[j]? = some u ∧ (u, v) ∈ es ∧ f v = f u + 1) ∨ ((x, v) ∈ es ∧ f v = f x + 1)
theorem Push.start (n : Nat) (es : Edges) (l : List Nat) {f : Nat → Nat} (h : ∀ v, v < n → f v = 0) : Push n es l 0 f := ⟨fun j u v hj => by omega, fun v hv => .inl (h v hv)⟩
theorem Push.into {n : Nat} {es : Edges} {l : List Nat} {i x : Nat} {f : Nat → Nat} (h : Push n es l i f) : PushIn n es l i x [] f := ⟨h.le, fun v hv => (by cases hv), fun v hv => (h.from_ v hv).imp id .inl⟩
theorem PushIn.step {n : Nat} {es : Edges} {l : List Nat} (ho : IsTopo n es l) {i x y : Nat} {don : List Nat} {f g : Nat → Nat} (h : PushIn n es l i x don f) (hx : l[i]? = some x) (he : (x, y) ∈ es) (hyn : y < n) (hg : g y = max (f y) (f x + 1)) (hg' : ∀ w, w ≠ y → g w = f w) : PushIn n es l i x (don ++ [y]) g := by
  have far : ∀ j u, j ≤ i → l[j]? = some u → u ≠ y := fun j u hj hu e => by
    subst e
    have := ho.edge i j x u hx hu he
    omega
  have hxy : x ≠ y := far i x (Nat.le_refl _) hx
  have mono : ∀ v, f v ≤ g v := fun v => by
    by_cases hv : v = y
    · subst hv; rw [hg]; omega
    · rw [hg' v hv]; exact Nat.le_refl _
  refine ⟨fun j u v hj hu huv => ?_, fun v hv => ?_, fun v hv => ?_⟩
  · rw [hg' u (far j u (by omega) hu)]
    exact Nat.le_trans (h.le j u v hj hu huv) (mono v)
  · rw [hg' x hxy]
    rcases List.mem_append.1 hv with hv | hv
    · exact Nat.le_trans (h.cur v hv) (mono v)
    · obtain rfl : v = y := by simpa using hv
      rw [hg]; omega
  · by_cases hvy : v = y
    · subst hvy
      rw [hg, hg' x hxy]
      by_cases hc : f v ≤ f x + 1
      · exact .inr (.inr ⟨he, by omega⟩)
      · rcases h.from_ v hv with h0 | ⟨j, u, hj, hu, huv, e⟩ | ⟨_, e⟩
        · omega
        · refine .inr (.inl ⟨j, u, hj, hu, huv, ?_⟩)
          rw [hg' u (far j u (by omega) hu)]
          omega
        · omega
    · rw [hg' v hvy]
      rcases h.from_ v hv with h0 | ⟨j, u, hj, hu, huv, e⟩ | ⟨h1, e⟩
      · exact .inl h0
      · exact .inr (.inl ⟨j, u, hj, hu, huv, by rw [hg' u (far j u (by omega) hu)]; exact e⟩)
      · exact .inr (.inr ⟨h1, by rw [hg' x hxy]; exact e⟩)
theorem PushIn.done {n : Nat} {es : Edges} {l : List Nat} {i x : Nat} {don : List Nat} {f : Nat → Nat} (h : PushIn n es l i x don f) (hx : l[i]? = some x) (hd : ∀ v, (x, v) ∈ es → v ∈ don) : Push n es l (i + 1) f := by
  refine ⟨fun j u v hj hu huv => ?_, fun v hv => ?_⟩
  · by_cases hji : j = i
    · subst hji
      rw [hx] at hu
      cases hu
      exact h.cur v (hd v huv)
    · exact h.le j u v (by omega) hu huv
  · rcases h.from_ v hv with h0 | ⟨j, u, hj, hu, huv, e⟩ | ⟨h1, e⟩
    · exact .inl h0
    · exact .inr ⟨j, u, by omega, hu, huv, e⟩
    · exact .inr ⟨i, x, by omega, hx, h1, e⟩
theorem Push.depth {n : Nat} {es : Edges} {l : List Nat} (ho : IsTopo n es l) (ok : Ok n es) {f : Nat → Nat} (h : Push n es l n f) : IsDepth n es f := by
  refine ⟨fun u v huv => ?_, fun v hv => ?_⟩
  · have hu : u < n := (ok _ huv).1
    obtain ⟨j, hj, e⟩ := List.getElem_of_mem (nodup_all ho.nodup ho.lt ho.len hu)
    exact h.le j u v (by rw [← ho.len]; exact hj) (by rw [List.getElem?_eq_getElem hj, e]) huv
  · rcases h.from_ v hv with h0 | ⟨j, u, _, _, huv, e⟩
    · exact .inl h0
    · exact .inr ⟨u, huv, e⟩
/-- No depth is greater than the number of nodes ahead. -/
theorem PushIn.bound {n : Nat} {es : Edges} {l : List Nat} (ho : IsTopo n es l) (ok : Ok n es) {i x : Nat} {don : List Nat} {f : Nat → Nat} (h : PushIn n es l i x don f) (hx : l[i]? = some x) : ∀ (j v : Nat), l[j]? = some v → f v ≤ j := by
  intro j
  induction j using Nat.strongRecOn with
  | _ j ih =>
    intro v hv
    have hvn : v < n := ho.lt v (List.mem_of_getElem? hv)
    rcases h.from_ v hvn with h0 | ⟨k, u, hk, hu, huv, e⟩ | ⟨h1, e⟩
    · omega
    · have h2 := ho.edge k j u v hu hv huv
      have := ih k h2 u hu
      omega
    · have h2 := ho.edge i j x v hx hv h1
      have := ih i h2 x hx
      omega

end Dgr
end Go.Proofs.Ytmagfkpnlkhofaa
