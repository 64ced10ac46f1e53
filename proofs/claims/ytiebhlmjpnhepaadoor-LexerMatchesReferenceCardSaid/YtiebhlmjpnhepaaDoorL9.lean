/- A statement that leaves the order of its operations open: those that only read are taken first, in worlds that meet a condition; the condition need hold only till the operation number m, for which all that read wait. -/
import Derived.Test.YtiebhlmjpnhepaaDoorL5
import Derived.Deep.RegionHeld
namespace Go.Proofs.YtiebhlmjpnhepaaDoor
open Go.RowKit
namespace Fr
set_option linter.unusedVariables false

section
variable {P : Program} {ops : Array Oper} {Q : Exit → Act → World → Prop} {md : Region.Mode} {S : World → Prop} {m : Nat}

/-- Whatever order is picked from here on; behind an operation ahead of number m the world meets S. -/
def anyTill (P : Program) (md : Region.Mode) (ops : Array Oper) (Q : Exit → Act → World → Prop) (S : World → Prop) (m : Nat) : Nat → Array Bool → Act → World → Prop
  | 0, listed, a, w => Region.ready md ops listed = [] ∧ Q .normal a w
  | f + 1, listed, a, w => (Region.ready md ops listed = [] → Q .normal a w) ∧ ∀ i ∈ Region.ready md ops listed, wpOp P ops Q i (fun a' w' => (i < m → S w') ∧ anyTill P md ops Q S m f (listed.setIfInBounds i true) a' w') a w

theorem anyTill.any : ∀ (f : Nat) (la : Array Bool) (a : Act) (w : World), anyTill P md ops Q S m f la a w → wpAny P md ops Q f la a w
  | 0, _, _, _, h => h
  | f + 1, _, _, _, h => ⟨h.1, fun i hi => wpOp_mono (fun a' w' h' => anyTill.any f _ a' w' h'.2) (h.2 i hi)⟩

/-- An operation that only reads comes first. -/
theorem anyTill.first {i : Nat} {oi : Oper} {v : Value} (hi : ops[i]? = some oi) (him : i < m) (hlate : ∀ j oj, ops[j]? = some oj → m ≤ j → ∃ e ∈ oj.after, Region.binds md e = true ∧ e.on = i)
    (hsel : Region.noSelect ops = true) (hQ : ∀ c a w, Q (.panic c) (a.put oi.dst v) w → Q (.panic c) a w) :
    ∀ (f : Nat) (la : Array Bool) (a : Act) (w : World), (∀ j oj, ops[j]? = some oj → j ≠ i → la.getD j true = false → (∀ e ∈ oj.after, Region.binds md e = true → e.on ≠ i) → oi.apart ops oj = true) →
      i ∈ Region.ready md ops la → YieldsIf P ops S oi v a → S w → anyTill P md ops Q S m f (la.setIfInBounds i true) (a.put oi.dst v) w → anyTill P md ops Q S m (f + 1) la a w := by
  have unlisted : ∀ {la : Array Bool}, i ∈ Region.ready md ops la → la.getD i true = false := fun h => (mem_ready.1 h).1
  have early : ∀ {la : Array Bool} {j : Nat} {oj : Oper}, ops[j]? = some oj → j ∈ Region.ready md ops la → i ∈ Region.ready md ops la → ∀ e ∈ oj.after, Region.binds md e = true → e.on ≠ i := fun {la j oj} hoj hj hr e he hb heq => by
    obtain ⟨_, o, ho, hall⟩ := mem_ready.1 hj
    have : o = oj := Option.some.inj (ho.symm.trans hoj)
    subst this
    have h1 := hall e he hb
    have h0 := unlisted hr
    rw [heq] at h1
    rcases Nat.lt_or_ge i la.size with h' | h'
    · simp [h'] at h0 h1; rw [h0] at h1; cases h1
    · simp [Array.getElem?_eq_none h'] at h1
  intro f
  induction f with
  | zero =>
    intro la a w _ hr hy hS H
    refine ⟨fun h => (by rw [h] at hr; cases hr), fun j hj => ?_⟩
    by_cases hji : j = i
    · subst hji; exact hy.wpOp hi hS ⟨fun _ => hS, H⟩
    · have := ready_mono hj hji
      rw [H.1] at this
      cases this
  | succ f ih =>
    intro la a w hfree hr hy hS H
    refine ⟨fun h => (by rw [h] at hr; cases hr), fun j hj => ?_⟩
    by_cases hji : j = i
    · subst hji; exact hy.wpOp hi hS ⟨fun _ => hS, H⟩
    obtain ⟨hun, oj, hoj, _⟩ := mem_ready.1 hj
    have hnot := early hoj hj hr
    have hjm : j < m := by
      rcases Nat.lt_or_ge j m with h | h
      · exact h
      · obtain ⟨e, he, hb, heq⟩ := hlate j oj hoj h
        exact absurd heq (hnot e he hb)
    have h2 := wpOp_putIf hoj (hfree j oj hoj hji hun hnot) (fun cs b => Region.noSelect_spec hsel i oi cs b hi) (fun cs b => Region.noSelect_spec hsel j oj cs b hoj) hQ hy (H.2 j (ready_mono hj hji))
    refine wpOp_mono (fun a' w' h3 => ⟨h3.2.1, ih _ a' w' (fun k ok hk hki hl hno => hfree k ok hk hki ?_ hno) (ready_mono hr (Ne.symm hji)) h3.1 (h3.2.1 hjm) ?_⟩) h2
    · by_cases hjk : j = k
      · subst hjk; exact hun
      · rwa [getD_set_ne true hjk] at hl
    · rw [Array.setIfInBounds_comm _ _ hji]
      exact h3.2.2

/-- All from number m on wait for number i. -/
def lateB (md : Region.Mode) (ops : Array Oper) (m i : Nat) : Bool := decide (i < m) && (List.range ops.size).all fun j => decide (j < m) || match ops[j]? with
  | some o => o.after.any fun e => Region.binds md e && e.on == i
  | none => true
theorem anyTill.take {i : Nat} {oi : Oper} {v : Value} {f : Nat} {la : Array Bool} {a : Act} {w : World} (hi : ops[i]? = some oi) (hl : lateB md ops m i = true) (hs : Region.noSelect ops = true) (hf : Region.free md ops la i = true) (hr : (Region.ready md ops la).contains i = true)
    (hQ : ∀ c a w, Q (.panic c) (a.put oi.dst v) w → Q (.panic c) a w) (hy : YieldsIf P ops S oi v a) (hS : S w) (h : anyTill P md ops Q S m f (la.setIfInBounds i true) (a.put oi.dst v) w) : anyTill P md ops Q S m (f + 1) la a w := by
  simp only [lateB, Bool.and_eq_true, decide_eq_true_eq] at hl
  refine anyTill.first hi hl.1 (fun j oj hoj hjm => ?_) hs hQ f la a w (Region.free_spec hi hf) (by simpa using hr) hy hS h
  have h1 := List.all_eq_true.1 hl.2 j (List.mem_range.2 (Array.getElem?_eq_some_iff.1 hoj).1)
  simp only [hoj, Bool.or_eq_true, decide_eq_true_eq] at h1
  rcases h1 with h1 | h1
  · omega
  · obtain ⟨e, he, hb⟩ := Array.any_eq_true'.1 h1
    simp only [Bool.and_eq_true, beq_iff_eq] at hb
    exact ⟨e, he, hb.1, hb.2⟩
/-- One alone may come. -/
theorem anyTill.one {i : Nat} {o : Oper} {f : Nat} {la : Array Bool} {a : Act} {w : World} (ho : ops[i]? = some o) (hr : Region.ready md ops la = [i]) (hw : Region.wanted o (yielded ops a.tmps) = true)
    (h : ∀ K : Act → World → Prop, Shut (∀ a' w', (i < m → S w') → ((i < m → S w') → anyTill P md ops Q S m f (la.setIfInBounds i true) a' w') → K a' w') → o.wp P a w K Q) : anyTill P md ops Q S m (f + 1) la a w := by
  refine ⟨fun h0 => (by rw [h0] at hr; cases hr), fun j hj => ?_⟩
  rw [hr, List.mem_singleton] at hj
  subst hj
  unfold wpOp
  simp only [ho, hw, if_true]
  exact .inl (h _ fun a' w' h1 h2 => ⟨h1, h2 h1⟩)
/-- One of two may come. -/
theorem anyTill.pair {i j : Nat} {f : Nat} {la : Array Bool} {a : Act} {w : World} (hr : Region.ready md ops la = [i, j]) (h1 : wpOp P ops Q i (fun a' w' => (i < m → S w') ∧ anyTill P md ops Q S m f (la.setIfInBounds i true) a' w') a w) (h2 : wpOp P ops Q j (fun a' w' => (j < m → S w') ∧ anyTill P md ops Q S m f (la.setIfInBounds j true) a' w') a w) : anyTill P md ops Q S m (f + 1) la a w := by
  refine ⟨fun h0 => (by rw [h0] at hr; cases hr), fun k hk => ?_⟩
  rw [hr] at hk
  rcases List.mem_cons.1 hk with rfl | hk
  · exact h1
  · obtain rfl : k = j := by simpa using hk
    exact h2
theorem anyTill.done {la : Array Bool} {a : Act} {w : World} (hr : Region.ready md ops la = []) (h : Q .normal a w) : ∀ f, anyTill P md ops Q S m f la a w
  | 0 => ⟨hr, h⟩
  | _ + 1 => ⟨fun _ => h, by rw [hr]; simp⟩
end
section
variable {P : Program} {l : List Oper} {Q : Exit → Act → World → Prop} {md : Region.Mode} {S : World → Prop} {m : Nat}
/-- .. for operations that are written out. -/
theorem anyTill.reads {i : Nat} {oi : Oper} {v : Value} {f : Nat} {la : Array Bool} {a : Act} {w : World} (hi : l[i]? = some oi) (hl : lateB md l.toArray m i = true) (hs : Region.noSelect l.toArray = true) (hf : Region.free md l.toArray la i = true) (hr : (Region.ready md l.toArray la).contains i = true)
    (hQ : ∀ c a w, Q (.panic c) (a.put oi.dst v) w → Q (.panic c) a w) (hw : Region.wanted oi (yielded l.toArray a.tmps) = true) (hy : ∀ w, S w → (execOp a.eval oi).run P w = .ok (.value v) w) (hS : S w) (h : anyTill P md l.toArray Q S m f (la.setIfInBounds i true) (a.put oi.dst v) w) : anyTill P md l.toArray Q S m (f + 1) la a w :=
  anyTill.take (by simpa using hi) hl hs hf hr hQ (.inl ⟨hw, hy⟩) hS h
theorem anyTill.idle {i : Nat} {oi : Oper} {f : Nat} {la : Array Bool} {a : Act} {w : World} (hi : l[i]? = some oi) (hl : lateB md l.toArray m i = true) (hs : Region.noSelect l.toArray = true) (hf : Region.free md l.toArray la i = true) (hr : (Region.ready md l.toArray la).contains i = true)
    (hQ : ∀ c a w, Q (.panic c) (a.put oi.dst undef) w → Q (.panic c) a w) (hw : Region.wanted oi (yielded l.toArray a.tmps) = false) (hS : S w) (h : anyTill P md l.toArray Q S m f (la.setIfInBounds i true) (a.put oi.dst undef) w) : anyTill P md l.toArray Q S m (f + 1) la a w :=
  anyTill.take (by simpa using hi) hl hs hf hr hQ (.inr ⟨hw, rfl⟩) hS h
theorem anyTill.alone {i : Nat} {o : Oper} {f : Nat} {la : Array Bool} {a : Act} {w : World} (ho : l[i]? = some o) (hr : Region.ready md l.toArray la = [i]) (hw : Region.wanted o (yielded l.toArray a.tmps) = true)
    (h : ∀ K : Act → World → Prop, Shut (∀ a' w', (i < m → S w') → ((i < m → S w') → anyTill P md l.toArray Q S m f (la.setIfInBounds i true) a' w') → K a' w') → o.wp P a w K Q) : anyTill P md l.toArray Q S m (f + 1) la a w :=
  anyTill.one (by simpa using ho) hr hw h
/-- The step of one of several. -/
theorem anyTill.step {i : Nat} {o : Oper} {f : Nat} {la : Array Bool} {a : Act} {w : World} (ho : l[i]? = some o) (hw : Region.wanted o (yielded l.toArray a.tmps) = true)
    (h : ∀ K : Act → World → Prop, Shut (∀ a' w', (i < m → S w') → ((i < m → S w') → anyTill P md l.toArray Q S m f (la.setIfInBounds i true) a' w') → K a' w') → o.wp P a w K Q) : wpOp P l.toArray Q i (fun a' w' => (i < m → S w') ∧ anyTill P md l.toArray Q S m f (la.setIfInBounds i true) a' w') a w := by
  have ho' : l.toArray[i]? = some o := by simpa using ho
  unfold wpOp
  simp only [ho', hw, if_true]
  exact .inl (h _ fun a' w' h1 h2 => ⟨h1, h2 h1⟩)
end
theorem wp_region_till {P : Program} {id : Nat} {ops : Array Oper} {Q : Exit → Act → World → Prop} {a : Act} {w : World} (S : World → Prop) (m : Nat) (hm : P.follows .mixedOrders = true) (hS : S w.drew)
    (h : S w.drew → anyTill P .any ops Q S m ops.size (Array.replicate ops.size false) a w.drew) : (Code.region id ops true).wp P Q a w :=
  wp_region_any hm (anyTill.any _ _ _ _ (h hS))

end Fr
end Go.Proofs.YtiebhlmjpnhepaaDoor
