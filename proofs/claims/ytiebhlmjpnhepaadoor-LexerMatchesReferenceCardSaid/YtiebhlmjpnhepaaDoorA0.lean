/- A law for statements that leave the order of their operations open: all but the last operations keep a class of worlds and yield the same values in each of its worlds; the last operations come in one order. Then one walk in the order of the text serves every order. -/
import Derived.StillTail
import Derived.Deep.Quiet
namespace Go.Proofs.YtiebhlmjpnhepaaDoor
namespace Fr

section
variable {P : Program} {ops hd : Array Oper} {md : Region.Mode} {C : World → Prop}

/-- An operation below n has no guard from n on, and waits for lesser ones alone. -/
def headB (md : Region.Mode) (ops : Array Oper) (n : Nat) : Bool :=
  (List.range n).all fun i => match ops[i]? with
    | some o => (match o.guard with | some (g, _) => decide (g < n) | none => true) && o.after.all fun e => !Region.binds md e || decide (e.on < i)
    | none => false

theorem headB_spec {n : Nat} (h : headB md ops n = true) {i : Nat} (hi : i < n) {o : Oper} (ho : ops[i]? = some o) :
    (∀ g b, o.guard = some (g, b) → g < n) ∧ ∀ e ∈ o.after, Region.binds md e = true → e.on < i := by
  have h1 := List.all_eq_true.1 h i (List.mem_range.2 hi)
  simp only [ho, Bool.and_eq_true] at h1
  refine ⟨fun g b hg => ?_, fun e he hb => ?_⟩
  · have h2 := h1.1
    rw [hg] at h2
    simpa using h2
  · have h2 := Array.all_eq_true_iff_forall_mem.1 h1.2 e he
    simpa [hb] using h2

theorem any_more {Q : Exit → Act → World → Prop} : ∀ (f : Nat) (listed : Array Bool) (a : Act) (w : World), wpAny P md ops Q f listed a w → wpAny P md ops Q (f + 1) listed a w
  | 0, listed, a, w, h => ⟨fun _ => h.2, fun i hi => by rw [h.1] at hi; cases hi⟩
  | f + 1, listed, a, w, h => ⟨h.1, fun i hi => wpOp_mono (fun a' w' h' => any_more f _ a' w' h') (h.2 i hi)⟩
theorem any_more' {Q : Exit → Act → World → Prop} (g : Nat) {listed : Array Bool} {a : Act} {w : World} (h : wpAny P md ops Q g listed a w) : ∀ f, wpAny P md ops Q (f + g) listed a w
  | 0 => by rw [Nat.zero_add]; exact h
  | f + 1 => by rw [show f + 1 + g = (f + g) + 1 by omega]; exact any_more _ _ _ _ (any_more' g h f)

/-- Some operation of the head has not come up: then one of them may come up. -/
theorem head_ready {n : Nat} (hB : headB md ops n = true) (hsz : n ≤ ops.size) {la : Array Bool} : ∀ (i : Nat), i < n → la.getD i true = false → (∀ j, j < n → la.getD j true = la.getD j false) → ∃ k, k < n ∧ k ∈ Region.ready md ops la := by
  intro i
  induction i using Nat.strongRecOn with
  | _ i ih =>
    intro hi hun hboth
    obtain ⟨o, ho⟩ : ∃ o, ops[i]? = some o := ⟨_, Array.getElem?_eq_getElem (by omega)⟩
    have hs := headB_spec hB hi ho
    by_cases hall : ∀ e ∈ o.after, Region.binds md e = true → la.getD e.on false = true
    · exact ⟨i, hi, mem_ready.2 ⟨hun, o, ho, hall⟩⟩
    · obtain ⟨e, he⟩ := Classical.not_forall.1 hall
      obtain ⟨he, h2⟩ := Classical.not_imp.1 he
      obtain ⟨hb, h3⟩ := Classical.not_imp.1 h2
      have hlt := hs.2 e he hb
      refine ih e.on hlt (by omega) ?_ hboth
      rw [hboth e.on (by omega)]
      simpa using h3

theorem wanted_head {n : Nat} (hhd : ∀ j, j < n → hd[j]? = ops[j]?) (hB : headB md ops n = true) {i : Nat} (hi : i < n) {o : Oper} (ho : ops[i]? = some o) (t : Array Value) :
    Region.wanted o (yielded hd t) = Region.wanted o (yielded ops t) := by
  have hs := headB_spec hB hi ho
  have hy : ∀ g b, o.guard = some (g, b) → yielded hd t g = yielded ops t g := fun g b hg => by
    unfold yielded
    rw [hhd g (hs.1 g b hg)]
  unfold Region.wanted
  split
  · rfl
  · rename_i g b hg
    rw [hy g b hg]

theorem head_any {n g : Nat} {Q : Act → Prop} {Q' : Exit → Act → World → Prop} {full : Array Bool} (hhd : ∀ j, j < n → hd[j]? = ops[j]?) (hsz : hd.size = n) (hn : n < ops.size)
    (hs : Region.sinkB md ops n = true) (hc : Region.chainB md ops n = true) (hB : headB md ops n = true) (hfz : full.size = ops.size) (hf : ∀ j, j < ops.size → full.getD j true = decide (j < n))
    (hQ : ∀ a w, C w → Q a → wpAny P md ops Q' g full a w) :
    ∀ (f : Nat) (lh la : Array Bool) (a : Act) (w : World), lh.size = n → HeadInv md ops n la → (∀ j, j < n → la.getD j true = lh.getD j true) → C w → wpAnyQ P md hd C Q f lh a → wpAny P md ops Q' (f + g) la a w := by
  have fin : ∀ (f : Nat) (la : Array Bool) (a : Act) (w : World), HeadInv md ops n la → (∀ j, j < n → la.getD j true = true) → C w → Q a → wpAny P md ops Q' (f + g) la a w := by
    intro f la a w inv hall hw hq
    have : la = full := by
      refine Array.ext (inv.size.trans hfz.symm) fun j h1 h2 => ?_
      have hjo : j < ops.size := by rw [← inv.size]; exact h1
      have e1 : la.getD j true = full.getD j true := by
        rw [hf j hjo]
        by_cases hj : j < n
        · rw [hall j hj]; simp [hj]
        · rw [inv.tail j (by omega) hjo]; simp [hj]
      simpa [h1, h2] using e1
    subst this
    exact any_more' g (hQ a w hw hq) f
  have both : ∀ (lh la : Array Bool), lh.size = n → HeadInv md ops n la → (∀ j, j < n → la.getD j true = lh.getD j true) → (∀ j, j < n → la.getD j true = la.getD j false) ∧ ∀ j, j < n → lh.getD j false = la.getD j false := by
    intro lh la hlz inv hll
    have h1 : ∀ j, j < n → la.getD j true = la.getD j false := fun j hj => by
      have : j < la.size := by rw [inv.size]; omega
      simp [this]
    refine ⟨h1, fun j hj => ?_⟩
    have : j < lh.size := by omega
    rw [← h1 j hj, hll j hj]
    simp [this]
  have same : ∀ (lh la : Array Bool), lh.size = n → HeadInv md ops n la → (∀ j, j < n → la.getD j true = lh.getD j true) → ∀ i, i < n → (i ∈ Region.ready md ops la ↔ i ∈ Region.ready md hd lh) := by
    intro lh la hlz inv hll i hi
    have hb := both lh la hlz inv hll
    rw [mem_ready, mem_ready, hll i hi, hhd i hi]
    refine and_congr_right fun _ => ⟨fun ⟨o, ho, h⟩ => ⟨o, ho, fun e he hbi => ?_⟩, fun ⟨o, ho, h⟩ => ⟨o, ho, fun e he hbi => ?_⟩⟩
    · have := (headB_spec hB hi ho).2 e he hbi
      rw [hb.2 e.on (by omega)]; exact h e he hbi
    · have := (headB_spec hB hi ho).2 e he hbi
      rw [← hb.2 e.on (by omega)]; exact h e he hbi
  have step : ∀ (lh la : Array Bool), lh.size = n → HeadInv md ops n la → (∀ j, j < n → la.getD j true = lh.getD j true) → (∀ j, j < n → la.getD j true = true) ∨ (Region.ready md hd lh ≠ [] ∧ ∃ i, i < n ∧ la.getD i true = false) := by
    intro lh la hlz inv hll
    by_cases hall : ∀ j, j < n → la.getD j true = true
    · exact .inl hall
    · obtain ⟨i, hi⟩ := Classical.not_forall.1 hall
      obtain ⟨hi, hun⟩ := Classical.not_imp.1 hi
      have hun' : la.getD i true = false := by simpa using hun
      obtain ⟨k, hk, hkr⟩ := head_ready hB (by omega) i hi hun' (both lh la hlz inv hll).1
      have := (same lh la hlz inv hll k hk).1 hkr
      exact .inr ⟨fun h => (by rw [h] at this; cases this), i, hi, hun'⟩
  intro f
  induction f with
  | zero =>
    intro lh la a w hlz inv hll hw h
    rcases step lh la hlz inv hll with hall | ⟨hne, _⟩
    · exact fin 0 la a w inv hall hw h.2
    · exact absurd h.1 hne
  | succ f ih =>
    intro lh la a w hlz inv hll hw h
    rcases step lh la hlz inv hll with hall | ⟨hne, i0, hi0, hun0⟩
    · refine fin (f + 1) la a w inv hall hw (h.1 ?_)
      refine List.eq_nil_iff_forall_not_mem.2 fun j hj => ?_
      have hjn : j < n := by
        obtain ⟨_, o, ho, _⟩ := mem_ready.1 hj
        have := (Array.getElem?_eq_some_iff.1 ho).1
        omega
      have h1 := (mem_ready.1 hj).1
      rw [← hll j hjn, hall j hjn] at h1
      cases h1
    · rw [show f + 1 + g = (f + g) + 1 by omega]
      have hlow : ∀ t, t ∈ Region.ready md ops la → t < n := fun t ht => by
        rcases Nat.lt_or_ge t n with h' | h'
        · exact h'
        · exact absurd ht (tail_waits hs hc hn inv _ i0 rfl hi0 hun0 t h')
      refine ⟨fun h0 => ?_, fun i hi => ?_⟩
      · exfalso
        apply hne
        refine List.eq_nil_iff_forall_not_mem.2 fun j hj => ?_
        have hjn : j < n := by
          obtain ⟨_, o, ho, _⟩ := mem_ready.1 hj
          have := (Array.getElem?_eq_some_iff.1 ho).1
          omega
        have := (same lh la hlz inv hll j hjn).2 hj
        rw [h0] at this
        cases this
      · have hin := hlow i hi
        have hq := h.2 i ((same lh la hlz inv hll i hin).1 hi)
        obtain ⟨_, o, ho, _⟩ := mem_ready.1 hi
        have go : ∀ a' w', C w' → wpAnyQ P md hd C Q f (lh.setIfInBounds i true) a' → wpAny P md ops Q' (f + g) (la.setIfInBounds i true) a' w' := fun a' w' hw' h' => by
          refine ih (lh.setIfInBounds i true) (la.setIfInBounds i true) a' w' (by simpa using hlz) (inv.set hi hin) (fun j hj => ?_) hw' h'
          by_cases hij : i = j
          · subst hij
            have h1 : i < la.size := by rw [inv.size]; omega
            have h2 : i < lh.size := by omega
            simp [h1, h2]
          · rw [getD_set_ne true hij, getD_set_ne true hij]; exact hll j hj
        have ho' : hd[i]? = some o := by rw [hhd i hin]; exact ho
        unfold qOp at hq
        simp only [ho'] at hq
        rw [wanted_head hhd hB hin ho] at hq
        unfold wpOp
        simp only [ho]
        split
        · rename_i hwt
          simp only [hwt, if_true] at hq
          exact .inl (Oper.wp_of_quiet hw go hq)
        · rename_i hwt
          simp only [hwt] at hq
          exact go _ _ hw hq

/-- What is asked of a region of which the first n operations may come in any order, and the others in one. -/
def classTailB (md : Region.Mode) (l : List Oper) (n : Nat) : Bool :=
  Region.lexB md (l.take n).toArray && decide (n < l.length) && Region.sinkB md l.toArray n && Region.chainB md l.toArray n && headB md l.toArray n &&
    Region.seqB md l.toArray (l.length - n) n (Array.replicate n true ++ Array.replicate (l.length - n) false)

theorem wp_region_class_tail {id : Nat} {Q : Exit → Act → World → Prop} {a : Act} {w : World} {l : List Oper} (n : Nat) (hm : P.follows .mixedOrders = true) (hB : classTailB .any l n = true)
    (hC : C { w with drawn := w.drawn + 1 }) (h : wpQuiet P (l.take n).toArray C (fun a' => ∀ w', C w' → wpList P l.toArray Q (l.drop n) a' w') (l.take n) a) : (Code.region id l.toArray true).wp P Q a w := by
  simp only [classTailB, Bool.and_eq_true, decide_eq_true_eq] at hB
  obtain ⟨⟨⟨⟨⟨hlex, hn⟩, hs⟩, hc⟩, hb⟩, hq⟩ := hB
  simp only [Region.lexB, Bool.and_eq_true] at hlex
  have htl : (l.take n).length = n := by simp; omega
  have H := wpAnyQ_lex (C := C) (md := .any) hlex.1 (l.take n) 0 (Array.replicate n false) a (by simp) (by simpa [htl] using hlex.2) h
  refine wp_region_any hm ?_
  have inv0 : HeadInv .any l.toArray n (Array.replicate l.toArray.size false) :=
    ⟨by simp, fun j oj _ hl => (by rw [getD_replicate_false] at hl; cases hl), fun t _ ht => getD_in (by simpa using ht) (getD_replicate_false _ _)⟩
  have := head_any (P := P) (ops := l.toArray) (hd := (l.take n).toArray) (md := .any) (C := C) (n := n) (g := l.length - n) (Q' := Q) (full := Array.replicate n true ++ Array.replicate (l.length - n) false)
    (fun j hj => by simp [hj]) (by simp; omega) (by simpa using hn) hs hc hb (by simp; omega) (fun j hj => by
      have hj' : j < l.length := by simpa using hj
      by_cases h1 : j < n
      · simp [h1, Array.getElem?_append]
      · have h2 : j - n < l.length - n := by omega
        simp [h1, Array.getElem?_append, h2])
    (fun a' w' hw' hQ => by
      have := wpAny_of_seq (md := .any) (Q' := Q) (l.drop n) n (Array.replicate n true ++ Array.replicate (l.length - n) false) a' w' (fun j => by simp [List.getElem?_drop]) (by rw [List.length_drop]; exact hq) (hQ w' hw')
      rwa [List.length_drop] at this)
    _ _ _ a _ (by simp) inv0 (fun j hj => by
      rw [getD_in (by simp; omega) (getD_replicate_false _ _), getD_in (by simpa using hj) (getD_replicate_false _ _)]) hC H
  rw [htl, show n + (l.length - n) = l.toArray.size by simp; omega] at this
  exact this
end

end Fr
end Go.Proofs.YtiebhlmjpnhepaaDoor
