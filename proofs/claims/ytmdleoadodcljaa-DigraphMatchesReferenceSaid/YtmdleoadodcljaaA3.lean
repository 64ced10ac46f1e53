/- A law for statements that leave the order of their operations open: all but the last operations keep a class of worlds and yield the same values in each of its worlds; the last operations come in one order. Then one walk in the order of the text serves every order. A law for statements that leave the order of their operations open and make variables beside: n operations that only read and call (each leaves what lies), m operations that make a variable each, at whatever moment, and, behind all of them, the others in one order. One walk in the order of the text serves every order; of the variables' blocks it is said that they are new, apart from each other, and as they were made. The law for statements that leave the order of their operations open and make variables beside. The law for statements that leave the order of their operations open and make one variable, or two, beside. -/
import Derived.StillTail
import Derived.Deep.Quiet
import Derived.Below
import Derived.Laws.NewBlocks
namespace Go.Proofs.Ytmdleoadodcljaa
namespace Fr

section
variable {P : Program} {ops hd : Array Oper} {md : Region.Mode} {C : World → Prop}

/-- An operation below n has no guard from n on, and waits for lesser ones alone. -/
def headB (md : Region.Mode) (ops : Array Oper) (n : Nat) : Bool :=
  (List.range n).all fun i => match ops[i]? with
    | some o => (match o.guard with | some (g, _) => decide (g < n) | none => true) && o.after.all fun e => !Region.binds md e || decide (e.on < i)
    | none => false

theorem headB_spec {n : Nat} (h : headB md ops n = true) {i : Nat} (hi : i < n) {o : Oper} (ho : ops[i]? = some o) :
    (∀ g b, o.guard = some (g, b) → g < n) ∧ ∀ e ∈ o.after, Region.binds md e = true → e.on < i := by
  have h1 := List.all_eq_true.1 h i (List.mem_range.2 hi)
  simp only [ho, Bool.and_eq_true] at h1
  refine ⟨fun g b hg => ?_, fun e he hb => ?_⟩
  · have h2 := h1.1
    rw [hg] at h2
    simpa using h2
  · have h2 := Array.all_eq_true_iff_forall_mem.1 h1.2 e he
    simpa [hb] using h2

theorem any_more {Q : Exit → Act → World → Prop} : ∀ (f : Nat) (listed : Array Bool) (a : Act) (w : World), wpAny P md ops Q f listed a w → wpAny P md ops Q (f + 1) listed a w
  | 0, listed, a, w, h => ⟨fun _ => h.2, fun i hi => by rw [h.1] at hi; cases hi⟩
  | f + 1, listed, a, w, h => ⟨h.1, fun i hi => wpOp_mono (fun a' w' h' => any_more f _ a' w' h') (h.2 i hi)⟩
theorem any_more' {Q : Exit → Act → World → Prop} (g : Nat) {listed : Array Bool} {a : Act} {w : World} (h : wpAny P md ops Q g listed a w) : ∀ f, wpAny P md ops Q (f + g) listed a w
  | 0 => by rw [Nat.zero_add]; exact h
  | f + 1 => by rw [show f + 1 + g = (f + g) + 1 by omega]; exact any_more _ _ _ _ (any_more' g h f)

/-- Some operation of the head has not come up: then one of them may come up. -/
theorem head_ready {n : Nat} (hB : headB md ops n = true) (hsz : n ≤ ops.size) {la : Array Bool} : ∀ (i : Nat), i < n → la.getD i true = false → (∀ j, j < n → la.getD j true = la.getD j false) → ∃ k, k < n ∧ k ∈ Region.ready md ops la := by
  intro i
  induction i using Nat.strongRecOn with
  | _ i ih =>
    intro hi hun hboth
    obtain ⟨o, ho⟩ : ∃ o, ops[i]? = some o := ⟨_, Array.getElem?_eq_getElem (by omega)⟩
    have hs := headB_spec hB hi ho
    by_cases hall : ∀ e ∈ o.after, Region.binds md e = true → la.getD e.on false = true
    · exact ⟨i, hi, mem_ready.2 ⟨hun, o, ho, hall⟩⟩
    · obtain ⟨e, he⟩ := Classical.not_forall.1 hall
      obtain ⟨he, h2⟩ := Classical.not_imp.1 he
      obtain ⟨hb, h3⟩ := Classical.not_imp.1 h2
      have hlt := hs.2 e he hb
      refine ih e.on hlt (by omega) ?_ hboth
      rw [hboth e.on (by omega)]
      simpa using h3

theorem wanted_head {n : Nat} (hhd : ∀ j, j < n → hd[j]? = ops[j]?) (hB : headB md ops n = true) {i : Nat} (hi : i < n) {o : Oper} (ho : ops[i]? = some o) (t : Array Value) :
    Region.wanted o (yielded hd t) = Region.wanted o (yielded ops t) := by
  have hs := headB_spec hB hi ho
  have hy : ∀ g b, o.guard = some (g, b) → yielded hd t g = yielded ops t g := fun g b hg => by
    unfold yielded
    rw [hhd g (hs.1 g b hg)]
  unfold Region.wanted
  split
  · rfl
  · rename_i g b hg
    rw [hy g b hg]

theorem head_any {n g : Nat} {Q : Act → Prop} {Q' : Exit → Act → World → Prop} {full : Array Bool} (hhd : ∀ j, j < n → hd[j]? = ops[j]?) (hsz : hd.size = n) (hn : n < ops.size)
    (hs : Region.sinkB md ops n = true) (hc : Region.chainB md ops n = true) (hB : headB md ops n = true) (hfz : full.size = ops.size) (hf : ∀ j, j < ops.size → full.getD j true = decide (j < n))
    (hQ : ∀ a w, C w → Q a → wpAny P md ops Q' g full a w) :
    ∀ (f : Nat) (lh la : Array Bool) (a : Act) (w : World), lh.size = n → HeadInv md ops n la → (∀ j, j < n → la.getD j true = lh.getD j true) → C w → wpAnyQ P md hd C Q f lh a → wpAny P md ops Q' (f + g) la a w := by
  have fin : ∀ (f : Nat) (la : Array Bool) (a : Act) (w : World), HeadInv md ops n la → (∀ j, j < n → la.getD j true = true) → C w → Q a → wpAny P md ops Q' (f + g) la a w := by
    intro f la a w inv hall hw hq
    have : la = full := by
      refine Array.ext (inv.size.trans hfz.symm) fun j h1 h2 => ?_
      have hjo : j < ops.size := by rw [← inv.size]; exact h1
      have e1 : la.getD j true = full.getD j true := by
        rw [hf j hjo]
        by_cases hj : j < n
        · rw [hall j hj]; simp [hj]
        · rw [inv.tail j (by omega) hjo]; simp [hj]
      simpa [h1, h2] using e1
    subst this
    exact any_more' g (hQ a w hw hq) f
  have both : ∀ (lh la : Array Bool), lh.size = n → HeadInv md ops n la → (∀ j, j < n → la.getD j true = lh.getD j true) → (∀ j, j < n → la.getD j true = la.getD j false) ∧ ∀ j, j < n → lh.getD j false = la.getD j false := by
    intro lh la hlz inv hll
    have h1 : ∀ j, j < n → la.getD j true = la.getD j false := fun j hj => by
      have : j < la.size := by rw [inv.size]; omega
      simp [this]
    refine ⟨h1, fun j hj => ?_⟩
    have : j < lh.size := by omega
    rw [← h1 j hj, hll j hj]
    simp [this]
  have same : ∀ (lh la : Array Bool), lh.size = n → HeadInv md ops n la → (∀ j, j < n → la.getD j true = lh.getD j true) → ∀ i, i < n → (i ∈ Region.ready md ops la ↔ i ∈ Region.ready md hd lh) := by
    intro lh la hlz inv hll i hi
    have hb := both lh la hlz inv hll
    rw [mem_ready, mem_ready, hll i hi, hhd i hi]
    refine and_congr_right fun _ => ⟨fun ⟨o, ho, h⟩ => ⟨o, ho, fun e he hbi => ?_⟩, fun ⟨o, ho, h⟩ => ⟨o, ho, fun e he hbi => ?_⟩⟩
    · have := (headB_spec hB hi ho).2 e he hbi
      rw [hb.2 e.on (by omega)]; exact h e he hbi
    · have := (headB_spec hB hi ho).2 e he hbi
      rw [← hb.2 e.on (by omega)]; exact h e he hbi
  have step : ∀ (lh la : Array Bool), lh.size = n → HeadInv md ops n la → (∀ j, j < n → la.getD j true = lh.getD j true) → (∀ j, j < n → la.getD j true = true) ∨ (Region.ready md hd lh ≠ [] ∧ ∃ i, i < n ∧ la.getD i true = false) := by
    intro lh la hlz inv hll
    by_cases hall : ∀ j, j < n → la.getD j true = true
    · exact .inl hall
    · obtain ⟨i, hi⟩ := Classical.not_forall.1 hall
      obtain ⟨hi, hun⟩ := Classical.not_imp.1 hi
      have hun' : la.getD i true = false := by simpa using hun
      obtain ⟨k, hk, hkr⟩ := head_ready hB (by omega) i hi hun' (both lh la hlz inv hll).1
      have := (same lh la hlz inv hll k hk).1 hkr
      exact .inr ⟨fun h => (by rw [h] at this; cases this), i, hi, hun'⟩
  intro f
  induction f with
  | zero =>
    intro lh la a w hlz inv hll hw h
    rcases step lh la hlz inv hll with hall | ⟨hne, _⟩
    · exact fin 0 la a w inv hall hw h.2
    · exact absurd h.1 hne
  | succ f ih =>
    intro lh la a w hlz inv hll hw h
    rcases step lh la hlz inv hll with hall | ⟨hne, i0, hi0, hun0⟩
    · refine fin (f + 1) la a w inv hall hw (h.1 ?_)
      refine List.eq_nil_iff_forall_not_mem.2 fun j hj => ?_
      have hjn : j < n := by
        obtain ⟨_, o, ho, _⟩ := mem_ready.1 hj
        have := (Array.getElem?_eq_some_iff.1 ho).1
        omega
      have h1 := (mem_ready.1 hj).1
      rw [← hll j hjn, hall j hjn] at h1
      cases h1
    · rw [show f + 1 + g = (f + g) + 1 by omega]
      have hlow : ∀ t, t ∈ Region.ready md ops la → t < n := fun t ht => by
        rcases Nat.lt_or_ge t n with h' | h'
        · exact h'
        · exact absurd ht (tail_waits hs hc hn inv _ i0 rfl hi0 hun0 t h')
      refine ⟨fun h0 => ?_, fun i hi => ?_⟩
      · exfalso
        apply hne
        refine List.eq_nil_iff_forall_not_mem.2 fun j hj => ?_
        have hjn : j < n := by
          obtain ⟨_, o, ho, _⟩ := mem_ready.1 hj
          have := (Array.getElem?_eq_some_iff.1 ho).1
          omega
        have := (same lh la hlz inv hll j hjn).2 hj
        rw [h0] at this
        cases this
      · have hin := hlow i hi
        have hq := h.2 i ((same lh la hlz inv hll i hin).1 hi)
        obtain ⟨_, o, ho, _⟩ := mem_ready.1 hi
        have go : ∀ a' w', C w' → wpAnyQ P md hd C Q f (lh.setIfInBounds i true) a' → wpAny P md ops Q' (f + g) (la.setIfInBounds i true) a' w' := fun a' w' hw' h' => by
          refine ih (lh.setIfInBounds i true) (la.setIfInBounds i true) a' w' (by simpa using hlz) (inv.set hi hin) (fun j hj => ?_) hw' h'
          by_cases hij : i = j
          · subst hij
            have h1 : i < la.size := by rw [inv.size]; omega
            have h2 : i < lh.size := by omega
            simp [h1, h2]
          · rw [getD_set_ne true hij, getD_set_ne true hij]; exact hll j hj
        have ho' : hd[i]? = some o := by rw [hhd i hin]; exact ho
        unfold qOp at hq
        simp only [ho'] at hq
        rw [wanted_head hhd hB hin ho] at hq
        unfold wpOp
        simp only [ho]
        split
        · rename_i hwt
          simp only [hwt, if_true] at hq
          exact .inl (Oper.wp_of_quiet hw go hq)
        · rename_i hwt
          simp only [hwt] at hq
          exact go _ _ hw hq

/-- What is asked of a region of which the first n operations may come in any order, and the others in one. -/
def classTailB (md : Region.Mode) (l : List Oper) (n : Nat) : Bool :=
  Region.lexB md (l.take n).toArray && decide (n < l.length) && Region.sinkB md l.toArray n && Region.chainB md l.toArray n && headB md l.toArray n &&
    Region.seqB md l.toArray (l.length - n) n (Array.replicate n true ++ Array.replicate (l.length - n) false)

theorem wp_region_class_tail {id : Nat} {Q : Exit → Act → World → Prop} {a : Act} {w : World} {l : List Oper} (n : Nat) (hm : P.follows .mixedOrders = true) (hB : classTailB .any l n = true)
    (hC : C { w with drawn := w.drawn + 1 }) (h : wpQuiet P (l.take n).toArray C (fun a' => ∀ w', C w' → wpList P l.toArray Q (l.drop n) a' w') (l.take n) a) : (Code.region id l.toArray true).wp P Q a w := by
  simp only [classTailB, Bool.and_eq_true, decide_eq_true_eq] at hB
  obtain ⟨⟨⟨⟨⟨hlex, hn⟩, hs⟩, hc⟩, hb⟩, hq⟩ := hB
  simp only [Region.lexB, Bool.and_eq_true] at hlex
  have htl : (l.take n).length = n := by simp; omega
  have H := wpAnyQ_lex (C := C) (md := .any) hlex.1 (l.take n) 0 (Array.replicate n false) a (by simp) (by simpa [htl] using hlex.2) h
  refine wp_region_any hm ?_
  have inv0 : HeadInv .any l.toArray n (Array.replicate l.toArray.size false) :=
    ⟨by simp, fun j oj _ hl => (by rw [getD_replicate_false] at hl; cases hl), fun t _ ht => getD_in (by simpa using ht) (getD_replicate_false _ _)⟩
  have := head_any (P := P) (ops := l.toArray) (hd := (l.take n).toArray) (md := .any) (C := C) (n := n) (g := l.length - n) (Q' := Q) (full := Array.replicate n true ++ Array.replicate (l.length - n) false)
    (fun j hj => by simp [hj]) (by simp; omega) (by simpa using hn) hs hc hb (by simp; omega) (fun j hj => by
      have hj' : j < l.length := by simpa using hj
      by_cases h1 : j < n
      · simp [h1, Array.getElem?_append]
      · have h2 : j - n < l.length - n := by omega
        simp [h1, Array.getElem?_append, h2])
    (fun a' w' hw' hQ => by
      have := wpAny_of_seq (md := .any) (Q' := Q) (l.drop n) n (Array.replicate n true ++ Array.replicate (l.length - n) false) a' w' (fun j => by simp [List.getElem?_drop]) (by rw [List.length_drop]; exact hq) (hQ w' hw')
      rwa [List.length_drop] at this)
    _ _ _ a _ (by simp) inv0 (fun j hj => by
      rw [getD_in (by simp; omega) (getD_replicate_false _ _), getD_in (by simpa using hj) (getD_replicate_false _ _)]) hC H
  rw [htl, show n + (l.length - n) = l.toArray.size by simp; omega] at this
  exact this
end

end Fr
end Go.Proofs.Ytmdleoadodcljaa

namespace Go.Proofs.Ytmdleoadodcljaa
open Go.RowKit
namespace Fr
set_option linter.unusedVariables false

/-- A class of worlds that come later than W, with each world also all that come later than it. -/
structure Cls (W : World) where
  C : World → Prop
  sub : ∀ w, C w → Below W.heap.size W w
  closed : ∀ w w', C w → Below w.heap.size w w' → C w'
  wit : World
  mem : C wit
structure In {W : World} (c : Cls W) where
  val : World
  mem : c.C val
instance {W : World} (c : Cls W) : Inhabited (In c) := ⟨⟨c.wit, c.mem⟩⟩
theorem In.below {W : World} {c : Cls W} (p : In c) : Below W.heap.size W p.val := c.sub _ p.mem

theorem in_of {P : Program} {f : FuncId} {args : Array Value} {W : World} {c : Cls W} {p : In c} {v : Value} (h : Calls P f args p.val fun e w' => e = .returned v ∧ Below p.val.heap.size p.val w') :
    Calls P f args p.val fun e w'' => e = .returned v ∧ ∃ q : In c, w'' = q.val :=
  h.mono fun _ w' ⟨he, hb⟩ => ⟨he, ⟨w', c.closed _ _ p.mem hb⟩, rfl⟩
theorem in_same {P : Program} {f : FuncId} {args : Array Value} {W : World} {c : Cls W} {p : In c} {v : Value} (h : Calls P f args p.val fun e w' => e = .returned v ∧ p.val = w') :
    Calls P f args p.val fun e w'' => e = .returned v ∧ ∃ q : In c, w'' = q.val :=
  h.mono fun _ w' ⟨he, hb⟩ => ⟨he, p, hb.symm⟩
theorem In.cell {W : World} {c : Cls W} {a : Addr} {v : Value} (hc : W.cell? a = some v) (hb : a.block < W.heap.size) (p : In c) : p.val.cell? a = some v := (p.below.cell hb).trans hc

section
variable {P : Program} {ops hd : Array Oper} {md : Region.Mode}

/-- Where the new variables lie. -/
def ptr (B : Nat) : Value := .pointer (some ⟨B, 0, none⟩)

/-- The worlds of a moment: later than W, and each variable that has been made lies in a new block, as it was made. -/
def Made (W : World) (m : Nat) (O : Nat → Obj) (β : Nat → Option Nat) (w : World) : Prop :=
  Below W.heap.size W w ∧ (∀ j, j < m → ∀ B, β j = some B → W.heap.size ≤ B ∧ w.heap[B]? = some (O j)) ∧ ∀ j k, j < m → k < m → ∀ B, β j = some B → β k = some B → j = k

theorem Made.lt {W : World} {m : Nat} {O : Nat → Obj} {β : Nat → Option Nat} {w : World} (h : Made W m O β w) {j B : Nat} (hj : j < m) (hB : β j = some B) : B < w.heap.size := by
  have := (h.2.1 j hj B hB).2
  exact (Array.getElem?_eq_some_iff.1 this).1

def Made.cls {W : World} {m : Nat} {O : Nat → Obj} {β : Nat → Option Nat} {w : World} (h : Made W m O β w) : Cls W where
  C := Made W m O β
  sub _ h := h.1
  closed w w' h hb := ⟨h.1.trans (hb.mono h.1.size), fun j hj B hB => ⟨(h.2.1 j hj B hB).1, (hb.block B (h.lt hj hB)).trans (h.2.1 j hj B hB).2⟩, h.2.2⟩
  wit := w
  mem := h

/-- The state of the walk, and the state in which the variables made so far are known too. -/
structure Agr (D : Nat → Nat) (m : Nat) (β : Nat → Option Nat) (a aq : Act) : Prop where
  defers : a.defers = aq.defers
  size : a.tmps.size = aq.tmps.size
  off : ∀ t, (∀ j, j < m → D j ≠ t) → a.tmps[t]? = aq.tmps[t]?
  on : ∀ j, j < m → a.tmps[D j]? = (match β j with | some B => if D j < aq.tmps.size then some (ptr B) else none | none => aq.tmps[D j]?)

theorem Agr.eval {D : Nat → Nat} {m : Nat} {β : Nat → Option Nat} {a aq : Act} (h : Agr D m β a aq) {o : Oper} (hap : ∀ j, j < m → D j ∉ o.looksAt ops) (hs : ∀ cs b, o.op ≠ .select cs b) : execOp a.eval o = execOp aq.eval o :=
  execOp_congr o hs fun x hx => by
    cases x with
    | tmp t =>
      have ht : ∀ j, j < m → D j ≠ t := fun j hj e => hap j hj (List.mem_append_left _ (List.mem_filterMap.2 ⟨.tmp t, by simpa using hx, by simp [e]⟩))
      simp only [Act.eval, Array.getD_eq_getD_getElem?, h.off t ht]
    | _ => rfl

theorem Agr.wanted {D : Nat → Nat} {m : Nat} {β : Nat → Option Nat} {a aq : Act} (h : Agr D m β a aq) {o : Oper} (hap : ∀ j, j < m → D j ∉ o.looksAt ops) : Region.wanted o (yielded ops a.tmps) = Region.wanted o (yielded ops aq.tmps) := by
  have hy : ∀ g b, o.guard = some (g, b) → yielded ops a.tmps g = yielded ops aq.tmps g := fun g b hg => by
    unfold yielded
    cases hd : (ops[g]?).bind (·.dst) with
    | none => rfl
    | some d =>
      have ht : ∀ j, j < m → D j ≠ d := fun j hj e => hap j hj (List.mem_append_right _ (by simp [hg, hd, e]))
      simp only [Option.bind_some, h.off d ht]
  unfold Region.wanted
  split
  · rfl
  · rename_i g b hg
    rw [hy g b hg]

theorem Agr.put {D : Nat → Nat} {m : Nat} {β : Nat → Option Nat} {a aq : Act} (h : Agr D m β a aq) {dst : Option Tmp} (hd : ∀ d, dst = some d → ∀ j, j < m → D j ≠ d) (v : Value) : Agr D m β (a.put dst v) (aq.put dst v) := by
  cases dst with
  | none => exact h
  | some d =>
    refine ⟨h.defers, by simpa [Act.put] using h.size, fun t ht => ?_, fun j hj => ?_⟩
    · simp only [Act.put, Array.getElem?_setIfInBounds, h.size]
      by_cases e : d = t
      · simp [e]
      · simp only [e, if_false]; exact h.off t ht
    · have e := hd d rfl j hj
      simp only [Act.put, Array.getElem?_setIfInBounds_ne (Ne.symm e), Array.size_setIfInBounds]
      exact h.on j hj

theorem Agr.make {D : Nat → Nat} {m : Nat} {β : Nat → Option Nat} {a aq : Act} (h : Agr D m β a aq) (hinj : ∀ j k, j < m → k < m → D j = D k → j = k) {i : Nat} (hi : i < m) (B : Nat) :
    Agr D m (fun j => if j = i then some B else β j) (a.put (some (D i)) (ptr B)) aq := by
  refine ⟨h.defers, by simpa [Act.put] using h.size, fun t ht => ?_, fun j hj => ?_⟩
  · simp only [Act.put, Array.getElem?_setIfInBounds_ne (ht i hi)]
    exact h.off t ht
  · by_cases e : j = i
    · subst e
      simp only [Act.put, if_true, Array.getElem?_setIfInBounds_self]
      rw [h.size]
    · have hne : D i ≠ D j := fun e' => e (hinj j i hj hi e'.symm)
      simp only [Act.put, Array.getElem?_setIfInBounds_ne hne, e, if_false]
      exact h.on j hj

/-- A slot that no operation to come writes stays as it is. -/
theorem slot_stays {C : World → Prop} {A : Act} {d : Nat} : ∀ (f : Nat) (listed : Array Bool) (a : Act), (∀ i o, hd[i]? = some o → listed.getD i true = false → o.dst ≠ some d) → wpAnyQ P md hd C (fun a' => a' = A) f listed a → a.tmps[d]? = A.tmps[d]? ∧ a.tmps.size = A.tmps.size
  | 0, listed, a, _, h => by rw [h.2]; exact ⟨rfl, rfl⟩
  | f + 1, listed, a, hno, h => by
    cases hr : Region.ready md hd listed with
    | nil => rw [h.1 hr]; exact ⟨rfl, rfl⟩
    | cons i rest =>
      have hi : i ∈ Region.ready md hd listed := by rw [hr]; simp
      obtain ⟨hun, o, ho, _⟩ := mem_ready.1 hi
      have hq := h.2 i hi
      have hod := hno i o ho hun
      have next : ∀ v, wpAnyQ P md hd C (fun a' => a' = A) f (listed.setIfInBounds i true) (a.put o.dst v) → a.tmps[d]? = A.tmps[d]? ∧ a.tmps.size = A.tmps.size := fun v hv => by
        have := slot_stays f _ _ (fun k ok hk hku => by
          by_cases hik : i = k
          · subst hik
            have : ok = o := Option.some.inj (hk.symm.trans ho)
            subst this
            exact hod
          · exact hno k ok hk (by rw [getD_set_ne true hik] at hku; exact hku)) hv
        cases hdst : o.dst with
        | none => rw [hdst] at this; exact this
        | some e =>
          rw [hdst] at this hod
          have hne : e ≠ d := fun h' => hod (by rw [h'])
          simpa [Act.put, Array.getElem?_setIfInBounds_ne hne] using this
      unfold qOp at hq
      simp only [ho] at hq
      split at hq
      · obtain ⟨v, _, hv⟩ := hq
        exact next v hv
      · exact next undef hq
end

end Fr
end Go.Proofs.Ytmdleoadodcljaa

namespace Go.Proofs.Ytmdleoadodcljaa
open Go.RowKit
namespace Fr
set_option linter.unusedVariables false

section
variable {P : Program} {ops hd : Array Oper} {md : Region.Mode}

theorem count_set {la : Array Bool} {i F : Nat} (hi : la.getD i true = false) (h : la.toList.count false = F + 1) : (la.setIfInBounds i true).toList.count false = F := by
  have hlt : i < la.size := by
    rcases Nat.lt_or_ge i la.size with h' | h'
    · exact h'
    · simp [Array.getElem?_eq_none h'] at hi
  have hv : la.toList[i]'(by simpa using hlt) = false := by simpa [hlt] using hi
  have := List.count_set (a := true) (b := false) (l := la.toList) (i := i) (by simpa using hlt)
  rw [Array.toList_setIfInBounds, this, hv, h]
  simp

/-- What is asked of one operation that makes a variable. -/
def MakesAt (P : Program) (md : Region.Mode) (ops : Array Oper) (i d : Nat) (ob : Obj) : Prop :=
  ∃ o, ops[i]? = some o ∧ o.guard = none ∧ o.dst = some d ∧ (∀ e ∈ o.after, Region.binds md e = true → e.on < i) ∧ ∀ (a : Act) (w : World), (execOp a.eval o).run P w = .ok (.value (ptr w.heap.size)) (w.alloc ob)

structure Shape (P : Program) (md : Region.Mode) (ops hd : Array Oper) (n m : Nat) (D : Nat → Nat) (O : Nat → Obj) : Prop where
  head : ∀ j, j < n → hd[j]? = ops[j]?
  hsize : hd.size = n
  lt : n + m < ops.size
  sel : Region.noSelect ops = true
  headB : headB md ops n = true
  waits : ∀ i, i < n + m → Region.waitsFor md ops (n + m) i = true
  chain : ∀ t, n + m < t → t < ops.size → Region.waitsFor md ops t (t - 1) = true
  makes : ∀ j, j < m → MakesAt P md ops (n + j) (D j) (O j)
  apart : ∀ i, i < n → ∀ o, ops[i]? = some o → ∀ j, j < m → D j ∉ o.looksAt ops ∧ o.dst ≠ some (D j)
  dist : ∀ i k, i < n → k < n → i ≠ k → ∀ o o', ops[i]? = some o → ops[k]? = some o' → ∀ d, o.dst = some d → o'.dst ≠ some d
  inj : ∀ j k, j < m → k < m → D j = D k → j = k

theorem grow_any {n m g : Nat} {D : Nat → Nat} {O : Nat → Obj} {W : World} {A : Act} {Q' : Exit → Act → World → Prop} {full : Array Bool} (S : Shape P md ops hd n m D O)
    (hfz : full.size = ops.size) (hf : ∀ j, j < ops.size → full.getD j true = decide (j < n + m)) (hg : full.toList.count false = g)
    (hQ : ∀ a w β, (∀ j, j < m → ∃ B, β j = some B) → Made W m O β w → Agr D m β a A → wpAny P md ops Q' g full a w) :
    ∀ (F : Nat) (la lh : Array Bool) (aq a : Act) (β : Nat → Option Nat) (w : World) (fh : Nat), la.toList.count false = F → la.size = ops.size → lh.size = n → (∀ j, j < n → la.getD j true = lh.getD j true) →
      (∀ j, j < m → la.getD (n + j) true = (β j).isSome) → (∀ t, n + m ≤ t → t < ops.size → la.getD t true = false) → Made W m O β w → Agr D m β a aq →
      (∀ c : Cls W, wpAnyQ P md hd c.C (fun a' => a' = A) fh lh aq) → wpAny P md ops Q' F la a w := by
  intro F
  induction F with
  | zero =>
    intro la lh aq a β w fh hc hz hlz hh hm ht hM hA hW
    exfalso
    have h1 := ht (n + m) (Nat.le_refl _) S.lt
    have h2 : n + m < la.size := by rw [hz]; exact S.lt
    have h3 : false ∈ la.toList := by
      have : la[n + m] = false := by simpa [h2] using h1
      rw [← this]
      simp
    have := List.count_pos_iff.2 h3
    omega
  | succ F ih =>
    intro la lh aq a β w fh hc hz hlz hh hm ht hM hA hW
    have both : ∀ j, j < ops.size → la.getD j true = la.getD j false := fun j hj => by
      have : j < la.size := by rw [hz]; exact hj
      simp [this]
    have bothh : ∀ j, j < n → lh.getD j false = la.getD j false := fun j hj => by
      have h1 : j < lh.size := by omega
      have h2 := S.lt
      rw [← both j (by omega), hh j hj]
      simp [h1]
    have same : ∀ i, i < n → (i ∈ Region.ready md ops la ↔ i ∈ Region.ready md hd lh) := fun i hi => by
      rw [mem_ready, mem_ready, hh i hi, S.head i hi]
      refine and_congr_right fun _ => ⟨fun ⟨o, ho, h⟩ => ⟨o, ho, fun e he hb => ?_⟩, fun ⟨o, ho, h⟩ => ⟨o, ho, fun e he hb => ?_⟩⟩
      · have := (headB_spec S.headB hi ho).2 e he hb
        rw [bothh e.on (by omega)]; exact h e he hb
      · have := (headB_spec S.headB hi ho).2 e he hb
        rw [← bothh e.on (by omega)]; exact h e he hb
    by_cases hall : ∀ j, j < n + m → la.getD j true = true
    · -- all have come up but those in one order
      have e : la = full := by
        refine Array.ext (hz.trans hfz.symm) fun j h1 h2 => ?_
        have hjo : j < ops.size := by rw [← hz]; exact h1
        have e1 : la.getD j true = full.getD j true := by
          rw [hf j hjo]
          by_cases hj : j < n + m
          · rw [hall j hj]; simp [hj]
          · rw [ht j (by omega) hjo]; simp [hj]
        simpa [h1, h2] using e1
      have hgF : g = F + 1 := by rw [← hg, ← e, hc]
      rw [e, ← hgF]
      refine hQ a w β (fun j hj => ?_) hM ?_
      · have := hm j hj
        rw [hall (n + j) (by omega)] at this
        exact Option.isSome_iff_exists.1 this.symm
      · have hnil : Region.ready md hd lh = [] := by
          refine List.eq_nil_iff_forall_not_mem.2 fun j hj => ?_
          have hjn : j < n := by
            obtain ⟨_, o, ho, _⟩ := mem_ready.1 hj
            have := (Array.getElem?_eq_some_iff.1 ho).1
            have := S.hsize
            omega
          have h1 := (mem_ready.1 hj).1
          rw [← hh j hjn, hall j (by omega)] at h1
          cases h1
        have hEq : aq = A := by
          have := hW hM.cls
          cases fh with
          | zero => exact this.2
          | succ f => exact this.1 hnil
        rw [← hEq]
        exact hA
    · -- some have not
      obtain ⟨i0, hi0⟩ := Classical.not_forall.1 hall
      obtain ⟨hi0, hun0⟩ := Classical.not_imp.1 hi0
      have hun0 : la.getD i0 true = false := by simpa using hun0
      have hlow : ∀ t, t ∈ Region.ready md ops la → t < n + m := fun t hr => by
        rcases Nat.lt_or_ge t (n + m) with h' | h'
        · exact h'
        · exfalso
          obtain ⟨_, ot, hot, hallt⟩ := mem_ready.1 hr
          have htlt : t < ops.size := (Array.getElem?_eq_some_iff.1 hot).1
          by_cases htn : t = n + m
          · subst htn
            obtain ⟨o', ho', e, he, hb, hon⟩ := Region.waitsFor_spec (S.waits i0 hi0)
            have : o' = ot := Option.some.inj (ho'.symm.trans hot)
            subst this
            have h2 := hallt e he hb
            rw [hon, getD_both hun0] at h2
            cases h2
          · obtain ⟨o', ho', e, he, hb, hon⟩ := Region.waitsFor_spec (S.chain t (by omega) htlt)
            have : o' = ot := Option.some.inj (ho'.symm.trans hot)
            subst this
            have h2 := hallt e he hb
            rw [hon, getD_both (ht (t - 1) (by omega) (by omega))] at h2
            cases h2
      -- one of them may come up
      have hsome : ∃ k, k ∈ Region.ready md ops la := by
        have : ∀ i, i < n + m → la.getD i true = false → ∃ k, k ∈ Region.ready md ops la := by
          intro i
          induction i using Nat.strongRecOn with
          | _ i ihs =>
            intro hi hun
            have hlt := S.lt
            obtain ⟨o, ho⟩ : ∃ o, ops[i]? = some o := ⟨_, Array.getElem?_eq_getElem (by omega)⟩
            have hback : ∀ e ∈ o.after, Region.binds md e = true → e.on < i := by
              by_cases hin : i < n
              · exact (headB_spec S.headB hin ho).2
              · obtain ⟨o', ho', _, _, hb, _⟩ := S.makes (i - n) (by omega)
                rw [show n + (i - n) = i by omega] at ho' hb
                have : o' = o := Option.some.inj (ho'.symm.trans ho)
                subst this
                exact hb
            by_cases hallb : ∀ e ∈ o.after, Region.binds md e = true → la.getD e.on false = true
            · exact ⟨i, mem_ready.2 ⟨hun, o, ho, hallb⟩⟩
            · obtain ⟨e, he⟩ := Classical.not_forall.1 hallb
              obtain ⟨he, h2⟩ := Classical.not_imp.1 he
              obtain ⟨hb, h3⟩ := Classical.not_imp.1 h2
              have hlte := hback e he hb
              exact ihs e.on hlte (by omega) (by rw [both e.on (by omega)]; simpa using h3)
        exact this i0 hi0 hun0
      refine ⟨fun h0 => ?_, fun i hi => ?_⟩
      · obtain ⟨k, hk⟩ := hsome
        rw [h0] at hk
        cases hk
      · have hin := hlow i hi
        obtain ⟨hun, o, ho, _⟩ := mem_ready.1 hi
        have hcnt := count_set hun hc
        have hlt := S.lt
        by_cases hhead : i < n
        · -- an operation that reads or calls
          have hrh := (same i hhead).1 hi
          obtain ⟨f, rfl⟩ : ∃ f, fh = f + 1 := by
            cases fh with
            | zero =>
              have := (hW hM.cls).1
              rw [this] at hrh
              cases hrh
            | succ f => exact ⟨f, rfl⟩
          have hoh : hd[i]? = some o := by rw [S.head i hhead]; exact ho
          have hap := S.apart i hhead o ho
          have hgoal : ∀ v, (∀ c : Cls W, wpAnyQ P md hd c.C (fun a' => a' = A) f (lh.setIfInBounds i true) (aq.put o.dst v)) → ∀ w', Made W m O β w' → wpAny P md ops Q' F (la.setIfInBounds i true) (a.put o.dst v) w' := fun v hv w' hM' => by
            refine ih _ (lh.setIfInBounds i true) (aq.put o.dst v) (a.put o.dst v) β w' f hcnt (by simpa using hz) (by simpa using hlz) (fun j hj => ?_) (fun j hj => ?_) (fun t h1 h2 => ?_) hM' (hA.put (fun d hd j hj e => (hap j hj).2 (by rw [hd, e])) v) hv
            · by_cases hij : i = j
              · subst hij
                have h1 : i < la.size := by omega
                have h2 : i < lh.size := by omega
                simp [h1, h2]
              · rw [getD_set_ne true hij, getD_set_ne true hij]; exact hh j hj
            · rw [getD_set_ne true (by omega)]; exact hm j hj
            · rw [getD_set_ne true (by omega)]; exact ht t h1 h2
          have hwant : Region.wanted o (yielded hd aq.tmps) = Region.wanted o (yielded ops aq.tmps) := wanted_head S.head S.headB hhead ho aq.tmps
          have hwantA : Region.wanted o (yielded ops a.tmps) = Region.wanted o (yielded ops aq.tmps) := hA.wanted fun j hj => (hap j hj).1
          have hq := (hW hM.cls).2 i hrh
          unfold qOp at hq
          simp only [hoh] at hq
          rw [hwant] at hq
          unfold wpOp
          simp only [ho]
          rw [hwantA]
          split
          · rename_i hwt
            simp only [hwt, if_true] at hq
            obtain ⟨v, hv1, hv2⟩ := hq
            have hall2 : ∀ c : Cls W, wpAnyQ P md hd c.C (fun a' => a' = A) f (lh.setIfInBounds i true) (aq.put o.dst v) := fun c => by
              have hq2 := (hW c).2 i hrh
              unfold qOp at hq2
              simp only [hoh] at hq2
              rw [hwant] at hq2
              simp only [hwt, if_true] at hq2
              obtain ⟨v2, _, hv3⟩ := hq2
              have e : aq.put o.dst v2 = aq.put o.dst v := by
                cases hdst : o.dst with
                | none => rfl
                | some d =>
                  have hno : ∀ k ok, hd[k]? = some ok → (lh.setIfInBounds i true).getD k true = false → ok.dst ≠ some d := fun k ok hk hku => by
                    have hkn : k < n := by
                      have := (Array.getElem?_eq_some_iff.1 hk).1
                      have := S.hsize
                      omega
                    by_cases hik : i = k
                    · subst hik
                      have h2 : i < lh.size := by omega
                      simp [h2] at hku
                    · rw [S.head k hkn] at hk
                      exact S.dist i k hhead hkn hik o ok ho hk d hdst
                  have s1 := slot_stays f _ _ hno hv3
                  have s2 := slot_stays f _ _ hno hv2
                  rw [hdst] at s1 s2
                  have s3 := s1.1.trans s2.1.symm
                  simp only [Act.put, Array.getElem?_setIfInBounds_self] at s3
                  by_cases hdl : d < aq.tmps.size
                  · simp only [hdl, if_true, Option.some.injEq] at s3
                    rw [s3]
                  · have z1 : aq.tmps.setIfInBounds d v2 = aq.tmps := Array.setIfInBounds_eq_of_size_le (Nat.le_of_not_lt hdl)
                    have z2 : aq.tmps.setIfInBounds d v = aq.tmps := Array.setIfInBounds_eq_of_size_le (Nat.le_of_not_lt hdl)
                    show ({ aq with tmps := aq.tmps.setIfInBounds d v2 } : Act) = { aq with tmps := aq.tmps.setIfInBounds d v }
                    rw [z1, z2]
              rw [← e]
              exact hv3
            refine .inl (Oper.wp_of_quiet (C := Made W m O β) (K := fun a' => a' = a.put o.dst v) hM (fun a' w' hM' ha' => by subst ha'; exact hgoal v hall2 w' hM') ⟨v, fun w' hw' => ?_, rfl⟩)
            have := hv1 w' hw'
            unfold Oper.quietAt at *
            rw [hA.eval (fun j hj => (hap j hj).1) (fun cs b => Region.noSelect_spec S.sel i o cs b ho)]
            exact this
          · rename_i hwt
            simp only [hwt] at hq
            refine hgoal undef (fun c => ?_) w hM
            have hq2 := (hW c).2 i hrh
            unfold qOp at hq2
            simp only [hoh] at hq2
            rw [hwant] at hq2
            simpa [hwt] using hq2
        · -- an operation that makes a variable
          obtain ⟨j, rfl⟩ : ∃ j, i = n + j := ⟨i - n, by omega⟩
          have hj : j < m := by omega
          obtain ⟨o', ho', hgu, hdst, _, hrun⟩ := S.makes j hj
          have : o' = o := Option.some.inj (ho'.symm.trans ho)
          subst this
          unfold wpOp
          simp only [ho]
          have hwt : Region.wanted o' (yielded ops a.tmps) = true := by unfold Region.wanted; rw [hgu]
          simp only [hwt, if_true]
          refine .inl ?_
          unfold Oper.wp
          rw [hrun a w]
          show wpAny P md ops Q' F (la.setIfInBounds (n + j) true) (a.put o'.dst (ptr w.heap.size)) (w.alloc (O j))
          rw [hdst]
          have hnone : β j = none := by
            have := hm j hj
            rw [hun] at this
            cases hb : β j with
            | none => rfl
            | some B => rw [hb] at this; simp at this
          refine ih _ lh aq (a.put (some (D j)) (ptr w.heap.size)) (fun k => if k = j then some w.heap.size else β k) (w.alloc (O j)) fh hcnt (by simpa using hz) hlz (fun k hk => ?_) (fun k hk => ?_) (fun t h1 h2 => ?_) ?_ (hA.make S.inj hj _) hW
          · rw [getD_set_ne true (by omega)]; exact hh k hk
          · by_cases hkj : k = j
            · subst hkj
              have h1 : n + k < la.size := by omega
              simp [h1]
            · rw [getD_set_ne true (by omega)]; simp only [hkj, if_false]; exact hm k hk
          · rw [getD_set_ne true (by omega)]; exact ht t h1 h2
          · refine ⟨hM.1.alloc hM.1.size _, fun k hk B hB => ?_, fun k l hk hl B hB1 hB2 => ?_⟩
            · by_cases hkj : k = j
              · subst hkj
                simp only [if_true, Option.some.injEq] at hB
                subst hB
                exact ⟨hM.1.size, by unfold World.alloc; exact Array.getElem?_push_size⟩
              · simp only [hkj, if_false] at hB
                have := hM.2.1 k hk B hB
                have hlt' := hM.lt hk hB
                refine ⟨this.1, ?_⟩
                exact (Below.heap_alloc _ _ _ hlt').trans this.2
            · by_cases hkj : k = j
              · by_cases hlj : l = j
                · rw [hkj, hlj]
                · simp only [hkj, if_true, Option.some.injEq] at hB1
                  simp only [hlj, if_false] at hB2
                  have := hM.lt hl hB2
                  omega
              · by_cases hlj : l = j
                · simp only [hlj, if_true, Option.some.injEq] at hB2
                  simp only [hkj, if_false] at hB1
                  have := hM.lt hk hB1
                  omega
                · simp only [hkj, if_false] at hB1
                  simp only [hlj, if_false] at hB2
                  exact hM.2.2 k l hk hl B hB1 hB2
end

end Fr
end Go.Proofs.Ytmdleoadodcljaa

namespace Go.Proofs.Ytmdleoadodcljaa
open Go.RowKit
namespace Fr
set_option linter.unusedVariables false

section
variable {P : Program} {md : Region.Mode}

/-- The slots that the operations from n on, m of them, write. -/
def slotAt (ops : Array Oper) (n j : Nat) : Nat := (((ops[n + j]?).bind (·.dst)).getD 0)

def apartB (ops : Array Oper) (n m : Nat) : Bool :=
  (List.range n).all fun i => match ops[i]? with
    | some o => (List.range m).all fun j => !(o.looksAt ops).contains (slotAt ops n j) && o.dst != some (slotAt ops n j)
    | none => true
def distB (ops : Array Oper) (n : Nat) : Bool :=
  (List.range n).all fun i => (List.range n).all fun k => i == k || match ops[i]?, ops[k]? with
    | some o, some o' => (match o.dst with | some d => o'.dst != some d | none => true)
    | _, _ => true
def injB (ops : Array Oper) (n m : Nat) : Bool :=
  (List.range m).all fun j => (List.range m).all fun k => j == k || slotAt ops n j != slotAt ops n k

/-- What is asked of a region of which the first n operations may come in any order, m others make a variable each, and the rest comes in one order. -/
def growB (md : Region.Mode) (l : List Oper) (n m : Nat) : Bool :=
  Region.lexB md (l.take n).toArray && decide (n + m < l.length) && Region.noSelect l.toArray && headB md l.toArray n && headB md l.toArray (n + m) &&
    ((List.range (n + m)).all fun i => Region.waitsFor md l.toArray (n + m) i) && Region.chainB md l.toArray (n + m) && apartB l.toArray n m && distB l.toArray n && injB l.toArray n m &&
    Region.seqB md l.toArray (l.length - (n + m)) (n + m) (Array.replicate (n + m) true ++ Array.replicate (l.length - (n + m)) false)

theorem apartB_spec {ops : Array Oper} {n m : Nat} (h : apartB ops n m = true) {i : Nat} (hi : i < n) {o : Oper} (ho : ops[i]? = some o) {j : Nat} (hj : j < m) : slotAt ops n j ∉ o.looksAt ops ∧ o.dst ≠ some (slotAt ops n j) := by
  have h1 := List.all_eq_true.1 h i (List.mem_range.2 hi)
  simp only [ho] at h1
  have h2 := List.all_eq_true.1 h1 j (List.mem_range.2 hj)
  simpa using h2
theorem distB_spec {ops : Array Oper} {n : Nat} (h : distB ops n = true) {i k : Nat} (hi : i < n) (hk : k < n) (hne : i ≠ k) {o o' : Oper} (ho : ops[i]? = some o) (ho' : ops[k]? = some o') {d : Nat} (hd : o.dst = some d) : o'.dst ≠ some d := by
  have h1 := List.all_eq_true.1 h i (List.mem_range.2 hi)
  have h2 := List.all_eq_true.1 h1 k (List.mem_range.2 hk)
  simpa [ho, ho', hd, hne] using h2
theorem injB_spec {ops : Array Oper} {n m : Nat} (h : injB ops n m = true) {j k : Nat} (hj : j < m) (hk : k < m) (e : slotAt ops n j = slotAt ops n k) : j = k := by
  have h1 := List.all_eq_true.1 h j (List.mem_range.2 hj)
  have h2 := List.all_eq_true.1 h1 k (List.mem_range.2 hk)
  simpa [e] using h2

/-- One operation makes a variable. -/
def Makes (P : Program) (l : List Oper) (i : Nat) (ob : Obj) : Prop :=
  ∃ o, l[i]? = some o ∧ o.guard = none ∧ o.dst.isSome = true ∧ ∀ (a : Act) (w : World), (execOp a.eval o).run P w = .ok (.value (ptr w.heap.size)) (w.alloc ob)

theorem wp_region_grow {id : Nat} {Q : Exit → Act → World → Prop} {a A : Act} {W : World} {l : List Oper} (n m : Nat) (O : Nat → Obj) (hm : P.follows .mixedOrders = true) (hB : growB .any l n m = true)
    (hmk : ∀ j, j < m → Makes P l (n + j) (O j))
    (hw : ∀ c : Cls W, wpQuiet P (l.take n).toArray (fun w' => ∃ p : In c, w' = p.val) (fun a' => a' = A) (l.take n) a)
    (hrest : ∀ a' w' β, (∀ j, j < m → ∃ B, β j = some B) → Made W m O β w' → Agr (slotAt l.toArray n) m β a' A → wpList P l.toArray Q (l.drop (n + m)) a' w') : (Code.region id l.toArray true).wp P Q a W := by
  simp only [growB, Bool.and_eq_true, decide_eq_true_eq] at hB
  obtain ⟨⟨⟨⟨⟨⟨⟨⟨⟨⟨hlex, hlt⟩, hsel⟩, hb1⟩, hb2⟩, hwt⟩, hch⟩, hap⟩, hdi⟩, hinj⟩, hseq⟩ := hB
  simp only [Region.lexB, Bool.and_eq_true] at hlex
  have htl : (l.take n).length = n := by simp; omega
  have S : Shape P .any l.toArray (l.take n).toArray n m (slotAt l.toArray n) O :=
    { head := fun j hj => by simp [hj]
      hsize := by simp; omega
      lt := by simpa using hlt
      sel := hsel
      headB := hb1
      waits := fun i hi => List.all_eq_true.1 hwt i (List.mem_range.2 hi)
      chain := fun t h1 h2 => by
        have := List.all_eq_true.1 hch t (List.mem_range.2 h2)
        simp only [Bool.or_eq_true, decide_eq_true_eq] at this
        rcases this with h | h
        · omega
        · exact h
      makes := fun j hj => by
        obtain ⟨o, ho, hg, hd, hr⟩ := hmk j hj
        have ho' : l.toArray[n + j]? = some o := by simpa using ho
        obtain ⟨d, hd'⟩ := Option.isSome_iff_exists.1 hd
        refine ⟨o, ho', hg, ?_, (headB_spec hb2 (by omega) ho').2, hr⟩
        unfold slotAt
        rw [ho', hd']
        simp [hd']
      apart := fun i hi o ho j hj => apartB_spec hap hi ho hj
      dist := fun i k hi hk hne o o' ho ho' d hd => distB_spec hdi hi hk hne ho ho' hd
      inj := fun j k hj hk e => injB_spec hinj hj hk e }
  refine wp_region_any hm ?_
  refine grow_any (A := A) (W := W) (full := Array.replicate (n + m) true ++ Array.replicate (l.length - (n + m)) false) (g := l.length - (n + m)) S (by simp; omega) (fun j hj => ?_) ?_ (fun a' w' β h1 h2 h3 => ?_)
    l.toArray.size _ (Array.replicate n false) a a (fun _ => none) _ n ?_ ?_ (by simp) (fun j hj => ?_) (fun j hj => ?_) (fun t h1 h2 => ?_) ?_ ?_ (fun c => ?_)
  · have hj' : j < l.length := by simpa using hj
    by_cases h1 : j < n + m
    · simp [h1, Array.getElem?_append]
    · have h2 : j - (n + m) < l.length - (n + m) := by omega
      simp [h1, Array.getElem?_append, h2]
  · simp [List.count_replicate]
  · have := wpAny_of_seq (md := .any) (Q' := Q) (l.drop (n + m)) (n + m) (Array.replicate (n + m) true ++ Array.replicate (l.length - (n + m)) false) a' w' (fun j => by simp [List.getElem?_drop]) (by rw [List.length_drop]; exact hseq) (hrest a' w' β h1 h2 h3)
    rwa [List.length_drop] at this
  · simp
  · simp
  · rw [getD_in (by simp; omega) (getD_replicate_false _ _), getD_in (by simpa using hj) (getD_replicate_false _ _)]
  · rw [getD_in (by simp; omega) (getD_replicate_false _ _)]; rfl
  · exact getD_in (by simpa using h2) (getD_replicate_false _ _)
  · exact ⟨(Below.refl _ W).drew, fun j hj B hB => (by cases hB), fun j k hj hk B hB => (by cases hB)⟩
  · exact ⟨rfl, rfl, fun t _ => rfl, fun j _ => rfl⟩
  · have e : (fun w' => ∃ p : In c, w' = p.val) = c.C := by
      funext w'
      refine propext ⟨fun ⟨p, hp⟩ => hp ▸ p.mem, fun h => ⟨⟨w', h⟩, rfl⟩⟩
    have := hw c
    rw [e] at this
    have H := wpAnyQ_lex (C := c.C) (md := .any) hlex.1 (l.take n) 0 (Array.replicate n false) a (by simp) (by simpa [htl] using hlex.2) this
    rwa [htl] at H

/-- One variable is made beside. -/
theorem wp_region_grow1 {id : Nat} {Q : Exit → Act → World → Prop} {a A : Act} {W : World} {l : List Oper} (n : Nat) (ob : Obj) (hm : P.follows .mixedOrders = true) (hB : growB .any l n 1 = true) (hmk : Makes P l n ob)
    (hw : ∀ c : Cls W, wpQuiet P (l.take n).toArray (fun w' => ∃ p : In c, w' = p.val) (fun a' => a' = A) (l.take n) a)
    (hrest : ∀ B w', Below W.heap.size W w' → W.heap.size ≤ B → w'.heap[B]? = some ob → wpList P l.toArray Q (l.drop (n + 1)) (A.put (some (slotAt l.toArray n 0)) (.pointer (some ⟨B, 0, none⟩))) w') : (Code.region id l.toArray true).wp P Q a W := by
  refine wp_region_grow (A := A) n 1 (fun _ => ob) hm hB (fun j hj => by obtain rfl : j = 0 := (by omega); exact hmk) hw ?_
  intro a' w' β h1 h2 h3
  obtain ⟨B, hBe⟩ := h1 0 (by omega)
  have h4 := h2.2.1 0 (by omega) B hBe
  have e : a' = A.put (some (slotAt l.toArray n 0)) (.pointer (some ⟨B, 0, none⟩)) := by
    obtain ⟨at_, ad⟩ := a'
    obtain ⟨A_, Ad⟩ := A
    obtain ⟨e1, e2, e3, e4⟩ := h3
    simp only at e1 e2 e3
    subst e1
    simp only [Act.put, Act.mk.injEq, and_true]
    refine Array.ext (by simpa using e2) fun t p1 p2 => ?_
    have e5 := e4 0 (by omega)
    simp only [hBe] at e5
    by_cases ht : slotAt l.toArray n 0 = t
    · subst ht
      have p3 : slotAt l.toArray n 0 < A_.size := by simpa using p2
      simp only [p3, if_true] at e5
      have e6 : at_[slotAt l.toArray n 0]? = some at_[slotAt l.toArray n 0] := Array.getElem?_eq_getElem p1
      rw [e6] at e5
      simp only [Option.some.injEq] at e5
      simp [e5, ptr]
    · have e7 := e3 t (fun j hj e' => ht (by obtain rfl : j = 0 := (by omega); exact e'))
      rw [Array.getElem?_eq_getElem p1, Array.getElem?_eq_getElem (by simpa using p2)] at e7
      simp only [Option.some.injEq] at e7
      rw [e7, Array.getElem_setIfInBounds_ne (by simpa using p2) ht]
  rw [e]
  exact hrest B w' h2.1 h4.1 h4.2

/-- .. as one walk tells the state, and then goes on. -/
theorem wp_region_make {id : Nat} {Q : Exit → Act → World → Prop} {a : Act} {W : World} {l : List Oper} (n d : Nat) (ob : Obj) (hm : P.follows .mixedOrders = true) (hB : growB .any l n 1 = true) (hd : slotAt l.toArray n 0 = d) (hmk : Makes P l n ob)
    (h : ∃ A : Act, (∀ c : Cls W, wpQuiet P (l.take n).toArray (fun w' => ∃ p : In c, w' = p.val) (fun a' => a' = A) (l.take n) a) ∧
      ∀ B w', Below W.heap.size W w' → W.heap.size ≤ B → w'.heap[B]? = some ob → wpList P l.toArray Q (l.drop (n + 1)) ({ tmps := A.tmps.setIfInBounds d (.pointer (some ⟨B, 0, none⟩)), defers := A.defers } : Act) w') : (Code.region id l.toArray true).wp P Q a W := by
  obtain ⟨A, h1, h2⟩ := h
  refine wp_region_grow1 n ob hm hB hmk h1 ?_
  rw [hd]
  exact h2
end

end Fr
end Go.Proofs.Ytmdleoadodcljaa
