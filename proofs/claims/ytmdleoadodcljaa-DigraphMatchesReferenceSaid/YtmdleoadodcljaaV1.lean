/- A law for statements that leave the order of their operations open and whose operations make memory whose place hangs on the order: each operation has a contract of its own (what its value looks like, what it leaves in the world, kept by all that lies unturned later on); it is walked once, in the order of the text, whatever the order is. At the end every contract holds, and what two operations made lies apart. Reach from what is no node. DigraphMatchesReference: the walk. -/
import Derived.Test.YtmdleoadodcljaaL2
import Derived.Deep.RegionHeld
import Derived.Test.YtmdleoadodcljaaG6
import Derived.Test.YtmdleoadodcljaaGO
import Derived.Test.YtmdleoadodcljaaGF
import Derived.Test.YtmdleoadodcljaaGJ
import Derived.Test.YtmdleoadodcljaaYD
import Derived.Test.YtmdleoadodcljaaY7
import Derived.Test.YtmdleoadodcljaaY8
import Derived.Test.YtmdleoadodcljaaY9
namespace Go.Proofs.Ytmdleoadodcljaa
open Go.RowKit
namespace Fr
set_option linter.unusedVariables false

/-- An operation's contract: its value's look; what holds of the world ahead of it, its value, the world behind it. -/
structure FSpec where
  G : Value → Prop
  R : World → Value → World → Prop
instance : Inhabited FSpec := ⟨⟨fun _ => True, fun _ _ _ => True⟩⟩
def FSpec.det (v : Value) : FSpec := ⟨fun u => u = v, fun _ _ _ => True⟩
/-- It was done between two worlds; since then all that lay lies. -/
structure Did (s : FSpec) (p : World × World) (v : Value) (w : World) : Prop where
  good : s.G v
  post : s.R p.1 v p.2
  step : Below p.1.heap.size p.1 p.2
  since : Below p.2.heap.size p.2 w
theorem Did.keep {s : FSpec} {p : World × World} {v : Value} {w w' : World} (h : Did s p v w) (hb : Below w.heap.size w w') : Did s p v w' := ⟨h.good, h.post, h.step, h.since.trans (hb.mono h.since.size)⟩

def stepF (P : Program) (ops : Array Oper) (o : Oper) (a : Act) (w : World) (s : FSpec) : Prop :=
  if Region.wanted o (yielded ops a.tmps) = true then o.wp P a w (fun a' w' => ∃ v, a' = a.put o.dst v ∧ s.G v ∧ s.R w v w' ∧ Below w.heap.size w w') (fun _ _ _ => False) else s.G undef ∧ s.R w undef w

def updF (F : Nat → World × World → World → Prop) (i : Nat) (f : World × World → World → Prop) : Nat → World × World → World → Prop := fun j => if j = i then f else F j
/-- The operations whose slots number i looks at. -/
def depsF (ops : Array Oper) (n i : Nat) : List Nat := (List.range n).filter fun j => match ops[i]?, (ops[j]?).bind (·.dst) with | some o, some t => (o.looksAt ops).contains t | _, _ => false

def flowL (P : Program) (ops : Array Oper) (n : Nat) (w0 : World) (K : Act → World → Prop) : List Oper → List FSpec → Nat → (Nat → World × World → World → Prop) → Act → Prop
  | o :: l, s :: ss, i, F, a => (∀ w, Below w0.heap.size w0 w → (∀ j ∈ depsF ops n i, ∃ p, F j p w) → stepF P ops o a w s) ∧ (∃ v, s.G v) ∧ ∀ v, s.G v → flowL P ops n w0 K l ss (i + 1) (updF F i fun p w => Did s p v w) (a.put o.dst v)
  | [], [], _, F, a => ∀ w (ps : Nat → World × World), Below w0.heap.size w0 w → (∀ j, j < n → F j (ps j) w ∧ Below w0.heap.size w0 (ps j).1) → (∀ i j, i < n → j < n → i ≠ j → (ps i).2.heap.size ≤ (ps j).1.heap.size ∨ (ps j).2.heap.size ≤ (ps i).1.heap.size) → K a w
  | _, _, _, _, _ => False

def depB (md : Region.Mode) (ops : Array Oper) (n : Nat) : Bool :=
  (List.range n).all fun i => match ops[i]? with
    | some o => (List.range n).all fun j => match (ops[j]?).bind (·.dst) with
      | some t => !(o.looksAt ops).contains t || (decide (j < i) && o.after.any fun e => Region.binds md e && e.on == j)
      | none => true
    | none => true
theorem depB_spec {md : Region.Mode} {ops : Array Oper} {n : Nat} (h : depB md ops n = true) {i j : Nat} (hi : i < n) (hj : j < n) {o oj : Oper} (ho : ops[i]? = some o) (hoj : ops[j]? = some oj) {t : Tmp} (ht : oj.dst = some t) (hl : t ∈ o.looksAt ops) : j < i ∧ ∃ e ∈ o.after, Region.binds md e = true ∧ e.on = j := by
  have h1 := List.all_eq_true.1 h i (List.mem_range.2 hi)
  simp only [ho] at h1
  have h2 := List.all_eq_true.1 h1 j (List.mem_range.2 hj)
  simp only [hoj, Option.bind_some, ht, Bool.or_eq_true, Bool.not_eq_true', Bool.and_eq_true, decide_eq_true_eq] at h2
  rcases h2 with h2 | h2
  · have : (o.looksAt ops).contains t = true := List.contains_iff_mem.2 hl
    rw [h2] at this
    cases this
  · refine ⟨h2.1, ?_⟩
    obtain ⟨e, he, hb⟩ := Array.any_eq_true'.1 h2.2
    simp only [Bool.and_eq_true, beq_iff_eq] at hb
    exact ⟨e, he, hb.1, hb.2⟩

def fill (ops : Array Oper) (vs : Nat → Value) (a : Act) : Nat → Act
  | 0 => a
  | i + 1 => (fill ops vs a i).put ((ops[i]?).bind (·.dst)) (vs i)

/-- The state in which just the operations of p are done. -/
structure AgrF (ops : Array Oper) (n : Nat) (p : Nat → Prop) (vs : Nat → Value) (a0 a : Act) : Prop where
  defers : a.defers = a0.defers
  size : a.tmps.size = a0.tmps.size
  on : ∀ j t, j < n → p j → (ops[j]?).bind (·.dst) = some t → t < a0.tmps.size → a.tmps[t]? = some (vs j)
  off : ∀ t, (∀ j, j < n → p j → (ops[j]?).bind (·.dst) ≠ some t) → a.tmps[t]? = a0.tmps[t]?

theorem AgrF.refl {ops : Array Oper} {n : Nat} {vs : Nat → Value} {a0 : Act} {p : Nat → Prop} (h : ∀ j, j < n → ¬ p j) : AgrF ops n p vs a0 a0 := ⟨rfl, rfl, fun j t hj hp => absurd hp (h j hj), fun _ _ => rfl⟩
theorem AgrF.put {ops : Array Oper} {n : Nat} {vs vs' : Nat → Value} {a0 a : Act} {p p' : Nat → Prop} (h : AgrF ops n p vs a0 a) {i : Nat} (hi : i < n) (hpi : ¬ p i) (hp : ∀ j, j < n → (p' j ↔ p j ∨ j = i)) (hv : ∀ j, j < n → p j → vs' j = vs j)
    (hd : ∀ j k, j < n → k < n → j ≠ k → ∀ t, (ops[j]?).bind (·.dst) = some t → (ops[k]?).bind (·.dst) ≠ some t) : AgrF ops n p' vs' a0 (a.put ((ops[i]?).bind (·.dst)) (vs' i)) := by
  cases hdi : (ops[i]?).bind (·.dst) with
  | none =>
    refine ⟨h.defers, h.size, fun j t hj hpj ht hlt => ?_, fun t ht => ?_⟩
    · rcases (hp j hj).1 hpj with h1 | rfl
      · rw [hv j hj h1]; exact h.on j t hj h1 ht hlt
      · rw [hdi] at ht; cases ht
    · exact h.off t fun j hj h1 => ht j hj ((hp j hj).2 (.inl h1))
  | some d =>
    refine ⟨h.defers, by simpa [Act.put] using h.size, fun j t hj hpj ht hlt => ?_, fun t ht => ?_⟩
    · simp only [Act.put, Array.getElem?_setIfInBounds, h.size]
      by_cases hji : j = i
      · subst hji
        rw [hdi] at ht; cases ht
        simp [hlt]
      · have hne : d ≠ t := fun e => hd j i hj hi hji t ht (by rw [hdi, e])
        rcases (hp j hj).1 hpj with h1 | h1
        · simp only [hne, if_false]; rw [hv j hj h1]; exact h.on j t hj h1 ht hlt
        · exact absurd h1 hji
    · have hne : d ≠ t := fun e => ht i hi ((hp i hi).2 (.inr rfl)) (by rw [hdi, e])
      simp only [Act.put, Array.getElem?_setIfInBounds_ne hne]
      exact h.off t fun j hj h1 => ht j hj ((hp j hj).2 (.inl h1))
theorem fill_agr {ops : Array Oper} {n : Nat} {vs : Nat → Value} {a0 : Act} (hd : ∀ j k, j < n → k < n → j ≠ k → ∀ t, (ops[j]?).bind (·.dst) = some t → (ops[k]?).bind (·.dst) ≠ some t) : ∀ i, i ≤ n → AgrF ops n (· < i) vs a0 (fill ops vs a0 i)
  | 0, _ => AgrF.refl (fun j _ h => by omega)
  | i + 1, hi => (fill_agr hd i (by omega)).put (by omega) (by omega) (fun j _ => by omega) (fun _ _ _ => rfl) hd
theorem AgrF.uniq {ops : Array Oper} {n : Nat} {vs : Nat → Value} {a0 a a' : Act} {p : Nat → Prop} (h : AgrF ops n p vs a0 a) (h' : AgrF ops n p vs a0 a') : a = a' := by
  have ht : a.tmps = a'.tmps := Array.ext_getElem? fun t => by
    by_cases hc : ∃ j, j < n ∧ p j ∧ (ops[j]?).bind (·.dst) = some t
    · obtain ⟨j, hj, hp, hd⟩ := hc
      by_cases hlt : t < a0.tmps.size
      · rw [h.on j t hj hp hd hlt, h'.on j t hj hp hd hlt]
      · rw [Array.getElem?_eq_none (by rw [h.size]; omega), Array.getElem?_eq_none (by rw [h'.size]; omega)]
    · have hc' : ∀ j, j < n → p j → (ops[j]?).bind (·.dst) ≠ some t := fun j hj hp hd => hc ⟨j, hj, hp, hd⟩
      rw [h.off t hc', h'.off t hc']
  have hde := h.defers.trans h'.defers.symm
  cases a; cases a'; simp only at ht hde; rw [ht, hde]

/-- An operation sees the same in two states that agree on all it looks at. -/
theorem sees {ops : Array Oper} {o : Oper} {a b : Act} (hs : ∀ cs x, o.op ≠ .select cs x) (h : ∀ t ∈ o.looksAt ops, a.tmps[t]? = b.tmps[t]?) :
    execOp a.eval o = execOp b.eval o ∧ Region.wanted o (yielded ops a.tmps) = Region.wanted o (yielded ops b.tmps) := by
  refine ⟨execOp_congr o hs fun x hx => ?_, ?_⟩
  · cases x with
    | tmp t =>
      have := h t (List.mem_append_left _ (List.mem_filterMap.2 ⟨.tmp t, by simpa using hx, rfl⟩))
      simp only [Act.eval, Array.getD_eq_getD_getElem?, this]
    | _ => rfl
  · have hy : ∀ g b', o.guard = some (g, b') → yielded ops a.tmps g = yielded ops b.tmps g := fun g b' hg => by
      unfold yielded
      cases hd : (ops[g]?).bind (·.dst) with
      | none => rfl
      | some d =>
        have := h d (List.mem_append_right _ (by simp [hg, hd]))
        simp only [Option.bind_some, this]
    unfold Region.wanted
    split
    · rfl
    · rename_i g b' hg
      rw [hy g b' hg]

theorem countP_lt {p p' : Nat → Bool} {i : Nat} (h : ∀ j, p' j = true → p j = true) (hi : p i = true) (hi' : p' i = false) : ∀ l : List Nat, i ∈ l → l.countP p' < l.countP p
  | [], hm => by cases hm
  | x :: l, hm => by
    have hle : l.countP p' ≤ l.countP p := List.countP_mono_left fun j _ hj => h j hj
    rw [List.countP_cons, List.countP_cons]
    rcases List.mem_cons.1 hm with rfl | hm
    · rw [hi, hi']; simp only [if_true, Bool.false_eq_true, if_false]; omega
    · have := countP_lt h hi hi' l hm
      by_cases h1 : p' x = true
      · rw [h1, h x h1]; simp only [if_true]; omega
      · rw [if_neg h1]
        split <;> omega

section
variable {P : Program} {l : List Oper} {md : Region.Mode} {n : Nat} {w0 : World} {a0 : Act} {sp : List FSpec} {K : Act → World → Prop}

def FofF (sp : List FSpec) (vs : Nat → Value) (i : Nat) : Nat → World × World → World → Prop := fun j p w => if j < i then Did (sp.getD j default) p (vs j) w else True
theorem FofF_succ (vs : Nat → Value) (i : Nat) : updF (FofF sp vs i) i (fun p w => Did (sp.getD i default) p (vs i) w) = FofF sp vs (i + 1) := by
  funext j p w
  unfold updF FofF
  by_cases h : j = i
  · subst h; rw [if_pos rfl, if_pos (by omega)]
  · rw [if_neg h]
    by_cases h' : j < i
    · rw [if_pos h', if_pos (by omega)]
    · rw [if_neg h', if_neg (by omega)]

theorem flow_at (hl : n ≤ l.length) (hlen : sp.length = n) (h : flowL P l.toArray n w0 K (l.take n) sp 0 (fun _ _ _ => True) a0) (vs : Nat → Value) :
    ∀ i, i ≤ n → (∀ j, j < i → (sp.getD j default).G (vs j)) → flowL P l.toArray n w0 K ((l.take n).drop i) (sp.drop i) i (FofF sp vs i) (fill l.toArray vs a0 i)
  | 0, _, _ => by
    have : FofF sp vs 0 = fun _ _ _ => True := by funext j p w; unfold FofF; rw [if_neg (by omega)]
    rw [this]
    simpa [fill] using h
  | i + 1, hi, hg => by
    have ih := flow_at hl hlen h vs i (by omega) fun j hj => hg j (by omega)
    have hi1 : i < (l.take n).length := by rw [List.length_take]; omega
    have hi2 : i < sp.length := by omega
    rw [List.drop_eq_getElem_cons hi1, List.drop_eq_getElem_cons hi2] at ih
    have e : sp.getD i default = sp[i] := by simp [hi2]
    have h3 := ih.2.2 (vs i) (e ▸ hg i (by omega))
    rw [← e, FofF_succ] at h3
    have e2 : ((l.toArray[i]?).bind (·.dst)) = (l.take n)[i].dst := by
      have hil : i < l.length := by omega
      simp [hil]
    unfold fill
    rw [e2]
    exact h3
theorem flow_good (hl : n ≤ l.length) (hlen : sp.length = n) (h : flowL P l.toArray n w0 K (l.take n) sp 0 (fun _ _ _ => True) a0) : ∀ i, i ≤ n → ∃ vs : Nat → Value, ∀ j, j < i → (sp.getD j default).G (vs j)
  | 0, _ => ⟨fun _ => undef, fun j hj => by omega⟩
  | i + 1, hi => by
    obtain ⟨vs, hv⟩ := flow_good hl hlen h i (by omega)
    have ih := flow_at hl hlen h vs i (by omega) hv
    have hi1 : i < (l.take n).length := by rw [List.length_take]; omega
    have hi2 : i < sp.length := by omega
    rw [List.drop_eq_getElem_cons hi1, List.drop_eq_getElem_cons hi2] at ih
    obtain ⟨v, hv2⟩ := ih.2.1
    refine ⟨fun j => if j = i then v else vs j, fun j hj => ?_⟩
    by_cases hji : j = i
    · subst hji
      have e : sp.getD j default = sp[j] := by simp [hi2]
      dsimp only
      rw [if_pos rfl, e]; exact hv2
    · dsimp only
      rw [if_neg hji]; exact hv j (by omega)

/-- What is asked of a region: the first n operations in any order, the others in one. -/
def flowB (md : Region.Mode) (l : List Oper) (n : Nat) : Bool :=
  decide (n < l.length) && Region.sinkB md l.toArray n && Region.chainB md l.toArray n && headB md l.toArray n && Region.noSelect l.toArray && depB md l.toArray n &&
    ((List.range n).all fun i => (List.range n).all fun j => i == j || match (l[i]?).bind (·.dst), (l[j]?).bind (·.dst) with
      | some t, some u => !(t == u)
      | _, _ => true) &&
    Region.seqB md l.toArray (l.length - n) n (Array.replicate n true ++ Array.replicate (l.length - n) false)

theorem flow_any {g : Nat} {Q' : Exit → Act → World → Prop} {full : Array Bool} (hn : n < l.length) (hs : Region.sinkB md l.toArray n = true) (hc : Region.chainB md l.toArray n = true) (hB : headB md l.toArray n = true) (hsel : Region.noSelect l.toArray = true)
    (hdep : depB md l.toArray n = true) (hd : ∀ j k, j < n → k < n → j ≠ k → ∀ t, (l.toArray[j]?).bind (·.dst) = some t → (l.toArray[k]?).bind (·.dst) ≠ some t)
    (hlen : sp.length = n) (hfz : full.size = l.toArray.size) (hf : ∀ j, j < l.toArray.size → full.getD j true = decide (j < n))
    (hK : ∀ a w, K a w → wpAny P md l.toArray Q' g full a w) (hflow : flowL P l.toArray n w0 K (l.take n) sp 0 (fun _ _ _ => True) a0) :
    ∀ (f : Nat) (la : Array Bool) (a : Act) (vs : Nat → Value) (ps : Nat → World × World) (w : World), HeadInv md l.toArray n la → (List.range n).countP (fun j => !la.getD j true) ≤ f → AgrF l.toArray n (fun j => la.getD j true = true) vs a0 a →
      Below w0.heap.size w0 w → (∀ j, j < n → (sp.getD j default).G (vs j)) → (∀ j, j < n → la.getD j true = true → Did (sp.getD j default) (ps j) (vs j) w ∧ Below w0.heap.size w0 (ps j).1) →
      (∀ i j, i < n → j < n → i ≠ j → la.getD i true = true → la.getD j true = true → (ps i).2.heap.size ≤ (ps j).1.heap.size ∨ (ps j).2.heap.size ≤ (ps i).1.heap.size) → wpAny P md l.toArray Q' (f + g) la a w := by
  have hsz : l.toArray.size = l.length := by simp
  have fin : ∀ (f : Nat) (la : Array Bool) (a : Act) (vs : Nat → Value) (ps : Nat → World × World) (w : World), HeadInv md l.toArray n la → (∀ j, j < n → la.getD j true = true) → AgrF l.toArray n (fun j => la.getD j true = true) vs a0 a →
      Below w0.heap.size w0 w → (∀ j, j < n → (sp.getD j default).G (vs j)) → (∀ j, j < n → la.getD j true = true → Did (sp.getD j default) (ps j) (vs j) w ∧ Below w0.heap.size w0 (ps j).1) →
      (∀ i j, i < n → j < n → i ≠ j → la.getD i true = true → la.getD j true = true → (ps i).2.heap.size ≤ (ps j).1.heap.size ∨ (ps j).2.heap.size ≤ (ps i).1.heap.size) → wpAny P md l.toArray Q' (f + g) la a w := by
    intro f la a vs ps w inv hall hag hb hG hdid hap
    have : la = full := by
      refine Array.ext (inv.size.trans hfz.symm) fun j h1 h2 => ?_
      have hjo : j < l.toArray.size := by rw [← inv.size]; exact h1
      have e1 : la.getD j true = full.getD j true := by
        rw [hf j hjo]
        by_cases hj : j < n
        · rw [hall j hj]; simp [hj]
        · rw [inv.tail j (by omega) hjo]; simp [hj]
      simpa [h1, h2] using e1
    subst this
    refine any_more' g (hK a w ?_) f
    have h1 := flow_at (by omega) hlen hflow vs n (Nat.le_refl _) hG
    rw [List.drop_of_length_le (by simp; omega), List.drop_of_length_le (by omega)] at h1
    have h2 := h1 w ps hb (fun j hj => ⟨by unfold FofF; rw [if_pos hj]; exact (hdid j hj (hall j hj)).1, (hdid j hj (hall j hj)).2⟩) fun i j hi hj hij => hap i j hi hj hij (hall i hi) (hall j hj)
    have h3 : fill l.toArray vs a0 n = a := by
      refine AgrF.uniq (p := fun j => la.getD j true = true) (n := n) (ops := l.toArray) (vs := vs) (a0 := a0) ?_ hag
      have h4 := fill_agr (vs := vs) (a0 := a0) hd n (Nat.le_refl _)
      exact ⟨h4.defers, h4.size, fun j t hj _ => h4.on j t hj hj, fun t ht => h4.off t fun j hj _ => ht j hj (hall j hj)⟩
    rw [h3] at h2
    exact h2
  intro f
  induction f with
  | zero =>
    intro la a vs ps w inv hcnt hag hb hG hdid hap
    refine fin 0 la a vs ps w inv (fun j hj => ?_) hag hb hG hdid hap
    have h0 : (List.range n).countP (fun j => !la.getD j true) = 0 := by omega
    have := List.countP_eq_zero.1 h0 j (List.mem_range.2 hj)
    simpa using this
  | succ f ih =>
    intro la a vs ps w inv hcnt hag hb hG hdid hap
    by_cases hall : ∀ j, j < n → la.getD j true = true
    · exact fin (f + 1) la a vs ps w inv hall hag hb hG hdid hap
    obtain ⟨i0, hi0⟩ := Classical.not_forall.1 hall
    obtain ⟨hi0, hun0⟩ := Classical.not_imp.1 hi0
    have hun0' : la.getD i0 true = false := by simpa using hun0
    have hlow : ∀ t, t ∈ Region.ready md l.toArray la → t < n := fun t ht => by
      rcases Nat.lt_or_ge t n with h' | h'
      · exact h'
      · exact absurd ht (tail_waits hs hc (by omega) inv _ i0 rfl hi0 hun0' t h')
    rw [show f + 1 + g = (f + g) + 1 by omega]
    refine ⟨fun h0 => ?_, fun i hi => ?_⟩
    · obtain ⟨k, _, hk⟩ := head_ready hB (by omega) i0 hi0 hun0' (fun j hj => by
        have : j < la.size := by rw [inv.size]; omega
        simp [this])
      rw [h0] at hk; cases hk
    have hin := hlow i hi
    obtain ⟨hun, o, ho, hall'⟩ := mem_ready.1 hi
    have hdst : (l.toArray[i]?).bind (·.dst) = o.dst := by rw [ho]; rfl
    have hlisted : ∀ j, j < n → ∀ t, (l.toArray[j]?).bind (·.dst) = some t → t ∈ o.looksAt l.toArray → j < i ∧ la.getD j true = true := fun j hj t ht hl => by
      obtain ⟨oj, hoj⟩ : ∃ oj, l.toArray[j]? = some oj := ⟨_, Array.getElem?_eq_getElem (by omega)⟩
      rw [hoj] at ht
      obtain ⟨h1, e, he, hbi, hon⟩ := depB_spec hdep hin hj ho hoj ht hl
      refine ⟨h1, ?_⟩
      have h2 := hall' e he hbi
      rw [hon] at h2
      have : j < la.size := by rw [inv.size]; omega
      simpa [this] using h2
    have hfl := fill_agr (vs := vs) (a0 := a0) hd i (by omega)
    have hsee := sees (a := a) (b := fill l.toArray vs a0 i) (Region.noSelect_spec hsel i o · · ho) (fun t ht => by
      by_cases hc : ∃ j, j < n ∧ (l.toArray[j]?).bind (·.dst) = some t
      · obtain ⟨j, hj, hjd⟩ := hc
        obtain ⟨h1, h2⟩ := hlisted j hj t hjd ht
        by_cases hlt : t < a0.tmps.size
        · rw [hag.on j t hj h2 hjd hlt, hfl.on j t hj h1 hjd hlt]
        · rw [Array.getElem?_eq_none (by rw [hag.size]; exact Nat.le_of_not_lt hlt), Array.getElem?_eq_none (by rw [hfl.size]; exact Nat.le_of_not_lt hlt)]
      · have hc' : ∀ j, j < n → (l.toArray[j]?).bind (·.dst) ≠ some t := fun j hj hd => hc ⟨j, hj, hd⟩
        rw [hag.off t fun j hj _ => hc' j hj, hfl.off t fun j hj _ => hc' j hj])
    have hstep : stepF P l.toArray o (fill l.toArray vs a0 i) w (sp.getD i default) := by
      have h1 := flow_at (by omega) hlen hflow vs i (by omega) fun j hj => hG j (by omega)
      have hi1 : i < (l.take n).length := by rw [List.length_take]; omega
      have hi2 : i < sp.length := by omega
      rw [List.drop_eq_getElem_cons hi1, List.drop_eq_getElem_cons hi2] at h1
      have e : sp.getD i default = sp[i] := by simp [hi2]
      have eo : (l.take n)[i] = o := by
        have : l[i]? = some o := by simpa using ho
        have hil : i < l.length := by omega
        rw [List.getElem?_eq_getElem hil] at this
        simpa using this
      rw [e, ← eo]
      refine h1.1 w hb fun j hj => ?_
      unfold depsF at hj
      rw [List.mem_filter, List.mem_range] at hj
      obtain ⟨hjn, hj2⟩ := hj
      obtain ⟨oj, hoj⟩ : ∃ oj, l.toArray[j]? = some oj := ⟨_, Array.getElem?_eq_getElem (by omega)⟩
      cases ht : oj.dst with
      | none => simp [ho, hoj, ht] at hj2
      | some t =>
        simp only [ho, hoj, Option.bind_some, ht] at hj2
        obtain ⟨h3, h4⟩ := hlisted j hjn t (by rw [hoj]; exact ht) (List.contains_iff_mem.1 hj2)
        refine ⟨ps j, ?_⟩
        unfold FofF
        rw [if_pos h3]
        exact (hdid j hjn h4).1
    have next : ∀ v w', (sp.getD i default).G v → (sp.getD i default).R w v w' → Below w.heap.size w w' → wpAny P md l.toArray Q' (f + g) (la.setIfInBounds i true) (a.put o.dst v) w' := fun v w' hg hr hb' => by
      have hset : ∀ j, j < n → ((la.setIfInBounds i true).getD j true = true ↔ la.getD j true = true ∨ j = i) := fun j hj => by
        by_cases hji : j = i
        · subst hji
          have : j < la.size := by rw [inv.size]; omega
          simp [this]
        · rw [getD_set_ne true (Ne.symm hji)]; simp [hji]
      have hni : ¬ la.getD i true = true := by rw [hun]; simp
      refine ih (la.setIfInBounds i true) (a.put o.dst v) (fun j => if j = i then v else vs j) (fun j => if j = i then (w, w') else ps j) w' (inv.set hi hin) ?_ ?_ (hb.trans (hb'.mono hb.size)) ?_ ?_ ?_
      · have := countP_lt (p := fun j => !la.getD j true) (p' := fun j => !(la.setIfInBounds i true).getD j true) (i := i) (fun j hj => by
          by_cases hji : j = i
          · subst hji; simp [hun]
          · rw [getD_set_ne true (Ne.symm hji)] at hj; exact hj) (by simp [hun]) (by
            have : i < la.size := by rw [inv.size]; omega
            simp [this]) (List.range n) (List.mem_range.2 hin)
        omega
      · have := hag.put (vs' := fun j => if j = i then v else vs j) (p' := fun j => (la.setIfInBounds i true).getD j true = true) hin hni hset (fun j _ hp => if_neg (fun e => hni (by rw [← e]; exact hp))) hd
        rw [hdst, if_pos rfl] at this
        exact this
      · intro j hj
        by_cases hji : j = i
        · subst hji; rw [if_pos rfl]; exact hg
        · rw [if_neg hji]; exact hG j hj
      · intro j hj hl
        by_cases hji : j = i
        · subst hji
          rw [if_pos rfl, if_pos rfl]
          exact ⟨⟨hg, hr, hb', Below.refl _ _⟩, hb⟩
        · skip
          rw [if_neg hji, if_neg hji]
          have hlj := ((hset j hj).1 hl).resolve_right hji
          exact ⟨(hdid j hj hlj).1.keep hb', (hdid j hj hlj).2⟩
      · intro j k hj hk hjk hlj hlk
        by_cases hji : j = i
        · subst hji
          have hki : k ≠ j := Ne.symm hjk
          rw [if_pos rfl, if_neg hki]
          have hlk' := ((hset k hk).1 hlk).resolve_right hki
          exact .inr (hdid k hk hlk').1.since.size
        · rw [if_neg hji]
          have hlj' := ((hset j hj).1 hlj).resolve_right hji
          by_cases hki : k = i
          · subst hki
            rw [if_pos rfl]
            exact .inl (hdid j hj hlj').1.since.size
          · rw [if_neg hki]
            exact hap j k hj hk hjk hlj' (((hset k hk).1 hlk).resolve_right hki)
    unfold stepF at hstep
    unfold wpOp
    simp only [ho]
    rw [← hsee.2] at hstep
    split
    · rename_i hwt
      rw [if_pos hwt] at hstep
      left
      unfold Oper.wp at hstep ⊢
      rw [hsee.1]
      generalize (execOp (fill l.toArray vs a0 i).eval o).run P w = r at hstep
      have hput : ∀ v u : Value, (fill l.toArray vs a0 i).put o.dst v = (fill l.toArray vs a0 i).put o.dst u → a.put o.dst v = a.put o.dst u := fun v u he => by
        cases hdo : o.dst with
        | none => rfl
        | some d =>
          rw [hdo] at he
          have he' := congrArg (fun x : Act => x.tmps[d]?) he
          simp only [Act.put, Array.getElem?_setIfInBounds_self, hfl.size] at he'
          by_cases hlt : d < a0.tmps.size
          · simp only [hlt, if_true, Option.some.injEq] at he'
            rw [he']
          · simp only [Act.put]
            rw [Array.setIfInBounds_eq_of_size_le (by rw [hag.size]; exact Nat.le_of_not_lt hlt), Array.setIfInBounds_eq_of_size_le (by rw [hag.size]; exact Nat.le_of_not_lt hlt)]
      cases r with
      | ok x w' =>
        cases x with
        | value v =>
          obtain ⟨u, he, hg, hr, hb'⟩ := hstep
          show wpAny P md l.toArray Q' (f + g) (la.setIfInBounds i true) (a.put o.dst v) w'
          rw [hput v u he]
          exact next u w' hg hr hb'
        | skip =>
          obtain ⟨u, he, hg, hr, hb'⟩ := hstep
          show wpAny P md l.toArray Q' (f + g) (la.setIfInBounds i true) (a.put o.dst undef) w'
          rw [hput undef u he]
          exact next u w' hg hr hb'
        | defer d =>
          obtain ⟨u, he, hg, hr, hb'⟩ := hstep
          exfalso
          have h1 := congrArg (fun x : Act => x.defers.length) he
          cases hdo : o.dst <;> simp [hdo, Act.put] at h1
        | enter fn args =>
          refine Calls.mono hstep fun e w'' he => ?_
          cases e with
          | returned v =>
            obtain ⟨u, he, hg, hr, hb'⟩ := he
            show wpAny P md l.toArray Q' (f + g) (la.setIfInBounds i true) (a.put o.dst v) w''
            rw [hput v u he]
            exact next u w'' hg hr hb'
          | panicked c => exact he.elim
          | outgrown => obtain ⟨_, _, h⟩ := he; exact h.elim
        | row row args =>
          refine Rows.mono hstep fun v w'' he => ?_
          obtain ⟨u, he, hg, hr, hb'⟩ := he
          show wpAny P md l.toArray Q' (f + g) (la.setIfInBounds i true) (a.put o.dst v) w''
          rw [hput v u he]
          exact next u w'' hg hr hb'
        | _ => exact hstep.elim
      | halt x w' =>
        cases x <;> first | exact hstep.elim | (simp only [Oper.upon] at hstep)
    · rename_i hwt
      rw [if_neg hwt] at hstep
      exact next undef w hstep.1 hstep.2 (Below.refl _ _)

theorem wp_region_flow {P : Program} {id : Nat} {Q : Exit → Act → World → Prop} {a : Act} {w : World} {l : List Oper} (n : Nat) (sp : List FSpec) (hm : P.follows .mixedOrders = true) (hB : flowB .any l n = true) (hlen : sp.length = n)
    (h : flowL P l.toArray n w (fun a' w' => wpList P l.toArray Q (l.drop n) a' w') (l.take n) sp 0 (fun _ _ _ => True) a) : (Code.region id l.toArray true).wp P Q a w := by
  simp only [flowB, Bool.and_eq_true, decide_eq_true_eq] at hB
  obtain ⟨⟨⟨⟨⟨⟨⟨hn, hs⟩, hc⟩, hb⟩, hsel⟩, hdep⟩, hds⟩, hq⟩ := hB
  have hd : ∀ j k, j < n → k < n → j ≠ k → ∀ t, (l.toArray[j]?).bind (·.dst) = some t → (l.toArray[k]?).bind (·.dst) ≠ some t := fun j k hj hk hjk t ht hu => by
    have h1 := List.all_eq_true.1 (List.all_eq_true.1 hds j (List.mem_range.2 hj)) k (List.mem_range.2 hk)
    simp only [List.getElem?_toArray] at ht hu
    simp only [ht, hu, Bool.or_eq_true, beq_iff_eq] at h1
    rcases h1 with h1 | h1
    · exact hjk h1
    · simp at h1
  obtain ⟨vs, hvs⟩ := flow_good (by omega) hlen h n (Nat.le_refl _)
  refine wp_region_any hm ?_
  have inv0 : HeadInv .any l.toArray n (Array.replicate l.toArray.size false) :=
    ⟨by simp, fun j oj _ hl => (by rw [getD_replicate_false] at hl; cases hl), fun t _ ht => getD_in (by simpa using ht) (getD_replicate_false _ _)⟩
  have hun : ∀ i, i < n → (Array.replicate l.toArray.size false).getD i true = false := fun i hi => getD_in (by simp; omega) (getD_replicate_false _ _)
  have := flow_any (P := P) (md := .any) (g := l.length - n) (Q' := Q) (full := Array.replicate n true ++ Array.replicate (l.length - n) false) hn hs hc hb hsel hdep hd hlen (by simp; omega) (fun j hj => by
      have hj' : j < l.length := by simpa using hj
      by_cases h1 : j < n
      · simp [h1, Array.getElem?_append]
      · have h2 : j - n < l.length - n := by omega
        simp [h1, Array.getElem?_append, h2])
    (fun a' w' hK => by
      have := wpAny_of_seq (md := .any) (Q' := Q) (l.drop n) n (Array.replicate n true ++ Array.replicate (l.length - n) false) a' w' (fun j => by simp [List.getElem?_drop]) (by rw [List.length_drop]; exact hq) hK
      rwa [List.length_drop] at this)
    h n (Array.replicate l.toArray.size false) a vs (fun _ => (w, w)) { w with drawn := w.drawn + 1 } inv0 (by
      have := List.countP_le_length (p := fun j => !(Array.replicate l.toArray.size false).getD j true) (l := List.range n)
      rwa [List.length_range] at this) (AgrF.refl fun j hj hp => by rw [hun j hj] at hp; cases hp) ((Below.refl _ w).drew) hvs (fun j hj hl => by rw [hun j hj] at hl; cases hl) (fun i j hi hj _ hl => by rw [hun i hi] at hl; cases hl)
  rw [show n + (l.length - n) = l.toArray.size by simp; omega] at this
  exact this

/-- An operation that only reads, its value known. -/
theorem stepF_reads {P : Program} {ops : Array Oper} {o : Oper} {a : Act} {w : World} {v : Value} (hw : Region.wanted o (yielded ops a.tmps) = true) (hy : (execOp a.eval o).run P w = .ok (.value v) w) : stepF P ops o a w (.det v) := by
  unfold stepF
  rw [if_pos hw]
  unfold Oper.wp
  rw [hy]
  exact ⟨v, rfl, rfl, trivial, Below.refl _ _⟩
theorem stepF_idle {P : Program} {ops : Array Oper} {o : Oper} {a : Act} {w : World} (hw : Region.wanted o (yielded ops a.tmps) = false) : stepF P ops o a w (.det undef) := by
  unfold stepF
  rw [if_neg (by rw [hw]; simp)]
  exact ⟨rfl, trivial⟩
theorem stepF_walk {P : Program} {ops : Array Oper} {o : Oper} {a : Act} {w : World} {s : FSpec} (hw : Region.wanted o (yielded ops a.tmps) = true)
    (h : ∀ K : Act → World → Prop, Shut (∀ v w', s.G v → s.R w v w' → Below w.heap.size w w' → K (a.put o.dst v) w') → o.wp P a w K (fun _ _ _ => False)) : stepF P ops o a w s := by
  unfold stepF
  rw [if_pos hw]
  exact h _ (fun v w' hg hr hb => ⟨v, rfl, hg, hr, hb⟩)
theorem flowL_det {P : Program} {ops : Array Oper} {n : Nat} {w0 : World} {K : Act → World → Prop} {o : Oper} {l : List Oper} {u : Value} {ss : List FSpec} {i : Nat} {F : Nat → World × World → World → Prop} {a : Act}
    (h1 : ∀ w, Below w0.heap.size w0 w → (∀ j ∈ depsF ops n i, ∃ p, F j p w) → stepF P ops o a w (.det u)) (h2 : flowL P ops n w0 K l ss (i + 1) (updF F i fun p w => Did (.det u) p u w) (a.put o.dst u)) : flowL P ops n w0 K (o :: l) (.det u :: ss) i F a :=
  ⟨h1, ⟨u, rfl⟩, fun v hv => by
    have : v = u := hv
    subst this
    exact h2⟩
theorem flowL_make {P : Program} {ops : Array Oper} {n : Nat} {w0 : World} {K : Act → World → Prop} {o : Oper} {l : List Oper} {s : FSpec} {ss : List FSpec} {i : Nat} {F : Nat → World × World → World → Prop} {a : Act}
    (hex : ∃ v, s.G v) (h1 : ∀ w, Below w0.heap.size w0 w → (∀ j ∈ depsF ops n i, ∃ p, F j p w) → stepF P ops o a w s) (h2 : ∀ v, s.G v → flowL P ops n w0 K l ss (i + 1) (updF F i fun p w => Did s p v w) (a.put o.dst v)) : flowL P ops n w0 K (o :: l) (s :: ss) i F a :=
  ⟨h1, hex, h2⟩
end
end Fr
end Go.Proofs.Ytmdleoadodcljaa

namespace Go.Proofs.Ytmdleoadodcljaa
open Go.RowKit Sl Fr
namespace Gp
set_option linter.unusedVariables false

set_option maxRecDepth 100000 in
set_option maxHeartbeats 2000000 in
theorem reach_no (n : Nat) (x : Int) (A : Option Addr) (es : Dgr.Edges) (c : Nat) (w : World) (hA : EdgesA w A es) (ok : Dgr.Ok n es) (hn : n ≤ 200) (hl : es.length ≤ 2000) (h : ¬ (0 ≤ x ∧ x < n)) :
    Calls Try.prog 18 #[.int .i64 n, .slice A es.length c, .int .i64 x] w fun e w' => e = .returned (.slice none 0 0) ∧ Below w.heap.size w w' := by
  have hd : decide ((0 : Int) ≤ x ∧ x < (n : Int)) = false := decide_eq_false h
  have HO := Lib.hid ok
  have HA := Lib.hid hA
  clear ok hA h
  go_enter Try.func18, Try.ntmps18
  go_wp2_with (first
    | (go_at_call 6; refine (valid_ok HO.out hn hl _ _ _ HA.out).mono ?_; rintro e w1 ⟨rfl, hb1⟩)
    | (go_at_call 24; refine (isNode_any _ _ _).mono ?_; rintro e w' ⟨rfl, rfl⟩))
  go_ret
  exact ⟨rfl, hb1⟩

end Gp
end Go.Proofs.Ytmdleoadodcljaa

namespace Go.Proofs.Ytmdleoadodcljaa
open Go.RowKit Sl Fr
namespace Gp
set_option linter.unusedVariables false
set_option linter.unusedSimpArgs false

theorem det_true {p : Prop} [Decidable p] (h : p) : (FSpec.det (.bool true)).G (.bool (decide p)) := congrArg Value.bool (decide_eq_true h)
theorem dep_of {F : Nat → World × World → World → Prop} {l : List Nat} {w : World} (hd : ∀ j ∈ l, ∃ p, F j p w) (j : Nat) (h : l.contains j = true) : ∃ p, F j p w := hd j (List.contains_iff_mem.1 h)
/-- A list with an error, at some address. -/
def lisS (n : Nat) (x : Int) (l : List Nat) : FSpec := ⟨fun v => ∃ A c, v = .agg #[.slice A n c, .int .i64 x], fun _ v wm => ∀ A c, v = .agg #[.slice A n c, .int .i64 x] → Row wm 0 A l⟩
def rowS (n : Nat) (l : List Nat) : FSpec := ⟨fun v => ∃ A c, v = .slice A n c, fun _ v wm => ∀ A c, v = .slice A n c → Row wm 0 A l⟩
def rowsS (n : Nat) (l : List (List Nat)) : FSpec := ⟨fun v => ∃ A c, v = .slice A n c, fun _ v wm => ∀ A c, v = .slice A n c → Rows wm 0 A l⟩
/-- What is given as a list with an error. -/
def GivB (l : List Nat) (x : Int) (W : World) (e : Ending) (w' : World) : Prop := ∃ A c, e = .returned (.agg #[.slice A l.length c, .int .i64 x]) ∧ Row w' 0 A l ∧ Below W.heap.size W w'
def GivC (l : List Nat) (W : World) (e : Ending) (w' : World) : Prop := ∃ A c, e = .returned (.slice A l.length c) ∧ Row w' 0 A l ∧ Below W.heap.size W w'
def gl (b : Option (List Nat)) : List Nat := b.getD []
def gx (b : Option (List Nat)) (err : Int) : Int := if b = none then err else 0
theorem givB_of {W w' : World} {b : Option (List Nat)} {err : Int} {e : Ending} (h : GiveL W b err e w') : GivB (gl b) (gx b err) W e w' := by
  obtain ⟨A, m, c, x, rfl, hr, hb⟩ := h
  cases b with
  | none =>
    obtain ⟨rfl, rfl, rfl, rfl⟩ := hr.1 rfl
    exact ⟨none, 0, rfl, Row.nil _ _ _, hb⟩
  | some l =>
    obtain ⟨rfl, h2, h3, rfl⟩ := hr.2 l rfl
    exact ⟨A, c, rfl, h3.mono (Nat.zero_le _), hb⟩
open Classical in
/-- The one that a property speaks of, if there is one. -/
noncomputable def pickB (p : Option (List Nat) → Prop) : Option (List Nat) := if h : ∃ b, p b then Classical.choose h else none
theorem pickB_to {p : Option (List Nat) → Prop} (hu : ∀ a b, p a → p b → a = b) {b : Option (List Nat)} (h : p b) : b = pickB p := by
  have he : ∃ b, p b := ⟨b, h⟩
  rw [pickB, dif_pos he]
  exact hu _ _ h (Classical.choose_spec he)
theorem pickB_is (p : Option (List Nat) → Prop) : pickB p = none ∨ p (pickB p) := by
  by_cases he : ∃ b, p b
  · rw [pickB, dif_pos he]; exact .inr (Classical.choose_spec he)
  · rw [pickB, dif_neg he]; exact .inl rfl
theorem depIs_unique {n : Nat} {es : Dgr.Edges} (ok : Dgr.Ok n es) {a b : Option (List Nat)} (h : DepIs n es a) (h' : DepIs n es b) : a = b := by
  cases a with
  | none =>
    cases b with
    | none => rfl
    | some m => obtain ⟨f, l, h1, h2, h3⟩ := h'; rw [show Dgr.orderF n es = none from h] at h2; cases h2
  | some m =>
    obtain ⟨f, l, h1, h2, rfl⟩ := h
    cases b with
    | none => rw [show Dgr.orderF n es = none from h'] at h2; cases h2
    | some m' =>
      obtain ⟨g, l', g1, g2, rfl⟩ := h'
      obtain ⟨o1, o2⟩ := Dgr.orderF_some h2
      refine congrArg some (List.map_congr_left fun v hv => ?_)
      exact h1.unique g1 o1 o2 ok (List.mem_range.1 hv)
theorem cyc_len {n : Nat} {es : Dgr.Edges} (ok : Dgr.Ok n es) {b : Option (List Nat)} (h : Dgr.CycIs es b) : (gl b).length ≤ n := by
  cases b with
  | none => exact Nat.zero_le _
  | some l =>
    have hc : Dgr.IsCyc es l := (show Dgr.IsLeast es l from h).cyc
    refine Dgr.nodup_len n l hc.nodup fun x hx => ?_
    obtain ⟨i, hi, rfl⟩ := List.getElem_of_mem hx
    have hlt : (i + 1) % l.length < l.length := Nat.mod_lt _ hc.pos
    exact (ok _ (hc.edge i _ _ (List.getElem?_eq_getElem hi) (List.getElem?_eq_getElem hlt))).1
theorem ord_len {n : Nat} {es : Dgr.Edges} : (gl (Dgr.orderF n es)).length ≤ n := by
  cases h : Dgr.orderF n es with
  | none => exact Nat.zero_le _
  | some l => exact Nat.le_of_eq (Dgr.orderF_some h).2
theorem dep_len {n : Nat} {es : Dgr.Edges} {b : Option (List Nat)} (h : DepIs n es b) : (gl b).length ≤ n := by
  cases b with
  | none => exact Nat.zero_le _
  | some l => obtain ⟨f, _, _, _, rfl⟩ := h; simp [gl]
/-- What Reach gives from any number. -/
noncomputable def rz (n : Nat) (es : Dgr.Edges) (x : Int) : List Nat := if 0 ≤ x ∧ x < n then Dgr.reachL n es x.toNat else []
theorem rz_len (n : Nat) (es : Dgr.Edges) (x : Int) : (rz n es x).length ≤ n := by
  unfold rz
  split
  · exact those_len n _
  · exact Nat.zero_le _
theorem reach_z (n : Nat) (A : Option Addr) (es : Dgr.Edges) (c : Nat) (x : Int) (w : World) (hA : EdgesA w A es) (ok : Dgr.Ok n es) (hn : n ≤ 200) (hl : es.length ≤ 2000) :
    Calls Try.prog 18 #[.int .i64 n, .slice A es.length c, .int .i64 x] w (GivC (rz n es x) w) := by
  by_cases h : 0 ≤ x ∧ x < n
  · obtain ⟨s, rfl⟩ := Int.eq_ofNat_of_zero_le h.1
    refine (reach_any n A es c s w hA ok hn hl (by omega)).mono ?_
    rintro e w' ⟨A', c', rfl, _, hr, hb⟩
    rw [rz, if_pos h, Int.toNat_natCast]
    exact ⟨A', c', rfl, hr.mono (Nat.zero_le _), hb⟩
  · refine (reach_no n x A es c w hA ok hn hl h).mono ?_
    rintro e w' ⟨rfl, hb⟩
    rw [rz, if_neg h]
    exact ⟨none, 0, rfl, Row.nil _ _ _, hb⟩
theorem rreach_z (n : Nat) (A : Option Addr) (es : Dgr.Edges) (c : Nat) (x : Int) (w : World) (hA : EdgesA w A es) (ok : Dgr.Ok n es) (hn : n ≤ 200) (hl : es.length ≤ 2000) :
    Calls Try.prog 19 #[.int .i64 n, .slice A es.length c, .int .i64 x] w (GivC (rz n es x) w) := by
  by_cases h : 0 ≤ x ∧ x < n
  · obtain ⟨s, rfl⟩ := Int.eq_ofNat_of_zero_le h.1
    refine (rreach_any n A es c s w hA ok hn hl (by omega)).mono ?_
    rintro e w' ⟨A', c', rfl, _, hr, hb⟩
    rw [rz, if_pos h, Int.toNat_natCast]
    exact ⟨A', c', rfl, hr.mono (Nat.zero_le _), hb⟩
  · refine (rreach_no n x A es.length c w (by omega)).mono ?_
    rintro e w' ⟨rfl, rfl⟩
    rw [rz, if_neg h]
    exact ⟨none, 0, rfl, Row.nil _ _ _, Below.refl _ _⟩
theorem alike_one (A B : Option Addr) (l : List Nat) (c d : Nat) (x : Int) (w : World) (hA : Row w 0 A l) (hB : Row w 0 B l) (hl : l.length ≤ 1000) :
    Calls Try.prog 8 #[.agg #[.slice A l.length c, .int .i64 x], .agg #[.slice B l.length d, .int .i64 x]] w fun e w' => e = .returned (.bool true) ∧ Below w.heap.size w w' := by
  have := alike_any A B l l c d 0 0 x x w hA hB hl hl
  rwa [show decide (x = x ∧ l = l) = true from decide_eq_true ⟨rfl, rfl⟩] at this
theorem same_one (A B : Option Addr) (l : List Nat) (c d : Nat) (w : World) (hA : Row w 0 A l) (hB : Row w 0 B l) (hl : l.length ≤ 1000) :
    Calls Try.prog 17 #[.slice A l.length c, .slice B l.length d] w fun e w' => e = .returned (.bool true) ∧ Below w.heap.size w w' := by
  have := same_any A B l l c d 0 0 w hA hB hl hl
  rwa [show decide (l = l) = true from decide_eq_true rfl] at this
theorem samel_one (A B : Option Addr) (l : List (List Nat)) (c d : Nat) (w : World) (hA : Rows w 0 A l) (hB : Rows w 0 B l) (hl : l.length ≤ 1000) (hl2 : ∀ x ∈ l, x.length ≤ 1000) :
    Calls Try.prog 20 #[.slice A l.length c, .slice B l.length d] w fun e w' => e = .returned (.bool true) ∧ Below w.heap.size w w' := by
  have := samel_any A B l l c d 0 0 w hA hB hl hl hl2 hl2
  rwa [show decide (l = l) = true from decide_eq_true rfl] at this
theorem comp_rows {n : Nat} {es : Dgr.Edges} : (Dgr.compL n es).length ≤ n ∧ ∀ x ∈ Dgr.compL n es, x.length ≤ n := by
  refine ⟨by rw [← compTo_all]; exact compTo_len n es n, fun x hx => ?_⟩
  unfold Dgr.compL at hx
  obtain ⟨v, _, rfl⟩ := List.mem_map.1 hx
  exact those_len n _

set_option maxRecDepth 100000 in
set_option maxHeartbeats 12800000 in
theorem matches_row (N K : Int) (B : Option Addr) (bs : List Int) (c : Nat) (w : World) (hN : 0 ≤ N ∧ N ≤ 255) (hK : 0 ≤ K ∧ K ≤ 255) (hB : RowIs .u8 w B bs.length c bs)
    (zn : Int) (zE : Option Addr) (zes : List (Int × Int)) (ce : Nat) (zL : Option Addr) (zl : List Int) (cl : Nat) (zf : Int) (hE : ArrP w zE zes) (hEl : zes.length ≤ 9223372036854775807) (hL : ArrZ w zL zl) (hLl : zl.length ≤ 9223372036854775807) :
    Calls Try.prog 3 #[.agg #[.int .u8 N, .int .u8 K, .slice B bs.length c], .agg #[.int .i64 zn, .slice zE zes.length ce, .slice zL zl.length cl, .int .i64 zf]] w fun e w' => e = .returned (.bool true) ∧ Below w.heap.size w w' := by
  have hst := start2 w #[.int .u8 N, .int .u8 K, .slice B bs.length c] #[.int .i64 zn, .slice zE zes.length ce, .slice zL zl.length cl, .int .i64 zf] 24 28
  go_enter Try.func3, Try.ntmps3
  go_upto_region 1 with fail
  generalize ((w.alloc (.cells #[.int .u8 N, .int .u8 K, .slice B bs.length c] 24)).alloc (.cells #[.int .i64 zn, .slice zE zes.length ce, .slice zL zl.length cl, .int .i64 zf] 28)) = W0 at *
  obtain ⟨mr, mo, B0⟩ := hst
  have hE0 := hE.keep B0
  have hL0 := hL.keep B0
  have hB0 : RowIs .u8 W0 B bs.length c bs := ⟨hB.hlen, hB.hcap, hB.arr.keep B0, hB.nil, hB.wf, hB.big⟩
  clear hE hL hB
  generalize hob : w.heap.size + 1 = ob at *
  clear hob
  go_upto_region 2 with (go_at_call 4; refine (examples_any _).mono ?_; rintro e W1 ⟨rfl, hb1⟩)
  have mr1 := mr.keep hb1
  have mo1 := mo.keep hb1
  have hE1 := hE0.keep hb1
  have hL1 := hL0.keep hb1
  have B1 := B0.trans (hb1.mono B0.size)
  have hB1 : RowIs .u8 W1 B bs.length c bs := ⟨hB0.hlen, hB0.hcap, hB0.arr.keep hb1, hB0.nil, hB0.wf, hB0.big⟩
  clear mr mo hE0 hL0 hB0 hb1 B0
  obtain ⟨r0, r1, r2⟩ := mr1.c3
  obtain ⟨q0, q1, q2, q3⟩ := mo1.c4
  by_cases g0 : 100 < zes.length
  · have e0 : decide ((100 : Int) < (zes.length : Int)) = true := decide_eq_true (by omega)
    go_wp2_with fail
    go_ret
    exact ⟨rfl, B1⟩
  have e0 : decide ((100 : Int) < (zes.length : Int)) = false := decide_eq_false (by omega)
  by_cases g1 : 40 < zl.length
  · have e1 : decide ((40 : Int) < (zl.length : Int)) = true := decide_eq_true (by omega)
    go_wp2_with fail
    go_ret
    exact ⟨rfl, B1⟩
  have e1 : decide ((40 : Int) < (zl.length : Int)) = false := decide_eq_false (by omega)
  clear g0 g1
  have HMD := Lib.hid (made_any N K B bs c W1 hN hK hB1)
  have MO1 := Lib.hid mo1
  have HE1 := Lib.hid hE1
  have HL1 := Lib.hid hL1
  clear hB1 mo1 hE1 hL1
  go_upto_region 5 with (go_at_call 5; refine HMD.out.mono ?_; rintro e w2 ⟨n, es, A, m, d, rfl, hg, he30, hb2⟩; have hgl := hg.len; subst hgl)
  clear r0 r1 r2 q0 q1 q2 q3 mr1 HMD e0 e1
  have hn12 := hg.n12
  have hbA := (Below.refl _ w2).alloc (Nat.le_refl _) (.cells #[.int .i64 (n : Int), .slice A es.length d] 31)
  have hst2 := start1 w2 #[.int .i64 (n : Int), .slice A es.length d] 31
  have hb3 := hb2.trans (hbA.mono hb2.size)
  have hGB := hst2.1
  have hMO := MO1.out.keep hb3
  have hEX := HE1.out.keep hb3
  have hLX := HL1.out.keep hb3
  have hGA := hg.arr.keep hbA
  have B2 := Lib.hid (B1.trans (hb3.mono B1.size))
  have ok := hg.ok
  clear hst2 hg hbA hb2 hb3 B1 MO1 HE1 HL1
  generalize w2.alloc (.cells #[.int .i64 (n : Int), .slice A es.length d] 31) = X at *
  generalize w2.heap.size = gb at *
  have zg0 : ∀ wz, Below X.heap.size X wz → wz.cell? ⟨gb, 0, none⟩ = some (.int .i64 (n : Int)) := fun wz hz => (hGB.keep hz).get (i := 0) rfl
  have zg1 : ∀ wz, Below X.heap.size X wz → wz.cell? ⟨gb, 1, none⟩ = some (.slice A es.length d) := fun wz hz => (hGB.keep hz).get (i := 1) rfl
  have zo0 : ∀ wz, Below X.heap.size X wz → wz.cell? ⟨ob, 0, none⟩ = some (.int .i64 zn) := fun wz hz => (hMO.keep hz).get (i := 0) rfl
  have zo1 : ∀ wz, Below X.heap.size X wz → wz.cell? ⟨ob, 1, none⟩ = some (.slice zE zes.length ce) := fun wz hz => (hMO.keep hz).get (i := 1) rfl
  have zo2 : ∀ wz, Below X.heap.size X wz → wz.cell? ⟨ob, 2, none⟩ = some (.slice zL zl.length cl) := fun wz hz => (hMO.keep hz).get (i := 2) rfl
  have zo3 : ∀ wz, Below X.heap.size X wz → wz.cell? ⟨ob, 3, none⟩ = some (.int .i64 zf) := fun wz hz => (hMO.keep hz).get (i := 3) rfl
  have hes : es.length ≤ 2000 := by omega
  have hn2 : n ≤ 200 := by omega
  have FV := fun (wz : World) (hz : Below X.heap.size X wz) => valid_any zn zE zes ce wz (hEX.keep hz)
  have FW := fun (wz : World) (hz : Below X.heap.size X wz) => rvalid_any zn zE zes ce wz (hEX.keep hz)
  have FG : ∀ (wz : World) (hz : Below X.heap.size X wz), Calls Try.prog 6 #[.int .i64 n, .slice A es.length d] wz fun e w' => e = .returned (.bool true) ∧ Below wz.heap.size wz w' := fun wz hz => by
    have := valid_any n A (natE es) d wz (EdgesA.keep hGA hz)
    rwa [natE_length, validB_ok ok hn2 hes] at this
  obtain ⟨ol, hol⟩ : ∃ l, l = gl (Dgr.orderF n es) := ⟨_, rfl⟩
  obtain ⟨ox, hox⟩ : ∃ x, x = gx (Dgr.orderF n es) 50 := ⟨_, rfl⟩
  obtain ⟨cb, hcb⟩ : ∃ b, b = pickB (Dgr.CycIs es) := ⟨_, rfl⟩
  obtain ⟨cl2, hcl⟩ : ∃ l, l = gl cb := ⟨_, rfl⟩
  obtain ⟨cx, hcx⟩ : ∃ x, x = gx cb 4 := ⟨_, rfl⟩
  obtain ⟨db, hdb⟩ : ∃ b, b = pickB (DepIs n es) := ⟨_, rfl⟩
  obtain ⟨dl, hdl⟩ : ∃ l, l = gl db := ⟨_, rfl⟩
  obtain ⟨dx, hdx⟩ : ∃ x, x = gx db 50 := ⟨_, rfl⟩
  have cyc_to : ∀ {b}, Dgr.CycIs es b → b = cb := fun {b} h => by rw [hcb]; exact pickB_to (fun _ _ h1 h2 => Dgr.CycIs.unique h1 h2) h
  have dep_to : ∀ {b}, DepIs n es b → b = db := fun {b} h => by rw [hdb]; exact pickB_to (fun _ _ h1 h2 => depIs_unique ok h1 h2) h
  have FO : ∀ (wz : World) (hz : Below X.heap.size X wz), Calls Try.prog 9 #[.agg #[.int .i64 n, .slice A es.length d]] wz (GivB ol ox wz) := fun wz hz => by
    refine (orderL_any n A es d wz (EdgesA.keep hGA hz) ok hn2 hes).mono ?_
    rintro e w9 h
    rw [hol, hox]; exact givB_of h
  have FP : ∀ (wz : World) (hz : Below X.heap.size X wz), Calls Try.prog 10 #[.int .i64 n, .slice A es.length d] wz (GivB ol ox wz) := fun wz hz => by
    refine (rorder_any n A es d wz (EdgesA.keep hGA hz) ok hn2 hes).mono ?_
    rintro e w9 h
    rw [hol, hox]; exact givB_of h
  have FC : ∀ (wz : World) (hz : Below X.heap.size X wz), Calls Try.prog 11 #[.agg #[.int .i64 n, .slice A es.length d]] wz (GivB cl2 cx wz) := fun wz hz => by
    refine (cycleL_any n A es d wz (EdgesA.keep hGA hz) ok hn2 hes).mono ?_
    rintro e w9 ⟨b, hc, h⟩
    obtain rfl := cyc_to hc
    rw [hcl, hcx]; exact givB_of h
  have FQ : ∀ (wz : World) (hz : Below X.heap.size X wz), Calls Try.prog 12 #[.int .i64 n, .slice A es.length d] wz (GivB cl2 cx wz) := fun wz hz => by
    refine (rcycle_any n A es d wz (EdgesA.keep hGA hz) ok hn2 hes).mono ?_
    rintro e w9 ⟨b, hc, h⟩
    obtain rfl := cyc_to hc
    rw [hcl, hcx]; exact givB_of h
  have FD : ∀ (wz : World) (hz : Below X.heap.size X wz), Calls Try.prog 13 #[.agg #[.int .i64 n, .slice A es.length d]] wz (GivB dl dx wz) := fun wz hz => by
    refine (depthL_any n A es d wz (EdgesA.keep hGA hz) ok hn2 hes).mono ?_
    rintro e w9 ⟨b, hc, h⟩
    obtain rfl := dep_to hc
    rw [hdl, hdx]; exact givB_of h
  have FE : ∀ (wz : World) (hz : Below X.heap.size X wz), Calls Try.prog 14 #[.int .i64 n, .slice A es.length d] wz (GivB dl dx wz) := fun wz hz => by
    refine (rdepth_any n A es d wz (EdgesA.keep hGA hz) ok hn2 hes).mono ?_
    rintro e w9 ⟨b, hc, h⟩
    obtain rfl := dep_to hc
    rw [hdl, hdx]; exact givB_of h
  have FA := fun (l : List Nat) (hl : l.length ≤ 1000) (x : Int) (wz : World) (A1 : Option Addr) (c1 : Nat) (A2 : Option Addr) (c2 : Nat) (h1 : Row wz 0 A1 l) (h2 : Row wz 0 A2 l) => alike_one A1 A2 l c1 c2 x wz h1 h2 hl
  have lo : ol.length ≤ 1000 := by rw [hol]; have := ord_len (n := n) (es := es); omega
  have lc : cl2.length ≤ 1000 := by
    rw [hcl, hcb]
    rcases pickB_is (Dgr.CycIs es) with h | h
    · rw [h]; simp [gl]
    · have := cyc_len ok h; omega
  have ld : dl.length ≤ 1000 := by
    rw [hdl, hdb]
    rcases pickB_is (DepIs n es) with h | h
    · rw [h]; simp [gl]
    · have := dep_len h; omega
  clear cyc_to dep_to hol hox hcb hcl hcx hdb hdl hdx
  go_upto_region 5 with fail
  refine wp_region_flow 51 [.det (.pointer (some ⟨ob, 0, none⟩)), .det (.int .i64 zn), .det (.pointer (some ⟨ob, 1, none⟩)), .det (.slice zE zes.length ce), .det (.bool (validB zn zes)), .det (.pointer (some ⟨ob, 0, none⟩)), .det (.int .i64 zn), .det (.pointer (some ⟨ob, 1, none⟩)), .det (.slice zE zes.length ce), .det (.bool (validB zn zes)), .det (.bool false), .det (.bool false), .det (.pointer (some ⟨gb, 0, none⟩)), .det (.int .i64 ((n : Int))), .det (.pointer (some ⟨gb, 1, none⟩)), .det (.slice A es.length d), .det (.bool true), .det (.bool false), .det (.bool false), .det (.bool false), .det (.agg #[.int .i64 ((n : Int)), .slice A es.length d]), lisS ol.length ox ol, .det (.pointer (some ⟨gb, 0, none⟩)), .det (.int .i64 ((n : Int))), .det (.pointer (some ⟨gb, 1, none⟩)), .det (.slice A es.length d), lisS ol.length ox ol, .det (.bool true), .det (.bool false), .det (.bool false), .det (.bool false), .det (.agg #[.int .i64 ((n : Int)), .slice A es.length d]), lisS cl2.length cx cl2, .det (.pointer (some ⟨gb, 0, none⟩)), .det (.int .i64 ((n : Int))), .det (.pointer (some ⟨gb, 1, none⟩)), .det (.slice A es.length d), lisS cl2.length cx cl2, .det (.bool true), .det (.bool false), .det (.bool false), .det (.bool false), .det (.agg #[.int .i64 ((n : Int)), .slice A es.length d]), lisS dl.length dx dl, .det (.pointer (some ⟨gb, 0, none⟩)), .det (.int .i64 ((n : Int))), .det (.pointer (some ⟨gb, 1, none⟩)), .det (.slice A es.length d), lisS dl.length dx dl, .det (.bool true), .det (.bool false)] (by kernel_rfl) (by kernel_rfl) rfl ?_
  simp only [List.take_succ_cons, List.take_zero, List.drop_succ_cons, List.drop_zero]
  refine flowL_det (fun wz hz hd => stepF_reads (by rfl) ?_) ?_
  · go_simp; try rfl
  simp only [Act.put, List.setIfInBounds_toArray, List.set_cons_zero, List.set_cons_succ]
  refine flowL_det (fun wz hz hd => stepF_reads (by rfl) ?_) ?_
  · have q := zo0 wz hz; go_simp; try rfl
  simp only [Act.put, List.setIfInBounds_toArray, List.set_cons_zero, List.set_cons_succ]
  refine flowL_det (fun wz hz hd => stepF_reads (by rfl) ?_) ?_
  · go_simp; try rfl
  simp only [Act.put, List.setIfInBounds_toArray, List.set_cons_zero, List.set_cons_succ]
  refine flowL_det (fun wz hz hd => stepF_reads (by rfl) ?_) ?_
  · have q := zo1 wz hz; go_simp; try rfl
  simp only [Act.put, List.setIfInBounds_toArray, List.set_cons_zero, List.set_cons_succ]
  refine flowL_det (fun wz hz hd => stepF_walk (by rfl) (fun K hK => ?_)) ?_
  · go_wp2_with fail
    go_at_call 6
    refine (FV wz hz).mono ?_
    rintro e w9 ⟨rfl, hb⟩
    exact hK.out _ _ rfl trivial hb
  simp only [Act.put, List.setIfInBounds_toArray, List.set_cons_zero, List.set_cons_succ]
  refine flowL_det (fun wz hz hd => stepF_reads (by rfl) ?_) ?_
  · go_simp; try rfl
  simp only [Act.put, List.setIfInBounds_toArray, List.set_cons_zero, List.set_cons_succ]
  refine flowL_det (fun wz hz hd => stepF_reads (by rfl) ?_) ?_
  · have q := zo0 wz hz; go_simp; try rfl
  simp only [Act.put, List.setIfInBounds_toArray, List.set_cons_zero, List.set_cons_succ]
  refine flowL_det (fun wz hz hd => stepF_reads (by rfl) ?_) ?_
  · go_simp; try rfl
  simp only [Act.put, List.setIfInBounds_toArray, List.set_cons_zero, List.set_cons_succ]
  refine flowL_det (fun wz hz hd => stepF_reads (by rfl) ?_) ?_
  · have q := zo1 wz hz; go_simp; try rfl
  simp only [Act.put, List.setIfInBounds_toArray, List.set_cons_zero, List.set_cons_succ]
  refine flowL_det (fun wz hz hd => stepF_walk (by rfl) (fun K hK => ?_)) ?_
  · go_wp2_with fail
    go_at_call 7
    refine (FW wz hz).mono ?_
    rintro e w9 ⟨rfl, rfl⟩
    exact hK.out _ _ rfl trivial (Below.refl _ _)
  simp only [Act.put, List.setIfInBounds_toArray, List.set_cons_zero, List.set_cons_succ]
  refine flowL_det (fun wz hz hd => stepF_reads (by rfl) ?_) ?_
  · go_simp; try rfl
  simp only [Act.put, List.setIfInBounds_toArray, List.set_cons_zero, List.set_cons_succ]
  refine flowL_det (fun wz hz hd => stepF_reads (by rfl) ?_) ?_
  · go_simp; try rfl
  simp only [Act.put, List.setIfInBounds_toArray, List.set_cons_zero, List.set_cons_succ]
  refine flowL_det (fun wz hz hd => stepF_reads (by rfl) ?_) ?_
  · go_simp; try rfl
  simp only [Act.put, List.setIfInBounds_toArray, List.set_cons_zero, List.set_cons_succ]
  refine flowL_det (fun wz hz hd => stepF_reads (by rfl) ?_) ?_
  · have q := zg0 wz hz; go_simp; try rfl
  simp only [Act.put, List.setIfInBounds_toArray, List.set_cons_zero, List.set_cons_succ]
  refine flowL_det (fun wz hz hd => stepF_reads (by rfl) ?_) ?_
  · go_simp; try rfl
  simp only [Act.put, List.setIfInBounds_toArray, List.set_cons_zero, List.set_cons_succ]
  refine flowL_det (fun wz hz hd => stepF_reads (by rfl) ?_) ?_
  · have q := zg1 wz hz; go_simp; try rfl
  simp only [Act.put, List.setIfInBounds_toArray, List.set_cons_zero, List.set_cons_succ]
  refine flowL_det (fun wz hz hd => stepF_walk (by rfl) (fun K hK => ?_)) ?_
  · go_wp2_with fail
    go_at_call 6
    refine (FG wz hz).mono ?_
    rintro e w9 ⟨rfl, hb⟩
    exact hK.out _ _ rfl trivial hb
  simp only [Act.put, List.setIfInBounds_toArray, List.set_cons_zero, List.set_cons_succ]
  refine flowL_det (fun wz hz hd => stepF_reads (by rfl) ?_) ?_
  · go_simp; try rfl
  simp only [Act.put, List.setIfInBounds_toArray, List.set_cons_zero, List.set_cons_succ]
  refine flowL_det (fun wz hz hd => stepF_reads (by rfl) ?_) ?_
  · go_simp; try rfl
  simp only [Act.put, List.setIfInBounds_toArray, List.set_cons_zero, List.set_cons_succ]
  refine flowL_det (fun wz hz hd => stepF_reads (by rfl) ?_) ?_
  · go_simp; try rfl
  simp only [Act.put, List.setIfInBounds_toArray, List.set_cons_zero, List.set_cons_succ]
  refine flowL_det (fun wz hz hd => stepF_reads (by rfl) ?_) ?_
  · have p0 := zg0 wz hz; have p1 := zg1 wz hz; go_simp; try rfl
  simp only [Act.put, List.setIfInBounds_toArray, List.set_cons_zero, List.set_cons_succ]
  refine flowL_make (⟨_, none, 0, rfl⟩) (fun wz hz hd => stepF_walk (by rfl) (fun K hK => ?_)) (fun v hv => ?_)
  · go_wp2_with fail
    go_at_call 9
    refine (FO wz hz).mono ?_
    rintro e w9 ⟨A9, c9, rfl, hr9, hb⟩
    exact hK.out _ _ ⟨A9, c9, rfl⟩ (fun A8 c8 e => by cases e; exact hr9) hb
  obtain ⟨Aoa, coa, rfl⟩ := hv
  simp only [Act.put, List.setIfInBounds_toArray, List.set_cons_zero, List.set_cons_succ]
  refine flowL_det (fun wz hz hd => stepF_reads (by rfl) ?_) ?_
  · go_simp; try rfl
  simp only [Act.put, List.setIfInBounds_toArray, List.set_cons_zero, List.set_cons_succ]
  refine flowL_det (fun wz hz hd => stepF_reads (by rfl) ?_) ?_
  · have q := zg0 wz hz; go_simp; try rfl
  simp only [Act.put, List.setIfInBounds_toArray, List.set_cons_zero, List.set_cons_succ]
  refine flowL_det (fun wz hz hd => stepF_reads (by rfl) ?_) ?_
  · go_simp; try rfl
  simp only [Act.put, List.setIfInBounds_toArray, List.set_cons_zero, List.set_cons_succ]
  refine flowL_det (fun wz hz hd => stepF_reads (by rfl) ?_) ?_
  · have q := zg1 wz hz; go_simp; try rfl
  simp only [Act.put, List.setIfInBounds_toArray, List.set_cons_zero, List.set_cons_succ]
  refine flowL_make (⟨_, none, 0, rfl⟩) (fun wz hz hd => stepF_walk (by rfl) (fun K hK => ?_)) (fun v hv => ?_)
  · go_wp2_with fail
    go_at_call 10
    refine (FP wz hz).mono ?_
    rintro e w9 ⟨A9, c9, rfl, hr9, hb⟩
    exact hK.out _ _ ⟨A9, c9, rfl⟩ (fun A8 c8 e => by cases e; exact hr9) hb
  obtain ⟨Aob, cob, rfl⟩ := hv
  simp only [Act.put, List.setIfInBounds_toArray, List.set_cons_zero, List.set_cons_succ]
  refine flowL_det (fun wz hz hd => stepF_walk (by rfl) (fun K hK => ?_)) ?_
  · obtain ⟨p, hp⟩ := dep_of hd 21 (by decide +kernel)
    obtain ⟨p2, hq⟩ := dep_of hd 26 (by decide +kernel)
    go_wp2_with fail
    go_at_call 8
    refine (FA ol lo ox wz Aoa coa Aob cob ((hp.post _ _ rfl).keep hp.since) ((hq.post _ _ rfl).keep hq.since)).mono ?_
    rintro e w9 ⟨rfl, hb⟩
    first | exact hK.out _ _ rfl trivial hb | exact hK.out _ _ (det_true rfl) trivial hb | exact hK.out _ _ (det_true trivial) trivial hb
  simp only [Act.put, List.setIfInBounds_toArray, List.set_cons_zero, List.set_cons_succ]
  refine flowL_det (fun wz hz hd => stepF_reads (by rfl) ?_) ?_
  · go_simp; try rfl
  simp only [Act.put, List.setIfInBounds_toArray, List.set_cons_zero, List.set_cons_succ]
  refine flowL_det (fun wz hz hd => stepF_reads (by rfl) ?_) ?_
  · go_simp; try rfl
  simp only [Act.put, List.setIfInBounds_toArray, List.set_cons_zero, List.set_cons_succ]
  refine flowL_det (fun wz hz hd => stepF_reads (by rfl) ?_) ?_
  · go_simp; try rfl
  simp only [Act.put, List.setIfInBounds_toArray, List.set_cons_zero, List.set_cons_succ]
  refine flowL_det (fun wz hz hd => stepF_reads (by rfl) ?_) ?_
  · have p0 := zg0 wz hz; have p1 := zg1 wz hz; go_simp; try rfl
  simp only [Act.put, List.setIfInBounds_toArray, List.set_cons_zero, List.set_cons_succ]
  refine flowL_make (⟨_, none, 0, rfl⟩) (fun wz hz hd => stepF_walk (by rfl) (fun K hK => ?_)) (fun v hv => ?_)
  · go_wp2_with fail
    go_at_call 11
    refine (FC wz hz).mono ?_
    rintro e w9 ⟨A9, c9, rfl, hr9, hb⟩
    exact hK.out _ _ ⟨A9, c9, rfl⟩ (fun A8 c8 e => by cases e; exact hr9) hb
  obtain ⟨Aya, cya, rfl⟩ := hv
  simp only [Act.put, List.setIfInBounds_toArray, List.set_cons_zero, List.set_cons_succ]
  refine flowL_det (fun wz hz hd => stepF_reads (by rfl) ?_) ?_
  · go_simp; try rfl
  simp only [Act.put, List.setIfInBounds_toArray, List.set_cons_zero, List.set_cons_succ]
  refine flowL_det (fun wz hz hd => stepF_reads (by rfl) ?_) ?_
  · have q := zg0 wz hz; go_simp; try rfl
  simp only [Act.put, List.setIfInBounds_toArray, List.set_cons_zero, List.set_cons_succ]
  refine flowL_det (fun wz hz hd => stepF_reads (by rfl) ?_) ?_
  · go_simp; try rfl
  simp only [Act.put, List.setIfInBounds_toArray, List.set_cons_zero, List.set_cons_succ]
  refine flowL_det (fun wz hz hd => stepF_reads (by rfl) ?_) ?_
  · have q := zg1 wz hz; go_simp; try rfl
  simp only [Act.put, List.setIfInBounds_toArray, List.set_cons_zero, List.set_cons_succ]
  refine flowL_make (⟨_, none, 0, rfl⟩) (fun wz hz hd => stepF_walk (by rfl) (fun K hK => ?_)) (fun v hv => ?_)
  · go_wp2_with fail
    go_at_call 12
    refine (FQ wz hz).mono ?_
    rintro e w9 ⟨A9, c9, rfl, hr9, hb⟩
    exact hK.out _ _ ⟨A9, c9, rfl⟩ (fun A8 c8 e => by cases e; exact hr9) hb
  obtain ⟨Ayb, cyb, rfl⟩ := hv
  simp only [Act.put, List.setIfInBounds_toArray, List.set_cons_zero, List.set_cons_succ]
  refine flowL_det (fun wz hz hd => stepF_walk (by rfl) (fun K hK => ?_)) ?_
  · obtain ⟨p, hp⟩ := dep_of hd 32 (by decide +kernel)
    obtain ⟨p2, hq⟩ := dep_of hd 37 (by decide +kernel)
    go_wp2_with fail
    go_at_call 8
    refine (FA cl2 lc cx wz Aya cya Ayb cyb ((hp.post _ _ rfl).keep hp.since) ((hq.post _ _ rfl).keep hq.since)).mono ?_
    rintro e w9 ⟨rfl, hb⟩
    first | exact hK.out _ _ rfl trivial hb | exact hK.out _ _ (det_true rfl) trivial hb | exact hK.out _ _ (det_true trivial) trivial hb
  simp only [Act.put, List.setIfInBounds_toArray, List.set_cons_zero, List.set_cons_succ]
  refine flowL_det (fun wz hz hd => stepF_reads (by rfl) ?_) ?_
  · go_simp; try rfl
  simp only [Act.put, List.setIfInBounds_toArray, List.set_cons_zero, List.set_cons_succ]
  refine flowL_det (fun wz hz hd => stepF_reads (by rfl) ?_) ?_
  · go_simp; try rfl
  simp only [Act.put, List.setIfInBounds_toArray, List.set_cons_zero, List.set_cons_succ]
  refine flowL_det (fun wz hz hd => stepF_reads (by rfl) ?_) ?_
  · go_simp; try rfl
  simp only [Act.put, List.setIfInBounds_toArray, List.set_cons_zero, List.set_cons_succ]
  refine flowL_det (fun wz hz hd => stepF_reads (by rfl) ?_) ?_
  · have p0 := zg0 wz hz; have p1 := zg1 wz hz; go_simp; try rfl
  simp only [Act.put, List.setIfInBounds_toArray, List.set_cons_zero, List.set_cons_succ]
  refine flowL_make (⟨_, none, 0, rfl⟩) (fun wz hz hd => stepF_walk (by rfl) (fun K hK => ?_)) (fun v hv => ?_)
  · go_wp2_with fail
    go_at_call 13
    refine (FD wz hz).mono ?_
    rintro e w9 ⟨A9, c9, rfl, hr9, hb⟩
    exact hK.out _ _ ⟨A9, c9, rfl⟩ (fun A8 c8 e => by cases e; exact hr9) hb
  obtain ⟨Ada, cda, rfl⟩ := hv
  simp only [Act.put, List.setIfInBounds_toArray, List.set_cons_zero, List.set_cons_succ]
  refine flowL_det (fun wz hz hd => stepF_reads (by rfl) ?_) ?_
  · go_simp; try rfl
  simp only [Act.put, List.setIfInBounds_toArray, List.set_cons_zero, List.set_cons_succ]
  refine flowL_det (fun wz hz hd => stepF_reads (by rfl) ?_) ?_
  · have q := zg0 wz hz; go_simp; try rfl
  simp only [Act.put, List.setIfInBounds_toArray, List.set_cons_zero, List.set_cons_succ]
  refine flowL_det (fun wz hz hd => stepF_reads (by rfl) ?_) ?_
  · go_simp; try rfl
  simp only [Act.put, List.setIfInBounds_toArray, List.set_cons_zero, List.set_cons_succ]
  refine flowL_det (fun wz hz hd => stepF_reads (by rfl) ?_) ?_
  · have q := zg1 wz hz; go_simp; try rfl
  simp only [Act.put, List.setIfInBounds_toArray, List.set_cons_zero, List.set_cons_succ]
  refine flowL_make (⟨_, none, 0, rfl⟩) (fun wz hz hd => stepF_walk (by rfl) (fun K hK => ?_)) (fun v hv => ?_)
  · go_wp2_with fail
    go_at_call 14
    refine (FE wz hz).mono ?_
    rintro e w9 ⟨A9, c9, rfl, hr9, hb⟩
    exact hK.out _ _ ⟨A9, c9, rfl⟩ (fun A8 c8 e => by cases e; exact hr9) hb
  obtain ⟨Adb, cdb, rfl⟩ := hv
  simp only [Act.put, List.setIfInBounds_toArray, List.set_cons_zero, List.set_cons_succ]
  refine flowL_det (fun wz hz hd => stepF_walk (by rfl) (fun K hK => ?_)) ?_
  · obtain ⟨p, hp⟩ := dep_of hd 43 (by decide +kernel)
    obtain ⟨p2, hq⟩ := dep_of hd 48 (by decide +kernel)
    go_wp2_with fail
    go_at_call 8
    refine (FA dl ld dx wz Ada cda Adb cdb ((hp.post _ _ rfl).keep hp.since) ((hq.post _ _ rfl).keep hq.since)).mono ?_
    rintro e w9 ⟨rfl, hb⟩
    first | exact hK.out _ _ rfl trivial hb | exact hK.out _ _ (det_true rfl) trivial hb | exact hK.out _ _ (det_true trivial) trivial hb
  simp only [Act.put, List.setIfInBounds_toArray, List.set_cons_zero, List.set_cons_succ]
  refine flowL_det (fun wz hz hd => stepF_reads (by rfl) ?_) ?_
  · go_simp; try rfl
  simp only [Act.put, List.setIfInBounds_toArray, List.set_cons_zero, List.set_cons_succ]
  intro w5 ps hb5 hF hap
  clear hF hap FV FW FG FO FP FC FQ FD FE FA
  replace zg0 : ∀ wz, Below w5.heap.size w5 wz → wz.cell? ⟨gb, 0, none⟩ = some (.int .i64 (n : Int)) := fun wz hz => zg0 wz (hb5.trans (hz.mono hb5.size))
  replace zg1 : ∀ wz, Below w5.heap.size w5 wz → wz.cell? ⟨gb, 1, none⟩ = some (.slice A es.length d) := fun wz hz => zg1 wz (hb5.trans (hz.mono hb5.size))
  replace zo0 : ∀ wz, Below w5.heap.size w5 wz → wz.cell? ⟨ob, 0, none⟩ = some (.int .i64 zn) := fun wz hz => zo0 wz (hb5.trans (hz.mono hb5.size))
  replace zo1 : ∀ wz, Below w5.heap.size w5 wz → wz.cell? ⟨ob, 1, none⟩ = some (.slice zE zes.length ce) := fun wz hz => zo1 wz (hb5.trans (hz.mono hb5.size))
  replace zo2 : ∀ wz, Below w5.heap.size w5 wz → wz.cell? ⟨ob, 2, none⟩ = some (.slice zL zl.length cl) := fun wz hz => zo2 wz (hb5.trans (hz.mono hb5.size))
  replace zo3 : ∀ wz, Below w5.heap.size w5 wz → wz.cell? ⟨ob, 3, none⟩ = some (.int .i64 zf) := fun wz hz => zo3 wz (hb5.trans (hz.mono hb5.size))
  have hG5 := EdgesA.keep hGA hb5
  have hL5 := hLX.keep hb5
  have B5 := Lib.hid (B2.out.trans (hb5.mono B2.out.size))
  clear hGA hLX hEX hMO hGB B2 lo lc ld
  have FK := fun (wz : World) (hz : Below w5.heap.size w5 wz) => check_any n A zL es zl d cl wz (EdgesA.keep hG5 hz) (hL5.keep hz) ok hn2 hes
  have FL := fun (wz : World) (hz : Below w5.heap.size w5 wz) => rcheck_any n A zL es zl d cl wz (EdgesA.keep hG5 hz) (hL5.keep hz) ok hn2 hes
  have FR := fun (wz : World) (hz : Below w5.heap.size w5 wz) => reach_z n A es d zf wz (EdgesA.keep hG5 hz) ok hn2 hes
  have FS := fun (wz : World) (hz : Below w5.heap.size w5 wz) => rreach_z n A es d zf wz (EdgesA.keep hG5 hz) ok hn2 hes
  have lr : (rz n es zf).length ≤ 1000 := by have := rz_len n es zf; omega
  generalize rz n es zf = rl at *
  generalize chk n es zl = ck at *
  have FT := fun (wz : World) (A1 : Option Addr) (c1 : Nat) (A2 : Option Addr) (c2 : Nat) (h1 : Row wz 0 A1 rl) (h2 : Row wz 0 A2 rl) => same_one A1 A2 rl c1 c2 wz h1 h2 lr
  go_upto_region 7 with fail
  refine wp_region_flow 32 [.det (.pointer (some ⟨gb, 0, none⟩)), .det (.int .i64 ((n : Int))), .det (.pointer (some ⟨gb, 1, none⟩)), .det (.slice A es.length d), .det (.pointer (some ⟨ob, 2, none⟩)), .det (.slice zL zl.length cl), .det (.int .i64 ck), .det (.pointer (some ⟨gb, 0, none⟩)), .det (.int .i64 ((n : Int))), .det (.pointer (some ⟨gb, 1, none⟩)), .det (.slice A es.length d), .det (.pointer (some ⟨ob, 2, none⟩)), .det (.slice zL zl.length cl), .det (.int .i64 ck), .det (.bool false), .det (.bool false), .det (.pointer (some ⟨gb, 0, none⟩)), .det (.int .i64 ((n : Int))), .det (.pointer (some ⟨gb, 1, none⟩)), .det (.slice A es.length d), .det (.pointer (some ⟨ob, 3, none⟩)), .det (.int .i64 zf), rowS rl.length rl, .det (.pointer (some ⟨gb, 0, none⟩)), .det (.int .i64 ((n : Int))), .det (.pointer (some ⟨gb, 1, none⟩)), .det (.slice A es.length d), .det (.pointer (some ⟨ob, 3, none⟩)), .det (.int .i64 zf), rowS rl.length rl, .det (.bool true), .det (.bool false)] (by kernel_rfl) (by kernel_rfl) rfl ?_
  simp only [List.take_succ_cons, List.take_zero, List.drop_succ_cons, List.drop_zero]
  refine flowL_det (fun wz hz hd => stepF_reads (by rfl) ?_) ?_
  · go_simp; try rfl
  simp only [Act.put, List.setIfInBounds_toArray, List.set_cons_zero, List.set_cons_succ]
  refine flowL_det (fun wz hz hd => stepF_reads (by rfl) ?_) ?_
  · have q := zg0 wz hz; go_simp; try rfl
  simp only [Act.put, List.setIfInBounds_toArray, List.set_cons_zero, List.set_cons_succ]
  refine flowL_det (fun wz hz hd => stepF_reads (by rfl) ?_) ?_
  · go_simp; try rfl
  simp only [Act.put, List.setIfInBounds_toArray, List.set_cons_zero, List.set_cons_succ]
  refine flowL_det (fun wz hz hd => stepF_reads (by rfl) ?_) ?_
  · have q := zg1 wz hz; go_simp; try rfl
  simp only [Act.put, List.setIfInBounds_toArray, List.set_cons_zero, List.set_cons_succ]
  refine flowL_det (fun wz hz hd => stepF_reads (by rfl) ?_) ?_
  · go_simp; try rfl
  simp only [Act.put, List.setIfInBounds_toArray, List.set_cons_zero, List.set_cons_succ]
  refine flowL_det (fun wz hz hd => stepF_reads (by rfl) ?_) ?_
  · have q := zo2 wz hz; go_simp; try rfl
  simp only [Act.put, List.setIfInBounds_toArray, List.set_cons_zero, List.set_cons_succ]
  refine flowL_det (fun wz hz hd => stepF_walk (by rfl) (fun K hK => ?_)) ?_
  · go_wp2_with fail
    go_at_call 15
    refine (FK wz hz).mono ?_
    rintro e w9 ⟨rfl, hb⟩
    exact hK.out _ _ rfl trivial hb
  simp only [Act.put, List.setIfInBounds_toArray, List.set_cons_zero, List.set_cons_succ]
  refine flowL_det (fun wz hz hd => stepF_reads (by rfl) ?_) ?_
  · go_simp; try rfl
  simp only [Act.put, List.setIfInBounds_toArray, List.set_cons_zero, List.set_cons_succ]
  refine flowL_det (fun wz hz hd => stepF_reads (by rfl) ?_) ?_
  · have q := zg0 wz hz; go_simp; try rfl
  simp only [Act.put, List.setIfInBounds_toArray, List.set_cons_zero, List.set_cons_succ]
  refine flowL_det (fun wz hz hd => stepF_reads (by rfl) ?_) ?_
  · go_simp; try rfl
  simp only [Act.put, List.setIfInBounds_toArray, List.set_cons_zero, List.set_cons_succ]
  refine flowL_det (fun wz hz hd => stepF_reads (by rfl) ?_) ?_
  · have q := zg1 wz hz; go_simp; try rfl
  simp only [Act.put, List.setIfInBounds_toArray, List.set_cons_zero, List.set_cons_succ]
  refine flowL_det (fun wz hz hd => stepF_reads (by rfl) ?_) ?_
  · go_simp; try rfl
  simp only [Act.put, List.setIfInBounds_toArray, List.set_cons_zero, List.set_cons_succ]
  refine flowL_det (fun wz hz hd => stepF_reads (by rfl) ?_) ?_
  · have q := zo2 wz hz; go_simp; try rfl
  simp only [Act.put, List.setIfInBounds_toArray, List.set_cons_zero, List.set_cons_succ]
  refine flowL_det (fun wz hz hd => stepF_walk (by rfl) (fun K hK => ?_)) ?_
  · go_wp2_with fail
    go_at_call 16
    refine (FL wz hz).mono ?_
    rintro e w9 ⟨rfl, hb⟩
    exact hK.out _ _ rfl trivial hb
  simp only [Act.put, List.setIfInBounds_toArray, List.set_cons_zero, List.set_cons_succ]
  refine flowL_det (fun wz hz hd => stepF_reads (by rfl) ?_) ?_
  · go_simp; try rfl
  simp only [Act.put, List.setIfInBounds_toArray, List.set_cons_zero, List.set_cons_succ]
  refine flowL_det (fun wz hz hd => stepF_reads (by rfl) ?_) ?_
  · go_simp; try rfl
  simp only [Act.put, List.setIfInBounds_toArray, List.set_cons_zero, List.set_cons_succ]
  refine flowL_det (fun wz hz hd => stepF_reads (by rfl) ?_) ?_
  · go_simp; try rfl
  simp only [Act.put, List.setIfInBounds_toArray, List.set_cons_zero, List.set_cons_succ]
  refine flowL_det (fun wz hz hd => stepF_reads (by rfl) ?_) ?_
  · have q := zg0 wz hz; go_simp; try rfl
  simp only [Act.put, List.setIfInBounds_toArray, List.set_cons_zero, List.set_cons_succ]
  refine flowL_det (fun wz hz hd => stepF_reads (by rfl) ?_) ?_
  · go_simp; try rfl
  simp only [Act.put, List.setIfInBounds_toArray, List.set_cons_zero, List.set_cons_succ]
  refine flowL_det (fun wz hz hd => stepF_reads (by rfl) ?_) ?_
  · have q := zg1 wz hz; go_simp; try rfl
  simp only [Act.put, List.setIfInBounds_toArray, List.set_cons_zero, List.set_cons_succ]
  refine flowL_det (fun wz hz hd => stepF_reads (by rfl) ?_) ?_
  · go_simp; try rfl
  simp only [Act.put, List.setIfInBounds_toArray, List.set_cons_zero, List.set_cons_succ]
  refine flowL_det (fun wz hz hd => stepF_reads (by rfl) ?_) ?_
  · have q := zo3 wz hz; go_simp; try rfl
  simp only [Act.put, List.setIfInBounds_toArray, List.set_cons_zero, List.set_cons_succ]
  refine flowL_make (⟨_, none, 0, rfl⟩) (fun wz hz hd => stepF_walk (by rfl) (fun K hK => ?_)) (fun v hv => ?_)
  · go_wp2_with fail
    go_at_call 18
    refine (FR wz hz).mono ?_
    rintro e w9 ⟨A9, c9, rfl, hr9, hb⟩
    exact hK.out _ _ ⟨A9, c9, rfl⟩ (fun A8 c8 e => by cases e; exact hr9) hb
  obtain ⟨Ra, ra, rfl⟩ := hv
  simp only [Act.put, List.setIfInBounds_toArray, List.set_cons_zero, List.set_cons_succ]
  refine flowL_det (fun wz hz hd => stepF_reads (by rfl) ?_) ?_
  · go_simp; try rfl
  simp only [Act.put, List.setIfInBounds_toArray, List.set_cons_zero, List.set_cons_succ]
  refine flowL_det (fun wz hz hd => stepF_reads (by rfl) ?_) ?_
  · have q := zg0 wz hz; go_simp; try rfl
  simp only [Act.put, List.setIfInBounds_toArray, List.set_cons_zero, List.set_cons_succ]
  refine flowL_det (fun wz hz hd => stepF_reads (by rfl) ?_) ?_
  · go_simp; try rfl
  simp only [Act.put, List.setIfInBounds_toArray, List.set_cons_zero, List.set_cons_succ]
  refine flowL_det (fun wz hz hd => stepF_reads (by rfl) ?_) ?_
  · have q := zg1 wz hz; go_simp; try rfl
  simp only [Act.put, List.setIfInBounds_toArray, List.set_cons_zero, List.set_cons_succ]
  refine flowL_det (fun wz hz hd => stepF_reads (by rfl) ?_) ?_
  · go_simp; try rfl
  simp only [Act.put, List.setIfInBounds_toArray, List.set_cons_zero, List.set_cons_succ]
  refine flowL_det (fun wz hz hd => stepF_reads (by rfl) ?_) ?_
  · have q := zo3 wz hz; go_simp; try rfl
  simp only [Act.put, List.setIfInBounds_toArray, List.set_cons_zero, List.set_cons_succ]
  refine flowL_make (⟨_, none, 0, rfl⟩) (fun wz hz hd => stepF_walk (by rfl) (fun K hK => ?_)) (fun v hv => ?_)
  · go_wp2_with fail
    go_at_call 19
    refine (FS wz hz).mono ?_
    rintro e w9 ⟨A9, c9, rfl, hr9, hb⟩
    exact hK.out _ _ ⟨A9, c9, rfl⟩ (fun A8 c8 e => by cases e; exact hr9) hb
  obtain ⟨Rb, rb, rfl⟩ := hv
  simp only [Act.put, List.setIfInBounds_toArray, List.set_cons_zero, List.set_cons_succ]
  refine flowL_det (fun wz hz hd => stepF_walk (by rfl) (fun K hK => ?_)) ?_
  · obtain ⟨p, hp⟩ := dep_of hd 22 (by decide +kernel)
    obtain ⟨p2, hq⟩ := dep_of hd 29 (by decide +kernel)
    go_wp2_with fail
    go_at_call 17
    refine (FT wz Ra ra Rb rb ((hp.post _ _ rfl).keep hp.since) ((hq.post _ _ rfl).keep hq.since)).mono ?_
    rintro e w9 ⟨rfl, hb⟩
    first | exact hK.out _ _ rfl trivial hb | exact hK.out _ _ (det_true rfl) trivial hb | exact hK.out _ _ (det_true trivial) trivial hb
  simp only [Act.put, List.setIfInBounds_toArray, List.set_cons_zero, List.set_cons_succ]
  refine flowL_det (fun wz hz hd => stepF_reads (by rfl) ?_) ?_
  · go_simp; try rfl
  simp only [Act.put, List.setIfInBounds_toArray, List.set_cons_zero, List.set_cons_succ]
  intro w6 ps hb6 hF hap
  clear hF hap FK FL FR FS FT lr
  replace zg0 : ∀ wz, Below w6.heap.size w6 wz → wz.cell? ⟨gb, 0, none⟩ = some (.int .i64 (n : Int)) := fun wz hz => zg0 wz (hb6.trans (hz.mono hb6.size))
  replace zg1 : ∀ wz, Below w6.heap.size w6 wz → wz.cell? ⟨gb, 1, none⟩ = some (.slice A es.length d) := fun wz hz => zg1 wz (hb6.trans (hz.mono hb6.size))
  replace zo0 : ∀ wz, Below w6.heap.size w6 wz → wz.cell? ⟨ob, 0, none⟩ = some (.int .i64 zn) := fun wz hz => zo0 wz (hb6.trans (hz.mono hb6.size))
  replace zo1 : ∀ wz, Below w6.heap.size w6 wz → wz.cell? ⟨ob, 1, none⟩ = some (.slice zE zes.length ce) := fun wz hz => zo1 wz (hb6.trans (hz.mono hb6.size))
  replace zo2 : ∀ wz, Below w6.heap.size w6 wz → wz.cell? ⟨ob, 2, none⟩ = some (.slice zL zl.length cl) := fun wz hz => zo2 wz (hb6.trans (hz.mono hb6.size))
  replace zo3 : ∀ wz, Below w6.heap.size w6 wz → wz.cell? ⟨ob, 3, none⟩ = some (.int .i64 zf) := fun wz hz => zo3 wz (hb6.trans (hz.mono hb6.size))
  have hG6 := EdgesA.keep hG5 hb6
  have B6 := Lib.hid (B5.out.trans (hb6.mono B5.out.size))
  clear hG5 hL5 B5
  have hcr := comp_rows (n := n) (es := es)
  have FX := fun (wz : World) (hz : Below w6.heap.size w6 wz) => comp_any n A es d wz (EdgesA.keep hG6 hz) ok hn2 hes
  have FY := fun (wz : World) (hz : Below w6.heap.size w6 wz) => rcomp_any n A es d wz (EdgesA.keep hG6 hz) ok hn2 hes
  generalize Dgr.compL n es = rs at *
  have FZ := fun (wz : World) (A1 : Option Addr) (c1 : Nat) (A2 : Option Addr) (c2 : Nat) (h1 : Rows wz 0 A1 rs) (h2 : Rows wz 0 A2 rs) => samel_one A1 A2 rs c1 c2 wz h1 h2 (by omega) (fun x hx => by have := hcr.2 x hx; omega)
  go_upto_region 9 with fail
  refine wp_region_flow 14 [.det (.bool true), .det (.bool true), .det (.pointer (some ⟨gb, 0, none⟩)), .det (.int .i64 ((n : Int))), .det (.pointer (some ⟨gb, 1, none⟩)), .det (.slice A es.length d), rowsS rs.length rs, .det (.pointer (some ⟨gb, 0, none⟩)), .det (.int .i64 ((n : Int))), .det (.pointer (some ⟨gb, 1, none⟩)), .det (.slice A es.length d), rowsS rs.length rs, .det (.bool true), .det (.bool true)] (by kernel_rfl) (by kernel_rfl) rfl ?_
  simp only [List.take_succ_cons, List.take_zero, List.drop_succ_cons, List.drop_zero]
  refine flowL_det (fun wz hz hd => stepF_reads (by rfl) ?_) ?_
  · go_simp; try rfl
  simp only [Act.put, List.setIfInBounds_toArray, List.set_cons_zero, List.set_cons_succ]
  refine flowL_det (fun wz hz hd => stepF_reads (by rfl) ?_) ?_
  · go_simp; try rfl
  simp only [Act.put, List.setIfInBounds_toArray, List.set_cons_zero, List.set_cons_succ]
  refine flowL_det (fun wz hz hd => stepF_reads (by rfl) ?_) ?_
  · go_simp; try rfl
  simp only [Act.put, List.setIfInBounds_toArray, List.set_cons_zero, List.set_cons_succ]
  refine flowL_det (fun wz hz hd => stepF_reads (by rfl) ?_) ?_
  · have q := zg0 wz hz; go_simp; try rfl
  simp only [Act.put, List.setIfInBounds_toArray, List.set_cons_zero, List.set_cons_succ]
  refine flowL_det (fun wz hz hd => stepF_reads (by rfl) ?_) ?_
  · go_simp; try rfl
  simp only [Act.put, List.setIfInBounds_toArray, List.set_cons_zero, List.set_cons_succ]
  refine flowL_det (fun wz hz hd => stepF_reads (by rfl) ?_) ?_
  · have q := zg1 wz hz; go_simp; try rfl
  simp only [Act.put, List.setIfInBounds_toArray, List.set_cons_zero, List.set_cons_succ]
  refine flowL_make (⟨_, none, 0, rfl⟩) (fun wz hz hd => stepF_walk (by rfl) (fun K hK => ?_)) (fun v hv => ?_)
  · go_wp2_with fail
    go_at_call 21
    refine (FX wz hz).mono ?_
    rintro e w9 ⟨A9, c9, rfl, _, hr9, hb⟩
    exact hK.out _ _ ⟨A9, c9, rfl⟩ (fun A8 c8 e => by cases e; exact hr9.mono (Nat.zero_le _)) hb
  obtain ⟨Ra, ra, rfl⟩ := hv
  simp only [Act.put, List.setIfInBounds_toArray, List.set_cons_zero, List.set_cons_succ]
  refine flowL_det (fun wz hz hd => stepF_reads (by rfl) ?_) ?_
  · go_simp; try rfl
  simp only [Act.put, List.setIfInBounds_toArray, List.set_cons_zero, List.set_cons_succ]
  refine flowL_det (fun wz hz hd => stepF_reads (by rfl) ?_) ?_
  · have q := zg0 wz hz; go_simp; try rfl
  simp only [Act.put, List.setIfInBounds_toArray, List.set_cons_zero, List.set_cons_succ]
  refine flowL_det (fun wz hz hd => stepF_reads (by rfl) ?_) ?_
  · go_simp; try rfl
  simp only [Act.put, List.setIfInBounds_toArray, List.set_cons_zero, List.set_cons_succ]
  refine flowL_det (fun wz hz hd => stepF_reads (by rfl) ?_) ?_
  · have q := zg1 wz hz; go_simp; try rfl
  simp only [Act.put, List.setIfInBounds_toArray, List.set_cons_zero, List.set_cons_succ]
  refine flowL_make (⟨_, none, 0, rfl⟩) (fun wz hz hd => stepF_walk (by rfl) (fun K hK => ?_)) (fun v hv => ?_)
  · go_wp2_with fail
    go_at_call 22
    refine (FY wz hz).mono ?_
    rintro e w9 ⟨A9, c9, rfl, _, hr9, hb⟩
    exact hK.out _ _ ⟨A9, c9, rfl⟩ (fun A8 c8 e => by cases e; exact hr9.mono (Nat.zero_le _)) hb
  obtain ⟨Rb, rb, rfl⟩ := hv
  simp only [Act.put, List.setIfInBounds_toArray, List.set_cons_zero, List.set_cons_succ]
  refine flowL_det (fun wz hz hd => stepF_walk (by rfl) (fun K hK => ?_)) ?_
  · obtain ⟨p, hp⟩ := dep_of hd 6 (by decide +kernel)
    obtain ⟨p2, hq⟩ := dep_of hd 11 (by decide +kernel)
    go_wp2_with fail
    go_at_call 20
    refine (FZ wz Ra ra Rb rb ((hp.post _ _ rfl).keep hp.since) ((hq.post _ _ rfl).keep hq.since)).mono ?_
    rintro e w9 ⟨rfl, hb⟩
    first | exact hK.out _ _ rfl trivial hb | exact hK.out _ _ (det_true rfl) trivial hb | exact hK.out _ _ (det_true trivial) trivial hb
  simp only [Act.put, List.setIfInBounds_toArray, List.set_cons_zero, List.set_cons_succ]
  refine flowL_det (fun wz hz hd => stepF_reads (by rfl) ?_) ?_
  · go_simp; try rfl
  simp only [Act.put, List.setIfInBounds_toArray, List.set_cons_zero, List.set_cons_succ]
  intro w7 ps hb7 hF hap
  clear hF hap FX FY FZ zg0 zg1 zo0 zo1 zo2 zo3
  have B7 := B6.out.trans (hb7.mono B6.out.size)
  go_wp2_with fail
  go_ret
  exact ⟨rfl, B7⟩

end Gp
end Go.Proofs.Ytmdleoadodcljaa
