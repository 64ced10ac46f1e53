/- A law for statements that leave the order of their operations open and whose operations make memory whose place hangs on the order: each operation has a contract of its own (what its value looks like, what it leaves in the world, kept by all that lies unturned later on); it is walked once, in the order of the text, whatever the order is. At the end every contract holds, and what two operations made lies apart. The components as a partition: which list a node lies in, marks as they are set, the number of lists. DigraphComponents: the walk. -/
import Derived.Test.YtmagfkpnlkhofaaL2
import Derived.Deep.RegionHeld
import Derived.Test.YtmagfkpnlkhofaaZ8
import Derived.Test.YtmagfkpnlkhofaaH0
import Derived.Test.YtmagfkpnlkhofaaG8
import Derived.Test.YtmagfkpnlkhofaaGI
namespace Go.Proofs.Ytmagfkpnlkhofaa
open Go.RowKit
namespace Fr
set_option linter.unusedVariables false

/-- An operation's contract: its value's look; what holds of the world ahead of it, its value, the world behind it. -/
structure FSpec where
  G : Value → Prop
  R : World → Value → World → Prop
instance : Inhabited FSpec := ⟨⟨fun _ => True, fun _ _ _ => True⟩⟩
def FSpec.det (v : Value) : FSpec := ⟨fun u => u = v, fun _ _ _ => True⟩
/-- It was done between two worlds; since then all that lay lies. -/
structure Did (s : FSpec) (p : World × World) (v : Value) (w : World) : Prop where
  good : s.G v
  post : s.R p.1 v p.2
  step : Below p.1.heap.size p.1 p.2
  since : Below p.2.heap.size p.2 w
theorem Did.keep {s : FSpec} {p : World × World} {v : Value} {w w' : World} (h : Did s p v w) (hb : Below w.heap.size w w') : Did s p v w' := ⟨h.good, h.post, h.step, h.since.trans (hb.mono h.since.size)⟩

def stepF (P : Program) (ops : Array Oper) (o : Oper) (a : Act) (w : World) (s : FSpec) : Prop :=
  if Region.wanted o (yielded ops a.tmps) = true then o.wp P a w (fun a' w' => ∃ v, a' = a.put o.dst v ∧ s.G v ∧ s.R w v w' ∧ Below w.heap.size w w') (fun _ _ _ => False) else s.G undef ∧ s.R w undef w

def updF (F : Nat → World × World → World → Prop) (i : Nat) (f : World × World → World → Prop) : Nat → World × World → World → Prop := fun j => if j = i then f else F j
/-- The operations whose slots number i looks at. -/
def depsF (ops : Array Oper) (n i : Nat) : List Nat := (List.range n).filter fun j => match ops[i]?, (ops[j]?).bind (·.dst) with | some o, some t => (o.looksAt ops).contains t | _, _ => false

def flowL (P : Program) (ops : Array Oper) (n : Nat) (w0 : World) (K : Act → World → Prop) : List Oper → List FSpec → Nat → (Nat → World × World → World → Prop) → Act → Prop
  | o :: l, s :: ss, i, F, a => (∀ w, Below w0.heap.size w0 w → (∀ j ∈ depsF ops n i, ∃ p, F j p w) → stepF P ops o a w s) ∧ (∃ v, s.G v) ∧ ∀ v, s.G v → flowL P ops n w0 K l ss (i + 1) (updF F i fun p w => Did s p v w) (a.put o.dst v)
  | [], [], _, F, a => ∀ w (ps : Nat → World × World), Below w0.heap.size w0 w → (∀ j, j < n → F j (ps j) w ∧ Below w0.heap.size w0 (ps j).1) → (∀ i j, i < n → j < n → i ≠ j → (ps i).2.heap.size ≤ (ps j).1.heap.size ∨ (ps j).2.heap.size ≤ (ps i).1.heap.size) → K a w
  | _, _, _, _, _ => False

def depB (md : Region.Mode) (ops : Array Oper) (n : Nat) : Bool :=
  (List.range n).all fun i => match ops[i]? with
    | some o => (List.range n).all fun j => match (ops[j]?).bind (·.dst) with
      | some t => !(o.looksAt ops).contains t || (decide (j < i) && o.after.any fun e => Region.binds md e && e.on == j)
      | none => true
    | none => true
theorem depB_spec {md : Region.Mode} {ops : Array Oper} {n : Nat} (h : depB md ops n = true) {i j : Nat} (hi : i < n) (hj : j < n) {o oj : Oper} (ho : ops[i]? = some o) (hoj : ops[j]? = some oj) {t : Tmp} (ht : oj.dst = some t) (hl : t ∈ o.looksAt ops) : j < i ∧ ∃ e ∈ o.after, Region.binds md e = true ∧ e.on = j := by
  have h1 := List.all_eq_true.1 h i (List.mem_range.2 hi)
  simp only [ho] at h1
  have h2 := List.all_eq_true.1 h1 j (List.mem_range.2 hj)
  simp only [hoj, Option.bind_some, ht, Bool.or_eq_true, Bool.not_eq_true', Bool.and_eq_true, decide_eq_true_eq] at h2
  rcases h2 with h2 | h2
  · have : (o.looksAt ops).contains t = true := List.contains_iff_mem.2 hl
    rw [h2] at this
    cases this
  · refine ⟨h2.1, ?_⟩
    obtain ⟨e, he, hb⟩ := Array.any_eq_true'.1 h2.2
    simp only [Bool.and_eq_true, beq_iff_eq] at hb
    exact ⟨e, he, hb.1, hb.2⟩

def fill (ops : Array Oper) (vs : Nat → Value) (a : Act) : Nat → Act
  | 0 => a
  | i + 1 => (fill ops vs a i).put ((ops[i]?).bind (·.dst)) (vs i)

/-- The state in which just the operations of p are done. -/
structure AgrF (ops : Array Oper) (n : Nat) (p : Nat → Prop) (vs : Nat → Value) (a0 a : Act) : Prop where
  defers : a.defers = a0.defers
  size : a.tmps.size = a0.tmps.size
  on : ∀ j t, j < n → p j → (ops[j]?).bind (·.dst) = some t → t < a0.tmps.size → a.tmps[t]? = some (vs j)
  off : ∀ t, (∀ j, j < n → p j → (ops[j]?).bind (·.dst) ≠ some t) → a.tmps[t]? = a0.tmps[t]?

theorem AgrF.refl {ops : Array Oper} {n : Nat} {vs : Nat → Value} {a0 : Act} {p : Nat → Prop} (h : ∀ j, j < n → ¬ p j) : AgrF ops n p vs a0 a0 := ⟨rfl, rfl, fun j t hj hp => absurd hp (h j hj), fun _ _ => rfl⟩
theorem AgrF.put {ops : Array Oper} {n : Nat} {vs vs' : Nat → Value} {a0 a : Act} {p p' : Nat → Prop} (h : AgrF ops n p vs a0 a) {i : Nat} (hi : i < n) (hpi : ¬ p i) (hp : ∀ j, j < n → (p' j ↔ p j ∨ j = i)) (hv : ∀ j, j < n → p j → vs' j = vs j)
    (hd : ∀ j k, j < n → k < n → j ≠ k → ∀ t, (ops[j]?).bind (·.dst) = some t → (ops[k]?).bind (·.dst) ≠ some t) : AgrF ops n p' vs' a0 (a.put ((ops[i]?).bind (·.dst)) (vs' i)) := by
  cases hdi : (ops[i]?).bind (·.dst) with
  | none =>
    refine ⟨h.defers, h.size, fun j t hj hpj ht hlt => ?_, fun t ht => ?_⟩
    · rcases (hp j hj).1 hpj with h1 | rfl
      · rw [hv j hj h1]; exact h.on j t hj h1 ht hlt
      · rw [hdi] at ht; cases ht
    · exact h.off t fun j hj h1 => ht j hj ((hp j hj).2 (.inl h1))
  | some d =>
    refine ⟨h.defers, by simpa [Act.put] using h.size, fun j t hj hpj ht hlt => ?_, fun t ht => ?_⟩
    · simp only [Act.put, Array.getElem?_setIfInBounds, h.size]
      by_cases hji : j = i
      · subst hji
        rw [hdi] at ht; cases ht
        simp [hlt]
      · have hne : d ≠ t := fun e => hd j i hj hi hji t ht (by rw [hdi, e])
        rcases (hp j hj).1 hpj with h1 | h1
        · simp only [hne, if_false]; rw [hv j hj h1]; exact h.on j t hj h1 ht hlt
        · exact absurd h1 hji
    · have hne : d ≠ t := fun e => ht i hi ((hp i hi).2 (.inr rfl)) (by rw [hdi, e])
      simp only [Act.put, Array.getElem?_setIfInBounds_ne hne]
      exact h.off t fun j hj h1 => ht j hj ((hp j hj).2 (.inl h1))
theorem fill_agr {ops : Array Oper} {n : Nat} {vs : Nat → Value} {a0 : Act} (hd : ∀ j k, j < n → k < n → j ≠ k → ∀ t, (ops[j]?).bind (·.dst) = some t → (ops[k]?).bind (·.dst) ≠ some t) : ∀ i, i ≤ n → AgrF ops n (· < i) vs a0 (fill ops vs a0 i)
  | 0, _ => AgrF.refl (fun j _ h => by omega)
  | i + 1, hi => (fill_agr hd i (by omega)).put (by omega) (by omega) (fun j _ => by omega) (fun _ _ _ => rfl) hd
theorem AgrF.uniq {ops : Array Oper} {n : Nat} {vs : Nat → Value} {a0 a a' : Act} {p : Nat → Prop} (h : AgrF ops n p vs a0 a) (h' : AgrF ops n p vs a0 a') : a = a' := by
  have ht : a.tmps = a'.tmps := Array.ext_getElem? fun t => by
    by_cases hc : ∃ j, j < n ∧ p j ∧ (ops[j]?).bind (·.dst) = some t
    · obtain ⟨j, hj, hp, hd⟩ := hc
      by_cases hlt : t < a0.tmps.size
      · rw [h.on j t hj hp hd hlt, h'.on j t hj hp hd hlt]
      · rw [Array.getElem?_eq_none (by rw [h.size]; omega), Array.getElem?_eq_none (by rw [h'.size]; omega)]
    · have hc' : ∀ j, j < n → p j → (ops[j]?).bind (·.dst) ≠ some t := fun j hj hp hd => hc ⟨j, hj, hp, hd⟩
      rw [h.off t hc', h'.off t hc']
  have hde := h.defers.trans h'.defers.symm
  cases a; cases a'; simp only at ht hde; rw [ht, hde]

/-- An operation sees the same in two states that agree on all it looks at. -/
theorem sees {ops : Array Oper} {o : Oper} {a b : Act} (hs : ∀ cs x, o.op ≠ .select cs x) (h : ∀ t ∈ o.looksAt ops, a.tmps[t]? = b.tmps[t]?) :
    execOp a.eval o = execOp b.eval o ∧ Region.wanted o (yielded ops a.tmps) = Region.wanted o (yielded ops b.tmps) := by
  refine ⟨execOp_congr o hs fun x hx => ?_, ?_⟩
  · cases x with
    | tmp t =>
      have := h t (List.mem_append_left _ (List.mem_filterMap.2 ⟨.tmp t, by simpa using hx, rfl⟩))
      simp only [Act.eval, Array.getD_eq_getD_getElem?, this]
    | _ => rfl
  · have hy : ∀ g b', o.guard = some (g, b') → yielded ops a.tmps g = yielded ops b.tmps g := fun g b' hg => by
      unfold yielded
      cases hd : (ops[g]?).bind (·.dst) with
      | none => rfl
      | some d =>
        have := h d (List.mem_append_right _ (by simp [hg, hd]))
        simp only [Option.bind_some, this]
    unfold Region.wanted
    split
    · rfl
    · rename_i g b' hg
      rw [hy g b' hg]

theorem countP_lt {p p' : Nat → Bool} {i : Nat} (h : ∀ j, p' j = true → p j = true) (hi : p i = true) (hi' : p' i = false) : ∀ l : List Nat, i ∈ l → l.countP p' < l.countP p
  | [], hm => by cases hm
  | x :: l, hm => by
    have hle : l.countP p' ≤ l.countP p := List.countP_mono_left fun j _ hj => h j hj
    rw [List.countP_cons, List.countP_cons]
    rcases List.mem_cons.1 hm with rfl | hm
    · rw [hi, hi']; simp only [if_true, Bool.false_eq_true, if_false]; omega
    · have := countP_lt h hi hi' l hm
      by_cases h1 : p' x = true
      · rw [h1, h x h1]; simp only [if_true]; omega
      · rw [if_neg h1]
        split <;> omega

section
variable {P : Program} {l : List Oper} {md : Region.Mode} {n : Nat} {w0 : World} {a0 : Act} {sp : List FSpec} {K : Act → World → Prop}

def FofF (sp : List FSpec) (vs : Nat → Value) (i : Nat) : Nat → World × World → World → Prop := fun j p w => if j < i then Did (sp.getD j default) p (vs j) w else True
theorem FofF_succ (vs : Nat → Value) (i : Nat) : updF (FofF sp vs i) i (fun p w => Did (sp.getD i default) p (vs i) w) = FofF sp vs (i + 1) := by
  funext j p w
  unfold updF FofF
  by_cases h : j = i
  · subst h; rw [if_pos rfl, if_pos (by omega)]
  · rw [if_neg h]
    by_cases h' : j < i
    · rw [if_pos h', if_pos (by omega)]
    · rw [if_neg h', if_neg (by omega)]

theorem flow_at (hl : n ≤ l.length) (hlen : sp.length = n) (h : flowL P l.toArray n w0 K (l.take n) sp 0 (fun _ _ _ => True) a0) (vs : Nat → Value) :
    ∀ i, i ≤ n → (∀ j, j < i → (sp.getD j default).G (vs j)) → flowL P l.toArray n w0 K ((l.take n).drop i) (sp.drop i) i (FofF sp vs i) (fill l.toArray vs a0 i)
  | 0, _, _ => by
    have : FofF sp vs 0 = fun _ _ _ => True := by funext j p w; unfold FofF; rw [if_neg (by omega)]
    rw [this]
    simpa [fill] using h
  | i + 1, hi, hg => by
    have ih := flow_at hl hlen h vs i (by omega) fun j hj => hg j (by omega)
    have hi1 : i < (l.take n).length := by rw [List.length_take]; omega
    have hi2 : i < sp.length := by omega
    rw [List.drop_eq_getElem_cons hi1, List.drop_eq_getElem_cons hi2] at ih
    have e : sp.getD i default = sp[i] := by simp [hi2]
    have h3 := ih.2.2 (vs i) (e ▸ hg i (by omega))
    rw [← e, FofF_succ] at h3
    have e2 : ((l.toArray[i]?).bind (·.dst)) = (l.take n)[i].dst := by
      have hil : i < l.length := by omega
      simp [hil]
    unfold fill
    rw [e2]
    exact h3
theorem flow_good (hl : n ≤ l.length) (hlen : sp.length = n) (h : flowL P l.toArray n w0 K (l.take n) sp 0 (fun _ _ _ => True) a0) : ∀ i, i ≤ n → ∃ vs : Nat → Value, ∀ j, j < i → (sp.getD j default).G (vs j)
  | 0, _ => ⟨fun _ => undef, fun j hj => by omega⟩
  | i + 1, hi => by
    obtain ⟨vs, hv⟩ := flow_good hl hlen h i (by omega)
    have ih := flow_at hl hlen h vs i (by omega) hv
    have hi1 : i < (l.take n).length := by rw [List.length_take]; omega
    have hi2 : i < sp.length := by omega
    rw [List.drop_eq_getElem_cons hi1, List.drop_eq_getElem_cons hi2] at ih
    obtain ⟨v, hv2⟩ := ih.2.1
    refine ⟨fun j => if j = i then v else vs j, fun j hj => ?_⟩
    by_cases hji : j = i
    · subst hji
      have e : sp.getD j default = sp[j] := by simp [hi2]
      dsimp only
      rw [if_pos rfl, e]; exact hv2
    · dsimp only
      rw [if_neg hji]; exact hv j (by omega)

/-- What is asked of a region: the first n operations in any order, the others in one. -/
def flowB (md : Region.Mode) (l : List Oper) (n : Nat) : Bool :=
  decide (n < l.length) && Region.sinkB md l.toArray n && Region.chainB md l.toArray n && headB md l.toArray n && Region.noSelect l.toArray && depB md l.toArray n &&
    ((List.range n).all fun i => (List.range n).all fun j => i == j || match (l[i]?).bind (·.dst), (l[j]?).bind (·.dst) with
      | some t, some u => !(t == u)
      | _, _ => true) &&
    Region.seqB md l.toArray (l.length - n) n (Array.replicate n true ++ Array.replicate (l.length - n) false)

theorem flow_any {g : Nat} {Q' : Exit → Act → World → Prop} {full : Array Bool} (hn : n < l.length) (hs : Region.sinkB md l.toArray n = true) (hc : Region.chainB md l.toArray n = true) (hB : headB md l.toArray n = true) (hsel : Region.noSelect l.toArray = true)
    (hdep : depB md l.toArray n = true) (hd : ∀ j k, j < n → k < n → j ≠ k → ∀ t, (l.toArray[j]?).bind (·.dst) = some t → (l.toArray[k]?).bind (·.dst) ≠ some t)
    (hlen : sp.length = n) (hfz : full.size = l.toArray.size) (hf : ∀ j, j < l.toArray.size → full.getD j true = decide (j < n))
    (hK : ∀ a w, K a w → wpAny P md l.toArray Q' g full a w) (hflow : flowL P l.toArray n w0 K (l.take n) sp 0 (fun _ _ _ => True) a0) :
    ∀ (f : Nat) (la : Array Bool) (a : Act) (vs : Nat → Value) (ps : Nat → World × World) (w : World), HeadInv md l.toArray n la → (List.range n).countP (fun j => !la.getD j true) ≤ f → AgrF l.toArray n (fun j => la.getD j true = true) vs a0 a →
      Below w0.heap.size w0 w → (∀ j, j < n → (sp.getD j default).G (vs j)) → (∀ j, j < n → la.getD j true = true → Did (sp.getD j default) (ps j) (vs j) w ∧ Below w0.heap.size w0 (ps j).1) →
      (∀ i j, i < n → j < n → i ≠ j → la.getD i true = true → la.getD j true = true → (ps i).2.heap.size ≤ (ps j).1.heap.size ∨ (ps j).2.heap.size ≤ (ps i).1.heap.size) → wpAny P md l.toArray Q' (f + g) la a w := by
  have hsz : l.toArray.size = l.length := by simp
  have fin : ∀ (f : Nat) (la : Array Bool) (a : Act) (vs : Nat → Value) (ps : Nat → World × World) (w : World), HeadInv md l.toArray n la → (∀ j, j < n → la.getD j true = true) → AgrF l.toArray n (fun j => la.getD j true = true) vs a0 a →
      Below w0.heap.size w0 w → (∀ j, j < n → (sp.getD j default).G (vs j)) → (∀ j, j < n → la.getD j true = true → Did (sp.getD j default) (ps j) (vs j) w ∧ Below w0.heap.size w0 (ps j).1) →
      (∀ i j, i < n → j < n → i ≠ j → la.getD i true = true → la.getD j true = true → (ps i).2.heap.size ≤ (ps j).1.heap.size ∨ (ps j).2.heap.size ≤ (ps i).1.heap.size) → wpAny P md l.toArray Q' (f + g) la a w := by
    intro f la a vs ps w inv hall hag hb hG hdid hap
    have : la = full := by
      refine Array.ext (inv.size.trans hfz.symm) fun j h1 h2 => ?_
      have hjo : j < l.toArray.size := by rw [← inv.size]; exact h1
      have e1 : la.getD j true = full.getD j true := by
        rw [hf j hjo]
        by_cases hj : j < n
        · rw [hall j hj]; simp [hj]
        · rw [inv.tail j (by omega) hjo]; simp [hj]
      simpa [h1, h2] using e1
    subst this
    refine any_more' g (hK a w ?_) f
    have h1 := flow_at (by omega) hlen hflow vs n (Nat.le_refl _) hG
    rw [List.drop_of_length_le (by simp; omega), List.drop_of_length_le (by omega)] at h1
    have h2 := h1 w ps hb (fun j hj => ⟨by unfold FofF; rw [if_pos hj]; exact (hdid j hj (hall j hj)).1, (hdid j hj (hall j hj)).2⟩) fun i j hi hj hij => hap i j hi hj hij (hall i hi) (hall j hj)
    have h3 : fill l.toArray vs a0 n = a := by
      refine AgrF.uniq (p := fun j => la.getD j true = true) (n := n) (ops := l.toArray) (vs := vs) (a0 := a0) ?_ hag
      have h4 := fill_agr (vs := vs) (a0 := a0) hd n (Nat.le_refl _)
      exact ⟨h4.defers, h4.size, fun j t hj _ => h4.on j t hj hj, fun t ht => h4.off t fun j hj _ => ht j hj (hall j hj)⟩
    rw [h3] at h2
    exact h2
  intro f
  induction f with
  | zero =>
    intro la a vs ps w inv hcnt hag hb hG hdid hap
    refine fin 0 la a vs ps w inv (fun j hj => ?_) hag hb hG hdid hap
    have h0 : (List.range n).countP (fun j => !la.getD j true) = 0 := by omega
    have := List.countP_eq_zero.1 h0 j (List.mem_range.2 hj)
    simpa using this
  | succ f ih =>
    intro la a vs ps w inv hcnt hag hb hG hdid hap
    by_cases hall : ∀ j, j < n → la.getD j true = true
    · exact fin (f + 1) la a vs ps w inv hall hag hb hG hdid hap
    obtain ⟨i0, hi0⟩ := Classical.not_forall.1 hall
    obtain ⟨hi0, hun0⟩ := Classical.not_imp.1 hi0
    have hun0' : la.getD i0 true = false := by simpa using hun0
    have hlow : ∀ t, t ∈ Region.ready md l.toArray la → t < n := fun t ht => by
      rcases Nat.lt_or_ge t n with h' | h'
      · exact h'
      · exact absurd ht (tail_waits hs hc (by omega) inv _ i0 rfl hi0 hun0' t h')
    rw [show f + 1 + g = (f + g) + 1 by omega]
    refine ⟨fun h0 => ?_, fun i hi => ?_⟩
    · obtain ⟨k, _, hk⟩ := head_ready hB (by omega) i0 hi0 hun0' (fun j hj => by
        have : j < la.size := by rw [inv.size]; omega
        simp [this])
      rw [h0] at hk; cases hk
    have hin := hlow i hi
    obtain ⟨hun, o, ho, hall'⟩ := mem_ready.1 hi
    have hdst : (l.toArray[i]?).bind (·.dst) = o.dst := by rw [ho]; rfl
    have hlisted : ∀ j, j < n → ∀ t, (l.toArray[j]?).bind (·.dst) = some t → t ∈ o.looksAt l.toArray → j < i ∧ la.getD j true = true := fun j hj t ht hl => by
      obtain ⟨oj, hoj⟩ : ∃ oj, l.toArray[j]? = some oj := ⟨_, Array.getElem?_eq_getElem (by omega)⟩
      rw [hoj] at ht
      obtain ⟨h1, e, he, hbi, hon⟩ := depB_spec hdep hin hj ho hoj ht hl
      refine ⟨h1, ?_⟩
      have h2 := hall' e he hbi
      rw [hon] at h2
      have : j < la.size := by rw [inv.size]; omega
      simpa [this] using h2
    have hfl := fill_agr (vs := vs) (a0 := a0) hd i (by omega)
    have hsee := sees (a := a) (b := fill l.toArray vs a0 i) (Region.noSelect_spec hsel i o · · ho) (fun t ht => by
      by_cases hc : ∃ j, j < n ∧ (l.toArray[j]?).bind (·.dst) = some t
      · obtain ⟨j, hj, hjd⟩ := hc
        obtain ⟨h1, h2⟩ := hlisted j hj t hjd ht
        by_cases hlt : t < a0.tmps.size
        · rw [hag.on j t hj h2 hjd hlt, hfl.on j t hj h1 hjd hlt]
        · rw [Array.getElem?_eq_none (by rw [hag.size]; exact Nat.le_of_not_lt hlt), Array.getElem?_eq_none (by rw [hfl.size]; exact Nat.le_of_not_lt hlt)]
      · have hc' : ∀ j, j < n → (l.toArray[j]?).bind (·.dst) ≠ some t := fun j hj hd => hc ⟨j, hj, hd⟩
        rw [hag.off t fun j hj _ => hc' j hj, hfl.off t fun j hj _ => hc' j hj])
    have hstep : stepF P l.toArray o (fill l.toArray vs a0 i) w (sp.getD i default) := by
      have h1 := flow_at (by omega) hlen hflow vs i (by omega) fun j hj => hG j (by omega)
      have hi1 : i < (l.take n).length := by rw [List.length_take]; omega
      have hi2 : i < sp.length := by omega
      rw [List.drop_eq_getElem_cons hi1, List.drop_eq_getElem_cons hi2] at h1
      have e : sp.getD i default = sp[i] := by simp [hi2]
      have eo : (l.take n)[i] = o := by
        have : l[i]? = some o := by simpa using ho
        have hil : i < l.length := by omega
        rw [List.getElem?_eq_getElem hil] at this
        simpa using this
      rw [e, ← eo]
      refine h1.1 w hb fun j hj => ?_
      unfold depsF at hj
      rw [List.mem_filter, List.mem_range] at hj
      obtain ⟨hjn, hj2⟩ := hj
      obtain ⟨oj, hoj⟩ : ∃ oj, l.toArray[j]? = some oj := ⟨_, Array.getElem?_eq_getElem (by omega)⟩
      cases ht : oj.dst with
      | none => simp [ho, hoj, ht] at hj2
      | some t =>
        simp only [ho, hoj, Option.bind_some, ht] at hj2
        obtain ⟨h3, h4⟩ := hlisted j hjn t (by rw [hoj]; exact ht) (List.contains_iff_mem.1 hj2)
        refine ⟨ps j, ?_⟩
        unfold FofF
        rw [if_pos h3]
        exact (hdid j hjn h4).1
    have next : ∀ v w', (sp.getD i default).G v → (sp.getD i default).R w v w' → Below w.heap.size w w' → wpAny P md l.toArray Q' (f + g) (la.setIfInBounds i true) (a.put o.dst v) w' := fun v w' hg hr hb' => by
      have hset : ∀ j, j < n → ((la.setIfInBounds i true).getD j true = true ↔ la.getD j true = true ∨ j = i) := fun j hj => by
        by_cases hji : j = i
        · subst hji
          have : j < la.size := by rw [inv.size]; omega
          simp [this]
        · rw [getD_set_ne true (Ne.symm hji)]; simp [hji]
      have hni : ¬ la.getD i true = true := by rw [hun]; simp
      refine ih (la.setIfInBounds i true) (a.put o.dst v) (fun j => if j = i then v else vs j) (fun j => if j = i then (w, w') else ps j) w' (inv.set hi hin) ?_ ?_ (hb.trans (hb'.mono hb.size)) ?_ ?_ ?_
      · have := countP_lt (p := fun j => !la.getD j true) (p' := fun j => !(la.setIfInBounds i true).getD j true) (i := i) (fun j hj => by
          by_cases hji : j = i
          · subst hji; simp [hun]
          · rw [getD_set_ne true (Ne.symm hji)] at hj; exact hj) (by simp [hun]) (by
            have : i < la.size := by rw [inv.size]; omega
            simp [this]) (List.range n) (List.mem_range.2 hin)
        omega
      · have := hag.put (vs' := fun j => if j = i then v else vs j) (p' := fun j => (la.setIfInBounds i true).getD j true = true) hin hni hset (fun j _ hp => if_neg (fun e => hni (by rw [← e]; exact hp))) hd
        rw [hdst, if_pos rfl] at this
        exact this
      · intro j hj
        by_cases hji : j = i
        · subst hji; rw [if_pos rfl]; exact hg
        · rw [if_neg hji]; exact hG j hj
      · intro j hj hl
        by_cases hji : j = i
        · subst hji
          rw [if_pos rfl, if_pos rfl]
          exact ⟨⟨hg, hr, hb', Below.refl _ _⟩, hb⟩
        · skip
          rw [if_neg hji, if_neg hji]
          have hlj := ((hset j hj).1 hl).resolve_right hji
          exact ⟨(hdid j hj hlj).1.keep hb', (hdid j hj hlj).2⟩
      · intro j k hj hk hjk hlj hlk
        by_cases hji : j = i
        · subst hji
          have hki : k ≠ j := Ne.symm hjk
          rw [if_pos rfl, if_neg hki]
          have hlk' := ((hset k hk).1 hlk).resolve_right hki
          exact .inr (hdid k hk hlk').1.since.size
        · rw [if_neg hji]
          have hlj' := ((hset j hj).1 hlj).resolve_right hji
          by_cases hki : k = i
          · subst hki
            rw [if_pos rfl]
            exact .inl (hdid j hj hlj').1.since.size
          · rw [if_neg hki]
            exact hap j k hj hk hjk hlj' (((hset k hk).1 hlk).resolve_right hki)
    unfold stepF at hstep
    unfold wpOp
    simp only [ho]
    rw [← hsee.2] at hstep
    split
    · rename_i hwt
      rw [if_pos hwt] at hstep
      left
      unfold Oper.wp at hstep ⊢
      rw [hsee.1]
      generalize (execOp (fill l.toArray vs a0 i).eval o).run P w = r at hstep
      have hput : ∀ v u : Value, (fill l.toArray vs a0 i).put o.dst v = (fill l.toArray vs a0 i).put o.dst u → a.put o.dst v = a.put o.dst u := fun v u he => by
        cases hdo : o.dst with
        | none => rfl
        | some d =>
          rw [hdo] at he
          have he' := congrArg (fun x : Act => x.tmps[d]?) he
          simp only [Act.put, Array.getElem?_setIfInBounds_self, hfl.size] at he'
          by_cases hlt : d < a0.tmps.size
          · simp only [hlt, if_true, Option.some.injEq] at he'
            rw [he']
          · simp only [Act.put]
            rw [Array.setIfInBounds_eq_of_size_le (by rw [hag.size]; exact Nat.le_of_not_lt hlt), Array.setIfInBounds_eq_of_size_le (by rw [hag.size]; exact Nat.le_of_not_lt hlt)]
      cases r with
      | ok x w' =>
        cases x with
        | value v =>
          obtain ⟨u, he, hg, hr, hb'⟩ := hstep
          show wpAny P md l.toArray Q' (f + g) (la.setIfInBounds i true) (a.put o.dst v) w'
          rw [hput v u he]
          exact next u w' hg hr hb'
        | skip =>
          obtain ⟨u, he, hg, hr, hb'⟩ := hstep
          show wpAny P md l.toArray Q' (f + g) (la.setIfInBounds i true) (a.put o.dst undef) w'
          rw [hput undef u he]
          exact next u w' hg hr hb'
        | defer d =>
          obtain ⟨u, he, hg, hr, hb'⟩ := hstep
          exfalso
          have h1 := congrArg (fun x : Act => x.defers.length) he
          cases hdo : o.dst <;> simp [hdo, Act.put] at h1
        | enter fn args =>
          refine Calls.mono hstep fun e w'' he => ?_
          cases e with
          | returned v =>
            obtain ⟨u, he, hg, hr, hb'⟩ := he
            show wpAny P md l.toArray Q' (f + g) (la.setIfInBounds i true) (a.put o.dst v) w''
            rw [hput v u he]
            exact next u w'' hg hr hb'
          | panicked c => exact he.elim
          | outgrown => obtain ⟨_, _, h⟩ := he; exact h.elim
        | row row args =>
          refine Rows.mono hstep fun v w'' he => ?_
          obtain ⟨u, he, hg, hr, hb'⟩ := he
          show wpAny P md l.toArray Q' (f + g) (la.setIfInBounds i true) (a.put o.dst v) w''
          rw [hput v u he]
          exact next u w'' hg hr hb'
        | _ => exact hstep.elim
      | halt x w' =>
        cases x <;> first | exact hstep.elim | (simp only [Oper.upon] at hstep)
    · rename_i hwt
      rw [if_neg hwt] at hstep
      exact next undef w hstep.1 hstep.2 (Below.refl _ _)

theorem wp_region_flow {P : Program} {id : Nat} {Q : Exit → Act → World → Prop} {a : Act} {w : World} {l : List Oper} (n : Nat) (sp : List FSpec) (hm : P.follows .mixedOrders = true) (hB : flowB .any l n = true) (hlen : sp.length = n)
    (h : flowL P l.toArray n w (fun a' w' => wpList P l.toArray Q (l.drop n) a' w') (l.take n) sp 0 (fun _ _ _ => True) a) : (Code.region id l.toArray true).wp P Q a w := by
  simp only [flowB, Bool.and_eq_true, decide_eq_true_eq] at hB
  obtain ⟨⟨⟨⟨⟨⟨⟨hn, hs⟩, hc⟩, hb⟩, hsel⟩, hdep⟩, hds⟩, hq⟩ := hB
  have hd : ∀ j k, j < n → k < n → j ≠ k → ∀ t, (l.toArray[j]?).bind (·.dst) = some t → (l.toArray[k]?).bind (·.dst) ≠ some t := fun j k hj hk hjk t ht hu => by
    have h1 := List.all_eq_true.1 (List.all_eq_true.1 hds j (List.mem_range.2 hj)) k (List.mem_range.2 hk)
    simp only [List.getElem?_toArray] at ht hu
    simp only [ht, hu, Bool.or_eq_true, beq_iff_eq] at h1
    rcases h1 with h1 | h1
    · exact hjk h1
    · simp at h1
  obtain ⟨vs, hvs⟩ := flow_good (by omega) hlen h n (Nat.le_refl _)
  refine wp_region_any hm ?_
  have inv0 : HeadInv .any l.toArray n (Array.replicate l.toArray.size false) :=
    ⟨by simp, fun j oj _ hl => (by rw [getD_replicate_false] at hl; cases hl), fun t _ ht => getD_in (by simpa using ht) (getD_replicate_false _ _)⟩
  have hun : ∀ i, i < n → (Array.replicate l.toArray.size false).getD i true = false := fun i hi => getD_in (by simp; omega) (getD_replicate_false _ _)
  have := flow_any (P := P) (md := .any) (g := l.length - n) (Q' := Q) (full := Array.replicate n true ++ Array.replicate (l.length - n) false) hn hs hc hb hsel hdep hd hlen (by simp; omega) (fun j hj => by
      have hj' : j < l.length := by simpa using hj
      by_cases h1 : j < n
      · simp [h1, Array.getElem?_append]
      · have h2 : j - n < l.length - n := by omega
        simp [h1, Array.getElem?_append, h2])
    (fun a' w' hK => by
      have := wpAny_of_seq (md := .any) (Q' := Q) (l.drop n) n (Array.replicate n true ++ Array.replicate (l.length - n) false) a' w' (fun j => by simp [List.getElem?_drop]) (by rw [List.length_drop]; exact hq) hK
      rwa [List.length_drop] at this)
    h n (Array.replicate l.toArray.size false) a vs (fun _ => (w, w)) { w with drawn := w.drawn + 1 } inv0 (by
      have := List.countP_le_length (p := fun j => !(Array.replicate l.toArray.size false).getD j true) (l := List.range n)
      rwa [List.length_range] at this) (AgrF.refl fun j hj hp => by rw [hun j hj] at hp; cases hp) ((Below.refl _ w).drew) hvs (fun j hj hl => by rw [hun j hj] at hl; cases hl) (fun i j hi hj _ hl => by rw [hun i hi] at hl; cases hl)
  rw [show n + (l.length - n) = l.toArray.size by simp; omega] at this
  exact this

/-- An operation that only reads, its value known. -/
theorem stepF_reads {P : Program} {ops : Array Oper} {o : Oper} {a : Act} {w : World} {v : Value} (hw : Region.wanted o (yielded ops a.tmps) = true) (hy : (execOp a.eval o).run P w = .ok (.value v) w) : stepF P ops o a w (.det v) := by
  unfold stepF
  rw [if_pos hw]
  unfold Oper.wp
  rw [hy]
  exact ⟨v, rfl, rfl, trivial, Below.refl _ _⟩
theorem stepF_idle {P : Program} {ops : Array Oper} {o : Oper} {a : Act} {w : World} (hw : Region.wanted o (yielded ops a.tmps) = false) : stepF P ops o a w (.det undef) := by
  unfold stepF
  rw [if_neg (by rw [hw]; simp)]
  exact ⟨rfl, trivial⟩
theorem stepF_walk {P : Program} {ops : Array Oper} {o : Oper} {a : Act} {w : World} {s : FSpec} (hw : Region.wanted o (yielded ops a.tmps) = true)
    (h : ∀ K : Act → World → Prop, Shut (∀ v w', s.G v → s.R w v w' → Below w.heap.size w w' → K (a.put o.dst v) w') → o.wp P a w K (fun _ _ _ => False)) : stepF P ops o a w s := by
  unfold stepF
  rw [if_pos hw]
  exact h _ (fun v w' hg hr hb => ⟨v, rfl, hg, hr, hb⟩)
theorem flowL_det {P : Program} {ops : Array Oper} {n : Nat} {w0 : World} {K : Act → World → Prop} {o : Oper} {l : List Oper} {u : Value} {ss : List FSpec} {i : Nat} {F : Nat → World × World → World → Prop} {a : Act}
    (h1 : ∀ w, Below w0.heap.size w0 w → (∀ j ∈ depsF ops n i, ∃ p, F j p w) → stepF P ops o a w (.det u)) (h2 : flowL P ops n w0 K l ss (i + 1) (updF F i fun p w => Did (.det u) p u w) (a.put o.dst u)) : flowL P ops n w0 K (o :: l) (.det u :: ss) i F a :=
  ⟨h1, ⟨u, rfl⟩, fun v hv => by
    have : v = u := hv
    subst this
    exact h2⟩
theorem flowL_make {P : Program} {ops : Array Oper} {n : Nat} {w0 : World} {K : Act → World → Prop} {o : Oper} {l : List Oper} {s : FSpec} {ss : List FSpec} {i : Nat} {F : Nat → World × World → World → Prop} {a : Act}
    (hex : ∃ v, s.G v) (h1 : ∀ w, Below w0.heap.size w0 w → (∀ j ∈ depsF ops n i, ∃ p, F j p w) → stepF P ops o a w s) (h2 : ∀ v, s.G v → flowL P ops n w0 K l ss (i + 1) (updF F i fun p w => Did s p v w) (a.put o.dst v)) : flowL P ops n w0 K (o :: l) (s :: ss) i F a :=
  ⟨h1, hex, h2⟩
end
end Fr
end Go.Proofs.Ytmagfkpnlkhofaa

namespace Go.Proofs.Ytmagfkpnlkhofaa
namespace Dgr
set_option linter.unusedVariables false

/-- The number of the list that holds x. -/
def cls (C : List (List Nat)) (x : Nat) : Nat := C.findIdx fun l => l.contains x
theorem cls_mem {C : List (List Nat)} {x : Nat} (h : cls C x < C.length) : ∃ l, C[cls C x]? = some l ∧ x ∈ l := by
  have := List.findIdx_getElem (w := h)
  exact ⟨_, List.getElem?_eq_getElem h, List.contains_iff_mem.1 this⟩
theorem cls_le {C : List (List Nat)} {x a : Nat} {l : List Nat} (h : C[a]? = some l) (hx : x ∈ l) : cls C x ≤ a := by
  obtain ⟨ha, e⟩ := List.getElem?_eq_some_iff.1 h
  apply Nat.le_of_not_lt
  intro hlt
  have := List.not_of_lt_findIdx hlt
  rw [e] at this
  rw [List.contains_iff_mem.2 hx] at this
  cases this

structure Part (n : Nat) (es : Edges) (C : List (List Nat)) : Prop where
  ne : ∀ (a : Nat) (l : List Nat), C[a]? = some l → l ≠ []
  inc : ∀ (a : Nat) (l : List Nat), C[a]? = some l → l.Pairwise (· < ·)
  lt : ∀ (a : Nat) (l : List Nat) (x : Nat), C[a]? = some l → x ∈ l → x < n
  cover : ∀ x, x < n → cls C x < C.length
  uniq : ∀ (a : Nat) (l : List Nat) (x : Nat), C[a]? = some l → x ∈ l → cls C x = a
  heads : ∀ (a : Nat) (l m : List Nat) (x y : Nat), C[a]? = some l → C[a + 1]? = some m → l[0]? = some x → m[0]? = some y → x < y
  both : ∀ v w, v < n → w < n → (cls C v = cls C w ↔ Both es v w)

theorem those_head {n u : Nat} {es : Edges} (hu : u < n) (hl : ∀ x, x < u → ¬ Both es u x) : (classL n es u)[0]? = some u := by
  have hm : u ∈ classL n es u := mem_those.2 ⟨hu, .refl _ _⟩
  have hi : (classL n es u).Pairwise (· < ·) := those_lt _ _
  have hall : ∀ x ∈ classL n es u, u ≤ x := fun x hx => Nat.le_of_not_lt fun h => hl x h (mem_those.1 hx).2
  cases hc : classL n es u with
  | nil => rw [hc] at hm; cases hm
  | cons y t =>
    rw [hc] at hm hi hall
    rw [List.getElem?_cons_zero]
    have h1 := hall y (by simp)
    rcases List.mem_cons.1 hm with h | h
    · rw [h]
    · have := (List.pairwise_cons.1 hi).1 u h
      omega

theorem part_comp (n : Nat) (es : Edges) : Part n es (compL n es) := by
  have hget : ∀ (a : Nat) (l : List Nat), (compL n es)[a]? = some l → ∃ u, (those n fun v => ∀ u, u < v → ¬ Both es v u)[a]? = some u ∧ u < n ∧ (∀ x, x < u → ¬ Both es u x) ∧ l = classL n es u := fun a l h => by
    unfold compL at h
    rw [List.getElem?_map, Option.map_eq_some_iff] at h
    obtain ⟨u, hu, rfl⟩ := h
    obtain ⟨h1, h2⟩ := mem_those.1 (List.mem_of_getElem? hu)
    exact ⟨u, hu, h1, h2, rfl⟩
  have hcov : ∀ x, x < n → ∃ (a : Nat) (l : List Nat), (compL n es)[a]? = some l ∧ x ∈ l := fun x hx => by
    obtain ⟨u, h1, h2, h3⟩ := class_least (es := es) hx
    have hmu : u ∈ those n fun v => ∀ u, u < v → ¬ Both es v u := mem_those.2 ⟨by omega, h3⟩
    obtain ⟨a, ha, e⟩ := List.getElem_of_mem hmu
    refine ⟨a, classL n es u, ?_, mem_those.2 ⟨hx, h2.symm⟩⟩
    unfold compL
    rw [List.getElem?_map, List.getElem?_eq_getElem ha, e]; rfl
  have hcls : ∀ x, x < n → cls (compL n es) x < (compL n es).length := fun x hx => by
    obtain ⟨a, l, h1, h2⟩ := hcov x hx
    exact Nat.lt_of_le_of_lt (cls_le h1 h2) (List.getElem?_eq_some_iff.1 h1).1
  have huniq : ∀ (a : Nat) (l : List Nat) (x : Nat), (compL n es)[a]? = some l → x ∈ l → cls (compL n es) x = a := fun a l x h hx => by
    obtain ⟨u, hu, hun, hul, rfl⟩ := hget a l h
    obtain ⟨hxn, hux⟩ := mem_those.1 hx
    obtain ⟨m, hm, hxm⟩ := cls_mem (hcls x hxn)
    obtain ⟨v, hv, hvn, hvl, rfl⟩ := hget _ m hm
    obtain ⟨_, hvx⟩ := mem_those.1 hxm
    have huv : Both es u v := hux.trans hvx.symm
    have e : u = v := by
      apply Nat.le_antisymm
      · exact Nat.le_of_not_lt fun h => hul v h huv
      · exact Nat.le_of_not_lt fun h => hvl u h huv.symm
    subst e
    have hp := those_lt n fun v => ∀ u, u < v → ¬ Both es v u
    obtain ⟨q1, e1⟩ := List.getElem?_eq_some_iff.1 hu
    obtain ⟨q2, e2⟩ := List.getElem?_eq_some_iff.1 hv
    rcases Nat.lt_trichotomy a (cls (compL n es) x) with h' | h' | h'
    · have := List.pairwise_iff_getElem.1 hp _ _ q1 q2 h'
      omega
    · exact h'.symm
    · have := List.pairwise_iff_getElem.1 hp _ _ q2 q1 h'
      omega
  refine ⟨fun a l h => ?_, fun a l h => ?_, fun a l x h hx => ?_, hcls, huniq, fun a l m x y h h' hx hy => ?_, fun v w hv hw => ?_⟩
  · obtain ⟨u, _, hun, _, rfl⟩ := hget a l h
    exact List.ne_nil_of_mem (mem_those.2 ⟨hun, .refl _ _⟩ : u ∈ classL n es u)
  · obtain ⟨u, _, _, _, rfl⟩ := hget a l h
    exact those_lt _ _
  · obtain ⟨u, _, _, _, rfl⟩ := hget a l h
    exact (mem_those.1 hx).1
  · obtain ⟨u, hu, hun, hul, rfl⟩ := hget a l h
    obtain ⟨v, hv, hvn, hvl, rfl⟩ := hget _ m h'
    rw [those_head hun hul] at hx
    rw [those_head hvn hvl] at hy
    cases hx; cases hy
    obtain ⟨q1, e1⟩ := List.getElem?_eq_some_iff.1 hu
    obtain ⟨q2, e2⟩ := List.getElem?_eq_some_iff.1 hv
    have := List.pairwise_iff_getElem.1 (those_lt n fun v => ∀ u, u < v → ¬ Both es v u) _ _ q1 q2 (by omega)
    rwa [e1, e2] at this
  · obtain ⟨l, hl, hvl⟩ := cls_mem (hcls v hv)
    obtain ⟨u, _, _, _, rfl⟩ := hget _ l hl
    constructor
    · intro e
      obtain ⟨m, hm, hwm⟩ := cls_mem (hcls w hw)
      rw [← e, hl] at hm
      cases hm
      exact (mem_those.1 hvl).2.symm.trans (mem_those.1 hwm).2
    · intro hb
      exact (huniq _ _ w hl (mem_those.2 ⟨hw, (mem_those.1 hvl).2.trans hb⟩)).symm

/-- The marks when the lists ahead of i are marked, and the first k nodes of list i. -/
def mk (C : List (List Nat)) (i k x : Nat) : Nat := if cls C x < i then cls C x + 1 else if x ∈ (C[i]?.getD []).take k then i + 1 else 0
section
variable {n : Nat} {es : Edges} {C : List (List Nat)}
theorem mk_zero (x : Nat) : mk C 0 0 x = 0 := by unfold mk; rw [if_neg (by omega), List.take_zero, if_neg (by simp)]
theorem mk_here (h : Part n es C) {i k x : Nat} {l : List Nat} (hl : C[i]? = some l) (hx : l[k]? = some x) : mk C i k x = 0 := by
  have hm := List.mem_of_getElem? hx
  unfold mk
  rw [if_neg (by rw [h.uniq i l x hl hm]; omega), hl, if_neg]
  intro ht
  obtain ⟨j, hj, e⟩ := List.getElem_of_mem ht
  rw [List.getElem_take] at e
  rw [List.length_take] at hj
  obtain ⟨q, e2⟩ := List.getElem?_eq_some_iff.1 hx
  have := List.pairwise_iff_getElem.1 (h.inc i l hl) j k (by omega) q (by omega)
  simp only [Option.getD_some] at e
  omega
theorem mk_set (h : Part n es C) {i k x : Nat} {l : List Nat} (hl : C[i]? = some l) (hx : l[k]? = some x) : mk C i (k + 1) x = i + 1 ∧ ∀ y, y ≠ x → mk C i (k + 1) y = mk C i k y := by
  have hm := List.mem_of_getElem? hx
  have ht : (C[i]?.getD []).take (k + 1) = (C[i]?.getD []).take k ++ [x] := by
    rw [hl, Option.getD_some, List.take_add_one, hx]; rfl
  refine ⟨?_, fun y hy => ?_⟩
  · unfold mk
    rw [if_neg (by rw [h.uniq i l x hl hm]; omega), ht, if_pos (by simp)]
  · unfold mk
    rw [ht]
    by_cases h1 : cls C y < i
    · rw [if_pos h1, if_pos h1]
    · rw [if_neg h1, if_neg h1]
      have e : (y ∈ (C[i]?.getD []).take k ++ [x]) ↔ y ∈ (C[i]?.getD []).take k := by
        rw [List.mem_append, List.mem_singleton]
        exact ⟨fun h => h.resolve_right hy, .inl⟩
      by_cases h2 : y ∈ (C[i]?.getD []).take k
      · rw [if_pos h2, if_pos (e.2 h2)]
      · rw [if_neg h2, if_neg (fun h => h2 (e.1 h))]
theorem mk_next (h : Part n es C) {i : Nat} {l : List Nat} (hl : C[i]? = some l) (y : Nat) : mk C (i + 1) 0 y = mk C i l.length y := by
  unfold mk
  rw [hl, Option.getD_some, List.take_length, List.take_zero, if_neg (show y ∉ ([] : List Nat) by simp)]
  by_cases h1 : cls C y < i
  · rw [if_pos h1, if_pos (by omega)]
  · rw [if_neg h1]
    by_cases h2 : y ∈ l
    · rw [if_pos h2, if_pos (by rw [h.uniq i l y hl h2]; omega), h.uniq i l y hl h2]
    · rw [if_neg h2]
      by_cases h3 : cls C y < i + 1
      · exfalso
        have e : cls C y = i := by omega
        obtain ⟨m, hm, hy⟩ := cls_mem (C := C) (x := y) (by have := (List.getElem?_eq_some_iff.1 hl).1; omega)
        rw [e, hl] at hm
        cases hm
        exact h2 hy
      · rw [if_neg h3]
theorem mk_all (h : Part n es C) {x : Nat} (hx : x < n) : mk C C.length 0 x = cls C x + 1 := by
  unfold mk
  rw [if_pos (h.cover x hx)]

/-- How many nodes are marked. -/
def cntC (C : List (List Nat)) (i k : Nat) : Nat := (C.take i).flatten.length + k
theorem cntC_succ (i k : Nat) : cntC C i (k + 1) = cntC C i k + 1 := rfl
theorem cntC_next {i : Nat} {l : List Nat} (hl : C[i]? = some l) : cntC C (i + 1) 0 = cntC C i l.length := by
  unfold cntC
  rw [List.take_add_one, hl]
  simp
theorem length_of_range : ∀ (n : Nat) (l : List Nat), l.Pairwise (· ≠ ·) → (∀ x, x ∈ l ↔ x < n) → l.length = n
  | 0, l, _, h => by
    cases l with
    | nil => rfl
    | cons y t => have := (h y).1 (by simp); omega
  | n + 1, l, hp, h => by
    have hm : n ∈ l := (h n).2 (by omega)
    have e := length_of_range n (l.erase n) (hp.sublist List.erase_sublist) (fun x => by
      have hnd : l.Nodup := hp
      rw [hnd.mem_erase_iff, h x]
      omega)
    rw [List.length_erase_of_mem hm] at e
    have : 0 < l.length := List.length_pos_of_mem hm
    omega
theorem part_sum (h : Part n es C) : C.flatten.length = n := by
  refine length_of_range n _ ?_ fun x => ?_
  · rw [List.pairwise_flatten]
    refine ⟨fun l hl => ?_, ?_⟩
    · obtain ⟨a, ha, e⟩ := List.getElem_of_mem hl
      exact (h.inc a l (by rw [List.getElem?_eq_getElem ha, e])).imp fun h' => by omega
    · rw [List.pairwise_iff_getElem]
      intro a b ha hb hab x hx y hy e
      subst e
      have h1 := h.uniq a _ x (List.getElem?_eq_getElem ha) hx
      have h2 := h.uniq b _ x (List.getElem?_eq_getElem hb) hy
      omega
  · rw [List.mem_flatten]
    constructor
    · rintro ⟨l, hl, hx⟩
      obtain ⟨a, ha, e⟩ := List.getElem_of_mem hl
      exact h.lt a l x (by rw [List.getElem?_eq_getElem ha, e]) hx
    · intro hx
      obtain ⟨l, hl, hxl⟩ := cls_mem (h.cover x hx)
      exact ⟨l, List.mem_of_getElem? hl, hxl⟩
theorem cntC_le (h : Part n es C) (i k : Nat) : cntC C i k ≤ n + k := by
  have h1 : ((C.take i).flatten).length ≤ C.flatten.length := by
    conv => rhs; rw [← List.take_append_drop i C, List.flatten_append, List.length_append]
    omega
  rw [part_sum h] at h1
  unfold cntC
  omega
theorem cntC_all (h : Part n es C) : cntC C C.length 0 = n := by
  unfold cntC
  rw [List.take_length, part_sum h]; rfl
theorem those_len_of (h : Part n es C) {a : Nat} {l : List Nat} (hl : C[a]? = some l) : l.length ≤ n :=
  nodup_len n l ((h.inc a l hl).imp fun h' => by omega) fun x hx => h.lt a l x hl hx
theorem len_sum : ∀ (C : List (List Nat)), (∀ l ∈ C, l ≠ []) → C.length ≤ C.flatten.length ∧ (C.length = C.flatten.length ↔ ∀ l ∈ C, l.length = 1)
  | [], _ => by simp
  | l :: C, h => by
    obtain ⟨h1, h2⟩ := len_sum C (fun m hm => h m (by simp [hm]))
    have h3 : 0 < l.length := List.length_pos_iff.2 (h l (by simp))
    simp only [List.length_cons, List.flatten_cons, List.length_append, List.mem_cons, forall_eq_or_imp]
    refine ⟨by omega, ⟨fun e => ⟨by omega, h2.1 (by omega)⟩, fun ⟨e1, e2⟩ => by have := h2.2 e2; omega⟩⟩
theorem part_single (h : Part n es C) : C.length = n ↔ ∀ v w, v < n → w < n → Both es v w → v = w := by
  have hne : ∀ l ∈ C, l ≠ [] := fun l hl => by
    obtain ⟨a, ha, e⟩ := List.getElem_of_mem hl
    exact h.ne a l (by rw [List.getElem?_eq_getElem ha, e])
  obtain ⟨_, h2⟩ := len_sum C hne
  rw [part_sum h] at h2
  rw [h2]
  constructor
  · intro h1 v w hv hw hb
    have e := (h.both v w hv hw).2 hb
    obtain ⟨l, hl, hvl⟩ := cls_mem (h.cover v hv)
    obtain ⟨m, hm, hwm⟩ := cls_mem (h.cover w hw)
    rw [← e, hl] at hm
    cases hm
    have := h1 l (List.mem_of_getElem? hl)
    match l, this with
    | [a], _ =>
      simp only [List.mem_singleton] at hvl hwm
      omega
  · intro h1 l hl
    obtain ⟨a, ha, e⟩ := List.getElem_of_mem hl
    have hl' : C[a]? = some l := by rw [List.getElem?_eq_getElem ha, e]
    have h3 : 0 < l.length := List.length_pos_iff.2 (hne l hl)
    apply Classical.byContradiction
    intro hc
    have q0 : l[0] ∈ l := List.getElem_mem h3
    have q1 : l[1]'(by omega) ∈ l := List.getElem_mem (by omega)
    have hlt := List.pairwise_iff_getElem.1 (h.inc a l hl') 0 1 h3 (by omega) (by omega)
    have := h1 l[0] (l[1]'(by omega)) (h.lt a l _ hl' q0) (h.lt a l _ hl' q1) ((h.both _ _ (h.lt a l _ hl' q0) (h.lt a l _ hl' q1)).1 (by rw [h.uniq a l _ hl' q0, h.uniq a l _ hl' q1]))
    omega
end
end Dgr
end Go.Proofs.Ytmagfkpnlkhofaa

namespace Go.Proofs.Ytmagfkpnlkhofaa
open Go.RowKit Sl Fr
namespace Gp
set_option linter.unusedVariables false
attribute [local go_sem] field_e

theorem lat0 {wr : World} {a : Addr} {v : Value} (hc : wr.cell? a = some v) (hlt : a.block < wr.heap.size) (p : Later wr) : p.val.cell? a = some v := (p.below.cell hlt).trans hc
theorem order_zero {n : Nat} {es : Dgr.Edges} {l : List Nat} {w : World} (h : Dgr.orderF n es = some l) (e : Ending) (w' : World) (hg : GiveL w (Dgr.orderF n es) 50 e w') : ∃ A m c, e = .returned (.agg #[.slice A m c, .int .i64 0]) ∧ Below w.heap.size w w' := by
  obtain ⟨A, m, c, x, h1, h2, h3⟩ := hg
  obtain rfl := (h2.2 l h).2.2.2
  exact ⟨A, m, c, h1, h3⟩
theorem order_fifty {n : Nat} {es : Dgr.Edges} {w : World} (h : Dgr.orderF n es = none) (e : Ending) (w' : World) (hg : GiveL w (Dgr.orderF n es) 50 e w') : ∃ A m c, e = .returned (.agg #[.slice A m c, .int .i64 50]) ∧ Below w.heap.size w w' := by
  obtain ⟨A, m, c, x, h1, h2, h3⟩ := hg
  obtain rfl := (h2.1 h).2.2.2
  exact ⟨A, m, c, h1, h3⟩
def ordS (x : Int) : FSpec := ⟨fun v => ∃ A m c, v = .agg #[.slice A m c, .int .i64 x], fun _ _ _ => True⟩
def loopB (es : Dgr.Edges) (j : Nat) : Bool := (es.take j).any fun e => e.1 == e.2
theorem loopB_succ {es : Dgr.Edges} {j p q : Nat} (h : es[j]? = some (p, q)) : loopB es (j + 1) = (loopB es j || (p == q)) := by
  rw [loopB, loopB, take_snoc h, List.any_append]; simp
theorem loopB_false {es : Dgr.Edges} : loopB es es.length = false ↔ ∀ v, (v, v) ∉ es := by
  rw [loopB, List.take_length, List.any_eq_false]
  constructor
  · intro h v hv
    exact h _ hv (by simp)
  · rintro h ⟨a, b⟩ he hab
    obtain rfl : a = b := by simpa using hab
    exact h a he
theorem small_succ (c : Nat → Nat) {es : Dgr.Edges} {j p q : Nat} (h : es[j]? = some (p, q)) : Dgr.small c (es.take (j + 1)) = Dgr.small c (es.take j) ++ (if c p ≠ c q then [(c p, c q)] else []) := by
  rw [Dgr.small, Dgr.small, take_snoc h, List.filter_append, List.map_append]
  by_cases hc : c p = c q
  · rw [if_neg (by simpa using hc)]; simp [hc]
  · rw [if_pos hc]; simp [hc]
def clsF (C : List (List Nat)) : Nat → Value := fun x => .int .i64 ((Dgr.cls C x : Int) + 1)
def mkF (C : List (List Nat)) (i k : Nat) : Nat → Value := fun x => .int .i64 ((Dgr.mk C i k x : Nat) : Int)

open Classical in
set_option maxRecDepth 100000 in
set_option maxHeartbeats 12800000 in
theorem components_row (N K : Int) (B : Option Addr) (bs : List Int) (c : Nat) (w : World) (hN : 0 ≤ N ∧ N ≤ 255) (hK : 0 ≤ K ∧ K ≤ 255) (hB : RowIs .u8 w B bs.length c bs) :
    Calls Try.prog 8 #[.agg #[.int .u8 N, .int .u8 K, .slice B bs.length c]] w fun e w' => e = .returned (.bool true) ∧ Below w.heap.size w w' := by
  have hst := start1 w #[.int .u8 N, .int .u8 K, .slice B bs.length c] 24
  have HST := Lib.hid hst
  have HB := Lib.hid hB
  clear hst hB
  go_enter Try.func8, Try.ntmps8
  go_upto_region 5 with (first
    | (go_at_call 10; refine (examples_any _).mono ?_; rintro e w1 ⟨rfl, hb1⟩; obtain ⟨x0, x1, x2⟩ := (HST.out.1.keep hb1).c3; have hbw1 := HST.out.2.trans (hb1.mono HST.out.2.size))
    | (go_at_call 11; refine (made_any N K B bs c _ hN hK ⟨HB.out.hlen, HB.out.hcap, HB.out.arr.keep hbw1, HB.out.nil, HB.out.wf, HB.out.big⟩).mono ?_; rintro e w2 ⟨n, es, A, m, d, rfl, hg, he30, hb2⟩; have hbw2 := hbw1.trans (hb2.mono hbw1.size); have hgl := hg.len; subst hgl; clear x0 x1 x2))
  have hn12 := hg.n12
  have hbA := (Below.refl _ w2).alloc (Nat.le_refl _) (.cells #[.int .i64 (n : Int), .slice A es.length d] 31)
  have hst2 := start1 w2 #[.int .i64 (n : Int), .slice A es.length d] 31
  have hbV : Below w.heap.size w (w2.alloc (.cells #[.int .i64 (n : Int), .slice A es.length d] 31)) := hbw2.trans (hbA.mono hbw2.size)
  have hGB := hst2.1
  have hG := hg.keep hbA
  have HO := Lib.hid hg.ok
  clear hst2 hg hbA hb2 hbw2 hbw1 hb1 HST HB
  generalize w2.alloc (.cells #[.int .i64 (n : Int), .slice A es.length d] 31) = V at *
  generalize w2.heap.size = gb at *
  obtain ⟨g0, g1⟩ := hGB.c2
  have HCOMP := Lib.hid (comp_any n A es d V hG.arr HO.out (by omega) (by omega))
  have HP := Lib.hid (Dgr.part_comp n es)
  go_upto_region 6 with ((go_at_call 27; refine HCOMP.out.mono ?_; rintro e w3 ⟨Al, cl, rfl, hcl, hRl, hb3⟩))
  clear HCOMP
  generalize Dgr.compL n es = C at *
  have hGB3 := hGB.keep hb3
  have HGB := Lib.hid hGB3
  have HG := Lib.hid (hG.keep hb3)
  have hbX := hbV.trans (hb3.mono hbV.size)
  obtain ⟨bl, ol, hlo⟩ := (hRl.mono (Nat.zero_le _)).open
  have HL := Lib.hid hlo
  have hgX := hGB3.lt
  have hClen : C.length ≤ n := by
    have h1 := Dgr.part_sum HP.out
    have h2 := (Dgr.len_sum C (fun l hl => by
      obtain ⟨a, ha, e⟩ := List.getElem_of_mem hl
      exact HP.out.ne a l (by rw [List.getElem?_eq_getElem ha, e]))).1
    omega
  clear g0 g1 hGB hG hbV hb3 hRl hlo
  obtain ⟨g0, g1⟩ := hGB3.c2
  clear hGB3
  have hmk := run_make_row' (P := Try.prog) 26 3 (.int .i64 0) 8 Try.underlying26 infoInt rfl .i64 .i64 n (by omega) (by omega)
  have hC0 : CellsV (w3.alloc (.cells (madeCells #[.int .i64 0] n) 3)) w3.heap.size n (mkF C 0 0) := (CellsV.made w3 (.int .i64 0) n 3).congr fun x _ => by rw [mkF, Dgr.mk_zero]; rfl
  have HC0 := Lib.hid hC0
  have HB0 := Lib.hid ((Below.refl _ w3).alloc (Nat.le_refl _) (.cells (madeCells #[.int .i64 0] n) 3))
  clear hC0
  go_wp2
  clear hmk
  go_loopg [7, 8] C.length (fun g ct i wr => ∃ a : Nat, ct = .int .i64 ((Dgr.cntC C a 0 : Nat) : Int) ∧ i = .int .i64 a ∧ a ≤ C.length ∧ g = C.length - a ∧ CellsV wr w3.heap.size n (mkF C a 0) ∧ Below w3.heap.size w3 wr)
  case atStart => exact ⟨0, rfl, rfl, Nat.zero_le _, rfl, HC0.out, HB0.out⟩
  case round =>
    clear HC0 HB0 g0 g1
    obtain ⟨a, rfl, rfl, ha, rfl, hC, hbl⟩ := hrel
    have hblX : Below w3.heap.size w3 wr := hbl
    have HC := Lib.hid hC
    obtain ⟨p0, p1⟩ := (HGB.out.keep hblX).c2
    clear hC
    have ha1 : (0 : Int) ≤ (a : Int) := Int.natCast_nonneg _
    by_cases hlt : a < C.length
    · as_aux_lemma =>
        obtain ⟨l, hl⟩ := get_ex hlt
        have hne := HP.out.ne a l hl
        obtain ⟨rfl, _, hbb, hcl2⟩ := HL.out (by intro h; subst h; simp at hlt)
        obtain ⟨Aa, ca, hca, hcap, hrow⟩ := hcl2 a l hl
        obtain ⟨ba, oa, hoo⟩ := hrow.open
        obtain ⟨rfl, _, hba, hel⟩ := hoo hne
        have hch := (hblX.cell (p := ⟨bl, ol + a, none⟩) hbb).trans hca
        have hln : l.length ≤ n := by
          have := Dgr.those_len_of HP.out hl
          exact this
        have ha2 : (a : Int) < (C.length : Int) := by omega
        have HLL := Lib.hid hl
        have HEL := Lib.hid hel
        have HCA := Lib.hid hca
        have HCL := Lib.hid hcl2
        have hl0 : 0 < l.length := List.length_pos_iff.2 hne
        clear hl hrow hoo hel hca hcl2 HL
        go_wp2
        go_loopg [7, 9] l.length (fun g ct k wr => ∃ q : Nat, ct = .int .i64 ((Dgr.cntC C a q : Nat) : Int) ∧ k = .int .i64 q ∧ q ≤ l.length ∧ g = l.length - q ∧ CellsV wr w3.heap.size n (mkF C a q) ∧ Below w3.heap.size w3 wr)
        case atStart => exact ⟨0, rfl, rfl, Nat.zero_le _, rfl, HC.out, hbl⟩
        case round =>
          clear HC hbl hblX p0 p1 hch
          obtain ⟨q, rfl, rfl, hq, rfl, hC, hbl⟩ := hrel
          have hblX : Below w3.heap.size w3 wr := hbl
          have hbs := hblX.size
          have HC := Lib.hid hC
          obtain ⟨p0, p1⟩ := (HGB.out.keep hblX).c2
          have hch := (hblX.cell (p := ⟨bl, ol + a, none⟩) hbb).trans HCA.out
          have hMlt := hC.lt
          clear hC
          have hq1 : (0 : Int) ≤ (q : Int) := Int.natCast_nonneg _
          by_cases hltq : q < l.length
          · obtain ⟨x, hx⟩ := get_ex hltq
            have hxn : x < n := HP.out.lt a l x HLL.out (List.mem_of_getElem? hx)
            have hcx := (hblX.cell (p := ⟨ba, oa + q, none⟩) hba).trans (HEL.out q x hx)
            have hmx : wr.cell? ⟨w3.heap.size, x, none⟩ = some (.int .i64 0) := by rw [HC.out.cell x hxn, mkF, Dgr.mk_here HP.out HLL.out hx]; rfl
            have hq2 : (q : Int) < (l.length : Int) := by omega
            have hcb : Dgr.cntC C a q ≤ 1000 := by have := Dgr.cntC_le HP.out a q; omega
            have hx1 : (0 : Int) ≤ (x : Int) := Int.natCast_nonneg _
            have hx2 : (x : Int) < (n : Int) := by omega
            have hd5 : decide ((x : Int) < 0) = false := decide_eq_false (by omega)
            have hd6 : decide (n ≤ x) = false := decide_eq_false (by omega)
            have hG0 : ∀ p : Later wr, p.val.cell? ⟨gb, 0, none⟩ = some (.int .i64 (n : Int)) := lat0 p0 (Nat.lt_of_lt_of_le hgX hbs)
            have hG1 : ∀ p : Later wr, p.val.cell? ⟨bl, ol + a, none⟩ = some (.slice (some ⟨ba, oa, none⟩) l.length ca) := lat0 hch (Nat.lt_of_lt_of_le hbb hbs)
            have hG2 : ∀ p : Later wr, p.val.cell? ⟨ba, oa + q, none⟩ = some (.int .i64 (x : Int)) := lat0 hcx (Nat.lt_of_lt_of_le hba hbs)
            have hG4 : ∀ p : Later wr, p.val.cell? ⟨w3.heap.size, x, none⟩ = some (.int .i64 0) := lat0 hmx hMlt
            obtain ⟨hset1, hset2⟩ := Dgr.mk_set HP.out HLL.out hx
            have HS1 := Lib.hid hset1
            have HS2 := Lib.hid hset2
            have HX := Lib.hid hx
            clear hx hset1 hset2
            by_cases hq0 : 0 < q
            · obtain ⟨x', hx'⟩ := get_ex (l := l) (j := q - 1) (by omega)
              have hlt3 : x' < x := by
                have h1 := List.pairwise_iff_getElem.1 (HP.out.inc a l HLL.out) (q - 1) q (by omega) (by omega) (by omega)
                rw [List.getElem?_eq_getElem (by omega)] at hx'
                have h2 := HX.out
                rw [List.getElem?_eq_getElem (by omega)] at h2
                rw [Option.some.inj hx', Option.some.inj h2] at h1
                exact h1
              have hG3 : ∀ p : Later wr, p.val.cell? ⟨ba, oa + (q - 1), none⟩ = some (.int .i64 (x' : Int)) := lat0 ((hblX.cell (p := ⟨ba, oa + (q - 1), none⟩) hba).trans (HEL.out (q - 1) x' hx')) (Nat.lt_of_lt_of_le hba hbs)
              have hd3 : decide (0 < q) = true := decide_eq_true hq0
              have hd4 : decide (x ≤ x') = false := decide_eq_false (by omega)
              have hii : (q : Int) - 1 = ((q - 1 : Nat) : Int) := by omega
              have hi3 : ((q - 1 : Nat) : Int) < (l.length : Int) := by omega
              clear hx' hlt3 hcx hmx p0 p1
              go_upto_region 14 with fail
              refine wp_region_later (by kernel_rfl) (by kernel_rfl) ?_
              repeat (go_big_quiet_step (fail))
              refine wpQuiet_nil ?_
              intro _ hw'
              obtain ⟨z, hw''⟩ := hw'
              subst hw''
              clear hG3 hd3 hd4 hii hi3 hd5 hd6
              have hch := hG1 z
              have hcx := hG2 z
              have hCz := HC.out.keep z.below
              have hcm := hCz.cell x hxn
              have hmm := hCz.mark x hxn
              have hblz : Below w3.heap.size w3 z.val := hbl.trans (z.below.mono hbs)
              have hfin := hCz.set (G := mkF C a (q + 1)) hxn (v := .int .i64 ((a : Int) + 1)) (by rw [mkF, HS1.out]; rfl) (fun y hy => by rw [mkF, mkF, HS2.out y hy])
              have HFIN := Lib.hid hfin
              clear hG0 hG1 hG2 hG4 hCz hfin
              go_wp2
              go_roundg (l.length - (q + 1))
              case measure => omega
              case rel => exact ⟨q + 1, by rw [Dgr.cntC_succ]; go_num, by go_num, by omega, rfl, HFIN.out, hblz.setCell (p := ⟨w3.heap.size, x, none⟩) (Nat.le_refl _) _⟩
            · have hd3 : decide (0 < q) = false := decide_eq_false hq0
              clear hcx hmx p0 p1
              go_upto_region 14 with fail
              refine wp_region_later (by kernel_rfl) (by kernel_rfl) ?_
              repeat (go_big_quiet_step (fail))
              refine wpQuiet_nil ?_
              intro _ hw'
              obtain ⟨z, hw''⟩ := hw'
              subst hw''
              clear hd3 hd5 hd6
              have hch := hG1 z
              have hcx := hG2 z
              have hCz := HC.out.keep z.below
              have hcm := hCz.cell x hxn
              have hmm := hCz.mark x hxn
              have hblz : Below w3.heap.size w3 z.val := hbl.trans (z.below.mono hbs)
              have hfin := hCz.set (G := mkF C a (q + 1)) hxn (v := .int .i64 ((a : Int) + 1)) (by rw [mkF, HS1.out]; rfl) (fun y hy => by rw [mkF, mkF, HS2.out y hy])
              have HFIN := Lib.hid hfin
              clear hG0 hG1 hG2 hG4 hCz hfin
              go_wp2
              go_roundg (l.length - (q + 1))
              case measure => omega
              case rel => exact ⟨q + 1, by rw [Dgr.cntC_succ]; go_num, by go_num, by omega, rfl, HFIN.out, hblz.setCell (p := ⟨w3.heap.size, x, none⟩) (Nat.le_refl _) _⟩
          · obtain rfl : q = l.length := by omega
            obtain ⟨x, hx⟩ := get_ex hl0
            have hcx := (hblX.cell (p := ⟨ba, oa + 0, none⟩) hba).trans (HEL.out 0 x hx)
            have hl2 : (0 : Int) < (l.length : Int) := by omega
            have hd1 : ((l.length : Int) == 0) = false := by rw [beq_eq_false_iff_ne]; omega
            have hG1 : ∀ p : Later wr, p.val.cell? ⟨bl, ol + a, none⟩ = some (.slice (some ⟨ba, oa, none⟩) l.length ca) := lat0 hch (Nat.lt_of_lt_of_le hbb hbs)
            have hG2 : ∀ p : Later wr, p.val.cell? ⟨ba, oa, none⟩ = some (.int .i64 (x : Int)) := lat0 hcx (Nat.lt_of_lt_of_le hba hbs)
            have HCN := Lib.hid (Dgr.cntC_next HLL.out)
            have HMN := Lib.hid (Dgr.mk_next HP.out HLL.out)
            have HX := Lib.hid hx
            clear hx hcx p0 p1
            by_cases ha0 : 0 < a
            · obtain ⟨l', hl'⟩ := get_ex (l := C) (j := a - 1) (by omega)
              have hne' := HP.out.ne (a - 1) l' hl'
              obtain ⟨Ab, cb, hcb, hcapb, hrowb⟩ := HCL.out (a - 1) l' hl'
              obtain ⟨bb, ob, hob⟩ := hrowb.open
              obtain ⟨rfl, _, hbbb, helb⟩ := hob hne'
              have hl0' : 0 < l'.length := List.length_pos_iff.2 hne'
              obtain ⟨y, hy⟩ := get_ex hl0'
              have hlt3 : y < x := HP.out.heads (a - 1) l' l y x hl' (by rw [show a - 1 + 1 = a by omega]; exact HLL.out) hy HX.out
              have hG3 : ∀ p : Later wr, p.val.cell? ⟨bl, ol + (a - 1), none⟩ = some (.slice (some ⟨bb, ob, none⟩) l'.length cb) := lat0 ((hblX.cell (p := ⟨bl, ol + (a - 1), none⟩) hbb).trans hcb) (Nat.lt_of_lt_of_le hbb hbs)
              have hG4 : ∀ p : Later wr, p.val.cell? ⟨bb, ob, none⟩ = some (.int .i64 (y : Int)) := lat0 ((hblX.cell (p := ⟨bb, ob + 0, none⟩) hbbb).trans (helb 0 y hy)) (Nat.lt_of_lt_of_le hbbb hbs)
              have hd3 : decide (0 < a) = true := decide_eq_true ha0
              have hd4 : decide (x ≤ y) = false := decide_eq_false (by omega)
              have hii : (a : Int) - 1 = ((a - 1 : Nat) : Int) := by omega
              have hi3 : ((a - 1 : Nat) : Int) < (C.length : Int) := by omega
              have hl2' : (0 : Int) < (l'.length : Int) := by omega
              clear hl' hcb hrowb hob helb hy hlt3
              go_upto_region 18 with fail
              refine wp_region_later (by kernel_rfl) (by kernel_rfl) ?_
              repeat (go_big_quiet_step (fail))
              refine wpQuiet_nil ?_
              intro _ hw'
              obtain ⟨z, hw''⟩ := hw'
              subst hw''
              clear hG1 hG2 hG3 hG4 hd1 hd3 hd4 hii hi3
              have hblz : Below w3.heap.size w3 z.val := hbl.trans (z.below.mono hbs)
              go_wp2
              go_roundg (C.length - (a + 1))
              case measure => omega
              case rel => exact ⟨a + 1, by rw [HCN.out], by go_num, by omega, rfl, (HC.out.keep z.below).congr fun y _ => by rw [mkF, mkF, HMN.out], hblz⟩
            · have hd3 : decide (0 < a) = false := decide_eq_false ha0
              go_upto_region 18 with fail
              refine wp_region_later (by kernel_rfl) (by kernel_rfl) ?_
              repeat (go_big_quiet_step (fail))
              refine wpQuiet_nil ?_
              intro _ hw'
              obtain ⟨z, hw''⟩ := hw'
              subst hw''
              clear hG1 hG2 hd1 hd3
              have hblz : Below w3.heap.size w3 z.val := hbl.trans (z.below.mono hbs)
              go_wp2
              go_roundg (C.length - (a + 1))
              case measure => omega
              case rel => exact ⟨a + 1, by rw [HCN.out], by go_num, by omega, rfl, (HC.out.keep z.below).congr fun y _ => by rw [mkF, mkF, HMN.out], hblz⟩
    · obtain rfl : a = C.length := by omega
      have hcn := Dgr.cntC_all HP.out
      rw [hcn]
      clear hcn
      have hcF : CellsV wr w3.heap.size n (clsF C) := HC.out.congr fun x hx => by rw [mkF, Dgr.mk_all HP.out hx]; rfl
      have HCF := Lib.hid hcF
      have HGZ := Lib.hid (HGB.out.keep hblX)
      have HGG := Lib.hid (HG.out.keep hblX)
      have hbwZ := hbX.trans (hbl.mono hbX.size)
      clear hcF HC HL HG HGB hbl hblX hbX hgX p0 p1 hlt
      obtain ⟨Z, hZ⟩ : ∃ Z, Z = wr := ⟨_, rfl⟩
      subst hZ
      generalize w3.heap.size = Mo at *
      have hMo := HCF.out.lt
      have hgZ := HGZ.out.lt
      obtain ⟨g0, g1⟩ := HGZ.out.c2
      go_wp2
      go_loopg [10] n (fun g i wr => ∃ v : Nat, i = .int .i64 v ∧ v ≤ n ∧ g = n - v ∧ Below Z.heap.size Z wr)
      case atStart => exact ⟨0, rfl, Nat.zero_le _, rfl, Below.refl _ _⟩
      case round =>
        clear g0 g1
        obtain ⟨v, rfl, hv, rfl, hbl⟩ := hrel
        obtain ⟨p0, p1⟩ := (HGZ.out.keep hbl).c2
        by_cases hlt : v < n
        · as_aux_lemma =>
            have HR := Lib.hid (reach_any n A es d v wr (HGG.out.arr.keep hbl) HO.out (by omega) (by omega) hlt)
            have hv1 : (0 : Int) ≤ (v : Int) := Int.natCast_nonneg _
            have hv2 : (v : Int) < (n : Int) := by omega
            go_wp2_with ((go_at_call 24; refine HR.out.mono ?_; rintro e w5 ⟨Ar, cr, rfl, hcr, hRr, hb5⟩))
            have hbl5 := hbl.trans (hb5.mono hbl.size)
            have HRR := Lib.hid (hRr.mono (Nat.zero_le _))
            have hrl := those_len n (Dgr.Rch es v)
            have HRL := Lib.hid (show (Dgr.reachL n es v).length ≤ n from hrl)
            have hmem : ∀ u, u < n → (Dgr.reachL n es v).contains u = decide (Dgr.Rch es v u) := fun u hu => by
              rw [Bool.eq_iff_iff, List.contains_iff_mem, Dgr.reachL, Dgr.mem_those, decide_eq_true_iff]
              exact ⟨fun h => h.2, fun h => ⟨hu, h⟩⟩
            have HMEM := Lib.hid hmem
            clear HR hRr hb5 p0 p1 hrl hmem hbl
            obtain ⟨p0, p1⟩ := (HGZ.out.keep hbl5).c2
            generalize (Dgr.reachL n es v) = rl at *
            go_loopg [12] n (fun g i wr => ∃ u : Nat, i = .int .i64 u ∧ u ≤ n ∧ g = n - u ∧ Below w5.heap.size w5 wr)
            case atStart => exact ⟨0, rfl, Nat.zero_le _, rfl, Below.refl _ _⟩
            case round =>
              clear p0 p1
              obtain ⟨u, rfl, hu, rfl, hbl⟩ := hrel
              have hblZ := hbl5.trans (hbl.mono hbl5.size)
              obtain ⟨p0, p1⟩ := (HGZ.out.keep hblZ).c2
              by_cases hltu : u < n
              · have hin := in_any Ar rl cr u 0 wr (HRR.out.keep hbl) (by have := HRL.out; omega) (by omega)
                rw [HMEM.out u hltu] at hin
                have hu1 : (0 : Int) ≤ (u : Int) := Int.natCast_nonneg _
                have hu2 : (u : Int) < (n : Int) := by omega
                obtain ⟨cv, hcv⟩ : ∃ k : Int, k = (Dgr.cls C v : Int) + 1 := ⟨_, rfl⟩
                obtain ⟨cu, hcu⟩ : ∃ k : Int, k = (Dgr.cls C u : Int) + 1 := ⟨_, rfl⟩
                have hm1 : Z.cell? ⟨Mo, v, none⟩ = some (.int .i64 cv) := by rw [HCF.out.cell v hlt, clsF, hcv]
                have hm2 : Z.cell? ⟨Mo, u, none⟩ = some (.int .i64 cu) := by rw [HCF.out.cell u hltu, clsF, hcu]
                have heq : (cv == cu) = decide (Dgr.Both es v u) := by
                  rw [Bool.eq_iff_iff, beq_iff_eq, decide_eq_true_iff, ← HP.out.both v u hlt hltu, hcv, hcu]
                  omega
                have HEQ := Lib.hid heq
                have HM1 := Lib.hid hm1
                have HM2 := Lib.hid hm2
                clear heq hm1 hm2 hcv hcu
                by_cases h1 : Dgr.Rch es v u
                · rw [decide_eq_true h1] at hin
                  go_wp2_with fail
                  go_at_call 31
                  refine hin.mono ?_
                  rintro e w6 ⟨rfl, hb6⟩
                  have hblY := hblZ.trans (hb6.mono hblZ.size)
                  have hbl6 := hbl.trans (hb6.mono hbl.size)
                  clear p0 p1 hin
                  obtain ⟨p0, p1⟩ := (HGZ.out.keep hblY).c2
                  have hre := reach_any n A es d u w6 (HGG.out.arr.keep hblY) HO.out (by omega) (by omega) hltu
                  go_wp2_with fail
                  go_at_call 24
                  refine hre.mono ?_
                  rintro e w7 ⟨As, cs, rfl, hcs, hRs, hb7⟩
                  have hl7 : (Dgr.reachL n es u).length ≤ n := those_len n (Dgr.Rch es u)
                  have hin := in_any As (Dgr.reachL n es u) cs v _ w7 hRs (by omega) (by omega)
                  have hc7 : (Dgr.reachL n es u).contains v = decide (Dgr.Rch es u v) := by
                    rw [Bool.eq_iff_iff, List.contains_iff_mem, Dgr.reachL, Dgr.mem_those, decide_eq_true_iff]
                    exact ⟨fun h => h.2, fun h => ⟨hlt, h⟩⟩
                  rw [hc7] at hin
                  have hblX := hblY.trans (hb7.mono hblY.size)
                  have hbl7 := hbl6.trans (hb7.mono hbl6.size)
                  clear hre hRs hc7 p0 p1
                  by_cases h2 : Dgr.Rch es u v
                  · rw [decide_eq_true h2] at hin
                    have hbe : (cv == cu) = true := by rw [HEQ.out]; exact decide_eq_true ⟨h1, h2⟩
                    go_wp2_with fail
                    go_at_call 31
                    refine hin.mono ?_
                    rintro e wr9 ⟨rfl, hb8⟩
                    have hblW := hblX.trans (hb8.mono hblX.size)
                    have hbl8 := hbl7.trans (hb8.mono hbl7.size)
                    go_upto_region 30 with fail
                    have hG1 : ∀ p : Later wr9, p.val.cell? ⟨Mo, v, none⟩ = some (.int .i64 cv) := lat hblW hMo HM1.out
                    have hG2 : ∀ p : Later wr9, p.val.cell? ⟨Mo, u, none⟩ = some (.int .i64 cu) := lat hblW hMo HM2.out
                    refine wp_region_later (by kernel_rfl) (by kernel_rfl) ?_
                    repeat (go_big_quiet_step (fail))
                    refine wpQuiet_nil ?_
                    intro _ hw'
                    obtain ⟨z, hw''⟩ := hw'
                    subst hw''
                    have hblz := hbl8.trans (z.below.mono hbl8.size)
                    clear hG1 hG2 hbe
                    go_wp2
                    go_roundg (n - (u + 1))
                    case measure => omega
                    case rel => exact ⟨u + 1, by go_num, by omega, rfl, hblz⟩
                  · rw [decide_eq_false h2] at hin
                    have hbe : (cv == cu) = false := by rw [HEQ.out]; exact decide_eq_false fun h => h2 h.2
                    go_wp2_with fail
                    go_at_call 31
                    refine hin.mono ?_
                    rintro e wr9 ⟨rfl, hb8⟩
                    have hblW := hblX.trans (hb8.mono hblX.size)
                    have hbl8 := hbl7.trans (hb8.mono hbl7.size)
                    go_upto_region 30 with fail
                    have hG1 : ∀ p : Later wr9, p.val.cell? ⟨Mo, v, none⟩ = some (.int .i64 cv) := lat hblW hMo HM1.out
                    have hG2 : ∀ p : Later wr9, p.val.cell? ⟨Mo, u, none⟩ = some (.int .i64 cu) := lat hblW hMo HM2.out
                    refine wp_region_later (by kernel_rfl) (by kernel_rfl) ?_
                    repeat (go_big_quiet_step (fail))
                    refine wpQuiet_nil ?_
                    intro _ hw'
                    obtain ⟨z, hw''⟩ := hw'
                    subst hw''
                    have hblz := hbl8.trans (z.below.mono hbl8.size)
                    clear hG1 hG2 hbe
                    go_wp2
                    go_roundg (n - (u + 1))
                    case measure => omega
                    case rel => exact ⟨u + 1, by go_num, by omega, rfl, hblz⟩
                · rw [decide_eq_false h1] at hin
                  have hbe : (cv == cu) = false := by rw [HEQ.out]; exact decide_eq_false fun h => h1 h.1
                  go_wp2_with fail
                  go_at_call 31
                  refine hin.mono ?_
                  rintro e wr9 ⟨rfl, hb8⟩
                  have hblW := hblZ.trans (hb8.mono hblZ.size)
                  have hbl8 := hbl.trans (hb8.mono hbl.size)
                  go_upto_region 30 with fail
                  have hG1 : ∀ p : Later wr9, p.val.cell? ⟨Mo, v, none⟩ = some (.int .i64 cv) := lat hblW hMo HM1.out
                  have hG2 : ∀ p : Later wr9, p.val.cell? ⟨Mo, u, none⟩ = some (.int .i64 cu) := lat hblW hMo HM2.out
                  refine wp_region_later (by kernel_rfl) (by kernel_rfl) ?_
                  repeat (go_big_quiet_step (fail))
                  refine wpQuiet_nil ?_
                  intro _ hw'
                  obtain ⟨z, hw''⟩ := hw'
                  subst hw''
                  have hblz := hbl8.trans (z.below.mono hbl8.size)
                  clear hG1 hG2 hbe
                  go_wp2
                  go_roundg (n - (u + 1))
                  case measure => omega
                  case rel => exact ⟨u + 1, by go_num, by omega, rfl, hblz⟩
              · go_wp2
                go_roundg (n - (v + 1))
                case measure => omega
                case rel => exact ⟨v + 1, by go_num, by omega, rfl, hblZ⟩
        · obtain rfl : n = v := by omega
          have hbwY := hbwZ.trans (hbl.mono hbwZ.size)
          have HGY := Lib.hid (HGZ.out.keep hbl)
          have HGE := Lib.hid (HGG.out.keep hbl)
          have HCY := Lib.hid (HCF.out.keep hbl)
          have hgY := HGY.out.lt
          have hMoY := HCY.out.lt
          clear HGZ HGG HCF hbl hbwZ hgZ hMo hlt p0 p1
          obtain ⟨Y, hY⟩ : ∃ Y, Y = wr := ⟨_, rfl⟩
          subst hY
          obtain ⟨g0, g1⟩ := HGY.out.c2
          obtain ⟨i0, hi0, hz0, hz1, hz2⟩ := parts_of infoEdge
          obtain ⟨be, oe, heo⟩ := HGE.out.arr.open
          have HE := Lib.hid heo
          have hst := start1 Y #[.int .i64 (C.length : Int), .slice none 0 0] 31
          have HS := Lib.hid hst
          clear hst heo
          go_wp2
          go_loopg [15, 16] es.length (fun g lp i wr => ∃ (j : Nat) (As : Option Addr) (ns cs : Nat), lp = .bool (loopB es j) ∧ i = .int .i64 j ∧ j ≤ es.length ∧ g = es.length - j ∧ BoxL wr Y.heap.size #[.int .i64 (C.length : Int), .slice As ns cs] ∧ wr.ownsRow (Y.heap.size + 1) 55 2 (.slice As ns cs) ns (fl (Dgr.small (Dgr.cls C) (es.take j))) ∧ ns ≤ j ∧ Below Y.heap.size Y wr)
          case atStart => exact ⟨0, none, 0, 0, rfl, rfl, Nat.zero_le _, rfl, HS.out.1, World.ownsRow_nil _ _ _ _, Nat.le_refl _, HS.out.2⟩
          case round =>
            clear HS g0 g1
            obtain ⟨j, As, ns, cs, rfl, rfl, hj, rfl, hSB, hrow, hns, hbl⟩ := hrel
            have hbs := hbl.size
            obtain ⟨p0, p1⟩ := (HGY.out.keep hbl).c2
            have HSB := Lib.hid hSB
            have HROW := Lib.hid hrow
            clear hSB hrow
            have hj1 : (0 : Int) ≤ (j : Int) := Int.natCast_nonneg _
            by_cases hltj : j < es.length
            · as_aux_lemma =>
                obtain ⟨⟨p, q⟩, hpq⟩ := get_ex hltj
                obtain ⟨rfl, hbe, hce⟩ := HE.out (by intro h; subst h; simp at hltj)
                obtain ⟨hp, hq⟩ := hce j p q hpq
                have hpn : p < n := (HO.out _ (List.mem_of_getElem? hpq)).1
                have hqn : q < n := (HO.out _ (List.mem_of_getElem? hpq)).2
                have hj2 : (j : Int) < (es.length : Int) := by omega
                have hcp := (hbl.cell (p := ⟨be, oe + j * 2, none⟩) hbe).trans hp
                have hcq := (hbl.cell (p := ⟨be, oe + j * 2 + 1, none⟩) hbe).trans hq
                have HLS := Lib.hid (loopB_succ hpq)
                have HSS := Lib.hid (small_succ (Dgr.cls C) hpq)
                have hkpn := HP.out.cover p hpn
                have hkqn := HP.out.cover q hqn
                have hmp : wr.cell? ⟨Mo, p, none⟩ = some (.int .i64 ((Dgr.cls C p : Int) + 1)) := (hbl.cell (p := ⟨Mo, p, none⟩) hMoY).trans (HCY.out.cell p hpn)
                have hmq : wr.cell? ⟨Mo, q, none⟩ = some (.int .i64 ((Dgr.cls C q : Int) + 1)) := (hbl.cell (p := ⟨Mo, q, none⟩) hMoY).trans (HCY.out.cell q hqn)
                have hpk : p = q → Dgr.cls C p = Dgr.cls C q := fun e => by rw [e]
                generalize Dgr.cls C p = kp at *
                generalize Dgr.cls C q = kq at *
                have hp1 : (0 : Int) ≤ (p : Int) := Int.natCast_nonneg _
                have hp2 : (p : Int) < (n : Int) := by omega
                have hq1 : (0 : Int) ≤ (q : Int) := Int.natCast_nonneg _
                have hq2 : (q : Int) < (n : Int) := by omega
                have HP2 := Lib.hid hp
                have HQ2 := Lib.hid hq
                clear hpq hp hq hce HE
                go_upto_region 39 with fail
                clear hcp hcq hmp hmq p0 p1
                have hG1 : ∀ p : Later wr, p.val.cell? ⟨gb, 1, none⟩ = some (.slice (some ⟨be, oe, none⟩) es.length d) := lat hbl hgY HGY.out.c2.2
                have hG2 : ∀ p' : Later wr, p'.val.cell? ⟨be, oe + j * 2, none⟩ = some (.int .i64 (p : Int)) := lat hbl hbe HP2.out
                have hG3 : ∀ p' : Later wr, p'.val.cell? ⟨be, oe + j * 2 + 1, none⟩ = some (.int .i64 (q : Int)) := lat hbl hbe HQ2.out
                cases hlb : loopB es j with
                | true =>
                  have HLB := Lib.hid hlb
                  clear hlb
                  by_cases hkk : kp = kq
                  · subst hkk
                    have hkd : ((kp : Int) != (kp : Int)) = false := by rw [bne_eq_false_iff_eq]
                    refine wp_region_later (by kernel_rfl) (by kernel_rfl) ?_
                    repeat (go_big_quiet_step (fail))
                    refine wpQuiet_nil ?_
                    intro _ hw'
                    obtain ⟨z, hw''⟩ := hw'
                    subst hw''
                    have hbU := hbl.trans (z.below.mono hbs)
                    have HSU := Lib.hid (HSB.out.keep z.below)
                    have HRW := Lib.hid (row_keep HROW.out z.below)
                    clear hG1 hG2 hG3
                    generalize z.val = U at *
                    obtain ⟨s0, s1⟩ := HSU.out.c2
                    go_wp2
                    go_roundg (es.length - (j + 1))
                    case measure => omega
                    case rel => exact ⟨j + 1, As, ns, cs, by rw [HLS.out, HLB.out]; rfl, by go_num, by omega, rfl, HSU.out, by rw [HSS.out, if_neg (by simp), List.append_nil]; exact HRW.out, by omega, hbU⟩
                  · have hkd : ((kp : Int) != (kq : Int)) = true := by rw [bne_iff_ne]; omega
                    refine wp_region_later (by kernel_rfl) (by kernel_rfl) ?_
                    repeat (go_big_quiet_step (fail))
                    refine wpQuiet_nil ?_
                    intro _ hw'
                    obtain ⟨z, hw''⟩ := hw'
                    subst hw''
                    have hbU := hbl.trans (z.below.mono hbs)
                    have HSU := Lib.hid (HSB.out.keep z.below)
                    have HRW := Lib.hid (row_keep HROW.out z.below)
                    clear hG1 hG2 hG3
                    generalize z.val = U at *
                    obtain ⟨s0, s1⟩ := HSU.out.c2
                    go_wp2_with (at_builtin; refine wpList_append_lies _ rfl _ _ 25 rfl (Y.heap.size + 1) 55 i0 (.agg #[.int .i64 0, .int .i64 0]) 2 16 Try.underlying25 hi0 hz0 hz1 hz2 rfl (by decide) (.slice As ns cs) ns (fl (Dgr.small (Dgr.cls C) (es.take j))) rfl (HRW.out.alloc _) ⟨U.heap.size, 0, none⟩ 1 1 [.int .i64 (kp : Int), .int .i64 (kq : Int)] rfl rfl (World.news_of_block (cs := #[.int .i64 (kp : Int), .int .i64 (kq : Int)]) (t := 55) (fr := (0, 0)) (heap_alloc_new U _)) (by simp [Value.oneCell']) (by decide) (by unfold maxLen; omega) (by omega) (by have := hbU.size; have := HSU.out.lt; simp; omega) _ rfl ?_; intro g' cap' w1 hown1 hgrow1 hor1 hlt1; have hOB := (HSU.out.keep ((Below.refl _ U).alloc (Nat.le_refl _) (.cells #[.int .i64 (kp : Int), .int .i64 (kq : Int)] 55))).grown hgrow1 (fun e => by have := (HRW.out.lt _ e.symm).1; omega); obtain ⟨d0, d1⟩ := hOB.c2; obtain ⟨e0, e1⟩ := hOB.f2)
                    go_roundg (es.length - (j + 1))
                    case measure => omega
                    case rel =>
                      refine ⟨j + 1, some ⟨g', 0, none⟩, ns + 1, cap', by rw [HLS.out, HLB.out]; rfl, by go_num, by omega, rfl, box_set1 hOB, ?_, by omega, ?_⟩
                      · rw [HSS.out, if_pos hkk, fl_snoc]; exact ownsRow_setCell_below hown1 (by show Y.heap.size < _; omega) _
                      · exact Below.setCell ((hbU.alloc hbU.size _).grown hgrow1 (by have := hbU.size; simp; omega) (fun g2 hg2 => by have := (HRW.out.lt g2 hg2).1; omega)) (p := ⟨Y.heap.size, 1, none⟩) (Nat.le_refl _) _
                | false =>
                  have HLB := Lib.hid hlb
                  clear hlb
                  by_cases hpq : p = q
                  · have hpqd : ((p : Int) == (q : Int)) = true := by rw [beq_iff_eq]; omega
                    have hkk := hpk hpq
                    subst hkk
                    have hkd : ((kp : Int) != (kp : Int)) = false := by rw [bne_eq_false_iff_eq]
                    refine wp_region_later (by kernel_rfl) (by kernel_rfl) ?_
                    repeat (go_big_quiet_step (fail))
                    refine wpQuiet_nil ?_
                    intro _ hw'
                    obtain ⟨z, hw''⟩ := hw'
                    subst hw''
                    have hbU := hbl.trans (z.below.mono hbs)
                    have HSU := Lib.hid (HSB.out.keep z.below)
                    have HRW := Lib.hid (row_keep HROW.out z.below)
                    clear hG1 hG2 hG3
                    generalize z.val = U at *
                    obtain ⟨s0, s1⟩ := HSU.out.c2
                    go_wp2
                    go_roundg (es.length - (j + 1))
                    case measure => omega
                    case rel => exact ⟨j + 1, As, ns, cs, by rw [HLS.out, HLB.out]; simp [hpq], by go_num, by omega, rfl, HSU.out, by rw [HSS.out, if_neg (by simp), List.append_nil]; exact HRW.out, by omega, hbU⟩
                  · have hpqd : ((p : Int) == (q : Int)) = false := by rw [beq_eq_false_iff_ne]; omega
                    by_cases hkk : kp = kq
                    · subst hkk
                      have hkd : ((kp : Int) != (kp : Int)) = false := by rw [bne_eq_false_iff_eq]
                      refine wp_region_later (by kernel_rfl) (by kernel_rfl) ?_
                      repeat (go_big_quiet_step (fail))
                      refine wpQuiet_nil ?_
                      intro _ hw'
                      obtain ⟨z, hw''⟩ := hw'
                      subst hw''
                      have hbU := hbl.trans (z.below.mono hbs)
                      have HSU := Lib.hid (HSB.out.keep z.below)
                      have HRW := Lib.hid (row_keep HROW.out z.below)
                      clear hG1 hG2 hG3
                      generalize z.val = U at *
                      obtain ⟨s0, s1⟩ := HSU.out.c2
                      go_wp2
                      go_roundg (es.length - (j + 1))
                      case measure => omega
                      case rel => exact ⟨j + 1, As, ns, cs, by rw [HLS.out, HLB.out]; simp [hpq], by go_num, by omega, rfl, HSU.out, by rw [HSS.out, if_neg (by simp), List.append_nil]; exact HRW.out, by omega, hbU⟩
                    · have hkd : ((kp : Int) != (kq : Int)) = true := by rw [bne_iff_ne]; omega
                      refine wp_region_later (by kernel_rfl) (by kernel_rfl) ?_
                      repeat (go_big_quiet_step (fail))
                      refine wpQuiet_nil ?_
                      intro _ hw'
                      obtain ⟨z, hw''⟩ := hw'
                      subst hw''
                      have hbU := hbl.trans (z.below.mono hbs)
                      have HSU := Lib.hid (HSB.out.keep z.below)
                      have HRW := Lib.hid (row_keep HROW.out z.below)
                      clear hG1 hG2 hG3
                      generalize z.val = U at *
                      obtain ⟨s0, s1⟩ := HSU.out.c2
                      go_wp2_with (at_builtin; refine wpList_append_lies _ rfl _ _ 25 rfl (Y.heap.size + 1) 55 i0 (.agg #[.int .i64 0, .int .i64 0]) 2 16 Try.underlying25 hi0 hz0 hz1 hz2 rfl (by decide) (.slice As ns cs) ns (fl (Dgr.small (Dgr.cls C) (es.take j))) rfl (HRW.out.alloc _) ⟨U.heap.size, 0, none⟩ 1 1 [.int .i64 (kp : Int), .int .i64 (kq : Int)] rfl rfl (World.news_of_block (cs := #[.int .i64 (kp : Int), .int .i64 (kq : Int)]) (t := 55) (fr := (0, 0)) (heap_alloc_new U _)) (by simp [Value.oneCell']) (by decide) (by unfold maxLen; omega) (by omega) (by have := hbU.size; have := HSU.out.lt; simp; omega) _ rfl ?_; intro g' cap' w1 hown1 hgrow1 hor1 hlt1; have hOB := (HSU.out.keep ((Below.refl _ U).alloc (Nat.le_refl _) (.cells #[.int .i64 (kp : Int), .int .i64 (kq : Int)] 55))).grown hgrow1 (fun e => by have := (HRW.out.lt _ e.symm).1; omega); obtain ⟨d0, d1⟩ := hOB.c2; obtain ⟨e0, e1⟩ := hOB.f2)
                      go_roundg (es.length - (j + 1))
                      case measure => omega
                      case rel =>
                        refine ⟨j + 1, some ⟨g', 0, none⟩, ns + 1, cap', by rw [HLS.out, HLB.out]; simp [hpq], by go_num, by omega, rfl, box_set1 hOB, ?_, by omega, ?_⟩
                        · rw [HSS.out, if_pos hkk, fl_snoc]; exact ownsRow_setCell_below hown1 (by show Y.heap.size < _; omega) _
                        · exact Below.setCell ((hbU.alloc hbU.size _).grown hgrow1 (by have := hbU.size; simp; omega) (fun g2 hg2 => by have := (HRW.out.lt g2 hg2).1; omega)) (p := ⟨Y.heap.size, 1, none⟩) (Nat.le_refl _) _
            · obtain rfl : j = es.length := by omega
              have hrow := HROW.out
              rw [List.take_length] at hrow
              obtain ⟨A9, c9, he9, hc9, hl9, hE9⟩ := own_edges hrow
              obtain ⟨rfl, rfl⟩ : As = A9 ∧ cs = c9 := by injection he9 with e1 e2 e3; exact ⟨e1, e3⟩
              have okS : Dgr.Ok C.length (Dgr.small (Dgr.cls C) es) := fun e he => by
                obtain ⟨i, k⟩ := e
                obtain ⟨_, u, x, hux, rfl, rfl⟩ := Dgr.mem_small.1 he
                exact ⟨HP.out.cover u (HO.out _ hux).1, HP.out.cover x (HO.out _ hux).2⟩
              have hacS : Dgr.Acyclic (Dgr.small (Dgr.cls C) es) := Dgr.small_acyclic HO.out fun v w hv hw => HP.out.both v w hv hw
              obtain ⟨lS, hlS⟩ := (Dgr.orderF_iff okS).2 hacS
              have FS := fun (wz : World) (hz : Below wr.heap.size wr wz) => (orderL_any C.length As (Dgr.small (Dgr.cls C) es) cs wz (hE9.keep hz) okS (by omega) (by omega)).mono (order_zero hlS)
              rw [hl9] at FS
              have FG0 := fun (wz : World) (hz : Below wr.heap.size wr wz) => orderL_any n A es d wz ((HGE.out.arr.keep hbl).keep hz) HO.out (by omega) (by omega)
              have tS : ∀ wz, Below wr.heap.size wr wz → wz.cell? ⟨Y.heap.size, 0, none⟩ = some (.int .i64 (C.length : Int)) ∧ wz.cell? ⟨Y.heap.size, 1, none⟩ = some (.slice As ns cs) := fun wz hz => (HSB.out.keep hz).c2
              have tG : ∀ wz, Below wr.heap.size wr wz → wz.cell? ⟨gb, 0, none⟩ = some (.int .i64 (n : Int)) ∧ wz.cell? ⟨gb, 1, none⟩ = some (.slice A es.length d) := fun wz hz => ((HGY.out.keep hbl).keep hz).c2
              have tG0 : ∀ wz, Below wr.heap.size wr wz → wz.cell? ⟨gb, 0, none⟩ = some (.int .i64 (n : Int)) := fun wz hz => (tG wz hz).1
              have hbwF := hbwY.trans (hbl.mono hbwY.size)
              have hcl := Dgr.acyclic_classes (es := es) HO.out
              rw [← Dgr.part_single HP.out, ← loopB_false] at hcl
              clear hrow he9 hE9 HE okS hacS hlS HSB HROW HGY HGE hltj
              cases hof : Dgr.orderF n es with
              | some lG =>
                have hac := Dgr.orderF_acyclic HO.out hof
                obtain ⟨hln, hlb⟩ := hcl.1 hac
                have hld : ((C.length : Int) == (n : Int)) = true := by rw [beq_iff_eq]; omega
                have FG := fun (wz : World) (hz : Below wr.heap.size wr wz) => (FG0 wz hz).mono (order_zero hof)
                rw [hlb]
                clear hcl hac hof hlb FG0 hln
                as_aux_lemma =>
                  go_upto_region 42 with fail
                  clear p0 p1
                  refine wp_region_flow 23 [.det (.agg #[.int .i64 ((C.length : Int)), .slice As ns cs]), ordS 0, .det (.int .i64 0), .det (.bool true), .det (.bool true), .det (.agg #[.int .i64 ((n : Int)), .slice A es.length d]), ordS 0, .det (.int .i64 0), .det (.bool true), .det (.slice Al C.length cl), .det (.int .i64 C.length), .det (.pointer (some ⟨gb, 0, none⟩)), .det (.int .i64 ((n : Int))), .det (.bool true), .det (.bool true), .det (.bool false), .det (.bool true), .det (.bool true), .det (.bool true), .det (.bool true), .det (.bool true), .det (.bool true), .det (.bool true)] (by kernel_rfl) (by kernel_rfl) rfl ?_
                  simp only [List.take_succ_cons, List.take_zero, List.drop_succ_cons, List.drop_zero]
                  refine flowL_det (fun wz hz hd => stepF_reads (by rfl) ?_) ?_
                  · obtain ⟨q0, q1⟩ := tS wz hz; go_simp; try rfl
                  simp only [Act.put, List.setIfInBounds_toArray, List.set_cons_zero, List.set_cons_succ]
                  refine flowL_make (⟨_, none, 0, 0, rfl⟩) (fun wz hz hd => stepF_walk (by rfl) (fun K hK => ?_)) (fun v hv => ?_)
                  · go_wp2_with fail
                    go_at_call 15
                    refine (FS wz hz).mono ?_
                    rintro e w9 ⟨A9, m9, c9, rfl, hb⟩
                    exact hK.out _ _ ⟨A9, m9, c9, rfl⟩ trivial hb
                  obtain ⟨Ao, mo, co, rfl⟩ := hv
                  simp only [Act.put, List.setIfInBounds_toArray, List.set_cons_zero, List.set_cons_succ]
                  refine flowL_det (fun wz hz hd => stepF_reads (by rfl) ?_) ?_
                  · go_simp; try rfl
                  simp only [Act.put, List.setIfInBounds_toArray, List.set_cons_zero, List.set_cons_succ]
                  refine flowL_det (fun wz hz hd => stepF_reads (by rfl) ?_) ?_
                  · go_simp; try rfl
                  simp only [Act.put, List.setIfInBounds_toArray, List.set_cons_zero, List.set_cons_succ]
                  refine flowL_det (fun wz hz hd => stepF_reads (by rfl) ?_) ?_
                  · go_simp; try rfl
                  simp only [Act.put, List.setIfInBounds_toArray, List.set_cons_zero, List.set_cons_succ]
                  refine flowL_det (fun wz hz hd => stepF_reads (by rfl) ?_) ?_
                  · obtain ⟨q0, q1⟩ := tG wz hz; go_simp; try rfl
                  simp only [Act.put, List.setIfInBounds_toArray, List.set_cons_zero, List.set_cons_succ]
                  refine flowL_make (⟨_, none, 0, 0, rfl⟩) (fun wz hz hd => stepF_walk (by rfl) (fun K hK => ?_)) (fun v hv => ?_)
                  · go_wp2_with fail
                    go_at_call 15
                    refine (FG wz hz).mono ?_
                    rintro e w9 ⟨A9, m9, c9, rfl, hb⟩
                    exact hK.out _ _ ⟨A9, m9, c9, rfl⟩ trivial hb
                  obtain ⟨Ag, mg, cg, rfl⟩ := hv
                  simp only [Act.put, List.setIfInBounds_toArray, List.set_cons_zero, List.set_cons_succ]
                  refine flowL_det (fun wz hz hd => stepF_reads (by rfl) ?_) ?_
                  · go_simp; try rfl
                  simp only [Act.put, List.setIfInBounds_toArray, List.set_cons_zero, List.set_cons_succ]
                  refine flowL_det (fun wz hz hd => stepF_reads (by rfl) ?_) ?_
                  · go_simp; try rfl
                  simp only [Act.put, List.setIfInBounds_toArray, List.set_cons_zero, List.set_cons_succ]
                  refine flowL_det (fun wz hz hd => stepF_reads (by rfl) ?_) ?_
                  · go_simp; try rfl
                  simp only [Act.put, List.setIfInBounds_toArray, List.set_cons_zero, List.set_cons_succ]
                  refine flowL_det (fun wz hz hd => stepF_reads (by rfl) ?_) ?_
                  · go_simp; try rfl
                  simp only [Act.put, List.setIfInBounds_toArray, List.set_cons_zero, List.set_cons_succ]
                  refine flowL_det (fun wz hz hd => stepF_reads (by rfl) ?_) ?_
                  · go_simp; try rfl
                  simp only [Act.put, List.setIfInBounds_toArray, List.set_cons_zero, List.set_cons_succ]
                  refine flowL_det (fun wz hz hd => stepF_reads (by rfl) ?_) ?_
                  · have q := tG0 wz hz; go_simp; try rfl
                  simp only [Act.put, List.setIfInBounds_toArray, List.set_cons_zero, List.set_cons_succ]
                  refine flowL_det (fun wz hz hd => stepF_reads (by rfl) ?_) ?_
                  · go_simp; try rfl
                  simp only [Act.put, List.setIfInBounds_toArray, List.set_cons_zero, List.set_cons_succ]
                  refine flowL_det (fun wz hz hd => stepF_reads (by rfl) ?_) ?_
                  · go_simp; try rfl
                  simp only [Act.put, List.setIfInBounds_toArray, List.set_cons_zero, List.set_cons_succ]
                  refine flowL_det (fun wz hz hd => stepF_reads (by rfl) ?_) ?_
                  · go_simp; try rfl
                  simp only [Act.put, List.setIfInBounds_toArray, List.set_cons_zero, List.set_cons_succ]
                  refine flowL_det (fun wz hz hd => stepF_reads (by rfl) ?_) ?_
                  · go_simp; try rfl
                  simp only [Act.put, List.setIfInBounds_toArray, List.set_cons_zero, List.set_cons_succ]
                  refine flowL_det (fun wz hz hd => stepF_reads (by rfl) ?_) ?_
                  · go_simp; try rfl
                  simp only [Act.put, List.setIfInBounds_toArray, List.set_cons_zero, List.set_cons_succ]
                  refine flowL_det (fun wz hz hd => stepF_reads (by rfl) ?_) ?_
                  · go_simp; try rfl
                  simp only [Act.put, List.setIfInBounds_toArray, List.set_cons_zero, List.set_cons_succ]
                  refine flowL_det (fun wz hz hd => stepF_reads (by rfl) ?_) ?_
                  · go_simp; try rfl
                  simp only [Act.put, List.setIfInBounds_toArray, List.set_cons_zero, List.set_cons_succ]
                  refine flowL_det (fun wz hz hd => stepF_reads (by rfl) ?_) ?_
                  · go_simp; try rfl
                  simp only [Act.put, List.setIfInBounds_toArray, List.set_cons_zero, List.set_cons_succ]
                  refine flowL_det (fun wz hz hd => stepF_reads (by rfl) ?_) ?_
                  · go_simp; try rfl
                  simp only [Act.put, List.setIfInBounds_toArray, List.set_cons_zero, List.set_cons_succ]
                  refine flowL_det (fun wz hz hd => stepF_reads (by rfl) ?_) ?_
                  · go_simp; try rfl
                  simp only [Act.put, List.setIfInBounds_toArray, List.set_cons_zero, List.set_cons_succ]
                  intro w4 ps hb4 hF hap
                  clear hF hap FS FG tS tG tG0 hld
                  go_wp2_with fail
                  go_ret
                  exact ⟨rfl, hbwF.trans (hb4.mono hbwF.size)⟩
              | none =>
                have hnac : ¬ Dgr.Acyclic es := fun h => by obtain ⟨l, hl⟩ := (Dgr.orderF_iff HO.out).2 h; rw [hof] at hl; cases hl
                have FG := fun (wz : World) (hz : Below wr.heap.size wr wz) => (FG0 wz hz).mono (order_fifty hof)
                by_cases hln : C.length = n
                · have hlb : loopB es es.length = true := by
                    cases h : loopB es es.length with
                    | true => rfl
                    | false => exact absurd (hcl.2 ⟨hln, h⟩) hnac
                  have hld : ((C.length : Int) == (n : Int)) = true := by rw [beq_iff_eq]; omega
                  rw [hlb]
                  clear hcl hnac hof hlb FG0 hln
                  as_aux_lemma =>
                    go_upto_region 42 with fail
                    clear p0 p1
                    refine wp_region_flow 23 [.det (.agg #[.int .i64 ((C.length : Int)), .slice As ns cs]), ordS 0, .det (.int .i64 0), .det (.bool true), .det (.bool true), .det (.agg #[.int .i64 ((n : Int)), .slice A es.length d]), ordS 50, .det (.int .i64 50), .det (.bool false), .det (.slice Al C.length cl), .det (.int .i64 C.length), .det (.pointer (some ⟨gb, 0, none⟩)), .det (.int .i64 ((n : Int))), .det (.bool true), .det (.bool true), .det (.bool true), .det (.bool false), .det (.bool false), .det (.bool true), .det (.bool true), .det (.bool true), .det (.bool true), .det (.bool true)] (by kernel_rfl) (by kernel_rfl) rfl ?_
                    simp only [List.take_succ_cons, List.take_zero, List.drop_succ_cons, List.drop_zero]
                    refine flowL_det (fun wz hz hd => stepF_reads (by rfl) ?_) ?_
                    · obtain ⟨q0, q1⟩ := tS wz hz; go_simp; try rfl
                    simp only [Act.put, List.setIfInBounds_toArray, List.set_cons_zero, List.set_cons_succ]
                    refine flowL_make (⟨_, none, 0, 0, rfl⟩) (fun wz hz hd => stepF_walk (by rfl) (fun K hK => ?_)) (fun v hv => ?_)
                    · go_wp2_with fail
                      go_at_call 15
                      refine (FS wz hz).mono ?_
                      rintro e w9 ⟨A9, m9, c9, rfl, hb⟩
                      exact hK.out _ _ ⟨A9, m9, c9, rfl⟩ trivial hb
                    obtain ⟨Ao, mo, co, rfl⟩ := hv
                    simp only [Act.put, List.setIfInBounds_toArray, List.set_cons_zero, List.set_cons_succ]
                    refine flowL_det (fun wz hz hd => stepF_reads (by rfl) ?_) ?_
                    · go_simp; try rfl
                    simp only [Act.put, List.setIfInBounds_toArray, List.set_cons_zero, List.set_cons_succ]
                    refine flowL_det (fun wz hz hd => stepF_reads (by rfl) ?_) ?_
                    · go_simp; try rfl
                    simp only [Act.put, List.setIfInBounds_toArray, List.set_cons_zero, List.set_cons_succ]
                    refine flowL_det (fun wz hz hd => stepF_reads (by rfl) ?_) ?_
                    · go_simp; try rfl
                    simp only [Act.put, List.setIfInBounds_toArray, List.set_cons_zero, List.set_cons_succ]
                    refine flowL_det (fun wz hz hd => stepF_reads (by rfl) ?_) ?_
                    · obtain ⟨q0, q1⟩ := tG wz hz; go_simp; try rfl
                    simp only [Act.put, List.setIfInBounds_toArray, List.set_cons_zero, List.set_cons_succ]
                    refine flowL_make (⟨_, none, 0, 0, rfl⟩) (fun wz hz hd => stepF_walk (by rfl) (fun K hK => ?_)) (fun v hv => ?_)
                    · go_wp2_with fail
                      go_at_call 15
                      refine (FG wz hz).mono ?_
                      rintro e w9 ⟨A9, m9, c9, rfl, hb⟩
                      exact hK.out _ _ ⟨A9, m9, c9, rfl⟩ trivial hb
                    obtain ⟨Ag, mg, cg, rfl⟩ := hv
                    simp only [Act.put, List.setIfInBounds_toArray, List.set_cons_zero, List.set_cons_succ]
                    refine flowL_det (fun wz hz hd => stepF_reads (by rfl) ?_) ?_
                    · go_simp; try rfl
                    simp only [Act.put, List.setIfInBounds_toArray, List.set_cons_zero, List.set_cons_succ]
                    refine flowL_det (fun wz hz hd => stepF_reads (by rfl) ?_) ?_
                    · go_simp; try rfl
                    simp only [Act.put, List.setIfInBounds_toArray, List.set_cons_zero, List.set_cons_succ]
                    refine flowL_det (fun wz hz hd => stepF_reads (by rfl) ?_) ?_
                    · go_simp; try rfl
                    simp only [Act.put, List.setIfInBounds_toArray, List.set_cons_zero, List.set_cons_succ]
                    refine flowL_det (fun wz hz hd => stepF_reads (by rfl) ?_) ?_
                    · go_simp; try rfl
                    simp only [Act.put, List.setIfInBounds_toArray, List.set_cons_zero, List.set_cons_succ]
                    refine flowL_det (fun wz hz hd => stepF_reads (by rfl) ?_) ?_
                    · go_simp; try rfl
                    simp only [Act.put, List.setIfInBounds_toArray, List.set_cons_zero, List.set_cons_succ]
                    refine flowL_det (fun wz hz hd => stepF_reads (by rfl) ?_) ?_
                    · have q := tG0 wz hz; go_simp; try rfl
                    simp only [Act.put, List.setIfInBounds_toArray, List.set_cons_zero, List.set_cons_succ]
                    refine flowL_det (fun wz hz hd => stepF_reads (by rfl) ?_) ?_
                    · go_simp; try rfl
                    simp only [Act.put, List.setIfInBounds_toArray, List.set_cons_zero, List.set_cons_succ]
                    refine flowL_det (fun wz hz hd => stepF_reads (by rfl) ?_) ?_
                    · go_simp; try rfl
                    simp only [Act.put, List.setIfInBounds_toArray, List.set_cons_zero, List.set_cons_succ]
                    refine flowL_det (fun wz hz hd => stepF_reads (by rfl) ?_) ?_
                    · go_simp; try rfl
                    simp only [Act.put, List.setIfInBounds_toArray, List.set_cons_zero, List.set_cons_succ]
                    refine flowL_det (fun wz hz hd => stepF_reads (by rfl) ?_) ?_
                    · go_simp; try rfl
                    simp only [Act.put, List.setIfInBounds_toArray, List.set_cons_zero, List.set_cons_succ]
                    refine flowL_det (fun wz hz hd => stepF_reads (by rfl) ?_) ?_
                    · go_simp; try rfl
                    simp only [Act.put, List.setIfInBounds_toArray, List.set_cons_zero, List.set_cons_succ]
                    refine flowL_det (fun wz hz hd => stepF_reads (by rfl) ?_) ?_
                    · go_simp; try rfl
                    simp only [Act.put, List.setIfInBounds_toArray, List.set_cons_zero, List.set_cons_succ]
                    refine flowL_det (fun wz hz hd => stepF_reads (by rfl) ?_) ?_
                    · go_simp; try rfl
                    simp only [Act.put, List.setIfInBounds_toArray, List.set_cons_zero, List.set_cons_succ]
                    refine flowL_det (fun wz hz hd => stepF_reads (by rfl) ?_) ?_
                    · go_simp; try rfl
                    simp only [Act.put, List.setIfInBounds_toArray, List.set_cons_zero, List.set_cons_succ]
                    refine flowL_det (fun wz hz hd => stepF_reads (by rfl) ?_) ?_
                    · go_simp; try rfl
                    simp only [Act.put, List.setIfInBounds_toArray, List.set_cons_zero, List.set_cons_succ]
                    refine flowL_det (fun wz hz hd => stepF_reads (by rfl) ?_) ?_
                    · go_simp; try rfl
                    simp only [Act.put, List.setIfInBounds_toArray, List.set_cons_zero, List.set_cons_succ]
                    intro w4 ps hb4 hF hap
                    clear hF hap FS FG tS tG tG0 hld
                    go_wp2_with fail
                    go_ret
                    exact ⟨rfl, hbwF.trans (hb4.mono hbwF.size)⟩
                · have hld : ((C.length : Int) == (n : Int)) = false := by rw [beq_eq_false_iff_ne]; omega
                  clear hcl hnac hof FG0 hln
                  as_aux_lemma =>
                    go_upto_region 42 with fail
                    clear p0 p1
                    refine wp_region_flow 23 [.det (.agg #[.int .i64 ((C.length : Int)), .slice As ns cs]), ordS 0, .det (.int .i64 0), .det (.bool true), .det (.bool true), .det (.agg #[.int .i64 ((n : Int)), .slice A es.length d]), ordS 50, .det (.int .i64 50), .det (.bool false), .det (.slice Al C.length cl), .det (.int .i64 C.length), .det (.pointer (some ⟨gb, 0, none⟩)), .det (.int .i64 ((n : Int))), .det (.bool false), .det (.bool false), .det (undef), .det (undef), .det (.bool false), .det (.bool true), .det (.bool true), .det (.bool true), .det (.bool true), .det (.bool true)] (by kernel_rfl) (by kernel_rfl) rfl ?_
                    simp only [List.take_succ_cons, List.take_zero, List.drop_succ_cons, List.drop_zero]
                    refine flowL_det (fun wz hz hd => stepF_reads (by rfl) ?_) ?_
                    · obtain ⟨q0, q1⟩ := tS wz hz; go_simp; try rfl
                    simp only [Act.put, List.setIfInBounds_toArray, List.set_cons_zero, List.set_cons_succ]
                    refine flowL_make (⟨_, none, 0, 0, rfl⟩) (fun wz hz hd => stepF_walk (by rfl) (fun K hK => ?_)) (fun v hv => ?_)
                    · go_wp2_with fail
                      go_at_call 15
                      refine (FS wz hz).mono ?_
                      rintro e w9 ⟨A9, m9, c9, rfl, hb⟩
                      exact hK.out _ _ ⟨A9, m9, c9, rfl⟩ trivial hb
                    obtain ⟨Ao, mo, co, rfl⟩ := hv
                    simp only [Act.put, List.setIfInBounds_toArray, List.set_cons_zero, List.set_cons_succ]
                    refine flowL_det (fun wz hz hd => stepF_reads (by rfl) ?_) ?_
                    · go_simp; try rfl
                    simp only [Act.put, List.setIfInBounds_toArray, List.set_cons_zero, List.set_cons_succ]
                    refine flowL_det (fun wz hz hd => stepF_reads (by rfl) ?_) ?_
                    · go_simp; try rfl
                    simp only [Act.put, List.setIfInBounds_toArray, List.set_cons_zero, List.set_cons_succ]
                    refine flowL_det (fun wz hz hd => stepF_reads (by rfl) ?_) ?_
                    · go_simp; try rfl
                    simp only [Act.put, List.setIfInBounds_toArray, List.set_cons_zero, List.set_cons_succ]
                    refine flowL_det (fun wz hz hd => stepF_reads (by rfl) ?_) ?_
                    · obtain ⟨q0, q1⟩ := tG wz hz; go_simp; try rfl
                    simp only [Act.put, List.setIfInBounds_toArray, List.set_cons_zero, List.set_cons_succ]
                    refine flowL_make (⟨_, none, 0, 0, rfl⟩) (fun wz hz hd => stepF_walk (by rfl) (fun K hK => ?_)) (fun v hv => ?_)
                    · go_wp2_with fail
                      go_at_call 15
                      refine (FG wz hz).mono ?_
                      rintro e w9 ⟨A9, m9, c9, rfl, hb⟩
                      exact hK.out _ _ ⟨A9, m9, c9, rfl⟩ trivial hb
                    obtain ⟨Ag, mg, cg, rfl⟩ := hv
                    simp only [Act.put, List.setIfInBounds_toArray, List.set_cons_zero, List.set_cons_succ]
                    refine flowL_det (fun wz hz hd => stepF_reads (by rfl) ?_) ?_
                    · go_simp; try rfl
                    simp only [Act.put, List.setIfInBounds_toArray, List.set_cons_zero, List.set_cons_succ]
                    refine flowL_det (fun wz hz hd => stepF_reads (by rfl) ?_) ?_
                    · go_simp; try rfl
                    simp only [Act.put, List.setIfInBounds_toArray, List.set_cons_zero, List.set_cons_succ]
                    refine flowL_det (fun wz hz hd => stepF_reads (by rfl) ?_) ?_
                    · go_simp; try rfl
                    simp only [Act.put, List.setIfInBounds_toArray, List.set_cons_zero, List.set_cons_succ]
                    refine flowL_det (fun wz hz hd => stepF_reads (by rfl) ?_) ?_
                    · go_simp; try rfl
                    simp only [Act.put, List.setIfInBounds_toArray, List.set_cons_zero, List.set_cons_succ]
                    refine flowL_det (fun wz hz hd => stepF_reads (by rfl) ?_) ?_
                    · go_simp; try rfl
                    simp only [Act.put, List.setIfInBounds_toArray, List.set_cons_zero, List.set_cons_succ]
                    refine flowL_det (fun wz hz hd => stepF_reads (by rfl) ?_) ?_
                    · have q := tG0 wz hz; go_simp; try rfl
                    simp only [Act.put, List.setIfInBounds_toArray, List.set_cons_zero, List.set_cons_succ]
                    refine flowL_det (fun wz hz hd => stepF_reads (by rfl) ?_) ?_
                    · go_simp; try rfl
                    simp only [Act.put, List.setIfInBounds_toArray, List.set_cons_zero, List.set_cons_succ]
                    refine flowL_det (fun wz hz hd => stepF_reads (by rfl) ?_) ?_
                    · go_simp; try rfl
                    simp only [Act.put, List.setIfInBounds_toArray, List.set_cons_zero, List.set_cons_succ]
                    refine flowL_det (fun wz hz hd => stepF_idle (by rfl)) ?_
                    simp only [Act.put, List.setIfInBounds_toArray, List.set_cons_zero, List.set_cons_succ]
                    refine flowL_det (fun wz hz hd => stepF_idle (by rfl)) ?_
                    simp only [Act.put, List.setIfInBounds_toArray, List.set_cons_zero, List.set_cons_succ]
                    refine flowL_det (fun wz hz hd => stepF_reads (by rfl) ?_) ?_
                    · go_simp; try rfl
                    simp only [Act.put, List.setIfInBounds_toArray, List.set_cons_zero, List.set_cons_succ]
                    refine flowL_det (fun wz hz hd => stepF_reads (by rfl) ?_) ?_
                    · go_simp; try rfl
                    simp only [Act.put, List.setIfInBounds_toArray, List.set_cons_zero, List.set_cons_succ]
                    refine flowL_det (fun wz hz hd => stepF_reads (by rfl) ?_) ?_
                    · go_simp; try rfl
                    simp only [Act.put, List.setIfInBounds_toArray, List.set_cons_zero, List.set_cons_succ]
                    refine flowL_det (fun wz hz hd => stepF_reads (by rfl) ?_) ?_
                    · go_simp; try rfl
                    simp only [Act.put, List.setIfInBounds_toArray, List.set_cons_zero, List.set_cons_succ]
                    refine flowL_det (fun wz hz hd => stepF_reads (by rfl) ?_) ?_
                    · go_simp; try rfl
                    simp only [Act.put, List.setIfInBounds_toArray, List.set_cons_zero, List.set_cons_succ]
                    refine flowL_det (fun wz hz hd => stepF_reads (by rfl) ?_) ?_
                    · go_simp; try rfl
                    simp only [Act.put, List.setIfInBounds_toArray, List.set_cons_zero, List.set_cons_succ]
                    intro w4 ps hb4 hF hap
                    clear hF hap FS FG tS tG tG0 hld
                    go_wp2_with fail
                    go_ret
                    exact ⟨rfl, hbwF.trans (hb4.mono hbwF.size)⟩
end Gp
end Go.Proofs.Ytmagfkpnlkhofaa
