/- A law for statements that leave the order of their operations open and whose operations make memory whose place hangs on the order: each operation has a contract of its own (what its value looks like, what it leaves in the world, kept by all that lies unturned later on); it is walked once, in the order of the text, whatever the order is. At the end every contract holds, and what two operations made lies apart. -/
import Derived.Test.YtggeepimihhpjaaGreatDoorW1
import Derived.Deep.RegionHeld
namespace Go.Proofs.YtggeepimihhpjaaGreatDoor
open Go.RowKit
namespace Fr
set_option linter.unusedVariables false

structure FSpec where
  G : Value → Prop
  R : World → Value → World → Prop
instance : Inhabited FSpec := ⟨⟨fun _ => True, fun _ _ _ => True⟩⟩
def FSpec.det (v : Value) : FSpec := ⟨fun u => u = v, fun _ _ _ => True⟩
structure Did (s : FSpec) (p : World × World) (v : Value) (w : World) : Prop where
  good : s.G v
  post : s.R p.1 v p.2
  step : Below p.1.heap.size p.1 p.2
  since : Below p.2.heap.size p.2 w
theorem Did.keep {s : FSpec} {p : World × World} {v : Value} {w w' : World} (h : Did s p v w) (hb : Below w.heap.size w w') : Did s p v w' := ⟨h.good, h.post, h.step, h.since.trans (hb.mono h.since.size)⟩

def stepF (P : Program) (ops : Array Oper) (o : Oper) (a : Act) (w : World) (s : FSpec) : Prop :=
  if Region.wanted o (yielded ops a.tmps) = true then o.wp P a w (fun a' w' => ∃ v, a' = a.put o.dst v ∧ s.G v ∧ s.R w v w' ∧ Below w.heap.size w w') (fun _ _ _ => False) else s.G undef ∧ s.R w undef w

def updF (F : Nat → World × World → World → Prop) (i : Nat) (f : World × World → World → Prop) : Nat → World × World → World → Prop := fun j => if j = i then f else F j
def depsF (ops : Array Oper) (n i : Nat) : List Nat := (List.range n).filter fun j => match ops[i]?, (ops[j]?).bind (·.dst) with | some o, some t => (o.looksAt ops).contains t | _, _ => false

def flowL (P : Program) (ops : Array Oper) (n : Nat) (w0 : World) (K : Act → World → Prop) : List Oper → List FSpec → Nat → (Nat → World × World → World → Prop) → Act → Prop
  | o :: l, s :: ss, i, F, a => (∀ w, Below w0.heap.size w0 w → (∀ j ∈ depsF ops n i, ∃ p, F j p w) → stepF P ops o a w s) ∧ (∃ v, s.G v) ∧ ∀ v, s.G v → flowL P ops n w0 K l ss (i + 1) (updF F i fun p w => Did s p v w) (a.put o.dst v)
  | [], [], _, F, a => ∀ w (ps : Nat → World × World), Below w0.heap.size w0 w → (∀ j, j < n → F j (ps j) w ∧ Below w0.heap.size w0 (ps j).1) → (∀ i j, i < n → j < n → i ≠ j → (ps i).2.heap.size ≤ (ps j).1.heap.size ∨ (ps j).2.heap.size ≤ (ps i).1.heap.size) → K a w
  | _, _, _, _, _ => False

def depB (md : Region.Mode) (ops : Array Oper) (n : Nat) : Bool :=
  (List.range n).all fun i => match ops[i]? with
    | some o => (List.range n).all fun j => match (ops[j]?).bind (·.dst) with
      | some t => !(o.looksAt ops).contains t || (decide (j < i) && o.after.any fun e => Region.binds md e && e.on == j)
      | none => true
    | none => true
theorem depB_spec {md : Region.Mode} {ops : Array Oper} {n : Nat} (h : depB md ops n = true) {i j : Nat} (hi : i < n) (hj : j < n) {o oj : Oper} (ho : ops[i]? = some o) (hoj : ops[j]? = some oj) {t : Tmp} (ht : oj.dst = some t) (hl : t ∈ o.looksAt ops) : j < i ∧ ∃ e ∈ o.after, Region.binds md e = true ∧ e.on = j := by
  have h1 := List.all_eq_true.1 h i (List.mem_range.2 hi)
  simp only [ho] at h1
  have h2 := List.all_eq_true.1 h1 j (List.mem_range.2 hj)
  simp only [hoj, Option.bind_some, ht, Bool.or_eq_true, Bool.not_eq_true', Bool.and_eq_true, decide_eq_true_eq] at h2
  rcases h2 with h2 | h2
  · have : (o.looksAt ops).contains t = true := List.contains_iff_mem.2 hl
    rw [h2] at this
    cases this
  · refine ⟨h2.1, ?_⟩
    obtain ⟨e, he, hb⟩ := Array.any_eq_true'.1 h2.2
    simp only [Bool.and_eq_true, beq_iff_eq] at hb
    exact ⟨e, he, hb.1, hb.2⟩

def fill (ops : Array Oper) (vs : Nat → Value) (a : Act) : Nat → Act
  | 0 => a
  | i + 1 => (fill ops vs a i).put ((ops[i]?).bind (·.dst)) (vs i)

structure AgrF (ops : Array Oper) (n : Nat) (p : Nat → Prop) (vs : Nat → Value) (a0 a : Act) : Prop where
  defers : a.defers = a0.defers
  size : a.tmps.size = a0.tmps.size
  on : ∀ j t, j < n → p j → (ops[j]?).bind (·.dst) = some t → t < a0.tmps.size → a.tmps[t]? = some (vs j)
  off : ∀ t, (∀ j, j < n → p j → (ops[j]?).bind (·.dst) ≠ some t) → a.tmps[t]? = a0.tmps[t]?

theorem AgrF.refl {ops : Array Oper} {n : Nat} {vs : Nat → Value} {a0 : Act} {p : Nat → Prop} (h : ∀ j, j < n → ¬ p j) : AgrF ops n p vs a0 a0 := ⟨rfl, rfl, fun j t hj hp => absurd hp (h j hj), fun _ _ => rfl⟩
theorem AgrF.put {ops : Array Oper} {n : Nat} {vs vs' : Nat → Value} {a0 a : Act} {p p' : Nat → Prop} (h : AgrF ops n p vs a0 a) {i : Nat} (hi : i < n) (hpi : ¬ p i) (hp : ∀ j, j < n → (p' j ↔ p j ∨ j = i)) (hv : ∀ j, j < n → p j → vs' j = vs j)
    (hd : ∀ j k, j < n → k < n → j ≠ k → ∀ t, (ops[j]?).bind (·.dst) = some t → (ops[k]?).bind (·.dst) ≠ some t) : AgrF ops n p' vs' a0 (a.put ((ops[i]?).bind (·.dst)) (vs' i)) := by
  cases hdi : (ops[i]?).bind (·.dst) with
  | none =>
    refine ⟨h.defers, h.size, fun j t hj hpj ht hlt => ?_, fun t ht => ?_⟩
    · rcases (hp j hj).1 hpj with h1 | rfl
      · rw [hv j hj h1]; exact h.on j t hj h1 ht hlt
      · rw [hdi] at ht; cases ht
    · exact h.off t fun j hj h1 => ht j hj ((hp j hj).2 (.inl h1))
  | some d =>
    refine ⟨h.defers, by simpa [Act.put] using h.size, fun j t hj hpj ht hlt => ?_, fun t ht => ?_⟩
    · simp only [Act.put, Array.getElem?_setIfInBounds, h.size]
      by_cases hji : j = i
      · subst hji
        rw [hdi] at ht; cases ht
        simp [hlt]
      · have hne : d ≠ t := fun e => hd j i hj hi hji t ht (by rw [hdi, e])
        rcases (hp j hj).1 hpj with h1 | h1
        · simp only [hne, if_false]; rw [hv j hj h1]; exact h.on j t hj h1 ht hlt
        · exact absurd h1 hji
    · have hne : d ≠ t := fun e => ht i hi ((hp i hi).2 (.inr rfl)) (by rw [hdi, e])
      simp only [Act.put, Array.getElem?_setIfInBounds_ne hne]
      exact h.off t fun j hj h1 => ht j hj ((hp j hj).2 (.inl h1))
theorem fill_agr {ops : Array Oper} {n : Nat} {vs : Nat → Value} {a0 : Act} (hd : ∀ j k, j < n → k < n → j ≠ k → ∀ t, (ops[j]?).bind (·.dst) = some t → (ops[k]?).bind (·.dst) ≠ some t) : ∀ i, i ≤ n → AgrF ops n (· < i) vs a0 (fill ops vs a0 i)
  | 0, _ => AgrF.refl (fun j _ h => by omega)
  | i + 1, hi => (fill_agr hd i (by omega)).put (by omega) (by omega) (fun j _ => by omega) (fun _ _ _ => rfl) hd
theorem AgrF.uniq {ops : Array Oper} {n : Nat} {vs : Nat → Value} {a0 a a' : Act} {p : Nat → Prop} (h : AgrF ops n p vs a0 a) (h' : AgrF ops n p vs a0 a') : a = a' := by
  have ht : a.tmps = a'.tmps := Array.ext_getElem? fun t => by
    by_cases hc : ∃ j, j < n ∧ p j ∧ (ops[j]?).bind (·.dst) = some t
    · obtain ⟨j, hj, hp, hd⟩ := hc
      by_cases hlt : t < a0.tmps.size
      · rw [h.on j t hj hp hd hlt, h'.on j t hj hp hd hlt]
      · rw [Array.getElem?_eq_none (by rw [h.size]; omega), Array.getElem?_eq_none (by rw [h'.size]; omega)]
    · have hc' : ∀ j, j < n → p j → (ops[j]?).bind (·.dst) ≠ some t := fun j hj hp hd => hc ⟨j, hj, hp, hd⟩
      rw [h.off t hc', h'.off t hc']
  have hde := h.defers.trans h'.defers.symm
  cases a; cases a'; simp only at ht hde; rw [ht, hde]

theorem sees {ops : Array Oper} {o : Oper} {a b : Act} (hs : ∀ cs x, o.op ≠ .select cs x) (h : ∀ t ∈ o.looksAt ops, a.tmps[t]? = b.tmps[t]?) :
    execOp a.eval o = execOp b.eval o ∧ Region.wanted o (yielded ops a.tmps) = Region.wanted o (yielded ops b.tmps) := by
  refine ⟨execOp_congr o hs fun x hx => ?_, ?_⟩
  · cases x with
    | tmp t =>
      have := h t (List.mem_append_left _ (List.mem_filterMap.2 ⟨.tmp t, by simpa using hx, rfl⟩))
      simp only [Act.eval, Array.getD_eq_getD_getElem?, this]
    | _ => rfl
  · have hy : ∀ g b', o.guard = some (g, b') → yielded ops a.tmps g = yielded ops b.tmps g := fun g b' hg => by
      unfold yielded
      cases hd : (ops[g]?).bind (·.dst) with
      | none => rfl
      | some d =>
        have := h d (List.mem_append_right _ (by simp [hg, hd]))
        simp only [Option.bind_some, this]
    unfold Region.wanted
    split
    · rfl
    · rename_i g b' hg
      rw [hy g b' hg]

theorem countP_lt {p p' : Nat → Bool} {i : Nat} (h : ∀ j, p' j = true → p j = true) (hi : p i = true) (hi' : p' i = false) : ∀ l : List Nat, i ∈ l → l.countP p' < l.countP p
  | [], hm => by cases hm
  | x :: l, hm => by
    have hle : l.countP p' ≤ l.countP p := List.countP_mono_left fun j _ hj => h j hj
    rw [List.countP_cons, List.countP_cons]
    rcases List.mem_cons.1 hm with rfl | hm
    · rw [hi, hi']; simp only [if_true, Bool.false_eq_true, if_false]; omega
    · have := countP_lt h hi hi' l hm
      by_cases h1 : p' x = true
      · rw [h1, h x h1]; simp only [if_true]; omega
      · rw [if_neg h1]
        split <;> omega

section
variable {P : Program} {l : List Oper} {md : Region.Mode} {n : Nat} {w0 : World} {a0 : Act} {sp : List FSpec} {K : Act → World → Prop}

def FofF (sp : List FSpec) (vs : Nat → Value) (i : Nat) : Nat → World × World → World → Prop := fun j p w => if j < i then Did (sp.getD j default) p (vs j) w else True
theorem FofF_succ (vs : Nat → Value) (i : Nat) : updF (FofF sp vs i) i (fun p w => Did (sp.getD i default) p (vs i) w) = FofF sp vs (i + 1) := by
  funext j p w
  unfold updF FofF
  by_cases h : j = i
  · subst h; rw [if_pos rfl, if_pos (by omega)]
  · rw [if_neg h]
    by_cases h' : j < i
    · rw [if_pos h', if_pos (by omega)]
    · rw [if_neg h', if_neg (by omega)]

theorem flow_at (hl : n ≤ l.length) (hlen : sp.length = n) (h : flowL P l.toArray n w0 K (l.take n) sp 0 (fun _ _ _ => True) a0) (vs : Nat → Value) :
    ∀ i, i ≤ n → (∀ j, j < i → (sp.getD j default).G (vs j)) → flowL P l.toArray n w0 K ((l.take n).drop i) (sp.drop i) i (FofF sp vs i) (fill l.toArray vs a0 i)
  | 0, _, _ => by
    have : FofF sp vs 0 = fun _ _ _ => True := by funext j p w; unfold FofF; rw [if_neg (by omega)]
    rw [this]
    simpa [fill] using h
  | i + 1, hi, hg => by
    have ih := flow_at hl hlen h vs i (by omega) fun j hj => hg j (by omega)
    have hi1 : i < (l.take n).length := by rw [List.length_take]; omega
    have hi2 : i < sp.length := by omega
    rw [List.drop_eq_getElem_cons hi1, List.drop_eq_getElem_cons hi2] at ih
    have e : sp.getD i default = sp[i] := by simp [hi2]
    have h3 := ih.2.2 (vs i) (e ▸ hg i (by omega))
    rw [← e, FofF_succ] at h3
    have e2 : ((l.toArray[i]?).bind (·.dst)) = (l.take n)[i].dst := by
      have hil : i < l.length := by omega
      simp [hil]
    unfold fill
    rw [e2]
    exact h3
theorem flow_good (hl : n ≤ l.length) (hlen : sp.length = n) (h : flowL P l.toArray n w0 K (l.take n) sp 0 (fun _ _ _ => True) a0) : ∀ i, i ≤ n → ∃ vs : Nat → Value, ∀ j, j < i → (sp.getD j default).G (vs j)
  | 0, _ => ⟨fun _ => undef, fun j hj => by omega⟩
  | i + 1, hi => by
    obtain ⟨vs, hv⟩ := flow_good hl hlen h i (by omega)
    have ih := flow_at hl hlen h vs i (by omega) hv
    have hi1 : i < (l.take n).length := by rw [List.length_take]; omega
    have hi2 : i < sp.length := by omega
    rw [List.drop_eq_getElem_cons hi1, List.drop_eq_getElem_cons hi2] at ih
    obtain ⟨v, hv2⟩ := ih.2.1
    refine ⟨fun j => if j = i then v else vs j, fun j hj => ?_⟩
    by_cases hji : j = i
    · subst hji
      have e : sp.getD j default = sp[j] := by simp [hi2]
      dsimp only
      rw [if_pos rfl, e]; exact hv2
    · dsimp only
      rw [if_neg hji]; exact hv j (by omega)

def flowB (md : Region.Mode) (l : List Oper) (n : Nat) : Bool :=
  decide (n < l.length) && Region.sinkB md l.toArray n && Region.chainB md l.toArray n && headB md l.toArray n && Region.noSelect l.toArray && depB md l.toArray n &&
    ((List.range n).all fun i => (List.range n).all fun j => i == j || match (l[i]?).bind (·.dst), (l[j]?).bind (·.dst) with
      | some t, some u => !(t == u)
      | _, _ => true) &&
    Region.seqB md l.toArray (l.length - n) n (Array.replicate n true ++ Array.replicate (l.length - n) false)

theorem flow_any {g : Nat} {Q' : Exit → Act → World → Prop} {full : Array Bool} (hn : n < l.length) (hs : Region.sinkB md l.toArray n = true) (hc : Region.chainB md l.toArray n = true) (hB : headB md l.toArray n = true) (hsel : Region.noSelect l.toArray = true)
    (hdep : depB md l.toArray n = true) (hd : ∀ j k, j < n → k < n → j ≠ k → ∀ t, (l.toArray[j]?).bind (·.dst) = some t → (l.toArray[k]?).bind (·.dst) ≠ some t)
    (hlen : sp.length = n) (hfz : full.size = l.toArray.size) (hf : ∀ j, j < l.toArray.size → full.getD j true = decide (j < n))
    (hK : ∀ a w, K a w → wpAny P md l.toArray Q' g full a w) (hflow : flowL P l.toArray n w0 K (l.take n) sp 0 (fun _ _ _ => True) a0) :
    ∀ (f : Nat) (la : Array Bool) (a : Act) (vs : Nat → Value) (ps : Nat → World × World) (w : World), HeadInv md l.toArray n la → (List.range n).countP (fun j => !la.getD j true) ≤ f → AgrF l.toArray n (fun j => la.getD j true = true) vs a0 a →
      Below w0.heap.size w0 w → (∀ j, j < n → (sp.getD j default).G (vs j)) → (∀ j, j < n → la.getD j true = true → Did (sp.getD j default) (ps j) (vs j) w ∧ Below w0.heap.size w0 (ps j).1) →
      (∀ i j, i < n → j < n → i ≠ j → la.getD i true = true → la.getD j true = true → (ps i).2.heap.size ≤ (ps j).1.heap.size ∨ (ps j).2.heap.size ≤ (ps i).1.heap.size) → wpAny P md l.toArray Q' (f + g) la a w := by
  have hsz : l.toArray.size = l.length := by simp
  have fin : ∀ (f : Nat) (la : Array Bool) (a : Act) (vs : Nat → Value) (ps : Nat → World × World) (w : World), HeadInv md l.toArray n la → (∀ j, j < n → la.getD j true = true) → AgrF l.toArray n (fun j => la.getD j true = true) vs a0 a →
      Below w0.heap.size w0 w → (∀ j, j < n → (sp.getD j default).G (vs j)) → (∀ j, j < n → la.getD j true = true → Did (sp.getD j default) (ps j) (vs j) w ∧ Below w0.heap.size w0 (ps j).1) →
      (∀ i j, i < n → j < n → i ≠ j → la.getD i true = true → la.getD j true = true → (ps i).2.heap.size ≤ (ps j).1.heap.size ∨ (ps j).2.heap.size ≤ (ps i).1.heap.size) → wpAny P md l.toArray Q' (f + g) la a w := by
    intro f la a vs ps w inv hall hag hb hG hdid hap
    have : la = full := by
      refine Array.ext (inv.size.trans hfz.symm) fun j h1 h2 => ?_
      have hjo : j < l.toArray.size := by rw [← inv.size]; exact h1
      have e1 : la.getD j true = full.getD j true := by
        rw [hf j hjo]
        by_cases hj : j < n
        · rw [hall j hj]; simp [hj]
        · rw [inv.tail j (by omega) hjo]; simp [hj]
      simpa [h1, h2] using e1
    subst this
    refine any_more' g (hK a w ?_) f
    have h1 := flow_at (by omega) hlen hflow vs n (Nat.le_refl _) hG
    rw [List.drop_of_length_le (by simp; omega), List.drop_of_length_le (by omega)] at h1
    have h2 := h1 w ps hb (fun j hj => ⟨by unfold FofF; rw [if_pos hj]; exact (hdid j hj (hall j hj)).1, (hdid j hj (hall j hj)).2⟩) fun i j hi hj hij => hap i j hi hj hij (hall i hi) (hall j hj)
    have h3 : fill l.toArray vs a0 n = a := by
      refine AgrF.uniq (p := fun j => la.getD j true = true) (n := n) (ops := l.toArray) (vs := vs) (a0 := a0) ?_ hag
      have h4 := fill_agr (vs := vs) (a0 := a0) hd n (Nat.le_refl _)
      exact ⟨h4.defers, h4.size, fun j t hj _ => h4.on j t hj hj, fun t ht => h4.off t fun j hj _ => ht j hj (hall j hj)⟩
    rw [h3] at h2
    exact h2
  intro f
  induction f with
  | zero =>
    intro la a vs ps w inv hcnt hag hb hG hdid hap
    refine fin 0 la a vs ps w inv (fun j hj => ?_) hag hb hG hdid hap
    have h0 : (List.range n).countP (fun j => !la.getD j true) = 0 := by omega
    have := List.countP_eq_zero.1 h0 j (List.mem_range.2 hj)
    simpa using this
  | succ f ih =>
    intro la a vs ps w inv hcnt hag hb hG hdid hap
    by_cases hall : ∀ j, j < n → la.getD j true = true
    · exact fin (f + 1) la a vs ps w inv hall hag hb hG hdid hap
    obtain ⟨i0, hi0⟩ := Classical.not_forall.1 hall
    obtain ⟨hi0, hun0⟩ := Classical.not_imp.1 hi0
    have hun0' : la.getD i0 true = false := by simpa using hun0
    have hlow : ∀ t, t ∈ Region.ready md l.toArray la → t < n := fun t ht => by
      rcases Nat.lt_or_ge t n with h' | h'
      · exact h'
      · exact absurd ht (tail_waits hs hc (by omega) inv _ i0 rfl hi0 hun0' t h')
    rw [show f + 1 + g = (f + g) + 1 by omega]
    refine ⟨fun h0 => ?_, fun i hi => ?_⟩
    · obtain ⟨k, _, hk⟩ := head_ready hB (by omega) i0 hi0 hun0' (fun j hj => by
        have : j < la.size := by rw [inv.size]; omega
        simp [this])
      rw [h0] at hk; cases hk
    have hin := hlow i hi
    obtain ⟨hun, o, ho, hall'⟩ := mem_ready.1 hi
    have hdst : (l.toArray[i]?).bind (·.dst) = o.dst := by rw [ho]; rfl
    have hlisted : ∀ j, j < n → ∀ t, (l.toArray[j]?).bind (·.dst) = some t → t ∈ o.looksAt l.toArray → j < i ∧ la.getD j true = true := fun j hj t ht hl => by
      obtain ⟨oj, hoj⟩ : ∃ oj, l.toArray[j]? = some oj := ⟨_, Array.getElem?_eq_getElem (by omega)⟩
      rw [hoj] at ht
      obtain ⟨h1, e, he, hbi, hon⟩ := depB_spec hdep hin hj ho hoj ht hl
      refine ⟨h1, ?_⟩
      have h2 := hall' e he hbi
      rw [hon] at h2
      have : j < la.size := by rw [inv.size]; omega
      simpa [this] using h2
    have hfl := fill_agr (vs := vs) (a0 := a0) hd i (by omega)
    have hsee := sees (a := a) (b := fill l.toArray vs a0 i) (Region.noSelect_spec hsel i o · · ho) (fun t ht => by
      by_cases hc : ∃ j, j < n ∧ (l.toArray[j]?).bind (·.dst) = some t
      · obtain ⟨j, hj, hjd⟩ := hc
        obtain ⟨h1, h2⟩ := hlisted j hj t hjd ht
        by_cases hlt : t < a0.tmps.size
        · rw [hag.on j t hj h2 hjd hlt, hfl.on j t hj h1 hjd hlt]
        · rw [Array.getElem?_eq_none (by rw [hag.size]; exact Nat.le_of_not_lt hlt), Array.getElem?_eq_none (by rw [hfl.size]; exact Nat.le_of_not_lt hlt)]
      · have hc' : ∀ j, j < n → (l.toArray[j]?).bind (·.dst) ≠ some t := fun j hj hd => hc ⟨j, hj, hd⟩
        rw [hag.off t fun j hj _ => hc' j hj, hfl.off t fun j hj _ => hc' j hj])
    have hstep : stepF P l.toArray o (fill l.toArray vs a0 i) w (sp.getD i default) := by
      have h1 := flow_at (by omega) hlen hflow vs i (by omega) fun j hj => hG j (by omega)
      have hi1 : i < (l.take n).length := by rw [List.length_take]; omega
      have hi2 : i < sp.length := by omega
      rw [List.drop_eq_getElem_cons hi1, List.drop_eq_getElem_cons hi2] at h1
      have e : sp.getD i default = sp[i] := by simp [hi2]
      have eo : (l.take n)[i] = o := by
        have : l[i]? = some o := by simpa using ho
        have hil : i < l.length := by omega
        rw [List.getElem?_eq_getElem hil] at this
        simpa using this
      rw [e, ← eo]
      refine h1.1 w hb fun j hj => ?_
      unfold depsF at hj
      rw [List.mem_filter, List.mem_range] at hj
      obtain ⟨hjn, hj2⟩ := hj
      obtain ⟨oj, hoj⟩ : ∃ oj, l.toArray[j]? = some oj := ⟨_, Array.getElem?_eq_getElem (by omega)⟩
      cases ht : oj.dst with
      | none => simp [ho, hoj, ht] at hj2
      | some t =>
        simp only [ho, hoj, Option.bind_some, ht] at hj2
        obtain ⟨h3, h4⟩ := hlisted j hjn t (by rw [hoj]; exact ht) (List.contains_iff_mem.1 hj2)
        refine ⟨ps j, ?_⟩
        unfold FofF
        rw [if_pos h3]
        exact (hdid j hjn h4).1
    have next : ∀ v w', (sp.getD i default).G v → (sp.getD i default).R w v w' → Below w.heap.size w w' → wpAny P md l.toArray Q' (f + g) (la.setIfInBounds i true) (a.put o.dst v) w' := fun v w' hg hr hb' => by
      have hset : ∀ j, j < n → ((la.setIfInBounds i true).getD j true = true ↔ la.getD j true = true ∨ j = i) := fun j hj => by
        by_cases hji : j = i
        · subst hji
          have : j < la.size := by rw [inv.size]; omega
          simp [this]
        · rw [getD_set_ne true (Ne.symm hji)]; simp [hji]
      have hni : ¬ la.getD i true = true := by rw [hun]; simp
      refine ih (la.setIfInBounds i true) (a.put o.dst v) (fun j => if j = i then v else vs j) (fun j => if j = i then (w, w') else ps j) w' (inv.set hi hin) ?_ ?_ (hb.trans (hb'.mono hb.size)) ?_ ?_ ?_
      · have := countP_lt (p := fun j => !la.getD j true) (p' := fun j => !(la.setIfInBounds i true).getD j true) (i := i) (fun j hj => by
          by_cases hji : j = i
          · subst hji; simp [hun]
          · rw [getD_set_ne true (Ne.symm hji)] at hj; exact hj) (by simp [hun]) (by
            have : i < la.size := by rw [inv.size]; omega
            simp [this]) (List.range n) (List.mem_range.2 hin)
        omega
      · have := hag.put (vs' := fun j => if j = i then v else vs j) (p' := fun j => (la.setIfInBounds i true).getD j true = true) hin hni hset (fun j _ hp => if_neg (fun e => hni (by rw [← e]; exact hp))) hd
        rw [hdst, if_pos rfl] at this
        exact this
      · intro j hj
        by_cases hji : j = i
        · subst hji; rw [if_pos rfl]; exact hg
        · rw [if_neg hji]; exact hG j hj
      · intro j hj hl
        by_cases hji : j = i
        · subst hji
          rw [if_pos rfl, if_pos rfl]
          exact ⟨⟨hg, hr, hb', Below.refl _ _⟩, hb⟩
        · skip
          rw [if_neg hji, if_neg hji]
          have hlj := ((hset j hj).1 hl).resolve_right hji
          exact ⟨(hdid j hj hlj).1.keep hb', (hdid j hj hlj).2⟩
      · intro j k hj hk hjk hlj hlk
        by_cases hji : j = i
        · subst hji
          have hki : k ≠ j := Ne.symm hjk
          rw [if_pos rfl, if_neg hki]
          have hlk' := ((hset k hk).1 hlk).resolve_right hki
          exact .inr (hdid k hk hlk').1.since.size
        · rw [if_neg hji]
          have hlj' := ((hset j hj).1 hlj).resolve_right hji
          by_cases hki : k = i
          · subst hki
            rw [if_pos rfl]
            exact .inl (hdid j hj hlj').1.since.size
          · rw [if_neg hki]
            exact hap j k hj hk hjk hlj' (((hset k hk).1 hlk).resolve_right hki)
    unfold stepF at hstep
    unfold wpOp
    simp only [ho]
    rw [← hsee.2] at hstep
    split
    · rename_i hwt
      rw [if_pos hwt] at hstep
      left
      unfold Oper.wp at hstep ⊢
      rw [hsee.1]
      generalize (execOp (fill l.toArray vs a0 i).eval o).run P w = r at hstep
      have hput : ∀ v u : Value, (fill l.toArray vs a0 i).put o.dst v = (fill l.toArray vs a0 i).put o.dst u → a.put o.dst v = a.put o.dst u := fun v u he => by
        cases hdo : o.dst with
        | none => rfl
        | some d =>
          rw [hdo] at he
          have he' := congrArg (fun x : Act => x.tmps[d]?) he
          simp only [Act.put, Array.getElem?_setIfInBounds_self, hfl.size] at he'
          by_cases hlt : d < a0.tmps.size
          · simp only [hlt, if_true, Option.some.injEq] at he'
            rw [he']
          · simp only [Act.put]
            rw [Array.setIfInBounds_eq_of_size_le (by rw [hag.size]; exact Nat.le_of_not_lt hlt), Array.setIfInBounds_eq_of_size_le (by rw [hag.size]; exact Nat.le_of_not_lt hlt)]
      cases r with
      | ok x w' =>
        cases x with
        | value v =>
          obtain ⟨u, he, hg, hr, hb'⟩ := hstep
          show wpAny P md l.toArray Q' (f + g) (la.setIfInBounds i true) (a.put o.dst v) w'
          rw [hput v u he]
          exact next u w' hg hr hb'
        | skip =>
          obtain ⟨u, he, hg, hr, hb'⟩ := hstep
          show wpAny P md l.toArray Q' (f + g) (la.setIfInBounds i true) (a.put o.dst undef) w'
          rw [hput undef u he]
          exact next u w' hg hr hb'
        | defer d =>
          obtain ⟨u, he, hg, hr, hb'⟩ := hstep
          exfalso
          have h1 := congrArg (fun x : Act => x.defers.length) he
          cases hdo : o.dst <;> simp [hdo, Act.put] at h1
        | enter fn args =>
          refine Calls.mono hstep fun e w'' he => ?_
          cases e with
          | returned v =>
            obtain ⟨u, he, hg, hr, hb'⟩ := he
            show wpAny P md l.toArray Q' (f + g) (la.setIfInBounds i true) (a.put o.dst v) w''
            rw [hput v u he]
            exact next u w'' hg hr hb'
          | panicked c => exact he.elim
          | outgrown => obtain ⟨_, _, h⟩ := he; exact h.elim
        | row row args =>
          refine Rows.mono hstep fun v w'' he => ?_
          obtain ⟨u, he, hg, hr, hb'⟩ := he
          show wpAny P md l.toArray Q' (f + g) (la.setIfInBounds i true) (a.put o.dst v) w''
          rw [hput v u he]
          exact next u w'' hg hr hb'
        | _ => exact hstep.elim
      | halt x w' =>
        cases x <;> first | exact hstep.elim | (simp only [Oper.upon] at hstep)
    · rename_i hwt
      rw [if_neg hwt] at hstep
      exact next undef w hstep.1 hstep.2 (Below.refl _ _)

theorem wp_region_flow {P : Program} {id : Nat} {Q : Exit → Act → World → Prop} {a : Act} {w : World} {l : List Oper} (n : Nat) (sp : List FSpec) (hm : P.follows .mixedOrders = true) (hB : flowB .any l n = true) (hlen : sp.length = n)
    (h : flowL P l.toArray n w (fun a' w' => wpList P l.toArray Q (l.drop n) a' w') (l.take n) sp 0 (fun _ _ _ => True) a) : (Code.region id l.toArray true).wp P Q a w := by
  simp only [flowB, Bool.and_eq_true, decide_eq_true_eq] at hB
  obtain ⟨⟨⟨⟨⟨⟨⟨hn, hs⟩, hc⟩, hb⟩, hsel⟩, hdep⟩, hds⟩, hq⟩ := hB
  have hd : ∀ j k, j < n → k < n → j ≠ k → ∀ t, (l.toArray[j]?).bind (·.dst) = some t → (l.toArray[k]?).bind (·.dst) ≠ some t := fun j k hj hk hjk t ht hu => by
    have h1 := List.all_eq_true.1 (List.all_eq_true.1 hds j (List.mem_range.2 hj)) k (List.mem_range.2 hk)
    simp only [List.getElem?_toArray] at ht hu
    simp only [ht, hu, Bool.or_eq_true, beq_iff_eq] at h1
    rcases h1 with h1 | h1
    · exact hjk h1
    · simp at h1
  obtain ⟨vs, hvs⟩ := flow_good (by omega) hlen h n (Nat.le_refl _)
  refine wp_region_any hm ?_
  have inv0 : HeadInv .any l.toArray n (Array.replicate l.toArray.size false) :=
    ⟨by simp, fun j oj _ hl => (by rw [getD_replicate_false] at hl; cases hl), fun t _ ht => getD_in (by simpa using ht) (getD_replicate_false _ _)⟩
  have hun : ∀ i, i < n → (Array.replicate l.toArray.size false).getD i true = false := fun i hi => getD_in (by simp; omega) (getD_replicate_false _ _)
  have := flow_any (P := P) (md := .any) (g := l.length - n) (Q' := Q) (full := Array.replicate n true ++ Array.replicate (l.length - n) false) hn hs hc hb hsel hdep hd hlen (by simp; omega) (fun j hj => by
      have hj' : j < l.length := by simpa using hj
      by_cases h1 : j < n
      · simp [h1, Array.getElem?_append]
      · have h2 : j - n < l.length - n := by omega
        simp [h1, Array.getElem?_append, h2])
    (fun a' w' hK => by
      have := wpAny_of_seq (md := .any) (Q' := Q) (l.drop n) n (Array.replicate n true ++ Array.replicate (l.length - n) false) a' w' (fun j => by simp [List.getElem?_drop]) (by rw [List.length_drop]; exact hq) hK
      rwa [List.length_drop] at this)
    h n (Array.replicate l.toArray.size false) a vs (fun _ => (w, w)) { w with drawn := w.drawn + 1 } inv0 (by
      have := List.countP_le_length (p := fun j => !(Array.replicate l.toArray.size false).getD j true) (l := List.range n)
      rwa [List.length_range] at this) (AgrF.refl fun j hj hp => by rw [hun j hj] at hp; cases hp) ((Below.refl _ w).drew) hvs (fun j hj hl => by rw [hun j hj] at hl; cases hl) (fun i j hi hj _ hl => by rw [hun i hi] at hl; cases hl)
  rw [show n + (l.length - n) = l.toArray.size by simp; omega] at this
  exact this

theorem stepF_reads {P : Program} {ops : Array Oper} {o : Oper} {a : Act} {w : World} {v : Value} (hw : Region.wanted o (yielded ops a.tmps) = true) (hy : (execOp a.eval o).run P w = .ok (.value v) w) : stepF P ops o a w (.det v) := by
  unfold stepF
  rw [if_pos hw]
  unfold Oper.wp
  rw [hy]
  exact ⟨v, rfl, rfl, trivial, Below.refl _ _⟩
theorem stepF_walk {P : Program} {ops : Array Oper} {o : Oper} {a : Act} {w : World} {s : FSpec} (hw : Region.wanted o (yielded ops a.tmps) = true)
    (h : ∀ K : Act → World → Prop, Shut (∀ v w', s.G v → s.R w v w' → Below w.heap.size w w' → K (a.put o.dst v) w') → o.wp P a w K (fun _ _ _ => False)) : stepF P ops o a w s := by
  unfold stepF
  rw [if_pos hw]
  exact h _ (fun v w' hg hr hb => ⟨v, rfl, hg, hr, hb⟩)
theorem flowL_det {P : Program} {ops : Array Oper} {n : Nat} {w0 : World} {K : Act → World → Prop} {o : Oper} {l : List Oper} {u : Value} {ss : List FSpec} {i : Nat} {F : Nat → World × World → World → Prop} {a : Act}
    (h1 : ∀ w, Below w0.heap.size w0 w → (∀ j ∈ depsF ops n i, ∃ p, F j p w) → stepF P ops o a w (.det u)) (h2 : flowL P ops n w0 K l ss (i + 1) (updF F i fun p w => Did (.det u) p u w) (a.put o.dst u)) : flowL P ops n w0 K (o :: l) (.det u :: ss) i F a :=
  ⟨h1, ⟨u, rfl⟩, fun v hv => by
    have : v = u := hv
    subst this
    exact h2⟩
theorem flowL_make {P : Program} {ops : Array Oper} {n : Nat} {w0 : World} {K : Act → World → Prop} {o : Oper} {l : List Oper} {s : FSpec} {ss : List FSpec} {i : Nat} {F : Nat → World × World → World → Prop} {a : Act}
    (hex : ∃ v, s.G v) (h1 : ∀ w, Below w0.heap.size w0 w → (∀ j ∈ depsF ops n i, ∃ p, F j p w) → stepF P ops o a w s) (h2 : ∀ v, s.G v → flowL P ops n w0 K l ss (i + 1) (updF F i fun p w => Did s p v w) (a.put o.dst v)) : flowL P ops n w0 K (o :: l) (s :: ss) i F a :=
  ⟨h1, hex, h2⟩
end
end Fr
end Go.Proofs.YtggeepimihhpjaaGreatDoor
