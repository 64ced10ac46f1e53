/- A law for statements that leave the order of their operations open, and some of whose operations make new blocks: each other operation of the head only reads and calls (whatever it makes, all that lay lies unturned); the operations behind the head come in one order. One walk in the order of the text serves every order; the new blocks may lie anywhere, apart from each other. -/
import Derived.Test.YtggeepimihhpjaaGreatDoorL0
namespace Go.Proofs.YtggeepimihhpjaaGreatDoor
open Go.RowKit
namespace Fr
set_option linter.unusedVariables false

structure BoxL (w : World) (b : Nat) (zs : Array Value) : Prop where
  lt : b < w.heap.size
  cells : ∀ i v, zs[i]? = some v → w.cell? ⟨b, i, none⟩ = some v ∧ w.frozen? ⟨b, i, none⟩ = false
theorem BoxL.keep {w w' : World} {b : Nat} {zs : Array Value} (h : BoxL w b zs) (hb : Below w.heap.size w w') : BoxL w' b zs :=
  ⟨Nat.lt_of_lt_of_le h.lt hb.size, fun i v hv => ⟨(hb.cell (p := ⟨b, i, none⟩) h.lt).trans (h.cells i v hv).1, (hb.frozen (p := ⟨b, i, none⟩) h.lt).trans (h.cells i v hv).2⟩⟩
theorem BoxL.new (w : World) (zs : Array Value) (T : TypeId) : BoxL (w.alloc (.cells zs T)) w.heap.size zs :=
  ⟨by simp, fun i v hv => ⟨(World.cell?_alloc_at zs T _ i rfl).trans hv, by simp⟩⟩

def Zr (P : Program) (T : TypeId) (zs : Array Value) : Prop := ∀ w, (Instr.alloc T true (.tuple #[])).run P w = .ok (.pointer (some ⟨w.heap.size, 0, none⟩)) (w.alloc (.cells zs T))

def CL (w : World) : World → Prop := fun w' => ∃ p : Later w, w' = p.val
theorem CL.below {w w' : World} (h : CL w w') : Below w.heap.size w w' := by obtain ⟨p, rfl⟩ := h; exact p.below
theorem CL.of {w w' : World} (h : Below w.heap.size w w') : CL w w' := ⟨⟨w', h⟩, rfl⟩
theorem CL.self (w : World) : CL w w := CL.of (Below.refl _ _)

section
variable {P : Program} {ops hd : Array Oper} {md : Region.Mode}

theorem put_put (a : Act) (d : Option Tmp) (u v : Value) : (a.put d u).put d v = a.put d v := by
  cases d with
  | none => rfl
  | some d => simp [Act.put]

theorem anyQ_keeps {C : World → Prop} {agf : Act} : ∀ (f : Nat) (la : Array Bool) (a : Act) (t : Tmp), (∀ j o, hd[j]? = some o → la.getD j true = false → o.dst ≠ some t) →
    wpAnyQ P md hd C (fun a' => a' = agf) f la a → agf.tmps[t]? = a.tmps[t]? ∧ agf.tmps.size = a.tmps.size
  | 0, la, a, t, _, h => by rw [h.2]; exact ⟨rfl, rfl⟩
  | f + 1, la, a, t, hno, h => by
    cases hr : Region.ready md hd la with
    | nil => rw [h.1 hr]; exact ⟨rfl, rfl⟩
    | cons i rs =>
      have hi : i ∈ Region.ready md hd la := by rw [hr]; exact List.mem_cons_self
      have h2 := h.2 i hi
      obtain ⟨hun, o, ho, _⟩ := mem_ready.1 hi
      have hdst := hno i o ho hun
      have hput : ∀ v, (a.put o.dst v).tmps[t]? = a.tmps[t]? ∧ (a.put o.dst v).tmps.size = a.tmps.size := fun v => by
        cases hd' : o.dst with
        | none => exact ⟨rfl, rfl⟩
        | some d =>
          have hne : d ≠ t := fun e => hdst (by rw [hd', e])
          exact ⟨by simp [Act.put, Array.getElem?_setIfInBounds_ne hne], by simp [Act.put]⟩
      have hno' : ∀ j o, hd[j]? = some o → (la.setIfInBounds i true).getD j true = false → o.dst ≠ some t := fun j oj hj hl => by
        refine hno j oj hj ?_
        by_cases hij : i = j
        · subst hij; exact hun
        · rwa [getD_set_ne true hij] at hl
      unfold qOp at h2
      simp only [ho] at h2
      split at h2
      · obtain ⟨v, _, hn⟩ := h2
        have := anyQ_keeps f _ _ t hno' hn
        exact ⟨this.1.trans (hput v).1, this.2.trans (hput v).2⟩
      · have := anyQ_keeps f _ _ t hno' h2
        exact ⟨this.1.trans (hput undef).1, this.2.trans (hput undef).2⟩

theorem put_same {a agf : Act} {d : Option Tmp} {u v : Value} (h1 : ∀ t, d = some t → agf.tmps[t]? = (a.put d u).tmps[t]? ∧ agf.tmps.size = (a.put d u).tmps.size) (h2 : ∀ t, d = some t → agf.tmps[t]? = (a.put d v).tmps[t]?) : a.put d u = a.put d v := by
  cases d with
  | none => rfl
  | some t =>
    have e1 := (h1 t rfl).1
    have e2 := h2 t rfl
    rcases Nat.lt_or_ge t a.tmps.size with h | h
    · simp [Act.put, h] at e1 e2
      rw [e1] at e2
      cases e2
      rfl
    · simp [Act.put, Array.setIfInBounds_eq_of_size_le h]

def over (P : Program) (ops : Array Oper) (bf : Nat → Option Nat) : List Nat → Act → Act
  | [], a => a
  | i :: l, a => over P ops bf l (match bf i with | some b => a.put ((ops[i]?).bind (·.dst)) (.pointer (some ⟨b, 0, none⟩)) | none => a)

theorem over_none : ∀ (l : List Nat) (a : Act), over P ops (fun _ => none) l a = a
  | [], _ => rfl
  | i :: l, a => over_none l a

theorem over_put {bf : Nat → Option Nat} {d : Option Tmp} {v : Value} : ∀ (l : List Nat) (a : Act), (∀ i ∈ l, ∀ t, d = some t → (ops[i]?).bind (·.dst) ≠ some t) → (over P ops bf l a).put d v = over P ops bf l (a.put d v)
  | [], a, _ => rfl
  | i :: l, a, h => by
    unfold over
    rw [over_put l _ fun j hj => h j (List.mem_cons_of_mem _ hj)]
    congr 1
    cases bf i with
    | none => rfl
    | some b => exact (Act.put_comm a v _ (h i List.mem_cons_self)).symm

theorem over_exec {bf : Nat → Option Nat} {o : Oper} (hs : ∀ cs b, o.op ≠ .select cs b) : ∀ (l : List Nat) (a : Act), (∀ i ∈ l, ∀ t, (ops[i]?).bind (·.dst) = some t → t ∉ o.looksAt ops) →
    execOp (over P ops bf l a).eval o = execOp a.eval o ∧ Region.wanted o (yielded ops (over P ops bf l a).tmps) = Region.wanted o (yielded ops a.tmps)
  | [], a, _ => ⟨rfl, rfl⟩
  | i :: l, a, h => by
    unfold over
    have ih := over_exec (bf := bf) hs l (match bf i with | some b => a.put ((ops[i]?).bind (·.dst)) (.pointer (some ⟨b, 0, none⟩)) | none => a) fun j hj => h j (List.mem_cons_of_mem _ hj)
    rw [ih.1, ih.2]
    cases bf i with
    | none => exact ⟨rfl, rfl⟩
    | some b => exact ⟨execOp_put (ops := ops) o hs a _ _ (h i List.mem_cons_self), wanted_put o a _ _ (h i List.mem_cons_self)⟩

def upd (bf : Nat → Option Nat) (i b : Nat) : Nat → Option Nat := fun j => if j = i then some b else bf j
theorem over_upd_not {bf : Nat → Option Nat} {i b : Nat} : ∀ (l : List Nat) (a : Act), i ∉ l → over P ops (upd bf i b) l a = over P ops bf l a
  | [], _, _ => rfl
  | j :: l, a, h => by
    have hji : j ≠ i := fun e => h (by rw [e]; exact List.mem_cons_self)
    unfold over
    rw [over_upd_not l _ fun hh => h (List.mem_cons_of_mem _ hh)]
    simp [upd, hji]

theorem over_set {bf : Nat → Option Nat} {i b : Nat} (hi : bf i = none) : ∀ (l : List Nat) (a : Act), i ∈ l → l.Nodup → (∀ j ∈ l, j ≠ i → ∀ t, (ops[i]?).bind (·.dst) = some t → (ops[j]?).bind (·.dst) ≠ some t) →
    (over P ops bf l a).put ((ops[i]?).bind (·.dst)) (.pointer (some ⟨b, 0, none⟩)) = over P ops (upd bf i b) l (a.put ((ops[i]?).bind (·.dst)) undef)
  | [], a, h, _, _ => by cases h
  | j :: l, a, h, hn, hd => by
    have hn' := List.nodup_cons.1 hn
    by_cases hji : j = i
    · subst hji
      unfold over
      rw [over_upd_not l _ hn'.1]
      simp only [hi, upd, if_true]
      rw [over_put l _ fun k hk t ht => hd k (List.mem_cons_of_mem _ hk) (fun e => hn'.1 (e ▸ hk)) t ht, put_put]
    · unfold over
      rw [over_set hi l _ (by rcases List.mem_cons.1 h with h | h; exact absurd h.symm hji; exact h) hn'.2 fun k hk => hd k (List.mem_cons_of_mem _ hk)]
      congr 1
      simp only [upd, if_neg hji]
      cases bf j with
      | none => rfl
      | some c => exact Act.put_comm _ _ _ fun t ht e => hd j List.mem_cons_self hji t e ht
end

theorem run_value_of {P : Program} {m : Sem Value} {w w' : World} {v : Value} (h : m.run P w = .ok v w') : (do pure (Next.value (← m)) : Sem Next).run P w = .ok (.value v) w' := by
  simp only [Sem.run_bind, h, Result.andThen_ok, Sem.run_pure]

def ghostO (o : Oper) : Oper := { o with op := .move (.const undef) }
def ghostL (al : List Nat) : Nat → List Oper → List Oper
  | _, [] => []
  | k, o :: l => (if al.contains k then ghostO o else o) :: ghostL al (k + 1) l
theorem ghostL_get {al : List Nat} : ∀ (l : List Oper) (k j : Nat), (ghostL al k l)[j]? = (l[j]?).map fun o => if al.contains (k + j) then ghostO o else o
  | [], k, j => by simp [ghostL]
  | o :: l, k, 0 => by simp [ghostL]
  | o :: l, k, j + 1 => by
    have := ghostL_get (al := al) l (k + 1) j
    rw [show k + 1 + j = k + (j + 1) by omega] at this
    simpa [ghostL] using this
theorem ghostL_length {al : List Nat} : ∀ (l : List Oper) (k : Nat), (ghostL al k l).length = l.length
  | [], _ => rfl
  | o :: l, k => by simp [ghostL, ghostL_length l]

section
variable {P : Program} {ops hd : Array Oper} {md : Region.Mode}

structure FreeH (P : Program) (md : Region.Mode) (ops hd : Array Oper) (n : Nat) (al late : List Nat) (zs : Nat → Array Value) : Prop where
  hsz : hd.size = n
  hn : n < ops.size
  sink : ∀ i, i < n → i ∉ late → ∃ j, i < j ∧ j ≤ n ∧ j ∉ late ∧ Region.waitsFor md ops j i = true
  lates : ∀ i ∈ late, i < n ∧ i ∉ al ∧ ∃ o, ops[i]? = some o ∧ ((∃ x k, o.op = .extract x k) ∨ ∃ x, o.op = .move x) ∧ o.guard = none
  lfree : ∀ i ∈ late, ∀ oi j oj, ops[i]? = some oi → ops[j]? = some oj → j ≠ i → (∀ e ∈ oi.after, Region.binds md e = true → e.on ≠ j) → (∀ e ∈ oj.after, Region.binds md e = true → e.on ≠ i) → oi.apart ops oj = true
  chain : Region.chainB md ops n = true
  head : headB md ops n = true
  sel : Region.noSelect ops = true
  get : ∀ j, j < n → hd[j]? = (ops[j]?).map fun o => if al.contains j then ghostO o else o
  nodup : al.Nodup
  alloc : ∀ i ∈ al, i < n ∧ ∃ o T, ops[i]? = some o ∧ o.op = .alloc T ∧ o.guard = none ∧ Zr P T (zs i)
  apart : ∀ j o, j < n → ops[j]? = some o → j ∉ al → ∀ i ∈ al, ∀ t, (ops[i]?).bind (·.dst) = some t → t ∉ o.looksAt ops
  dsts : ∀ i j oi oj, i < n → j < n → ops[i]? = some oi → ops[j]? = some oj → i ≠ j → ∀ t, oi.dst = some t → oj.dst ≠ some t

theorem FreeH.hget {n : Nat} {al late : List Nat} {zs : Nat → Array Value} (F : FreeH P md ops hd n al late zs) {j : Nat} (hj : j < n) {o : Oper} (ho : ops[j]? = some o) :
    ∃ o', hd[j]? = some o' ∧ o'.dst = o.dst ∧ o'.after = o.after ∧ o'.guard = o.guard ∧ (j ∉ al → o' = o) ∧ (j ∈ al → o' = ghostO o) := by
  have h := F.get j hj
  rw [ho] at h
  refine ⟨_, h, ?_⟩
  simp only
  by_cases hc : j ∈ al
  · simp [hc, ghostO]
  · simp [hc]

theorem FreeH.yields {n : Nat} {al late : List Nat} {zs : Nat → Array Value} (F : FreeH P md ops hd n al late zs) {i : Nat} (hi : i < n) {o : Oper} (ho : ops[i]? = some o) (t : Array Value) :
    Region.wanted o (yielded hd t) = Region.wanted o (yielded ops t) := by
  have hs := headB_spec F.head hi ho
  have hy : ∀ g b, o.guard = some (g, b) → yielded hd t g = yielded ops t g := fun g b hg => by
    have hg' := hs.1 g b hg
    obtain ⟨og, hog⟩ : ∃ og, ops[g]? = some og := ⟨_, Array.getElem?_eq_getElem (by have := F.hn; omega)⟩
    obtain ⟨o', h1, h2, _⟩ := F.hget (by omega) hog
    unfold yielded
    rw [h1, hog]
    simp [h2]
  unfold Region.wanted
  split
  · rfl
  · rename_i g b hg
    rw [hy g b hg]

theorem FreeH.ready {n : Nat} {al late : List Nat} {zs : Nat → Array Value} (F : FreeH P md ops hd n al late zs) {lh la : Array Bool} (hlz : lh.size = n) (inv : HeadInv md ops n la) (hll : ∀ j, j < n → la.getD j true = lh.getD j true) :
    ∀ i, i < n → (i ∈ Region.ready md ops la ↔ i ∈ Region.ready md hd lh) := by
  have hb : ∀ j, j < n → lh.getD j false = la.getD j false := fun j hj => by
    have h1 : la.getD j true = la.getD j false := by
      have : j < la.size := by rw [inv.size]; have := F.hn; omega
      simp [this]
    have : j < lh.size := by omega
    rw [← h1, hll j hj]
    simp [this]
  intro i hi
  obtain ⟨o, ho⟩ : ∃ o, ops[i]? = some o := ⟨_, Array.getElem?_eq_getElem (by have := F.hn; omega)⟩
  obtain ⟨o', h1, _, h3, _⟩ := F.hget hi ho
  rw [mem_ready, mem_ready, hll i hi]
  refine and_congr_right fun _ => ⟨fun ⟨x, hx, h⟩ => ⟨o', h1, fun e he hbi => ?_⟩, fun ⟨x, hx, h⟩ => ⟨o, ho, fun e he hbi => ?_⟩⟩
  · have hxo : x = o := Option.some.inj (hx.symm.trans ho)
    subst hxo
    have := (headB_spec F.head hi ho).2 e (h3 ▸ he) hbi
    rw [hb e.on (by omega)]; exact h e (h3 ▸ he) hbi
  · have hxo : x = o' := Option.some.inj (hx.symm.trans h1)
    subst hxo
    have := (headB_spec F.head hi ho).2 e he hbi
    rw [← hb e.on (by omega)]; exact h e (h3 ▸ he) hbi

theorem FreeH.waits {n : Nat} {al late : List Nat} {zs : Nat → Array Value} (F : FreeH P md ops hd n al late zs) {la : Array Bool} (inv : HeadInv md ops n la) : ∀ (d i : Nat), n - i = d → i < n → i ∉ late → la.getD i true = false → ∀ t, n ≤ t → t ∉ Region.ready md ops la := by
  intro d
  induction d using Nat.strongRecOn with
  | _ d ih =>
    intro i hd hi hil hun t ht hr
    obtain ⟨_, ot, hot, hall⟩ := mem_ready.1 hr
    have htlt : t < ops.size := (Array.getElem?_eq_some_iff.1 hot).1
    by_cases htn : t = n
    · subst htn
      obtain ⟨j, hij, hjn, hjl, hw⟩ := F.sink i hi hil
      obtain ⟨oj, hoj, e, he, hb, hon⟩ := Region.waitsFor_spec hw
      by_cases hjt : j = t
      · subst hjt
        have : oj = ot := Option.some.inj (hoj.symm.trans hot)
        subst this
        have h2 := hall e he hb
        rw [hon, getD_both hun] at h2
        cases h2
      · cases hl : la.getD j false with
        | true =>
          have h2 := inv.closed j oj hoj hl e he hb
          rw [hon, getD_both hun] at h2
          cases h2
        | false => exact ih (t - j) (by omega) j rfl (by omega) hjl (getD_in (by rw [inv.size]; omega) hl) t (Nat.le_refl _) hr
    · have h1 := List.all_eq_true.1 F.chain t (List.mem_range.2 htlt)
      simp only [Bool.or_eq_true, decide_eq_true_eq] at h1
      rcases h1 with h1 | h1
      · omega
      · obtain ⟨o', ho', e, he, hb, hon⟩ := Region.waitsFor_spec h1
        have : o' = ot := Option.some.inj (ho'.symm.trans hot)
        subst this
        have h2 := hall e he hb
        rw [hon, getD_both (inv.tail (t - 1) (by omega) (by omega))] at h2
        cases h2

theorem FreeH.low {n : Nat} {al late : List Nat} {zs : Nat → Array Value} (F : FreeH P md ops hd n al late zs) {la : Array Bool} (inv : HeadInv md ops n la) (hno : ∀ i ∈ late, i ∉ Region.ready md ops la) :
    ∀ i, i < n → la.getD i true = false → ∀ t, t ∈ Region.ready md ops la → t < n := by
  intro i
  induction i using Nat.strongRecOn with
  | _ i ih =>
    intro hi hun t ht
    by_cases hil : i ∈ late
    · obtain ⟨o, ho⟩ : ∃ o, ops[i]? = some o := ⟨_, Array.getElem?_eq_getElem (by have := F.hn; omega)⟩
      have hs := headB_spec F.head hi ho
      have hnr := hno i hil
      have : ∃ e ∈ o.after, Region.binds md e = true ∧ la.getD e.on false ≠ true := by
        refine Classical.byContradiction fun hc => hnr (mem_ready.2 ⟨hun, o, ho, fun e he hb => ?_⟩)
        exact Classical.byContradiction fun h => hc ⟨e, he, hb, h⟩
      obtain ⟨e, he, hb, hl⟩ := this
      have hlt := hs.2 e he hb
      exact ih e.on hlt (by omega) (getD_in (by rw [inv.size]; have := F.hn; omega) (by simpa using hl)) t ht
    · rcases Nat.lt_or_ge t n with h' | h'
      · exact h'
      · exact absurd ht (F.waits inv _ i rfl hi hil hun t h')

theorem extract_yields {o : Oper} {x : Operand} {k : Nat} (hop : o.op = .extract x k) (hg : o.guard = none) {a : Act} {C : World → Prop} {w : World} {v : Value} (h : o.quietAt P a C w v) : Yields P ops o v a := by
  refine .inl ⟨by unfold Region.wanted; rw [hg], fun w' => ?_⟩
  have e : execOp a.eval o = (do pure (Next.value (← Instr.extract (a.eval x) k)) : Sem Next) := by unfold execOp; rw [hop]
  unfold Oper.quietAt at h
  rw [e] at h ⊢
  simp only [Sem.run_bind, Sem.run_pure] at h ⊢
  unfold Instr.extract at h ⊢
  cases hx : a.eval x <;> rw [hx] at h <;> simp only at h ⊢
  case tuple vs =>
    cases hv : vs[k]? <;> rw [hv] at h <;> simp only [Sem.run_pure, Result.andThen_ok] at h ⊢
    case none => exact absurd h (by simp [stuck, go_sem, Oper.quietUpon])
    case some u =>
      simp only [Oper.quietUpon] at h
      rw [h.2]
  all_goals exact absurd h (by simp [stuck, go_sem, Oper.quietUpon])

theorem move_yields {o : Oper} {x : Operand} (hop : o.op = .move x) (hg : o.guard = none) {a : Act} {C : World → Prop} {w : World} {v : Value} (h : o.quietAt P a C w v) : Yields P ops o v a := by
  refine .inl ⟨by unfold Region.wanted; rw [hg], fun w' => ?_⟩
  have e : execOp a.eval o = (pure (Next.value (a.eval x)) : Sem Next) := by unfold execOp; rw [hop]
  unfold Oper.quietAt at h
  rw [e] at h ⊢
  simp only [Sem.run_pure, Oper.quietUpon] at h ⊢
  rw [h.2]
theorem late_yields {o : Oper} (hop : (∃ x k, o.op = .extract x k) ∨ ∃ x, o.op = .move x) (hg : o.guard = none) {a : Act} {C : World → Prop} {w : World} {v : Value} (h : o.quietAt P a C w v) : Yields P ops o v a := by
  rcases hop with ⟨x, k, hop⟩ | ⟨x, hop⟩
  · exact extract_yields hop hg h
  · exact move_yields hop hg h

theorem free_any {n g : Nat} {al late : List Nat} {zs : Nat → Array Value} {Q' : Exit → Act → World → Prop} {full : Array Bool} {w0 : World} {agf : Act} (F : FreeH P md ops hd n al late zs)
    (hpan : ∀ (d : Option Tmp) v c a w, Q' (.panic c) (a.put d v) w → Q' (.panic c) a w)
    (hfz : full.size = ops.size) (hf : ∀ j, j < ops.size → full.getD j true = decide (j < n))
    (hQ : ∀ bf w, Below w0.heap.size w0 w → (∀ i ∈ al, ∃ b, bf i = some b ∧ BoxL w b (zs i) ∧ w0.heap.size ≤ b) → (∀ i ∈ al, ∀ j ∈ al, i ≠ j → ∀ b, bf i = some b → bf j ≠ some b) → wpAny P md ops Q' g full (over P ops bf al agf) w) :
    ∀ (f : Nat) (lh la : Array Bool) (ag : Act) (bf : Nat → Option Nat) (w : World), lh.size = n → HeadInv md ops n la → (∀ j, j < n → la.getD j true = lh.getD j true) → Below w0.heap.size w0 w →
      (∀ i ∈ al, la.getD i true = false → bf i = none) → (∀ i ∈ al, la.getD i true = true → ∃ b, bf i = some b ∧ BoxL w b (zs i) ∧ w0.heap.size ≤ b) → (∀ i ∈ al, ∀ j ∈ al, i ≠ j → ∀ b, bf i = some b → bf j ≠ some b) →
      (∀ W, Below w.heap.size w W → wpAnyQ P md hd (CL W) (fun a' => a' = agf) f lh ag) → wpAny P md ops Q' (f + g) la (over P ops bf al ag) w := by
  have fin : ∀ (f : Nat) (la : Array Bool) (bf : Nat → Option Nat) (w : World), HeadInv md ops n la → (∀ j, j < n → la.getD j true = true) → Below w0.heap.size w0 w →
      (∀ i ∈ al, la.getD i true = true → ∃ b, bf i = some b ∧ BoxL w b (zs i) ∧ w0.heap.size ≤ b) → (∀ i ∈ al, ∀ j ∈ al, i ≠ j → ∀ b, bf i = some b → bf j ≠ some b) → wpAny P md ops Q' (f + g) la (over P ops bf al agf) w := by
    intro f la bf w inv hall hB hx hy
    have : la = full := by
      refine Array.ext (inv.size.trans hfz.symm) fun j h1 h2 => ?_
      have hjo : j < ops.size := by rw [← inv.size]; exact h1
      have e1 : la.getD j true = full.getD j true := by
        rw [hf j hjo]
        by_cases hj : j < n
        · rw [hall j hj]; simp [hj]
        · rw [inv.tail j (by omega) hjo]; simp [hj]
      simpa [h1, h2] using e1
    subst this
    exact any_more' g (hQ bf w hB (fun i hi => hx i hi (hall i (F.alloc i hi).1)) hy) f
  have step : ∀ (lh la : Array Bool), lh.size = n → HeadInv md ops n la → (∀ j, j < n → la.getD j true = lh.getD j true) → (∀ j, j < n → la.getD j true = true) ∨ (Region.ready md hd lh ≠ [] ∧ ∃ i, i < n ∧ la.getD i true = false) := by
    intro lh la hlz inv hll
    by_cases hall : ∀ j, j < n → la.getD j true = true
    · exact .inl hall
    · obtain ⟨i, hi⟩ := Classical.not_forall.1 hall
      obtain ⟨hi, hun⟩ := Classical.not_imp.1 hi
      have hun' : la.getD i true = false := by simpa using hun
      obtain ⟨k, hk, hkr⟩ := head_ready F.head (by have := F.hn; omega) i hi hun' (fun j hj => by
        have : j < la.size := by rw [inv.size]; have := F.hn; omega
        simp [this])
      have := (F.ready hlz inv hll k hk).1 hkr
      exact .inr ⟨fun h => (by rw [h] at this; cases this), i, hi, hun'⟩
  intro f
  induction f with
  | zero =>
    intro lh la ag bf w hlz inv hll hB hb0 hb1 hbd h
    rcases step lh la hlz inv hll with hall | ⟨hne, _⟩
    · have := (h w (Below.refl _ _)).2
      subst this
      exact fin 0 la bf w inv hall hB hb1 hbd
    · exact absurd (h w (Below.refl _ _)).1 hne
  | succ f ih =>
    intro lh la ag bf w hlz inv hll hB hb0 hb1 hbd h
    rcases step lh la hlz inv hll with hall | ⟨hne, i0, hi0, hun0⟩
    · have hag : ag = agf := by
        refine (h w (Below.refl _ _)).1 (List.eq_nil_iff_forall_not_mem.2 fun j hj => ?_)
        have hjn : j < n := by
          obtain ⟨_, o, ho, _⟩ := mem_ready.1 hj
          have := (Array.getElem?_eq_some_iff.1 ho).1
          rw [F.hsz] at this
          exact this
        have h1 := (mem_ready.1 hj).1
        rw [← hll j hjn, hall j hjn] at h1
        cases h1
      subst hag
      exact fin (f + 1) la bf w inv hall hB hb1 hbd
    · rw [show f + 1 + g = (f + g) + 1 by omega]
      have core : ∀ i, i ∈ Region.ready md ops la → i < n → i ∉ al → ∃ o, ops[i]? = some o ∧ hd[i]? = some o ∧
          execOp (over P ops bf al ag).eval o = execOp ag.eval o ∧ Region.wanted o (yielded ops (over P ops bf al ag).tmps) = Region.wanted o (yielded ops ag.tmps) ∧ Region.wanted o (yielded hd ag.tmps) = Region.wanted o (yielded ops ag.tmps) ∧
          (∀ v, (over P ops bf al ag).put o.dst v = over P ops bf al (ag.put o.dst v)) ∧
          (∀ v w', Below w.heap.size w w' → (∀ W, Below w'.heap.size w' W → wpAnyQ P md hd (CL W) (fun a' => a' = agf) f (lh.setIfInBounds i true) (ag.put o.dst v)) → wpAny P md ops Q' (f + g) (la.setIfInBounds i true) (over P ops bf al (ag.put o.dst v)) w') ∧
          (∀ v, wpAnyQ P md hd (CL w) (fun a' => a' = agf) f (lh.setIfInBounds i true) (ag.put o.dst v) → Region.wanted o (yielded ops ag.tmps) = true → ∀ W, Below w.heap.size w W → wpAnyQ P md hd (CL W) (fun a' => a' = agf) f (lh.setIfInBounds i true) (ag.put o.dst v)) := by
        intro i hi hin hal
        have hir := (F.ready hlz inv hll i hin).1 hi
        obtain ⟨hun, o, ho, _⟩ := mem_ready.1 hi
        obtain ⟨o', ho', hdst, haft, hgd, hno, hyes⟩ := F.hget hin ho
        have eo := hno hal
        subst eo
        have hsel := Region.noSelect_spec F.sel i o'
        have hap : ∀ j ∈ al, ∀ t, (ops[j]?).bind (·.dst) = some t → t ∉ o'.looksAt ops := fun j hj t ht => F.apart i o' hin ho hal j hj t ht
        have hex := over_exec (P := P) (bf := bf) (fun cs b => hsel cs b ho) al ag hap
        have hyl := F.yields hin ho ag.tmps
        have hset : ∀ j, j ≠ i → (la.setIfInBounds i true).getD j true = la.getD j true := fun j hj => getD_set_ne true (Ne.symm hj)
        have hslot : ∀ t, o'.dst = some t → ∀ j oj, hd[j]? = some oj → (lh.setIfInBounds i true).getD j true = false → oj.dst ≠ some t := fun t ht j oj hj hl e => by
          have hji : j ≠ i := fun e => by
            subst e
            have h2 : j < lh.size := by omega
            simp [h2] at hl
          have hjn : j < n := by have := (Array.getElem?_eq_some_iff.1 hj).1; rw [F.hsz] at this; exact this
          obtain ⟨oj', hoj'⟩ : ∃ x, ops[j]? = some x := ⟨_, Array.getElem?_eq_getElem (by have := F.hn; omega)⟩
          obtain ⟨x, hx, hxd, _⟩ := F.hget hjn hoj'
          have : x = oj := Option.some.inj (hx.symm.trans hj)
          subst this
          exact F.dsts i j o' oj' hin hjn ho hoj' (Ne.symm hji) t ht (hxd ▸ e)
        refine ⟨o', ho, ho', hex.1, hex.2, hyl, fun v => over_put al ag fun j hj t ht e => ?_, fun v w' hw' hq' => ?_, fun v hn hw W hW => ?_⟩
        · obtain ⟨hjn, oj, Tj, hoj, _⟩ := F.alloc j hj
          rw [hoj] at e
          exact F.dsts i j o' oj hin hjn ho hoj (fun e => hal (e ▸ hj)) t ht e
        · refine ih _ _ _ _ _ (by simpa using hlz) (inv.set hi hin) (fun j hj => ?_) (hB.trans (hw'.mono hB.size)) (fun j hj hl => ?_) (fun j hj hl => ?_) hbd hq'
          · by_cases hij : i = j
            · subst hij
              have h1 : i < la.size := by rw [inv.size]; have := F.hn; omega
              have h2 : i < lh.size := by omega
              simp [h1, h2]
            · rw [getD_set_ne true hij, getD_set_ne true hij]; exact hll j hj
          · rw [hset j (fun e => hal (e ▸ hj))] at hl
            exact hb0 j hj hl
          · rw [hset j (fun e => hal (e ▸ hj))] at hl
            obtain ⟨b, h1, h2, h3⟩ := hb1 j hj hl
            exact ⟨b, h1, h2.keep hw', h3⟩
        · have h3 := (h W hW).2 i hir
          unfold qOp at h3
          simp only [ho', hyl, hw, if_true] at h3
          obtain ⟨u, _, hu⟩ := h3
          have : ag.put o'.dst u = ag.put o'.dst v := put_same (fun t ht => anyQ_keeps f _ _ t (hslot t ht) hu) (fun t ht => (anyQ_keeps f _ _ t (hslot t ht) hn).1)
          rw [← this]
          exact hu
      by_cases hlate : ∃ i ∈ late, i ∈ Region.ready md ops la
      · obtain ⟨i, hil, hi⟩ := hlate
        obtain ⟨hin, hal, o2, ho2, hop, hg⟩ := F.lates i hil
        obtain ⟨o', ho, ho', he1, he2, hyl, hput, hnext, hsame⟩ := core i hi hin hal
        have : o2 = o' := Option.some.inj (ho2.symm.trans ho)
        subst this
        have hw : Region.wanted o2 (yielded ops ag.tmps) = true := by unfold Region.wanted; rw [hg]
        have h2 := (h w (Below.refl _ _)).2 i ((F.ready hlz inv hll i hin).1 hi)
        unfold qOp at h2
        simp only [ho', hyl, hw, if_true] at h2
        obtain ⟨v, hv, hn⟩ := h2
        have hy : Yields P ops o2 v (over P ops bf al ag) := (late_yields hop hg (hv w (CL.self w))).of_same he1 he2
        refine wpAny_first ho (Region.noSelect_spec F.sel) (fun c a w => hpan _ _ c a w) (f + g) la (over P ops bf al ag) w (fun j oj hoj hji hl hnot => ?_) hi hy ?_
        · refine F.lfree i hil o2 j oj ho hoj hji (fun e he hb heq => ?_) hnot
          obtain ⟨_, o3, ho3, hall⟩ := mem_ready.1 hi
          have : o3 = o2 := Option.some.inj (ho3.symm.trans ho)
          subst this
          have h4 := hall e he hb
          rw [heq, getD_both hl] at h4
          cases h4
        · rw [hput v]
          exact hnext v w (Below.refl _ _) (hsame v hn hw)
      have hlow := F.low inv (fun i hi hr => hlate ⟨i, hi, hr⟩) i0 hi0 hun0
      refine ⟨fun h0 => ?_, fun i hi => ?_⟩
      · exfalso
        apply hne
        refine List.eq_nil_iff_forall_not_mem.2 fun j hj => ?_
        have hjn : j < n := by
          obtain ⟨_, o, ho, _⟩ := mem_ready.1 hj
          have := (Array.getElem?_eq_some_iff.1 ho).1
          rw [F.hsz] at this
          exact this
        have := (F.ready hlz inv hll j hjn).2 hj
        rw [h0] at this
        cases this
      · have hin := hlow i hi
        have hir := (F.ready hlz inv hll i hin).1 hi
        obtain ⟨hun, o, ho, _⟩ := mem_ready.1 hi
        obtain ⟨o', ho', hdst, haft, hgd, hno, hyes⟩ := F.hget hin ho
        have hq : ∀ W, Below w.heap.size w W → qOp P hd (CL W) i (wpAnyQ P md hd (CL W) (fun a' => a' = agf) f (lh.setIfInBounds i true)) ag := fun W hW => (h W hW).2 i hir
        have hlz' : (lh.setIfInBounds i true).size = n := by simpa using hlz
        have hll' : ∀ j, j < n → (la.setIfInBounds i true).getD j true = (lh.setIfInBounds i true).getD j true := fun j hj => by
          by_cases hij : i = j
          · subst hij
            have h1 : i < la.size := by rw [inv.size]; have := F.hn; omega
            have h2 : i < lh.size := by omega
            simp [h1, h2]
          · rw [getD_set_ne true hij, getD_set_ne true hij]; exact hll j hj
        have inv' := inv.set hi hin
        have hset : ∀ j, j ≠ i → (la.setIfInBounds i true).getD j true = la.getD j true := fun j hj => getD_set_ne true (Ne.symm hj)
        have hseti : (la.setIfInBounds i true).getD i true = true := by
          have h1 : i < la.size := by rw [inv.size]; have := F.hn; omega
          simp [h1]
        by_cases hal : i ∈ al
        · obtain ⟨_, o2, T, ho2, hop, hg, hz⟩ := F.alloc i hal
          have : o2 = o := Option.some.inj (ho2.symm.trans ho)
          subst this
          have hbi := hb0 i hal hun
          have hwant : ∀ y, Region.wanted o2 y = true := fun y => by unfold Region.wanted; rw [hg]
          unfold wpOp
          simp only [ho, hwant, if_true]
          left
          unfold Oper.wp
          have hrun : (execOp (over P ops bf al ag).eval o2).run P w = .ok (.value (.pointer (some ⟨w.heap.size, 0, none⟩))) (w.alloc (.cells (zs i) T)) := by
            have e1 : execOp (over P ops bf al ag).eval o2 = (do pure (Next.value (← Instr.alloc T true (.tuple #[]))) : Sem Next) := by unfold execOp; rw [hop]
            rw [e1]
            exact run_value_of (hz w)
          rw [hrun]
          show wpAny P md ops Q' (f + g) (la.setIfInBounds i true) ((over P ops bf al ag).put o2.dst (.pointer (some ⟨w.heap.size, 0, none⟩))) (w.alloc (.cells (zs i) T))
          have hdo : (ops[i]?).bind (·.dst) = o2.dst := by rw [ho]; rfl
          rw [← hdo, over_set hbi al ag hal F.nodup fun j hj hji t ht e => by
            obtain ⟨hjn, oj, Tj, hoj, _⟩ := F.alloc j hj
            rw [hdo] at ht
            rw [hoj] at e
            exact F.dsts i j o2 oj hin hjn ho hoj (Ne.symm hji) t ht e]
          have hBa : Below w.heap.size w (w.alloc (.cells (zs i) T)) := (Below.refl _ w).alloc (Nat.le_refl _) _
          refine ih _ _ _ _ _ hlz' inv' hll' (hB.trans (hBa.mono hB.size)) ?_ ?_ ?_ ?_
          · intro j hj hl
            have hji : j ≠ i := fun e => by rw [e, hseti] at hl; cases hl
            rw [hset j hji] at hl
            simp only [upd, if_neg hji]
            exact hb0 j hj hl
          · intro j hj hl
            by_cases hji : j = i
            · subst hji
              exact ⟨w.heap.size, by simp [upd], BoxL.new w _ T, hB.size⟩
            · rw [hset j hji] at hl
              obtain ⟨b, h1, h2, h3⟩ := hb1 j hj hl
              exact ⟨b, by simp only [upd, if_neg hji]; exact h1, h2.keep hBa, h3⟩
          · have hlt : ∀ j ∈ al, ∀ b, bf j = some b → b < w.heap.size := fun j hj b hb => by
              cases hl : la.getD j true with
              | false => rw [hb0 j hj hl] at hb; cases hb
              | true =>
                obtain ⟨b', h1, h2, _⟩ := hb1 j hj hl
                rw [hb] at h1
                cases h1
                exact h2.lt
            intro j hj k hk hjk b h1 h2
            simp only [upd] at h1 h2
            by_cases hji : j = i
            · rw [if_pos hji] at h1
              rw [if_neg (fun e => hjk (hji.trans e.symm))] at h2
              cases h1
              have := hlt k hk _ h2
              omega
            · rw [if_neg hji] at h1
              by_cases hki : k = i
              · rw [if_pos hki] at h2
                cases h2
                have := hlt j hj _ h1
                omega
              · rw [if_neg hki] at h2
                exact hbd j hj k hk hjk b h1 h2
          · intro W hW
            have hWw : Below w.heap.size w W := hBa.trans (hW.mono hBa.size)
            have h2 := hq W hWw
            have eo := hyes hal
            subst eo
            unfold qOp at h2
            have hwant' : ∀ y, Region.wanted (ghostO o2) y = true := fun y => by unfold Region.wanted ghostO; simp only; rw [hg]
            simp only [ho', hwant', if_true] at h2
            obtain ⟨v, hv, hn⟩ := h2
            have h3 := hv W (CL.self W)
            unfold Oper.quietAt ghostO execOp at h3
            have hv' : v = undef := h3.2.symm
            subst hv'
            rw [hdo]
            exact hn
        · obtain ⟨o3, ho3, ho3', he1, he2, hyl, hput, hnext, hsame⟩ := core i hi hin hal
          unfold wpOp
          simp only [ho3]
          rw [he2]
          by_cases hw : Region.wanted o3 (yielded ops ag.tmps) = true
          · rw [if_pos hw]
            left
            have h2 := hq w (Below.refl _ _)
            unfold qOp at h2
            simp only [ho3', hyl, hw, if_true] at h2
            obtain ⟨v, hv, hn⟩ := h2
            refine Oper.wp_of_quiet (C := CL w) (K := fun a' => a' = (over P ops bf al ag).put o3.dst v) (CL.self w) ?_ ⟨v, fun w' hw' => by unfold Oper.quietAt; rw [he1]; exact hv w' hw', rfl⟩
            intro a' w' hw' ha'
            subst ha'
            rw [hput v]
            exact hnext v w' hw'.below fun W hW => hsame v hn hw W (hw'.below.trans (hW.mono hw'.below.size))
          · rw [if_neg hw]
            rw [hput undef]
            refine hnext undef w (Below.refl _ _) fun W hW => ?_
            have h3 := hq W hW
            unfold qOp at h3
            simp only [ho3', hyl, hw] at h3
            exact h3
end

end Fr
end Go.Proofs.YtggeepimihhpjaaGreatDoor
