/- A law for statements that leave the order of their operations open, and some of whose operations make new blocks: each other operation of the head only reads and calls (whatever it makes, all that lay lies unturned); the operations behind the head come in one order. One walk in the order of the text serves every order; the new blocks may lie anywhere, apart from each other. The law of XL1 as it is used: one, two or three new blocks. Blocks of up to 24 cells: their cells and marks one by one; a whole value stored. What a call does, in one word; the blocks of parameters and results at the start of a function. A part of a block stored; a drawn statement whose first operations only read and call, with extractions that may come late. -/
import Derived.Test.YtojkaaglmdfcnaaL0
import Derived.Test.YtojkaaglmdfcnaaRows
namespace Go.Proofs.Ytojkaaglmdfcnaa
open Go.RowKit
namespace Fr
set_option linter.unusedVariables false

/-- A block that reads as a list of cells, none of them frozen. -/
structure BoxL (w : World) (b : Nat) (zs : Array Value) : Prop where
  lt : b < w.heap.size
  cells : ∀ i v, zs[i]? = some v → w.cell? ⟨b, i, none⟩ = some v ∧ w.frozen? ⟨b, i, none⟩ = false
theorem BoxL.keep {w w' : World} {b : Nat} {zs : Array Value} (h : BoxL w b zs) (hb : Below w.heap.size w w') : BoxL w' b zs :=
  ⟨Nat.lt_of_lt_of_le h.lt hb.size, fun i v hv => ⟨(hb.cell (p := ⟨b, i, none⟩) h.lt).trans (h.cells i v hv).1, (hb.frozen (p := ⟨b, i, none⟩) h.lt).trans (h.cells i v hv).2⟩⟩
theorem BoxL.new (w : World) (zs : Array Value) (T : TypeId) : BoxL (w.alloc (.cells zs T)) w.heap.size zs :=
  ⟨by simp, fun i v hv => ⟨(World.cell?_alloc_at zs T _ i rfl).trans hv, by simp⟩⟩

/-- An allocation of this type makes a block with these cells. -/
def Zr (P : Program) (T : TypeId) (zs : Array Value) : Prop := ∀ w, (Instr.alloc T true (.tuple #[])).run P w = .ok (.pointer (some ⟨w.heap.size, 0, none⟩)) (w.alloc (.cells zs T))

def CL (w : World) : World → Prop := fun w' => ∃ p : Later w, w' = p.val
theorem CL.below {w w' : World} (h : CL w w') : Below w.heap.size w w' := by obtain ⟨p, rfl⟩ := h; exact p.below
theorem CL.of {w w' : World} (h : Below w.heap.size w w') : CL w w' := ⟨⟨w', h⟩, rfl⟩
theorem CL.self (w : World) : CL w w := CL.of (Below.refl _ _)
theorem CL.trans {w u v : World} (h : CL w u) (h' : CL u v) : CL w v := CL.of (h.below.trans (h'.below.mono h.below.size))

section
variable {P : Program} {ops hd : Array Oper} {md : Region.Mode}

theorem put_put (a : Act) (d : Option Tmp) (u v : Value) : (a.put d u).put d v = a.put d v := by
  cases d with
  | none => rfl
  | some d => simp [Act.put]

/-- What lies in a slot that nothing to come writes lies there at the end. -/
theorem anyQ_keeps {C : World → Prop} {agf : Act} : ∀ (f : Nat) (la : Array Bool) (a : Act) (t : Tmp), (∀ j o, hd[j]? = some o → la.getD j true = false → o.dst ≠ some t) →
    wpAnyQ P md hd C (fun a' => a' = agf) f la a → agf.tmps[t]? = a.tmps[t]? ∧ agf.tmps.size = a.tmps.size
  | 0, la, a, t, _, h => by rw [h.2]; exact ⟨rfl, rfl⟩
  | f + 1, la, a, t, hno, h => by
    cases hr : Region.ready md hd la with
    | nil => rw [h.1 hr]; exact ⟨rfl, rfl⟩
    | cons i rs =>
      have hi : i ∈ Region.ready md hd la := by rw [hr]; exact List.mem_cons_self
      have h2 := h.2 i hi
      obtain ⟨hun, o, ho, _⟩ := mem_ready.1 hi
      have hdst := hno i o ho hun
      have hput : ∀ v, (a.put o.dst v).tmps[t]? = a.tmps[t]? ∧ (a.put o.dst v).tmps.size = a.tmps.size := fun v => by
        cases hd' : o.dst with
        | none => exact ⟨rfl, rfl⟩
        | some d =>
          have hne : d ≠ t := fun e => hdst (by rw [hd', e])
          exact ⟨by simp [Act.put, Array.getElem?_setIfInBounds_ne hne], by simp [Act.put]⟩
      have hno' : ∀ j o, hd[j]? = some o → (la.setIfInBounds i true).getD j true = false → o.dst ≠ some t := fun j oj hj hl => by
        refine hno j oj hj ?_
        by_cases hij : i = j
        · subst hij; exact hun
        · rwa [getD_set_ne true hij] at hl
      unfold qOp at h2
      simp only [ho] at h2
      split at h2
      · obtain ⟨v, _, hn⟩ := h2
        have := anyQ_keeps f _ _ t hno' hn
        exact ⟨this.1.trans (hput v).1, this.2.trans (hput v).2⟩
      · have := anyQ_keeps f _ _ t hno' h2
        exact ⟨this.1.trans (hput undef).1, this.2.trans (hput undef).2⟩

theorem put_same {a agf : Act} {d : Option Tmp} {u v : Value} (h1 : ∀ t, d = some t → agf.tmps[t]? = (a.put d u).tmps[t]? ∧ agf.tmps.size = (a.put d u).tmps.size) (h2 : ∀ t, d = some t → agf.tmps[t]? = (a.put d v).tmps[t]?) : a.put d u = a.put d v := by
  cases d with
  | none => rfl
  | some t =>
    have e1 := (h1 t rfl).1
    have e2 := h2 t rfl
    rcases Nat.lt_or_ge t a.tmps.size with h | h
    · simp [Act.put, h] at e1 e2
      rw [e1] at e2
      cases e2
      rfl
    · simp [Act.put, Array.setIfInBounds_eq_of_size_le h]

/-- The blocks that were made so far, each in its slot. -/
def over (P : Program) (ops : Array Oper) (bf : Nat → Option Nat) : List Nat → Act → Act
  | [], a => a
  | i :: l, a => over P ops bf l (match bf i with | some b => a.put ((ops[i]?).bind (·.dst)) (.pointer (some ⟨b, 0, none⟩)) | none => a)

theorem over_none : ∀ (l : List Nat) (a : Act), over P ops (fun _ => none) l a = a
  | [], _ => rfl
  | i :: l, a => over_none l a

theorem over_put {bf : Nat → Option Nat} {d : Option Tmp} {v : Value} : ∀ (l : List Nat) (a : Act), (∀ i ∈ l, ∀ t, d = some t → (ops[i]?).bind (·.dst) ≠ some t) → (over P ops bf l a).put d v = over P ops bf l (a.put d v)
  | [], a, _ => rfl
  | i :: l, a, h => by
    unfold over
    rw [over_put l _ fun j hj => h j (List.mem_cons_of_mem _ hj)]
    congr 1
    cases bf i with
    | none => rfl
    | some b => exact (Act.put_comm a v _ (h i List.mem_cons_self)).symm

theorem over_exec {bf : Nat → Option Nat} {o : Oper} (hs : ∀ cs b, o.op ≠ .select cs b) : ∀ (l : List Nat) (a : Act), (∀ i ∈ l, ∀ t, (ops[i]?).bind (·.dst) = some t → t ∉ o.looksAt ops) →
    execOp (over P ops bf l a).eval o = execOp a.eval o ∧ Region.wanted o (yielded ops (over P ops bf l a).tmps) = Region.wanted o (yielded ops a.tmps)
  | [], a, _ => ⟨rfl, rfl⟩
  | i :: l, a, h => by
    unfold over
    have ih := over_exec (bf := bf) hs l (match bf i with | some b => a.put ((ops[i]?).bind (·.dst)) (.pointer (some ⟨b, 0, none⟩)) | none => a) fun j hj => h j (List.mem_cons_of_mem _ hj)
    rw [ih.1, ih.2]
    cases bf i with
    | none => exact ⟨rfl, rfl⟩
    | some b => exact ⟨execOp_put (ops := ops) o hs a _ _ (h i List.mem_cons_self), wanted_put o a _ _ (h i List.mem_cons_self)⟩

def upd (bf : Nat → Option Nat) (i b : Nat) : Nat → Option Nat := fun j => if j = i then some b else bf j
theorem over_upd_not {bf : Nat → Option Nat} {i b : Nat} : ∀ (l : List Nat) (a : Act), i ∉ l → over P ops (upd bf i b) l a = over P ops bf l a
  | [], _, _ => rfl
  | j :: l, a, h => by
    have hji : j ≠ i := fun e => h (by rw [e]; exact List.mem_cons_self)
    unfold over
    rw [over_upd_not l _ fun hh => h (List.mem_cons_of_mem _ hh)]
    simp [upd, hji]

theorem over_set {bf : Nat → Option Nat} {i b : Nat} (hi : bf i = none) : ∀ (l : List Nat) (a : Act), i ∈ l → l.Nodup → (∀ j ∈ l, j ≠ i → ∀ t, (ops[i]?).bind (·.dst) = some t → (ops[j]?).bind (·.dst) ≠ some t) →
    (over P ops bf l a).put ((ops[i]?).bind (·.dst)) (.pointer (some ⟨b, 0, none⟩)) = over P ops (upd bf i b) l (a.put ((ops[i]?).bind (·.dst)) undef)
  | [], a, h, _, _ => by cases h
  | j :: l, a, h, hn, hd => by
    have hn' := List.nodup_cons.1 hn
    by_cases hji : j = i
    · subst hji
      unfold over
      rw [over_upd_not l _ hn'.1]
      simp only [hi, upd, if_true]
      rw [over_put l _ fun k hk t ht => hd k (List.mem_cons_of_mem _ hk) (fun e => hn'.1 (e ▸ hk)) t ht, put_put]
    · unfold over
      rw [over_set hi l _ (by rcases List.mem_cons.1 h with h | h; exact absurd h.symm hji; exact h) hn'.2 fun k hk => hd k (List.mem_cons_of_mem _ hk)]
      congr 1
      simp only [upd, if_neg hji]
      cases bf j with
      | none => rfl
      | some c => exact Act.put_comm _ _ _ fun t ht e => hd j List.mem_cons_self hji t e ht
end

theorem run_value_of {P : Program} {m : Sem Value} {w w' : World} {v : Value} (h : m.run P w = .ok v w') : (do pure (Next.value (← m)) : Sem Next).run P w = .ok (.value v) w' := by
  simp only [Sem.run_bind, h, Result.andThen_ok, Sem.run_pure]

/-- An operation passed over. -/
def ghostO (o : Oper) : Oper := { o with op := .move (.const undef) }
def ghostL (al : List Nat) : Nat → List Oper → List Oper
  | _, [] => []
  | k, o :: l => (if al.contains k then ghostO o else o) :: ghostL al (k + 1) l
theorem ghostL_get {al : List Nat} : ∀ (l : List Oper) (k j : Nat), (ghostL al k l)[j]? = (l[j]?).map fun o => if al.contains (k + j) then ghostO o else o
  | [], k, j => by simp [ghostL]
  | o :: l, k, 0 => by simp [ghostL]
  | o :: l, k, j + 1 => by
    have := ghostL_get (al := al) l (k + 1) j
    rw [show k + 1 + j = k + (j + 1) by omega] at this
    simpa [ghostL] using this
theorem ghostL_length {al : List Nat} : ∀ (l : List Oper) (k : Nat), (ghostL al k l).length = l.length
  | [], _ => rfl
  | o :: l, k => by simp [ghostL, ghostL_length l]

section
variable {P : Program} {ops hd : Array Oper} {md : Region.Mode}

structure FreeH (P : Program) (md : Region.Mode) (ops hd : Array Oper) (n : Nat) (al late : List Nat) (zs : Nat → Array Value) : Prop where
  hsz : hd.size = n
  hn : n < ops.size
  sink : ∀ i, i < n → i ∉ late → ∃ j, i < j ∧ j ≤ n ∧ j ∉ late ∧ Region.waitsFor md ops j i = true
  lates : ∀ i ∈ late, i < n ∧ i ∉ al ∧ ∃ o x k, ops[i]? = some o ∧ o.op = .extract x k ∧ o.guard = none
  lfree : ∀ i ∈ late, ∀ oi j oj, ops[i]? = some oi → ops[j]? = some oj → j ≠ i → (∀ e ∈ oi.after, Region.binds md e = true → e.on ≠ j) → (∀ e ∈ oj.after, Region.binds md e = true → e.on ≠ i) → oi.apart ops oj = true
  chain : Region.chainB md ops n = true
  head : headB md ops n = true
  sel : Region.noSelect ops = true
  get : ∀ j, j < n → hd[j]? = (ops[j]?).map fun o => if al.contains j then ghostO o else o
  nodup : al.Nodup
  alloc : ∀ i ∈ al, i < n ∧ ∃ o T, ops[i]? = some o ∧ o.op = .alloc T ∧ o.guard = none ∧ Zr P T (zs i)
  apart : ∀ j o, j < n → ops[j]? = some o → j ∉ al → ∀ i ∈ al, ∀ t, (ops[i]?).bind (·.dst) = some t → t ∉ o.looksAt ops
  dsts : ∀ i j oi oj, i < n → j < n → ops[i]? = some oi → ops[j]? = some oj → i ≠ j → ∀ t, oi.dst = some t → oj.dst ≠ some t

theorem FreeH.hget {n : Nat} {al late : List Nat} {zs : Nat → Array Value} (F : FreeH P md ops hd n al late zs) {j : Nat} (hj : j < n) {o : Oper} (ho : ops[j]? = some o) :
    ∃ o', hd[j]? = some o' ∧ o'.dst = o.dst ∧ o'.after = o.after ∧ o'.guard = o.guard ∧ (j ∉ al → o' = o) ∧ (j ∈ al → o' = ghostO o) := by
  have h := F.get j hj
  rw [ho] at h
  refine ⟨_, h, ?_⟩
  simp only
  by_cases hc : j ∈ al
  · simp [hc, ghostO]
  · simp [hc]

theorem FreeH.yields {n : Nat} {al late : List Nat} {zs : Nat → Array Value} (F : FreeH P md ops hd n al late zs) {i : Nat} (hi : i < n) {o : Oper} (ho : ops[i]? = some o) (t : Array Value) :
    Region.wanted o (yielded hd t) = Region.wanted o (yielded ops t) := by
  have hs := headB_spec F.head hi ho
  have hy : ∀ g b, o.guard = some (g, b) → yielded hd t g = yielded ops t g := fun g b hg => by
    have hg' := hs.1 g b hg
    obtain ⟨og, hog⟩ : ∃ og, ops[g]? = some og := ⟨_, Array.getElem?_eq_getElem (by have := F.hn; omega)⟩
    obtain ⟨o', h1, h2, _⟩ := F.hget (by omega) hog
    unfold yielded
    rw [h1, hog]
    simp [h2]
  unfold Region.wanted
  split
  · rfl
  · rename_i g b hg
    rw [hy g b hg]

theorem FreeH.ready {n : Nat} {al late : List Nat} {zs : Nat → Array Value} (F : FreeH P md ops hd n al late zs) {lh la : Array Bool} (hlz : lh.size = n) (inv : HeadInv md ops n la) (hll : ∀ j, j < n → la.getD j true = lh.getD j true) :
    ∀ i, i < n → (i ∈ Region.ready md ops la ↔ i ∈ Region.ready md hd lh) := by
  have hb : ∀ j, j < n → lh.getD j false = la.getD j false := fun j hj => by
    have h1 : la.getD j true = la.getD j false := by
      have : j < la.size := by rw [inv.size]; have := F.hn; omega
      simp [this]
    have : j < lh.size := by omega
    rw [← h1, hll j hj]
    simp [this]
  intro i hi
  obtain ⟨o, ho⟩ : ∃ o, ops[i]? = some o := ⟨_, Array.getElem?_eq_getElem (by have := F.hn; omega)⟩
  obtain ⟨o', h1, _, h3, _⟩ := F.hget hi ho
  rw [mem_ready, mem_ready, hll i hi]
  refine and_congr_right fun _ => ⟨fun ⟨x, hx, h⟩ => ⟨o', h1, fun e he hbi => ?_⟩, fun ⟨x, hx, h⟩ => ⟨o, ho, fun e he hbi => ?_⟩⟩
  · have hxo : x = o := Option.some.inj (hx.symm.trans ho)
    subst hxo
    have := (headB_spec F.head hi ho).2 e (h3 ▸ he) hbi
    rw [hb e.on (by omega)]; exact h e (h3 ▸ he) hbi
  · have hxo : x = o' := Option.some.inj (hx.symm.trans h1)
    subst hxo
    have := (headB_spec F.head hi ho).2 e he hbi
    rw [← hb e.on (by omega)]; exact h e (h3 ▸ he) hbi

/-- The operations behind the head wait while one of the head that is not late has not come up. -/
theorem FreeH.waits {n : Nat} {al late : List Nat} {zs : Nat → Array Value} (F : FreeH P md ops hd n al late zs) {la : Array Bool} (inv : HeadInv md ops n la) : ∀ (d i : Nat), n - i = d → i < n → i ∉ late → la.getD i true = false → ∀ t, n ≤ t → t ∉ Region.ready md ops la := by
  intro d
  induction d using Nat.strongRecOn with
  | _ d ih =>
    intro i hd hi hil hun t ht hr
    obtain ⟨_, ot, hot, hall⟩ := mem_ready.1 hr
    have htlt : t < ops.size := (Array.getElem?_eq_some_iff.1 hot).1
    by_cases htn : t = n
    · subst htn
      obtain ⟨j, hij, hjn, hjl, hw⟩ := F.sink i hi hil
      obtain ⟨oj, hoj, e, he, hb, hon⟩ := Region.waitsFor_spec hw
      by_cases hjt : j = t
      · subst hjt
        have : oj = ot := Option.some.inj (hoj.symm.trans hot)
        subst this
        have h2 := hall e he hb
        rw [hon, getD_both hun] at h2
        cases h2
      · cases hl : la.getD j false with
        | true =>
          have h2 := inv.closed j oj hoj hl e he hb
          rw [hon, getD_both hun] at h2
          cases h2
        | false => exact ih (t - j) (by omega) j rfl (by omega) hjl (getD_in (by rw [inv.size]; omega) hl) t (Nat.le_refl _) hr
    · have h1 := List.all_eq_true.1 F.chain t (List.mem_range.2 htlt)
      simp only [Bool.or_eq_true, decide_eq_true_eq] at h1
      rcases h1 with h1 | h1
      · omega
      · obtain ⟨o', ho', e, he, hb, hon⟩ := Region.waitsFor_spec h1
        have : o' = ot := Option.some.inj (ho'.symm.trans hot)
        subst this
        have h2 := hall e he hb
        rw [hon, getD_both (inv.tail (t - 1) (by omega) (by omega))] at h2
        cases h2

/-- All that is late has come up, or can: else something that is not late has not. -/
theorem FreeH.low {n : Nat} {al late : List Nat} {zs : Nat → Array Value} (F : FreeH P md ops hd n al late zs) {la : Array Bool} (inv : HeadInv md ops n la) (hno : ∀ i ∈ late, i ∉ Region.ready md ops la) :
    ∀ i, i < n → la.getD i true = false → ∀ t, t ∈ Region.ready md ops la → t < n := by
  intro i
  induction i using Nat.strongRecOn with
  | _ i ih =>
    intro hi hun t ht
    by_cases hil : i ∈ late
    · obtain ⟨o, ho⟩ : ∃ o, ops[i]? = some o := ⟨_, Array.getElem?_eq_getElem (by have := F.hn; omega)⟩
      have hs := headB_spec F.head hi ho
      have hnr := hno i hil
      have : ∃ e ∈ o.after, Region.binds md e = true ∧ la.getD e.on false ≠ true := by
        refine Classical.byContradiction fun hc => hnr (mem_ready.2 ⟨hun, o, ho, fun e he hb => ?_⟩)
        exact Classical.byContradiction fun h => hc ⟨e, he, hb, h⟩
      obtain ⟨e, he, hb, hl⟩ := this
      have hlt := hs.2 e he hb
      exact ih e.on hlt (by omega) (getD_in (by rw [inv.size]; have := F.hn; omega) (by simpa using hl)) t ht
    · rcases Nat.lt_or_ge t n with h' | h'
      · exact h'
      · exact absurd ht (F.waits inv _ i rfl hi hil hun t h')

theorem extract_yields {o : Oper} {x : Operand} {k : Nat} (hop : o.op = .extract x k) (hg : o.guard = none) {a : Act} {C : World → Prop} {w : World} {v : Value} (h : o.quietAt P a C w v) : Yields P ops o v a := by
  refine .inl ⟨by unfold Region.wanted; rw [hg], fun w' => ?_⟩
  have e : execOp a.eval o = (do pure (Next.value (← Instr.extract (a.eval x) k)) : Sem Next) := by unfold execOp; rw [hop]
  unfold Oper.quietAt at h
  rw [e] at h ⊢
  simp only [Sem.run_bind, Sem.run_pure] at h ⊢
  unfold Instr.extract at h ⊢
  cases hx : a.eval x <;> rw [hx] at h <;> simp only at h ⊢
  case tuple vs =>
    cases hv : vs[k]? <;> rw [hv] at h <;> simp only [Sem.run_pure, Result.andThen_ok] at h ⊢
    case none => exact absurd h (by simp [stuck, go_sem, Oper.quietUpon])
    case some u =>
      simp only [Oper.quietUpon] at h
      rw [h.2]
  all_goals exact absurd h (by simp [stuck, go_sem, Oper.quietUpon])

theorem free_any {n g : Nat} {al late : List Nat} {zs : Nat → Array Value} {Q' : Exit → Act → World → Prop} {full : Array Bool} {w0 : World} {agf : Act} (F : FreeH P md ops hd n al late zs)
    (hpan : ∀ (d : Option Tmp) v c a w, Q' (.panic c) (a.put d v) w → Q' (.panic c) a w)
    (hfz : full.size = ops.size) (hf : ∀ j, j < ops.size → full.getD j true = decide (j < n))
    (hQ : ∀ bf w, Below w0.heap.size w0 w → (∀ i ∈ al, ∃ b, bf i = some b ∧ BoxL w b (zs i) ∧ w0.heap.size ≤ b) → (∀ i ∈ al, ∀ j ∈ al, i ≠ j → ∀ b, bf i = some b → bf j ≠ some b) → wpAny P md ops Q' g full (over P ops bf al agf) w) :
    ∀ (f : Nat) (lh la : Array Bool) (ag : Act) (bf : Nat → Option Nat) (w : World), lh.size = n → HeadInv md ops n la → (∀ j, j < n → la.getD j true = lh.getD j true) → Below w0.heap.size w0 w →
      (∀ i ∈ al, la.getD i true = false → bf i = none) → (∀ i ∈ al, la.getD i true = true → ∃ b, bf i = some b ∧ BoxL w b (zs i) ∧ w0.heap.size ≤ b) → (∀ i ∈ al, ∀ j ∈ al, i ≠ j → ∀ b, bf i = some b → bf j ≠ some b) →
      (∀ W, Below w.heap.size w W → wpAnyQ P md hd (CL W) (fun a' => a' = agf) f lh ag) → wpAny P md ops Q' (f + g) la (over P ops bf al ag) w := by
  have fin : ∀ (f : Nat) (la : Array Bool) (bf : Nat → Option Nat) (w : World), HeadInv md ops n la → (∀ j, j < n → la.getD j true = true) → Below w0.heap.size w0 w →
      (∀ i ∈ al, la.getD i true = true → ∃ b, bf i = some b ∧ BoxL w b (zs i) ∧ w0.heap.size ≤ b) → (∀ i ∈ al, ∀ j ∈ al, i ≠ j → ∀ b, bf i = some b → bf j ≠ some b) → wpAny P md ops Q' (f + g) la (over P ops bf al agf) w := by
    intro f la bf w inv hall hB hx hy
    have : la = full := by
      refine Array.ext (inv.size.trans hfz.symm) fun j h1 h2 => ?_
      have hjo : j < ops.size := by rw [← inv.size]; exact h1
      have e1 : la.getD j true = full.getD j true := by
        rw [hf j hjo]
        by_cases hj : j < n
        · rw [hall j hj]; simp [hj]
        · rw [inv.tail j (by omega) hjo]; simp [hj]
      simpa [h1, h2] using e1
    subst this
    exact any_more' g (hQ bf w hB (fun i hi => hx i hi (hall i (F.alloc i hi).1)) hy) f
  have step : ∀ (lh la : Array Bool), lh.size = n → HeadInv md ops n la → (∀ j, j < n → la.getD j true = lh.getD j true) → (∀ j, j < n → la.getD j true = true) ∨ (Region.ready md hd lh ≠ [] ∧ ∃ i, i < n ∧ la.getD i true = false) := by
    intro lh la hlz inv hll
    by_cases hall : ∀ j, j < n → la.getD j true = true
    · exact .inl hall
    · obtain ⟨i, hi⟩ := Classical.not_forall.1 hall
      obtain ⟨hi, hun⟩ := Classical.not_imp.1 hi
      have hun' : la.getD i true = false := by simpa using hun
      obtain ⟨k, hk, hkr⟩ := head_ready F.head (by have := F.hn; omega) i hi hun' (fun j hj => by
        have : j < la.size := by rw [inv.size]; have := F.hn; omega
        simp [this])
      have := (F.ready hlz inv hll k hk).1 hkr
      exact .inr ⟨fun h => (by rw [h] at this; cases this), i, hi, hun'⟩
  intro f
  induction f with
  | zero =>
    intro lh la ag bf w hlz inv hll hB hb0 hb1 hbd h
    rcases step lh la hlz inv hll with hall | ⟨hne, _⟩
    · have := (h w (Below.refl _ _)).2
      subst this
      exact fin 0 la bf w inv hall hB hb1 hbd
    · exact absurd (h w (Below.refl _ _)).1 hne
  | succ f ih =>
    intro lh la ag bf w hlz inv hll hB hb0 hb1 hbd h
    rcases step lh la hlz inv hll with hall | ⟨hne, i0, hi0, hun0⟩
    · have hag : ag = agf := by
        refine (h w (Below.refl _ _)).1 (List.eq_nil_iff_forall_not_mem.2 fun j hj => ?_)
        have hjn : j < n := by
          obtain ⟨_, o, ho, _⟩ := mem_ready.1 hj
          have := (Array.getElem?_eq_some_iff.1 ho).1
          rw [F.hsz] at this
          exact this
        have h1 := (mem_ready.1 hj).1
        rw [← hll j hjn, hall j hjn] at h1
        cases h1
      subst hag
      exact fin (f + 1) la bf w inv hall hB hb1 hbd
    · rw [show f + 1 + g = (f + g) + 1 by omega]
      have core : ∀ i, i ∈ Region.ready md ops la → i < n → i ∉ al → ∃ o, ops[i]? = some o ∧ hd[i]? = some o ∧
          execOp (over P ops bf al ag).eval o = execOp ag.eval o ∧ Region.wanted o (yielded ops (over P ops bf al ag).tmps) = Region.wanted o (yielded ops ag.tmps) ∧ Region.wanted o (yielded hd ag.tmps) = Region.wanted o (yielded ops ag.tmps) ∧
          (∀ v, (over P ops bf al ag).put o.dst v = over P ops bf al (ag.put o.dst v)) ∧
          (∀ v w', Below w.heap.size w w' → (∀ W, Below w'.heap.size w' W → wpAnyQ P md hd (CL W) (fun a' => a' = agf) f (lh.setIfInBounds i true) (ag.put o.dst v)) → wpAny P md ops Q' (f + g) (la.setIfInBounds i true) (over P ops bf al (ag.put o.dst v)) w') ∧
          (∀ v, wpAnyQ P md hd (CL w) (fun a' => a' = agf) f (lh.setIfInBounds i true) (ag.put o.dst v) → Region.wanted o (yielded ops ag.tmps) = true → ∀ W, Below w.heap.size w W → wpAnyQ P md hd (CL W) (fun a' => a' = agf) f (lh.setIfInBounds i true) (ag.put o.dst v)) := by
        intro i hi hin hal
        have hir := (F.ready hlz inv hll i hin).1 hi
        obtain ⟨hun, o, ho, _⟩ := mem_ready.1 hi
        obtain ⟨o', ho', hdst, haft, hgd, hno, hyes⟩ := F.hget hin ho
        have eo := hno hal
        subst eo
        have hsel := Region.noSelect_spec F.sel i o'
        have hap : ∀ j ∈ al, ∀ t, (ops[j]?).bind (·.dst) = some t → t ∉ o'.looksAt ops := fun j hj t ht => F.apart i o' hin ho hal j hj t ht
        have hex := over_exec (P := P) (bf := bf) (fun cs b => hsel cs b ho) al ag hap
        have hyl := F.yields hin ho ag.tmps
        have hset : ∀ j, j ≠ i → (la.setIfInBounds i true).getD j true = la.getD j true := fun j hj => getD_set_ne true (Ne.symm hj)
        have hslot : ∀ t, o'.dst = some t → ∀ j oj, hd[j]? = some oj → (lh.setIfInBounds i true).getD j true = false → oj.dst ≠ some t := fun t ht j oj hj hl e => by
          have hji : j ≠ i := fun e => by
            subst e
            have h2 : j < lh.size := by omega
            simp [h2] at hl
          have hjn : j < n := by have := (Array.getElem?_eq_some_iff.1 hj).1; rw [F.hsz] at this; exact this
          obtain ⟨oj', hoj'⟩ : ∃ x, ops[j]? = some x := ⟨_, Array.getElem?_eq_getElem (by have := F.hn; omega)⟩
          obtain ⟨x, hx, hxd, _⟩ := F.hget hjn hoj'
          have : x = oj := Option.some.inj (hx.symm.trans hj)
          subst this
          exact F.dsts i j o' oj' hin hjn ho hoj' (Ne.symm hji) t ht (hxd ▸ e)
        refine ⟨o', ho, ho', hex.1, hex.2, hyl, fun v => over_put al ag fun j hj t ht e => ?_, fun v w' hw' hq' => ?_, fun v hn hw W hW => ?_⟩
        · obtain ⟨hjn, oj, Tj, hoj, _⟩ := F.alloc j hj
          rw [hoj] at e
          exact F.dsts i j o' oj hin hjn ho hoj (fun e => hal (e ▸ hj)) t ht e
        · refine ih _ _ _ _ _ (by simpa using hlz) (inv.set hi hin) (fun j hj => ?_) (hB.trans (hw'.mono hB.size)) (fun j hj hl => ?_) (fun j hj hl => ?_) hbd hq'
          · by_cases hij : i = j
            · subst hij
              have h1 : i < la.size := by rw [inv.size]; have := F.hn; omega
              have h2 : i < lh.size := by omega
              simp [h1, h2]
            · rw [getD_set_ne true hij, getD_set_ne true hij]; exact hll j hj
          · rw [hset j (fun e => hal (e ▸ hj))] at hl
            exact hb0 j hj hl
          · rw [hset j (fun e => hal (e ▸ hj))] at hl
            obtain ⟨b, h1, h2, h3⟩ := hb1 j hj hl
            exact ⟨b, h1, h2.keep hw', h3⟩
        · have h3 := (h W hW).2 i hir
          unfold qOp at h3
          simp only [ho', hyl, hw, if_true] at h3
          obtain ⟨u, _, hu⟩ := h3
          have : ag.put o'.dst u = ag.put o'.dst v := put_same (fun t ht => anyQ_keeps f _ _ t (hslot t ht) hu) (fun t ht => (anyQ_keeps f _ _ t (hslot t ht) hn).1)
          rw [← this]
          exact hu
      by_cases hlate : ∃ i ∈ late, i ∈ Region.ready md ops la
      · obtain ⟨i, hil, hi⟩ := hlate
        obtain ⟨hin, hal, o2, x, k, ho2, hop, hg⟩ := F.lates i hil
        obtain ⟨o', ho, ho', he1, he2, hyl, hput, hnext, hsame⟩ := core i hi hin hal
        have : o2 = o' := Option.some.inj (ho2.symm.trans ho)
        subst this
        have hw : Region.wanted o2 (yielded ops ag.tmps) = true := by unfold Region.wanted; rw [hg]
        have h2 := (h w (Below.refl _ _)).2 i ((F.ready hlz inv hll i hin).1 hi)
        unfold qOp at h2
        simp only [ho', hyl, hw, if_true] at h2
        obtain ⟨v, hv, hn⟩ := h2
        have hy : Yields P ops o2 v (over P ops bf al ag) := (extract_yields hop hg (hv w (CL.self w))).of_same he1 he2
        refine wpAny_first ho (Region.noSelect_spec F.sel) (fun c a w => hpan _ _ c a w) (f + g) la (over P ops bf al ag) w (fun j oj hoj hji hl hnot => ?_) hi hy ?_
        · refine F.lfree i hil o2 j oj ho hoj hji (fun e he hb heq => ?_) hnot
          obtain ⟨_, o3, ho3, hall⟩ := mem_ready.1 hi
          have : o3 = o2 := Option.some.inj (ho3.symm.trans ho)
          subst this
          have h4 := hall e he hb
          rw [heq, getD_both hl] at h4
          cases h4
        · rw [hput v]
          exact hnext v w (Below.refl _ _) (hsame v hn hw)
      have hlow := F.low inv (fun i hi hr => hlate ⟨i, hi, hr⟩) i0 hi0 hun0
      refine ⟨fun h0 => ?_, fun i hi => ?_⟩
      · exfalso
        apply hne
        refine List.eq_nil_iff_forall_not_mem.2 fun j hj => ?_
        have hjn : j < n := by
          obtain ⟨_, o, ho, _⟩ := mem_ready.1 hj
          have := (Array.getElem?_eq_some_iff.1 ho).1
          rw [F.hsz] at this
          exact this
        have := (F.ready hlz inv hll j hjn).2 hj
        rw [h0] at this
        cases this
      · have hin := hlow i hi
        have hir := (F.ready hlz inv hll i hin).1 hi
        obtain ⟨hun, o, ho, _⟩ := mem_ready.1 hi
        obtain ⟨o', ho', hdst, haft, hgd, hno, hyes⟩ := F.hget hin ho
        have hq : ∀ W, Below w.heap.size w W → qOp P hd (CL W) i (wpAnyQ P md hd (CL W) (fun a' => a' = agf) f (lh.setIfInBounds i true)) ag := fun W hW => (h W hW).2 i hir
        have hlz' : (lh.setIfInBounds i true).size = n := by simpa using hlz
        have hll' : ∀ j, j < n → (la.setIfInBounds i true).getD j true = (lh.setIfInBounds i true).getD j true := fun j hj => by
          by_cases hij : i = j
          · subst hij
            have h1 : i < la.size := by rw [inv.size]; have := F.hn; omega
            have h2 : i < lh.size := by omega
            simp [h1, h2]
          · rw [getD_set_ne true hij, getD_set_ne true hij]; exact hll j hj
        have inv' := inv.set hi hin
        have hset : ∀ j, j ≠ i → (la.setIfInBounds i true).getD j true = la.getD j true := fun j hj => getD_set_ne true (Ne.symm hj)
        have hseti : (la.setIfInBounds i true).getD i true = true := by
          have h1 : i < la.size := by rw [inv.size]; have := F.hn; omega
          simp [h1]
        by_cases hal : i ∈ al
        · obtain ⟨_, o2, T, ho2, hop, hg, hz⟩ := F.alloc i hal
          have : o2 = o := Option.some.inj (ho2.symm.trans ho)
          subst this
          have hbi := hb0 i hal hun
          have hwant : ∀ y, Region.wanted o2 y = true := fun y => by unfold Region.wanted; rw [hg]
          unfold wpOp
          simp only [ho, hwant, if_true]
          left
          unfold Oper.wp
          have hrun : (execOp (over P ops bf al ag).eval o2).run P w = .ok (.value (.pointer (some ⟨w.heap.size, 0, none⟩))) (w.alloc (.cells (zs i) T)) := by
            have e1 : execOp (over P ops bf al ag).eval o2 = (do pure (Next.value (← Instr.alloc T true (.tuple #[]))) : Sem Next) := by unfold execOp; rw [hop]
            rw [e1]
            exact run_value_of (hz w)
          rw [hrun]
          show wpAny P md ops Q' (f + g) (la.setIfInBounds i true) ((over P ops bf al ag).put o2.dst (.pointer (some ⟨w.heap.size, 0, none⟩))) (w.alloc (.cells (zs i) T))
          have hdo : (ops[i]?).bind (·.dst) = o2.dst := by rw [ho]; rfl
          rw [← hdo, over_set hbi al ag hal F.nodup fun j hj hji t ht e => by
            obtain ⟨hjn, oj, Tj, hoj, _⟩ := F.alloc j hj
            rw [hdo] at ht
            rw [hoj] at e
            exact F.dsts i j o2 oj hin hjn ho hoj (Ne.symm hji) t ht e]
          have hBa : Below w.heap.size w (w.alloc (.cells (zs i) T)) := (Below.refl _ w).alloc (Nat.le_refl _) _
          refine ih _ _ _ _ _ hlz' inv' hll' (hB.trans (hBa.mono hB.size)) ?_ ?_ ?_ ?_
          · intro j hj hl
            have hji : j ≠ i := fun e => by rw [e, hseti] at hl; cases hl
            rw [hset j hji] at hl
            simp only [upd, if_neg hji]
            exact hb0 j hj hl
          · intro j hj hl
            by_cases hji : j = i
            · subst hji
              exact ⟨w.heap.size, by simp [upd], BoxL.new w _ T, hB.size⟩
            · rw [hset j hji] at hl
              obtain ⟨b, h1, h2, h3⟩ := hb1 j hj hl
              exact ⟨b, by simp only [upd, if_neg hji]; exact h1, h2.keep hBa, h3⟩
          · have hlt : ∀ j ∈ al, ∀ b, bf j = some b → b < w.heap.size := fun j hj b hb => by
              cases hl : la.getD j true with
              | false => rw [hb0 j hj hl] at hb; cases hb
              | true =>
                obtain ⟨b', h1, h2, _⟩ := hb1 j hj hl
                rw [hb] at h1
                cases h1
                exact h2.lt
            intro j hj k hk hjk b h1 h2
            simp only [upd] at h1 h2
            by_cases hji : j = i
            · rw [if_pos hji] at h1
              rw [if_neg (fun e => hjk (hji.trans e.symm))] at h2
              cases h1
              have := hlt k hk _ h2
              omega
            · rw [if_neg hji] at h1
              by_cases hki : k = i
              · rw [if_pos hki] at h2
                cases h2
                have := hlt j hj _ h1
                omega
              · rw [if_neg hki] at h2
                exact hbd j hj k hk hjk b h1 h2
          · intro W hW
            have hWw : Below w.heap.size w W := hBa.trans (hW.mono hBa.size)
            have h2 := hq W hWw
            have eo := hyes hal
            subst eo
            unfold qOp at h2
            have hwant' : ∀ y, Region.wanted (ghostO o2) y = true := fun y => by unfold Region.wanted ghostO; simp only; rw [hg]
            simp only [ho', hwant', if_true] at h2
            obtain ⟨v, hv, hn⟩ := h2
            have h3 := hv W (CL.self W)
            unfold Oper.quietAt ghostO execOp at h3
            have hv' : v = undef := h3.2.symm
            subst hv'
            rw [hdo]
            exact hn
        · obtain ⟨o3, ho3, ho3', he1, he2, hyl, hput, hnext, hsame⟩ := core i hi hin hal
          unfold wpOp
          simp only [ho3]
          rw [he2]
          by_cases hw : Region.wanted o3 (yielded ops ag.tmps) = true
          · rw [if_pos hw]
            left
            have h2 := hq w (Below.refl _ _)
            unfold qOp at h2
            simp only [ho3', hyl, hw, if_true] at h2
            obtain ⟨v, hv, hn⟩ := h2
            refine Oper.wp_of_quiet (C := CL w) (K := fun a' => a' = (over P ops bf al ag).put o3.dst v) (CL.self w) ?_ ⟨v, fun w' hw' => by unfold Oper.quietAt; rw [he1]; exact hv w' hw', rfl⟩
            intro a' w' hw' ha'
            subst ha'
            rw [hput v]
            exact hnext v w' hw'.below fun W hW => hsame v hn hw W (hw'.below.trans (hW.mono hw'.below.size))
          · rw [if_neg hw]
            rw [hput undef]
            refine hnext undef w (Below.refl _ _) fun W hW => ?_
            have h3 := hq W hW
            unfold qOp at h3
            simp only [ho3', hyl, hw] at h3
            exact h3
end

end Fr
end Go.Proofs.Ytojkaaglmdfcnaa

namespace Go.Proofs.Ytojkaaglmdfcnaa
open Go.RowKit
namespace Fr
set_option linter.unusedVariables false

/-- What is asked of a region: the first n operations in any order (those of al make blocks), the others in one. -/
def freeB (md : Region.Mode) (l : List Oper) (n : Nat) (al late : List Nat) : Bool :=
  decide (n < l.length) && ((List.range n).all fun i => late.contains i || (List.range (n + 1)).any fun j => decide (i < j) && !late.contains j && Region.waitsFor md l.toArray j i) && Region.chainB md l.toArray n && headB md l.toArray n && Region.noSelect l.toArray && decide al.Nodup &&
    (al.all fun i => decide (i < n) && match l[i]? with
      | some o => o.guard.isNone && (match o.op with | .alloc _ => true | _ => false)
      | none => false) &&
    ((List.range n).all fun j => al.contains j || match l[j]? with
      | some o => al.all fun i => match (l[i]?).bind (·.dst) with
        | some d => !(o.looksAt l.toArray).contains d
        | none => true
      | none => true) &&
    ((List.range n).all fun i => (List.range n).all fun j => i == j || match l[i]?, l[j]? with
      | some oi, some oj => (match oi.dst with | some t => !(oj.dst == some t) | none => true)
      | _, _ => true) &&
    (late.all fun i => decide (i < n) && !al.contains i && match l[i]? with
      | some oi => oi.guard.isNone && (match oi.op with | .extract _ _ => true | _ => false) && ((List.range l.length).all fun j => j == i || oi.after.any (fun e => Region.binds md e && e.on == j) || match l[j]? with
        | some oj => oj.after.any (fun e => Region.binds md e && e.on == i) || oi.apart l.toArray oj
        | none => true)
      | none => false) &&
    Region.lexB md (ghostL al 0 (l.take n)).toArray &&
    Region.seqB md l.toArray (l.length - n) n (Array.replicate n true ++ Array.replicate (l.length - n) false)

theorem freeH_of {P : Program} {md : Region.Mode} {l : List Oper} {n : Nat} {al late : List Nat} {zs : Nat → Array Value} (hB : freeB md l n al late = true)
    (hz : ∀ i ∈ al, ∀ T, (l[i]?).map (·.op) = some (.alloc T) → Zr P T (zs i)) : FreeH P md l.toArray (ghostL al 0 (l.take n)).toArray n al late zs := by
  simp only [freeB, Bool.and_eq_true, decide_eq_true_eq] at hB
  obtain ⟨⟨⟨⟨⟨⟨⟨⟨⟨⟨⟨hn, hs⟩, hc⟩, hh⟩, hsel⟩, hnd⟩, hal⟩, hap⟩, hds⟩, hlt⟩, _⟩, _⟩ := hB
  refine ⟨by simp [ghostL_length]; omega, by simpa using hn, fun i hi hil => ?_, fun i hi => ?_, fun i hi oi j oj hoi hoj hji h1 h2 => ?_, hc, hh, hsel, fun j hj => ?_, hnd, fun i hi => ?_, fun j o hj ho hja i hi t ht => ?_, fun i j oi oj hi hj hoi hoj hij t ht e => ?_⟩
  · have h1 := List.all_eq_true.1 hs i (List.mem_range.2 hi)
    simp only [Bool.or_eq_true, List.contains_iff_mem] at h1
    rcases h1 with h1 | h1
    · exact absurd h1 hil
    · obtain ⟨j, hj, h2⟩ := List.any_eq_true.1 h1
      simp only [Bool.and_eq_true, decide_eq_true_eq, Bool.not_eq_true'] at h2
      exact ⟨j, h2.1.1, by have := List.mem_range.1 hj; omega, by have := h2.1.2; simpa using this, h2.2⟩
  · have h1 := List.all_eq_true.1 hlt i hi
    simp only [Bool.and_eq_true, decide_eq_true_eq] at h1
    obtain ⟨⟨h1, h2⟩, h3⟩ := h1
    refine ⟨h1, by simpa using h2, ?_⟩
    cases ho : l[i]? with
    | none => rw [ho] at h3; cases h3
    | some o =>
      rw [ho] at h3
      simp only [Bool.and_eq_true] at h3
      obtain ⟨⟨h4, h5⟩, _⟩ := h3
      cases hop : o.op <;> rw [hop] at h5 <;> simp only [Bool.false_eq_true] at h5
      exact ⟨o, _, _, by simpa using ho, hop, by simpa using h4⟩
  · have h3 := List.all_eq_true.1 hlt i hi
    simp only [Bool.and_eq_true] at h3
    have h4 := h3.2
    have hoi' : l[i]? = some oi := by simpa using hoi
    have hoj' : l[j]? = some oj := by simpa using hoj
    rw [hoi'] at h4
    simp only [Bool.and_eq_true] at h4
    have h5 := List.all_eq_true.1 h4.2 j (List.mem_range.2 (List.getElem?_eq_some_iff.1 hoj').1)
    simp only [hoj', Bool.or_eq_true, beq_iff_eq] at h5
    rcases h5 with (h5 | h5) | h5 | h5
    · exact absurd h5 hji
    · obtain ⟨e, he, hb⟩ := Array.any_eq_true'.1 h5
      simp only [Bool.and_eq_true, beq_iff_eq] at hb
      exact absurd hb.2 (h1 e he hb.1)
    · obtain ⟨e, he, hb⟩ := Array.any_eq_true'.1 h5
      simp only [Bool.and_eq_true, beq_iff_eq] at hb
      exact absurd hb.2 (h2 e he hb.1)
    · exact h5
  · rw [List.getElem?_toArray, ghostL_get]
    simp [hj]
  · have h1 := List.all_eq_true.1 hal i hi
    simp only [Bool.and_eq_true, decide_eq_true_eq] at h1
    obtain ⟨h1, h2⟩ := h1
    refine ⟨h1, ?_⟩
    cases ho : l[i]? with
    | none => rw [ho] at h2; cases h2
    | some o =>
      rw [ho] at h2
      simp only [Bool.and_eq_true] at h2
      obtain ⟨h3, h4⟩ := h2
      cases hop : o.op <;> rw [hop] at h4 <;> simp only [Bool.false_eq_true] at h4
      rename_i T
      exact ⟨o, T, by simpa using ho, hop, by simpa using h3, hz i hi T (by rw [ho]; simp [hop])⟩
  · have h1 := List.all_eq_true.1 hap j (List.mem_range.2 hj)
    have ho' : l[j]? = some o := by simpa using ho
    simp only [ho', Bool.or_eq_true, List.contains_iff_mem] at h1
    rcases h1 with h1 | h1
    · exact absurd h1 hja
    · have h2 := List.all_eq_true.1 h1 i hi
      have ht' : (l[i]?).bind (·.dst) = some t := by simpa using ht
      rw [ht'] at h2
      simpa using h2
  · have h1 := List.all_eq_true.1 (List.all_eq_true.1 hds i (List.mem_range.2 hi)) j (List.mem_range.2 hj)
    have hoi' : l[i]? = some oi := by simpa using hoi
    have hoj' : l[j]? = some oj := by simpa using hoj
    simp only [hoi', hoj', ht, Bool.or_eq_true, beq_iff_eq] at h1
    rcases h1 with h1 | h1
    · exact hij h1
    · simp [e] at h1

theorem wp_region_free {P : Program} {id : Nat} {Q : Exit → Act → World → Prop} {a : Act} {w : World} {l : List Oper} (n : Nat) (al late : List Nat) (zs : Nat → Array Value) (agf : Act) (hm : P.follows .mixedOrders = true) (hB : freeB .any l n al late = true) (hpan : ∀ (d : Option Tmp) v c a w, Q (.panic c) (a.put d v) w → Q (.panic c) a w)
    (hz : ∀ i ∈ al, ∀ T, (l[i]?).map (·.op) = some (.alloc T) → Zr P T (zs i))
    (h1 : ∀ W, Below w.heap.size w W → wpQuiet P (ghostL al 0 (l.take n)).toArray (fun w' => ∃ p : Later W, w' = p.val) (fun a' => a' = agf) (ghostL al 0 (l.take n)) a)
    (h2 : ∀ bf w', Below w.heap.size w w' → (∀ i ∈ al, ∃ b, bf i = some b ∧ BoxL w' b (zs i) ∧ w.heap.size ≤ b) → (∀ i ∈ al, ∀ j ∈ al, i ≠ j → ∀ b, bf i = some b → bf j ≠ some b) → wpList P l.toArray Q (l.drop n) (over P l.toArray bf al agf) w') :
    (Code.region id l.toArray true).wp P Q a w := by
  have F := freeH_of (P := P) hB hz
  simp only [freeB, Bool.and_eq_true, decide_eq_true_eq] at hB
  obtain ⟨⟨⟨_, _⟩, hlex⟩, hq⟩ := hB
  simp only [Region.lexB, Bool.and_eq_true] at hlex
  have hn : n < l.length := by simpa using F.hn
  have hsz : (ghostL al 0 (l.take n)).length = n := by simp [ghostL_length]; omega
  refine wp_region_any hm ?_
  have inv0 : HeadInv .any l.toArray n (Array.replicate l.toArray.size false) :=
    ⟨by simp, fun j oj _ hl => (by rw [getD_replicate_false] at hl; cases hl), fun t _ ht => getD_in (by simpa using ht) (getD_replicate_false _ _)⟩
  have hun : ∀ i, i < n → (Array.replicate l.toArray.size false).getD i true = false := fun i hi => getD_in (by simp; omega) (getD_replicate_false _ _)
  have := free_any (P := P) (md := .any) (g := l.length - n) (Q' := Q) (full := Array.replicate n true ++ Array.replicate (l.length - n) false) (w0 := w) (agf := agf) F hpan
    (by simp; omega) (fun j hj => by
      have hj' : j < l.length := by simpa using hj
      by_cases h1 : j < n
      · simp [h1, Array.getElem?_append]
      · have h2 : j - n < l.length - n := by omega
        simp [h1, Array.getElem?_append, h2])
    (fun bf w' hb hx hy => by
      have := wpAny_of_seq (md := .any) (Q' := Q) (l.drop n) n (Array.replicate n true ++ Array.replicate (l.length - n) false) (over P l.toArray bf al agf) w' (fun j => by simp [List.getElem?_drop]) (by rw [List.length_drop]; exact hq) (h2 bf w' hb hx hy)
      rwa [List.length_drop] at this)
    (ghostL al 0 (l.take n)).length (Array.replicate n false) (Array.replicate l.toArray.size false) a (fun _ => none) { w with drawn := w.drawn + 1 } (by simp) inv0 (fun j hj => by
      rw [hun j hj, getD_in (by simpa using hj) (getD_replicate_false _ _)]) ((Below.refl _ w).drew) (fun _ _ _ => rfl) (fun i hi hl => by
      rw [hun i (F.alloc i hi).1] at hl; cases hl) (fun _ _ _ _ _ _ h => by cases h) (fun W hW => by
      have hw1 : Below w.heap.size w W := ((Below.refl _ w).drew).trans hW
      have := wpAnyQ_lex (P := P) (C := CL W) (md := .any) hlex.1 (ghostL al 0 (l.take n)) 0 (Array.replicate n false) a (by simp) (by simpa [hsz] using hlex.2) (h1 W hw1)
      exact this)
  rw [over_none, hsz, show n + (l.length - n) = l.toArray.size by simp; omega] at this
  exact this

theorem wp_region_free1 {P : Program} {id : Nat} {Q : Exit → Act → World → Prop} {a : Act} {w : World} {l : List Oper} (n i : Nat) {di : Tmp} {T : TypeId} {z : Array Value} {agf : Act} (hz : Zr P T z) (hm : P.follows .mixedOrders = true) (late : List Nat) (hB : freeB .any l n [i] late = true) (hpan : ∀ (d : Option Tmp) v c a w, Q (.panic c) (a.put d v) w → Q (.panic c) a w) (hT : (l[i]?).map (·.op) = some (.alloc T)) (hdi : (l[i]?).bind (·.dst) = some di)
    (h1 : ∀ W, Below w.heap.size w W → wpQuiet P (ghostL [i] 0 (l.take n)).toArray (fun w' => ∃ p : Later W, w' = p.val) (fun a' => a' = agf) (ghostL [i] 0 (l.take n)) a)
    (h2 : ∀ b w', Below w.heap.size w w' → BoxL w' b z → w.heap.size ≤ b → wpList P l.toArray Q (l.drop n) (agf.put (some di) (.pointer (some ⟨b, 0, none⟩))) w') :
    (Code.region id l.toArray true).wp P Q a w := by
  refine wp_region_free n [i] late (fun _ => z) agf hm hB hpan (fun j hj T' hT' => ?_) h1 (fun bf w' hb hx _ => ?_)
  · have : j = i := by simpa using hj
    subst this
    rw [hT] at hT'
    cases hT'
    exact hz
  · obtain ⟨b, hb1, hb2, hb3⟩ := hx i (by simp)
    have := h2 b w' hb hb2 hb3
    simpa [over, hb1, hdi] using this

theorem wp_region_free2 {P : Program} {id : Nat} {Q : Exit → Act → World → Prop} {a : Act} {w : World} {l : List Oper} (n i j : Nat) {di dj : Tmp} {T U : TypeId} {z y : Array Value} {agf : Act} (hz : Zr P T z) (hy : Zr P U y) (hm : P.follows .mixedOrders = true) (late : List Nat) (hB : freeB .any l n [i, j] late = true) (hpan : ∀ (d : Option Tmp) v c a w, Q (.panic c) (a.put d v) w → Q (.panic c) a w) (hij : i ≠ j) (hT : (l[i]?).map (·.op) = some (.alloc T)) (hdi : (l[i]?).bind (·.dst) = some di) (hU : (l[j]?).map (·.op) = some (.alloc U)) (hdj : (l[j]?).bind (·.dst) = some dj)
    (h1 : ∀ W, Below w.heap.size w W → wpQuiet P (ghostL [i, j] 0 (l.take n)).toArray (fun w' => ∃ p : Later W, w' = p.val) (fun a' => a' = agf) (ghostL [i, j] 0 (l.take n)) a)
    (h2 : ∀ b c w', Below w.heap.size w w' → BoxL w' b z → BoxL w' c y → w.heap.size ≤ b → w.heap.size ≤ c → b ≠ c → wpList P l.toArray Q (l.drop n) ((agf.put (some di) (.pointer (some ⟨b, 0, none⟩))).put (some dj) (.pointer (some ⟨c, 0, none⟩))) w') :
    (Code.region id l.toArray true).wp P Q a w := by
  refine wp_region_free n [i, j] late (fun k => if k = i then z else y) agf hm hB hpan (fun k hk T' hT' => ?_) h1 (fun bf w' hb hx hd => ?_)
  · rcases (by simpa using hk : k = i ∨ k = j) with rfl | rfl
    · rw [hT] at hT'
      cases hT'
      simpa using hz
    · rw [hU] at hT'
      cases hT'
      simpa [Ne.symm hij] using hy
  · obtain ⟨b, hb1, hb2, hb3⟩ := hx i (by simp)
    obtain ⟨c, hc1, hc2, hc3⟩ := hx j (by simp)
    have hne : b ≠ c := fun e => by subst e; exact hd i (by simp) j (by simp) hij b hb1 hc1
    have := h2 b c w' hb (by simpa using hb2) (by simpa [Ne.symm hij] using hc2) hb3 hc3 hne
    simpa [over, hb1, hc1, hdi, hdj] using this

theorem wp_region_free3 {P : Program} {id : Nat} {Q : Exit → Act → World → Prop} {a : Act} {w : World} {l : List Oper} (n i j k : Nat) {di dj dk : Tmp} {T U V : TypeId} {z y x : Array Value} {agf : Act} (hz : Zr P T z) (hy : Zr P U y) (hx : Zr P V x) (hm : P.follows .mixedOrders = true) (late : List Nat) (hB : freeB .any l n [i, j, k] late = true) (hpan : ∀ (d : Option Tmp) v c a w, Q (.panic c) (a.put d v) w → Q (.panic c) a w) (hij : i ≠ j) (hik : i ≠ k) (hjk : j ≠ k) (hT : (l[i]?).map (·.op) = some (.alloc T)) (hdi : (l[i]?).bind (·.dst) = some di) (hU : (l[j]?).map (·.op) = some (.alloc U)) (hdj : (l[j]?).bind (·.dst) = some dj) (hV : (l[k]?).map (·.op) = some (.alloc V)) (hdk : (l[k]?).bind (·.dst) = some dk)
    (h1 : ∀ W, Below w.heap.size w W → wpQuiet P (ghostL [i, j, k] 0 (l.take n)).toArray (fun w' => ∃ p : Later W, w' = p.val) (fun a' => a' = agf) (ghostL [i, j, k] 0 (l.take n)) a)
    (h2 : ∀ b c d w', Below w.heap.size w w' → BoxL w' b z → BoxL w' c y → BoxL w' d x → w.heap.size ≤ b → w.heap.size ≤ c → w.heap.size ≤ d → b ≠ c → b ≠ d → c ≠ d → wpList P l.toArray Q (l.drop n) (((agf.put (some di) (.pointer (some ⟨b, 0, none⟩))).put (some dj) (.pointer (some ⟨c, 0, none⟩))).put (some dk) (.pointer (some ⟨d, 0, none⟩))) w') :
    (Code.region id l.toArray true).wp P Q a w := by
  refine wp_region_free n [i, j, k] late (fun m => if m = i then z else if m = j then y else x) agf hm hB hpan (fun m hk T' hT' => ?_) h1 (fun bf w' hb hx' hd => ?_)
  · rcases (by simpa using hk : m = i ∨ m = j ∨ m = k) with rfl | rfl | rfl
    · rw [hT] at hT'
      cases hT'
      simpa using hz
    · rw [hU] at hT'
      cases hT'
      simpa [Ne.symm hij] using hy
    · rw [hV] at hT'
      cases hT'
      simpa [Ne.symm hik, Ne.symm hjk] using hx
  · obtain ⟨b, hb1, hb2, hb3⟩ := hx' i (by simp)
    obtain ⟨c, hc1, hc2, hc3⟩ := hx' j (by simp)
    obtain ⟨d, hd1, hd2, hd3⟩ := hx' k (by simp)
    have n1 : b ≠ c := fun e => by subst e; exact hd i (by simp) j (by simp) hij b hb1 hc1
    have n2 : b ≠ d := fun e => by subst e; exact hd i (by simp) k (by simp) hik b hb1 hd1
    have n3 : c ≠ d := fun e => by subst e; exact hd j (by simp) k (by simp) hjk c hc1 hd1
    have := h2 b c d w' hb (by simpa using hb2) (by simpa [Ne.symm hij] using hc2) (by simpa [Ne.symm hik, Ne.symm hjk] using hd2) hb3 hc3 hd3 n1 n2 n3
    simpa [over, hb1, hc1, hd1, hdi, hdj, hdk] using this

end Fr
end Go.Proofs.Ytojkaaglmdfcnaa

namespace Go.Proofs.Ytojkaaglmdfcnaa
open Go.RowKit
namespace Fr
set_option linter.unusedVariables false

def setAll (b : Nat) : World → Nat → List Value → World
  | W, _, [] => W
  | W, i, v :: vs => setAll b (W.setCell ⟨b, i, none⟩ v) (i + 1) vs
theorem setAll_size (b : Nat) : ∀ (vs : List Value) (W : World) (i : Nat), (setAll b W i vs).heap.size = W.heap.size
  | [], _, _ => rfl
  | v :: vs, W, i => by unfold setAll; rw [setAll_size b vs]; simp
theorem setAll_frozen (b : Nat) (p : Addr) : ∀ (vs : List Value) (W : World) (i : Nat), (setAll b W i vs).frozen? p = W.frozen? p
  | [], _, _ => rfl
  | v :: vs, W, i => by unfold setAll; rw [setAll_frozen b p vs]; simp
theorem setAll_other (b : Nat) (p : Addr) (hp : ∀ j, p ≠ ⟨b, j, none⟩) : ∀ (vs : List Value) (W : World) (i : Nat), (setAll b W i vs).cell? p = W.cell? p
  | [], _, _ => rfl
  | v :: vs, W, i => by unfold setAll; rw [setAll_other b p hp vs]; exact World.cell?_setCell_other _ _ _ _ (fun e => hp i e.symm)
theorem setAll_low (b : Nat) (j : Nat) : ∀ (vs : List Value) (W : World) (i : Nat), j < i → (setAll b W i vs).cell? ⟨b, j, none⟩ = W.cell? ⟨b, j, none⟩
  | [], _, _, _ => rfl
  | v :: vs, W, i, h => by
    unfold setAll
    rw [setAll_low b j vs _ _ (by omega)]
    exact World.cell?_setCell_other _ _ _ _ (by intro e; have := congrArg Addr.off e; simp at this; omega)
theorem setAll_cell (b : Nat) : ∀ (vs : List Value) (W : World) (i k : Nat) (v : Value), vs[k]? = some v → (∀ j, j < vs.length → ∃ u, W.cell? ⟨b, i + j, none⟩ = some u) → (setAll b W i vs).cell? ⟨b, i + k, none⟩ = some v
  | [], _, _, _, _, h, _ => by simp at h
  | x :: vs, W, i, 0, v, h, hc => by
    unfold setAll
    have e : x = v := by simpa using h
    subst e
    obtain ⟨u, hu⟩ := hc 0 (by simp)
    have := World.cell?_setCell_same W ⟨b, i, none⟩ x (by simpa using hu)
    rw [← this]
    exact setAll_low b i vs _ _ (by omega)
  | x :: vs, W, i, k + 1, v, h, hc => by
    unfold setAll
    rw [show i + (k + 1) = (i + 1) + k by omega]
    refine setAll_cell b vs _ (i + 1) k v (by simpa using h) fun j hj => ?_
    obtain ⟨u, hu⟩ := hc (j + 1) (by simp; omega)
    refine ⟨u, ?_⟩
    rw [World.cell?_setCell_other _ _ _ _ (by intro e; have := congrArg Addr.off e; simp at this; omega)]
    rw [← hu]
    congr 2
    omega
theorem BoxL.setAll {W : World} {b : Nat} {zs : Array Value} (h : BoxL W b zs) (vs : List Value) (hl : vs.length = zs.size) : BoxL (setAll b W 0 vs) b vs.toArray :=
  ⟨by rw [setAll_size]; exact h.lt, fun i v hv => ⟨by
    have := setAll_cell b vs W 0 i v (by simpa using hv) fun j hj => by
      rw [Nat.zero_add]
      exact ⟨_, (h.cells j _ (Array.getElem?_eq_getElem (by omega))).1⟩
    rwa [Nat.zero_add] at this, by
    rw [setAll_frozen]
    have hi : i < vs.length := by have := (Array.getElem?_eq_some_iff.1 hv).1; simpa using this
    exact (h.cells i _ (Array.getElem?_eq_getElem (by omega))).2⟩⟩
theorem BoxL.setFar {W : World} {a b : Nat} {zs : Array Value} (h : BoxL W a zs) (hab : b ≠ a) (vs : List Value) (i : Nat) : BoxL (Fr.setAll b W i vs) a zs :=
  ⟨by rw [setAll_size]; exact h.lt, fun j v hv => ⟨by
    rw [setAll_other b _ (fun k e => hab (congrArg Addr.block e).symm)]; exact (h.cells j v hv).1, by rw [setAll_frozen]; exact (h.cells j v hv).2⟩⟩
theorem below_setAll {n : Nat} {w : World} {b : Nat} (hb : n ≤ b) : ∀ (vs : List Value) (W : World) (i : Nat), Below n w W → Below n w (setAll b W i vs)
  | [], _, _, h => h
  | v :: vs, W, i, h => below_setAll hb vs _ (i + 1) (h.setCell (p := ⟨b, i, none⟩) hb v)

section
variable {W V : World} {b : Nat} {x0 : Value}
theorem BoxL.c1 (h : BoxL W b #[x0]) : W.cell? ⟨b, 0, none⟩ = some x0 := (h.cells 0 _ rfl).1
theorem BoxL.f1 (h : BoxL W b #[x0]) : W.frozen? ⟨b, 0, none⟩ = false := (h.cells 0 _ rfl).2
theorem BoxL.l1 (h : BoxL W b #[x0]) (hV : Below W.heap.size W V) : (∀ p : Later V, p.val.cell? ⟨b, 0, none⟩ = some x0) := fun p => (((h.keep hV).keep p.below).cells 0 _ rfl).1
theorem BoxL.s1 (h : BoxL W b #[x0]) (y0 : Value) : BoxL (W.setCell ⟨b, 0, none⟩ y0) b #[y0] := h.setAll [y0] rfl
end
theorem BoxL.z1 {W : World} {a b : Nat} {zs : Array Value} (h : BoxL W a zs) (hab : b ≠ a) (y0 : Value) : BoxL (W.setCell ⟨b, 0, none⟩ y0) a zs := h.setFar hab [y0] 0
theorem below_s1 {n : Nat} {w W : World} {b : Nat} (h : Below n w W) (hb : n ≤ b) (y0 : Value) : Below n w (W.setCell ⟨b, 0, none⟩ y0) := below_setAll hb [y0] W 0 h

section
variable {W V : World} {b : Nat} {x0 x1 : Value}
theorem BoxL.c2 (h : BoxL W b #[x0, x1]) : W.cell? ⟨b, 0, none⟩ = some x0 ∧ W.cell? ⟨b, 1, none⟩ = some x1 := ⟨(h.cells 0 _ rfl).1, (h.cells 1 _ rfl).1⟩
theorem BoxL.f2 (h : BoxL W b #[x0, x1]) : W.frozen? ⟨b, 0, none⟩ = false ∧ W.frozen? ⟨b, 1, none⟩ = false := ⟨(h.cells 0 _ rfl).2, (h.cells 1 _ rfl).2⟩
theorem BoxL.l2 (h : BoxL W b #[x0, x1]) (hV : Below W.heap.size W V) : (∀ p : Later V, p.val.cell? ⟨b, 0, none⟩ = some x0) ∧ (∀ p : Later V, p.val.cell? ⟨b, 1, none⟩ = some x1) := ⟨fun p => (((h.keep hV).keep p.below).cells 0 _ rfl).1, fun p => (((h.keep hV).keep p.below).cells 1 _ rfl).1⟩
theorem BoxL.s2 (h : BoxL W b #[x0, x1]) (y0 y1 : Value) : BoxL ((W.setCell ⟨b, 0, none⟩ y0).setCell ⟨b, 1, none⟩ y1) b #[y0, y1] := h.setAll [y0, y1] rfl
end
theorem BoxL.z2 {W : World} {a b : Nat} {zs : Array Value} (h : BoxL W a zs) (hab : b ≠ a) (y0 y1 : Value) : BoxL ((W.setCell ⟨b, 0, none⟩ y0).setCell ⟨b, 1, none⟩ y1) a zs := h.setFar hab [y0, y1] 0
theorem below_s2 {n : Nat} {w W : World} {b : Nat} (h : Below n w W) (hb : n ≤ b) (y0 y1 : Value) : Below n w ((W.setCell ⟨b, 0, none⟩ y0).setCell ⟨b, 1, none⟩ y1) := below_setAll hb [y0, y1] W 0 h

section
variable {W V : World} {b : Nat} {x0 x1 x2 : Value}
theorem BoxL.c3 (h : BoxL W b #[x0, x1, x2]) : W.cell? ⟨b, 0, none⟩ = some x0 ∧ W.cell? ⟨b, 1, none⟩ = some x1 ∧ W.cell? ⟨b, 2, none⟩ = some x2 := ⟨(h.cells 0 _ rfl).1, (h.cells 1 _ rfl).1, (h.cells 2 _ rfl).1⟩
theorem BoxL.f3 (h : BoxL W b #[x0, x1, x2]) : W.frozen? ⟨b, 0, none⟩ = false ∧ W.frozen? ⟨b, 1, none⟩ = false ∧ W.frozen? ⟨b, 2, none⟩ = false := ⟨(h.cells 0 _ rfl).2, (h.cells 1 _ rfl).2, (h.cells 2 _ rfl).2⟩
theorem BoxL.l3 (h : BoxL W b #[x0, x1, x2]) (hV : Below W.heap.size W V) : (∀ p : Later V, p.val.cell? ⟨b, 0, none⟩ = some x0) ∧ (∀ p : Later V, p.val.cell? ⟨b, 1, none⟩ = some x1) ∧ (∀ p : Later V, p.val.cell? ⟨b, 2, none⟩ = some x2) := ⟨fun p => (((h.keep hV).keep p.below).cells 0 _ rfl).1, fun p => (((h.keep hV).keep p.below).cells 1 _ rfl).1, fun p => (((h.keep hV).keep p.below).cells 2 _ rfl).1⟩
theorem BoxL.s3 (h : BoxL W b #[x0, x1, x2]) (y0 y1 y2 : Value) : BoxL (((W.setCell ⟨b, 0, none⟩ y0).setCell ⟨b, 1, none⟩ y1).setCell ⟨b, 2, none⟩ y2) b #[y0, y1, y2] := h.setAll [y0, y1, y2] rfl
end
theorem BoxL.z3 {W : World} {a b : Nat} {zs : Array Value} (h : BoxL W a zs) (hab : b ≠ a) (y0 y1 y2 : Value) : BoxL (((W.setCell ⟨b, 0, none⟩ y0).setCell ⟨b, 1, none⟩ y1).setCell ⟨b, 2, none⟩ y2) a zs := h.setFar hab [y0, y1, y2] 0
theorem below_s3 {n : Nat} {w W : World} {b : Nat} (h : Below n w W) (hb : n ≤ b) (y0 y1 y2 : Value) : Below n w (((W.setCell ⟨b, 0, none⟩ y0).setCell ⟨b, 1, none⟩ y1).setCell ⟨b, 2, none⟩ y2) := below_setAll hb [y0, y1, y2] W 0 h

section
variable {W V : World} {b : Nat} {x0 x1 x2 x3 : Value}
theorem BoxL.c4 (h : BoxL W b #[x0, x1, x2, x3]) : W.cell? ⟨b, 0, none⟩ = some x0 ∧ W.cell? ⟨b, 1, none⟩ = some x1 ∧ W.cell? ⟨b, 2, none⟩ = some x2 ∧ W.cell? ⟨b, 3, none⟩ = some x3 := ⟨(h.cells 0 _ rfl).1, (h.cells 1 _ rfl).1, (h.cells 2 _ rfl).1, (h.cells 3 _ rfl).1⟩
theorem BoxL.f4 (h : BoxL W b #[x0, x1, x2, x3]) : W.frozen? ⟨b, 0, none⟩ = false ∧ W.frozen? ⟨b, 1, none⟩ = false ∧ W.frozen? ⟨b, 2, none⟩ = false ∧ W.frozen? ⟨b, 3, none⟩ = false := ⟨(h.cells 0 _ rfl).2, (h.cells 1 _ rfl).2, (h.cells 2 _ rfl).2, (h.cells 3 _ rfl).2⟩
theorem BoxL.l4 (h : BoxL W b #[x0, x1, x2, x3]) (hV : Below W.heap.size W V) : (∀ p : Later V, p.val.cell? ⟨b, 0, none⟩ = some x0) ∧ (∀ p : Later V, p.val.cell? ⟨b, 1, none⟩ = some x1) ∧ (∀ p : Later V, p.val.cell? ⟨b, 2, none⟩ = some x2) ∧ (∀ p : Later V, p.val.cell? ⟨b, 3, none⟩ = some x3) := ⟨fun p => (((h.keep hV).keep p.below).cells 0 _ rfl).1, fun p => (((h.keep hV).keep p.below).cells 1 _ rfl).1, fun p => (((h.keep hV).keep p.below).cells 2 _ rfl).1, fun p => (((h.keep hV).keep p.below).cells 3 _ rfl).1⟩
theorem BoxL.s4 (h : BoxL W b #[x0, x1, x2, x3]) (y0 y1 y2 y3 : Value) : BoxL ((((W.setCell ⟨b, 0, none⟩ y0).setCell ⟨b, 1, none⟩ y1).setCell ⟨b, 2, none⟩ y2).setCell ⟨b, 3, none⟩ y3) b #[y0, y1, y2, y3] := h.setAll [y0, y1, y2, y3] rfl
end
theorem BoxL.z4 {W : World} {a b : Nat} {zs : Array Value} (h : BoxL W a zs) (hab : b ≠ a) (y0 y1 y2 y3 : Value) : BoxL ((((W.setCell ⟨b, 0, none⟩ y0).setCell ⟨b, 1, none⟩ y1).setCell ⟨b, 2, none⟩ y2).setCell ⟨b, 3, none⟩ y3) a zs := h.setFar hab [y0, y1, y2, y3] 0
theorem below_s4 {n : Nat} {w W : World} {b : Nat} (h : Below n w W) (hb : n ≤ b) (y0 y1 y2 y3 : Value) : Below n w ((((W.setCell ⟨b, 0, none⟩ y0).setCell ⟨b, 1, none⟩ y1).setCell ⟨b, 2, none⟩ y2).setCell ⟨b, 3, none⟩ y3) := below_setAll hb [y0, y1, y2, y3] W 0 h

section
variable {W V : World} {b : Nat} {x0 x1 x2 x3 x4 : Value}
theorem BoxL.c5 (h : BoxL W b #[x0, x1, x2, x3, x4]) : W.cell? ⟨b, 0, none⟩ = some x0 ∧ W.cell? ⟨b, 1, none⟩ = some x1 ∧ W.cell? ⟨b, 2, none⟩ = some x2 ∧ W.cell? ⟨b, 3, none⟩ = some x3 ∧ W.cell? ⟨b, 4, none⟩ = some x4 := ⟨(h.cells 0 _ rfl).1, (h.cells 1 _ rfl).1, (h.cells 2 _ rfl).1, (h.cells 3 _ rfl).1, (h.cells 4 _ rfl).1⟩
theorem BoxL.f5 (h : BoxL W b #[x0, x1, x2, x3, x4]) : W.frozen? ⟨b, 0, none⟩ = false ∧ W.frozen? ⟨b, 1, none⟩ = false ∧ W.frozen? ⟨b, 2, none⟩ = false ∧ W.frozen? ⟨b, 3, none⟩ = false ∧ W.frozen? ⟨b, 4, none⟩ = false := ⟨(h.cells 0 _ rfl).2, (h.cells 1 _ rfl).2, (h.cells 2 _ rfl).2, (h.cells 3 _ rfl).2, (h.cells 4 _ rfl).2⟩
theorem BoxL.l5 (h : BoxL W b #[x0, x1, x2, x3, x4]) (hV : Below W.heap.size W V) : (∀ p : Later V, p.val.cell? ⟨b, 0, none⟩ = some x0) ∧ (∀ p : Later V, p.val.cell? ⟨b, 1, none⟩ = some x1) ∧ (∀ p : Later V, p.val.cell? ⟨b, 2, none⟩ = some x2) ∧ (∀ p : Later V, p.val.cell? ⟨b, 3, none⟩ = some x3) ∧ (∀ p : Later V, p.val.cell? ⟨b, 4, none⟩ = some x4) := ⟨fun p => (((h.keep hV).keep p.below).cells 0 _ rfl).1, fun p => (((h.keep hV).keep p.below).cells 1 _ rfl).1, fun p => (((h.keep hV).keep p.below).cells 2 _ rfl).1, fun p => (((h.keep hV).keep p.below).cells 3 _ rfl).1, fun p => (((h.keep hV).keep p.below).cells 4 _ rfl).1⟩
theorem BoxL.s5 (h : BoxL W b #[x0, x1, x2, x3, x4]) (y0 y1 y2 y3 y4 : Value) : BoxL (((((W.setCell ⟨b, 0, none⟩ y0).setCell ⟨b, 1, none⟩ y1).setCell ⟨b, 2, none⟩ y2).setCell ⟨b, 3, none⟩ y3).setCell ⟨b, 4, none⟩ y4) b #[y0, y1, y2, y3, y4] := h.setAll [y0, y1, y2, y3, y4] rfl
end
theorem BoxL.z5 {W : World} {a b : Nat} {zs : Array Value} (h : BoxL W a zs) (hab : b ≠ a) (y0 y1 y2 y3 y4 : Value) : BoxL (((((W.setCell ⟨b, 0, none⟩ y0).setCell ⟨b, 1, none⟩ y1).setCell ⟨b, 2, none⟩ y2).setCell ⟨b, 3, none⟩ y3).setCell ⟨b, 4, none⟩ y4) a zs := h.setFar hab [y0, y1, y2, y3, y4] 0
theorem below_s5 {n : Nat} {w W : World} {b : Nat} (h : Below n w W) (hb : n ≤ b) (y0 y1 y2 y3 y4 : Value) : Below n w (((((W.setCell ⟨b, 0, none⟩ y0).setCell ⟨b, 1, none⟩ y1).setCell ⟨b, 2, none⟩ y2).setCell ⟨b, 3, none⟩ y3).setCell ⟨b, 4, none⟩ y4) := below_setAll hb [y0, y1, y2, y3, y4] W 0 h

section
variable {W V : World} {b : Nat} {x0 x1 x2 x3 x4 x5 : Value}
theorem BoxL.c6 (h : BoxL W b #[x0, x1, x2, x3, x4, x5]) : W.cell? ⟨b, 0, none⟩ = some x0 ∧ W.cell? ⟨b, 1, none⟩ = some x1 ∧ W.cell? ⟨b, 2, none⟩ = some x2 ∧ W.cell? ⟨b, 3, none⟩ = some x3 ∧ W.cell? ⟨b, 4, none⟩ = some x4 ∧ W.cell? ⟨b, 5, none⟩ = some x5 := ⟨(h.cells 0 _ rfl).1, (h.cells 1 _ rfl).1, (h.cells 2 _ rfl).1, (h.cells 3 _ rfl).1, (h.cells 4 _ rfl).1, (h.cells 5 _ rfl).1⟩
theorem BoxL.f6 (h : BoxL W b #[x0, x1, x2, x3, x4, x5]) : W.frozen? ⟨b, 0, none⟩ = false ∧ W.frozen? ⟨b, 1, none⟩ = false ∧ W.frozen? ⟨b, 2, none⟩ = false ∧ W.frozen? ⟨b, 3, none⟩ = false ∧ W.frozen? ⟨b, 4, none⟩ = false ∧ W.frozen? ⟨b, 5, none⟩ = false := ⟨(h.cells 0 _ rfl).2, (h.cells 1 _ rfl).2, (h.cells 2 _ rfl).2, (h.cells 3 _ rfl).2, (h.cells 4 _ rfl).2, (h.cells 5 _ rfl).2⟩
theorem BoxL.l6 (h : BoxL W b #[x0, x1, x2, x3, x4, x5]) (hV : Below W.heap.size W V) : (∀ p : Later V, p.val.cell? ⟨b, 0, none⟩ = some x0) ∧ (∀ p : Later V, p.val.cell? ⟨b, 1, none⟩ = some x1) ∧ (∀ p : Later V, p.val.cell? ⟨b, 2, none⟩ = some x2) ∧ (∀ p : Later V, p.val.cell? ⟨b, 3, none⟩ = some x3) ∧ (∀ p : Later V, p.val.cell? ⟨b, 4, none⟩ = some x4) ∧ (∀ p : Later V, p.val.cell? ⟨b, 5, none⟩ = some x5) := ⟨fun p => (((h.keep hV).keep p.below).cells 0 _ rfl).1, fun p => (((h.keep hV).keep p.below).cells 1 _ rfl).1, fun p => (((h.keep hV).keep p.below).cells 2 _ rfl).1, fun p => (((h.keep hV).keep p.below).cells 3 _ rfl).1, fun p => (((h.keep hV).keep p.below).cells 4 _ rfl).1, fun p => (((h.keep hV).keep p.below).cells 5 _ rfl).1⟩
theorem BoxL.s6 (h : BoxL W b #[x0, x1, x2, x3, x4, x5]) (y0 y1 y2 y3 y4 y5 : Value) : BoxL ((((((W.setCell ⟨b, 0, none⟩ y0).setCell ⟨b, 1, none⟩ y1).setCell ⟨b, 2, none⟩ y2).setCell ⟨b, 3, none⟩ y3).setCell ⟨b, 4, none⟩ y4).setCell ⟨b, 5, none⟩ y5) b #[y0, y1, y2, y3, y4, y5] := h.setAll [y0, y1, y2, y3, y4, y5] rfl
end
theorem BoxL.z6 {W : World} {a b : Nat} {zs : Array Value} (h : BoxL W a zs) (hab : b ≠ a) (y0 y1 y2 y3 y4 y5 : Value) : BoxL ((((((W.setCell ⟨b, 0, none⟩ y0).setCell ⟨b, 1, none⟩ y1).setCell ⟨b, 2, none⟩ y2).setCell ⟨b, 3, none⟩ y3).setCell ⟨b, 4, none⟩ y4).setCell ⟨b, 5, none⟩ y5) a zs := h.setFar hab [y0, y1, y2, y3, y4, y5] 0
theorem below_s6 {n : Nat} {w W : World} {b : Nat} (h : Below n w W) (hb : n ≤ b) (y0 y1 y2 y3 y4 y5 : Value) : Below n w ((((((W.setCell ⟨b, 0, none⟩ y0).setCell ⟨b, 1, none⟩ y1).setCell ⟨b, 2, none⟩ y2).setCell ⟨b, 3, none⟩ y3).setCell ⟨b, 4, none⟩ y4).setCell ⟨b, 5, none⟩ y5) := below_setAll hb [y0, y1, y2, y3, y4, y5] W 0 h

section
variable {W V : World} {b : Nat} {x0 x1 x2 x3 x4 x5 x6 x7 : Value}
theorem BoxL.c8 (h : BoxL W b #[x0, x1, x2, x3, x4, x5, x6, x7]) : W.cell? ⟨b, 0, none⟩ = some x0 ∧ W.cell? ⟨b, 1, none⟩ = some x1 ∧ W.cell? ⟨b, 2, none⟩ = some x2 ∧ W.cell? ⟨b, 3, none⟩ = some x3 ∧ W.cell? ⟨b, 4, none⟩ = some x4 ∧ W.cell? ⟨b, 5, none⟩ = some x5 ∧ W.cell? ⟨b, 6, none⟩ = some x6 ∧ W.cell? ⟨b, 7, none⟩ = some x7 := ⟨(h.cells 0 _ rfl).1, (h.cells 1 _ rfl).1, (h.cells 2 _ rfl).1, (h.cells 3 _ rfl).1, (h.cells 4 _ rfl).1, (h.cells 5 _ rfl).1, (h.cells 6 _ rfl).1, (h.cells 7 _ rfl).1⟩
theorem BoxL.f8 (h : BoxL W b #[x0, x1, x2, x3, x4, x5, x6, x7]) : W.frozen? ⟨b, 0, none⟩ = false ∧ W.frozen? ⟨b, 1, none⟩ = false ∧ W.frozen? ⟨b, 2, none⟩ = false ∧ W.frozen? ⟨b, 3, none⟩ = false ∧ W.frozen? ⟨b, 4, none⟩ = false ∧ W.frozen? ⟨b, 5, none⟩ = false ∧ W.frozen? ⟨b, 6, none⟩ = false ∧ W.frozen? ⟨b, 7, none⟩ = false := ⟨(h.cells 0 _ rfl).2, (h.cells 1 _ rfl).2, (h.cells 2 _ rfl).2, (h.cells 3 _ rfl).2, (h.cells 4 _ rfl).2, (h.cells 5 _ rfl).2, (h.cells 6 _ rfl).2, (h.cells 7 _ rfl).2⟩
theorem BoxL.l8 (h : BoxL W b #[x0, x1, x2, x3, x4, x5, x6, x7]) (hV : Below W.heap.size W V) : (∀ p : Later V, p.val.cell? ⟨b, 0, none⟩ = some x0) ∧ (∀ p : Later V, p.val.cell? ⟨b, 1, none⟩ = some x1) ∧ (∀ p : Later V, p.val.cell? ⟨b, 2, none⟩ = some x2) ∧ (∀ p : Later V, p.val.cell? ⟨b, 3, none⟩ = some x3) ∧ (∀ p : Later V, p.val.cell? ⟨b, 4, none⟩ = some x4) ∧ (∀ p : Later V, p.val.cell? ⟨b, 5, none⟩ = some x5) ∧ (∀ p : Later V, p.val.cell? ⟨b, 6, none⟩ = some x6) ∧ (∀ p : Later V, p.val.cell? ⟨b, 7, none⟩ = some x7) := ⟨fun p => (((h.keep hV).keep p.below).cells 0 _ rfl).1, fun p => (((h.keep hV).keep p.below).cells 1 _ rfl).1, fun p => (((h.keep hV).keep p.below).cells 2 _ rfl).1, fun p => (((h.keep hV).keep p.below).cells 3 _ rfl).1, fun p => (((h.keep hV).keep p.below).cells 4 _ rfl).1, fun p => (((h.keep hV).keep p.below).cells 5 _ rfl).1, fun p => (((h.keep hV).keep p.below).cells 6 _ rfl).1, fun p => (((h.keep hV).keep p.below).cells 7 _ rfl).1⟩
theorem BoxL.s8 (h : BoxL W b #[x0, x1, x2, x3, x4, x5, x6, x7]) (y0 y1 y2 y3 y4 y5 y6 y7 : Value) : BoxL ((((((((W.setCell ⟨b, 0, none⟩ y0).setCell ⟨b, 1, none⟩ y1).setCell ⟨b, 2, none⟩ y2).setCell ⟨b, 3, none⟩ y3).setCell ⟨b, 4, none⟩ y4).setCell ⟨b, 5, none⟩ y5).setCell ⟨b, 6, none⟩ y6).setCell ⟨b, 7, none⟩ y7) b #[y0, y1, y2, y3, y4, y5, y6, y7] := h.setAll [y0, y1, y2, y3, y4, y5, y6, y7] rfl
end
theorem BoxL.z8 {W : World} {a b : Nat} {zs : Array Value} (h : BoxL W a zs) (hab : b ≠ a) (y0 y1 y2 y3 y4 y5 y6 y7 : Value) : BoxL ((((((((W.setCell ⟨b, 0, none⟩ y0).setCell ⟨b, 1, none⟩ y1).setCell ⟨b, 2, none⟩ y2).setCell ⟨b, 3, none⟩ y3).setCell ⟨b, 4, none⟩ y4).setCell ⟨b, 5, none⟩ y5).setCell ⟨b, 6, none⟩ y6).setCell ⟨b, 7, none⟩ y7) a zs := h.setFar hab [y0, y1, y2, y3, y4, y5, y6, y7] 0
theorem below_s8 {n : Nat} {w W : World} {b : Nat} (h : Below n w W) (hb : n ≤ b) (y0 y1 y2 y3 y4 y5 y6 y7 : Value) : Below n w ((((((((W.setCell ⟨b, 0, none⟩ y0).setCell ⟨b, 1, none⟩ y1).setCell ⟨b, 2, none⟩ y2).setCell ⟨b, 3, none⟩ y3).setCell ⟨b, 4, none⟩ y4).setCell ⟨b, 5, none⟩ y5).setCell ⟨b, 6, none⟩ y6).setCell ⟨b, 7, none⟩ y7) := below_setAll hb [y0, y1, y2, y3, y4, y5, y6, y7] W 0 h

section
variable {W V : World} {b : Nat} {x0 x1 x2 x3 x4 x5 x6 x7 x8 : Value}
theorem BoxL.c9 (h : BoxL W b #[x0, x1, x2, x3, x4, x5, x6, x7, x8]) : W.cell? ⟨b, 0, none⟩ = some x0 ∧ W.cell? ⟨b, 1, none⟩ = some x1 ∧ W.cell? ⟨b, 2, none⟩ = some x2 ∧ W.cell? ⟨b, 3, none⟩ = some x3 ∧ W.cell? ⟨b, 4, none⟩ = some x4 ∧ W.cell? ⟨b, 5, none⟩ = some x5 ∧ W.cell? ⟨b, 6, none⟩ = some x6 ∧ W.cell? ⟨b, 7, none⟩ = some x7 ∧ W.cell? ⟨b, 8, none⟩ = some x8 := ⟨(h.cells 0 _ rfl).1, (h.cells 1 _ rfl).1, (h.cells 2 _ rfl).1, (h.cells 3 _ rfl).1, (h.cells 4 _ rfl).1, (h.cells 5 _ rfl).1, (h.cells 6 _ rfl).1, (h.cells 7 _ rfl).1, (h.cells 8 _ rfl).1⟩
theorem BoxL.f9 (h : BoxL W b #[x0, x1, x2, x3, x4, x5, x6, x7, x8]) : W.frozen? ⟨b, 0, none⟩ = false ∧ W.frozen? ⟨b, 1, none⟩ = false ∧ W.frozen? ⟨b, 2, none⟩ = false ∧ W.frozen? ⟨b, 3, none⟩ = false ∧ W.frozen? ⟨b, 4, none⟩ = false ∧ W.frozen? ⟨b, 5, none⟩ = false ∧ W.frozen? ⟨b, 6, none⟩ = false ∧ W.frozen? ⟨b, 7, none⟩ = false ∧ W.frozen? ⟨b, 8, none⟩ = false := ⟨(h.cells 0 _ rfl).2, (h.cells 1 _ rfl).2, (h.cells 2 _ rfl).2, (h.cells 3 _ rfl).2, (h.cells 4 _ rfl).2, (h.cells 5 _ rfl).2, (h.cells 6 _ rfl).2, (h.cells 7 _ rfl).2, (h.cells 8 _ rfl).2⟩
theorem BoxL.l9 (h : BoxL W b #[x0, x1, x2, x3, x4, x5, x6, x7, x8]) (hV : Below W.heap.size W V) : (∀ p : Later V, p.val.cell? ⟨b, 0, none⟩ = some x0) ∧ (∀ p : Later V, p.val.cell? ⟨b, 1, none⟩ = some x1) ∧ (∀ p : Later V, p.val.cell? ⟨b, 2, none⟩ = some x2) ∧ (∀ p : Later V, p.val.cell? ⟨b, 3, none⟩ = some x3) ∧ (∀ p : Later V, p.val.cell? ⟨b, 4, none⟩ = some x4) ∧ (∀ p : Later V, p.val.cell? ⟨b, 5, none⟩ = some x5) ∧ (∀ p : Later V, p.val.cell? ⟨b, 6, none⟩ = some x6) ∧ (∀ p : Later V, p.val.cell? ⟨b, 7, none⟩ = some x7) ∧ (∀ p : Later V, p.val.cell? ⟨b, 8, none⟩ = some x8) := ⟨fun p => (((h.keep hV).keep p.below).cells 0 _ rfl).1, fun p => (((h.keep hV).keep p.below).cells 1 _ rfl).1, fun p => (((h.keep hV).keep p.below).cells 2 _ rfl).1, fun p => (((h.keep hV).keep p.below).cells 3 _ rfl).1, fun p => (((h.keep hV).keep p.below).cells 4 _ rfl).1, fun p => (((h.keep hV).keep p.below).cells 5 _ rfl).1, fun p => (((h.keep hV).keep p.below).cells 6 _ rfl).1, fun p => (((h.keep hV).keep p.below).cells 7 _ rfl).1, fun p => (((h.keep hV).keep p.below).cells 8 _ rfl).1⟩
theorem BoxL.s9 (h : BoxL W b #[x0, x1, x2, x3, x4, x5, x6, x7, x8]) (y0 y1 y2 y3 y4 y5 y6 y7 y8 : Value) : BoxL (((((((((W.setCell ⟨b, 0, none⟩ y0).setCell ⟨b, 1, none⟩ y1).setCell ⟨b, 2, none⟩ y2).setCell ⟨b, 3, none⟩ y3).setCell ⟨b, 4, none⟩ y4).setCell ⟨b, 5, none⟩ y5).setCell ⟨b, 6, none⟩ y6).setCell ⟨b, 7, none⟩ y7).setCell ⟨b, 8, none⟩ y8) b #[y0, y1, y2, y3, y4, y5, y6, y7, y8] := h.setAll [y0, y1, y2, y3, y4, y5, y6, y7, y8] rfl
end
theorem BoxL.z9 {W : World} {a b : Nat} {zs : Array Value} (h : BoxL W a zs) (hab : b ≠ a) (y0 y1 y2 y3 y4 y5 y6 y7 y8 : Value) : BoxL (((((((((W.setCell ⟨b, 0, none⟩ y0).setCell ⟨b, 1, none⟩ y1).setCell ⟨b, 2, none⟩ y2).setCell ⟨b, 3, none⟩ y3).setCell ⟨b, 4, none⟩ y4).setCell ⟨b, 5, none⟩ y5).setCell ⟨b, 6, none⟩ y6).setCell ⟨b, 7, none⟩ y7).setCell ⟨b, 8, none⟩ y8) a zs := h.setFar hab [y0, y1, y2, y3, y4, y5, y6, y7, y8] 0
theorem below_s9 {n : Nat} {w W : World} {b : Nat} (h : Below n w W) (hb : n ≤ b) (y0 y1 y2 y3 y4 y5 y6 y7 y8 : Value) : Below n w (((((((((W.setCell ⟨b, 0, none⟩ y0).setCell ⟨b, 1, none⟩ y1).setCell ⟨b, 2, none⟩ y2).setCell ⟨b, 3, none⟩ y3).setCell ⟨b, 4, none⟩ y4).setCell ⟨b, 5, none⟩ y5).setCell ⟨b, 6, none⟩ y6).setCell ⟨b, 7, none⟩ y7).setCell ⟨b, 8, none⟩ y8) := below_setAll hb [y0, y1, y2, y3, y4, y5, y6, y7, y8] W 0 h

section
variable {W V : World} {b : Nat} {x0 x1 x2 x3 x4 x5 x6 x7 x8 x9 x10 x11 : Value}
theorem BoxL.c12 (h : BoxL W b #[x0, x1, x2, x3, x4, x5, x6, x7, x8, x9, x10, x11]) : W.cell? ⟨b, 0, none⟩ = some x0 ∧ W.cell? ⟨b, 1, none⟩ = some x1 ∧ W.cell? ⟨b, 2, none⟩ = some x2 ∧ W.cell? ⟨b, 3, none⟩ = some x3 ∧ W.cell? ⟨b, 4, none⟩ = some x4 ∧ W.cell? ⟨b, 5, none⟩ = some x5 ∧ W.cell? ⟨b, 6, none⟩ = some x6 ∧ W.cell? ⟨b, 7, none⟩ = some x7 ∧ W.cell? ⟨b, 8, none⟩ = some x8 ∧ W.cell? ⟨b, 9, none⟩ = some x9 ∧ W.cell? ⟨b, 10, none⟩ = some x10 ∧ W.cell? ⟨b, 11, none⟩ = some x11 := ⟨(h.cells 0 _ rfl).1, (h.cells 1 _ rfl).1, (h.cells 2 _ rfl).1, (h.cells 3 _ rfl).1, (h.cells 4 _ rfl).1, (h.cells 5 _ rfl).1, (h.cells 6 _ rfl).1, (h.cells 7 _ rfl).1, (h.cells 8 _ rfl).1, (h.cells 9 _ rfl).1, (h.cells 10 _ rfl).1, (h.cells 11 _ rfl).1⟩
theorem BoxL.f12 (h : BoxL W b #[x0, x1, x2, x3, x4, x5, x6, x7, x8, x9, x10, x11]) : W.frozen? ⟨b, 0, none⟩ = false ∧ W.frozen? ⟨b, 1, none⟩ = false ∧ W.frozen? ⟨b, 2, none⟩ = false ∧ W.frozen? ⟨b, 3, none⟩ = false ∧ W.frozen? ⟨b, 4, none⟩ = false ∧ W.frozen? ⟨b, 5, none⟩ = false ∧ W.frozen? ⟨b, 6, none⟩ = false ∧ W.frozen? ⟨b, 7, none⟩ = false ∧ W.frozen? ⟨b, 8, none⟩ = false ∧ W.frozen? ⟨b, 9, none⟩ = false ∧ W.frozen? ⟨b, 10, none⟩ = false ∧ W.frozen? ⟨b, 11, none⟩ = false := ⟨(h.cells 0 _ rfl).2, (h.cells 1 _ rfl).2, (h.cells 2 _ rfl).2, (h.cells 3 _ rfl).2, (h.cells 4 _ rfl).2, (h.cells 5 _ rfl).2, (h.cells 6 _ rfl).2, (h.cells 7 _ rfl).2, (h.cells 8 _ rfl).2, (h.cells 9 _ rfl).2, (h.cells 10 _ rfl).2, (h.cells 11 _ rfl).2⟩
theorem BoxL.l12 (h : BoxL W b #[x0, x1, x2, x3, x4, x5, x6, x7, x8, x9, x10, x11]) (hV : Below W.heap.size W V) : (∀ p : Later V, p.val.cell? ⟨b, 0, none⟩ = some x0) ∧ (∀ p : Later V, p.val.cell? ⟨b, 1, none⟩ = some x1) ∧ (∀ p : Later V, p.val.cell? ⟨b, 2, none⟩ = some x2) ∧ (∀ p : Later V, p.val.cell? ⟨b, 3, none⟩ = some x3) ∧ (∀ p : Later V, p.val.cell? ⟨b, 4, none⟩ = some x4) ∧ (∀ p : Later V, p.val.cell? ⟨b, 5, none⟩ = some x5) ∧ (∀ p : Later V, p.val.cell? ⟨b, 6, none⟩ = some x6) ∧ (∀ p : Later V, p.val.cell? ⟨b, 7, none⟩ = some x7) ∧ (∀ p : Later V, p.val.cell? ⟨b, 8, none⟩ = some x8) ∧ (∀ p : Later V, p.val.cell? ⟨b, 9, none⟩ = some x9) ∧ (∀ p : Later V, p.val.cell? ⟨b, 10, none⟩ = some x10) ∧ (∀ p : Later V, p.val.cell? ⟨b, 11, none⟩ = some x11) := ⟨fun p => (((h.keep hV).keep p.below).cells 0 _ rfl).1, fun p => (((h.keep hV).keep p.below).cells 1 _ rfl).1, fun p => (((h.keep hV).keep p.below).cells 2 _ rfl).1, fun p => (((h.keep hV).keep p.below).cells 3 _ rfl).1, fun p => (((h.keep hV).keep p.below).cells 4 _ rfl).1, fun p => (((h.keep hV).keep p.below).cells 5 _ rfl).1, fun p => (((h.keep hV).keep p.below).cells 6 _ rfl).1, fun p => (((h.keep hV).keep p.below).cells 7 _ rfl).1, fun p => (((h.keep hV).keep p.below).cells 8 _ rfl).1, fun p => (((h.keep hV).keep p.below).cells 9 _ rfl).1, fun p => (((h.keep hV).keep p.below).cells 10 _ rfl).1, fun p => (((h.keep hV).keep p.below).cells 11 _ rfl).1⟩
theorem BoxL.s12 (h : BoxL W b #[x0, x1, x2, x3, x4, x5, x6, x7, x8, x9, x10, x11]) (y0 y1 y2 y3 y4 y5 y6 y7 y8 y9 y10 y11 : Value) : BoxL ((((((((((((W.setCell ⟨b, 0, none⟩ y0).setCell ⟨b, 1, none⟩ y1).setCell ⟨b, 2, none⟩ y2).setCell ⟨b, 3, none⟩ y3).setCell ⟨b, 4, none⟩ y4).setCell ⟨b, 5, none⟩ y5).setCell ⟨b, 6, none⟩ y6).setCell ⟨b, 7, none⟩ y7).setCell ⟨b, 8, none⟩ y8).setCell ⟨b, 9, none⟩ y9).setCell ⟨b, 10, none⟩ y10).setCell ⟨b, 11, none⟩ y11) b #[y0, y1, y2, y3, y4, y5, y6, y7, y8, y9, y10, y11] := h.setAll [y0, y1, y2, y3, y4, y5, y6, y7, y8, y9, y10, y11] rfl
end
theorem BoxL.z12 {W : World} {a b : Nat} {zs : Array Value} (h : BoxL W a zs) (hab : b ≠ a) (y0 y1 y2 y3 y4 y5 y6 y7 y8 y9 y10 y11 : Value) : BoxL ((((((((((((W.setCell ⟨b, 0, none⟩ y0).setCell ⟨b, 1, none⟩ y1).setCell ⟨b, 2, none⟩ y2).setCell ⟨b, 3, none⟩ y3).setCell ⟨b, 4, none⟩ y4).setCell ⟨b, 5, none⟩ y5).setCell ⟨b, 6, none⟩ y6).setCell ⟨b, 7, none⟩ y7).setCell ⟨b, 8, none⟩ y8).setCell ⟨b, 9, none⟩ y9).setCell ⟨b, 10, none⟩ y10).setCell ⟨b, 11, none⟩ y11) a zs := h.setFar hab [y0, y1, y2, y3, y4, y5, y6, y7, y8, y9, y10, y11] 0
theorem below_s12 {n : Nat} {w W : World} {b : Nat} (h : Below n w W) (hb : n ≤ b) (y0 y1 y2 y3 y4 y5 y6 y7 y8 y9 y10 y11 : Value) : Below n w ((((((((((((W.setCell ⟨b, 0, none⟩ y0).setCell ⟨b, 1, none⟩ y1).setCell ⟨b, 2, none⟩ y2).setCell ⟨b, 3, none⟩ y3).setCell ⟨b, 4, none⟩ y4).setCell ⟨b, 5, none⟩ y5).setCell ⟨b, 6, none⟩ y6).setCell ⟨b, 7, none⟩ y7).setCell ⟨b, 8, none⟩ y8).setCell ⟨b, 9, none⟩ y9).setCell ⟨b, 10, none⟩ y10).setCell ⟨b, 11, none⟩ y11) := below_setAll hb [y0, y1, y2, y3, y4, y5, y6, y7, y8, y9, y10, y11] W 0 h

section
variable {W V : World} {b : Nat} {x0 x1 x2 x3 x4 x5 x6 x7 x8 x9 x10 x11 x12 x13 x14 x15 : Value}
theorem BoxL.c16 (h : BoxL W b #[x0, x1, x2, x3, x4, x5, x6, x7, x8, x9, x10, x11, x12, x13, x14, x15]) : W.cell? ⟨b, 0, none⟩ = some x0 ∧ W.cell? ⟨b, 1, none⟩ = some x1 ∧ W.cell? ⟨b, 2, none⟩ = some x2 ∧ W.cell? ⟨b, 3, none⟩ = some x3 ∧ W.cell? ⟨b, 4, none⟩ = some x4 ∧ W.cell? ⟨b, 5, none⟩ = some x5 ∧ W.cell? ⟨b, 6, none⟩ = some x6 ∧ W.cell? ⟨b, 7, none⟩ = some x7 ∧ W.cell? ⟨b, 8, none⟩ = some x8 ∧ W.cell? ⟨b, 9, none⟩ = some x9 ∧ W.cell? ⟨b, 10, none⟩ = some x10 ∧ W.cell? ⟨b, 11, none⟩ = some x11 ∧ W.cell? ⟨b, 12, none⟩ = some x12 ∧ W.cell? ⟨b, 13, none⟩ = some x13 ∧ W.cell? ⟨b, 14, none⟩ = some x14 ∧ W.cell? ⟨b, 15, none⟩ = some x15 := ⟨(h.cells 0 _ rfl).1, (h.cells 1 _ rfl).1, (h.cells 2 _ rfl).1, (h.cells 3 _ rfl).1, (h.cells 4 _ rfl).1, (h.cells 5 _ rfl).1, (h.cells 6 _ rfl).1, (h.cells 7 _ rfl).1, (h.cells 8 _ rfl).1, (h.cells 9 _ rfl).1, (h.cells 10 _ rfl).1, (h.cells 11 _ rfl).1, (h.cells 12 _ rfl).1, (h.cells 13 _ rfl).1, (h.cells 14 _ rfl).1, (h.cells 15 _ rfl).1⟩
theorem BoxL.f16 (h : BoxL W b #[x0, x1, x2, x3, x4, x5, x6, x7, x8, x9, x10, x11, x12, x13, x14, x15]) : W.frozen? ⟨b, 0, none⟩ = false ∧ W.frozen? ⟨b, 1, none⟩ = false ∧ W.frozen? ⟨b, 2, none⟩ = false ∧ W.frozen? ⟨b, 3, none⟩ = false ∧ W.frozen? ⟨b, 4, none⟩ = false ∧ W.frozen? ⟨b, 5, none⟩ = false ∧ W.frozen? ⟨b, 6, none⟩ = false ∧ W.frozen? ⟨b, 7, none⟩ = false ∧ W.frozen? ⟨b, 8, none⟩ = false ∧ W.frozen? ⟨b, 9, none⟩ = false ∧ W.frozen? ⟨b, 10, none⟩ = false ∧ W.frozen? ⟨b, 11, none⟩ = false ∧ W.frozen? ⟨b, 12, none⟩ = false ∧ W.frozen? ⟨b, 13, none⟩ = false ∧ W.frozen? ⟨b, 14, none⟩ = false ∧ W.frozen? ⟨b, 15, none⟩ = false := ⟨(h.cells 0 _ rfl).2, (h.cells 1 _ rfl).2, (h.cells 2 _ rfl).2, (h.cells 3 _ rfl).2, (h.cells 4 _ rfl).2, (h.cells 5 _ rfl).2, (h.cells 6 _ rfl).2, (h.cells 7 _ rfl).2, (h.cells 8 _ rfl).2, (h.cells 9 _ rfl).2, (h.cells 10 _ rfl).2, (h.cells 11 _ rfl).2, (h.cells 12 _ rfl).2, (h.cells 13 _ rfl).2, (h.cells 14 _ rfl).2, (h.cells 15 _ rfl).2⟩
theorem BoxL.l16 (h : BoxL W b #[x0, x1, x2, x3, x4, x5, x6, x7, x8, x9, x10, x11, x12, x13, x14, x15]) (hV : Below W.heap.size W V) : (∀ p : Later V, p.val.cell? ⟨b, 0, none⟩ = some x0) ∧ (∀ p : Later V, p.val.cell? ⟨b, 1, none⟩ = some x1) ∧ (∀ p : Later V, p.val.cell? ⟨b, 2, none⟩ = some x2) ∧ (∀ p : Later V, p.val.cell? ⟨b, 3, none⟩ = some x3) ∧ (∀ p : Later V, p.val.cell? ⟨b, 4, none⟩ = some x4) ∧ (∀ p : Later V, p.val.cell? ⟨b, 5, none⟩ = some x5) ∧ (∀ p : Later V, p.val.cell? ⟨b, 6, none⟩ = some x6) ∧ (∀ p : Later V, p.val.cell? ⟨b, 7, none⟩ = some x7) ∧ (∀ p : Later V, p.val.cell? ⟨b, 8, none⟩ = some x8) ∧ (∀ p : Later V, p.val.cell? ⟨b, 9, none⟩ = some x9) ∧ (∀ p : Later V, p.val.cell? ⟨b, 10, none⟩ = some x10) ∧ (∀ p : Later V, p.val.cell? ⟨b, 11, none⟩ = some x11) ∧ (∀ p : Later V, p.val.cell? ⟨b, 12, none⟩ = some x12) ∧ (∀ p : Later V, p.val.cell? ⟨b, 13, none⟩ = some x13) ∧ (∀ p : Later V, p.val.cell? ⟨b, 14, none⟩ = some x14) ∧ (∀ p : Later V, p.val.cell? ⟨b, 15, none⟩ = some x15) := ⟨fun p => (((h.keep hV).keep p.below).cells 0 _ rfl).1, fun p => (((h.keep hV).keep p.below).cells 1 _ rfl).1, fun p => (((h.keep hV).keep p.below).cells 2 _ rfl).1, fun p => (((h.keep hV).keep p.below).cells 3 _ rfl).1, fun p => (((h.keep hV).keep p.below).cells 4 _ rfl).1, fun p => (((h.keep hV).keep p.below).cells 5 _ rfl).1, fun p => (((h.keep hV).keep p.below).cells 6 _ rfl).1, fun p => (((h.keep hV).keep p.below).cells 7 _ rfl).1, fun p => (((h.keep hV).keep p.below).cells 8 _ rfl).1, fun p => (((h.keep hV).keep p.below).cells 9 _ rfl).1, fun p => (((h.keep hV).keep p.below).cells 10 _ rfl).1, fun p => (((h.keep hV).keep p.below).cells 11 _ rfl).1, fun p => (((h.keep hV).keep p.below).cells 12 _ rfl).1, fun p => (((h.keep hV).keep p.below).cells 13 _ rfl).1, fun p => (((h.keep hV).keep p.below).cells 14 _ rfl).1, fun p => (((h.keep hV).keep p.below).cells 15 _ rfl).1⟩
theorem BoxL.s16 (h : BoxL W b #[x0, x1, x2, x3, x4, x5, x6, x7, x8, x9, x10, x11, x12, x13, x14, x15]) (y0 y1 y2 y3 y4 y5 y6 y7 y8 y9 y10 y11 y12 y13 y14 y15 : Value) : BoxL ((((((((((((((((W.setCell ⟨b, 0, none⟩ y0).setCell ⟨b, 1, none⟩ y1).setCell ⟨b, 2, none⟩ y2).setCell ⟨b, 3, none⟩ y3).setCell ⟨b, 4, none⟩ y4).setCell ⟨b, 5, none⟩ y5).setCell ⟨b, 6, none⟩ y6).setCell ⟨b, 7, none⟩ y7).setCell ⟨b, 8, none⟩ y8).setCell ⟨b, 9, none⟩ y9).setCell ⟨b, 10, none⟩ y10).setCell ⟨b, 11, none⟩ y11).setCell ⟨b, 12, none⟩ y12).setCell ⟨b, 13, none⟩ y13).setCell ⟨b, 14, none⟩ y14).setCell ⟨b, 15, none⟩ y15) b #[y0, y1, y2, y3, y4, y5, y6, y7, y8, y9, y10, y11, y12, y13, y14, y15] := h.setAll [y0, y1, y2, y3, y4, y5, y6, y7, y8, y9, y10, y11, y12, y13, y14, y15] rfl
end
theorem BoxL.z16 {W : World} {a b : Nat} {zs : Array Value} (h : BoxL W a zs) (hab : b ≠ a) (y0 y1 y2 y3 y4 y5 y6 y7 y8 y9 y10 y11 y12 y13 y14 y15 : Value) : BoxL ((((((((((((((((W.setCell ⟨b, 0, none⟩ y0).setCell ⟨b, 1, none⟩ y1).setCell ⟨b, 2, none⟩ y2).setCell ⟨b, 3, none⟩ y3).setCell ⟨b, 4, none⟩ y4).setCell ⟨b, 5, none⟩ y5).setCell ⟨b, 6, none⟩ y6).setCell ⟨b, 7, none⟩ y7).setCell ⟨b, 8, none⟩ y8).setCell ⟨b, 9, none⟩ y9).setCell ⟨b, 10, none⟩ y10).setCell ⟨b, 11, none⟩ y11).setCell ⟨b, 12, none⟩ y12).setCell ⟨b, 13, none⟩ y13).setCell ⟨b, 14, none⟩ y14).setCell ⟨b, 15, none⟩ y15) a zs := h.setFar hab [y0, y1, y2, y3, y4, y5, y6, y7, y8, y9, y10, y11, y12, y13, y14, y15] 0
theorem below_s16 {n : Nat} {w W : World} {b : Nat} (h : Below n w W) (hb : n ≤ b) (y0 y1 y2 y3 y4 y5 y6 y7 y8 y9 y10 y11 y12 y13 y14 y15 : Value) : Below n w ((((((((((((((((W.setCell ⟨b, 0, none⟩ y0).setCell ⟨b, 1, none⟩ y1).setCell ⟨b, 2, none⟩ y2).setCell ⟨b, 3, none⟩ y3).setCell ⟨b, 4, none⟩ y4).setCell ⟨b, 5, none⟩ y5).setCell ⟨b, 6, none⟩ y6).setCell ⟨b, 7, none⟩ y7).setCell ⟨b, 8, none⟩ y8).setCell ⟨b, 9, none⟩ y9).setCell ⟨b, 10, none⟩ y10).setCell ⟨b, 11, none⟩ y11).setCell ⟨b, 12, none⟩ y12).setCell ⟨b, 13, none⟩ y13).setCell ⟨b, 14, none⟩ y14).setCell ⟨b, 15, none⟩ y15) := below_setAll hb [y0, y1, y2, y3, y4, y5, y6, y7, y8, y9, y10, y11, y12, y13, y14, y15] W 0 h

section
variable {W V : World} {b : Nat} {x0 x1 x2 x3 x4 x5 x6 x7 x8 x9 x10 x11 x12 x13 x14 x15 x16 x17 x18 x19 x20 x21 x22 x23 : Value}
theorem BoxL.c24 (h : BoxL W b #[x0, x1, x2, x3, x4, x5, x6, x7, x8, x9, x10, x11, x12, x13, x14, x15, x16, x17, x18, x19, x20, x21, x22, x23]) : W.cell? ⟨b, 0, none⟩ = some x0 ∧ W.cell? ⟨b, 1, none⟩ = some x1 ∧ W.cell? ⟨b, 2, none⟩ = some x2 ∧ W.cell? ⟨b, 3, none⟩ = some x3 ∧ W.cell? ⟨b, 4, none⟩ = some x4 ∧ W.cell? ⟨b, 5, none⟩ = some x5 ∧ W.cell? ⟨b, 6, none⟩ = some x6 ∧ W.cell? ⟨b, 7, none⟩ = some x7 ∧ W.cell? ⟨b, 8, none⟩ = some x8 ∧ W.cell? ⟨b, 9, none⟩ = some x9 ∧ W.cell? ⟨b, 10, none⟩ = some x10 ∧ W.cell? ⟨b, 11, none⟩ = some x11 ∧ W.cell? ⟨b, 12, none⟩ = some x12 ∧ W.cell? ⟨b, 13, none⟩ = some x13 ∧ W.cell? ⟨b, 14, none⟩ = some x14 ∧ W.cell? ⟨b, 15, none⟩ = some x15 ∧ W.cell? ⟨b, 16, none⟩ = some x16 ∧ W.cell? ⟨b, 17, none⟩ = some x17 ∧ W.cell? ⟨b, 18, none⟩ = some x18 ∧ W.cell? ⟨b, 19, none⟩ = some x19 ∧ W.cell? ⟨b, 20, none⟩ = some x20 ∧ W.cell? ⟨b, 21, none⟩ = some x21 ∧ W.cell? ⟨b, 22, none⟩ = some x22 ∧ W.cell? ⟨b, 23, none⟩ = some x23 := ⟨(h.cells 0 _ rfl).1, (h.cells 1 _ rfl).1, (h.cells 2 _ rfl).1, (h.cells 3 _ rfl).1, (h.cells 4 _ rfl).1, (h.cells 5 _ rfl).1, (h.cells 6 _ rfl).1, (h.cells 7 _ rfl).1, (h.cells 8 _ rfl).1, (h.cells 9 _ rfl).1, (h.cells 10 _ rfl).1, (h.cells 11 _ rfl).1, (h.cells 12 _ rfl).1, (h.cells 13 _ rfl).1, (h.cells 14 _ rfl).1, (h.cells 15 _ rfl).1, (h.cells 16 _ rfl).1, (h.cells 17 _ rfl).1, (h.cells 18 _ rfl).1, (h.cells 19 _ rfl).1, (h.cells 20 _ rfl).1, (h.cells 21 _ rfl).1, (h.cells 22 _ rfl).1, (h.cells 23 _ rfl).1⟩
theorem BoxL.f24 (h : BoxL W b #[x0, x1, x2, x3, x4, x5, x6, x7, x8, x9, x10, x11, x12, x13, x14, x15, x16, x17, x18, x19, x20, x21, x22, x23]) : W.frozen? ⟨b, 0, none⟩ = false ∧ W.frozen? ⟨b, 1, none⟩ = false ∧ W.frozen? ⟨b, 2, none⟩ = false ∧ W.frozen? ⟨b, 3, none⟩ = false ∧ W.frozen? ⟨b, 4, none⟩ = false ∧ W.frozen? ⟨b, 5, none⟩ = false ∧ W.frozen? ⟨b, 6, none⟩ = false ∧ W.frozen? ⟨b, 7, none⟩ = false ∧ W.frozen? ⟨b, 8, none⟩ = false ∧ W.frozen? ⟨b, 9, none⟩ = false ∧ W.frozen? ⟨b, 10, none⟩ = false ∧ W.frozen? ⟨b, 11, none⟩ = false ∧ W.frozen? ⟨b, 12, none⟩ = false ∧ W.frozen? ⟨b, 13, none⟩ = false ∧ W.frozen? ⟨b, 14, none⟩ = false ∧ W.frozen? ⟨b, 15, none⟩ = false ∧ W.frozen? ⟨b, 16, none⟩ = false ∧ W.frozen? ⟨b, 17, none⟩ = false ∧ W.frozen? ⟨b, 18, none⟩ = false ∧ W.frozen? ⟨b, 19, none⟩ = false ∧ W.frozen? ⟨b, 20, none⟩ = false ∧ W.frozen? ⟨b, 21, none⟩ = false ∧ W.frozen? ⟨b, 22, none⟩ = false ∧ W.frozen? ⟨b, 23, none⟩ = false := ⟨(h.cells 0 _ rfl).2, (h.cells 1 _ rfl).2, (h.cells 2 _ rfl).2, (h.cells 3 _ rfl).2, (h.cells 4 _ rfl).2, (h.cells 5 _ rfl).2, (h.cells 6 _ rfl).2, (h.cells 7 _ rfl).2, (h.cells 8 _ rfl).2, (h.cells 9 _ rfl).2, (h.cells 10 _ rfl).2, (h.cells 11 _ rfl).2, (h.cells 12 _ rfl).2, (h.cells 13 _ rfl).2, (h.cells 14 _ rfl).2, (h.cells 15 _ rfl).2, (h.cells 16 _ rfl).2, (h.cells 17 _ rfl).2, (h.cells 18 _ rfl).2, (h.cells 19 _ rfl).2, (h.cells 20 _ rfl).2, (h.cells 21 _ rfl).2, (h.cells 22 _ rfl).2, (h.cells 23 _ rfl).2⟩
theorem BoxL.l24 (h : BoxL W b #[x0, x1, x2, x3, x4, x5, x6, x7, x8, x9, x10, x11, x12, x13, x14, x15, x16, x17, x18, x19, x20, x21, x22, x23]) (hV : Below W.heap.size W V) : (∀ p : Later V, p.val.cell? ⟨b, 0, none⟩ = some x0) ∧ (∀ p : Later V, p.val.cell? ⟨b, 1, none⟩ = some x1) ∧ (∀ p : Later V, p.val.cell? ⟨b, 2, none⟩ = some x2) ∧ (∀ p : Later V, p.val.cell? ⟨b, 3, none⟩ = some x3) ∧ (∀ p : Later V, p.val.cell? ⟨b, 4, none⟩ = some x4) ∧ (∀ p : Later V, p.val.cell? ⟨b, 5, none⟩ = some x5) ∧ (∀ p : Later V, p.val.cell? ⟨b, 6, none⟩ = some x6) ∧ (∀ p : Later V, p.val.cell? ⟨b, 7, none⟩ = some x7) ∧ (∀ p : Later V, p.val.cell? ⟨b, 8, none⟩ = some x8) ∧ (∀ p : Later V, p.val.cell? ⟨b, 9, none⟩ = some x9) ∧ (∀ p : Later V, p.val.cell? ⟨b, 10, none⟩ = some x10) ∧ (∀ p : Later V, p.val.cell? ⟨b, 11, none⟩ = some x11) ∧ (∀ p : Later V, p.val.cell? ⟨b, 12, none⟩ = some x12) ∧ (∀ p : Later V, p.val.cell? ⟨b, 13, none⟩ = some x13) ∧ (∀ p : Later V, p.val.cell? ⟨b, 14, none⟩ = some x14) ∧ (∀ p : Later V, p.val.cell? ⟨b, 15, none⟩ = some x15) ∧ (∀ p : Later V, p.val.cell? ⟨b, 16, none⟩ = some x16) ∧ (∀ p : Later V, p.val.cell? ⟨b, 17, none⟩ = some x17) ∧ (∀ p : Later V, p.val.cell? ⟨b, 18, none⟩ = some x18) ∧ (∀ p : Later V, p.val.cell? ⟨b, 19, none⟩ = some x19) ∧ (∀ p : Later V, p.val.cell? ⟨b, 20, none⟩ = some x20) ∧ (∀ p : Later V, p.val.cell? ⟨b, 21, none⟩ = some x21) ∧ (∀ p : Later V, p.val.cell? ⟨b, 22, none⟩ = some x22) ∧ (∀ p : Later V, p.val.cell? ⟨b, 23, none⟩ = some x23) := ⟨fun p => (((h.keep hV).keep p.below).cells 0 _ rfl).1, fun p => (((h.keep hV).keep p.below).cells 1 _ rfl).1, fun p => (((h.keep hV).keep p.below).cells 2 _ rfl).1, fun p => (((h.keep hV).keep p.below).cells 3 _ rfl).1, fun p => (((h.keep hV).keep p.below).cells 4 _ rfl).1, fun p => (((h.keep hV).keep p.below).cells 5 _ rfl).1, fun p => (((h.keep hV).keep p.below).cells 6 _ rfl).1, fun p => (((h.keep hV).keep p.below).cells 7 _ rfl).1, fun p => (((h.keep hV).keep p.below).cells 8 _ rfl).1, fun p => (((h.keep hV).keep p.below).cells 9 _ rfl).1, fun p => (((h.keep hV).keep p.below).cells 10 _ rfl).1, fun p => (((h.keep hV).keep p.below).cells 11 _ rfl).1, fun p => (((h.keep hV).keep p.below).cells 12 _ rfl).1, fun p => (((h.keep hV).keep p.below).cells 13 _ rfl).1, fun p => (((h.keep hV).keep p.below).cells 14 _ rfl).1, fun p => (((h.keep hV).keep p.below).cells 15 _ rfl).1, fun p => (((h.keep hV).keep p.below).cells 16 _ rfl).1, fun p => (((h.keep hV).keep p.below).cells 17 _ rfl).1, fun p => (((h.keep hV).keep p.below).cells 18 _ rfl).1, fun p => (((h.keep hV).keep p.below).cells 19 _ rfl).1, fun p => (((h.keep hV).keep p.below).cells 20 _ rfl).1, fun p => (((h.keep hV).keep p.below).cells 21 _ rfl).1, fun p => (((h.keep hV).keep p.below).cells 22 _ rfl).1, fun p => (((h.keep hV).keep p.below).cells 23 _ rfl).1⟩
theorem BoxL.s24 (h : BoxL W b #[x0, x1, x2, x3, x4, x5, x6, x7, x8, x9, x10, x11, x12, x13, x14, x15, x16, x17, x18, x19, x20, x21, x22, x23]) (y0 y1 y2 y3 y4 y5 y6 y7 y8 y9 y10 y11 y12 y13 y14 y15 y16 y17 y18 y19 y20 y21 y22 y23 : Value) : BoxL ((((((((((((((((((((((((W.setCell ⟨b, 0, none⟩ y0).setCell ⟨b, 1, none⟩ y1).setCell ⟨b, 2, none⟩ y2).setCell ⟨b, 3, none⟩ y3).setCell ⟨b, 4, none⟩ y4).setCell ⟨b, 5, none⟩ y5).setCell ⟨b, 6, none⟩ y6).setCell ⟨b, 7, none⟩ y7).setCell ⟨b, 8, none⟩ y8).setCell ⟨b, 9, none⟩ y9).setCell ⟨b, 10, none⟩ y10).setCell ⟨b, 11, none⟩ y11).setCell ⟨b, 12, none⟩ y12).setCell ⟨b, 13, none⟩ y13).setCell ⟨b, 14, none⟩ y14).setCell ⟨b, 15, none⟩ y15).setCell ⟨b, 16, none⟩ y16).setCell ⟨b, 17, none⟩ y17).setCell ⟨b, 18, none⟩ y18).setCell ⟨b, 19, none⟩ y19).setCell ⟨b, 20, none⟩ y20).setCell ⟨b, 21, none⟩ y21).setCell ⟨b, 22, none⟩ y22).setCell ⟨b, 23, none⟩ y23) b #[y0, y1, y2, y3, y4, y5, y6, y7, y8, y9, y10, y11, y12, y13, y14, y15, y16, y17, y18, y19, y20, y21, y22, y23] := h.setAll [y0, y1, y2, y3, y4, y5, y6, y7, y8, y9, y10, y11, y12, y13, y14, y15, y16, y17, y18, y19, y20, y21, y22, y23] rfl
end
theorem BoxL.z24 {W : World} {a b : Nat} {zs : Array Value} (h : BoxL W a zs) (hab : b ≠ a) (y0 y1 y2 y3 y4 y5 y6 y7 y8 y9 y10 y11 y12 y13 y14 y15 y16 y17 y18 y19 y20 y21 y22 y23 : Value) : BoxL ((((((((((((((((((((((((W.setCell ⟨b, 0, none⟩ y0).setCell ⟨b, 1, none⟩ y1).setCell ⟨b, 2, none⟩ y2).setCell ⟨b, 3, none⟩ y3).setCell ⟨b, 4, none⟩ y4).setCell ⟨b, 5, none⟩ y5).setCell ⟨b, 6, none⟩ y6).setCell ⟨b, 7, none⟩ y7).setCell ⟨b, 8, none⟩ y8).setCell ⟨b, 9, none⟩ y9).setCell ⟨b, 10, none⟩ y10).setCell ⟨b, 11, none⟩ y11).setCell ⟨b, 12, none⟩ y12).setCell ⟨b, 13, none⟩ y13).setCell ⟨b, 14, none⟩ y14).setCell ⟨b, 15, none⟩ y15).setCell ⟨b, 16, none⟩ y16).setCell ⟨b, 17, none⟩ y17).setCell ⟨b, 18, none⟩ y18).setCell ⟨b, 19, none⟩ y19).setCell ⟨b, 20, none⟩ y20).setCell ⟨b, 21, none⟩ y21).setCell ⟨b, 22, none⟩ y22).setCell ⟨b, 23, none⟩ y23) a zs := h.setFar hab [y0, y1, y2, y3, y4, y5, y6, y7, y8, y9, y10, y11, y12, y13, y14, y15, y16, y17, y18, y19, y20, y21, y22, y23] 0
theorem below_s24 {n : Nat} {w W : World} {b : Nat} (h : Below n w W) (hb : n ≤ b) (y0 y1 y2 y3 y4 y5 y6 y7 y8 y9 y10 y11 y12 y13 y14 y15 y16 y17 y18 y19 y20 y21 y22 y23 : Value) : Below n w ((((((((((((((((((((((((W.setCell ⟨b, 0, none⟩ y0).setCell ⟨b, 1, none⟩ y1).setCell ⟨b, 2, none⟩ y2).setCell ⟨b, 3, none⟩ y3).setCell ⟨b, 4, none⟩ y4).setCell ⟨b, 5, none⟩ y5).setCell ⟨b, 6, none⟩ y6).setCell ⟨b, 7, none⟩ y7).setCell ⟨b, 8, none⟩ y8).setCell ⟨b, 9, none⟩ y9).setCell ⟨b, 10, none⟩ y10).setCell ⟨b, 11, none⟩ y11).setCell ⟨b, 12, none⟩ y12).setCell ⟨b, 13, none⟩ y13).setCell ⟨b, 14, none⟩ y14).setCell ⟨b, 15, none⟩ y15).setCell ⟨b, 16, none⟩ y16).setCell ⟨b, 17, none⟩ y17).setCell ⟨b, 18, none⟩ y18).setCell ⟨b, 19, none⟩ y19).setCell ⟨b, 20, none⟩ y20).setCell ⟨b, 21, none⟩ y21).setCell ⟨b, 22, none⟩ y22).setCell ⟨b, 23, none⟩ y23) := below_setAll hb [y0, y1, y2, y3, y4, y5, y6, y7, y8, y9, y10, y11, y12, y13, y14, y15, y16, y17, y18, y19, y20, y21, y22, y23] W 0 h

end Fr
end Go.Proofs.Ytojkaaglmdfcnaa

namespace Go.Proofs.Ytojkaaglmdfcnaa
open Go.RowKit
namespace Fr
set_option linter.unusedVariables false

/-- In every world, the call returns v; all that lay lies as it lay. -/
def Does (f : FuncId) (args : Array Value) (v : Value) : Prop := ∀ W : World, Calls Try.prog f args W fun o w' => o = .returned v ∧ Below W.heap.size W w'
theorem Does.at {f : FuncId} {args : Array Value} {v : Value} (h : Does f args v) (W : World) : Calls Try.prog f args W fun o w' => o = .returned v ∧ Below W.heap.size W w' := h W
theorem Does.of_same {f : FuncId} {args : Array Value} {v : Value} (h : ∀ W : World, Calls Try.prog f args W fun o w' => o = .returned v ∧ W = w') : Does f args v :=
  fun W => (h W).mono fun _ _ ⟨he, hw⟩ => ⟨he, hw ▸ Below.refl _ _⟩
theorem Does.eq {f : FuncId} {args : Array Value} {v u : Value} (h : Does f args v) (e : v = u) : Does f args u := e ▸ h

section
variable (w : World) (z0 z1 z2 z3 : Array Value) (T0 T1 T2 T3 : TypeId)
theorem start1 : BoxL (w.alloc (.cells z0 T0)) w.heap.size z0 ∧ Below w.heap.size w (w.alloc (.cells z0 T0)) := ⟨BoxL.new _ _ _, (Below.refl _ w).alloc (Nat.le_refl _) _⟩
theorem start2 : BoxL ((w.alloc (.cells z0 T0)).alloc (.cells z1 T1)) w.heap.size z0 ∧ BoxL ((w.alloc (.cells z0 T0)).alloc (.cells z1 T1)) (w.heap.size + 1) z1 ∧ Below w.heap.size w ((w.alloc (.cells z0 T0)).alloc (.cells z1 T1)) :=
  ⟨(start1 w z0 T0).1.keep ((Below.refl _ _).alloc (Nat.le_refl _) _), by have := BoxL.new (w.alloc (.cells z0 T0)) z1 T1; simpa using this, (start1 w z0 T0).2.alloc (by simp) _⟩
theorem start3 : BoxL (((w.alloc (.cells z0 T0)).alloc (.cells z1 T1)).alloc (.cells z2 T2)) w.heap.size z0 ∧ BoxL (((w.alloc (.cells z0 T0)).alloc (.cells z1 T1)).alloc (.cells z2 T2)) (w.heap.size + 1) z1 ∧
    BoxL (((w.alloc (.cells z0 T0)).alloc (.cells z1 T1)).alloc (.cells z2 T2)) (w.heap.size + 1 + 1) z2 ∧ Below w.heap.size w (((w.alloc (.cells z0 T0)).alloc (.cells z1 T1)).alloc (.cells z2 T2)) :=
  ⟨(start2 w z0 z1 T0 T1).1.keep ((Below.refl _ _).alloc (Nat.le_refl _) _), (start2 w z0 z1 T0 T1).2.1.keep ((Below.refl _ _).alloc (Nat.le_refl _) _), by have := BoxL.new ((w.alloc (.cells z0 T0)).alloc (.cells z1 T1)) z2 T2; simpa using this, (start2 w z0 z1 T0 T1).2.2.alloc (by simp; omega) _⟩
theorem start4 : BoxL ((((w.alloc (.cells z0 T0)).alloc (.cells z1 T1)).alloc (.cells z2 T2)).alloc (.cells z3 T3)) w.heap.size z0 ∧ BoxL ((((w.alloc (.cells z0 T0)).alloc (.cells z1 T1)).alloc (.cells z2 T2)).alloc (.cells z3 T3)) (w.heap.size + 1) z1 ∧
    BoxL ((((w.alloc (.cells z0 T0)).alloc (.cells z1 T1)).alloc (.cells z2 T2)).alloc (.cells z3 T3)) (w.heap.size + 1 + 1) z2 ∧ BoxL ((((w.alloc (.cells z0 T0)).alloc (.cells z1 T1)).alloc (.cells z2 T2)).alloc (.cells z3 T3)) (w.heap.size + 1 + 1 + 1) z3 ∧
    Below w.heap.size w ((((w.alloc (.cells z0 T0)).alloc (.cells z1 T1)).alloc (.cells z2 T2)).alloc (.cells z3 T3)) :=
  ⟨(start3 w z0 z1 z2 T0 T1 T2).1.keep ((Below.refl _ _).alloc (Nat.le_refl _) _), (start3 w z0 z1 z2 T0 T1 T2).2.1.keep ((Below.refl _ _).alloc (Nat.le_refl _) _), (start3 w z0 z1 z2 T0 T1 T2).2.2.1.keep ((Below.refl _ _).alloc (Nat.le_refl _) _), by have := BoxL.new (((w.alloc (.cells z0 T0)).alloc (.cells z1 T1)).alloc (.cells z2 T2)) z3 T3; simpa using this, (start3 w z0 z1 z2 T0 T1 T2).2.2.2.alloc (by simp; omega) _⟩
end

end Fr
end Go.Proofs.Ytojkaaglmdfcnaa

namespace Go.Proofs.Ytojkaaglmdfcnaa
open Go.RowKit
namespace Fr
set_option linter.unusedVariables false

theorem setAll_high (b : Nat) (j : Nat) : ∀ (vs : List Value) (W : World) (i : Nat), i + vs.length ≤ j → (setAll b W i vs).cell? ⟨b, j, none⟩ = W.cell? ⟨b, j, none⟩
  | [], _, _, _ => rfl
  | v :: vs, W, i, h => by
    unfold setAll
    simp only [List.length_cons] at h
    rw [setAll_high b j vs _ _ (by omega)]
    exact World.cell?_setCell_other _ _ _ _ (by intro e; have := congrArg Addr.off e; simp at this; omega)
/-- The list with vs in the place of its elements from i on. -/
def spliced (zs : Array Value) (vs : List Value) (i : Nat) : Array Value := (zs.toList.take i ++ vs ++ zs.toList.drop (i + vs.length)).toArray
theorem BoxL.setPart {W : World} {b : Nat} {zs : Array Value} (h : BoxL W b zs) (vs : List Value) (i : Nat) (hl : i + vs.length ≤ zs.size) : BoxL (Fr.setAll b W i vs) b (spliced zs vs i) := by
  have hz : (spliced zs vs i).size = zs.size := by simp [spliced]; omega
  refine ⟨by rw [setAll_size]; exact h.lt, fun j v hv => ?_⟩
  have hj : j < zs.size := by have := (Array.getElem?_eq_some_iff.1 hv).1; omega
  have hold := h.cells j _ (Array.getElem?_eq_getElem hj)
  rw [setAll_frozen]
  refine ⟨?_, hold.2⟩
  simp only [spliced, List.getElem?_toArray] at hv
  by_cases h1 : j < i
  · rw [setAll_low b j vs W i h1]
    rw [hold.1]
    rw [List.append_assoc, List.getElem?_append_left (by simp; omega), List.getElem?_take_of_lt h1] at hv
    rw [← hv]
    simp [hj]
  · by_cases h2 : j < i + vs.length
    · have := setAll_cell b vs W i (j - i) v (by
        rw [List.append_assoc, List.getElem?_append_right (by simp; omega)] at hv
        rw [show (zs.toList.take i).length = i by simp; omega] at hv
        rwa [List.getElem?_append_left (by omega)] at hv) (fun k hk => ⟨_, (h.cells (i + k) _ (Array.getElem?_eq_getElem (by omega))).1⟩)
      rwa [show i + (j - i) = j by omega] at this
    · rw [setAll_high b j vs W i (by omega)]
      rw [hold.1]
      rw [List.getElem?_append_right (by simp; omega)] at hv
      rw [show (zs.toList.take i ++ vs).length = i + vs.length by simp; omega, List.getElem?_drop] at hv
      rw [← hv, show i + vs.length + (j - (i + vs.length)) = j by omega]
      simp [hj]

theorem wp_region_free0 {P : Program} {id : Nat} {Q : Exit → Act → World → Prop} {a : Act} {w : World} {l : List Oper} (n : Nat) {agf : Act} (hm : P.follows .mixedOrders = true) (late : List Nat) (hB : freeB .any l n [] late = true) (hpan : ∀ (d : Option Tmp) v c a w, Q (.panic c) (a.put d v) w → Q (.panic c) a w)
    (h1 : ∀ W, Below w.heap.size w W → wpQuiet P (ghostL [] 0 (l.take n)).toArray (fun w' => ∃ p : Later W, w' = p.val) (fun a' => a' = agf) (ghostL [] 0 (l.take n)) a)
    (h2 : ∀ w', Below w.heap.size w w' → wpList P l.toArray Q (l.drop n) agf w') :
    (Code.region id l.toArray true).wp P Q a w :=
  wp_region_free n [] late (fun _ => #[]) agf hm hB hpan (fun _ hk => by cases hk) h1 (fun _ w' hb _ _ => h2 w' hb)

/-- In every world in which what lay in w0 lies as it lay, the call returns v. -/
def DoesIn (w0 : World) (f : FuncId) (args : Array Value) (v : Value) : Prop := ∀ W : World, Below w0.heap.size w0 W → Calls Try.prog f args W fun o w' => o = .returned v ∧ Below W.heap.size W w'
theorem Does.inn {f : FuncId} {args : Array Value} {v : Value} (h : Does f args v) (w0 : World) : DoesIn w0 f args v := fun W _ => h W
theorem DoesIn.later {w0 : World} {f : FuncId} {args : Array Value} {v : Value} (h : DoesIn w0 f args v) {W : World} (B : Below w0.heap.size w0 W) (p : Later W) : Calls Try.prog f args p.val fun o w' => o = .returned v ∧ Below p.val.heap.size p.val w' := h p.val (B.trans (p.below.mono B.size))
theorem DoesIn.mono {w0 W : World} {f : FuncId} {args : Array Value} {v : Value} (h : DoesIn w0 f args v) (B : Below w0.heap.size w0 W) : DoesIn W f args v := fun V hV => h V (B.trans (hV.mono B.size))
theorem DoesIn.at {w0 : World} {f : FuncId} {args : Array Value} {v : Value} (h : DoesIn w0 f args v) {W : World} (B : Below w0.heap.size w0 W) : Calls Try.prog f args W fun o w' => o = .returned v ∧ Below W.heap.size W w' := h W B

end Fr
end Go.Proofs.Ytojkaaglmdfcnaa
