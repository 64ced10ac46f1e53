/- A law for statements that leave the order of their operations open and make variables beside: n operations that only read and call (each leaves what lies), m operations that make a variable each, at whatever moment, and, behind all of them, the others in one order. One walk in the order of the text serves every order; of the variables' blocks it is said that they are new, apart from each other, and as they were made. -/
import Derived.Test.YtiebhlmjpnhepaaDoorA0
import Derived.Below
namespace Go.Proofs.YtiebhlmjpnhepaaDoor
open Go.RowKit
namespace Fr
set_option linter.unusedVariables false

/-- A class of worlds that come later than W, with each world also all that come later than it. -/
structure Cls (W : World) where
  C : World → Prop
  sub : ∀ w, C w → Below W.heap.size W w
  closed : ∀ w w', C w → Below w.heap.size w w' → C w'
  wit : World
  mem : C wit
structure In {W : World} (c : Cls W) where
  val : World
  mem : c.C val
instance {W : World} (c : Cls W) : Inhabited (In c) := ⟨⟨c.wit, c.mem⟩⟩
theorem In.below {W : World} {c : Cls W} (p : In c) : Below W.heap.size W p.val := c.sub _ p.mem

theorem in_of {P : Program} {f : FuncId} {args : Array Value} {W : World} {c : Cls W} {p : In c} {v : Value} (h : Calls P f args p.val fun e w' => e = .returned v ∧ Below p.val.heap.size p.val w') :
    Calls P f args p.val fun e w'' => e = .returned v ∧ ∃ q : In c, w'' = q.val :=
  h.mono fun _ w' ⟨he, hb⟩ => ⟨he, ⟨w', c.closed _ _ p.mem hb⟩, rfl⟩
theorem in_same {P : Program} {f : FuncId} {args : Array Value} {W : World} {c : Cls W} {p : In c} {v : Value} (h : Calls P f args p.val fun e w' => e = .returned v ∧ p.val = w') :
    Calls P f args p.val fun e w'' => e = .returned v ∧ ∃ q : In c, w'' = q.val :=
  h.mono fun _ w' ⟨he, hb⟩ => ⟨he, p, hb.symm⟩
theorem In.cell {W : World} {c : Cls W} {a : Addr} {v : Value} (hc : W.cell? a = some v) (hb : a.block < W.heap.size) (p : In c) : p.val.cell? a = some v := (p.below.cell hb).trans hc

section
variable {P : Program} {ops hd : Array Oper} {md : Region.Mode}

/-- Where the new variables lie. -/
def ptr (B : Nat) : Value := .pointer (some ⟨B, 0, none⟩)

/-- The worlds of a moment: later than W, and each variable that has been made lies in a new block, as it was made. -/
def Made (W : World) (m : Nat) (O : Nat → Obj) (β : Nat → Option Nat) (w : World) : Prop :=
  Below W.heap.size W w ∧ (∀ j, j < m → ∀ B, β j = some B → W.heap.size ≤ B ∧ w.heap[B]? = some (O j)) ∧ ∀ j k, j < m → k < m → ∀ B, β j = some B → β k = some B → j = k

theorem Made.lt {W : World} {m : Nat} {O : Nat → Obj} {β : Nat → Option Nat} {w : World} (h : Made W m O β w) {j B : Nat} (hj : j < m) (hB : β j = some B) : B < w.heap.size := by
  have := (h.2.1 j hj B hB).2
  exact (Array.getElem?_eq_some_iff.1 this).1

def Made.cls {W : World} {m : Nat} {O : Nat → Obj} {β : Nat → Option Nat} {w : World} (h : Made W m O β w) : Cls W where
  C := Made W m O β
  sub _ h := h.1
  closed w w' h hb := ⟨h.1.trans (hb.mono h.1.size), fun j hj B hB => ⟨(h.2.1 j hj B hB).1, (hb.block B (h.lt hj hB)).trans (h.2.1 j hj B hB).2⟩, h.2.2⟩
  wit := w
  mem := h

/-- The state of the walk, and the state in which the variables made so far are known too. -/
structure Agr (D : Nat → Nat) (m : Nat) (β : Nat → Option Nat) (a aq : Act) : Prop where
  defers : a.defers = aq.defers
  size : a.tmps.size = aq.tmps.size
  off : ∀ t, (∀ j, j < m → D j ≠ t) → a.tmps[t]? = aq.tmps[t]?
  on : ∀ j, j < m → a.tmps[D j]? = (match β j with | some B => if D j < aq.tmps.size then some (ptr B) else none | none => aq.tmps[D j]?)

theorem Agr.eval {D : Nat → Nat} {m : Nat} {β : Nat → Option Nat} {a aq : Act} (h : Agr D m β a aq) {o : Oper} (hap : ∀ j, j < m → D j ∉ o.looksAt ops) (hs : ∀ cs b, o.op ≠ .select cs b) : execOp a.eval o = execOp aq.eval o :=
  execOp_congr o hs fun x hx => by
    cases x with
    | tmp t =>
      have ht : ∀ j, j < m → D j ≠ t := fun j hj e => hap j hj (List.mem_append_left _ (List.mem_filterMap.2 ⟨.tmp t, by simpa using hx, by simp [e]⟩))
      simp only [Act.eval, Array.getD_eq_getD_getElem?, h.off t ht]
    | _ => rfl

theorem Agr.wanted {D : Nat → Nat} {m : Nat} {β : Nat → Option Nat} {a aq : Act} (h : Agr D m β a aq) {o : Oper} (hap : ∀ j, j < m → D j ∉ o.looksAt ops) : Region.wanted o (yielded ops a.tmps) = Region.wanted o (yielded ops aq.tmps) := by
  have hy : ∀ g b, o.guard = some (g, b) → yielded ops a.tmps g = yielded ops aq.tmps g := fun g b hg => by
    unfold yielded
    cases hd : (ops[g]?).bind (·.dst) with
    | none => rfl
    | some d =>
      have ht : ∀ j, j < m → D j ≠ d := fun j hj e => hap j hj (List.mem_append_right _ (by simp [hg, hd, e]))
      simp only [Option.bind_some, h.off d ht]
  unfold Region.wanted
  split
  · rfl
  · rename_i g b hg
    rw [hy g b hg]

theorem Agr.put {D : Nat → Nat} {m : Nat} {β : Nat → Option Nat} {a aq : Act} (h : Agr D m β a aq) {dst : Option Tmp} (hd : ∀ d, dst = some d → ∀ j, j < m → D j ≠ d) (v : Value) : Agr D m β (a.put dst v) (aq.put dst v) := by
  cases dst with
  | none => exact h
  | some d =>
    refine ⟨h.defers, by simpa [Act.put] using h.size, fun t ht => ?_, fun j hj => ?_⟩
    · simp only [Act.put, Array.getElem?_setIfInBounds, h.size]
      by_cases e : d = t
      · simp [e]
      · simp only [e, if_false]; exact h.off t ht
    · have e := hd d rfl j hj
      simp only [Act.put, Array.getElem?_setIfInBounds_ne (Ne.symm e), Array.size_setIfInBounds]
      exact h.on j hj

theorem Agr.make {D : Nat → Nat} {m : Nat} {β : Nat → Option Nat} {a aq : Act} (h : Agr D m β a aq) (hinj : ∀ j k, j < m → k < m → D j = D k → j = k) {i : Nat} (hi : i < m) (B : Nat) :
    Agr D m (fun j => if j = i then some B else β j) (a.put (some (D i)) (ptr B)) aq := by
  refine ⟨h.defers, by simpa [Act.put] using h.size, fun t ht => ?_, fun j hj => ?_⟩
  · simp only [Act.put, Array.getElem?_setIfInBounds_ne (ht i hi)]
    exact h.off t ht
  · by_cases e : j = i
    · subst e
      simp only [Act.put, if_true, Array.getElem?_setIfInBounds_self]
      rw [h.size]
    · have hne : D i ≠ D j := fun e' => e (hinj j i hj hi e'.symm)
      simp only [Act.put, Array.getElem?_setIfInBounds_ne hne, e, if_false]
      exact h.on j hj

/-- A slot that no operation to come writes stays as it is. -/
theorem slot_stays {C : World → Prop} {A : Act} {d : Nat} : ∀ (f : Nat) (listed : Array Bool) (a : Act), (∀ i o, hd[i]? = some o → listed.getD i true = false → o.dst ≠ some d) → wpAnyQ P md hd C (fun a' => a' = A) f listed a → a.tmps[d]? = A.tmps[d]? ∧ a.tmps.size = A.tmps.size
  | 0, listed, a, _, h => by rw [h.2]; exact ⟨rfl, rfl⟩
  | f + 1, listed, a, hno, h => by
    cases hr : Region.ready md hd listed with
    | nil => rw [h.1 hr]; exact ⟨rfl, rfl⟩
    | cons i rest =>
      have hi : i ∈ Region.ready md hd listed := by rw [hr]; simp
      obtain ⟨hun, o, ho, _⟩ := mem_ready.1 hi
      have hq := h.2 i hi
      have hod := hno i o ho hun
      have next : ∀ v, wpAnyQ P md hd C (fun a' => a' = A) f (listed.setIfInBounds i true) (a.put o.dst v) → a.tmps[d]? = A.tmps[d]? ∧ a.tmps.size = A.tmps.size := fun v hv => by
        have := slot_stays f _ _ (fun k ok hk hku => by
          by_cases hik : i = k
          · subst hik
            have : ok = o := Option.some.inj (hk.symm.trans ho)
            subst this
            exact hod
          · exact hno k ok hk (by rw [getD_set_ne true hik] at hku; exact hku)) hv
        cases hdst : o.dst with
        | none => rw [hdst] at this; exact this
        | some e =>
          rw [hdst] at this hod
          have hne : e ≠ d := fun h' => hod (by rw [h'])
          simpa [Act.put, Array.getElem?_setIfInBounds_ne hne] using this
      unfold qOp at hq
      simp only [ho] at hq
      split at hq
      · obtain ⟨v, _, hv⟩ := hq
        exact next v hv
      · exact next undef hq
end

end Fr
end Go.Proofs.YtiebhlmjpnhepaaDoor
