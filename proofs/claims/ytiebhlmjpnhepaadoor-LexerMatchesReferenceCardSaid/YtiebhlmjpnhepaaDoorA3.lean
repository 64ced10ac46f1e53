/- The law for statements that leave the order of their operations open and make one variable, or two, beside. -/
import Derived.Test.YtiebhlmjpnhepaaDoorA2
namespace Go.Proofs.YtiebhlmjpnhepaaDoor
open Go.RowKit
namespace Fr
set_option linter.unusedVariables false

section
variable {P : Program} {md : Region.Mode}

/-- The slots that the operations from n on, m of them, write. -/
def slotAt (ops : Array Oper) (n j : Nat) : Nat := (((ops[n + j]?).bind (·.dst)).getD 0)

def apartB (ops : Array Oper) (n m : Nat) : Bool :=
  (List.range n).all fun i => match ops[i]? with
    | some o => (List.range m).all fun j => !(o.looksAt ops).contains (slotAt ops n j) && o.dst != some (slotAt ops n j)
    | none => true
def distB (ops : Array Oper) (n : Nat) : Bool :=
  (List.range n).all fun i => (List.range n).all fun k => i == k || match ops[i]?, ops[k]? with
    | some o, some o' => (match o.dst with | some d => o'.dst != some d | none => true)
    | _, _ => true
def injB (ops : Array Oper) (n m : Nat) : Bool :=
  (List.range m).all fun j => (List.range m).all fun k => j == k || slotAt ops n j != slotAt ops n k

/-- What is asked of a region of which the first n operations may come in any order, m others make a variable each, and the rest comes in one order. -/
def growB (md : Region.Mode) (l : List Oper) (n m : Nat) : Bool :=
  Region.lexB md (l.take n).toArray && decide (n + m < l.length) && Region.noSelect l.toArray && headB md l.toArray n && headB md l.toArray (n + m) &&
    ((List.range (n + m)).all fun i => Region.waitsFor md l.toArray (n + m) i) && Region.chainB md l.toArray (n + m) && apartB l.toArray n m && distB l.toArray n && injB l.toArray n m &&
    Region.seqB md l.toArray (l.length - (n + m)) (n + m) (Array.replicate (n + m) true ++ Array.replicate (l.length - (n + m)) false)

theorem apartB_spec {ops : Array Oper} {n m : Nat} (h : apartB ops n m = true) {i : Nat} (hi : i < n) {o : Oper} (ho : ops[i]? = some o) {j : Nat} (hj : j < m) : slotAt ops n j ∉ o.looksAt ops ∧ o.dst ≠ some (slotAt ops n j) := by
  have h1 := List.all_eq_true.1 h i (List.mem_range.2 hi)
  simp only [ho] at h1
  have h2 := List.all_eq_true.1 h1 j (List.mem_range.2 hj)
  simpa using h2
theorem distB_spec {ops : Array Oper} {n : Nat} (h : distB ops n = true) {i k : Nat} (hi : i < n) (hk : k < n) (hne : i ≠ k) {o o' : Oper} (ho : ops[i]? = some o) (ho' : ops[k]? = some o') {d : Nat} (hd : o.dst = some d) : o'.dst ≠ some d := by
  have h1 := List.all_eq_true.1 h i (List.mem_range.2 hi)
  have h2 := List.all_eq_true.1 h1 k (List.mem_range.2 hk)
  simpa [ho, ho', hd, hne] using h2
theorem injB_spec {ops : Array Oper} {n m : Nat} (h : injB ops n m = true) {j k : Nat} (hj : j < m) (hk : k < m) (e : slotAt ops n j = slotAt ops n k) : j = k := by
  have h1 := List.all_eq_true.1 h j (List.mem_range.2 hj)
  have h2 := List.all_eq_true.1 h1 k (List.mem_range.2 hk)
  simpa [e] using h2

/-- One operation makes a variable. -/
def Makes (P : Program) (l : List Oper) (i : Nat) (ob : Obj) : Prop :=
  ∃ o, l[i]? = some o ∧ o.guard = none ∧ o.dst.isSome = true ∧ ∀ (a : Act) (w : World), (execOp a.eval o).run P w = .ok (.value (ptr w.heap.size)) (w.alloc ob)

theorem wp_region_grow {id : Nat} {Q : Exit → Act → World → Prop} {a A : Act} {W : World} {l : List Oper} (n m : Nat) (O : Nat → Obj) (hm : P.follows .mixedOrders = true) (hB : growB .any l n m = true)
    (hmk : ∀ j, j < m → Makes P l (n + j) (O j))
    (hw : ∀ c : Cls W, wpQuiet P (l.take n).toArray (fun w' => ∃ p : In c, w' = p.val) (fun a' => a' = A) (l.take n) a)
    (hrest : ∀ a' w' β, (∀ j, j < m → ∃ B, β j = some B) → Made W m O β w' → Agr (slotAt l.toArray n) m β a' A → wpList P l.toArray Q (l.drop (n + m)) a' w') : (Code.region id l.toArray true).wp P Q a W := by
  simp only [growB, Bool.and_eq_true, decide_eq_true_eq] at hB
  obtain ⟨⟨⟨⟨⟨⟨⟨⟨⟨⟨hlex, hlt⟩, hsel⟩, hb1⟩, hb2⟩, hwt⟩, hch⟩, hap⟩, hdi⟩, hinj⟩, hseq⟩ := hB
  simp only [Region.lexB, Bool.and_eq_true] at hlex
  have htl : (l.take n).length = n := by simp; omega
  have S : Shape P .any l.toArray (l.take n).toArray n m (slotAt l.toArray n) O :=
    { head := fun j hj => by simp [hj]
      hsize := by simp; omega
      lt := by simpa using hlt
      sel := hsel
      headB := hb1
      waits := fun i hi => List.all_eq_true.1 hwt i (List.mem_range.2 hi)
      chain := fun t h1 h2 => by
        have := List.all_eq_true.1 hch t (List.mem_range.2 h2)
        simp only [Bool.or_eq_true, decide_eq_true_eq] at this
        rcases this with h | h
        · omega
        · exact h
      makes := fun j hj => by
        obtain ⟨o, ho, hg, hd, hr⟩ := hmk j hj
        have ho' : l.toArray[n + j]? = some o := by simpa using ho
        obtain ⟨d, hd'⟩ := Option.isSome_iff_exists.1 hd
        refine ⟨o, ho', hg, ?_, (headB_spec hb2 (by omega) ho').2, hr⟩
        unfold slotAt
        rw [ho', hd']
        simp [hd']
      apart := fun i hi o ho j hj => apartB_spec hap hi ho hj
      dist := fun i k hi hk hne o o' ho ho' d hd => distB_spec hdi hi hk hne ho ho' hd
      inj := fun j k hj hk e => injB_spec hinj hj hk e }
  refine wp_region_any hm ?_
  refine grow_any (A := A) (W := W) (full := Array.replicate (n + m) true ++ Array.replicate (l.length - (n + m)) false) (g := l.length - (n + m)) S (by simp; omega) (fun j hj => ?_) ?_ (fun a' w' β h1 h2 h3 => ?_)
    l.toArray.size _ (Array.replicate n false) a a (fun _ => none) _ n ?_ ?_ (by simp) (fun j hj => ?_) (fun j hj => ?_) (fun t h1 h2 => ?_) ?_ ?_ (fun c => ?_)
  · have hj' : j < l.length := by simpa using hj
    by_cases h1 : j < n + m
    · simp [h1, Array.getElem?_append]
    · have h2 : j - (n + m) < l.length - (n + m) := by omega
      simp [h1, Array.getElem?_append, h2]
  · simp [List.count_replicate]
  · have := wpAny_of_seq (md := .any) (Q' := Q) (l.drop (n + m)) (n + m) (Array.replicate (n + m) true ++ Array.replicate (l.length - (n + m)) false) a' w' (fun j => by simp [List.getElem?_drop]) (by rw [List.length_drop]; exact hseq) (hrest a' w' β h1 h2 h3)
    rwa [List.length_drop] at this
  · simp
  · simp
  · rw [getD_in (by simp; omega) (getD_replicate_false _ _), getD_in (by simpa using hj) (getD_replicate_false _ _)]
  · rw [getD_in (by simp; omega) (getD_replicate_false _ _)]; rfl
  · exact getD_in (by simpa using h2) (getD_replicate_false _ _)
  · exact ⟨(Below.refl _ W).drew, fun j hj B hB => (by cases hB), fun j k hj hk B hB => (by cases hB)⟩
  · exact ⟨rfl, rfl, fun t _ => rfl, fun j _ => rfl⟩
  · have e : (fun w' => ∃ p : In c, w' = p.val) = c.C := by
      funext w'
      refine propext ⟨fun ⟨p, hp⟩ => hp ▸ p.mem, fun h => ⟨⟨w', h⟩, rfl⟩⟩
    have := hw c
    rw [e] at this
    have H := wpAnyQ_lex (C := c.C) (md := .any) hlex.1 (l.take n) 0 (Array.replicate n false) a (by simp) (by simpa [htl] using hlex.2) this
    rwa [htl] at H

/-- One variable is made beside. -/
theorem wp_region_grow1 {id : Nat} {Q : Exit → Act → World → Prop} {a A : Act} {W : World} {l : List Oper} (n : Nat) (ob : Obj) (hm : P.follows .mixedOrders = true) (hB : growB .any l n 1 = true) (hmk : Makes P l n ob)
    (hw : ∀ c : Cls W, wpQuiet P (l.take n).toArray (fun w' => ∃ p : In c, w' = p.val) (fun a' => a' = A) (l.take n) a)
    (hrest : ∀ B w', Below W.heap.size W w' → W.heap.size ≤ B → w'.heap[B]? = some ob → wpList P l.toArray Q (l.drop (n + 1)) (A.put (some (slotAt l.toArray n 0)) (.pointer (some ⟨B, 0, none⟩))) w') : (Code.region id l.toArray true).wp P Q a W := by
  refine wp_region_grow (A := A) n 1 (fun _ => ob) hm hB (fun j hj => by obtain rfl : j = 0 := (by omega); exact hmk) hw ?_
  intro a' w' β h1 h2 h3
  obtain ⟨B, hBe⟩ := h1 0 (by omega)
  have h4 := h2.2.1 0 (by omega) B hBe
  have e : a' = A.put (some (slotAt l.toArray n 0)) (.pointer (some ⟨B, 0, none⟩)) := by
    obtain ⟨at_, ad⟩ := a'
    obtain ⟨A_, Ad⟩ := A
    obtain ⟨e1, e2, e3, e4⟩ := h3
    simp only at e1 e2 e3
    subst e1
    simp only [Act.put, Act.mk.injEq, and_true]
    refine Array.ext (by simpa using e2) fun t p1 p2 => ?_
    have e5 := e4 0 (by omega)
    simp only [hBe] at e5
    by_cases ht : slotAt l.toArray n 0 = t
    · subst ht
      have p3 : slotAt l.toArray n 0 < A_.size := by simpa using p2
      simp only [p3, if_true] at e5
      have e6 : at_[slotAt l.toArray n 0]? = some at_[slotAt l.toArray n 0] := Array.getElem?_eq_getElem p1
      rw [e6] at e5
      simp only [Option.some.injEq] at e5
      simp [e5, ptr]
    · have e7 := e3 t (fun j hj e' => ht (by obtain rfl : j = 0 := (by omega); exact e'))
      rw [Array.getElem?_eq_getElem p1, Array.getElem?_eq_getElem (by simpa using p2)] at e7
      simp only [Option.some.injEq] at e7
      rw [e7, Array.getElem_setIfInBounds_ne (by simpa using p2) ht]
  rw [e]
  exact hrest B w' h2.1 h4.1 h4.2

/-- .. as one walk tells the state, and then goes on. -/
theorem wp_region_make {id : Nat} {Q : Exit → Act → World → Prop} {a : Act} {W : World} {l : List Oper} (n d : Nat) (ob : Obj) (hm : P.follows .mixedOrders = true) (hB : growB .any l n 1 = true) (hd : slotAt l.toArray n 0 = d) (hmk : Makes P l n ob)
    (h : ∃ A : Act, (∀ c : Cls W, wpQuiet P (l.take n).toArray (fun w' => ∃ p : In c, w' = p.val) (fun a' => a' = A) (l.take n) a) ∧
      ∀ B w', Below W.heap.size W w' → W.heap.size ≤ B → w'.heap[B]? = some ob → wpList P l.toArray Q (l.drop (n + 1)) ({ tmps := A.tmps.setIfInBounds d (.pointer (some ⟨B, 0, none⟩)), defers := A.defers } : Act) w') : (Code.region id l.toArray true).wp P Q a W := by
  obtain ⟨A, h1, h2⟩ := h
  refine wp_region_grow1 n ob hm hB hmk h1 ?_
  rw [hd]
  exact h2
end

end Fr
end Go.Proofs.YtiebhlmjpnhepaaDoor
