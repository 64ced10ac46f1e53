/- A law for statements that leave the order of their operations open: all but the last operations keep a class of worlds and yield the same values in each of its worlds; the last operations come in one order. Then one walk in the order of the text serves every order. A law for statements that leave the order of their operations open and make variables beside: n operations that only read and call (each leaves what lies), m operations that make a variable each, at whatever moment, and, behind all of them, the others in one order. One walk in the order of the text serves every order; of the variables' blocks it is said that they are new, apart from each other, and as they were made. The law for statements that leave the order of their operations open and make variables beside. The law for statements that leave the order of their operations open and make one variable, or two, beside. Bytes of source files, pieces of white space, words, signs; the tokens of a list of bytes. Tokens and separators: what stands behind a separator does not matter; what stands behind a token does not matter; a token alone. -/
import Derived.StillTail
import Derived.Deep.Quiet
import Derived.Below
import Derived.Laws.NewBlocks
import Derived.KernelRfl
namespace Go.Proofs.YtggeepimihhpjaaGreatDoor
namespace Fr

section
variable {P : Program} {ops hd : Array Oper} {md : Region.Mode} {C : World → Prop}

def headB (md : Region.Mode) (ops : Array Oper) (n : Nat) : Bool :=
  (List.range n).all fun i => match ops[i]? with
    | some o => (match o.guard with | some (g, _) => decide (g < n) | none => true) && o.after.all fun e => !Region.binds md e || decide (e.on < i)
    | none => false

theorem headB_spec {n : Nat} (h : headB md ops n = true) {i : Nat} (hi : i < n) {o : Oper} (ho : ops[i]? = some o) :
    (∀ g b, o.guard = some (g, b) → g < n) ∧ ∀ e ∈ o.after, Region.binds md e = true → e.on < i := by
  have h1 := List.all_eq_true.1 h i (List.mem_range.2 hi)
  simp only [ho, Bool.and_eq_true] at h1
  refine ⟨fun g b hg => ?_, fun e he hb => ?_⟩
  · have h2 := h1.1
    rw [hg] at h2
    simpa using h2
  · have h2 := Array.all_eq_true_iff_forall_mem.1 h1.2 e he
    simpa [hb] using h2

theorem any_more {Q : Exit → Act → World → Prop} : ∀ (f : Nat) (listed : Array Bool) (a : Act) (w : World), wpAny P md ops Q f listed a w → wpAny P md ops Q (f + 1) listed a w
  | 0, listed, a, w, h => ⟨fun _ => h.2, fun i hi => by rw [h.1] at hi; cases hi⟩
  | f + 1, listed, a, w, h => ⟨h.1, fun i hi => wpOp_mono (fun a' w' h' => any_more f _ a' w' h') (h.2 i hi)⟩
theorem any_more' {Q : Exit → Act → World → Prop} (g : Nat) {listed : Array Bool} {a : Act} {w : World} (h : wpAny P md ops Q g listed a w) : ∀ f, wpAny P md ops Q (f + g) listed a w
  | 0 => by rw [Nat.zero_add]; exact h
  | f + 1 => by rw [show f + 1 + g = (f + g) + 1 by omega]; exact any_more _ _ _ _ (any_more' g h f)

theorem head_ready {n : Nat} (hB : headB md ops n = true) (hsz : n ≤ ops.size) {la : Array Bool} : ∀ (i : Nat), i < n → la.getD i true = false → (∀ j, j < n → la.getD j true = la.getD j false) → ∃ k, k < n ∧ k ∈ Region.ready md ops la := by
  intro i
  induction i using Nat.strongRecOn with
  | _ i ih =>
    intro hi hun hboth
    obtain ⟨o, ho⟩ : ∃ o, ops[i]? = some o := ⟨_, Array.getElem?_eq_getElem (by omega)⟩
    have hs := headB_spec hB hi ho
    by_cases hall : ∀ e ∈ o.after, Region.binds md e = true → la.getD e.on false = true
    · exact ⟨i, hi, mem_ready.2 ⟨hun, o, ho, hall⟩⟩
    · obtain ⟨e, he⟩ := Classical.not_forall.1 hall
      obtain ⟨he, h2⟩ := Classical.not_imp.1 he
      obtain ⟨hb, h3⟩ := Classical.not_imp.1 h2
      have hlt := hs.2 e he hb
      refine ih e.on hlt (by omega) ?_ hboth
      rw [hboth e.on (by omega)]
      simpa using h3

theorem wanted_head {n : Nat} (hhd : ∀ j, j < n → hd[j]? = ops[j]?) (hB : headB md ops n = true) {i : Nat} (hi : i < n) {o : Oper} (ho : ops[i]? = some o) (t : Array Value) :
    Region.wanted o (yielded hd t) = Region.wanted o (yielded ops t) := by
  have hs := headB_spec hB hi ho
  have hy : ∀ g b, o.guard = some (g, b) → yielded hd t g = yielded ops t g := fun g b hg => by
    unfold yielded
    rw [hhd g (hs.1 g b hg)]
  unfold Region.wanted
  split
  · rfl
  · rename_i g b hg
    rw [hy g b hg]

theorem head_any {n g : Nat} {Q : Act → Prop} {Q' : Exit → Act → World → Prop} {full : Array Bool} (hhd : ∀ j, j < n → hd[j]? = ops[j]?) (hsz : hd.size = n) (hn : n < ops.size)
    (hs : Region.sinkB md ops n = true) (hc : Region.chainB md ops n = true) (hB : headB md ops n = true) (hfz : full.size = ops.size) (hf : ∀ j, j < ops.size → full.getD j true = decide (j < n))
    (hQ : ∀ a w, C w → Q a → wpAny P md ops Q' g full a w) :
    ∀ (f : Nat) (lh la : Array Bool) (a : Act) (w : World), lh.size = n → HeadInv md ops n la → (∀ j, j < n → la.getD j true = lh.getD j true) → C w → wpAnyQ P md hd C Q f lh a → wpAny P md ops Q' (f + g) la a w := by
  have fin : ∀ (f : Nat) (la : Array Bool) (a : Act) (w : World), HeadInv md ops n la → (∀ j, j < n → la.getD j true = true) → C w → Q a → wpAny P md ops Q' (f + g) la a w := by
    intro f la a w inv hall hw hq
    have : la = full := by
      refine Array.ext (inv.size.trans hfz.symm) fun j h1 h2 => ?_
      have hjo : j < ops.size := by rw [← inv.size]; exact h1
      have e1 : la.getD j true = full.getD j true := by
        rw [hf j hjo]
        by_cases hj : j < n
        · rw [hall j hj]; simp [hj]
        · rw [inv.tail j (by omega) hjo]; simp [hj]
      simpa [h1, h2] using e1
    subst this
    exact any_more' g (hQ a w hw hq) f
  have both : ∀ (lh la : Array Bool), lh.size = n → HeadInv md ops n la → (∀ j, j < n → la.getD j true = lh.getD j true) → (∀ j, j < n → la.getD j true = la.getD j false) ∧ ∀ j, j < n → lh.getD j false = la.getD j false := by
    intro lh la hlz inv hll
    have h1 : ∀ j, j < n → la.getD j true = la.getD j false := fun j hj => by
      have : j < la.size := by rw [inv.size]; omega
      simp [this]
    refine ⟨h1, fun j hj => ?_⟩
    have : j < lh.size := by omega
    rw [← h1 j hj, hll j hj]
    simp [this]
  have same : ∀ (lh la : Array Bool), lh.size = n → HeadInv md ops n la → (∀ j, j < n → la.getD j true = lh.getD j true) → ∀ i, i < n → (i ∈ Region.ready md ops la ↔ i ∈ Region.ready md hd lh) := by
    intro lh la hlz inv hll i hi
    have hb := both lh la hlz inv hll
    rw [mem_ready, mem_ready, hll i hi, hhd i hi]
    refine and_congr_right fun _ => ⟨fun ⟨o, ho, h⟩ => ⟨o, ho, fun e he hbi => ?_⟩, fun ⟨o, ho, h⟩ => ⟨o, ho, fun e he hbi => ?_⟩⟩
    · have := (headB_spec hB hi ho).2 e he hbi
      rw [hb.2 e.on (by omega)]; exact h e he hbi
    · have := (headB_spec hB hi ho).2 e he hbi
      rw [← hb.2 e.on (by omega)]; exact h e he hbi
  have step : ∀ (lh la : Array Bool), lh.size = n → HeadInv md ops n la → (∀ j, j < n → la.getD j true = lh.getD j true) → (∀ j, j < n → la.getD j true = true) ∨ (Region.ready md hd lh ≠ [] ∧ ∃ i, i < n ∧ la.getD i true = false) := by
    intro lh la hlz inv hll
    by_cases hall : ∀ j, j < n → la.getD j true = true
    · exact .inl hall
    · obtain ⟨i, hi⟩ := Classical.not_forall.1 hall
      obtain ⟨hi, hun⟩ := Classical.not_imp.1 hi
      have hun' : la.getD i true = false := by simpa using hun
      obtain ⟨k, hk, hkr⟩ := head_ready hB (by omega) i hi hun' (both lh la hlz inv hll).1
      have := (same lh la hlz inv hll k hk).1 hkr
      exact .inr ⟨fun h => (by rw [h] at this; cases this), i, hi, hun'⟩
  intro f
  induction f with
  | zero =>
    intro lh la a w hlz inv hll hw h
    rcases step lh la hlz inv hll with hall | ⟨hne, _⟩
    · exact fin 0 la a w inv hall hw h.2
    · exact absurd h.1 hne
  | succ f ih =>
    intro lh la a w hlz inv hll hw h
    rcases step lh la hlz inv hll with hall | ⟨hne, i0, hi0, hun0⟩
    · refine fin (f + 1) la a w inv hall hw (h.1 ?_)
      refine List.eq_nil_iff_forall_not_mem.2 fun j hj => ?_
      have hjn : j < n := by
        obtain ⟨_, o, ho, _⟩ := mem_ready.1 hj
        have := (Array.getElem?_eq_some_iff.1 ho).1
        omega
      have h1 := (mem_ready.1 hj).1
      rw [← hll j hjn, hall j hjn] at h1
      cases h1
    · rw [show f + 1 + g = (f + g) + 1 by omega]
      have hlow : ∀ t, t ∈ Region.ready md ops la → t < n := fun t ht => by
        rcases Nat.lt_or_ge t n with h' | h'
        · exact h'
        · exact absurd ht (tail_waits hs hc hn inv _ i0 rfl hi0 hun0 t h')
      refine ⟨fun h0 => ?_, fun i hi => ?_⟩
      · exfalso
        apply hne
        refine List.eq_nil_iff_forall_not_mem.2 fun j hj => ?_
        have hjn : j < n := by
          obtain ⟨_, o, ho, _⟩ := mem_ready.1 hj
          have := (Array.getElem?_eq_some_iff.1 ho).1
          omega
        have := (same lh la hlz inv hll j hjn).2 hj
        rw [h0] at this
        cases this
      · have hin := hlow i hi
        have hq := h.2 i ((same lh la hlz inv hll i hin).1 hi)
        obtain ⟨_, o, ho, _⟩ := mem_ready.1 hi
        have go : ∀ a' w', C w' → wpAnyQ P md hd C Q f (lh.setIfInBounds i true) a' → wpAny P md ops Q' (f + g) (la.setIfInBounds i true) a' w' := fun a' w' hw' h' => by
          refine ih (lh.setIfInBounds i true) (la.setIfInBounds i true) a' w' (by simpa using hlz) (inv.set hi hin) (fun j hj => ?_) hw' h'
          by_cases hij : i = j
          · subst hij
            have h1 : i < la.size := by rw [inv.size]; omega
            have h2 : i < lh.size := by omega
            simp [h1, h2]
          · rw [getD_set_ne true hij, getD_set_ne true hij]; exact hll j hj
        have ho' : hd[i]? = some o := by rw [hhd i hin]; exact ho
        unfold qOp at hq
        simp only [ho'] at hq
        rw [wanted_head hhd hB hin ho] at hq
        unfold wpOp
        simp only [ho]
        split
        · rename_i hwt
          simp only [hwt, if_true] at hq
          exact .inl (Oper.wp_of_quiet hw go hq)
        · rename_i hwt
          simp only [hwt] at hq
          exact go _ _ hw hq

def classTailB (md : Region.Mode) (l : List Oper) (n : Nat) : Bool :=
  Region.lexB md (l.take n).toArray && decide (n < l.length) && Region.sinkB md l.toArray n && Region.chainB md l.toArray n && headB md l.toArray n &&
    Region.seqB md l.toArray (l.length - n) n (Array.replicate n true ++ Array.replicate (l.length - n) false)

theorem wp_region_class_tail {id : Nat} {Q : Exit → Act → World → Prop} {a : Act} {w : World} {l : List Oper} (n : Nat) (hm : P.follows .mixedOrders = true) (hB : classTailB .any l n = true)
    (hC : C { w with drawn := w.drawn + 1 }) (h : wpQuiet P (l.take n).toArray C (fun a' => ∀ w', C w' → wpList P l.toArray Q (l.drop n) a' w') (l.take n) a) : (Code.region id l.toArray true).wp P Q a w := by
  simp only [classTailB, Bool.and_eq_true, decide_eq_true_eq] at hB
  obtain ⟨⟨⟨⟨⟨hlex, hn⟩, hs⟩, hc⟩, hb⟩, hq⟩ := hB
  simp only [Region.lexB, Bool.and_eq_true] at hlex
  have htl : (l.take n).length = n := by simp; omega
  have H := wpAnyQ_lex (C := C) (md := .any) hlex.1 (l.take n) 0 (Array.replicate n false) a (by simp) (by simpa [htl] using hlex.2) h
  refine wp_region_any hm ?_
  have inv0 : HeadInv .any l.toArray n (Array.replicate l.toArray.size false) :=
    ⟨by simp, fun j oj _ hl => (by rw [getD_replicate_false] at hl; cases hl), fun t _ ht => getD_in (by simpa using ht) (getD_replicate_false _ _)⟩
  have := head_any (P := P) (ops := l.toArray) (hd := (l.take n).toArray) (md := .any) (C := C) (n := n) (g := l.length - n) (Q' := Q) (full := Array.replicate n true ++ Array.replicate (l.length - n) false)
    (fun j hj => by simp [hj]) (by simp; omega) (by simpa using hn) hs hc hb (by simp; omega) (fun j hj => by
      have hj' : j < l.length := by simpa using hj
      by_cases h1 : j < n
      · simp [h1, Array.getElem?_append]
      · have h2 : j - n < l.length - n := by omega
        simp [h1, Array.getElem?_append, h2])
    (fun a' w' hw' hQ => by
      have := wpAny_of_seq (md := .any) (Q' := Q) (l.drop n) n (Array.replicate n true ++ Array.replicate (l.length - n) false) a' w' (fun j => by simp [List.getElem?_drop]) (by rw [List.length_drop]; exact hq) (hQ w' hw')
      rwa [List.length_drop] at this)
    _ _ _ a _ (by simp) inv0 (fun j hj => by
      rw [getD_in (by simp; omega) (getD_replicate_false _ _), getD_in (by simpa using hj) (getD_replicate_false _ _)]) hC H
  rw [htl, show n + (l.length - n) = l.toArray.size by simp; omega] at this
  exact this
end

end Fr
end Go.Proofs.YtggeepimihhpjaaGreatDoor

namespace Go.Proofs.YtggeepimihhpjaaGreatDoor
open Go.RowKit
namespace Fr
set_option linter.unusedVariables false

structure Cls (W : World) where
  C : World → Prop
  sub : ∀ w, C w → Below W.heap.size W w
  closed : ∀ w w', C w → Below w.heap.size w w' → C w'
  wit : World
  mem : C wit
structure In {W : World} (c : Cls W) where
  val : World
  mem : c.C val
instance {W : World} (c : Cls W) : Inhabited (In c) := ⟨⟨c.wit, c.mem⟩⟩

section
variable {P : Program} {ops hd : Array Oper} {md : Region.Mode}

def ptr (B : Nat) : Value := .pointer (some ⟨B, 0, none⟩)

structure Agr (D : Nat → Nat) (m : Nat) (β : Nat → Option Nat) (a aq : Act) : Prop where
  defers : a.defers = aq.defers
  size : a.tmps.size = aq.tmps.size
  off : ∀ t, (∀ j, j < m → D j ≠ t) → a.tmps[t]? = aq.tmps[t]?
  on : ∀ j, j < m → a.tmps[D j]? = (match β j with | some B => if D j < aq.tmps.size then some (ptr B) else none | none => aq.tmps[D j]?)

end

end Fr
end Go.Proofs.YtggeepimihhpjaaGreatDoor

namespace Go.Proofs.YtggeepimihhpjaaGreatDoor
open Go.RowKit
namespace Fr
set_option linter.unusedVariables false

section
variable {P : Program} {ops hd : Array Oper} {md : Region.Mode}

def MakesAt (P : Program) (md : Region.Mode) (ops : Array Oper) (i d : Nat) (ob : Obj) : Prop :=
  ∃ o, ops[i]? = some o ∧ o.guard = none ∧ o.dst = some d ∧ (∀ e ∈ o.after, Region.binds md e = true → e.on < i) ∧ ∀ (a : Act) (w : World), (execOp a.eval o).run P w = .ok (.value (ptr w.heap.size)) (w.alloc ob)

structure Shape (P : Program) (md : Region.Mode) (ops hd : Array Oper) (n m : Nat) (D : Nat → Nat) (O : Nat → Obj) : Prop where
  head : ∀ j, j < n → hd[j]? = ops[j]?
  hsize : hd.size = n
  lt : n + m < ops.size
  sel : Region.noSelect ops = true
  headB : headB md ops n = true
  waits : ∀ i, i < n + m → Region.waitsFor md ops (n + m) i = true
  chain : ∀ t, n + m < t → t < ops.size → Region.waitsFor md ops t (t - 1) = true
  makes : ∀ j, j < m → MakesAt P md ops (n + j) (D j) (O j)
  apart : ∀ i, i < n → ∀ o, ops[i]? = some o → ∀ j, j < m → D j ∉ o.looksAt ops ∧ o.dst ≠ some (D j)
  dist : ∀ i k, i < n → k < n → i ≠ k → ∀ o o', ops[i]? = some o → ops[k]? = some o' → ∀ d, o.dst = some d → o'.dst ≠ some d
  inj : ∀ j k, j < m → k < m → D j = D k → j = k

end

end Fr
end Go.Proofs.YtggeepimihhpjaaGreatDoor

namespace Go.Proofs.YtggeepimihhpjaaGreatDoor
open Go.RowKit
namespace Fr
set_option linter.unusedVariables false

section
variable {P : Program} {md : Region.Mode}

end

end Fr
end Go.Proofs.YtggeepimihhpjaaGreatDoor

namespace Go.Proofs.YtggeepimihhpjaaGreatDoor
namespace Lx
set_option linter.unusedVariables false

abbrev By := List UInt8
def isL (c : UInt8) : Bool := decide (97 ≤ (c.toNat : Int) ∧ (c.toNat : Int) ≤ 122)
def isD (c : UInt8) : Bool := decide (48 ≤ (c.toNat : Int) ∧ (c.toNat : Int) ≤ 57)
def isWd (c : UInt8) : Bool := isL c || isD c
def isSp (c : UInt8) : Bool := c == 32 || c == 10
def notLf (c : UInt8) : Bool := c != 10
def span (p : UInt8 → Bool) : By → Nat
  | [] => 0
  | c :: r => if p c then span p r + 1 else 0

theorem span_le (p : UInt8 → Bool) : ∀ l : By, span p l ≤ l.length
  | [] => Nat.le_refl _
  | c :: r => by
    have := span_le p r
    unfold span
    split
    · simp; omega
    · omega
theorem span_all (p : UInt8 → Bool) : ∀ l : By, ∀ c ∈ l.take (span p l), p c = true
  | [], c, h => by simp [span] at h
  | d :: r, c, h => by
    unfold span at h
    split at h
    · rename_i hd
      simp only [List.take_succ_cons, List.mem_cons] at h
      rcases h with rfl | h
      · exact hd
      · exact span_all p r c h
    · simp at h
theorem span_stop (p : UInt8 → Bool) : ∀ l : By, ∀ c, (l.drop (span p l)).head? = some c → p c = false
  | [], c, h => by simp at h
  | d :: r, c, h => by
    unfold span at h
    split at h
    · exact span_stop p r c (by simpa using h)
    · rename_i hd
      simp at h
      subst h
      simpa using hd
theorem span_app {p : UInt8 → Bool} {a : By} : ∀ {l : By}, (∀ c ∈ l, p c = true) → span p (l ++ a) = l.length + span p a
  | [], _ => by simp
  | c :: r, h => by
    have := span_app (a := a) (fun d hd => h d (List.mem_cons_of_mem _ hd) : ∀ d ∈ r, p d = true)
    rw [List.cons_append, span, if_pos (h c (List.mem_cons_self ..)), this, List.length_cons]
    omega
theorem span_sep {p : UInt8 → Bool} {c : UInt8} (hc : p c = false) (t : By) : ∀ l : By, span p (l ++ c :: t) = span p l
  | [] => by simp [span, hc]
  | d :: r => by rw [List.cons_append, span, span, span_sep hc t r]
theorem span_take {p : UInt8 → Bool} : ∀ {l : By} {m : Nat}, span p l ≤ m → span p (l.take m) = span p l
  | [], m, h => by simp
  | c :: r, 0, h => by
    rw [Nat.le_zero] at h
    rw [h]; rfl
  | c :: r, m + 1, h => by
    rw [List.take_succ_cons]
    unfold span at h ⊢
    split
    · rename_i hc
      rw [if_pos hc] at h
      rw [span_take (by omega)]
    · rfl
theorem span_nil {p : UInt8 → Bool} : span p [] = 0 := rfl
theorem span_yes {p : UInt8 → Bool} {c : UInt8} {r : By} (h : p c = true) : span p (c :: r) = span p r + 1 := by rw [span, if_pos h]
theorem span_no {p : UInt8 → Bool} {c : UInt8} {r : By} (h : p c = false) : span p (c :: r) = 0 := by rw [span, if_neg (by simp [h])]

def numV : Nat → By → Nat
  | v, [] => v
  | v, c :: r => numV (min (10 * v + (c.toNat - 48)) 1000001) r
def isName : By → Bool
  | [] => false
  | c :: _ => isL c
def isNum : By → Bool
  | [] => false
  | c :: r => if c = 48 then r.isEmpty else (c :: r).all isD && decide (numV 0 (c :: r) ≤ 1000000)
def wkind (w : By) : Nat := if isName w then 1 else if isNum w then 2 else 0
def oneSigns : By := [40, 41, 123, 125, 91, 93, 44, 59, 58, 61, 43, 45, 38, 124, 94, 126, 60, 63, 64, 35, 46]
def sgn : By → Nat
  | [] => 0
  | c :: r => if (c = 45 ∧ r.head? = some 62) ∨ (c = 61 ∧ r.head? = some 61) then 2 else if c ∈ oneSigns then 1 else 0
def tok (l : By) : Nat × Nat :=
  if span isWd l ≠ 0 then (if wkind (l.take (span isWd l)) ≠ 0 then (wkind (l.take (span isWd l)), span isWd l) else (0, 0))
  else if sgn l ≠ 0 then (3, sgn l) else (0, 0)
def isCm : By → Bool
  | 47 :: 47 :: _ => true
  | _ => false

structure Tk where
  kind : Nat
  text : By
  at_ : Nat
deriving DecidableEq

def lexF : Nat → Nat → By → List Tk × Option Nat
  | 0, a, l => ([], none)
  | f + 1, a, [] => ([], none)
  | f + 1, a, c :: r =>
    if isSp c then lexF f (a + 1) r
    else if isCm (c :: r) then lexF f (a + span notLf (c :: r)) ((c :: r).drop (span notLf (c :: r)))
    else if (tok (c :: r)).2 = 0 then ([], some a)
    else
      let x := lexF f (a + (tok (c :: r)).2) ((c :: r).drop (tok (c :: r)).2)
      (⟨(tok (c :: r)).1, (c :: r).take (tok (c :: r)).2, a⟩ :: x.1, x.2)

theorem sgn_cons (c : UInt8) (r : By) : sgn (c :: r) = if (c = 45 ∧ r.head? = some 62) ∨ (c = 61 ∧ r.head? = some 61) then 2 else if c ∈ oneSigns then 1 else 0 := rfl
theorem sgn_le : ∀ l : By, sgn l ≤ l.length
  | [] => Nat.le_refl _
  | [c] => by
    by_cases h : c ∈ oneSigns <;> simp [sgn, h]
  | c :: d :: r => by
    rw [sgn_cons]
    by_cases h : (c = 45 ∧ (d :: r).head? = some 62) ∨ (c = 61 ∧ (d :: r).head? = some 61)
    · rw [if_pos h]; simp
    · rw [if_neg h]
      by_cases h2 : c ∈ oneSigns
      · rw [if_pos h2]; simp
      · rw [if_neg h2]; simp
theorem tok_le (l : By) : (tok l).2 ≤ l.length := by
  unfold tok
  have h1 := span_le isWd l
  have h2 := sgn_le l
  split
  · split
    · exact h1
    · simp
  · split
    · exact h2
    · simp
theorem tok_kind {l : By} (h : (tok l).2 ≠ 0) : (tok l).1 = 1 ∨ (tok l).1 = 2 ∨ (tok l).1 = 3 := by
  unfold tok at h ⊢
  split
  · rename_i h1
    rw [if_pos h1] at h
    split
    · rename_i h2
      unfold wkind at h2 ⊢
      simp only
      split
      · simp
      · split
        · simp
        · rename_i h3 h4
          simp [h3, h4] at h2
    · rename_i h2
      rw [if_neg h2] at h
      simp at h
  · rename_i h1
    rw [if_neg h1] at h
    split
    · simp
    · rename_i h2
      rw [if_neg h2] at h
      simp at h
theorem tok_zero {l : By} (h : (tok l).2 = 0) : tok l = (0, 0) := by
  unfold tok at h ⊢
  split
  · rename_i h1
    rw [if_pos h1] at h
    split
    · rename_i h2
      rw [if_pos h2] at h
      exact absurd h h1
    · rfl
  · rename_i h1
    rw [if_neg h1] at h
    split
    · rename_i h2
      rw [if_pos h2] at h
      exact absurd h h2
    · rfl
theorem cm_span {c : UInt8} {r : By} (h : isCm (c :: r) = true) : 2 ≤ span notLf (c :: r) := by
  unfold isCm at h
  split at h
  · rename_i e
    rw [e, span_yes (by decide), span_yes (by decide)]
    omega
  · cases h

theorem lexF_fuel : ∀ (f g a : Nat) (l : By), l.length < f → l.length < g → lexF f a l = lexF g a l := by
  intro f
  induction f with
  | zero => intro g a l h; omega
  | succ f ih =>
    intro g a l hf hg
    obtain ⟨g, rfl⟩ : ∃ g', g = g' + 1 := ⟨g - 1, by omega⟩
    cases l with
    | nil => rfl
    | cons c r =>
      simp only [List.length_cons] at hf hg
      rw [lexF, lexF]
      split
      · exact ih g _ r (by omega) (by omega)
      · split
        · rename_i hc
          have := cm_span hc
          exact ih g _ _ (by simp only [List.length_drop, List.length_cons]; omega) (by simp only [List.length_drop, List.length_cons]; omega)
        · split
          · rfl
          · rename_i ht
            have := tok_le (c :: r)
            rw [ih g _ _ (by simp only [List.length_drop, List.length_cons]; omega) (by simp only [List.length_drop, List.length_cons]; omega)]
def lex (a : Nat) (l : By) : List Tk × Option Nat := lexF (l.length + 1) a l

theorem lex_nil (a : Nat) : lex a [] = ([], none) := rfl
theorem lex_sp {a : Nat} {c : UInt8} {r : By} (h : isSp c = true) : lex a (c :: r) = lex (a + 1) r := by
  unfold lex
  rw [List.length_cons, lexF, if_pos h]
theorem lex_cm {a : Nat} {c : UInt8} {r : By} (h : isSp c = false) (hc : isCm (c :: r) = true) : lex a (c :: r) = lex (a + span notLf (c :: r)) ((c :: r).drop (span notLf (c :: r))) := by
  unfold lex
  have := cm_span hc
  have := span_le notLf (c :: r)
  rw [List.length_cons, lexF, if_neg (by simp [h]), if_pos hc]
  exact lexF_fuel _ _ _ _ (by simp only [List.length_drop, List.length_cons]; omega) (by simp only [List.length_drop, List.length_cons]; omega)
theorem lex_bad {a : Nat} {c : UInt8} {r : By} (h : isSp c = false) (hc : isCm (c :: r) = false) (ht : (tok (c :: r)).2 = 0) : lex a (c :: r) = ([], some a) := by
  unfold lex
  rw [List.length_cons, lexF, if_neg (by simp [h]), if_neg (by simp [hc]), if_pos ht]
theorem lex_tok {a : Nat} {c : UInt8} {r : By} (h : isSp c = false) (hc : isCm (c :: r) = false) (ht : (tok (c :: r)).2 ≠ 0) :
    lex a (c :: r) = (⟨(tok (c :: r)).1, (c :: r).take (tok (c :: r)).2, a⟩ :: (lex (a + (tok (c :: r)).2) ((c :: r).drop (tok (c :: r)).2)).1, (lex (a + (tok (c :: r)).2) ((c :: r).drop (tok (c :: r)).2)).2) := by
  unfold lex
  rw [List.length_cons, lexF, if_neg (by simp [h]), if_neg (by simp [hc]), if_neg ht]
  have := tok_le (c :: r)
  rw [lexF_fuel (r.length + 1) (((c :: r).drop (tok (c :: r)).2).length + 1) _ _ (by simp only [List.length_drop, List.length_cons]; omega) (by omega)]

theorem lex_ind {P : By → Prop} (h0 : P []) (h1 : ∀ c r, isSp c = true → P r → P (c :: r))
    (h2 : ∀ c r, isSp c = false → isCm (c :: r) = true → P ((c :: r).drop (span notLf (c :: r))) → P (c :: r))
    (h3 : ∀ c r, isSp c = false → isCm (c :: r) = false → (tok (c :: r)).2 = 0 → P (c :: r))
    (h4 : ∀ c r, isSp c = false → isCm (c :: r) = false → (tok (c :: r)).2 ≠ 0 → P ((c :: r).drop (tok (c :: r)).2) → P (c :: r)) : ∀ l, P l := by
  intro l
  generalize hn : l.length = n
  induction n using Nat.strongRecOn generalizing l with
  | _ n ih =>
    subst hn
    cases l with
    | nil => exact h0
    | cons c r =>
      cases hs : isSp c with
      | true => exact h1 c r hs (ih r.length (by simp) r rfl)
      | false =>
        cases hc : isCm (c :: r) with
        | true =>
          have := cm_span hc
          exact h2 c r hs hc (ih _ (by simp only [List.length_drop, List.length_cons]; omega) _ rfl)
        | false =>
          by_cases ht : (tok (c :: r)).2 = 0
          · exact h3 c r hs hc ht
          · have := tok_le (c :: r)
            exact h4 c r hs hc ht (ih _ (by simp only [List.length_drop, List.length_cons]; omega) _ rfl)

end Lx
end Go.Proofs.YtggeepimihhpjaaGreatDoor

namespace Go.Proofs.YtggeepimihhpjaaGreatDoor
namespace Lx
set_option linter.unusedVariables false

def isSep (c : UInt8) : Prop := c = 32 ∨ c = 10
theorem isSep.wd {c : UInt8} (h : isSep c) : isWd c = false := by rcases h with rfl | rfl <;> decide
theorem isSep.sp {c : UInt8} (h : isSep c) : isSp c = true := by rcases h with rfl | rfl <;> decide
theorem take_app_le {l a : By} {n : Nat} (h : n ≤ l.length) : (l ++ a).take n = l.take n := by rw [List.take_append_of_le_length h]
theorem drop_app_le {l a : By} {n : Nat} (h : n ≤ l.length) : (l ++ a).drop n = l.drop n ++ a := List.drop_append_of_le_length h

theorem sgn_sep {s : UInt8} (hs : isSep s) (t : By) : ∀ {l : By}, l ≠ [] → sgn (l ++ s :: t) = sgn l
  | [], h => absurd rfl h
  | [c], _ => by
    rw [List.cons_append, List.nil_append, sgn_cons, sgn_cons]
    rcases hs with rfl | rfl <;> simp
  | c :: d :: r, _ => by
    rw [List.cons_append, List.cons_append, sgn_cons, sgn_cons]
    rfl
theorem tok_sep {s : UInt8} (hs : isSep s) (t : By) {l : By} (h : l ≠ []) : tok (l ++ s :: t) = tok l := by
  unfold tok
  rw [span_sep hs.wd t l, take_app_le (span_le isWd l), sgn_sep hs t h]
theorem sgn_take {l : By} {m : Nat} (h : sgn l ≤ m) (hm : 1 ≤ m) : sgn (l.take m) = sgn l := by
  cases l with
  | nil => simp
  | cons c r =>
    obtain ⟨m, rfl⟩ : ∃ k, m = k + 1 := ⟨m - 1, by omega⟩
    rw [List.take_succ_cons]
    rw [sgn_cons] at h
    rw [sgn_cons, sgn_cons]
    cases m with
    | zero =>
      by_cases h2 : (c = 45 ∧ r.head? = some 62) ∨ (c = 61 ∧ r.head? = some 61)
      · rw [if_pos h2] at h; omega
      · rw [if_neg h2, if_neg (by simp)]
    | succ m =>
      have : (r.take (m + 1)).head? = r.head? := by cases r <;> simp
      rw [this]
theorem tok_take {l : By} {m : Nat} (h : (tok l).2 ≠ 0) (hm : (tok l).2 ≤ m) : tok (l.take m) = tok l := by
  have hz := h
  unfold tok at h hm ⊢
  by_cases h1 : span isWd l ≠ 0
  · rw [if_pos h1] at h hm ⊢
    by_cases h2 : wkind (l.take (span isWd l)) ≠ 0
    · rw [if_pos h2] at h hm ⊢
      rw [span_take hm, if_pos h1, List.take_take, Nat.min_eq_left hm, if_pos h2]
    · rw [if_neg h2] at h
      exact absurd rfl h
  · rw [if_neg h1] at h hm ⊢
    by_cases h2 : sgn l ≠ 0
    · rw [if_pos h2] at h hm ⊢
      have h0 : span isWd (l.take m) = 0 := by
        rw [span_take (by omega)]
        omega
      rw [if_neg (by omega), sgn_take hm (by simp only at hm; omega), if_pos h2]
    · rw [if_neg h2] at h
      exact absurd rfl h
theorem tok_text {l : By} (h : (tok l).2 ≠ 0) : tok (l.take (tok l).2) = tok l := tok_take h (Nat.le_refl _)

theorem cm_iff {c : UInt8} {r : By} : isCm (c :: r) = true ↔ c = 47 ∧ r.head? = some 47 := by
  constructor
  · intro h
    unfold isCm at h
    split at h
    · rename_i e
      injection e with e1 e2
      subst e1 e2
      exact ⟨rfl, rfl⟩
    · cases h
  · rintro ⟨rfl, h⟩
    cases r with
    | nil => cases h
    | cons d r => simp at h; subst h; rfl
theorem cm_sep {c s : UInt8} {r t : By} (hs : isSep s) (h : isCm (c :: r) = false) : isCm (c :: r ++ s :: t) = false := by
  rw [Bool.eq_false_iff] at h ⊢
  intro h'
  apply h
  rw [List.cons_append, cm_iff] at h'
  rw [cm_iff]
  refine ⟨h'.1, ?_⟩
  cases r with
  | nil =>
    have := h'.2
    rcases hs with rfl | rfl <;> simp at this
  | cons d r => simpa using h'.2
theorem cm_take {c : UInt8} {r : By} {m : Nat} (hm : 2 ≤ m) : isCm ((c :: r).take m) = isCm (c :: r) := by
  obtain ⟨m, rfl⟩ : ∃ k, m = k + 2 := ⟨m - 2, by omega⟩
  rw [List.take_succ_cons]
  have : (r.take (m + 1)).head? = r.head? := by cases r <;> simp
  rw [Bool.eq_iff_iff, cm_iff, cm_iff, this]
theorem cm_take1 {c : UInt8} {r : By} {m : Nat} (h : isCm (c :: r) = false) (hm : 1 ≤ m) : isCm ((c :: r).take m) = false := by
  by_cases h2 : 2 ≤ m
  · rw [cm_take h2, h]
  · rw [show m = 1 by omega]
    show isCm (c :: []) = false
    rw [Bool.eq_false_iff]
    intro h'
    exact absurd (cm_iff.1 h').2 (by simp)

def shiftT (k : Nat) (t : Tk) : Tk := ⟨t.kind, t.text, t.at_ + k⟩
theorem lex_shift (k : Nat) : ∀ (l : By) (a : Nat), lex (a + k) l = ((lex a l).1.map (shiftT k), (lex a l).2.map (· + k)) := by
  intro l
  refine lex_ind (P := fun l => ∀ a, lex (a + k) l = ((lex a l).1.map (shiftT k), (lex a l).2.map (· + k))) ?_ ?_ ?_ ?_ ?_ l
  · intro a; rfl
  · intro c r h ih a
    rw [lex_sp h, lex_sp h, ← ih, show a + k + 1 = a + 1 + k by omega]
  · intro c r h hc ih a
    rw [lex_cm h hc, lex_cm h hc, ← ih, show a + k + span notLf (c :: r) = a + span notLf (c :: r) + k by omega]
  · intro c r h hc ht a
    rw [lex_bad h hc ht, lex_bad h hc ht]; rfl
  · intro c r h hc ht ih a
    rw [lex_tok h hc ht, lex_tok h hc ht, show a + k + (tok (c :: r)).2 = a + (tok (c :: r)).2 + k by omega, ih]
    rfl

def WF (l : By) : Prop := (lex 0 l).2 = none
theorem lex_err (a : Nat) (l : By) : (lex a l).2 = (lex 0 l).2.map (· + a) := by
  have := lex_shift a l 0
  rw [Nat.zero_add] at this
  rw [this]
theorem lex_wf {a : Nat} {l : By} : (lex a l).2 = none ↔ WF l := by
  rw [lex_err a l]; unfold WF; simp

theorem lex_before : ∀ (l : By) (a e : Nat), (lex a l).2 = some e → a ≤ e ∧ e < a + l.length ∧ WF (l.take (e - a)) := by
  intro l
  refine lex_ind (P := fun l => ∀ a e, (lex a l).2 = some e → a ≤ e ∧ e < a + l.length ∧ WF (l.take (e - a))) ?_ ?_ ?_ ?_ ?_ l
  · intro a e h; cases h
  · intro c r h ih a e he
    rw [lex_sp h] at he
    obtain ⟨h1, h2, h3⟩ := ih _ _ he
    refine ⟨by omega, by simp; omega, ?_⟩
    rw [show e - a = (e - (a + 1)) + 1 by omega, List.take_succ_cons]
    unfold WF
    rw [lex_sp h]
    exact lex_wf.2 h3
  · intro c r h hc ih a e he
    rw [lex_cm h hc] at he
    have hl := span_le notLf (c :: r)
    have h2' := cm_span hc
    obtain ⟨h1, h2, h3⟩ := ih _ _ he
    rw [List.length_drop] at h2
    refine ⟨by omega, by omega, ?_⟩
    have e1 : span notLf ((c :: r).take (e - a)) = span notLf (c :: r) := span_take (by omega)
    have e2 : ((c :: r).take (e - a)).drop (span notLf (c :: r)) = ((c :: r).drop (span notLf (c :: r))).take (e - (a + span notLf (c :: r))) := by
      rw [List.drop_take]; congr 1; omega
    obtain ⟨m, hm⟩ : ∃ m, e - a = m + 1 := ⟨e - a - 1, by omega⟩
    rw [hm, List.take_succ_cons] at e1 e2 ⊢
    unfold WF
    rw [lex_cm h (by rw [← List.take_succ_cons, cm_take (by omega)]; exact hc), e1, e2]
    exact lex_wf.2 h3
  · intro c r h hc ht a e he
    rw [lex_bad h hc ht] at he
    injection he with he
    subst he
    refine ⟨by omega, by simp, ?_⟩
    rw [Nat.sub_self, List.take_zero]; rfl
  · intro c r h hc ht ih a e he
    rw [lex_tok h hc ht] at he
    have hl := tok_le (c :: r)
    obtain ⟨h1, h2, h3⟩ := ih _ _ he
    rw [List.length_drop] at h2
    refine ⟨by omega, by omega, ?_⟩
    have e1 : tok ((c :: r).take (e - a)) = tok (c :: r) := tok_take ht (by omega)
    have e2 : ((c :: r).take (e - a)).drop (tok (c :: r)).2 = ((c :: r).drop (tok (c :: r)).2).take (e - (a + (tok (c :: r)).2)) := by
      rw [List.drop_take]; congr 1; omega
    obtain ⟨m, hm⟩ : ∃ m, e - a = m + 1 := ⟨e - a - 1, by omega⟩
    have hc2 : isCm ((c :: r).take (e - a)) = false := cm_take1 hc (by omega)
    rw [hm, List.take_succ_cons] at e1 e2 hc2 ⊢
    unfold WF
    rw [lex_tok h hc2 (by rw [e1]; exact ht), e1, e2]
    exact lex_wf.2 h3

end Lx
end Go.Proofs.YtggeepimihhpjaaGreatDoor
