/- The law of XL1 as it is used: one, two or three new blocks. Blocks of up to 24 cells: their cells and marks one by one; a whole value stored. What a call does, in one word; the blocks of parameters and results at the start of a function. A part of a block stored; a drawn statement whose first operations only read and call, with extractions that may come late. A large variable loaded in one step (the walk's own load takes its cells one by one: the kernel's cost doubles with each cell). A block whose list of cells is not written out: one cell read, one cell stored; a row that is owned as such a block. Letters, digits, sets of bytes, spans, names. -/
import Derived.Test.YtggeepimihhpjaaGreatDoorL1
import Derived.Test.YtggeepimihhpjaaGreatDoorRows
import Derived.Deep.MidRow
import Derived.BigQuiet
import Derived.Test.YtggeepimihhpjaaGreatDoorP3
import Derived.Test.YtggeepimihhpjaaGreatDoorL0
import Derived.WalkKit
import Derived.WalkSpells
import Derived.WalkLawsBesides
import Derived.WalkSmall
import Derived.Lib.Hide
import Derived.Outline
import Derived.Deep.AppendLies
import Derived.Deep.CutBlock
import Derived.Deep.LoopGhost
import Derived.Lib.ItoaNum
import Derived.Deep.RegionHeld3
import Derived.Deep.DrawnRows
import Derived.Deep.DeepCutAuto
namespace Go.Proofs.YtggeepimihhpjaaGreatDoor
open Go.RowKit
namespace Fr
set_option linter.unusedVariables false

def freeB (md : Region.Mode) (l : List Oper) (n : Nat) (al late : List Nat) : Bool :=
  decide (n < l.length) && ((List.range n).all fun i => late.contains i || (List.range (n + 1)).any fun j => decide (i < j) && !late.contains j && Region.waitsFor md l.toArray j i) && Region.chainB md l.toArray n && headB md l.toArray n && Region.noSelect l.toArray && decide al.Nodup &&
    (al.all fun i => decide (i < n) && match l[i]? with
      | some o => o.guard.isNone && (match o.op with | .alloc _ => true | _ => false)
      | none => false) &&
    ((List.range n).all fun j => al.contains j || match l[j]? with
      | some o => al.all fun i => match (l[i]?).bind (·.dst) with
        | some d => !(o.looksAt l.toArray).contains d
        | none => true
      | none => true) &&
    ((List.range n).all fun i => (List.range n).all fun j => i == j || match l[i]?, l[j]? with
      | some oi, some oj => (match oi.dst with | some t => !(oj.dst == some t) | none => true)
      | _, _ => true) &&
    (late.all fun i => decide (i < n) && !al.contains i && match l[i]? with
      | some oi => oi.guard.isNone && (match oi.op with | .extract _ _ => true | .move _ => true | _ => false) && ((List.range l.length).all fun j => j == i || oi.after.any (fun e => Region.binds md e && e.on == j) || match l[j]? with
        | some oj => oj.after.any (fun e => Region.binds md e && e.on == i) || oi.apart l.toArray oj
        | none => true)
      | none => false) &&
    Region.lexB md (ghostL al 0 (l.take n)).toArray &&
    Region.seqB md l.toArray (l.length - n) n (Array.replicate n true ++ Array.replicate (l.length - n) false)

theorem freeH_of {P : Program} {md : Region.Mode} {l : List Oper} {n : Nat} {al late : List Nat} {zs : Nat → Array Value} (hB : freeB md l n al late = true)
    (hz : ∀ i ∈ al, ∀ T, (l[i]?).map (·.op) = some (.alloc T) → Zr P T (zs i)) : FreeH P md l.toArray (ghostL al 0 (l.take n)).toArray n al late zs := by
  simp only [freeB, Bool.and_eq_true, decide_eq_true_eq] at hB
  obtain ⟨⟨⟨⟨⟨⟨⟨⟨⟨⟨⟨hn, hs⟩, hc⟩, hh⟩, hsel⟩, hnd⟩, hal⟩, hap⟩, hds⟩, hlt⟩, _⟩, _⟩ := hB
  refine ⟨by simp [ghostL_length]; omega, by simpa using hn, fun i hi hil => ?_, fun i hi => ?_, fun i hi oi j oj hoi hoj hji h1 h2 => ?_, hc, hh, hsel, fun j hj => ?_, hnd, fun i hi => ?_, fun j o hj ho hja i hi t ht => ?_, fun i j oi oj hi hj hoi hoj hij t ht e => ?_⟩
  · have h1 := List.all_eq_true.1 hs i (List.mem_range.2 hi)
    simp only [Bool.or_eq_true, List.contains_iff_mem] at h1
    rcases h1 with h1 | h1
    · exact absurd h1 hil
    · obtain ⟨j, hj, h2⟩ := List.any_eq_true.1 h1
      simp only [Bool.and_eq_true, decide_eq_true_eq, Bool.not_eq_true'] at h2
      exact ⟨j, h2.1.1, by have := List.mem_range.1 hj; omega, by have := h2.1.2; simpa using this, h2.2⟩
  · have h1 := List.all_eq_true.1 hlt i hi
    simp only [Bool.and_eq_true, decide_eq_true_eq] at h1
    obtain ⟨⟨h1, h2⟩, h3⟩ := h1
    refine ⟨h1, by simpa using h2, ?_⟩
    cases ho : l[i]? with
    | none => rw [ho] at h3; cases h3
    | some o =>
      rw [ho] at h3
      simp only [Bool.and_eq_true] at h3
      obtain ⟨⟨h4, h5⟩, _⟩ := h3
      refine ⟨o, by simpa using ho, ?_, by simpa using h4⟩
      cases hop : o.op <;> rw [hop] at h5 <;> simp only [Bool.false_eq_true] at h5
      · exact .inr ⟨_, rfl⟩
      · exact .inl ⟨_, _, rfl⟩
  · have h3 := List.all_eq_true.1 hlt i hi
    simp only [Bool.and_eq_true] at h3
    have h4 := h3.2
    have hoi' : l[i]? = some oi := by simpa using hoi
    have hoj' : l[j]? = some oj := by simpa using hoj
    rw [hoi'] at h4
    simp only [Bool.and_eq_true] at h4
    have h5 := List.all_eq_true.1 h4.2 j (List.mem_range.2 (List.getElem?_eq_some_iff.1 hoj').1)
    simp only [hoj', Bool.or_eq_true, beq_iff_eq] at h5
    rcases h5 with (h5 | h5) | h5 | h5
    · exact absurd h5 hji
    · obtain ⟨e, he, hb⟩ := Array.any_eq_true'.1 h5
      simp only [Bool.and_eq_true, beq_iff_eq] at hb
      exact absurd hb.2 (h1 e he hb.1)
    · obtain ⟨e, he, hb⟩ := Array.any_eq_true'.1 h5
      simp only [Bool.and_eq_true, beq_iff_eq] at hb
      exact absurd hb.2 (h2 e he hb.1)
    · exact h5
  · rw [List.getElem?_toArray, ghostL_get]
    simp [hj]
  · have h1 := List.all_eq_true.1 hal i hi
    simp only [Bool.and_eq_true, decide_eq_true_eq] at h1
    obtain ⟨h1, h2⟩ := h1
    refine ⟨h1, ?_⟩
    cases ho : l[i]? with
    | none => rw [ho] at h2; cases h2
    | some o =>
      rw [ho] at h2
      simp only [Bool.and_eq_true] at h2
      obtain ⟨h3, h4⟩ := h2
      cases hop : o.op <;> rw [hop] at h4 <;> simp only [Bool.false_eq_true] at h4
      rename_i T
      exact ⟨o, T, by simpa using ho, hop, by simpa using h3, hz i hi T (by rw [ho]; simp [hop])⟩
  · have h1 := List.all_eq_true.1 hap j (List.mem_range.2 hj)
    have ho' : l[j]? = some o := by simpa using ho
    simp only [ho', Bool.or_eq_true, List.contains_iff_mem] at h1
    rcases h1 with h1 | h1
    · exact absurd h1 hja
    · have h2 := List.all_eq_true.1 h1 i hi
      have ht' : (l[i]?).bind (·.dst) = some t := by simpa using ht
      rw [ht'] at h2
      simpa using h2
  · have h1 := List.all_eq_true.1 (List.all_eq_true.1 hds i (List.mem_range.2 hi)) j (List.mem_range.2 hj)
    have hoi' : l[i]? = some oi := by simpa using hoi
    have hoj' : l[j]? = some oj := by simpa using hoj
    simp only [hoi', hoj', ht, Bool.or_eq_true, beq_iff_eq] at h1
    rcases h1 with h1 | h1
    · exact hij h1
    · simp [e] at h1

theorem wp_region_free {P : Program} {id : Nat} {Q : Exit → Act → World → Prop} {a : Act} {w : World} {l : List Oper} (n : Nat) (al late : List Nat) (zs : Nat → Array Value) (agf : Act) (hm : P.follows .mixedOrders = true) (hB : freeB .any l n al late = true) (hpan : ∀ (d : Option Tmp) v c a w, Q (.panic c) (a.put d v) w → Q (.panic c) a w)
    (hz : ∀ i ∈ al, ∀ T, (l[i]?).map (·.op) = some (.alloc T) → Zr P T (zs i))
    (h1 : ∀ W, Below w.heap.size w W → wpQuiet P (ghostL al 0 (l.take n)).toArray (fun w' => ∃ p : Later W, w' = p.val) (fun a' => a' = agf) (ghostL al 0 (l.take n)) a)
    (h2 : ∀ bf w', Below w.heap.size w w' → (∀ i ∈ al, ∃ b, bf i = some b ∧ BoxL w' b (zs i) ∧ w.heap.size ≤ b) → (∀ i ∈ al, ∀ j ∈ al, i ≠ j → ∀ b, bf i = some b → bf j ≠ some b) → wpList P l.toArray Q (l.drop n) (over P l.toArray bf al agf) w') :
    (Code.region id l.toArray true).wp P Q a w := by
  have F := freeH_of (P := P) hB hz
  simp only [freeB, Bool.and_eq_true, decide_eq_true_eq] at hB
  obtain ⟨⟨⟨_, _⟩, hlex⟩, hq⟩ := hB
  simp only [Region.lexB, Bool.and_eq_true] at hlex
  have hn : n < l.length := by simpa using F.hn
  have hsz : (ghostL al 0 (l.take n)).length = n := by simp [ghostL_length]; omega
  refine wp_region_any hm ?_
  have inv0 : HeadInv .any l.toArray n (Array.replicate l.toArray.size false) :=
    ⟨by simp, fun j oj _ hl => (by rw [getD_replicate_false] at hl; cases hl), fun t _ ht => getD_in (by simpa using ht) (getD_replicate_false _ _)⟩
  have hun : ∀ i, i < n → (Array.replicate l.toArray.size false).getD i true = false := fun i hi => getD_in (by simp; omega) (getD_replicate_false _ _)
  have := free_any (P := P) (md := .any) (g := l.length - n) (Q' := Q) (full := Array.replicate n true ++ Array.replicate (l.length - n) false) (w0 := w) (agf := agf) F hpan
    (by simp; omega) (fun j hj => by
      have hj' : j < l.length := by simpa using hj
      by_cases h1 : j < n
      · simp [h1, Array.getElem?_append]
      · have h2 : j - n < l.length - n := by omega
        simp [h1, Array.getElem?_append, h2])
    (fun bf w' hb hx hy => by
      have := wpAny_of_seq (md := .any) (Q' := Q) (l.drop n) n (Array.replicate n true ++ Array.replicate (l.length - n) false) (over P l.toArray bf al agf) w' (fun j => by simp [List.getElem?_drop]) (by rw [List.length_drop]; exact hq) (h2 bf w' hb hx hy)
      rwa [List.length_drop] at this)
    (ghostL al 0 (l.take n)).length (Array.replicate n false) (Array.replicate l.toArray.size false) a (fun _ => none) { w with drawn := w.drawn + 1 } (by simp) inv0 (fun j hj => by
      rw [hun j hj, getD_in (by simpa using hj) (getD_replicate_false _ _)]) ((Below.refl _ w).drew) (fun _ _ _ => rfl) (fun i hi hl => by
      rw [hun i (F.alloc i hi).1] at hl; cases hl) (fun _ _ _ _ _ _ h => by cases h) (fun W hW => by
      have hw1 : Below w.heap.size w W := ((Below.refl _ w).drew).trans hW
      have := wpAnyQ_lex (P := P) (C := CL W) (md := .any) hlex.1 (ghostL al 0 (l.take n)) 0 (Array.replicate n false) a (by simp) (by simpa [hsz] using hlex.2) (h1 W hw1)
      exact this)
  rw [over_none, hsz, show n + (l.length - n) = l.toArray.size by simp; omega] at this
  exact this

end Fr
end Go.Proofs.YtggeepimihhpjaaGreatDoor

namespace Go.Proofs.YtggeepimihhpjaaGreatDoor
open Go.RowKit
namespace Fr
set_option linter.unusedVariables false

def setAll (b : Nat) : World → Nat → List Value → World
  | W, _, [] => W
  | W, i, v :: vs => setAll b (W.setCell ⟨b, i, none⟩ v) (i + 1) vs
theorem setAll_size (b : Nat) : ∀ (vs : List Value) (W : World) (i : Nat), (setAll b W i vs).heap.size = W.heap.size
  | [], _, _ => rfl
  | v :: vs, W, i => by unfold setAll; rw [setAll_size b vs]; simp
theorem setAll_frozen (b : Nat) (p : Addr) : ∀ (vs : List Value) (W : World) (i : Nat), (setAll b W i vs).frozen? p = W.frozen? p
  | [], _, _ => rfl
  | v :: vs, W, i => by unfold setAll; rw [setAll_frozen b p vs]; simp
theorem setAll_other (b : Nat) (p : Addr) (hp : ∀ j, p ≠ ⟨b, j, none⟩) : ∀ (vs : List Value) (W : World) (i : Nat), (setAll b W i vs).cell? p = W.cell? p
  | [], _, _ => rfl
  | v :: vs, W, i => by unfold setAll; rw [setAll_other b p hp vs]; exact World.cell?_setCell_other _ _ _ _ (fun e => hp i e.symm)
theorem setAll_low (b : Nat) (j : Nat) : ∀ (vs : List Value) (W : World) (i : Nat), j < i → (setAll b W i vs).cell? ⟨b, j, none⟩ = W.cell? ⟨b, j, none⟩
  | [], _, _, _ => rfl
  | v :: vs, W, i, h => by
    unfold setAll
    rw [setAll_low b j vs _ _ (by omega)]
    exact World.cell?_setCell_other _ _ _ _ (by intro e; have := congrArg Addr.off e; simp at this; omega)
theorem setAll_cell (b : Nat) : ∀ (vs : List Value) (W : World) (i k : Nat) (v : Value), vs[k]? = some v → (∀ j, j < vs.length → ∃ u, W.cell? ⟨b, i + j, none⟩ = some u) → (setAll b W i vs).cell? ⟨b, i + k, none⟩ = some v
  | [], _, _, _, _, h, _ => by simp at h
  | x :: vs, W, i, 0, v, h, hc => by
    unfold setAll
    have e : x = v := by simpa using h
    subst e
    obtain ⟨u, hu⟩ := hc 0 (by simp)
    have := World.cell?_setCell_same W ⟨b, i, none⟩ x (by simpa using hu)
    rw [← this]
    exact setAll_low b i vs _ _ (by omega)
  | x :: vs, W, i, k + 1, v, h, hc => by
    unfold setAll
    rw [show i + (k + 1) = (i + 1) + k by omega]
    refine setAll_cell b vs _ (i + 1) k v (by simpa using h) fun j hj => ?_
    obtain ⟨u, hu⟩ := hc (j + 1) (by simp; omega)
    refine ⟨u, ?_⟩
    rw [World.cell?_setCell_other _ _ _ _ (by intro e; have := congrArg Addr.off e; simp at this; omega)]
    rw [← hu]
    congr 2
    omega
theorem BoxL.setAll {W : World} {b : Nat} {zs : Array Value} (h : BoxL W b zs) (vs : List Value) (hl : vs.length = zs.size) : BoxL (setAll b W 0 vs) b vs.toArray :=
  ⟨by rw [setAll_size]; exact h.lt, fun i v hv => ⟨by
    have := setAll_cell b vs W 0 i v (by simpa using hv) fun j hj => by
      rw [Nat.zero_add]
      exact ⟨_, (h.cells j _ (Array.getElem?_eq_getElem (by omega))).1⟩
    rwa [Nat.zero_add] at this, by
    rw [setAll_frozen]
    have hi : i < vs.length := by have := (Array.getElem?_eq_some_iff.1 hv).1; simpa using this
    exact (h.cells i _ (Array.getElem?_eq_getElem (by omega))).2⟩⟩
theorem BoxL.setFar {W : World} {a b : Nat} {zs : Array Value} (h : BoxL W a zs) (hab : b ≠ a) (vs : List Value) (i : Nat) : BoxL (Fr.setAll b W i vs) a zs :=
  ⟨by rw [setAll_size]; exact h.lt, fun j v hv => ⟨by
    rw [setAll_other b _ (fun k e => hab (congrArg Addr.block e).symm)]; exact (h.cells j v hv).1, by rw [setAll_frozen]; exact (h.cells j v hv).2⟩⟩
theorem below_setAll {n : Nat} {w : World} {b : Nat} (hb : n ≤ b) : ∀ (vs : List Value) (W : World) (i : Nat), Below n w W → Below n w (setAll b W i vs)
  | [], _, _, h => h
  | v :: vs, W, i, h => below_setAll hb vs _ (i + 1) (h.setCell (p := ⟨b, i, none⟩) hb v)

section
variable {W V : World} {b : Nat} {x0 : Value}
theorem BoxL.c1 (h : BoxL W b #[x0]) : W.cell? ⟨b, 0, none⟩ = some x0 := (h.cells 0 _ rfl).1
theorem BoxL.f1 (h : BoxL W b #[x0]) : W.frozen? ⟨b, 0, none⟩ = false := (h.cells 0 _ rfl).2
end

section
variable {W V : World} {b : Nat} {x0 x1 : Value}
theorem BoxL.c2 (h : BoxL W b #[x0, x1]) : W.cell? ⟨b, 0, none⟩ = some x0 ∧ W.cell? ⟨b, 1, none⟩ = some x1 := ⟨(h.cells 0 _ rfl).1, (h.cells 1 _ rfl).1⟩
theorem BoxL.f2 (h : BoxL W b #[x0, x1]) : W.frozen? ⟨b, 0, none⟩ = false ∧ W.frozen? ⟨b, 1, none⟩ = false := ⟨(h.cells 0 _ rfl).2, (h.cells 1 _ rfl).2⟩
theorem BoxL.l2 (h : BoxL W b #[x0, x1]) (hV : Below W.heap.size W V) : (∀ p : Later V, p.val.cell? ⟨b, 0, none⟩ = some x0) ∧ (∀ p : Later V, p.val.cell? ⟨b, 1, none⟩ = some x1) := ⟨fun p => (((h.keep hV).keep p.below).cells 0 _ rfl).1, fun p => (((h.keep hV).keep p.below).cells 1 _ rfl).1⟩
theorem BoxL.s2 (h : BoxL W b #[x0, x1]) (y0 y1 : Value) : BoxL ((W.setCell ⟨b, 0, none⟩ y0).setCell ⟨b, 1, none⟩ y1) b #[y0, y1] := h.setAll [y0, y1] rfl
end
theorem below_s2 {n : Nat} {w W : World} {b : Nat} (h : Below n w W) (hb : n ≤ b) (y0 y1 : Value) : Below n w ((W.setCell ⟨b, 0, none⟩ y0).setCell ⟨b, 1, none⟩ y1) := below_setAll hb [y0, y1] W 0 h

section
variable {W V : World} {b : Nat} {x0 x1 x2 : Value}
theorem BoxL.c3 (h : BoxL W b #[x0, x1, x2]) : W.cell? ⟨b, 0, none⟩ = some x0 ∧ W.cell? ⟨b, 1, none⟩ = some x1 ∧ W.cell? ⟨b, 2, none⟩ = some x2 := ⟨(h.cells 0 _ rfl).1, (h.cells 1 _ rfl).1, (h.cells 2 _ rfl).1⟩
theorem BoxL.f3 (h : BoxL W b #[x0, x1, x2]) : W.frozen? ⟨b, 0, none⟩ = false ∧ W.frozen? ⟨b, 1, none⟩ = false ∧ W.frozen? ⟨b, 2, none⟩ = false := ⟨(h.cells 0 _ rfl).2, (h.cells 1 _ rfl).2, (h.cells 2 _ rfl).2⟩
theorem BoxL.l3 (h : BoxL W b #[x0, x1, x2]) (hV : Below W.heap.size W V) : (∀ p : Later V, p.val.cell? ⟨b, 0, none⟩ = some x0) ∧ (∀ p : Later V, p.val.cell? ⟨b, 1, none⟩ = some x1) ∧ (∀ p : Later V, p.val.cell? ⟨b, 2, none⟩ = some x2) := ⟨fun p => (((h.keep hV).keep p.below).cells 0 _ rfl).1, fun p => (((h.keep hV).keep p.below).cells 1 _ rfl).1, fun p => (((h.keep hV).keep p.below).cells 2 _ rfl).1⟩
theorem BoxL.s3 (h : BoxL W b #[x0, x1, x2]) (y0 y1 y2 : Value) : BoxL (((W.setCell ⟨b, 0, none⟩ y0).setCell ⟨b, 1, none⟩ y1).setCell ⟨b, 2, none⟩ y2) b #[y0, y1, y2] := h.setAll [y0, y1, y2] rfl
end
theorem below_s3 {n : Nat} {w W : World} {b : Nat} (h : Below n w W) (hb : n ≤ b) (y0 y1 y2 : Value) : Below n w (((W.setCell ⟨b, 0, none⟩ y0).setCell ⟨b, 1, none⟩ y1).setCell ⟨b, 2, none⟩ y2) := below_setAll hb [y0, y1, y2] W 0 h

section
variable {W V : World} {b : Nat} {x0 x1 x2 x3 : Value}
theorem BoxL.c4 (h : BoxL W b #[x0, x1, x2, x3]) : W.cell? ⟨b, 0, none⟩ = some x0 ∧ W.cell? ⟨b, 1, none⟩ = some x1 ∧ W.cell? ⟨b, 2, none⟩ = some x2 ∧ W.cell? ⟨b, 3, none⟩ = some x3 := ⟨(h.cells 0 _ rfl).1, (h.cells 1 _ rfl).1, (h.cells 2 _ rfl).1, (h.cells 3 _ rfl).1⟩
theorem BoxL.f4 (h : BoxL W b #[x0, x1, x2, x3]) : W.frozen? ⟨b, 0, none⟩ = false ∧ W.frozen? ⟨b, 1, none⟩ = false ∧ W.frozen? ⟨b, 2, none⟩ = false ∧ W.frozen? ⟨b, 3, none⟩ = false := ⟨(h.cells 0 _ rfl).2, (h.cells 1 _ rfl).2, (h.cells 2 _ rfl).2, (h.cells 3 _ rfl).2⟩
end

section
variable {W V : World} {b : Nat} {x0 x1 x2 x3 x4 : Value}
end

section
variable {W V : World} {b : Nat} {x0 x1 x2 x3 x4 x5 : Value}
end

section
variable {W V : World} {b : Nat} {x0 x1 x2 x3 x4 x5 x6 x7 : Value}
end

section
variable {W V : World} {b : Nat} {x0 x1 x2 x3 x4 x5 x6 x7 x8 : Value}
end

section
variable {W V : World} {b : Nat} {x0 x1 x2 x3 x4 x5 x6 x7 x8 x9 x10 x11 : Value}
end

section
variable {W V : World} {b : Nat} {x0 x1 x2 x3 x4 x5 x6 x7 x8 x9 x10 x11 x12 x13 x14 x15 : Value}
end

section
variable {W V : World} {b : Nat} {x0 x1 x2 x3 x4 x5 x6 x7 x8 x9 x10 x11 x12 x13 x14 x15 x16 x17 x18 x19 x20 x21 x22 x23 : Value}
end

end Fr
end Go.Proofs.YtggeepimihhpjaaGreatDoor

namespace Go.Proofs.YtggeepimihhpjaaGreatDoor
open Go.RowKit
namespace Fr
set_option linter.unusedVariables false

section
variable (w : World) (z0 z1 z2 z3 : Array Value) (T0 T1 T2 T3 : TypeId)
theorem start1 : BoxL (w.alloc (.cells z0 T0)) w.heap.size z0 ∧ Below w.heap.size w (w.alloc (.cells z0 T0)) := ⟨BoxL.new _ _ _, (Below.refl _ w).alloc (Nat.le_refl _) _⟩
theorem start2 : BoxL ((w.alloc (.cells z0 T0)).alloc (.cells z1 T1)) w.heap.size z0 ∧ BoxL ((w.alloc (.cells z0 T0)).alloc (.cells z1 T1)) (w.heap.size + 1) z1 ∧ Below w.heap.size w ((w.alloc (.cells z0 T0)).alloc (.cells z1 T1)) :=
  ⟨(start1 w z0 T0).1.keep ((Below.refl _ _).alloc (Nat.le_refl _) _), by have := BoxL.new (w.alloc (.cells z0 T0)) z1 T1; simpa using this, (start1 w z0 T0).2.alloc (by simp) _⟩
end

end Fr
end Go.Proofs.YtggeepimihhpjaaGreatDoor

namespace Go.Proofs.YtggeepimihhpjaaGreatDoor
open Go.RowKit
namespace Fr
set_option linter.unusedVariables false

theorem wp_region_free0 {P : Program} {id : Nat} {Q : Exit → Act → World → Prop} {a : Act} {w : World} {l : List Oper} (n : Nat) {agf : Act} (hm : P.follows .mixedOrders = true) (late : List Nat) (hB : freeB .any l n [] late = true) (hpan : ∀ (d : Option Tmp) v c a w, Q (.panic c) (a.put d v) w → Q (.panic c) a w)
    (h1 : ∀ W, Below w.heap.size w W → wpQuiet P (ghostL [] 0 (l.take n)).toArray (fun w' => ∃ p : Later W, w' = p.val) (fun a' => a' = agf) (ghostL [] 0 (l.take n)) a)
    (h2 : ∀ w', Below w.heap.size w w' → wpList P l.toArray Q (l.drop n) agf w') :
    (Code.region id l.toArray true).wp P Q a w :=
  wp_region_free n [] late (fun _ => #[]) agf hm hB hpan (fun _ hk => by cases hk) h1 (fun _ w' hb _ _ => h2 w' hb)

end Fr
end Go.Proofs.YtggeepimihhpjaaGreatDoor

namespace Go.Proofs.YtggeepimihhpjaaGreatDoor
open Go.RowKit
namespace Fr
set_option linter.unusedVariables false

theorem quiet_load {P : Program} {C : World → Prop} {K : Act → Prop} {a : Act} {o : Oper} {ty : TypeId} {x : Operand} (hop : o.op = .load ty x) {b off : Nat} (hx : a.eval x = .pointer (some ⟨b, off, none⟩)) {cs : List Value} {d : TypeDesc}
    (hc : ∀ w, C w → w.rangeAt b off cs) (hu : P.underlying ty = some d) (hd : d.isRow = true) (hi : (P.info? ty).map (·.size) = some cs.length) (hk : K (a.put o.dst (.agg cs.toArray))) : o.quiet P a C K :=
  ⟨.agg cs.toArray, fun w hw => by
    have h := run_loadAt_mid (P := P) w b off ty cs d (hc w hw) hu hd hi
    have e : execOp a.eval o = (do pure (Next.value (← Instr.loadAt ty (.pointer (some ⟨b, off, none⟩)))) : Sem Next) := by unfold execOp; rw [hop]; simp only [hx]
    unfold Oper.quietAt
    rw [e]
    simp only [Sem.run_bind, h, Result.andThen_ok, Sem.run_pure, Oper.quietUpon, and_self], hk⟩
theorem wpQuiet_load {P : Program} {ops : Array Oper} {C : World → Prop} {Q : Act → Prop} {a : Act} {o : Oper} {rest : List Oper} (hw : Region.wanted o (yielded ops a.tmps) = true) {ty : TypeId} {x : Operand} (hop : o.op = .load ty x) {b off : Nat} (hx : a.eval x = .pointer (some ⟨b, off, none⟩)) {cs : List Value} {d : TypeDesc}
    (hc : ∀ w, C w → w.rangeAt b off cs) (hu : P.underlying ty = some d) (hd : d.isRow = true) (n : Nat) (hl : cs.length = n) (hi : (P.info? ty).map (·.size) = some n) (h : wpQuiet P ops C Q rest (a.put o.dst (.agg cs.toArray))) : wpQuiet P ops C Q (o :: rest) a :=
  BigFrame.wpQuiet_want hw fun K hK => quiet_load hop hx hc hu hd (hl ▸ hi) (hK _ h)

end Fr
end Go.Proofs.YtggeepimihhpjaaGreatDoor

namespace Go.Proofs.YtggeepimihhpjaaGreatDoor
open Go.RowKit
namespace Fr
set_option linter.unusedVariables false

theorem BoxL.get {W : World} {b : Nat} {zs : Array Value} (h : BoxL W b zs) {i : Nat} {v : Value} (hv : zs[i]? = some v) : W.cell? ⟨b, i, none⟩ = some v := (h.cells i v hv).1
theorem BoxL.set1 {W : World} {b : Nat} {zs : Array Value} (h : BoxL W b zs) {i : Nat} (hi : i < zs.size) (v : Value) : BoxL (W.setCell ⟨b, i, none⟩ v) b (zs.setIfInBounds i v) := by
  have hold := h.cells i _ (Array.getElem?_eq_getElem hi)
  refine ⟨by simpa using h.lt, fun j u hu => ?_⟩
  rw [World.frozen?_setCell]
  by_cases hij : i = j
  · subst hij
    rw [Array.getElem?_setIfInBounds_self_of_lt hi] at hu
    cases hu
    exact ⟨World.cell?_setCell_same _ _ _ hold.1, hold.2⟩
  · rw [Array.getElem?_setIfInBounds_ne hij] at hu
    obtain ⟨h1, h2⟩ := h.cells j u hu
    exact ⟨(World.cell?_setCell_other _ _ _ _ (by intro e; have := congrArg Addr.off e; simp at this; omega)).trans h1, h2⟩
theorem BoxL.far1 {W : World} {a b : Nat} {zs : Array Value} (h : BoxL W a zs) (hab : b ≠ a) (i : Nat) (v : Value) : BoxL (W.setCell ⟨b, i, none⟩ v) a zs := h.setFar hab [v] i
theorem below_set1 {n : Nat} {w W : World} {b : Nat} (h : Below n w W) (hb : n ≤ b) (i : Nat) (v : Value) : Below n w (W.setCell ⟨b, i, none⟩ v) := h.setCell (p := ⟨b, i, none⟩) hb v
theorem BoxL.grown {w w' : World} {b : Nat} {zs : Array Value} {row : Option Nat} (h : BoxL w b zs) (hg : w.grownBy w' row) (hne : some b ≠ row) : BoxL w' b zs :=
  ⟨Nat.lt_of_lt_of_le h.lt hg.size, fun i v hv => ⟨(World.cell?_of_block (hg.block b h.lt hne)).trans (h.cells i v hv).1, (World.frozen?_of_block (hg.block b h.lt hne)).trans (h.cells i v hv).2⟩⟩
theorem row_keep {w w' : World} {base : Nat} {e : TypeId} {size : Nat} {v : Value} {n : Nat} {vs : List Value} (h : w.ownsRow base e size v n vs) (hb : Below w.heap.size w w') : w'.ownsRow base e size v n vs := by
  refine ⟨h.1, ?_⟩
  rcases h.2 with h2 | ⟨g, cap, cur, h1, h2, h3, h4⟩
  · exact .inl h2
  · exact .inr ⟨g, cap, cur, h1, h2, (hb.block g (Array.getElem?_eq_some_iff.1 h3).1).trans h3, h4⟩
theorem row_own {w : World} {base : Nat} {e : TypeId} {size : Nat} {v : Value} {n : Nat} {vs : List Value} (h : w.ownsRow base e size v n vs) : ∀ g, v.ownBlock = some g → base ≤ g := by
  rcases h.2 with ⟨rfl, _⟩ | ⟨g, cap, cur, rfl, h2, _⟩
  · intro g hg; cases hg
  · intro g' hg; cases hg; exact h2
theorem row_box {w : World} {base : Nat} {e : TypeId} {size : Nat} {v : Value} {n : Nat} {vs : List Value} (h : w.ownsRow base e size v n vs) (hn : 0 < n) : ∃ g cap, v = .slice (some ⟨g, 0, none⟩) n cap ∧ BoxL w g vs.toArray ∧ base ≤ g := by
  rcases h.2 with ⟨_, h0⟩ | ⟨g, cap, cur, h1, h2, h3, h4, h5, h6, h7⟩
  · omega
  · refine ⟨g, cap, h1, ⟨(Array.getElem?_eq_some_iff.1 h3).1, fun i v hv => ?_⟩, h2⟩
    have hv' : vs[i]? = some v := by simpa using hv
    rw [← h7, List.getElem?_take] at hv'
    split at hv'
    · refine ⟨?_, by simp [World.frozen?, h3]⟩
      simpa [World.cell?, h3] using hv'
    · cases hv'
theorem parts_of {o : Option TypeInfo} {z : Value} {s b : Nat} (h : o.map (fun i => (i.zero, i.size, i.bytes)) = some (some z, s, b)) : ∃ i, o = some i ∧ i.zero = some z ∧ i.size = s ∧ i.bytes = b := by
  cases o with
  | none => cases h
  | some i => simp only [Option.map_some, Option.some.injEq, Prod.mk.injEq] at h; exact ⟨i, rfl, h.1, h.2.1, h.2.2⟩

end Fr
end Go.Proofs.YtggeepimihhpjaaGreatDoor

namespace Go.Proofs.YtggeepimihhpjaaGreatDoor
open Go.RowKit Sl Fr
namespace Lx
set_option linter.unusedVariables false

theorem ret_bool {a b : Bool} (h : a = b) : Ending.returned (.bool a) = .returned (.bool b) := by rw [h]
theorem ret_num {a b : Int} (h : a = b) : Ending.returned (.int .i64 a) = .returned (.int .i64 b) := by rw [h]
theorem get_lt {α : Type} {l : List α} {j : Nat} {v : α} (h : l[j]? = some v) : j < l.length := (List.getElem?_eq_some_iff.1 h).1
theorem get_ex {α : Type} {l : List α} {j : Nat} (h : j < l.length) : ∃ v, l[j]? = some v := ⟨_, List.getElem?_eq_getElem h⟩
theorem take_snoc {α : Type} {l : List α} {j : Nat} {v : α} (h : l[j]? = some v) : l.take (j + 1) = l.take j ++ [v] := by
  rw [List.take_add_one, h]; rfl
def bys (s : ByteArray) : By := s.data.toList
theorem bys_len (s : ByteArray) : (bys s).length = s.size := by simp [bys]
theorem bys_drop {s : ByteArray} {j : Nat} (h : j < s.size) : (bys s).drop j = s[j] :: (bys s).drop (j + 1) := by
  unfold bys
  rw [List.drop_eq_getElem_cons (by simpa using h)]; rfl
theorem bys_get {s : ByteArray} {j : Nat} (h : j < s.size) : (bys s)[j]? = some s[j] := by
  unfold bys
  rw [List.getElem?_eq_getElem (by simpa using h)]; rfl
theorem bys_ext {s t : ByteArray} (h : bys s = bys t) : s = t := by
  cases s with | mk a => cases t with | mk b =>
    simp only [bys] at h
    rw [Array.toList_inj.1 h]
theorem bys_extract (s : ByteArray) (i j : Nat) : bys (s.extract i j) = ((bys s).take j).drop i := by
  unfold bys
  simp [ByteArray.data_extract, Array.toList_extract, List.extract_eq_take_drop, List.drop_take]

theorem isLetter_any (c : UInt8) (w : World) : Calls Tryz.prog 128 #[.int .u8 (c.toNat : Int)] w fun e w' => e = .returned (.bool (isL c)) ∧ w = w' := by
  by_cases h0 : 97 ≤ (c.toNat : Int)
  · by_cases h1 : (c.toNat : Int) ≤ 122
    · rw [show isL c = true by simp [isL]; omega]
      go_enter Tryz.func128, Tryz.ntmps128
      go_wp2
      go_ret
      exact ⟨rfl, rfl⟩
    · rw [show isL c = false by simp [isL]; omega]
      go_enter Tryz.func128, Tryz.ntmps128
      go_wp2
      go_ret
      exact ⟨rfl, rfl⟩
  · rw [show isL c = false by simp [isL]; omega]
    go_enter Tryz.func128, Tryz.ntmps128
    go_wp2
    go_ret
    exact ⟨rfl, rfl⟩
theorem isDigit_any (c : UInt8) (w : World) : Calls Tryz.prog 129 #[.int .u8 (c.toNat : Int)] w fun e w' => e = .returned (.bool (isD c)) ∧ w = w' := by
  by_cases h0 : 48 ≤ (c.toNat : Int)
  · by_cases h1 : (c.toNat : Int) ≤ 57
    · rw [show isD c = true by simp [isD]; omega]
      go_enter Tryz.func129, Tryz.ntmps129
      go_wp2
      go_ret
      exact ⟨rfl, rfl⟩
    · rw [show isD c = false by simp [isD]; omega]
      go_enter Tryz.func129, Tryz.ntmps129
      go_wp2
      go_ret
      exact ⟨rfl, rfl⟩
  · rw [show isD c = false by simp [isD]; omega]
    go_enter Tryz.func129, Tryz.ntmps129
    go_wp2
    go_ret
    exact ⟨rfl, rfl⟩
theorem eq_int (c : UInt8) (d : UInt8) : (c == d) = ((c.toNat : Int) == (d.toNat : Int)) := by
  rw [Bool.eq_iff_iff]
  simp only [beq_iff_eq]
  constructor
  · intro h; rw [h]
  · intro h; exact UInt8.toNat_inj.1 (by omega)
theorem notLf_any (c : UInt8) (w : World) : Calls Tryz.prog 125 #[.int .u8 (c.toNat : Int)] w fun e w' => e = .returned (.bool (notLf c)) ∧ w = w' := by
  have h := eq_int c 10
  rw [show notLf c = !(c == 10) by simp [notLf, bne], h]
  clear h
  go_enter Tryz.func125, Tryz.ntmps125
  go_wp2
  go_ret
  exact ⟨rfl, rfl⟩
theorem isSp_any (c : UInt8) (w : World) : Calls Tryz.prog 126 #[.int .u8 (c.toNat : Int)] w fun e w' => e = .returned (.bool (isSp c)) ∧ w = w' := by
  have h := eq_int c 10
  have h' := eq_int c 32
  rw [show isSp c = (c == 32 || c == 10) by rfl, h, h']
  clear h h'
  have e : ((32 : UInt8).toNat : Int) = 32 := rfl
  have e' : ((10 : UInt8).toNat : Int) = 10 := rfl
  rw [e, e']
  clear e e'
  cases h0 : ((c.toNat : Int) == 32)
  · go_enter Tryz.func126, Tryz.ntmps126
    go_wp2
    go_ret
    exact ⟨rfl, rfl⟩
  · go_enter Tryz.func126, Tryz.ntmps126
    go_wp2
    go_ret
    exact ⟨rfl, rfl⟩
theorem isWd_any (c : UInt8) (w : World) : Calls Tryz.prog 127 #[.int .u8 (c.toNat : Int)] w fun e w' => e = .returned (.bool (isWd c)) ∧ w = w' := by
  have hl := fun w => isLetter_any c w
  have hd := fun w => isDigit_any c w
  rw [show isWd c = (isL c || isD c) by rfl]
  cases h0 : isL c
  · rw [h0] at hl
    go_enter Tryz.func127, Tryz.ntmps127
    go_wp2_with (first | (go_at_call 128; refine (hl _).mono ?_; rintro e w' ⟨rfl, rfl⟩) | (go_at_call 129; refine (hd _).mono ?_; rintro e w' ⟨rfl, rfl⟩))
    go_ret
    exact ⟨rfl, rfl⟩
  · rw [h0] at hl
    go_enter Tryz.func127, Tryz.ntmps127
    go_wp2_with (first | (go_at_call 128; refine (hl _).mono ?_; rintro e w' ⟨rfl, rfl⟩) | (go_at_call 129; refine (hd _).mono ?_; rintro e w' ⟨rfl, rfl⟩))
    go_ret
    exact ⟨rfl, rfl⟩

def SetF (f : FuncId) (p : UInt8 → Bool) : Prop := (∀ args w, (callFunc f args).run Tryz.prog w = .ok (.enter f args) w) ∧ ∀ (c : UInt8) (w : World), Calls Tryz.prog f #[.int .u8 (c.toNat : Int)] w fun e w' => e = .returned (.bool (p c)) ∧ w = w'
theorem span_any (f : FuncId) (p : UInt8 → Bool) (h : SetF f p) (s : ByteArray) (w : World) (hs : s.size ≤ 281474976710656) :
    Calls Tryz.prog 124 #[.string s, .func (.func f) #[] #[]] w fun e w' => e = .returned (.int .i64 (span p (bys s) : Nat)) ∧ w = w' := by
  obtain ⟨hf, hc⟩ := h
  obtain ⟨R, hR⟩ : ∃ R, span p (bys s) = R := ⟨_, rfl⟩
  rw [hR]
  have HR := Lib.hid hR
  clear hR
  go_enter Tryz.func124, Tryz.ntmps124
  go_wp2
  go_loop [5] (fun i => ∃ k : Nat, k ≤ s.size ∧ i = .int .i64 k ∧ k + span p ((bys s).drop k) = R) (fun i => s.size - (intOf i).toNat)
  case atStart => exact ⟨0, Nat.zero_le _, rfl, by rw [List.drop_zero, HR.out]; omega⟩
  case round =>
    obtain ⟨k, hk, rfl, hall⟩ := hrel
    have HG := Lib.hid hall
    clear hall
    by_cases hlt : k < s.size
    · have hd := bys_drop hlt
      have HC := Lib.hid (fun w => hc s[k] w)
      have HD := Lib.hid hd
      clear hd hc
      generalize hcc : s[k] = c at *
      have HCC := Lib.hid hcc
      cases hw : p c
      · rw [hw] at HC
        have HW := Lib.hid hw
        clear hw
        go_wp2_with (refine (HC.out _).mono ?_; rintro e w' ⟨rfl, rfl⟩)
        go_ret
        refine ⟨?_, rfl⟩
        refine ret_num ?_
        have := HG.out
        rw [HD.out, span_no HW.out] at this
        omega
      · rw [hw] at HC
        have HW := Lib.hid hw
        clear hw
        go_wp2_with (refine (HC.out _).mono ?_; rintro e w' ⟨rfl, rfl⟩)
        exact ⟨⟨k + 1, by omega, by go_num, by have := HG.out; rw [HD.out, span_yes HW.out] at this; omega⟩, by simp [intOf]; omega⟩
    · go_wp2
      go_ret
      refine ⟨?_, rfl⟩
      have := HG.out
      rw [List.drop_of_length_le (by rw [bys_len]; omega)] at this
      exact ret_num (by rw [span_nil] at this; omega)
set_option maxRecDepth 100000 in
theorem set_lf : SetF 125 notLf := ⟨fun args w => rfl, notLf_any⟩
set_option maxRecDepth 100000 in
theorem set_sp : SetF 126 isSp := ⟨fun args w => rfl, isSp_any⟩
set_option maxRecDepth 100000 in
theorem set_wd : SetF 127 isWd := ⟨fun args w => rfl, isWd_any⟩

end Lx
end Go.Proofs.YtggeepimihhpjaaGreatDoor
