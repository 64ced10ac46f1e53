/- The law of XL1 as it is used: one, two or three new blocks. -/
import Derived.Test.YtiebhlmjpnhepaaDoorL1
namespace Go.Proofs.YtiebhlmjpnhepaaDoor
open Go.RowKit
namespace Fr
set_option linter.unusedVariables false

/-- What is asked of a region: the first n operations in any order (those of al make blocks), the others in one. -/
def freeB (md : Region.Mode) (l : List Oper) (n : Nat) (al late : List Nat) : Bool :=
  decide (n < l.length) && ((List.range n).all fun i => late.contains i || (List.range (n + 1)).any fun j => decide (i < j) && !late.contains j && Region.waitsFor md l.toArray j i) && Region.chainB md l.toArray n && headB md l.toArray n && Region.noSelect l.toArray && decide al.Nodup &&
    (al.all fun i => decide (i < n) && match l[i]? with
      | some o => o.guard.isNone && (match o.op with | .alloc _ => true | _ => false)
      | none => false) &&
    ((List.range n).all fun j => al.contains j || match l[j]? with
      | some o => al.all fun i => match (l[i]?).bind (·.dst) with
        | some d => !(o.looksAt l.toArray).contains d
        | none => true
      | none => true) &&
    ((List.range n).all fun i => (List.range n).all fun j => i == j || match l[i]?, l[j]? with
      | some oi, some oj => (match oi.dst with | some t => !(oj.dst == some t) | none => true)
      | _, _ => true) &&
    (late.all fun i => decide (i < n) && !al.contains i && match l[i]? with
      | some oi => oi.guard.isNone && (match oi.op with | .extract _ _ => true | .move _ => true | _ => false) && ((List.range l.length).all fun j => j == i || oi.after.any (fun e => Region.binds md e && e.on == j) || match l[j]? with
        | some oj => oj.after.any (fun e => Region.binds md e && e.on == i) || oi.apart l.toArray oj
        | none => true)
      | none => false) &&
    Region.lexB md (ghostL al 0 (l.take n)).toArray &&
    Region.seqB md l.toArray (l.length - n) n (Array.replicate n true ++ Array.replicate (l.length - n) false)

theorem freeH_of {P : Program} {md : Region.Mode} {l : List Oper} {n : Nat} {al late : List Nat} {zs : Nat → Array Value} (hB : freeB md l n al late = true)
    (hz : ∀ i ∈ al, ∀ T, (l[i]?).map (·.op) = some (.alloc T) → Zr P T (zs i)) : FreeH P md l.toArray (ghostL al 0 (l.take n)).toArray n al late zs := by
  simp only [freeB, Bool.and_eq_true, decide_eq_true_eq] at hB
  obtain ⟨⟨⟨⟨⟨⟨⟨⟨⟨⟨⟨hn, hs⟩, hc⟩, hh⟩, hsel⟩, hnd⟩, hal⟩, hap⟩, hds⟩, hlt⟩, _⟩, _⟩ := hB
  refine ⟨by simp [ghostL_length]; omega, by simpa using hn, fun i hi hil => ?_, fun i hi => ?_, fun i hi oi j oj hoi hoj hji h1 h2 => ?_, hc, hh, hsel, fun j hj => ?_, hnd, fun i hi => ?_, fun j o hj ho hja i hi t ht => ?_, fun i j oi oj hi hj hoi hoj hij t ht e => ?_⟩
  · have h1 := List.all_eq_true.1 hs i (List.mem_range.2 hi)
    simp only [Bool.or_eq_true, List.contains_iff_mem] at h1
    rcases h1 with h1 | h1
    · exact absurd h1 hil
    · obtain ⟨j, hj, h2⟩ := List.any_eq_true.1 h1
      simp only [Bool.and_eq_true, decide_eq_true_eq, Bool.not_eq_true'] at h2
      exact ⟨j, h2.1.1, by have := List.mem_range.1 hj; omega, by have := h2.1.2; simpa using this, h2.2⟩
  · have h1 := List.all_eq_true.1 hlt i hi
    simp only [Bool.and_eq_true, decide_eq_true_eq] at h1
    obtain ⟨⟨h1, h2⟩, h3⟩ := h1
    refine ⟨h1, by simpa using h2, ?_⟩
    cases ho : l[i]? with
    | none => rw [ho] at h3; cases h3
    | some o =>
      rw [ho] at h3
      simp only [Bool.and_eq_true] at h3
      obtain ⟨⟨h4, h5⟩, _⟩ := h3
      refine ⟨o, by simpa using ho, ?_, by simpa using h4⟩
      cases hop : o.op <;> rw [hop] at h5 <;> simp only [Bool.false_eq_true] at h5
      · exact .inr ⟨_, rfl⟩
      · exact .inl ⟨_, _, rfl⟩
  · have h3 := List.all_eq_true.1 hlt i hi
    simp only [Bool.and_eq_true] at h3
    have h4 := h3.2
    have hoi' : l[i]? = some oi := by simpa using hoi
    have hoj' : l[j]? = some oj := by simpa using hoj
    rw [hoi'] at h4
    simp only [Bool.and_eq_true] at h4
    have h5 := List.all_eq_true.1 h4.2 j (List.mem_range.2 (List.getElem?_eq_some_iff.1 hoj').1)
    simp only [hoj', Bool.or_eq_true, beq_iff_eq] at h5
    rcases h5 with (h5 | h5) | h5 | h5
    · exact absurd h5 hji
    · obtain ⟨e, he, hb⟩ := Array.any_eq_true'.1 h5
      simp only [Bool.and_eq_true, beq_iff_eq] at hb
      exact absurd hb.2 (h1 e he hb.1)
    · obtain ⟨e, he, hb⟩ := Array.any_eq_true'.1 h5
      simp only [Bool.and_eq_true, beq_iff_eq] at hb
      exact absurd hb.2 (h2 e he hb.1)
    · exact h5
  · rw [List.getElem?_toArray, ghostL_get]
    simp [hj]
  · have h1 := List.all_eq_true.1 hal i hi
    simp only [Bool.and_eq_true, decide_eq_true_eq] at h1
    obtain ⟨h1, h2⟩ := h1
    refine ⟨h1, ?_⟩
    cases ho : l[i]? with
    | none => rw [ho] at h2; cases h2
    | some o =>
      rw [ho] at h2
      simp only [Bool.and_eq_true] at h2
      obtain ⟨h3, h4⟩ := h2
      cases hop : o.op <;> rw [hop] at h4 <;> simp only [Bool.false_eq_true] at h4
      rename_i T
      exact ⟨o, T, by simpa using ho, hop, by simpa using h3, hz i hi T (by rw [ho]; simp [hop])⟩
  · have h1 := List.all_eq_true.1 hap j (List.mem_range.2 hj)
    have ho' : l[j]? = some o := by simpa using ho
    simp only [ho', Bool.or_eq_true, List.contains_iff_mem] at h1
    rcases h1 with h1 | h1
    · exact absurd h1 hja
    · have h2 := List.all_eq_true.1 h1 i hi
      have ht' : (l[i]?).bind (·.dst) = some t := by simpa using ht
      rw [ht'] at h2
      simpa using h2
  · have h1 := List.all_eq_true.1 (List.all_eq_true.1 hds i (List.mem_range.2 hi)) j (List.mem_range.2 hj)
    have hoi' : l[i]? = some oi := by simpa using hoi
    have hoj' : l[j]? = some oj := by simpa using hoj
    simp only [hoi', hoj', ht, Bool.or_eq_true, beq_iff_eq] at h1
    rcases h1 with h1 | h1
    · exact hij h1
    · simp [e] at h1

theorem wp_region_free {P : Program} {id : Nat} {Q : Exit → Act → World → Prop} {a : Act} {w : World} {l : List Oper} (n : Nat) (al late : List Nat) (zs : Nat → Array Value) (agf : Act) (hm : P.follows .mixedOrders = true) (hB : freeB .any l n al late = true) (hpan : ∀ (d : Option Tmp) v c a w, Q (.panic c) (a.put d v) w → Q (.panic c) a w)
    (hz : ∀ i ∈ al, ∀ T, (l[i]?).map (·.op) = some (.alloc T) → Zr P T (zs i))
    (h1 : ∀ W, Below w.heap.size w W → wpQuiet P (ghostL al 0 (l.take n)).toArray (fun w' => ∃ p : Later W, w' = p.val) (fun a' => a' = agf) (ghostL al 0 (l.take n)) a)
    (h2 : ∀ bf w', Below w.heap.size w w' → (∀ i ∈ al, ∃ b, bf i = some b ∧ BoxL w' b (zs i) ∧ w.heap.size ≤ b) → (∀ i ∈ al, ∀ j ∈ al, i ≠ j → ∀ b, bf i = some b → bf j ≠ some b) → wpList P l.toArray Q (l.drop n) (over P l.toArray bf al agf) w') :
    (Code.region id l.toArray true).wp P Q a w := by
  have F := freeH_of (P := P) hB hz
  simp only [freeB, Bool.and_eq_true, decide_eq_true_eq] at hB
  obtain ⟨⟨⟨_, _⟩, hlex⟩, hq⟩ := hB
  simp only [Region.lexB, Bool.and_eq_true] at hlex
  have hn : n < l.length := by simpa using F.hn
  have hsz : (ghostL al 0 (l.take n)).length = n := by simp [ghostL_length]; omega
  refine wp_region_any hm ?_
  have inv0 : HeadInv .any l.toArray n (Array.replicate l.toArray.size false) :=
    ⟨by simp, fun j oj _ hl => (by rw [getD_replicate_false] at hl; cases hl), fun t _ ht => getD_in (by simpa using ht) (getD_replicate_false _ _)⟩
  have hun : ∀ i, i < n → (Array.replicate l.toArray.size false).getD i true = false := fun i hi => getD_in (by simp; omega) (getD_replicate_false _ _)
  have := free_any (P := P) (md := .any) (g := l.length - n) (Q' := Q) (full := Array.replicate n true ++ Array.replicate (l.length - n) false) (w0 := w) (agf := agf) F hpan
    (by simp; omega) (fun j hj => by
      have hj' : j < l.length := by simpa using hj
      by_cases h1 : j < n
      · simp [h1, Array.getElem?_append]
      · have h2 : j - n < l.length - n := by omega
        simp [h1, Array.getElem?_append, h2])
    (fun bf w' hb hx hy => by
      have := wpAny_of_seq (md := .any) (Q' := Q) (l.drop n) n (Array.replicate n true ++ Array.replicate (l.length - n) false) (over P l.toArray bf al agf) w' (fun j => by simp [List.getElem?_drop]) (by rw [List.length_drop]; exact hq) (h2 bf w' hb hx hy)
      rwa [List.length_drop] at this)
    (ghostL al 0 (l.take n)).length (Array.replicate n false) (Array.replicate l.toArray.size false) a (fun _ => none) { w with drawn := w.drawn + 1 } (by simp) inv0 (fun j hj => by
      rw [hun j hj, getD_in (by simpa using hj) (getD_replicate_false _ _)]) ((Below.refl _ w).drew) (fun _ _ _ => rfl) (fun i hi hl => by
      rw [hun i (F.alloc i hi).1] at hl; cases hl) (fun _ _ _ _ _ _ h => by cases h) (fun W hW => by
      have hw1 : Below w.heap.size w W := ((Below.refl _ w).drew).trans hW
      have := wpAnyQ_lex (P := P) (C := CL W) (md := .any) hlex.1 (ghostL al 0 (l.take n)) 0 (Array.replicate n false) a (by simp) (by simpa [hsz] using hlex.2) (h1 W hw1)
      exact this)
  rw [over_none, hsz, show n + (l.length - n) = l.toArray.size by simp; omega] at this
  exact this

theorem wp_region_free1 {P : Program} {id : Nat} {Q : Exit → Act → World → Prop} {a : Act} {w : World} {l : List Oper} (n i : Nat) {di : Tmp} {T : TypeId} {z : Array Value} {agf : Act} (hz : Zr P T z) (hm : P.follows .mixedOrders = true) (late : List Nat) (hB : freeB .any l n [i] late = true) (hpan : ∀ (d : Option Tmp) v c a w, Q (.panic c) (a.put d v) w → Q (.panic c) a w) (hT : (l[i]?).map (·.op) = some (.alloc T)) (hdi : (l[i]?).bind (·.dst) = some di)
    (h1 : ∀ W, Below w.heap.size w W → wpQuiet P (ghostL [i] 0 (l.take n)).toArray (fun w' => ∃ p : Later W, w' = p.val) (fun a' => a' = agf) (ghostL [i] 0 (l.take n)) a)
    (h2 : ∀ b w', Below w.heap.size w w' → BoxL w' b z → w.heap.size ≤ b → wpList P l.toArray Q (l.drop n) (agf.put (some di) (.pointer (some ⟨b, 0, none⟩))) w') :
    (Code.region id l.toArray true).wp P Q a w := by
  refine wp_region_free n [i] late (fun _ => z) agf hm hB hpan (fun j hj T' hT' => ?_) h1 (fun bf w' hb hx _ => ?_)
  · have : j = i := by simpa using hj
    subst this
    rw [hT] at hT'
    cases hT'
    exact hz
  · obtain ⟨b, hb1, hb2, hb3⟩ := hx i (by simp)
    have := h2 b w' hb hb2 hb3
    simpa [over, hb1, hdi] using this

theorem wp_region_free2 {P : Program} {id : Nat} {Q : Exit → Act → World → Prop} {a : Act} {w : World} {l : List Oper} (n i j : Nat) {di dj : Tmp} {T U : TypeId} {z y : Array Value} {agf : Act} (hz : Zr P T z) (hy : Zr P U y) (hm : P.follows .mixedOrders = true) (late : List Nat) (hB : freeB .any l n [i, j] late = true) (hpan : ∀ (d : Option Tmp) v c a w, Q (.panic c) (a.put d v) w → Q (.panic c) a w) (hij : i ≠ j) (hT : (l[i]?).map (·.op) = some (.alloc T)) (hdi : (l[i]?).bind (·.dst) = some di) (hU : (l[j]?).map (·.op) = some (.alloc U)) (hdj : (l[j]?).bind (·.dst) = some dj)
    (h1 : ∀ W, Below w.heap.size w W → wpQuiet P (ghostL [i, j] 0 (l.take n)).toArray (fun w' => ∃ p : Later W, w' = p.val) (fun a' => a' = agf) (ghostL [i, j] 0 (l.take n)) a)
    (h2 : ∀ b c w', Below w.heap.size w w' → BoxL w' b z → BoxL w' c y → w.heap.size ≤ b → w.heap.size ≤ c → b ≠ c → wpList P l.toArray Q (l.drop n) ((agf.put (some di) (.pointer (some ⟨b, 0, none⟩))).put (some dj) (.pointer (some ⟨c, 0, none⟩))) w') :
    (Code.region id l.toArray true).wp P Q a w := by
  refine wp_region_free n [i, j] late (fun k => if k = i then z else y) agf hm hB hpan (fun k hk T' hT' => ?_) h1 (fun bf w' hb hx hd => ?_)
  · rcases (by simpa using hk : k = i ∨ k = j) with rfl | rfl
    · rw [hT] at hT'
      cases hT'
      simpa using hz
    · rw [hU] at hT'
      cases hT'
      simpa [Ne.symm hij] using hy
  · obtain ⟨b, hb1, hb2, hb3⟩ := hx i (by simp)
    obtain ⟨c, hc1, hc2, hc3⟩ := hx j (by simp)
    have hne : b ≠ c := fun e => by subst e; exact hd i (by simp) j (by simp) hij b hb1 hc1
    have := h2 b c w' hb (by simpa using hb2) (by simpa [Ne.symm hij] using hc2) hb3 hc3 hne
    simpa [over, hb1, hc1, hdi, hdj] using this

theorem wp_region_free3 {P : Program} {id : Nat} {Q : Exit → Act → World → Prop} {a : Act} {w : World} {l : List Oper} (n i j k : Nat) {di dj dk : Tmp} {T U V : TypeId} {z y x : Array Value} {agf : Act} (hz : Zr P T z) (hy : Zr P U y) (hx : Zr P V x) (hm : P.follows .mixedOrders = true) (late : List Nat) (hB : freeB .any l n [i, j, k] late = true) (hpan : ∀ (d : Option Tmp) v c a w, Q (.panic c) (a.put d v) w → Q (.panic c) a w) (hij : i ≠ j) (hik : i ≠ k) (hjk : j ≠ k) (hT : (l[i]?).map (·.op) = some (.alloc T)) (hdi : (l[i]?).bind (·.dst) = some di) (hU : (l[j]?).map (·.op) = some (.alloc U)) (hdj : (l[j]?).bind (·.dst) = some dj) (hV : (l[k]?).map (·.op) = some (.alloc V)) (hdk : (l[k]?).bind (·.dst) = some dk)
    (h1 : ∀ W, Below w.heap.size w W → wpQuiet P (ghostL [i, j, k] 0 (l.take n)).toArray (fun w' => ∃ p : Later W, w' = p.val) (fun a' => a' = agf) (ghostL [i, j, k] 0 (l.take n)) a)
    (h2 : ∀ b c d w', Below w.heap.size w w' → BoxL w' b z → BoxL w' c y → BoxL w' d x → w.heap.size ≤ b → w.heap.size ≤ c → w.heap.size ≤ d → b ≠ c → b ≠ d → c ≠ d → wpList P l.toArray Q (l.drop n) (((agf.put (some di) (.pointer (some ⟨b, 0, none⟩))).put (some dj) (.pointer (some ⟨c, 0, none⟩))).put (some dk) (.pointer (some ⟨d, 0, none⟩))) w') :
    (Code.region id l.toArray true).wp P Q a w := by
  refine wp_region_free n [i, j, k] late (fun m => if m = i then z else if m = j then y else x) agf hm hB hpan (fun m hk T' hT' => ?_) h1 (fun bf w' hb hx' hd => ?_)
  · rcases (by simpa using hk : m = i ∨ m = j ∨ m = k) with rfl | rfl | rfl
    · rw [hT] at hT'
      cases hT'
      simpa using hz
    · rw [hU] at hT'
      cases hT'
      simpa [Ne.symm hij] using hy
    · rw [hV] at hT'
      cases hT'
      simpa [Ne.symm hik, Ne.symm hjk] using hx
  · obtain ⟨b, hb1, hb2, hb3⟩ := hx' i (by simp)
    obtain ⟨c, hc1, hc2, hc3⟩ := hx' j (by simp)
    obtain ⟨d, hd1, hd2, hd3⟩ := hx' k (by simp)
    have n1 : b ≠ c := fun e => by subst e; exact hd i (by simp) j (by simp) hij b hb1 hc1
    have n2 : b ≠ d := fun e => by subst e; exact hd i (by simp) k (by simp) hik b hb1 hd1
    have n3 : c ≠ d := fun e => by subst e; exact hd j (by simp) k (by simp) hjk c hc1 hd1
    have := h2 b c d w' hb (by simpa using hb2) (by simpa [Ne.symm hij] using hc2) (by simpa [Ne.symm hik, Ne.symm hjk] using hd2) hb3 hc3 hd3 n1 n2 n3
    simpa [over, hb1, hc1, hd1, hdi, hdj, hdk] using this

end Fr
end Go.Proofs.YtiebhlmjpnhepaaDoor
