/- A part of a block stored; a drawn statement whose first operations only read and call, with extractions that may come late. -/
import Derived.Test.YtiebhlmjpnhepaaDoorL4
namespace Go.Proofs.YtiebhlmjpnhepaaDoor
open Go.RowKit
namespace Fr
set_option linter.unusedVariables false

theorem setAll_high (b : Nat) (j : Nat) : ∀ (vs : List Value) (W : World) (i : Nat), i + vs.length ≤ j → (setAll b W i vs).cell? ⟨b, j, none⟩ = W.cell? ⟨b, j, none⟩
  | [], _, _, _ => rfl
  | v :: vs, W, i, h => by
    unfold setAll
    simp only [List.length_cons] at h
    rw [setAll_high b j vs _ _ (by omega)]
    exact World.cell?_setCell_other _ _ _ _ (by intro e; have := congrArg Addr.off e; simp at this; omega)
/-- The list with vs in the place of its elements from i on. -/
def spliced (zs : Array Value) (vs : List Value) (i : Nat) : Array Value := (zs.toList.take i ++ vs ++ zs.toList.drop (i + vs.length)).toArray
theorem BoxL.setPart {W : World} {b : Nat} {zs : Array Value} (h : BoxL W b zs) (vs : List Value) (i : Nat) (hl : i + vs.length ≤ zs.size) : BoxL (Fr.setAll b W i vs) b (spliced zs vs i) := by
  have hz : (spliced zs vs i).size = zs.size := by simp [spliced]; omega
  refine ⟨by rw [setAll_size]; exact h.lt, fun j v hv => ?_⟩
  have hj : j < zs.size := by have := (Array.getElem?_eq_some_iff.1 hv).1; omega
  have hold := h.cells j _ (Array.getElem?_eq_getElem hj)
  rw [setAll_frozen]
  refine ⟨?_, hold.2⟩
  simp only [spliced, List.getElem?_toArray] at hv
  by_cases h1 : j < i
  · rw [setAll_low b j vs W i h1]
    rw [hold.1]
    rw [List.append_assoc, List.getElem?_append_left (by simp; omega), List.getElem?_take_of_lt h1] at hv
    rw [← hv]
    simp [hj]
  · by_cases h2 : j < i + vs.length
    · have := setAll_cell b vs W i (j - i) v (by
        rw [List.append_assoc, List.getElem?_append_right (by simp; omega)] at hv
        rw [show (zs.toList.take i).length = i by simp; omega] at hv
        rwa [List.getElem?_append_left (by omega)] at hv) (fun k hk => ⟨_, (h.cells (i + k) _ (Array.getElem?_eq_getElem (by omega))).1⟩)
      rwa [show i + (j - i) = j by omega] at this
    · rw [setAll_high b j vs W i (by omega)]
      rw [hold.1]
      rw [List.getElem?_append_right (by simp; omega)] at hv
      rw [show (zs.toList.take i ++ vs).length = i + vs.length by simp; omega, List.getElem?_drop] at hv
      rw [← hv, show i + vs.length + (j - (i + vs.length)) = j by omega]
      simp [hj]

theorem wp_region_free0 {P : Program} {id : Nat} {Q : Exit → Act → World → Prop} {a : Act} {w : World} {l : List Oper} (n : Nat) {agf : Act} (hm : P.follows .mixedOrders = true) (late : List Nat) (hB : freeB .any l n [] late = true) (hpan : ∀ (d : Option Tmp) v c a w, Q (.panic c) (a.put d v) w → Q (.panic c) a w)
    (h1 : ∀ W, Below w.heap.size w W → wpQuiet P (ghostL [] 0 (l.take n)).toArray (fun w' => ∃ p : Later W, w' = p.val) (fun a' => a' = agf) (ghostL [] 0 (l.take n)) a)
    (h2 : ∀ w', Below w.heap.size w w' → wpList P l.toArray Q (l.drop n) agf w') :
    (Code.region id l.toArray true).wp P Q a w :=
  wp_region_free n [] late (fun _ => #[]) agf hm hB hpan (fun _ hk => by cases hk) h1 (fun _ w' hb _ _ => h2 w' hb)

/-- In every world in which what lay in w0 lies as it lay, the call returns v. -/
def DoesIn (w0 : World) (f : FuncId) (args : Array Value) (v : Value) : Prop := ∀ W : World, Below w0.heap.size w0 W → Calls Tryd.prog f args W fun o w' => o = .returned v ∧ Below W.heap.size W w'
theorem Does.inn {f : FuncId} {args : Array Value} {v : Value} (h : Does f args v) (w0 : World) : DoesIn w0 f args v := fun W _ => h W
theorem DoesIn.later {w0 : World} {f : FuncId} {args : Array Value} {v : Value} (h : DoesIn w0 f args v) {W : World} (B : Below w0.heap.size w0 W) (p : Later W) : Calls Tryd.prog f args p.val fun o w' => o = .returned v ∧ Below p.val.heap.size p.val w' := h p.val (B.trans (p.below.mono B.size))
theorem DoesIn.mono {w0 W : World} {f : FuncId} {args : Array Value} {v : Value} (h : DoesIn w0 f args v) (B : Below w0.heap.size w0 W) : DoesIn W f args v := fun V hV => h V (B.trans (hV.mono B.size))
theorem DoesIn.at {w0 : World} {f : FuncId} {args : Array Value} {v : Value} (h : DoesIn w0 f args v) {W : World} (B : Below w0.heap.size w0 W) : Calls Tryd.prog f args W fun o w' => o = .returned v ∧ Below W.heap.size W w' := h W B

end Fr
end Go.Proofs.YtiebhlmjpnhepaaDoor
