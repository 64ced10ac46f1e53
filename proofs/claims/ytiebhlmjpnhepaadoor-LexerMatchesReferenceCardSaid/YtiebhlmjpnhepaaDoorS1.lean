/- Slices as lists: that a slice's cells hold a list of values, and that this stays so where nothing below is changed. -/
import Derived.Below
import Derived.Laws.OwnMore
import Derived.Deep.Draws
import Derived.WalkSmall
import Derived.OneCell
import Derived.Deep.AppendLies
import Derived.Deep.RegionHeld
namespace Go.Proofs.YtiebhlmjpnhepaaDoor
open Go.RowKit
namespace Sl

/-- The cells from A on hold the values vs; of an empty list nothing is said. -/
def Arr (w : World) (A : Option Addr) (vs : List Value) : Prop :=
  vs ≠ [] → ∃ b o, A = some ⟨b, o, none⟩ ∧ b < w.heap.size ∧ ∀ j u, vs[j]? = some u → w.cell? ⟨b, o + j, none⟩ = some u

theorem Arr.nil (w : World) (A : Option Addr) : Arr w A [] := fun h => absurd rfl h

theorem Arr.keep {w w' : World} {A : Option Addr} {vs : List Value} (h : Arr w A vs) (hb : Below w.heap.size w w') : Arr w' A vs := fun hne => by
  obtain ⟨b, o, e, hlt, hc⟩ := h hne
  exact ⟨b, o, e, Nat.lt_of_lt_of_le hlt hb.size, fun j u hu => (hb.cell (p := ⟨b, o + j, none⟩) hlt).trans (hc j u hu)⟩

theorem Arr.alloc {w : World} {A : Option Addr} {vs : List Value} (h : Arr w A vs) (o : Obj) : Arr (w.alloc o) A vs := h.keep ((Below.refl _ w).alloc (Nat.le_refl _) o)
theorem Arr.drew {w : World} {A : Option Addr} {vs : List Value} (h : Arr w A vs) : Arr w.drew A vs := h
theorem Arr.drewN {w : World} {A : Option Addr} {vs : List Value} (h : Arr w A vs) (k : Nat) : Arr (w.drewN k) A vs := fun hne => by
  obtain ⟨b, o, e, hlt, hc⟩ := h hne
  exact ⟨b, o, e, hlt, hc⟩

theorem Arr.own {w : World} {base : Nat} {e : TypeId} {A : Option Addr} {n c : Nat} {vs : List Value} (h : w.ownsRow base e 1 (.slice A n c) n vs) : vs.length = n ∧ Arr w A vs := by
  have hl : vs.length = n := by have := h.1; omega
  refine ⟨hl, fun hne => ?_⟩
  have hn : 0 < n := by rw [← hl]; exact List.length_pos_iff.2 hne
  obtain ⟨g, cap, hv, _, hlt⟩ := h.form (by omega)
  have hA : A = some ⟨g, 0, none⟩ := by injection hv
  refine ⟨g, 0, hA, hlt, fun j u hu => ?_⟩
  subst hA
  have := h.cells (g := g) rfl j u hu
  have e0 : (⟨g, 0, none⟩ : Addr).add j = ⟨g, 0 + j, none⟩ := by
    rcases Nat.eq_zero_or_pos j with hj | hj
    · subst hj; rfl
    · simp [Addr.add, Nat.ne_of_gt hj]
  rw [← e0]; exact this

/-- The list's own elements, in the walk's spelling. -/
theorem Arr.at_ {w : World} {A : Option Addr} {f : Int → Value} {xs : List Int} (h : Arr w A (xs.map f)) (hne : xs ≠ []) :
    ∃ b o, A = some ⟨b, o, none⟩ ∧ b < w.heap.size ∧ ∀ j, j < xs.length → w.cell? ⟨b, o + j, none⟩ = some (f (xs[j]?.getD 0)) := by
  obtain ⟨b, o, e, hlt, hc⟩ := h (by simpa using hne)
  exact ⟨b, o, e, hlt, fun j hj => hc j _ (by rw [List.getElem?_map, List.getElem?_eq_getElem hj]; rfl)⟩

theorem Arr.tail {w : World} {b o : Nat} {v : Value} {vs : List Value} (h : Arr w (some ⟨b, o, none⟩) (v :: vs)) : Arr w (some ⟨b, o + 1, none⟩) vs := fun _ => by
  obtain ⟨b', o', e, hlt, hc⟩ := h (by simp)
  simp only [Option.some.injEq, Addr.mk.injEq] at e
  obtain ⟨rfl, rfl, _⟩ := e
  exact ⟨_, _, rfl, hlt, fun j u hu => by rw [Nat.add_assoc, Nat.add_comm 1 j]; exact hc (j + 1) u (by simpa using hu)⟩

/-- .. the cells lie in a block from base on. -/
def ArrF (w : World) (base : Nat) (A : Option Addr) (vs : List Value) : Prop :=
  vs ≠ [] → ∃ b o, A = some ⟨b, o, none⟩ ∧ base ≤ b ∧ b < w.heap.size ∧ ∀ j u, vs[j]? = some u → w.cell? ⟨b, o + j, none⟩ = some u
/-- .. the cells lie in another block than X. -/
def ArrX (w : World) (X : Option Nat) (A : Option Addr) (vs : List Value) : Prop :=
  vs ≠ [] → ∃ b o, A = some ⟨b, o, none⟩ ∧ some b ≠ X ∧ b < w.heap.size ∧ ∀ j u, vs[j]? = some u → w.cell? ⟨b, o + j, none⟩ = some u

theorem ArrF.arr {w : World} {base : Nat} {A : Option Addr} {vs : List Value} (h : ArrF w base A vs) : Arr w A vs := fun hne => by
  obtain ⟨b, o, e, _, hlt, hc⟩ := h hne; exact ⟨b, o, e, hlt, hc⟩
theorem ArrX.arr {w : World} {X : Option Nat} {A : Option Addr} {vs : List Value} (h : ArrX w X A vs) : Arr w A vs := fun hne => by
  obtain ⟨b, o, e, _, hlt, hc⟩ := h hne; exact ⟨b, o, e, hlt, hc⟩
theorem ArrF.apart {w : World} {base : Nat} {X : Option Nat} {A : Option Addr} {vs : List Value} (h : ArrF w base A vs) (hX : ∀ g, X = some g → g < base) : ArrX w X A vs := fun hne => by
  obtain ⟨b, o, e, hb, hlt, hc⟩ := h hne
  exact ⟨b, o, e, fun h' => by have := hX b h'.symm; omega, hlt, hc⟩
theorem Arr.apart {w : World} {X : Option Nat} {A : Option Addr} {vs : List Value} (h : Arr w A vs) (hX : ∀ g, X = some g → w.heap.size ≤ g) : ArrX w X A vs := fun hne => by
  obtain ⟨b, o, e, hlt, hc⟩ := h hne
  exact ⟨b, o, e, fun h' => by have := hX b h'.symm; omega, hlt, hc⟩
theorem ArrX.grown {w w' : World} {X Y : Option Nat} {A : Option Addr} {vs : List Value} (h : ArrX w X A vs) (hg : w.grownBy w' X) (hY : Y = X ∨ ∀ g, Y = some g → w.heap.size ≤ g) : ArrX w' Y A vs := fun hne => by
  obtain ⟨b, o, e, hX, hlt, hc⟩ := h hne
  refine ⟨b, o, e, ?_, Nat.lt_of_lt_of_le hlt hg.size, fun j u hu => (World.cell?_of_block (hg.block b hlt hX)).trans (hc j u hu)⟩
  rcases hY with rfl | hY
  · exact hX
  · intro h'; have := hY b h'.symm; omega
theorem ArrX.keep {w w' : World} {X : Option Nat} {A : Option Addr} {vs : List Value} (h : ArrX w X A vs) (hb : Below w.heap.size w w') : ArrX w' X A vs := fun hne => by
  obtain ⟨b, o, e, hX, hlt, hc⟩ := h hne
  exact ⟨b, o, e, hX, Nat.lt_of_lt_of_le hlt hb.size, fun j u hu => (hb.cell (p := ⟨b, o + j, none⟩) hlt).trans (hc j u hu)⟩

theorem ArrF.set {w : World} {base : Nat} {A : Option Addr} {vs : List Value} (h : ArrF w base A vs) {p : Addr} (hp : p.block < base) (u : Value) : ArrF (w.setCell p u) base A vs := fun hne => by
  obtain ⟨b, o, e, hb, hlt, hc⟩ := h hne
  exact ⟨b, o, e, hb, by simpa using hlt, fun j v hv => (World.cell?_setCell_far w p ⟨b, o + j, none⟩ u (by simp; omega)).trans (hc j v hv)⟩
theorem ArrF.mono {w : World} {base base' : Nat} {A : Option Addr} {vs : List Value} (h : ArrF w base A vs) (hb' : base' ≤ base) : ArrF w base' A vs := fun hne => by
  obtain ⟨b, o, e, hb, hlt, hc⟩ := h hne
  exact ⟨b, o, e, Nat.le_trans hb' hb, hlt, hc⟩
theorem ArrF.keep {w w' : World} {base : Nat} {A : Option Addr} {vs : List Value} (h : ArrF w base A vs) (hb : Below w.heap.size w w') : ArrF w' base A vs := fun hne => by
  obtain ⟨b, o, e, hB, hlt, hc⟩ := h hne
  exact ⟨b, o, e, hB, Nat.lt_of_lt_of_le hlt hb.size, fun j u hu => (hb.cell (p := ⟨b, o + j, none⟩) hlt).trans (hc j u hu)⟩

/-- What an owned row is: its length, its capacity, its cells. -/
theorem row_forms {w : World} {base : Nat} {e : TypeId} {v : Value} {n : Nat} {vs : List Value} (h : w.ownsRow base e 1 v n vs) :
    ∃ A c, v = .slice A n c ∧ n ≤ c ∧ vs.length = n ∧ ArrF w base A vs ∧ (∀ g, v.ownBlock = some g → base ≤ g ∧ g < w.heap.size) := by
  have hl : vs.length = n := by have := h.1; omega
  rcases h.2 with ⟨rfl, hn⟩ | ⟨g, cap, cur, hv, hb, hg, hnc, _⟩
  · have hvs : vs = [] := List.eq_nil_of_length_eq_zero (by omega)
    subst hn
    subst hvs
    exact ⟨none, 0, rfl, Nat.le_refl _, rfl, fun h' => absurd rfl h', fun g hg => by simp [Value.ownBlock] at hg⟩
  · have hlt : g < w.heap.size := by
      rcases Nat.lt_or_ge g w.heap.size with hlt | hge
      · exact hlt
      · rw [Array.getElem?_eq_none hge] at hg; cases hg
    refine ⟨some ⟨g, 0, none⟩, cap, hv, hnc, hl, fun _ => ⟨g, 0, rfl, hb, hlt, fun j u hu => ?_⟩, fun g' hg' => ?_⟩
    · subst hv
      have hj : j < n := by have := (List.getElem?_eq_some_iff.1 hu).1; omega
      rw [Nat.zero_add, h.cellAt j (by omega)]
      exact hu
    · subst hv
      have : g = g' := by simpa [Value.ownBlock] using hg'
      subst this
      exact ⟨hb, hlt⟩

end Sl
end Go.Proofs.YtiebhlmjpnhepaaDoor
