/- What the statements' walks share: worlds that come later, arguments that are read. -/
import Derived.Test.YtgjmhddekggilaaD5
import Derived.Test.YtgjmhddekggilaaE1
import Derived.Test.YtgjmhddekggilaaM6
import Derived.Deep.Quiet
import Derived.BigQuiet
import Derived.ProofKit
import Derived.OpenShut
import Derived.ShutString
import Derived.ChangeOld
namespace Go.Proofs.Ytgjmhddekggilaa
open Go.RowKit
namespace Dg

/-- A world in which all that lay in w lies as it lay. -/
structure Later (w : World) where
  val : World
  below : Below w.heap.size w val

instance (w : World) : Inhabited (Later w) := ⟨⟨w, Below.refl _ _⟩⟩

theorem Later.cell {w : World} {a : Addr} {v : Value} (hc : w.cell? a = some v) (hb : a.block < w.heap.size) (p : Later w) : p.val.cell? a = some v := (p.below.cell hb).trans hc
theorem Later.arr {w : World} {A : Option Addr} {vs : List Value} (h : Arr w A vs) (p : Later w) : Arr p.val A vs := h.keep p.below

theorem wp_region_later {P : Program} {id : Nat} {Q : Exit → Act → World → Prop} {a : Act} {w : World} {l : List Oper} (hm : P.follows .mixedOrders = true) (hB : Region.lexB .any l.toArray = true)
    (h : wpQuiet P l.toArray (fun w' => ∃ p : Later w, w' = p.val) (fun a' => ∀ w', (∃ p : Later w, w' = p.val) → Q .normal a' w') l a) : (Code.region id l.toArray true).wp P Q a w :=
  wp_region_quiet (C := fun w' => ∃ p : Later w, w' = p.val) hm hB ⟨⟨w.drew, (Below.refl _ w).drew⟩, rfl⟩ (by simpa using h)

theorem later_of {P : Program} {f : FuncId} {args : Array Value} {w : World} {p : Later w} {v : Value} (h : Calls P f args p.val fun e w' => e = .returned v ∧ Below p.val.heap.size p.val w') :
    Calls P f args p.val fun e w'' => e = .returned v ∧ ∃ q : Later w, w'' = q.val :=
  h.mono fun _ w' ⟨he, hb⟩ => ⟨he, ⟨w', p.below.trans (hb.mono p.below.size)⟩, rfl⟩

theorem field_no (w : World) : (Instr.field 42 (.agg #[.slice none 0 0, .int .i64 1]) 1).run Try.prog w = .ok (.int .i64 1) w := by kernel_rfl

/-- What the walk is told of a slice of integers that came in. -/
def IsRow (k : IntKind) (w : World) (a : Option Addr) (len cap : Nat) (zs : List Int) : Prop :=
  (a = none ∧ len = 0 ∧ cap = 0 ∧ zs = []) ∨
  ∃ x, a = some x ∧ len ≤ cap ∧ cap ≤ maxLen ∧ zs.length = cap ∧ (∀ i, i < zs.length → w.cell? (x.add i) = some (.int k (zs.getD i 0))) ∧ ∀ n ∈ zs, (Lit.int k n).wf = true

/-- Its elements as a list. -/
structure RowIs (k : IntKind) (w : World) (A : Option Addr) (len cap : Nat) (l : List Int) : Prop where
  hlen : l.length = len
  hcap : len ≤ cap
  arr : Arr w A (l.map (Value.int k))
  nil : A = none → cap = 0 ∧ l = []
  wf : ∀ x ∈ l, (Lit.int k x).wf = true
  big : len ≤ maxLen

theorem IsRow.list {k : IntKind} {w : World} {a : Option Addr} {len cap : Nat} {zs : List Int} (h : IsRow k w a len cap zs) : ∃ l, RowIs k w a len cap l := by
  rcases h with ⟨rfl, rfl, rfl, rfl⟩ | ⟨x, rfl, hl, hm, hz, hcell, hwf⟩
  · exact ⟨[], rfl, Nat.le_refl _, Arr.nil _ _, fun _ => ⟨rfl, rfl⟩, by simp, by unfold maxLen; omega⟩
  · refine ⟨zs.take len, by simp; omega, hl, fun hne => ?_, fun h => (by cases h), fun y hy => hwf y (List.mem_of_mem_take hy), by omega⟩
    have hpos : 0 < zs.length := by
      rcases Nat.eq_zero_or_pos zs.length with h0 | h0
      · rw [List.length_eq_zero_iff] at h0
        subst h0
        simp at hne
      · exact h0
    obtain ⟨b, off, spot⟩ := x
    have hc := hcell 0 hpos
    have hspot : spot = none := by simpa [Addr.add] using World.cell?_spot hc
    subst hspot
    refine ⟨b, off, rfl, World.block_lt_of_cell? w _ hc, fun j u hu => ?_⟩
    rw [List.getElem?_map] at hu
    have hj : j < (zs.take len).length := by
      rcases Nat.lt_or_ge j (zs.take len).length with h | h
      · exact h
      · rw [List.getElem?_eq_none h] at hu; cases hu
    rw [List.getElem?_eq_getElem hj] at hu
    have hj' : j < len ∧ j < zs.length := by simp at hj; omega
    have h2 := hcell j hj'.2
    have e0 : (⟨b, off, none⟩ : Addr).add j = ⟨b, off + j, none⟩ := by
      rcases Nat.eq_zero_or_pos j with hj0 | hj0
      · subst hj0; rfl
      · simp [Addr.add, Nat.ne_of_gt hj0]
    rw [e0] at h2
    rw [h2, ← hu]
    simp [List.getD, hj'.2]

theorem RowIs.range {w : World} {A : Option Addr} {len cap : Nat} {l : List Int} (h : RowIs .u64 w A len cap l) : ∀ x ∈ l, R x := fun x hx => by
  have := bounds_u64 (h.wf x hx)
  unfold R
  omega

end Dg
end Go.Proofs.Ytgjmhddekggilaa
