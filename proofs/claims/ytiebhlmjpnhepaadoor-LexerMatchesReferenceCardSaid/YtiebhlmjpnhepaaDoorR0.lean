/- For every row of the package: what the listed variable gives, the start that fits; bytes as they come in. -/
import Derived.Test.YtiebhlmjpnhepaaDoorWF
import Derived.Test.YtiebhlmjpnhepaaDoorCards
import Derived.Test.YtiebhlmjpnhepaaDoorTie
import Derived.WalkKit
import Derived.ProofKit
import Derived.OpenShut
import Derived.LaidMore
import Derived.Stop.LaidErr
import Derived.Lib.LaidU8
import Derived.Lib.LaidTab
import Derived.RowKit3
import Derived.ChangeArms
namespace Go.Proofs.YtiebhlmjpnhepaaDoor
open Go.ChangeShapes Go.WideShapes Go.ChangeAt Go.RowKit Sl Fr
namespace Lx
set_option linter.unusedVariables false

theorem gSg : Tryd.prog.globalNamed "wireloom/lexer.signs" = some 0 := by kernel_rfl
theorem tSg : (Tryd.prog.globals[0]?).map (·.type) = some 73 := by kernel_rfl
theorem cellsS : Tryd.prog.cellsOf 9 = 1 := by kernel_rfl
theorem cells23 : Tryd.prog.cellsOf 73 = 23 := by kernel_rfl

/-- The cells of a table of texts. -/
theorem cells_of_texts {H : Type} {enc : TypeId × Value → H} {P : Program} {w : World} {base : Nat} {sp : Nat → Bool} {held : Bool} {fuel : Nat} {t e : TypeId} {n : Nat} {cs : List Value} {zs : List By} {p : List MemPlace}
    (ht : P.underlying t = some (.array n e)) (he : P.underlying e = some .string) (hce : P.cellsOf e = 1) (hct : P.cellsOf t = n)
    (h : DataW.trod enc P w base sp held fuel t cs = some (.agg (zs.map fun z => .lit (.string z)), p)) : cs = zs.map strV := by
  obtain ⟨xs, m, _, hx, hl, hxl, hel⟩ := DataW.trod_array ht h
  have hxs : xs.map (·.1) = zs.map fun z => (DataW.lit (.string z) : DataW H) := by
    have := congrArg Prod.fst hx
    simpa using this.symm
  have hzl : zs.length = n := by
    have := congrArg List.length hxs
    simp at this
    omega
  rw [hct] at hl
  apply List.ext_getElem?
  intro i
  by_cases hi : i < n
  · have h1 := hel i hi
    rw [hce, Nat.mul_one, List.getElem?_eq_getElem (by omega)] at h1
    obtain ⟨s, hc, hy, _⟩ := DataW.trod_string he h1
    have h2 : cs[i]? = some (.string s) := by
      have := congrArg (·[0]?) hc
      simpa [List.getElem?_take, List.getElem?_drop] using this
    have h3 : (xs.map (·.1))[i]? = some (DataW.lit (.string s.data.toList) : DataW H) := by
      rw [List.getElem?_map, List.getElem?_eq_getElem (by omega), hy]; rfl
    rw [hxs, List.getElem?_map] at h3
    cases hz : zs[i]? with
    | none => rw [hz] at h3; cases h3
    | some z =>
      rw [hz] at h3
      simp only [Option.map_some, Option.some.injEq, DataW.lit.injEq, Lit.string.injEq] at h3
      rw [h2, List.getElem?_map, hz, h3]
      unfold strV
      simp
  · rw [List.getElem?_eq_none (by omega), List.getElem?_eq_none (by simp; omega)]

/-- The list of the rows. -/
def laidList : List (String × DataW Unit) := [("wireloom/lexer.signs", Rows.laid_wireloom_lexer_signs)]

theorem vars_of {w : World} (h : laidMet Tryd.prog laidList w) : Vars w := by
  have h1 : Lib.VarReads Tryd.prog w "wireloom/lexer.signs" (.agg (tabS.map fun z => .lit (.string z))) :=
    Lib.laidMet.reads h (n := "wireloom/lexer.signs") (d := Rows.laid_wireloom_lexer_signs) (by simp [laidList])
  obtain ⟨g', t', cs, fuel, p, q1, q2, q3, q4⟩ := h1
  obtain rfl := Option.some.inj (gSg.symm.trans q1)
  obtain rfl := Option.some.inj (tSg.symm.trans q2)
  have hcs := cells_of_texts Tryd.underlying73 Tryd.underlying9 cellsS cells23 q4
  unfold World.var? at q3
  rw [gSg] at q3
  simp only [Option.bind_some] at q3
  split at q3
  · rename_i cs' t fr hb
    obtain rfl := Option.some.inj q3
    refine ⟨t, fr, ?_⟩
    rw [hb, ← hcs]
  · cases q3

theorem vars_ofH {w : World} (h : laidMetH Tryd.prog laidList w) : Vars w := by
  rw [MakeChecks.laidMetH_plain _ _ _ (by kernel_rfl)] at h
  exact vars_of h

/-- The door's own heap meets the list. -/
theorem door_met (os : Os) (args : Array Value) : laidMetH Tryd.prog laidList ((World.doorLaid Tryd.prog 400 os).forCall (fun _ _ => 0) ⟨#[], args, []⟩).memory :=
  laidMetH_of_parts3 (fuel := 8) (laidMet_of_run' 8 (by kernel_rfl) (by kernel_rfl)) (by kernel_rfl) (by kernel_rfl)

/-- Bytes as a row gives them. -/
theorem bytA_of {W : World} {A : Option Addr} {l : List Int} (hA : Arr W A (l.map (Value.int .u8))) (hw : ∀ x ∈ l, 0 ≤ x ∧ x ≤ 255) : ∃ ns : List Nat, ns.length = l.length ∧ BytA W A ns := by
  refine ⟨l.map Int.toNat, by simp, ?_, fun n hn => ?_⟩
  · have e : (l.map Int.toNat).map (fun (n : Nat) => Value.int .u8 (n : Int)) = l.map (Value.int .u8) := by
      rw [List.map_map]
      apply List.map_congr_left
      intro x hx
      have := hw x hx
      show Value.int .u8 ((x.toNat : Nat) : Int) = Value.int .u8 x
      rw [Int.toNat_of_nonneg this.1]
    rw [e]
    exact hA
  · obtain ⟨x, hx, rfl⟩ := List.mem_map.1 hn
    have := hw x hx
    omega

end Lx
end Go.Proofs.YtiebhlmjpnhepaaDoor
