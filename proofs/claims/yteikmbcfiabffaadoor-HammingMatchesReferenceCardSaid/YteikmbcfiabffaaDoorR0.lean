/- For every row of the package: what the listed variables give, the start that fits. -/
import Derived.Test.YteikmbcfiabffaaDoorW3
import Derived.Test.YteikmbcfiabffaaDoorCards
import Derived.Test.YteikmbcfiabffaaDoorTie
import Derived.WalkKit
import Derived.ProofKit
import Derived.OpenShut
import Derived.LaidMore
import Derived.Stop.LaidErr
import Derived.Lib.LaidU8
import Derived.RowKit3
namespace Go.Proofs.YteikmbcfiabffaaDoor
open Go.ChangeShapes Go.WideShapes Go.ChangeAt Go.RowKit
namespace Hm
set_option linter.unusedVariables false

theorem own : ownKnob Tryd.prog.godebug = none := by kernel_rfl
theorem laidOut : laidOutB Tryd.prog = true := by kernel_rfl

theorem gTab : Tryd.prog.globalNamed "math/bits.deBruijn64tab" = some 1 := by kernel_rfl
theorem tTab : (Tryd.prog.globals[1]?).map (·.type) = some 51 := by kernel_rfl
theorem gChk : Tryd.prog.globalNamed "wireloom/hamming.checks" = some 0 := by kernel_rfl
theorem tChk : (Tryd.prog.globals[0]?).map (·.type) = some 49 := by kernel_rfl
theorem cells64 : Tryd.prog.cellsOf 51 = 64 := by kernel_rfl
theorem cells8 : Tryd.prog.cellsOf 5 = 1 := by kernel_rfl
theorem cells7 : Tryd.prog.cellsOf 49 = 7 := by kernel_rfl
theorem cellsI : Tryd.prog.cellsOf 3 = 1 := by kernel_rfl

theorem tabIs {w : World} {name : String} {k : IntKind} {zs : List Int} {g : Nat} {t e : TypeId} {n : Nat} (hg : Tryd.prog.globalNamed name = some g) (ht : (Tryd.prog.globals[g]?).map (·.type) = some t)
    (hu : Tryd.prog.underlying t = some (.array n e)) (hk : Tryd.prog.underlying e = some (.int k)) (hce : Tryd.prog.cellsOf e = 1) (hct : Tryd.prog.cellsOf t = n)
    (h : Lib.VarReads Tryd.prog w name (Lib.tabData k zs)) : Lib.TabIs Tryd.prog w name k zs := by
  obtain ⟨g', t', cs, fuel, p, h1, h2, h3, h4⟩ := h
  obtain rfl := Option.some.inj (hg.symm.trans h1)
  obtain rfl := Option.some.inj (ht.symm.trans h2)
  have := Lib.cells_of_tab hu hk hce hct h4
  unfold Lib.TabIs
  exact h3.trans (congrArg some (Array.toList_inj.1 (this.trans (List.toList_toArray ..).symm)))

/-- A variable that holds these integers: its block. -/
theorem block_of {w : World} {name : String} {k : IntKind} {zs : List Int} {g : Nat} (hg : Tryd.prog.globalNamed name = some g) (h : Lib.TabIs Tryd.prog w name k zs) :
    ∃ t fr, w.heap[g]? = some (.cells (zs.map fun z => Value.int k z).toArray t fr) := by
  unfold Lib.TabIs World.var? at h
  rw [hg] at h
  simp only [Option.bind_some] at h
  split at h
  · rename_i cs t fr hb
    obtain rfl := Option.some.inj h
    exact ⟨t, fr, hb⟩
  · cases h

/-- The list of the rows. -/
def laidList : List (String × DataW Unit) := [("math/bits.deBruijn64tab", Rows.laid_math_bits_deBruijn64tab), ("wireloom/hamming.checks", Rows.laid_wireloom_hamming_checks)]

theorem vars_of {w : World} (h : laidMet Tryd.prog laidList w) : Vars w := by
  have h1 : Lib.VarReads Tryd.prog w "math/bits.deBruijn64tab" (Lib.tabData .u8 (Lib.deBruijn64tab.map Int.ofNat)) := by
    rw [show (Lib.tabData .u8 (Lib.deBruijn64tab.map Int.ofNat) : DataW Unit) = Rows.laid_math_bits_deBruijn64tab by kernel_rfl]
    exact Lib.laidMet.reads h (by simp [laidList])
  have h2 : Lib.VarReads Tryd.prog w "wireloom/hamming.checks" (Lib.tabData .i64 [0, 1, 2, 4, 8, 16, 32]) :=
    Lib.laidMet.reads h (n := "wireloom/hamming.checks") (d := Rows.laid_wireloom_hamming_checks) (by simp [laidList])
  have t1 := tabIs gTab tTab Tryd.underlying51 Tryd.underlying5 cells8 cells64 h1
  have t2 := tabIs gChk tChk Tryd.underlying49 Tryd.underlying3 cellsI cells7 h2
  refine ⟨fun j hj => ?_, block_of gChk t2⟩
  have := t1.cell gTab j (by simpa using hj)
  simpa [List.getD, hj] using this

theorem vars_ofH {w : World} (h : laidMetH Tryd.prog laidList w) : Vars w := by
  rw [MakeChecks.laidMetH_plain _ _ _ (by kernel_rfl)] at h
  exact vars_of h

/-- The door's own heap meets the list. -/
theorem door_met (os : Os) (args : Array Value) : laidMetH Tryd.prog laidList ((World.doorLaid Tryd.prog 400 os).forCall (fun _ _ => 0) ⟨#[], args, []⟩).memory :=
  laidMetH_of_parts3 (fuel := 8) (laidMet_of_run' 8 (by kernel_rfl) (by kernel_rfl)) (by kernel_rfl) (by kernel_rfl)

end Hm
end Go.Proofs.YteikmbcfiabffaaDoor
