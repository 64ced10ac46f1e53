/- For every row of the package: what the listed variables give, the start that fits, arguments opened. -/
import Derived.Test.YtggeepimihhpjaaGreatDoorUA
import Derived.Test.YtggeepimihhpjaaGreatDoorCards
import Derived.Test.YtggeepimihhpjaaGreatDoorTie
import Derived.Test.YtggeepimihhpjaaGreatDoorL0
import Derived.WalkKit
import Derived.ProofKit
import Derived.OpenShut
import Derived.LaidMore
import Derived.Stop.LaidErr
import Derived.Lib.LaidU8
import Derived.Lib.LaidTab
import Derived.RowKit3
import Derived.ChangeArms
namespace Go.Proofs.YtggeepimihhpjaaGreatDoor
open Go.ChangeShapes Go.WideShapes Go.ChangeAt Go.RowKit Sl Fr Lx
namespace Sy
set_option linter.unusedVariables false

theorem gSg : Tryz.prog.globalNamed "wireloom/lexer.signs" = some 0 := by kernel_rfl
theorem tSg : (Tryz.prog.globals[0]?).map (·.type) = some 190 := by kernel_rfl
theorem cellsS : Tryz.prog.cellsOf 9 = 1 := by kernel_rfl
theorem cells23 : Tryz.prog.cellsOf 190 = 23 := by kernel_rfl

theorem cells_of_texts {H : Type} {enc : TypeId × Value → H} {P : Program} {w : World} {base : Nat} {sp : Nat → Bool} {held : Bool} {fuel : Nat} {t e : TypeId} {n : Nat} {cs : List Value} {zs : List By} {p : List MemPlace}
    (ht : P.underlying t = some (.array n e)) (he : P.underlying e = some .string) (hce : P.cellsOf e = 1) (hct : P.cellsOf t = n)
    (h : DataW.trod enc P w base sp held fuel t cs = some (.agg (zs.map fun z => .lit (.string z)), p)) : cs = zs.map strV := by
  obtain ⟨xs, m, _, hx, hl, hxl, hel⟩ := DataW.trod_array ht h
  have hxs : xs.map (·.1) = zs.map fun z => (DataW.lit (.string z) : DataW H) := by
    have := congrArg Prod.fst hx
    simpa using this.symm
  have hzl : zs.length = n := by
    have := congrArg List.length hxs
    simp at this
    omega
  rw [hct] at hl
  apply List.ext_getElem?
  intro i
  by_cases hi : i < n
  · have h1 := hel i hi
    rw [hce, Nat.mul_one, List.getElem?_eq_getElem (by omega)] at h1
    obtain ⟨s, hc, hy, _⟩ := DataW.trod_string he h1
    have h2 : cs[i]? = some (.string s) := by
      have := congrArg (·[0]?) hc
      simpa [List.getElem?_take, List.getElem?_drop] using this
    have h3 : (xs.map (·.1))[i]? = some (DataW.lit (.string s.data.toList) : DataW H) := by
      rw [List.getElem?_map, List.getElem?_eq_getElem (by omega), hy]; rfl
    rw [hxs, List.getElem?_map] at h3
    cases hz : zs[i]? with
    | none => rw [hz] at h3; cases h3
    | some z =>
      rw [hz] at h3
      simp only [Option.map_some, Option.some.injEq, DataW.lit.injEq, Lit.string.injEq] at h3
      rw [h2, List.getElem?_map, hz, h3]
      unfold strV
      simp
  · rw [List.getElem?_eq_none (by omega), List.getElem?_eq_none (by simp; omega)]

theorem gPow : Tryz.prog.globalNamed "internal/strconv.uint64pow10" = some 4 := by kernel_rfl
theorem tPow : (Tryz.prog.globals[4]?).map (·.type) = some 251 := by kernel_rfl
theorem gRange : Tryz.prog.globalNamed "strconv.ErrRange" = some 3 := by kernel_rfl
theorem tRange : (Tryz.prog.globals[3]?).map (·.type) = some 137 := by kernel_rfl
theorem gSyn : Tryz.prog.globalNamed "strconv.ErrSyntax" = some 2 := by kernel_rfl
theorem tSyn : (Tryz.prog.globals[2]?).map (·.type) = some 137 := by kernel_rfl
theorem cells97 : Tryz.prog.cellsOf 251 = 20 := by kernel_rfl
theorem cells51 : Tryz.prog.cellsOf 238 = 1 := by kernel_rfl

theorem iface_of {P : Program} {w : World} {fuel : Nat} {t : TypeId} {ms : Array (String × TypeId)} {cs : List Value} {nm : String} {d : DataW Unit} {p : List MemPlace}
    (ht : P.underlying t = some (.interface ms)) (h : DataW.trod (fun _ => ()) P w 0 (fun _ => true) false fuel t cs = some (.iface nm d, p)) : ∃ u v, cs = [.iface u v] := by
  cases fuel with
  | zero => simp [DataW.trod] at h
  | succ fuel =>
    unfold DataW.trod at h
    rw [ht] at h
    split at h <;> first
      | exact ⟨_, _, rfl⟩
      | (simp_all; done)
      | cases h

theorem var_iface {w : World} {n nm : String} {d : DataW Unit} {g : Nat} {t : TypeId} {ms : Array (String × TypeId)} (hg : Tryz.prog.globalNamed n = some g) (ht : (Tryz.prog.globals[g]?).map (·.type) = some t)
    (hu : Tryz.prog.underlying t = some (.interface ms)) (h : Lib.VarReads Tryz.prog w n (.iface nm d)) : ∃ tp p, w.var? Tryz.prog n = some #[.iface tp p] := by
  obtain ⟨g', t', cs, fuel, p, h1, h2, h3, h4⟩ := h
  obtain rfl := Option.some.inj (hg.symm.trans h1)
  obtain rfl := Option.some.inj (ht.symm.trans h2)
  obtain ⟨u, v, hc⟩ := iface_of hu h4
  refine ⟨u, v, ?_⟩
  exact h3.trans (congrArg some (Array.toList_inj.1 hc))

theorem var_tab {w : World} (h : Lib.VarReads Tryz.prog w "internal/strconv.uint64pow10" Rows.laid_internal_strconv_uint64pow10) : Lib.TabIs Tryz.prog w "internal/strconv.uint64pow10" .u64 Lib.pow10Tab := by
  obtain ⟨g', t', cs, fuel, p, h1, h2, h3, h4⟩ := h
  obtain rfl := Option.some.inj (gPow.symm.trans h1)
  obtain rfl := Option.some.inj (tPow.symm.trans h2)
  have e : (Rows.laid_internal_strconv_uint64pow10 : DataW Unit) = Lib.tabData .u64 Lib.pow10Tab := by kernel_rfl
  rw [e] at h4
  have := Lib.cells_of_tab Tryz.underlying251 Tryz.underlying238 cells51 cells97 h4
  unfold Lib.TabIs
  exact h3.trans (congrArg some (Array.toList_inj.1 (this.trans (List.toList_toArray ..).symm)))

def laidList : List (String × DataW Unit) := [("math/bits.deBruijn32tab", Rows.laid_math_bits_deBruijn32tab), ("math/bits.deBruijn64tab", Rows.laid_math_bits_deBruijn64tab), ("internal/strconv.uint64pow10", Rows.laid_internal_strconv_uint64pow10), ("strconv.ErrRange", Rows.laid_strconv_ErrRange), ("strconv.ErrSyntax", Rows.laid_strconv_ErrSyntax), ("wireloom/lexer.signs", Rows.laid_wireloom_lexer_signs)]

theorem varsC_of {w : World} (h : laidMet Tryz.prog laidList w) : VarsC w :=
  ⟨var_tab (Lib.laidMet.reads h (by simp [laidList])), var_iface gRange tRange Tryz.underlying137 (Lib.laidMet.reads h (n := "strconv.ErrRange") (d := Rows.laid_strconv_ErrRange) (by simp [laidList])), var_iface gSyn tSyn Tryz.underlying137 (Lib.laidMet.reads h (n := "strconv.ErrSyntax") (d := Rows.laid_strconv_ErrSyntax) (by simp [laidList]))⟩
theorem varsC_ofH {w : World} (h : laidMetH Tryz.prog laidList w) : VarsC w := by
  rw [MakeChecks.laidMetH_plain _ _ _ (by kernel_rfl)] at h
  exact varsC_of h

theorem vars_of {w : World} (h : laidMet Tryz.prog laidList w) : Vars w := by
  have h1 : Lib.VarReads Tryz.prog w "wireloom/lexer.signs" (.agg (tabS.map fun z => .lit (.string z))) :=
    Lib.laidMet.reads h (n := "wireloom/lexer.signs") (d := Rows.laid_wireloom_lexer_signs) (by simp [laidList])
  obtain ⟨g', t', cs, fuel, p, q1, q2, q3, q4⟩ := h1
  obtain rfl := Option.some.inj (gSg.symm.trans q1)
  obtain rfl := Option.some.inj (tSg.symm.trans q2)
  have hcs := cells_of_texts Tryz.underlying190 Tryz.underlying9 cellsS cells23 q4
  unfold World.var? at q3
  rw [gSg] at q3
  simp only [Option.bind_some] at q3
  split at q3
  · rename_i cs' t fr hb
    obtain rfl := Option.some.inj q3
    refine ⟨t, fr, ?_⟩
    rw [hb, ← hcs]
  · cases q3

theorem vars_ofH {w : World} (h : laidMetH Tryz.prog laidList w) : Vars w := by
  rw [MakeChecks.laidMetH_plain _ _ _ (by kernel_rfl)] at h
  exact vars_of h

theorem glob_lt {name : String} {g : Nat} (h : Tryz.prog.globalNamed name = some g) : g < 7 := by
  unfold Program.globalNamed at h
  split at h
  · rename_i g' hg
    injection h with h
    subst h
    have hm : g' ∈ (List.range Tryz.prog.globals.size).filter fun g => (Tryz.prog.globals[g]?).any (·.name == name) := by rw [hg]; simp
    have := List.mem_range.1 (List.mem_filter.1 hm).1
    rwa [show Tryz.prog.globals.size = 7 by kernel_rfl] at this
  · cases h
theorem vg_ofH {w : World} (h : laidMetH Tryz.prog laidList w) : VG w := ⟨vars_ofH h, varsC_ofH h, fun g name hn => by
  rw [MakeChecks.laidMetH_plain _ _ _ (by kernel_rfl)] at h
  obtain ⟨g', t', cs, fuel, p, h1, h2, h3, h4⟩ := Lib.laidMet.reads h (n := "math/bits.deBruijn64tab") (d := Rows.laid_math_bits_deBruijn64tab) (by simp [laidList])
  have hg := glob_lt hn
  have h6 : Tryz.prog.globalNamed "math/bits.deBruijn64tab" = some 6 := by kernel_rfl
  unfold World.var? at h3
  rw [h6] at h3
  simp only [Option.bind_some] at h3
  split at h3
  · rename_i hb
    have := (Array.getElem?_eq_some_iff.1 hb).1
    omega
  · cases h3⟩

theorem door_met (os : Os) (args : Array Value) : laidMetH Tryz.prog laidList ((World.doorLaid Tryz.prog 400 os).forCall (fun _ _ => 0) ⟨#[], args, []⟩).memory :=
  laidMetH_of_parts3 (fuel := 8) (laidMet_of_run' 8 (by kernel_rfl) (by kernel_rfl)) (by kernel_rfl) (by kernel_rfl)

end Sy
end Go.Proofs.YtggeepimihhpjaaGreatDoor
