/- What the library's functions on texts return: numbers as texts, texts as numbers, a text cut at a slash; the package variables that they read stay as they were. -/
import Derived.Test.YtajpklacaaegcaaGreatDoorF7
import Derived.Lib.AppendIntMem
import Derived.Lib.AtoiAllCases
import Derived.Lib.CutLaws
namespace Go.Proofs.YtajpklacaaegcaaGreatDoor
open Go.RowKit Go.Shelf Go.Sort
namespace Fr
set_option linter.unusedVariables false

/-- The package variables that the library reads hold what they were laid with. -/
structure Vars (w : World) : Prop where
  pow : Lib.TabIs Tryz.prog w "internal/strconv.uint64pow10" .u64 Lib.pow10Tab
  range : ∃ tp p, w.var? Tryz.prog "strconv.ErrRange" = some #[.iface tp p]
  syn : ∃ tp p, w.var? Tryz.prog "strconv.ErrSyntax" = some #[.iface tp p]

theorem var_keep {P : Program} {w w' : World} {name : String} {cs : Array Value} (h : w.var? P name = some cs) (hb : Below w.heap.size w w') : w'.var? P name = some cs := by
  unfold World.var? at *
  cases hg : P.globalNamed name with
  | none => rw [hg] at h; cases h
  | some g =>
    rw [hg] at h
    simp only [Option.bind_some] at h ⊢
    have hlt : g < w.heap.size := by
      rcases Nat.lt_or_ge g w.heap.size with h' | h'
      · exact h'
      · rw [Array.getElem?_eq_none h'] at h; cases h
    rw [hb.block g hlt]
    exact h
theorem Vars.keep {w w' : World} (h : Vars w) (hb : Below w.heap.size w w') : Vars w' :=
  ⟨var_keep h.pow hb, let ⟨tp, p, hv⟩ := h.range; ⟨tp, p, var_keep hv hb⟩, let ⟨tp, p, hv⟩ := h.syn; ⟨tp, p, var_keep hv hb⟩⟩

theorem itoa_any (n : Int) (w : World) (hn : I64 n) (hv : Vars w) : Calls Tryz.prog 51 #[.int .i64 n] w fun o w' => o = .returned (.string ⟨(Lib.itoa n).toArray⟩) ∧ Below w.heap.size w w' := by
  refine (Tryz.strconv_Itoa n hn.1 hn.2 w hv.pow).mono ?_
  rintro o w' ⟨rfl, k, os, rfl⟩
  exact ⟨rfl, Lib.below_grow _ w (Nat.le_refl _) k os⟩

/-- The number that Atoi hands back, beside an error or not. -/
def atoiV (l : List UInt8) : Int := match Lib.atoiAll l with
  | .ok v => v
  | .range => Lib.atoiSat l
  | _ => 0

theorem atoiV_i64 (l : List UInt8) : I64 (atoiV l) := by
  unfold atoiV
  split
  · rename_i v h
    exact Lib.atoiAll_bounds h
  · unfold Lib.atoiSat I64; split <;> omega
  · unfold I64; omega

/-- A call hands back a number and some error, and changes nothing that was there. -/
def RetN (v : Int) (w : World) (o : Ending) (w' : World) : Prop := ∃ ev : Value, o = .returned (.tuple #[.int .i64 v, ev]) ∧ Below w.heap.size w w'

theorem atoi_any (s : ByteArray) (w : World) (hs : s.size ≤ 281474976710656) (hv : Vars w) : Calls Tryz.prog 68 #[.string s] w (RetN (atoiV s.data.toList) w) := by
  unfold atoiV
  cases h : Lib.atoiAll s.data.toList
  · rename_i v
    refine (Tryz.strconv_Atoi_ok s (by omega) v h w).mono ?_
    rintro o w' ⟨rfl, hw⟩
    refine ⟨_, rfl, ?_⟩
    rcases hw with rfl | ⟨t, rfl⟩
    · exact Below.refl _ _
    · exact Lib.bytesWorld_below _ _ _
  · obtain ⟨tp, p, hvar⟩ := hv.syn
    refine (Tryz.strconv_Atoi_no_var s hs (by rw [h]; intro v e; cases e) (by rw [h]; intro e; cases e) tp p w hvar).mono ?_
    rintro o w' ⟨N, rfl, _, _, hb⟩
    exact ⟨_, rfl, hb⟩
  · obtain ⟨tp, p, hvar⟩ := hv.range
    refine (Tryz.strconv_Atoi_range_var s hs h tp p w hvar).mono ?_
    rintro o w' ⟨N, rfl, _, _, hb⟩
    exact ⟨_, rfl, hb⟩

/-- A text, cut at its first slash. -/
def cutL (l : List UInt8) : List UInt8 × List UInt8 × Bool := Lib.cut l [47]

set_option maxHeartbeats 1000000 in
theorem icut_any (s : ByteArray) (w : World) (hs : s.size ≤ 281474976710656) :
    Calls Tryz.prog 75 #[.string s, .string ⟨#[47]⟩] w fun o w' => o = .returned (.tuple #[.string ⟨(cutL s.data.toList).1.toArray⟩, .string ⟨(cutL s.data.toList).2.1.toArray⟩, .bool (cutL s.data.toList).2.2]) ∧ ∃ n, w' = w.drewN n := by
  have HI := Lib.hid (fun W => Tryz.stringslite_Index_one s 47 W)
  rw [← Lib.index_one] at HI
  rcases Lib.indexB_cases s ⟨#[47]⟩ with hix | ⟨i, hix, hroom⟩
  · obtain ⟨e1, e2, e3⟩ := Lib.cutB_miss s ⟨#[47]⟩ hix
    have e1 : (⟨(cutL s.data.toList).1.toArray⟩ : ByteArray) = s := e1
    have e2 : (⟨(cutL s.data.toList).2.1.toArray⟩ : ByteArray) = ByteArray.empty := e2
    have e3 : (cutL s.data.toList).2.2 = false := e3
    rw [e1, e2, e3]
    change Lib.index s.data.toList [47] = -1 at hix
    rw [hix] at HI
    clear e1 e2 e3 hix
    go_enter Tryz.func75, Tryz.ntmps75
    go_wp2_with fail
    refine (HI.out _).mono ?_
    rintro o w' ⟨rfl, rfl⟩
    go_wp2
    go_ret3
    exact ⟨rfl, 0, rfl⟩
  · obtain ⟨e1, e2, e3⟩ := Lib.cutB_hit s ⟨#[47]⟩ i hix
    have e1 : (⟨(cutL s.data.toList).1.toArray⟩ : ByteArray) = s.extract 0 i := e1
    have e2 : (⟨(cutL s.data.toList).2.1.toArray⟩ : ByteArray) = s.extract (i + 1) s.size := e2
    have e3 : (cutL s.data.toList).2.2 = true := e3
    have hroom : i + 1 ≤ s.size := hroom
    rw [e1, e2, e3]
    change Lib.index s.data.toList [47] = i at hix
    rw [hix] at HI
    have c1 : (0 : Int) ≤ ↑i := by omega
    have c2 : (↑i : Int) ≤ ↑s.size := by omega
    have c3 : (0 : Int) ≤ ↑i + 1 := by omega
    have c4 : (↑i + 1 : Int) ≤ ↑s.size := by omega
    clear e1 e2 e3 hix
    go_enter Tryz.func75, Tryz.ntmps75
    go_wp2_with fail
    refine (HI.out _).mono ?_
    rintro o w' ⟨rfl, rfl⟩
    go_wp2
    go_region
    go_wp2
    go_ret3
    exact ⟨rfl, 1, rfl⟩

theorem cut_any (s : ByteArray) (w : World) (hs : s.size ≤ 281474976710656) :
    Calls Tryz.prog 67 #[.string s, .string ⟨#[47]⟩] w fun o w' => o = .returned (.tuple #[.string ⟨(cutL s.data.toList).1.toArray⟩, .string ⟨(cutL s.data.toList).2.1.toArray⟩, .bool (cutL s.data.toList).2.2]) ∧ Below w.heap.size w w' := by
  have HI := Lib.hid (fun W => icut_any s W hs)
  go_enter Tryz.func67, Tryz.ntmps67
  go_wp2_with fail
  refine (HI.out _).mono ?_
  rintro o w' ⟨rfl, n, rfl⟩
  go_wp2
  go_ret3
  exact ⟨rfl, drewN_below _ _⟩

end Fr
end Go.Proofs.YtajpklacaaegcaaGreatDoor
