/- Lists of nodes and of edges as slices: the words for what the functions of package digraph take and return. -/
import Derived.Test.YtmdleoadodcljaaZ8
import Derived.Test.YtmdleoadodcljaaK2
import Derived.Test.YtmdleoadodcljaaL8
import Derived.WalkKit
import Derived.WalkSpells
import Derived.WalkLawsBesides
import Derived.WalkSmall
import Derived.Lib.Hide
import Derived.BigQuiet
import Derived.Outline
import Derived.Deep.AppendLies
import Derived.Deep.CutBlock
import Derived.Deep.LoopGhost
import Derived.Lib.ItoaNum
import Derived.Deep.RegionHeld3
import Derived.Deep.DrawnRows
import Derived.Deep.DeepCutAuto
namespace Go.Proofs.Ytmdleoadodcljaa
open Go.RowKit Sl Fr
namespace Gp
set_option linter.unusedVariables false

/-- Nodes as cells. -/
def nv (l : List Nat) : List Value := l.map fun (v : Nat) => Value.int .i64 v
theorem nv_length (l : List Nat) : (nv l).length = l.length := by simp [nv]
theorem nv_append (l m : List Nat) : nv (l ++ m) = nv l ++ nv m := by simp [nv]
theorem nv_get {l : List Nat} {j : Nat} {v : Nat} (h : l[j]? = some v) : (nv l)[j]? = some (.int .i64 (v : Int)) := by simp [nv, h]
/-- The slice at A reads as l; its cells lie in a block from base on. -/
def Row (w : World) (base : Nat) (A : Option Addr) (l : List Nat) : Prop := ArrF w base A (nv l)
theorem Row.keep {w w' : World} {base : Nat} {A : Option Addr} {l : List Nat} (h : Row w base A l) (hb : Below w.heap.size w w') : Row w' base A l := ArrF.keep h hb
theorem Row.mono {w : World} {base base' : Nat} {A : Option Addr} {l : List Nat} (h : Row w base A l) (hb : base' ≤ base) : Row w base' A l := ArrF.mono h hb
theorem Row.nil (w : World) (base : Nat) (A : Option Addr) : Row w base A [] := fun h => absurd rfl h
theorem Row.open {w : World} {base : Nat} {A : Option Addr} {l : List Nat} (h : Row w base A l) : ∃ b o, l ≠ [] → A = some ⟨b, o, none⟩ ∧ base ≤ b ∧ b < w.heap.size ∧ ∀ j v : Nat, l[j]? = some v → w.cell? ⟨b, o + j, none⟩ = some (.int .i64 (v : Int)) := by
  by_cases hl : l = []
  · exact ⟨0, 0, fun h' => absurd hl h'⟩
  · obtain ⟨b, o, h1, h2, h3, h4⟩ := h (by simpa [nv] using hl)
    exact ⟨b, o, fun _ => ⟨h1, h2, h3, fun j v hv => h4 j _ (nv_get hv)⟩⟩
theorem Row.own {w : World} {base : Nat} {e : TypeId} {v : Value} {n : Nat} {l : List Nat} (h : w.ownsRow base e 1 v n (nv l)) : ∃ A c, v = .slice A n c ∧ n ≤ c ∧ l.length = n ∧ Row w base A l := by
  obtain ⟨A, c, h1, h2, h3, h4, _⟩ := row_forms h
  exact ⟨A, c, h1, h2, by simpa [nv] using h3, h4⟩

/-- A list of nodes is given back. -/
def GiveN (W : World) (l : List Nat) (e : Ending) (w' : World) : Prop := ∃ A c, e = .returned (.slice A l.length c) ∧ l.length ≤ c ∧ Row w' W.heap.size A l ∧ Below W.heap.size W w'

/-- Edges as pairs of integers. -/
def natE (es : Dgr.Edges) : List (Int × Int) := es.map fun e => ((e.1 : Int), (e.2 : Int))
theorem natE_length (es : Dgr.Edges) : (natE es).length = es.length := by simp [natE]
theorem natE_get {es : Dgr.Edges} {i u v : Nat} (h : es[i]? = some (u, v)) : (natE es)[i]? = some ((u : Int), (v : Int)) := by simp [natE, h]
def EdgesA (w : World) (A : Option Addr) (es : Dgr.Edges) : Prop := ArrP w A (natE es)
theorem EdgesA.keep {w w' : World} {A : Option Addr} {es : Dgr.Edges} (h : EdgesA w A es) (hb : Below w.heap.size w w') : EdgesA w' A es := ArrP.keep h hb
theorem ArrP.open {w : World} {A : Option Addr} {es : List (Int × Int)} (h : ArrP w A es) : ∃ b o, es ≠ [] → A = some ⟨b, o, none⟩ ∧ b < w.heap.size ∧ ∀ (i : Nat) (u v : Int), es[i]? = some (u, v) → w.cell? ⟨b, o + i * 2, none⟩ = some (.int .i64 u) ∧ w.cell? ⟨b, o + i * 2 + 1, none⟩ = some (.int .i64 v) := by
  by_cases hl : es = []
  · exact ⟨0, 0, fun h' => absurd hl h'⟩
  · obtain ⟨b, o, h1⟩ := ArrP.at h hl
    exact ⟨b, o, fun _ => h1⟩
theorem EdgesA.open {w : World} {A : Option Addr} {es : Dgr.Edges} (h : EdgesA w A es) : ∃ b o, es ≠ [] → A = some ⟨b, o, none⟩ ∧ b < w.heap.size ∧ ∀ (i : Nat) (u v : Nat), es[i]? = some (u, v) → w.cell? ⟨b, o + i * 2, none⟩ = some (.int .i64 (u : Int)) ∧ w.cell? ⟨b, o + i * 2 + 1, none⟩ = some (.int .i64 (v : Int)) := by
  obtain ⟨b, o, h1⟩ := ArrP.open h
  exact ⟨b, o, fun hne => by
    obtain ⟨h2, h3, h4⟩ := h1 (by simpa [natE] using hne)
    exact ⟨h2, h3, fun i u v hv => h4 i _ _ (natE_get hv)⟩⟩

theorem ret_bool {a b : Bool} (h : a = b) : Ending.returned (.bool a) = .returned (.bool b) := by rw [h]
theorem ret_num {a b : Int} (h : a = b) : Ending.returned (.int .i64 a) = .returned (.int .i64 b) := by rw [h]
theorem get_lt {α : Type} {l : List α} {j : Nat} {v : α} (h : l[j]? = some v) : j < l.length := (List.getElem?_eq_some_iff.1 h).1
theorem get_ex {α : Type} {l : List α} {j : Nat} (h : j < l.length) : ∃ v, l[j]? = some v := ⟨_, List.getElem?_eq_getElem h⟩
theorem take_snoc {α : Type} {l : List α} {j : Nat} {v : α} (h : l[j]? = some v) : l.take (j + 1) = l.take j ++ [v] := by
  rw [List.take_add_one, h]; rfl
theorem infoInt : (Try.prog.info? 3).map (fun i => (i.zero, i.size, i.bytes)) = some (some (.int .i64 0), 1, 8) := by kernel_rfl
theorem infoBool : (Try.prog.info? 4).map (fun i => (i.zero, i.size, i.bytes)) = some (some (.bool false), 1, 1) := by kernel_rfl
theorem infoRow : (Try.prog.info? 26).map (fun i => (i.zero, i.size, i.bytes)) = some (some (.slice none 0 0), 1, 24) := by kernel_rfl
theorem infoEdge : (Try.prog.info? 48).map (fun i => (i.zero, i.size, i.bytes)) = some (some (.agg #[.int .i64 0, .int .i64 0]), 2, 16) := by kernel_rfl

end Gp
end Go.Proofs.Ytmdleoadodcljaa
