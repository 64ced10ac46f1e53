/- The reference's Components: what its loops keep. -/
import Derived.Test.YtmdleoadodcljaaY3
import Derived.Test.YtmdleoadodcljaaGJ
namespace Go.Proofs.Ytmdleoadodcljaa
open Go.RowKit Sl Fr
namespace Gp
set_option linter.unusedVariables false

theorem reachL_contains {n : Nat} {es : Dgr.Edges} {v u : Nat} (hu : u < n) : (Dgr.reachL n es v).contains u = true ↔ Dgr.Rch es v u := by
  rw [List.contains_iff_mem, Dgr.reachL, Dgr.mem_those]
  exact ⟨fun h => h.2, fun h => ⟨hu, h⟩⟩
/-- The nodes of v's class among the first k; v is the least. -/
noncomputable def clsTo (es : Dgr.Edges) (v k : Nat) : List Nat := Dgr.those k (Dgr.Both es v)
theorem clsTo_start {es : Dgr.Edges} {v : Nat} (h : Lead es v) : clsTo es v v = [] := by
  refine List.eq_nil_iff_forall_not_mem.2 fun x hx => ?_
  obtain ⟨h1, h2⟩ := Dgr.mem_those.1 hx
  exact h x h1 h2
theorem clsTo_yes {es : Dgr.Edges} {v u : Nat} (h : Dgr.Both es v u) : clsTo es v (u + 1) = clsTo es v u ++ [u] := those_succ_yes h
theorem clsTo_no {es : Dgr.Edges} {v u : Nat} (h : ¬ Dgr.Both es v u) : clsTo es v (u + 1) = clsTo es v u := those_succ_no h
theorem clsTo_all (n : Nat) (es : Dgr.Edges) (v : Nat) : clsTo es v n = Dgr.classL n es v := rfl
theorem clsTo_len (es : Dgr.Edges) (v k : Nat) : (clsTo es v k).length ≤ k := those_len _ _
theorem both_iff {n : Nat} {es : Dgr.Edges} {v u : Nat} (hv : v < n) (hu : u < n) : Dgr.Both es v u ↔ ((Dgr.reachL n es v).contains u = true ∧ (Dgr.reachL n es u).contains v = true) := by
  rw [reachL_contains hu, reachL_contains hv]
  rfl
/-- The lists of the first k nodes. -/
noncomputable def rchTo (n : Nat) (es : Dgr.Edges) (k : Nat) : List (List Nat) := (List.range k).map (Dgr.reachL n es)
theorem rchTo_succ (n : Nat) (es : Dgr.Edges) (k : Nat) : rchTo n es (k + 1) = rchTo n es k ++ [Dgr.reachL n es k] := by
  rw [rchTo, List.range_succ, List.map_append]
  rfl
theorem rchTo_len (n : Nat) (es : Dgr.Edges) (k : Nat) : (rchTo n es k).length = k := by rw [rchTo, List.length_map, List.length_range]
theorem rchTo_get {n : Nat} {es : Dgr.Edges} {k v : Nat} (h : v < k) : (rchTo n es k)[v]? = some (Dgr.reachL n es v) := by
  rw [rchTo, List.getElem?_map, List.getElem?_range h]
  rfl

end Gp
end Go.Proofs.Ytmdleoadodcljaa
