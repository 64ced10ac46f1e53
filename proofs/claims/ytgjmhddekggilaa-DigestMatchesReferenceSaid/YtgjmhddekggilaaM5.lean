/- The examples of the chapter, computed. -/
import Derived.Test.YtgjmhddekggilaaM4
namespace Go.Proofs.Ytgjmhddekggilaa
namespace Dg
attribute [local irreducible] joinI stepI wordsI

theorem ex_level : levelI [5, 6, 7] = [joinI 5 6, 7] := by simp [levelI, levelAt, List.range_succ]
theorem ex_level2 (a b : Int) : levelI [a, b] = [joinI a b] := by simp [levelI, levelAt, List.range_succ]
theorem ex_path2 : pathT [5, 6, 7] 2 = [joinI 5 6] := by
  rw [pathT_step _ _ (by simp), ex_level, pathT_step _ _ (by simp), ex_level2, pathT_one _ _ (by simp)]
  simp [beside, partnerN]
theorem ex_path0 : pathT [5, 6, 7] 0 = [6, 7] := by
  rw [pathT_step _ _ (by simp), ex_level, pathT_step _ _ (by simp), ex_level2, pathT_one _ _ (by simp)]
  simp [beside, partnerN]
theorem ex_root : rootI [5, 6, 7] = joinI (joinI 5 6) 7 := by
  unfold rootI
  rw [if_neg (by simp), rootT_step _ (by simp), ex_level, rootT_step _ (by simp), ex_level2, rootT_one _ (by simp)]
  rfl
theorem ex_root1 : rootI [5] = 5 := by
  unfold rootI
  rw [if_neg (by simp), rootT_one _ (by simp)]
  rfl
theorem ex_lead (p : List Int) : leadT 3 2 7 p = match p with
    | [] => none
    | x :: q => if q = [] then some (joinI x 7) else none := by
  rw [leadT_step _ _ _ _ (by omega), if_neg (by simp [partnerN])]
  show leadT 2 1 7 p = _
  rw [leadT_step _ _ _ _ (by omega), if_pos (by simp [partnerN])]
  cases p with
  | nil => rfl
  | cons x q =>
    show leadT 1 0 (besideI 7 x (decide (partnerN 1 < 1))) q = _
    rw [leadT_one _ _ _ _ (by omega)]
    have e : decide (partnerN 1 < 1) = true := by simp [partnerN]
    rw [e, ← beside_left]

end Dg
end Go.Proofs.Ytgjmhddekggilaa
