/- The law's own (small (by simp)) functions over Apply. -/
import Derived.Test.YtjfijhchnchfcaaW7
namespace Go.Proofs.Ytjfijhchnchfcaa
open Go.RowKit Sl Fr
namespace Bt
set_option linter.unusedVariables false
set_option linter.unusedSimpArgs false

/-- The value of an operation, -1 if it is not valid. -/
def lawV (op : Int) (ws : List Int) (k n : Int) (vs : List Int) : Int := if wid op ws k n ≠ 0 ∧ okA vs ws = true then (val op.toNat ws k n (vs.map Int.toNat) : Int) else -1
theorem law_ap (op : Int) (ws : List Int) (k n : Int) (vs : List Int) : (apE op ws k n vs = 0 ∧ apV op ws k n vs = lawV op ws k n vs) ∨ (apE op ws k n vs = 1 ∧ lawV op ws k n vs = -1) := by
  unfold apE apV lawV
  by_cases h : wid op ws k n ≠ 0 ∧ okA vs ws = true
  · exact .inl ⟨if_pos h, (if_pos h).trans (if_pos h).symm⟩
  · exact .inr ⟨if_neg h, if_neg h⟩
theorem arr_box {W : World} {b : Nat} {l : List Int} (h : BoxL W b (l.map (Value.int .i64)).toArray) : ArrI W (some ⟨b, 0, none⟩) l := fun hne => ⟨b, 0, rfl, h.lt, fun j u hu => by
  rw [Nat.zero_add]
  exact (h.cells j u (by simpa using hu)).1⟩
theorem arr1 {W : World} {b : Nat} {x : Int} (h : BoxL W b #[.int .i64 x]) : ArrI W (some ⟨b, 0, none⟩) [x] := arr_box h
theorem arr2 {W : World} {b : Nat} {x y : Int} (h : BoxL W b #[.int .i64 x, .int .i64 y]) : ArrI W (some ⟨b, 0, none⟩) [x, y] := arr_box h
theorem arr3 {W : World} {b : Nat} {x y z : Int} (h : BoxL W b #[.int .i64 x, .int .i64 y, .int .i64 z]) : ArrI W (some ⟨b, 0, none⟩) [x, y, z] := arr_box h
theorem small {n : Nat} (h : n ≤ 1000) : n ≤ maxLen := by unfold maxLen; omega

set_option maxRecDepth 100000 in
theorem lapply_any (op : Int) (A : Option Addr) (c : Nat) (ws : List Int) (A' : Option Addr) (c' : Nat) (vs : List Int) (w : World) (hA : ArrI w A ws) (hlen : ws.length ≤ maxLen) (hA' : ArrI w A' vs) (hlen' : vs.length ≤ maxLen) :
    Calls Try.prog 23 #[.int .i64 op, .slice A ws.length c, .slice A' vs.length c'] w fun e w' => e = .returned (.int .i64 (lawV op ws 0 0 vs)) ∧ Below w.heap.size w w' := by
  obtain ⟨m, B⟩ := start1 w #[.int .i64 0, .int .i64 0] 3
  have H := apply_two op A c ws A' c' vs _ 2 0 0 _ (hA.keep B) hlen (hA'.keep B) hlen' (arr2 m) (by omega)
  have HX := Lib.hid (law_ap op ws 0 0 vs)
  have HH := Lib.hid H
  clear H hA hA' hlen hlen' m
  generalize apV op ws 0 0 vs = v at *
  generalize apE op ws 0 0 vs = er at *
  generalize lawV op ws 0 0 vs = lv at *
  go_enter Try.func23, Try.ntmps23
  rcases HX.out with ⟨rfl, rfl⟩ | ⟨rfl, rfl⟩
  · go_wp2_with fail
    refine HH.out.mono ?_
    rintro e w' ⟨rfl, hb⟩
    go_wp2_with fail
    go_ret
    exact ⟨rfl, B.trans (hb.mono B.size)⟩
  · go_wp2_with fail
    refine HH.out.mono ?_
    rintro e w' ⟨rfl, hb⟩
    go_wp2_with fail
    go_ret
    exact ⟨rfl, B.trans (hb.mono B.size)⟩

set_option maxRecDepth 100000 in
theorem two_any (op n x y : Int) : Does 22 #[.int .i64 op, .int .i64 n, .agg #[.int .i64 x, .int .i64 y]] (.int .i64 (lawV op [n, n] 0 0 [x, y])) := by
  intro w
  obtain ⟨m0, m1, m2, B⟩ := start3 w #[.int .i64 x, .int .i64 y] #[.int .i64 n, .int .i64 n] #[.int .i64 x, .int .i64 y] 23 3 3
  have HH := Lib.hid (lapply_any op _ 2 [n, n] _ 2 [x, y] _ (arr2 m1) (small (by simp)) (arr2 m2) (small (by simp)))
  clear m0 m1 m2
  generalize lawV op [n, n] 0 0 [x, y] = v at *
  go_enter Try.func22, Try.ntmps22
  go_wp2_with fail
  refine HH.out.mono ?_
  rintro e w' ⟨rfl, hb⟩
  go_wp2_with fail
  go_ret
  exact ⟨rfl, B.trans (hb.mono B.size)⟩

set_option maxRecDepth 100000 in
theorem cat_any (p q x y : Int) : Does 24 #[.agg #[.int .i64 p, .int .i64 q], .agg #[.int .i64 x, .int .i64 y]] (.int .i64 (lawV 11 [p, q] 0 0 [x, y])) := by
  intro w
  obtain ⟨m0, m1, m2, m3, B⟩ := start4 w #[.int .i64 p, .int .i64 q] #[.int .i64 x, .int .i64 y] #[.int .i64 p, .int .i64 q] #[.int .i64 x, .int .i64 y] 23 23 3 3
  have HH := Lib.hid (lapply_any 11 _ 2 [p, q] _ 2 [x, y] _ (arr2 m2) (small (by simp)) (arr2 m3) (small (by simp)))
  clear m0 m1 m2 m3
  generalize lawV 11 [p, q] 0 0 [x, y] = v at *
  go_enter Try.func24, Try.ntmps24
  go_wp2_with fail
  refine HH.out.mono ?_
  rintro e w' ⟨rfl, hb⟩
  go_wp2_with fail
  go_ret
  exact ⟨rfl, B.trans (hb.mono B.size)⟩

set_option maxRecDepth 100000 in
theorem slice_any (x n k m : Int) (hm : -9223372036854775808 ≤ m ∧ m ≤ 9223372036854775807) : Does 25 #[.int .i64 x, .int .i64 n, .agg #[.int .i64 k, .int .i64 m]] (.int .i64 (lawV 12 [n] k m [x])) := by
  intro w
  obtain ⟨m0, m1, m2, m3, B⟩ := start4 w #[.int .i64 k, .int .i64 m] #[.int .i64 n] #[.int .i64 x] #[.int .i64 k, .int .i64 m] 23 3 3 3
  have HH := Lib.hid (apply_two 12 _ 1 [n] _ 1 [x] _ 2 k m _ (arr1 m1) (small (by simp)) (arr1 m2) (small (by simp)) (arr2 m3) hm)
  have HX := Lib.hid (law_ap 12 [n] k m [x])
  clear m0 m1 m2 m3 hm
  generalize apV 12 [n] k m [x] = v at *
  generalize apE 12 [n] k m [x] = er at *
  generalize lawV 12 [n] k m [x] = lv at *
  go_enter Try.func25, Try.ntmps25
  rcases HX.out with ⟨rfl, rfl⟩ | ⟨rfl, rfl⟩
  · go_wp2_with fail
    refine HH.out.mono ?_
    rintro e w' ⟨rfl, hb⟩
    go_wp2_with fail
    go_ret
    exact ⟨rfl, B.trans (hb.mono B.size)⟩
  · go_wp2_with fail
    refine HH.out.mono ?_
    rintro e w' ⟨rfl, hb⟩
    go_wp2_with fail
    go_ret
    exact ⟨rfl, B.trans (hb.mono B.size)⟩

set_option maxRecDepth 100000 in
theorem extended_any (x n m : Int) (hm : -9223372036854775808 ≤ m ∧ m ≤ 9223372036854775807) : Does 26 #[.int .i64 x, .int .i64 n, .int .i64 m] (.int .i64 (lawV 13 [n] 0 m [x])) := by
  intro w
  obtain ⟨m0, m1, m2, B⟩ := start3 w #[.int .i64 n] #[.int .i64 x] #[.int .i64 0, .int .i64 m] 3 3 3
  have HH := Lib.hid (apply_two 13 _ 1 [n] _ 1 [x] _ 2 0 m _ (arr1 m0) (small (by simp)) (arr1 m1) (small (by simp)) (arr2 m2) hm)
  have HX := Lib.hid (law_ap 13 [n] 0 m [x])
  clear m0 m1 m2 hm
  generalize apV 13 [n] 0 m [x] = v at *
  generalize apE 13 [n] 0 m [x] = er at *
  generalize lawV 13 [n] 0 m [x] = lv at *
  go_enter Try.func26, Try.ntmps26
  rcases HX.out with ⟨rfl, rfl⟩ | ⟨rfl, rfl⟩
  · go_wp2_with fail
    refine HH.out.mono ?_
    rintro e w' ⟨rfl, hb⟩
    go_wp2_with fail
    go_ret
    exact ⟨rfl, B.trans (hb.mono B.size)⟩
  · go_wp2_with fail
    refine HH.out.mono ?_
    rintro e w' ⟨rfl, hb⟩
    go_wp2_with fail
    go_ret
    exact ⟨rfl, B.trans (hb.mono B.size)⟩

end Bt
end Go.Proofs.Ytjfijhchnchfcaa
