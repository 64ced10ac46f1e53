/- The chapter's examples. -/
import Derived.Test.YtjfijhchnchfcaaWA
namespace Go.Proofs.Ytjfijhchnchfcaa
open Go.RowKit Sl Fr
namespace Bt
set_option linter.unusedVariables false
set_option linter.unusedSimpArgs false

theorem GiveB.arr {W : World} {l : List Bool} {A : Option Addr} {w' : World} (h : ArrF w' W.heap.size A (l.map Value.bool)) : ArrB w' A l := ArrF.arr h
theorem arrB_box {W : World} {b : Nat} {l : List Bool} (h : BoxL W b (l.map Value.bool).toArray) : ArrB W (some ⟨b, 0, none⟩) l := fun hne => ⟨b, 0, rfl, h.lt, fun j u hu => by
  rw [Nat.zero_add]
  exact (h.cells j u (by simpa using hu)).1⟩
set_option maxRecDepth 100000 in
set_option maxHeartbeats 2000000 in
theorem examples_any : Does 9 #[] (.bool true) := by
  intro w
  have H1 := Lib.hid ((two_any 6 4 9 8).eq (u := .int .i64 1) (by rw [show lawV 6 [4, 4] 0 0 [9, 8] = 1 by decide +kernel]))
  have H2 := Lib.hid ((two_any 7 4 3 5).eq (u := .int .i64 14) (by rw [show lawV 7 [4, 4] 0 0 [3, 5] = 14 by decide +kernel]))
  have H3 := Lib.hid ((two_any 9 4 3 5).eq (u := .int .i64 1) (by rw [show lawV 9 [4, 4] 0 0 [3, 5] = 1 by decide +kernel]))
  have H4 := Lib.hid ((cat_any 2 3 2 5).eq (u := .int .i64 21) (by rw [show lawV 11 [2, 3] 0 0 [2, 5] = 21 by decide +kernel]))
  have H5 := Lib.hid ((slice_any 21 5 3 2 (by omega)).eq (u := .int .i64 2) (by rw [show lawV 12 [5] 3 2 [21] = 2 by decide +kernel]))
  have H6 := Lib.hid ((extended_any 5 3 8 (by omega)).eq (u := .int .i64 5) (by rw [show lawV 13 [3] 0 8 [5] = 5 by decide +kernel]))
  have H7 := Lib.hid ((two_any 6 4 16 0).eq (u := .int .i64 (-1)) (by rw [show lawV 6 [4, 4] 0 0 [16, 0] = -1 by decide +kernel]))
  go_enter Try.func9, Try.ntmps9
  go_upto_region 1 with fail
  refine wp_region_plain ?_
  repeat (go_big_quiet_step ((first | (go_at_call 22; first | with_reducible exact later_of (H1.out.at _) | with_reducible exact later_of (H2.out.at _) | with_reducible exact later_of (H3.out.at _)) | (go_at_call 24; with_reducible exact later_of (H4.out.at _)) | (go_at_call 25; with_reducible exact later_of (H5.out.at _)) | (go_at_call 26; with_reducible exact later_of (H6.out.at _)))))
  refine wpQuiet_nil ?_
  intro _ hw'
  obtain ⟨z, hw''⟩ := hw'
  subst hw''
  have B1 := z.below
  clear H1 H2 H3 H4 H5 H6
  generalize z.val = W1 at *
  go_wp2_with fail
  obtain ⟨m1, hb1⟩ := start1 W1 #[.int .i64 2, .int .i64 3] 3
  have hw1 := width_any 11 _ 2 [2, 3] 0 0 _ (arr2 m1) (small (by simp)) (by omega)
  rw [show wid 11 [2, 3] 0 0 = 5 by decide +kernel, show err 5 = 0 by decide +kernel] at hw1
  clear m1
  refine hw1.mono ?_
  rintro e W2 ⟨rfl, hc1⟩
  have B2 := B1.trans ((hb1.trans (hc1.mono hb1.size)).mono B1.size)
  clear hw1 hb1 hc1 B1
  go_wp2_with fail
  obtain ⟨m2, hb2⟩ := start1 W2 #[.int .i64 5, .int .i64 4] 3
  have hw2 := width_any 11 _ 2 [5, 4] 0 0 _ (arr2 m2) (small (by simp)) (by omega)
  rw [show wid 11 [5, 4] 0 0 = 0 by decide +kernel, show err 0 = 1 by decide +kernel] at hw2
  clear m2
  refine hw2.mono ?_
  rintro e W3 ⟨rfl, hc2⟩
  have B3 := B2.trans ((hb2.trans (hc2.mono hb2.size)).mono B2.size)
  clear hw2 hb2 hc2 B2
  go_wp2_with fail
  have hm := mask_any 3 W3
  rw [show mask 3 = 7 by decide +kernel] at hm
  refine hm.mono ?_
  rintro e w' ⟨rfl, rfl⟩
  clear hm
  go_wp2_with fail
  have hs := split_any 6 4 W3
  rw [show splI 6 4 = [false, true, true, false] by decide +kernel] at hs
  refine hs.mono ?_
  rintro e W4 ⟨A, c, rfl, hc1, hc2, harr, hnil, hb4⟩
  clear hs
  have B4 := B3.trans (hb4.mono B3.size)
  simp only [List.length_cons, List.length_nil, Nat.zero_add, Nat.reduceAdd]
  go_wp2_with fail
  have m5 := BoxL.new W4 #[.bool false, .bool true, .bool true, .bool false] 4
  have hb5 := (Below.refl W4.heap.size W4).alloc (Nat.le_refl _) (.cells #[.bool false, .bool true, .bool true, .bool false] 4)
  have hB5 := bools_any A [false, true, true, false] c _ [false, true, true, false] 4 _ ((GiveB.arr harr).keep hb5) (small (by simp)) (arrB_box (l := [false, true, true, false]) m5) (small (by simp))
  have B5 := B4.trans (hb5.mono B4.size)
  rw [decide_eq_true rfl] at hB5
  refine hB5.mono ?_
  rintro e W6 ⟨rfl, hb6⟩
  have B6 := B5.trans (hb6.mono B5.size)
  clear hB5 m5 hb5 harr hnil hb4 B3 B4 B5 hb6 hc1 hc2
  go_wp2_with fail
  have m7 := BoxL.new W6 #[.bool true, .bool false, .bool true] 4
  have hb7 := (Below.refl W6.heap.size W6).alloc (Nat.le_refl _) (.cells #[.bool true, .bool false, .bool true] 4)
  have hj := join_any _ [true, false, true] 3 _ (arrB_box (l := [true, false, true]) m7) (fun h => by cases h) (by simp) (small (by simp))
  rw [show joi [true, false, true] = 5 by decide +kernel] at hj
  have B7 := B6.trans (hb7.mono B6.size)
  refine hj.mono ?_
  rintro e W8 ⟨rfl, rfl⟩
  clear hj m7 hb7
  generalize W6.alloc (.cells #[.bool true, .bool false, .bool true] 4) = W7 at *
  clear B6
  go_wp2_with fail
  refine (H7.out.at _).mono ?_
  rintro e W9 ⟨rfl, hb9⟩
  have B9 := B7.trans (hb9.mono B7.size)
  go_wp2_with fail
  go_ret
  exact ⟨rfl, B9⟩

end Bt
end Go.Proofs.Ytjfijhchnchfcaa
