/- The examples. -/
import Derived.Test.YtmdleoadodcljaaZC
import Derived.Test.YtmdleoadodcljaaGN
namespace Go.Proofs.Ytmdleoadodcljaa
open Go.RowKit Sl Fr
namespace Gp
set_option linter.unusedVariables false
attribute [local go_sem] field_e

theorem below_alloc3 (w : World) (a b c : Obj) : Below w.heap.size w (((w.alloc a).alloc b).alloc c) := (((Below.refl _ w).alloc (Nat.le_refl _) a).alloc (by simp only [World.size_alloc]; omega) b).alloc (by simp only [World.size_alloc]; omega) c
theorem giveL_some {W w' : World} {l : List Nat} {err : Int} {e : Ending} {b : Option (List Nat)} (h : GiveL W b err e w') (hb : b = some l) : ∃ A c, e = .returned (.agg #[.slice A l.length c, .int .i64 0]) ∧ l.length ≤ c ∧ Row w' W.heap.size A l ∧ Below W.heap.size W w' := by
  obtain ⟨A, m, c, x, h1, h2, h3⟩ := h
  obtain ⟨rfl, h5, h6, rfl⟩ := h2.2 l hb
  exact ⟨A, c, h1, h5, h6, h3⟩
theorem giveL_none {W w' : World} {err : Int} {e : Ending} {b : Option (List Nat)} (h : GiveL W b err e w') (hb : b = none) : e = .returned (.agg #[.slice none 0 0, .int .i64 err]) ∧ Below W.heap.size W w' := by
  obtain ⟨A, m, c, x, h1, h2, h3⟩ := h
  obtain ⟨rfl, rfl, rfl, rfl⟩ := h2.1 hb
  exact ⟨h1, h3⟩
theorem row_lit {W : World} {cs : Array Value} {l : List Nat} {B : Nat} (hB : W.heap.size = B) (h : cs.toList = nv l) : Row (W.alloc (.cells cs 3)) 0 (some ⟨B, 0, none⟩) l := fun _ =>
  ⟨B, 0, rfl, Nat.zero_le _, by simp; omega, fun j u hu => by
    subst hB
    rw [Nat.zero_add, World.cell?_alloc_at cs _ _ j rfl, ← Array.getElem?_toList, h]
    exact hu⟩
theorem dep_some {n : Nat} {es : Dgr.Edges} {b : Option (List Nat)} (h : DepIs n es b) (ok : Dgr.Ok n es) {l : List Nat} (hl : Dgr.orderF n es = some l) {f : Nat → Nat} (hf : Dgr.IsDepth n es f) : b = some ((List.range n).map f) := by
  cases b with
  | none => rw [show Dgr.orderF n es = none from h] at hl; cases hl
  | some d =>
    obtain ⟨g, m, h1, h2, rfl⟩ := h
    have ho := Dgr.orderF_some hl
    refine congrArg some (List.map_congr_left fun v hv => ?_)
    exact h1.unique hf ho.1 ho.2 ok (List.mem_range.1 hv)
theorem dep_none {n : Nat} {es : Dgr.Edges} {b : Option (List Nat)} (h : DepIs n es b) (hl : Dgr.orderF n es = none) : b = none := by
  cases b with
  | none => rfl
  | some d =>
    obtain ⟨g, m, h1, h2, rfl⟩ := h
    rw [hl] at h2; cases h2
theorem cyc_some {es : Dgr.Edges} {b : Option (List Nat)} (h : Dgr.CycIs es b) {l : List Nat} (hl : Dgr.IsLeast es l) : b = some l := Dgr.CycIs.unique h (c := some l) hl
theorem cyc_none {es : Dgr.Edges} {b : Option (List Nat)} (h : Dgr.CycIs es b) (hl : Dgr.Acyclic es) : b = none := Dgr.CycIs.unique h (c := none) hl
theorem rows_lit {W : World} : Rows (((W.alloc (.cells #[.int .i64 0, .int .i64 2, .int .i64 3] 3)).alloc (.cells #[.int .i64 1] 3)).alloc (.cells #[.slice (some ⟨W.heap.size, 0, none⟩) 3 3, .slice (some ⟨W.heap.size + 1, 0, none⟩) 1 1] 26)) 0 (some ⟨W.heap.size + 1 + 1, 0, none⟩) [[0, 2, 3], [1]] := by
  have h1 : Row (W.alloc (.cells #[.int .i64 0, .int .i64 2, .int .i64 3] 3)) 0 (some ⟨W.heap.size, 0, none⟩) [0, 2, 3] := row_lit rfl rfl
  have h2 : Row ((W.alloc (.cells #[.int .i64 0, .int .i64 2, .int .i64 3] 3)).alloc (.cells #[.int .i64 1] 3)) 0 (some ⟨W.heap.size + 1, 0, none⟩) [1] := row_lit (by simp) rfl
  have k1 := (h1.keep ((Below.refl _ _).alloc (Nat.le_refl _) (.cells #[.int .i64 1] 3))).keep ((Below.refl _ _).alloc (Nat.le_refl _) (.cells #[.slice (some ⟨W.heap.size, 0, none⟩) 3 3, .slice (some ⟨W.heap.size + 1, 0, none⟩) 1 1] 26))
  have k2 := h2.keep ((Below.refl _ _).alloc (Nat.le_refl _) (.cells #[.slice (some ⟨W.heap.size, 0, none⟩) 3 3, .slice (some ⟨W.heap.size + 1, 0, none⟩) 1 1] 26))
  refine ⟨[.slice (some ⟨W.heap.size, 0, none⟩) 3 3, .slice (some ⟨W.heap.size + 1, 0, none⟩) 1 1], ⟨rfl, fun v l hl => ?_⟩, fun _ => ⟨W.heap.size + 1 + 1, 0, rfl, Nat.zero_le _, by simp, fun j u hu => ?_⟩⟩
  · match v, hl with
    | 0, hl => cases hl; exact ⟨_, _, rfl, by decide, k1⟩
    | 1, hl => cases hl; exact ⟨_, _, rfl, by decide, k2⟩
    | v + 2, hl => simp at hl
  · rw [Nat.zero_add, World.cell?_alloc_at _ _ _ j (by simp)]
    rw [← Array.getElem?_toList]
    exact hu

set_option maxRecDepth 100000 in
set_option maxHeartbeats 12800000 in
theorem examples_any (w : World) : Calls Try.prog 4 #[] w fun e w' => e = .returned (.bool true) ∧ Below w.heap.size w w' := by
  go_enter Try.func4, Try.ntmps4
  go_upto_region 2 with fail
  have hst := start2 w #[.int .i64 2, .int .i64 0, .int .i64 0, .int .i64 3, .int .i64 1, .int .i64 3] #[.int .i64 4, .slice (some ⟨w.heap.size, 0, none⟩) 3 3] 48 31
  generalize ((w.alloc (.cells #[.int .i64 2, .int .i64 0, .int .i64 0, .int .i64 3, .int .i64 1, .int .i64 3] 48)).alloc (.cells #[.int .i64 4, .slice (some ⟨w.heap.size, 0, none⟩) 3 3] 31)) = X0 at *
  obtain ⟨hS0, hP0, hbX0⟩ := hst
  have hg0 : IsG X0 4 Dgr.ex0 (some ⟨w.heap.size, 0, none⟩) 3 3 := ⟨Dgr.ex0_ok, by decide, rfl, by decide, by decide, fun _ => ⟨w.heap.size, 0, rfl, hS0.lt, fun j u hu => by
    rw [Nat.zero_add]
    refine (hS0.cells j u ?_).1
    rw [← Array.getElem?_toList]
    exact hu⟩, fun h => by cases h⟩
  obtain ⟨p0, p1⟩ := hP0.c2
  go_upto_region 3 with (go_at_call 23; refine (with_any 4 3 3 3 2 _ Dgr.ex0 X0 hg0 (by decide) (by decide) (by decide)).mono ?_; rintro e w1 ⟨A1, m1, c1, rfl, hg1, hb1⟩; obtain rfl : 4 = m1 := hg1.len; obtain ⟨r0, r1⟩ := (hP0.keep hb1).c2)
  have hst := start1 w1 #[.int .i64 4, .slice A1 4 c1] 31
  have hA1 := (Below.refl _ w1).alloc (Nat.le_refl _) (.cells #[.int .i64 4, .slice A1 4 c1] 31)
  have hg0 := (hg0.keep hb1).keep hA1
  have hg1 := hg1.keep hA1
  have hP0 := (hP0.keep hb1).keep hA1
  have hbX1 := (hbX0.trans (hb1.mono hbX0.size)).trans (hA1.mono (by have := hbX0.size; have := hb1.size; omega))
  clear p0 p1 r0 r1 hb1 hA1 hS0
  generalize w1.alloc (.cells #[.int .i64 4, .slice A1 4 c1] 31) = X1 at *
  generalize w1.heap.size = N1 at *
  obtain ⟨p0, p1⟩ := hP0.c2
  go_upto_region 4 with (go_at_call 23; refine (with_any 4 3 3 1 1 _ Dgr.ex0 X1 hg0 (by decide) (by decide) (by decide)).mono ?_; rintro e w2 ⟨A2, m2, c2, rfl, hg2, hb2⟩; obtain rfl : 4 = m2 := hg2.len; obtain ⟨r0, r1⟩ := (hP0.keep hb2).c2)
  have hst2 := start1 w2 #[.int .i64 4, .slice A2 4 c2] 31
  have hA2 := (Below.refl _ w2).alloc (Nat.le_refl _) (.cells #[.int .i64 4, .slice A2 4 c2] 31)
  have hg0 := (hg0.keep hb2).keep hA2
  have hg1 := (hg1.keep hb2).keep hA2
  have hg2 := hg2.keep hA2
  have hP0 := (hP0.keep hb2).keep hA2
  have hP1 := (hst.1.keep hb2).keep hA2
  have hbX2 := (hbX1.trans (hb2.mono hbX1.size)).trans (hA2.mono (by have := hbX1.size; have := hb2.size; omega))
  clear p0 p1 r0 r1 hb2 hA2 hst hbX1 hbX0
  generalize w2.alloc (.cells #[.int .i64 4, .slice A2 4 c2] 31) = X at *
  generalize w2.heap.size = N2 at *
  have L1 := Lib.hid hP0
  have L2 := Lib.hid hP1
  have L3 := Lib.hid hst2.1
  have g0 := Lib.hid hg0
  have g1 := Lib.hid hg1
  have g2 := Lib.hid hg2
  obtain ⟨p0, p1⟩ := hP0.c2
  clear hP0 hP1 hst2 hg0 hg1 hg2
  go_wp2_with (go_at_call 9; refine (orderL_any 4 _ Dgr.ex0 _ _ ((g0.out.keep (Below.refl X.heap.size X)).arr) Dgr.ex0_ok (by decide) (by decide)).mono ?_; rintro e w1 hg1; obtain ⟨A1, c1, rfl, hc1, hr1, hb1⟩ := giveL_some hg1 (Dgr.ex0_order); have hB1 : Below X.heap.size X w1 := ((Below.refl X.heap.size X)).trans (hb1.mono ((Below.refl X.heap.size X)).size); obtain ⟨p1_1, q1_1⟩ := (L1.out.keep hB1).c2)
  go_at_call 8
  refine (alike_any _ _ [1, 2, 0, 3] [1, 2, 0, 3] _ _ _ _ _ _ _ (hr1.keep ((Below.refl _ _).alloc (Nat.le_refl _) _)) (row_lit (l := [1, 2, 0, 3]) rfl rfl) (by decide) (by decide)).mono ?_
  rintro e w2 ⟨rfl, hb2⟩
  have hB2 : Below X.heap.size X w2 := ((hB1.alloc hB1.size _)).trans (hb2.mono ((hB1.alloc hB1.size _)).size)
  obtain ⟨p1_2, q1_2⟩ := (L1.out.keep hB2).c2
  go_wp2_with fail
  go_at_call 13
  refine (depthL_any 4 _ Dgr.ex0 _ _ ((g0.out.keep hB2).arr) Dgr.ex0_ok (by decide) (by decide)).mono ?_
  rintro e w3 ⟨b3, hd3, hg3⟩
  obtain ⟨A3, c3, rfl, hc3, hr3, hb3⟩ := giveL_some (l := [1, 0, 0, 2]) hg3 (dep_some hd3 Dgr.ex0_ok Dgr.ex0_order Dgr.ex0_depth)
  have hB3 : Below X.heap.size X w3 := (hB2).trans (hb3.mono (hB2).size)
  obtain ⟨p1_3, q1_3⟩ := (L1.out.keep hB3).c2
  go_wp2_with fail
  go_at_call 8
  refine (alike_any _ _ [1, 0, 0, 2] [1, 0, 0, 2] _ _ _ _ _ _ _ (hr3.keep ((Below.refl _ _).alloc (Nat.le_refl _) _)) (row_lit (l := [1, 0, 0, 2]) rfl rfl) (by decide) (by decide)).mono ?_
  rintro e w4 ⟨rfl, hb4⟩
  have hB4 : Below X.heap.size X w4 := ((hB3.alloc hB3.size _)).trans (hb4.mono ((hB3.alloc hB3.size _)).size)
  obtain ⟨p1_4, q1_4⟩ := (L1.out.keep hB4).c2
  go_wp2_with fail
  go_at_call 18
  refine (reach_any 4 _ Dgr.ex0 _ 2 _ ((g0.out.keep hB4).arr) Dgr.ex0_ok (by decide) (by decide) (by decide)).mono ?_
  rintro e w5 hg5
  rw [Dgr.ex0_reach] at hg5
  obtain ⟨A5, c5, rfl, hc5, hr5, hb5⟩ := hg5
  have hB5 : Below X.heap.size X w5 := (hB4).trans (hb5.mono (hB4).size)
  obtain ⟨p1_5, q1_5⟩ := (L1.out.keep hB5).c2
  go_wp2_with fail
  go_at_call 17
  refine (same_any _ _ [0, 2, 3] [0, 2, 3] _ _ _ _ _ (hr5.keep ((Below.refl _ _).alloc (Nat.le_refl _) _)) (row_lit (l := [0, 2, 3]) rfl rfl) (by decide) (by decide)).mono ?_
  rintro e w6 ⟨rfl, hb6⟩
  have hB6 : Below X.heap.size X w6 := ((hB5.alloc hB5.size _)).trans (hb6.mono ((hB5.alloc hB5.size _)).size)
  obtain ⟨p1_6, q1_6⟩ := (L1.out.keep hB6).c2
  go_wp2_with fail
  go_at_call 11
  refine (cycleL_any 4 _ Dgr.ex0 _ _ ((g0.out.keep hB6).arr) Dgr.ex0_ok (by decide) (by decide)).mono ?_
  rintro e w7 ⟨b7, hd7, hg7⟩
  obtain ⟨rfl, hb7⟩ := giveL_none hg7 (cyc_none hd7 Dgr.ex0_acyclic)
  have hB7 : Below X.heap.size X w7 := (hB6).trans (hb7.mono (hB6).size)
  obtain ⟨p2_7, q2_7⟩ := (L2.out.keep hB7).c2
  go_wp2_with fail
  clear p0 p1
  go_wp2_with (go_at_call 9; refine (orderL_any 4 _ Dgr.ex1 _ _ ((g1.out.keep hB7).arr) Dgr.ex1_ok (by decide) (by decide)).mono ?_; rintro e w8 hg8; obtain ⟨rfl, hb8⟩ := giveL_none hg8 (Dgr.ex1_order); have hB8 : Below X.heap.size X w8 := (hB7).trans (hb8.mono (hB7).size); obtain ⟨p2_8, q2_8⟩ := (L2.out.keep hB8).c2)
  go_at_call 13
  refine (depthL_any 4 _ Dgr.ex1 _ _ ((g1.out.keep hB8).arr) Dgr.ex1_ok (by decide) (by decide)).mono ?_
  rintro e w9 ⟨b9, hd9, hg9⟩
  obtain ⟨rfl, hb9⟩ := giveL_none hg9 (dep_none hd9 Dgr.ex1_order)
  have hB9 : Below X.heap.size X w9 := (hB8).trans (hb9.mono (hB8).size)
  obtain ⟨p2_9, q2_9⟩ := (L2.out.keep hB9).c2
  go_wp2_with fail
  go_at_call 11
  refine (cycleL_any 4 _ Dgr.ex1 _ _ ((g1.out.keep hB9).arr) Dgr.ex1_ok (by decide) (by decide)).mono ?_
  rintro e w10 ⟨b10, hd10, hg10⟩
  obtain ⟨A10, c10, rfl, hc10, hr10, hb10⟩ := giveL_some hg10 (cyc_some hd10 Dgr.ex1_cycle)
  have hB10 : Below X.heap.size X w10 := (hB9).trans (hb10.mono (hB9).size)
  go_wp2_with fail
  go_at_call 8
  refine (alike_any _ _ [0, 3, 2] [0, 3, 2] _ _ _ _ _ _ _ (hr10.keep ((Below.refl _ _).alloc (Nat.le_refl _) _)) (row_lit (l := [0, 3, 2]) rfl rfl) (by decide) (by decide)).mono ?_
  rintro e w11 ⟨rfl, hb11⟩
  have hB11 : Below X.heap.size X w11 := ((hB10.alloc hB10.size _)).trans (hb11.mono ((hB10.alloc hB10.size _)).size)
  obtain ⟨p3_11, q3_11⟩ := (L3.out.keep hB11).c2
  go_wp2_with fail
  go_at_call 11
  refine (cycleL_any 4 _ Dgr.ex2 _ _ ((g2.out.keep hB11).arr) Dgr.ex2_ok (by decide) (by decide)).mono ?_
  rintro e w12 ⟨b12, hd12, hg12⟩
  obtain ⟨A12, c12, rfl, hc12, hr12, hb12⟩ := giveL_some hg12 (cyc_some hd12 Dgr.ex2_cycle)
  have hB12 : Below X.heap.size X w12 := (hB11).trans (hb12.mono (hB11).size)
  go_wp2_with fail
  go_at_call 8
  refine (alike_any _ _ [1] [1] _ _ _ _ _ _ _ (hr12.keep ((Below.refl _ _).alloc (Nat.le_refl _) _)) (row_lit (l := [1]) rfl rfl) (by decide) (by decide)).mono ?_
  rintro e w13 ⟨rfl, hb13⟩
  have hB13 : Below X.heap.size X w13 := ((hB12.alloc hB12.size _)).trans (hb13.mono ((hB12.alloc hB12.size _)).size)
  obtain ⟨p2_13, q2_13⟩ := (L2.out.keep hB13).c2
  go_wp2_with fail
  go_at_call 21
  refine (comp_any 4 _ Dgr.ex1 _ _ ((g1.out.keep hB13).arr) Dgr.ex1_ok (by decide) (by decide)).mono ?_
  rintro e w14 hg14
  rw [Dgr.ex1_comp] at hg14
  obtain ⟨A14, c14, rfl, hc14, hr14, hb14⟩ := hg14
  have hB14 : Below X.heap.size X w14 := (hB13).trans (hb14.mono (hB13).size)
  go_wp2_with fail
  go_at_call 20
  refine (samel_any _ _ [[0, 2, 3], [1]] [[0, 2, 3], [1]] _ _ _ 0 _ (hr14.keep (below_alloc3 _ _ _ _)) rows_lit (by decide) (by decide) (by decide) (by decide)).mono ?_
  rintro e w15 ⟨rfl, hb15⟩
  have hB15 : Below X.heap.size X w15 := ((((hB14.alloc hB14.size _).alloc (hB14.alloc hB14.size _).size _).alloc ((hB14.alloc hB14.size _).alloc (hB14.alloc hB14.size _).size _).size _)).trans (hb15.mono ((((hB14.alloc hB14.size _).alloc (hB14.alloc hB14.size _).size _).alloc ((hB14.alloc hB14.size _).alloc (hB14.alloc hB14.size _).size _).size _)).size)
  obtain ⟨p1_15, q1_15⟩ := (L1.out.keep hB15).c2
  go_upto_region 8 with fail
  refine wp_region_lit ?_
  go_wp2_with fail
  go_at_call 6
  refine ((show Calls Try.prog 6 #[.int .i64 4, .slice (some ⟨w.heap.size, 0, none⟩) 3 3] w15 _ from valid_any 4 (some ⟨w.heap.size, 0, none⟩) (natE Dgr.ex0) 3 w15 (g0.out.keep hB15).arr)).mono ?_
  rintro e w16 ⟨he16, hb16⟩
  rw [show validB 4 (natE Dgr.ex0) = true by decide +kernel] at he16
  subst he16
  have hB16 : Below X.heap.size X w16 := (hB15).trans (hb16.mono (hB15).size)
  obtain ⟨p1_16, q1_16⟩ := (L1.out.keep hB16).c2
  go_wp2_with fail
  go_at_call 6
  refine ((show Calls Try.prog 6 #[.int .i64 3, .slice (some ⟨w.heap.size, 0, none⟩) 3 3] w16 _ from valid_any 3 (some ⟨w.heap.size, 0, none⟩) (natE Dgr.ex0) 3 w16 (g0.out.keep hB16).arr)).mono ?_
  rintro e w17 ⟨he17, hb17⟩
  rw [show validB 3 (natE Dgr.ex0) = false by decide +kernel] at he17
  subst he17
  have hB17 : Below X.heap.size X w17 := (hB16).trans (hb17.mono (hB16).size)
  obtain ⟨p1_17, q1_17⟩ := (L1.out.keep hB17).c2
  go_wp2_with fail
  go_at_call 15
  refine ((show Calls Try.prog 15 #[.int .i64 4, .slice (some ⟨w.heap.size, 0, none⟩) 3 3, .slice (some ⟨w17.heap.size, 0, none⟩) 4 4] (w17.alloc (.cells #[.int .i64 2, .int .i64 0, .int .i64 1, .int .i64 3] 3)) _ from check_any 4 (some ⟨w.heap.size, 0, none⟩) (some ⟨w17.heap.size, 0, none⟩) Dgr.ex0 (zl [2, 0, 1, 3]) 3 4 (w17.alloc (.cells #[.int .i64 2, .int .i64 0, .int .i64 1, .int .i64 3] 3)) (g0.out.keep (hB17.alloc hB17.size _)).arr (Row.arrZ (row_lit (cs := #[.int .i64 2, .int .i64 0, .int .i64 1, .int .i64 3]) (l := [2, 0, 1, 3]) rfl rfl)) Dgr.ex0_ok (by decide) (by decide))).mono ?_
  rintro e w18 ⟨he18, hb18⟩
  rw [chk_yes (topoZ_zl.2 Dgr.ex0_topo)] at he18
  subst he18
  have hB18 : Below X.heap.size X w18 := ((hB17.alloc hB17.size _)).trans (hb18.mono ((hB17.alloc hB17.size _)).size)
  obtain ⟨p1_18, q1_18⟩ := (L1.out.keep hB18).c2
  go_wp2_with fail
  go_at_call 15
  refine ((show Calls Try.prog 15 #[.int .i64 4, .slice (some ⟨w.heap.size, 0, none⟩) 3 3, .slice (some ⟨w18.heap.size, 0, none⟩) 4 4] (w18.alloc (.cells #[.int .i64 0, .int .i64 1, .int .i64 2, .int .i64 3] 3)) _ from check_any 4 (some ⟨w.heap.size, 0, none⟩) (some ⟨w18.heap.size, 0, none⟩) Dgr.ex0 (zl [0, 1, 2, 3]) 3 4 (w18.alloc (.cells #[.int .i64 0, .int .i64 1, .int .i64 2, .int .i64 3] 3)) (g0.out.keep (hB18.alloc hB18.size _)).arr (Row.arrZ (row_lit (cs := #[.int .i64 0, .int .i64 1, .int .i64 2, .int .i64 3]) (l := [0, 1, 2, 3]) rfl rfl)) Dgr.ex0_ok (by decide) (by decide))).mono ?_
  rintro e w19 ⟨he19, hb19⟩
  rw [chk_no (fun h => Dgr.ex0_not (topoZ_zl.1 h))] at he19
  subst he19
  have hB19 : Below X.heap.size X w19 := ((hB18.alloc hB18.size _)).trans (hb19.mono ((hB18.alloc hB18.size _)).size)
  obtain ⟨p1_19, q1_19⟩ := (L1.out.keep hB19).c2
  go_wp2_with fail
  go_at_call 9
  refine (orderL_any 0 none [] 0 _ (Arr.nil _ _) (fun e he => by cases he) (by decide) (by decide)).mono ?_
  rintro e w20 hg20
  obtain ⟨A20, c20, rfl, hc20, hr20, hb20⟩ := giveL_some hg20 Dgr.ex_order
  have hB20 : Below X.heap.size X w20 := (hB19).trans (hb20.mono (hB19).size)
  obtain ⟨p1_20, q1_20⟩ := (L1.out.keep hB20).c2
  go_wp2_with fail
  go_at_call 18
  refine (reach_none 4 _ Dgr.ex0 _ 4 _ ((g0.out.keep hB20).arr) Dgr.ex0_ok (by decide) (by decide) (by decide)).mono ?_
  rintro e w21 ⟨rfl, hb21⟩
  have hB21 : Below X.heap.size X w21 := (hB20).trans (hb21.mono (hB20).size)
  go_wp2_with fail
  go_ret
  exact ⟨rfl, hbX2.trans (hB21.mono hbX2.size)⟩

end Gp
end Go.Proofs.Ytmdleoadodcljaa
