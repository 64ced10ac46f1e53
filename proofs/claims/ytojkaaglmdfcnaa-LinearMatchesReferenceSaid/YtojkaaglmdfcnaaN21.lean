/- A large variable loaded in one step (the walk's own load takes its cells one by one: the kernel's cost doubles with each cell). The law's own intervals. LinearMatchesReference: the walk. -/
import Derived.Test.YtojkaaglmdfcnaaL5
import Derived.Deep.MidRow
import Derived.BigQuiet
import Derived.Test.YtojkaaglmdfcnaaN20
namespace Go.Proofs.Ytojkaaglmdfcnaa
open Go.RowKit
namespace Fr
set_option linter.unusedVariables false

theorem quiet_load {P : Program} {C : World → Prop} {K : Act → Prop} {a : Act} {o : Oper} {ty : TypeId} {x : Operand} (hop : o.op = .load ty x) {b off : Nat} (hx : a.eval x = .pointer (some ⟨b, off, none⟩)) {cs : List Value} {d : TypeDesc}
    (hc : ∀ w, C w → w.rangeAt b off cs) (hu : P.underlying ty = some d) (hd : d.isRow = true) (hi : (P.info? ty).map (·.size) = some cs.length) (hk : K (a.put o.dst (.agg cs.toArray))) : o.quiet P a C K :=
  ⟨.agg cs.toArray, fun w hw => by
    have h := run_loadAt_mid (P := P) w b off ty cs d (hc w hw) hu hd hi
    have e : execOp a.eval o = (do pure (Next.value (← Instr.loadAt ty (.pointer (some ⟨b, off, none⟩)))) : Sem Next) := by unfold execOp; rw [hop]; simp only [hx]
    unfold Oper.quietAt
    rw [e]
    simp only [Sem.run_bind, h, Result.andThen_ok, Sem.run_pure, Oper.quietUpon, and_self], hk⟩
theorem wpQuiet_load {P : Program} {ops : Array Oper} {C : World → Prop} {Q : Act → Prop} {a : Act} {o : Oper} {rest : List Oper} (hw : Region.wanted o (yielded ops a.tmps) = true) {ty : TypeId} {x : Operand} (hop : o.op = .load ty x) {b off : Nat} (hx : a.eval x = .pointer (some ⟨b, off, none⟩)) {cs : List Value} {d : TypeDesc}
    (hc : ∀ w, C w → w.rangeAt b off cs) (hu : P.underlying ty = some d) (hd : d.isRow = true) (n : Nat) (hl : cs.length = n) (hi : (P.info? ty).map (·.size) = some n) (h : wpQuiet P ops C Q rest (a.put o.dst (.agg cs.toArray))) : wpQuiet P ops C Q (o :: rest) a :=
  BigFrame.wpQuiet_want hw fun K hK => quiet_load hop hx hc hu hd (hl ▸ hi) (hK _ h)
theorem BoxL.range {W V : World} {b : Nat} {zs : Array Value} (h : BoxL W b zs) (hV : Below W.heap.size W V) (off n : Nat) : ∀ w, (∃ p : Later V, w = p.val) → w.rangeAt b off ((zs.toList.drop off).take n) := by
  rintro _ ⟨p, rfl⟩ j v hv
  have hj : j < n := by have := (List.getElem?_eq_some_iff.1 hv).1; simp at this; omega
  rw [List.getElem?_take_of_lt hj, List.getElem?_drop] at hv
  exact (((h.keep hV).keep p.below).cells (off + j) v (by simpa using hv)).1

end Fr
end Go.Proofs.Ytojkaaglmdfcnaa

namespace Go.Proofs.Ytojkaaglmdfcnaa
open Go.RowKit Go.Shelf
namespace Fr
set_option linter.unusedVariables false
set_option linter.unusedSimpArgs false


set_option maxRecDepth 100000 in
set_option maxHeartbeats 2000000 in
theorem lspread_8 {q r : Rat} {n0 n1 n2 n3 n4 n5 n6 n7 n8 n9 n10 n11 n12 n13 n14 n15 n16 n17 n18 n19 n20 n21 n22 n23 x0 x1 y0 y1 r0 r1 r2 r3 : Int} (h : Does 16 #[.agg #[.int .i64 n0, .int .i64 n1, .int .i64 n2, .int .i64 n3, .int .i64 n4, .int .i64 n5, .int .i64 n6, .int .i64 n7, .int .i64 n8, .int .i64 n9, .int .i64 n10, .int .i64 n11, .int .i64 n12, .int .i64 n13, .int .i64 n14, .int .i64 n15, .int .i64 n16, .int .i64 n17, .int .i64 n18, .int .i64 n19, .int .i64 n20, .int .i64 n21, .int .i64 n22, .int .i64 n23], .int .i64 8] (.agg #[.int .i64 x0, .int .i64 x1])) (h2 : Does 16 #[.agg #[.int .i64 n0, .int .i64 n1, .int .i64 n2, .int .i64 n3, .int .i64 n4, .int .i64 n5, .int .i64 n6, .int .i64 n7, .int .i64 n8, .int .i64 n9, .int .i64 n10, .int .i64 n11, .int .i64 n12, .int .i64 n13, .int .i64 n14, .int .i64 n15, .int .i64 n16, .int .i64 n17, .int .i64 n18, .int .i64 n19, .int .i64 n20, .int .i64 n21, .int .i64 n22, .int .i64 n23], .int .i64 10] (.agg #[.int .i64 y0, .int .i64 y1])) (hq : IsF q x0 x1) (hr : IsF r y0 y1) (hi : IsI ⟨rmin q r, rmax q r⟩ r0 r1 r2 r3) : Does 18 #[.agg #[.int .i64 n0, .int .i64 n1, .int .i64 n2, .int .i64 n3, .int .i64 n4, .int .i64 n5, .int .i64 n6, .int .i64 n7, .int .i64 n8, .int .i64 n9, .int .i64 n10, .int .i64 n11, .int .i64 n12, .int .i64 n13, .int .i64 n14, .int .i64 n15, .int .i64 n16, .int .i64 n17, .int .i64 n18, .int .i64 n19, .int .i64 n20, .int .i64 n21, .int .i64 n22, .int .i64 n23], .int .i64 8] (.agg #[.int .i64 r0, .int .i64 r1, .int .i64 r2, .int .i64 r3]) := by
  intro w
  have H1 := Lib.hid h
  have H2 := Lib.hid h2
  have M0 := Lib.hid (frmin hq hr hi.lo)
  have M1 := Lib.hid (frmax hq hr hi.hi)
  clear h h2 hq hr hi
  go_enter Try.func18, Try.ntmps18
  go_upto_region 1 with fail
  have hst := start2 w (#[.int .i64 n0, .int .i64 n1, .int .i64 n2, .int .i64 n3, .int .i64 n4, .int .i64 n5, .int .i64 n6, .int .i64 n7, .int .i64 n8, .int .i64 n9, .int .i64 n10, .int .i64 n11, .int .i64 n12, .int .i64 n13, .int .i64 n14, .int .i64 n15, .int .i64 n16, .int .i64 n17, .int .i64 n18, .int .i64 n19, .int .i64 n20, .int .i64 n21, .int .i64 n22, .int .i64 n23]) (#[.int .i64 0, .int .i64 0, .int .i64 0, .int .i64 0]) 30 27
  generalize ((w.alloc (.cells #[.int .i64 n0, .int .i64 n1, .int .i64 n2, .int .i64 n3, .int .i64 n4, .int .i64 n5, .int .i64 n6, .int .i64 n7, .int .i64 n8, .int .i64 n9, .int .i64 n10, .int .i64 n11, .int .i64 n12, .int .i64 n13, .int .i64 n14, .int .i64 n15, .int .i64 n16, .int .i64 n17, .int .i64 n18, .int .i64 n19, .int .i64 n20, .int .i64 n21, .int .i64 n22, .int .i64 n23] 30)).alloc (.cells #[.int .i64 0, .int .i64 0, .int .i64 0, .int .i64 0] 27)) = Wx4 at *
  obtain ⟨mx1, mx2, Bx3⟩ := hst
  have ltx5 := mx1.lt
  have ltx6 := mx2.lt
  have ltx7 := mx1.lt
  have ltx8 := mx2.lt
  refine wp_region_free2 (agf := ?frx9) 9 7 8 zrF zrF (by kernel_rfl) [] (by kernel_rfl) (fun d _ _ _ _ h => by cases d <;> exact h) (by decide) (by rfl) (by rfl) (by rfl) (by rfl) ?frx91 ?frx92
  case frx91 =>
    intro W hW
    have rgx10 : ∀ wq, (∃ pq : Later W, wq = pq.val) → wq.rangeAt (w.heap.size) 0 [.int .i64 n0, .int .i64 n1, .int .i64 n2, .int .i64 n3, .int .i64 n4, .int .i64 n5, .int .i64 n6, .int .i64 n7, .int .i64 n8, .int .i64 n9, .int .i64 n10, .int .i64 n11, .int .i64 n12, .int .i64 n13, .int .i64 n14, .int .i64 n15, .int .i64 n16, .int .i64 n17, .int .i64 n18, .int .i64 n19, .int .i64 n20, .int .i64 n21, .int .i64 n22, .int .i64 n23] := BoxL.range mx1 hW 0 24
    simp only [List.take_succ_cons, List.take_zero, ghostL, List.contains_cons, List.contains_nil, Nat.reduceAdd, Nat.reduceBEq, Bool.or_false, Bool.or_true, Bool.true_or, Bool.false_or, Bool.false_eq_true, if_false, if_true, ghostO]
    repeat (first | (refine wpQuiet_load (by rfl) (by rfl) (by rfl) rgx10 (by rfl) (by rfl) 24 (by rfl) (by decide +kernel) ?_; simp only [Act.put, List.setIfInBounds_toArray, List.set_cons_succ, List.set_cons_zero]) | go_big_quiet_step (((go_at_call 16; first | with_reducible exact later_of ((H1.out.at _)) | with_reducible exact later_of ((H2.out.at _))))))
    refine wpQuiet_nil ?_
    rfl
  case frx92 =>
    intro bx13 bx14 Wx11 hbx12 mx15 mx16 gx17 gx18 nex19
    simp only [List.drop_succ_cons, List.drop_zero, Act.put, List.setIfInBounds_toArray, List.set_cons_succ, List.set_cons_zero]
    have mx20 := mx1.keep hbx12
    have mx21 := mx2.keep hbx12
    have Bx22 := Bx3.trans (hbx12.mono Bx3.size)
    have szx23 := hbx12.size
    clear mx1 mx2 Bx3 hbx12
    have ltx24 := mx15.lt
    have ltx25 := mx16.lt
    obtain ⟨c_a0, c_a1⟩ := mx15.c2
    obtain ⟨f_a0, f_a1⟩ := mx15.f2
    obtain ⟨c_b0, c_b1⟩ := mx16.c2
    obtain ⟨f_b0, f_b1⟩ := mx16.f2
    go_upto_region 2 with fail
    clear c_a0 c_a1 f_a0 f_a1
    clear c_b0 c_b1 f_b0 f_b1
    have mx27 := mx15.s2 (.int .i64 x0) (.int .i64 x1)
    have mx28 := mx20.z2 (b := bx13) (by omega) (.int .i64 x0) (.int .i64 x1)
    have mx29 := mx21.z2 (b := bx13) (by omega) (.int .i64 x0) (.int .i64 x1)
    have mx30 := mx16.z2 (b := bx13) (by omega) (.int .i64 x0) (.int .i64 x1)
    have Bx31 := below_s2 (b := bx13) Bx22 (by omega) (.int .i64 x0) (.int .i64 x1)
    have ltx32 := mx27.lt
    generalize ((Wx11.setCell ⟨bx13, 0, none⟩ (.int .i64 x0)).setCell ⟨bx13, 1, none⟩ (.int .i64 x1)) = Wx26 at *
    clear mx15 mx20 mx21 mx16 Bx22
    have mx34 := mx30.s2 (.int .i64 y0) (.int .i64 y1)
    have mx35 := mx28.z2 (b := bx14) (by omega) (.int .i64 y0) (.int .i64 y1)
    have mx36 := mx29.z2 (b := bx14) (by omega) (.int .i64 y0) (.int .i64 y1)
    have mx37 := mx27.z2 (b := bx14) (by omega) (.int .i64 y0) (.int .i64 y1)
    have Bx38 := below_s2 (b := bx14) Bx31 (by omega) (.int .i64 y0) (.int .i64 y1)
    have ltx39 := mx34.lt
    generalize ((Wx26.setCell ⟨bx14, 0, none⟩ (.int .i64 y0)).setCell ⟨bx14, 1, none⟩ (.int .i64 y1)) = Wx33 at *
    clear mx30 mx28 mx29 mx27 Bx31
    have ltx40 := mx35.lt
    have ltx41 := mx36.lt
    have ltx42 := mx37.lt
    have ltx43 := mx34.lt
    obtain ⟨c_a0, c_a1⟩ := mx37.l2 (Below.refl _ _)
    obtain ⟨c_b0, c_b1⟩ := mx34.l2 (Below.refl _ _)
    refine wp_region_later_tail 7 (by kernel_rfl) (by kernel_rfl) ?_
    simp only [List.take_succ_cons, List.take_zero, List.drop_succ_cons, List.drop_zero]
    repeat (go_big_quiet_step (((first | (go_at_call 54; with_reducible exact later_of ((M0.out.at _))) | (go_at_call 55; with_reducible exact later_of ((M1.out.at _)))))))
    refine wpQuiet_nil ?_
    intro _ hw'
    obtain ⟨zx44, hw''⟩ := hw'
    subst hw''
    clear c_a0 c_a1
    clear c_b0 c_b1
    have hbx45 := zx44.below
    have mx46 := mx35.keep hbx45
    have mx47 := mx36.keep hbx45
    have mx48 := mx37.keep hbx45
    have mx49 := mx34.keep hbx45
    have Bx50 := Bx38.trans (hbx45.mono Bx38.size)
    have szx51 := hbx45.size
    clear mx35 mx36 mx37 mx34 Bx38 hbx45
    obtain ⟨c_r0, c_r1, c_r2, c_r3⟩ := mx47.c4
    obtain ⟨f_r0, f_r1, f_r2, f_r3⟩ := mx47.f4
    go_wp2_with fail
    have hRx52 := mx47.s4 (.int .i64 r0) (.int .i64 r1) (.int .i64 r2) (.int .i64 r3)
    obtain ⟨s0, s1, s2, s3⟩ := hRx52.c4
    exact bodyPost_ret (v := .agg #[.int .i64 r0, .int .i64 r1, .int .i64 r2, .int .i64 r3]) (by simp [results, Try.results18, go_sem, s0, s1, s2, s3]) rfl ⟨rfl, below_s4 Bx50 (by omega) _ _ _ _⟩

set_option maxRecDepth 100000 in
set_option maxHeartbeats 2000000 in
theorem lspread_12 {q r : Rat} {n0 n1 n2 n3 n4 n5 n6 n7 n8 n9 n10 n11 n12 n13 n14 n15 n16 n17 n18 n19 n20 n21 n22 n23 x0 x1 y0 y1 r0 r1 r2 r3 : Int} (h : Does 16 #[.agg #[.int .i64 n0, .int .i64 n1, .int .i64 n2, .int .i64 n3, .int .i64 n4, .int .i64 n5, .int .i64 n6, .int .i64 n7, .int .i64 n8, .int .i64 n9, .int .i64 n10, .int .i64 n11, .int .i64 n12, .int .i64 n13, .int .i64 n14, .int .i64 n15, .int .i64 n16, .int .i64 n17, .int .i64 n18, .int .i64 n19, .int .i64 n20, .int .i64 n21, .int .i64 n22, .int .i64 n23], .int .i64 12] (.agg #[.int .i64 x0, .int .i64 x1])) (h2 : Does 16 #[.agg #[.int .i64 n0, .int .i64 n1, .int .i64 n2, .int .i64 n3, .int .i64 n4, .int .i64 n5, .int .i64 n6, .int .i64 n7, .int .i64 n8, .int .i64 n9, .int .i64 n10, .int .i64 n11, .int .i64 n12, .int .i64 n13, .int .i64 n14, .int .i64 n15, .int .i64 n16, .int .i64 n17, .int .i64 n18, .int .i64 n19, .int .i64 n20, .int .i64 n21, .int .i64 n22, .int .i64 n23], .int .i64 14] (.agg #[.int .i64 y0, .int .i64 y1])) (hq : IsF q x0 x1) (hr : IsF r y0 y1) (hi : IsI ⟨rmin q r, rmax q r⟩ r0 r1 r2 r3) : Does 18 #[.agg #[.int .i64 n0, .int .i64 n1, .int .i64 n2, .int .i64 n3, .int .i64 n4, .int .i64 n5, .int .i64 n6, .int .i64 n7, .int .i64 n8, .int .i64 n9, .int .i64 n10, .int .i64 n11, .int .i64 n12, .int .i64 n13, .int .i64 n14, .int .i64 n15, .int .i64 n16, .int .i64 n17, .int .i64 n18, .int .i64 n19, .int .i64 n20, .int .i64 n21, .int .i64 n22, .int .i64 n23], .int .i64 12] (.agg #[.int .i64 r0, .int .i64 r1, .int .i64 r2, .int .i64 r3]) := by
  intro w
  have H1 := Lib.hid h
  have H2 := Lib.hid h2
  have M0 := Lib.hid (frmin hq hr hi.lo)
  have M1 := Lib.hid (frmax hq hr hi.hi)
  clear h h2 hq hr hi
  go_enter Try.func18, Try.ntmps18
  go_upto_region 1 with fail
  have hst := start2 w (#[.int .i64 n0, .int .i64 n1, .int .i64 n2, .int .i64 n3, .int .i64 n4, .int .i64 n5, .int .i64 n6, .int .i64 n7, .int .i64 n8, .int .i64 n9, .int .i64 n10, .int .i64 n11, .int .i64 n12, .int .i64 n13, .int .i64 n14, .int .i64 n15, .int .i64 n16, .int .i64 n17, .int .i64 n18, .int .i64 n19, .int .i64 n20, .int .i64 n21, .int .i64 n22, .int .i64 n23]) (#[.int .i64 0, .int .i64 0, .int .i64 0, .int .i64 0]) 30 27
  generalize ((w.alloc (.cells #[.int .i64 n0, .int .i64 n1, .int .i64 n2, .int .i64 n3, .int .i64 n4, .int .i64 n5, .int .i64 n6, .int .i64 n7, .int .i64 n8, .int .i64 n9, .int .i64 n10, .int .i64 n11, .int .i64 n12, .int .i64 n13, .int .i64 n14, .int .i64 n15, .int .i64 n16, .int .i64 n17, .int .i64 n18, .int .i64 n19, .int .i64 n20, .int .i64 n21, .int .i64 n22, .int .i64 n23] 30)).alloc (.cells #[.int .i64 0, .int .i64 0, .int .i64 0, .int .i64 0] 27)) = Wx4 at *
  obtain ⟨mx1, mx2, Bx3⟩ := hst
  have ltx5 := mx1.lt
  have ltx6 := mx2.lt
  have ltx7 := mx1.lt
  have ltx8 := mx2.lt
  refine wp_region_free2 (agf := ?frx9) 9 7 8 zrF zrF (by kernel_rfl) [] (by kernel_rfl) (fun d _ _ _ _ h => by cases d <;> exact h) (by decide) (by rfl) (by rfl) (by rfl) (by rfl) ?frx91 ?frx92
  case frx91 =>
    intro W hW
    have rgx10 : ∀ wq, (∃ pq : Later W, wq = pq.val) → wq.rangeAt (w.heap.size) 0 [.int .i64 n0, .int .i64 n1, .int .i64 n2, .int .i64 n3, .int .i64 n4, .int .i64 n5, .int .i64 n6, .int .i64 n7, .int .i64 n8, .int .i64 n9, .int .i64 n10, .int .i64 n11, .int .i64 n12, .int .i64 n13, .int .i64 n14, .int .i64 n15, .int .i64 n16, .int .i64 n17, .int .i64 n18, .int .i64 n19, .int .i64 n20, .int .i64 n21, .int .i64 n22, .int .i64 n23] := BoxL.range mx1 hW 0 24
    simp only [List.take_succ_cons, List.take_zero, ghostL, List.contains_cons, List.contains_nil, Nat.reduceAdd, Nat.reduceBEq, Bool.or_false, Bool.or_true, Bool.true_or, Bool.false_or, Bool.false_eq_true, if_false, if_true, ghostO]
    repeat (first | (refine wpQuiet_load (by rfl) (by rfl) (by rfl) rgx10 (by rfl) (by rfl) 24 (by rfl) (by decide +kernel) ?_; simp only [Act.put, List.setIfInBounds_toArray, List.set_cons_succ, List.set_cons_zero]) | go_big_quiet_step (((go_at_call 16; first | with_reducible exact later_of ((H1.out.at _)) | with_reducible exact later_of ((H2.out.at _))))))
    refine wpQuiet_nil ?_
    rfl
  case frx92 =>
    intro bx13 bx14 Wx11 hbx12 mx15 mx16 gx17 gx18 nex19
    simp only [List.drop_succ_cons, List.drop_zero, Act.put, List.setIfInBounds_toArray, List.set_cons_succ, List.set_cons_zero]
    have mx20 := mx1.keep hbx12
    have mx21 := mx2.keep hbx12
    have Bx22 := Bx3.trans (hbx12.mono Bx3.size)
    have szx23 := hbx12.size
    clear mx1 mx2 Bx3 hbx12
    have ltx24 := mx15.lt
    have ltx25 := mx16.lt
    obtain ⟨c_a0, c_a1⟩ := mx15.c2
    obtain ⟨f_a0, f_a1⟩ := mx15.f2
    obtain ⟨c_b0, c_b1⟩ := mx16.c2
    obtain ⟨f_b0, f_b1⟩ := mx16.f2
    go_upto_region 2 with fail
    clear c_a0 c_a1 f_a0 f_a1
    clear c_b0 c_b1 f_b0 f_b1
    have mx27 := mx15.s2 (.int .i64 x0) (.int .i64 x1)
    have mx28 := mx20.z2 (b := bx13) (by omega) (.int .i64 x0) (.int .i64 x1)
    have mx29 := mx21.z2 (b := bx13) (by omega) (.int .i64 x0) (.int .i64 x1)
    have mx30 := mx16.z2 (b := bx13) (by omega) (.int .i64 x0) (.int .i64 x1)
    have Bx31 := below_s2 (b := bx13) Bx22 (by omega) (.int .i64 x0) (.int .i64 x1)
    have ltx32 := mx27.lt
    generalize ((Wx11.setCell ⟨bx13, 0, none⟩ (.int .i64 x0)).setCell ⟨bx13, 1, none⟩ (.int .i64 x1)) = Wx26 at *
    clear mx15 mx20 mx21 mx16 Bx22
    have mx34 := mx30.s2 (.int .i64 y0) (.int .i64 y1)
    have mx35 := mx28.z2 (b := bx14) (by omega) (.int .i64 y0) (.int .i64 y1)
    have mx36 := mx29.z2 (b := bx14) (by omega) (.int .i64 y0) (.int .i64 y1)
    have mx37 := mx27.z2 (b := bx14) (by omega) (.int .i64 y0) (.int .i64 y1)
    have Bx38 := below_s2 (b := bx14) Bx31 (by omega) (.int .i64 y0) (.int .i64 y1)
    have ltx39 := mx34.lt
    generalize ((Wx26.setCell ⟨bx14, 0, none⟩ (.int .i64 y0)).setCell ⟨bx14, 1, none⟩ (.int .i64 y1)) = Wx33 at *
    clear mx30 mx28 mx29 mx27 Bx31
    have ltx40 := mx35.lt
    have ltx41 := mx36.lt
    have ltx42 := mx37.lt
    have ltx43 := mx34.lt
    obtain ⟨c_a0, c_a1⟩ := mx37.l2 (Below.refl _ _)
    obtain ⟨c_b0, c_b1⟩ := mx34.l2 (Below.refl _ _)
    refine wp_region_later_tail 7 (by kernel_rfl) (by kernel_rfl) ?_
    simp only [List.take_succ_cons, List.take_zero, List.drop_succ_cons, List.drop_zero]
    repeat (go_big_quiet_step (((first | (go_at_call 54; with_reducible exact later_of ((M0.out.at _))) | (go_at_call 55; with_reducible exact later_of ((M1.out.at _)))))))
    refine wpQuiet_nil ?_
    intro _ hw'
    obtain ⟨zx44, hw''⟩ := hw'
    subst hw''
    clear c_a0 c_a1
    clear c_b0 c_b1
    have hbx45 := zx44.below
    have mx46 := mx35.keep hbx45
    have mx47 := mx36.keep hbx45
    have mx48 := mx37.keep hbx45
    have mx49 := mx34.keep hbx45
    have Bx50 := Bx38.trans (hbx45.mono Bx38.size)
    have szx51 := hbx45.size
    clear mx35 mx36 mx37 mx34 Bx38 hbx45
    obtain ⟨c_r0, c_r1, c_r2, c_r3⟩ := mx47.c4
    obtain ⟨f_r0, f_r1, f_r2, f_r3⟩ := mx47.f4
    go_wp2_with fail
    have hRx52 := mx47.s4 (.int .i64 r0) (.int .i64 r1) (.int .i64 r2) (.int .i64 r3)
    obtain ⟨s0, s1, s2, s3⟩ := hRx52.c4
    exact bodyPost_ret (v := .agg #[.int .i64 r0, .int .i64 r1, .int .i64 r2, .int .i64 r3]) (by simp [results, Try.results18, go_sem, s0, s1, s2, s3]) rfl ⟨rfl, below_s4 Bx50 (by omega) _ _ _ _⟩

set_option maxRecDepth 100000 in
set_option maxHeartbeats 2000000 in
theorem lspread_16 {q r : Rat} {n0 n1 n2 n3 n4 n5 n6 n7 n8 n9 n10 n11 n12 n13 n14 n15 n16 n17 n18 n19 n20 n21 n22 n23 x0 x1 y0 y1 r0 r1 r2 r3 : Int} (h : Does 16 #[.agg #[.int .i64 n0, .int .i64 n1, .int .i64 n2, .int .i64 n3, .int .i64 n4, .int .i64 n5, .int .i64 n6, .int .i64 n7, .int .i64 n8, .int .i64 n9, .int .i64 n10, .int .i64 n11, .int .i64 n12, .int .i64 n13, .int .i64 n14, .int .i64 n15, .int .i64 n16, .int .i64 n17, .int .i64 n18, .int .i64 n19, .int .i64 n20, .int .i64 n21, .int .i64 n22, .int .i64 n23], .int .i64 16] (.agg #[.int .i64 x0, .int .i64 x1])) (h2 : Does 16 #[.agg #[.int .i64 n0, .int .i64 n1, .int .i64 n2, .int .i64 n3, .int .i64 n4, .int .i64 n5, .int .i64 n6, .int .i64 n7, .int .i64 n8, .int .i64 n9, .int .i64 n10, .int .i64 n11, .int .i64 n12, .int .i64 n13, .int .i64 n14, .int .i64 n15, .int .i64 n16, .int .i64 n17, .int .i64 n18, .int .i64 n19, .int .i64 n20, .int .i64 n21, .int .i64 n22, .int .i64 n23], .int .i64 18] (.agg #[.int .i64 y0, .int .i64 y1])) (hq : IsF q x0 x1) (hr : IsF r y0 y1) (hi : IsI ⟨rmin q r, rmax q r⟩ r0 r1 r2 r3) : Does 18 #[.agg #[.int .i64 n0, .int .i64 n1, .int .i64 n2, .int .i64 n3, .int .i64 n4, .int .i64 n5, .int .i64 n6, .int .i64 n7, .int .i64 n8, .int .i64 n9, .int .i64 n10, .int .i64 n11, .int .i64 n12, .int .i64 n13, .int .i64 n14, .int .i64 n15, .int .i64 n16, .int .i64 n17, .int .i64 n18, .int .i64 n19, .int .i64 n20, .int .i64 n21, .int .i64 n22, .int .i64 n23], .int .i64 16] (.agg #[.int .i64 r0, .int .i64 r1, .int .i64 r2, .int .i64 r3]) := by
  intro w
  have H1 := Lib.hid h
  have H2 := Lib.hid h2
  have M0 := Lib.hid (frmin hq hr hi.lo)
  have M1 := Lib.hid (frmax hq hr hi.hi)
  clear h h2 hq hr hi
  go_enter Try.func18, Try.ntmps18
  go_upto_region 1 with fail
  have hst := start2 w (#[.int .i64 n0, .int .i64 n1, .int .i64 n2, .int .i64 n3, .int .i64 n4, .int .i64 n5, .int .i64 n6, .int .i64 n7, .int .i64 n8, .int .i64 n9, .int .i64 n10, .int .i64 n11, .int .i64 n12, .int .i64 n13, .int .i64 n14, .int .i64 n15, .int .i64 n16, .int .i64 n17, .int .i64 n18, .int .i64 n19, .int .i64 n20, .int .i64 n21, .int .i64 n22, .int .i64 n23]) (#[.int .i64 0, .int .i64 0, .int .i64 0, .int .i64 0]) 30 27
  generalize ((w.alloc (.cells #[.int .i64 n0, .int .i64 n1, .int .i64 n2, .int .i64 n3, .int .i64 n4, .int .i64 n5, .int .i64 n6, .int .i64 n7, .int .i64 n8, .int .i64 n9, .int .i64 n10, .int .i64 n11, .int .i64 n12, .int .i64 n13, .int .i64 n14, .int .i64 n15, .int .i64 n16, .int .i64 n17, .int .i64 n18, .int .i64 n19, .int .i64 n20, .int .i64 n21, .int .i64 n22, .int .i64 n23] 30)).alloc (.cells #[.int .i64 0, .int .i64 0, .int .i64 0, .int .i64 0] 27)) = Wx4 at *
  obtain ⟨mx1, mx2, Bx3⟩ := hst
  have ltx5 := mx1.lt
  have ltx6 := mx2.lt
  have ltx7 := mx1.lt
  have ltx8 := mx2.lt
  refine wp_region_free2 (agf := ?frx9) 9 7 8 zrF zrF (by kernel_rfl) [] (by kernel_rfl) (fun d _ _ _ _ h => by cases d <;> exact h) (by decide) (by rfl) (by rfl) (by rfl) (by rfl) ?frx91 ?frx92
  case frx91 =>
    intro W hW
    have rgx10 : ∀ wq, (∃ pq : Later W, wq = pq.val) → wq.rangeAt (w.heap.size) 0 [.int .i64 n0, .int .i64 n1, .int .i64 n2, .int .i64 n3, .int .i64 n4, .int .i64 n5, .int .i64 n6, .int .i64 n7, .int .i64 n8, .int .i64 n9, .int .i64 n10, .int .i64 n11, .int .i64 n12, .int .i64 n13, .int .i64 n14, .int .i64 n15, .int .i64 n16, .int .i64 n17, .int .i64 n18, .int .i64 n19, .int .i64 n20, .int .i64 n21, .int .i64 n22, .int .i64 n23] := BoxL.range mx1 hW 0 24
    simp only [List.take_succ_cons, List.take_zero, ghostL, List.contains_cons, List.contains_nil, Nat.reduceAdd, Nat.reduceBEq, Bool.or_false, Bool.or_true, Bool.true_or, Bool.false_or, Bool.false_eq_true, if_false, if_true, ghostO]
    repeat (first | (refine wpQuiet_load (by rfl) (by rfl) (by rfl) rgx10 (by rfl) (by rfl) 24 (by rfl) (by decide +kernel) ?_; simp only [Act.put, List.setIfInBounds_toArray, List.set_cons_succ, List.set_cons_zero]) | go_big_quiet_step (((go_at_call 16; first | with_reducible exact later_of ((H1.out.at _)) | with_reducible exact later_of ((H2.out.at _))))))
    refine wpQuiet_nil ?_
    rfl
  case frx92 =>
    intro bx13 bx14 Wx11 hbx12 mx15 mx16 gx17 gx18 nex19
    simp only [List.drop_succ_cons, List.drop_zero, Act.put, List.setIfInBounds_toArray, List.set_cons_succ, List.set_cons_zero]
    have mx20 := mx1.keep hbx12
    have mx21 := mx2.keep hbx12
    have Bx22 := Bx3.trans (hbx12.mono Bx3.size)
    have szx23 := hbx12.size
    clear mx1 mx2 Bx3 hbx12
    have ltx24 := mx15.lt
    have ltx25 := mx16.lt
    obtain ⟨c_a0, c_a1⟩ := mx15.c2
    obtain ⟨f_a0, f_a1⟩ := mx15.f2
    obtain ⟨c_b0, c_b1⟩ := mx16.c2
    obtain ⟨f_b0, f_b1⟩ := mx16.f2
    go_upto_region 2 with fail
    clear c_a0 c_a1 f_a0 f_a1
    clear c_b0 c_b1 f_b0 f_b1
    have mx27 := mx15.s2 (.int .i64 x0) (.int .i64 x1)
    have mx28 := mx20.z2 (b := bx13) (by omega) (.int .i64 x0) (.int .i64 x1)
    have mx29 := mx21.z2 (b := bx13) (by omega) (.int .i64 x0) (.int .i64 x1)
    have mx30 := mx16.z2 (b := bx13) (by omega) (.int .i64 x0) (.int .i64 x1)
    have Bx31 := below_s2 (b := bx13) Bx22 (by omega) (.int .i64 x0) (.int .i64 x1)
    have ltx32 := mx27.lt
    generalize ((Wx11.setCell ⟨bx13, 0, none⟩ (.int .i64 x0)).setCell ⟨bx13, 1, none⟩ (.int .i64 x1)) = Wx26 at *
    clear mx15 mx20 mx21 mx16 Bx22
    have mx34 := mx30.s2 (.int .i64 y0) (.int .i64 y1)
    have mx35 := mx28.z2 (b := bx14) (by omega) (.int .i64 y0) (.int .i64 y1)
    have mx36 := mx29.z2 (b := bx14) (by omega) (.int .i64 y0) (.int .i64 y1)
    have mx37 := mx27.z2 (b := bx14) (by omega) (.int .i64 y0) (.int .i64 y1)
    have Bx38 := below_s2 (b := bx14) Bx31 (by omega) (.int .i64 y0) (.int .i64 y1)
    have ltx39 := mx34.lt
    generalize ((Wx26.setCell ⟨bx14, 0, none⟩ (.int .i64 y0)).setCell ⟨bx14, 1, none⟩ (.int .i64 y1)) = Wx33 at *
    clear mx30 mx28 mx29 mx27 Bx31
    have ltx40 := mx35.lt
    have ltx41 := mx36.lt
    have ltx42 := mx37.lt
    have ltx43 := mx34.lt
    obtain ⟨c_a0, c_a1⟩ := mx37.l2 (Below.refl _ _)
    obtain ⟨c_b0, c_b1⟩ := mx34.l2 (Below.refl _ _)
    refine wp_region_later_tail 7 (by kernel_rfl) (by kernel_rfl) ?_
    simp only [List.take_succ_cons, List.take_zero, List.drop_succ_cons, List.drop_zero]
    repeat (go_big_quiet_step (((first | (go_at_call 54; with_reducible exact later_of ((M0.out.at _))) | (go_at_call 55; with_reducible exact later_of ((M1.out.at _)))))))
    refine wpQuiet_nil ?_
    intro _ hw'
    obtain ⟨zx44, hw''⟩ := hw'
    subst hw''
    clear c_a0 c_a1
    clear c_b0 c_b1
    have hbx45 := zx44.below
    have mx46 := mx35.keep hbx45
    have mx47 := mx36.keep hbx45
    have mx48 := mx37.keep hbx45
    have mx49 := mx34.keep hbx45
    have Bx50 := Bx38.trans (hbx45.mono Bx38.size)
    have szx51 := hbx45.size
    clear mx35 mx36 mx37 mx34 Bx38 hbx45
    obtain ⟨c_r0, c_r1, c_r2, c_r3⟩ := mx47.c4
    obtain ⟨f_r0, f_r1, f_r2, f_r3⟩ := mx47.f4
    go_wp2_with fail
    have hRx52 := mx47.s4 (.int .i64 r0) (.int .i64 r1) (.int .i64 r2) (.int .i64 r3)
    obtain ⟨s0, s1, s2, s3⟩ := hRx52.c4
    exact bodyPost_ret (v := .agg #[.int .i64 r0, .int .i64 r1, .int .i64 r2, .int .i64 r3]) (by simp [results, Try.results18, go_sem, s0, s1, s2, s3]) rfl ⟨rfl, below_s4 Bx50 (by omega) _ _ _ _⟩

end Fr
end Go.Proofs.Ytojkaaglmdfcnaa

namespace Go.Proofs.Ytojkaaglmdfcnaa
open Go.RowKit Go.Shelf
namespace Fr
set_option linter.unusedVariables false
set_option linter.unusedSimpArgs false


theorem zrP3 : Zr Try.prog 31 #[.int .i64 0, .int .i64 0, .int .i64 0, .int .i64 0, .int .i64 0, .int .i64 0] := fun w => by simp [Instr.alloc, go_sem]
theorem resI_ways (o : Option IQ) (hq : ∀ r, o = some r → Fit r.lo ∧ Fit r.hi) : ∃ a b c d e, ResI o a b c d e := by
  cases o with
  | none => exact ⟨0, 0, 0, 0, 2, .inr ⟨rfl, rfl, rfl, rfl, rfl, rfl⟩⟩
  | some r =>
    obtain ⟨a, b, h1⟩ := isF_of _ (hq r rfl).1
    obtain ⟨c, d, h2⟩ := isF_of _ (hq r rfl).2
    exact ⟨a, b, c, d, 0, .inl ⟨r, rfl, ⟨h1, h2⟩, rfl⟩⟩
theorem range_fit {l : LQ} {b : BQ} {r : IQ} (hk : Fit l.k) (h : l.range b = some r) : Fit r.lo ∧ Fit r.hi := by
  unfold LQ.range at h
  cases h1 : l.at (l.corner b false) with
  | none => rw [h1] at h; cases h
  | some x =>
    cases h2 : l.at (l.corner b true) with
    | none => rw [h1, h2] at h; cases h
    | some y =>
      rw [h1, h2] at h
      cases h
      exact ⟨at_fit hk h1, at_fit hk h2⟩
theorem plus_fit {i j r : IQ} (h : i.plus j = some r) : Fit r.lo ∧ Fit r.hi := by
  unfold IQ.plus at h
  split at h
  · cases h; assumption
  · cases h
theorem sum_fit : ∀ (ms : List LQ) (s r : LQ), (Fit s.k ∧ Fit s.t ∧ Fit s.v ∧ Fit s.a) → sumO s ms = some r → Fit r.k ∧ Fit r.t ∧ Fit r.v ∧ Fit r.a
  | [], s, r, hs, h => by cases h; exact hs
  | m :: ms, s, r, hs, h => by
    unfold sumO at h
    cases h1 : s.add m with
    | none => rw [h1] at h; cases h
    | some x => rw [h1] at h; exact sum_fit ms x r (fit4_fit h1) h
theorem zero_fit : Fit zeroQ.k ∧ Fit zeroQ.t ∧ Fit zeroQ.v ∧ Fit zeroQ.a := ⟨isL_zero.k.fit, isL_zero.t.fit, isL_zero.v.fit, isL_zero.a.fit⟩
theorem min_fit {q r : Rat} (h : Fit q) (h' : Fit r) : Fit (rmin q r) := by unfold rmin; split <;> assumption
theorem max_fit {q r : Rat} (h : Fit q) (h' : Fit r) : Fit (rmax q r) := by unfold rmax; split <;> assumption
theorem isI_fit {i : IQ} (h : Fit i.lo) (h' : Fit i.hi) : ∃ a b c d, IsI i a b c d := by
  obtain ⟨a, b, h1⟩ := isF_of _ h
  obtain ⟨c, d, h2⟩ := isF_of _ h'
  exact ⟨a, b, c, d, h1, h2⟩

theorem inB_same {b : BQ} (hb : b.Ok) : b.inB b = true := by
  unfold BQ.inB
  rw [Bool.and_eq_true, Bool.and_eq_true]
  exact ⟨⟨(inB_iff _ _ hb.1).2 ⟨by grind, by grind⟩, (inB_iff _ _ hb.2.1).2 ⟨by grind, by grind⟩⟩, (inB_iff _ _ hb.2.2).2 ⟨by grind, by grind⟩⟩

set_option maxRecDepth 100000 in
set_option maxHeartbeats 2000000 in
theorem matches_walk {w : World} {A : Option Addr} {n c : Nat} {l : List Int} (hA : Sl.Arr w A (l.map fun x => .int .u8 x)) (hn : l.length = n) (hl : Bytes l) (hs : n < 9223372036854775808) {B : Option Addr} {m d : Nat} {t : List Int} (hB : Sl.Arr w B (t.map fun x => .int .u8 x)) (hm : t.length = m) (ht : Bytes t) (hr : m < 9223372036854775808)  {z0 z1 z2 z3 z4 z5 z6 z7 z8 z9 z10 z11 z12 z13 z14 z15 z16 z17 z18 z19 z20 z21 z22 z23 z24 z25 z26 z27 z28 z29 z30 z31 z32 z33 z34 z35 z36 z37 z38 z39 z40 z41 z42 z43 z44 z45 z46 z47 z48 z49 z50 z51 z52 z53 z54 z55 z56 z57 z58 z59 z60 z61 z62 z63 z64 z65 z66 z67 z68 z69 : Int} (hz : ∀ x ∈ [z0, z1, z2, z3, z4, z5, z6, z7, z8, z9, z10, z11, z12, z13, z14, z15, z16, z17, z18, z19, z20, z21, z22, z23, z24, z25, z26, z27, z28, z29, z30, z31, z32, z33, z34, z35, z36, z37, z38, z39, z40, z41, z42, z43, z44, z45, z46, z47, z48, z49, z50, z51, z52, z53, z54, z55, z56, z57, z58, z59, z60, z61, z62, z63, z64, z65, z66, z67, z68, z69], I64 x) : DoesIn w 3 #[.agg #[.int .i64 z0, .int .i64 z1, .int .i64 z2, .int .i64 z3, .int .i64 z4, .int .i64 z5, .int .i64 z6, .int .i64 z7, .int .i64 z8, .int .i64 z9, .int .i64 z10, .int .i64 z11, .int .i64 z12, .int .i64 z13, .int .i64 z14, .int .i64 z15, .int .i64 z16, .int .i64 z17, .int .i64 z18, .int .i64 z19, .int .i64 z20, .int .i64 z21, .int .i64 z22, .int .i64 z23, .int .i64 z24, .int .i64 z25, .int .i64 z26, .int .i64 z27, .int .i64 z28, .int .i64 z29, .int .i64 z30, .int .i64 z31, .int .i64 z32, .int .i64 z33, .int .i64 z34, .int .i64 z35, .int .i64 z36, .int .i64 z37, .int .i64 z38, .int .i64 z39, .int .i64 z40, .int .i64 z41, .int .i64 z42, .int .i64 z43, .int .i64 z44, .int .i64 z45, .int .i64 z46, .int .i64 z47, .int .i64 z48, .int .i64 z49, .int .i64 z50, .int .i64 z51, .int .i64 z52, .int .i64 z53, .int .i64 z54, .int .i64 z55, .int .i64 z56, .int .i64 z57, .int .i64 z58, .int .i64 z59, .int .i64 z60, .int .i64 z61, .int .i64 z62, .int .i64 z63, .int .i64 z64, .int .i64 z65, .int .i64 z66, .int .i64 z67, .int .i64 z68, .int .i64 z69], .slice A n c, .slice B m d] (.bool true) := by
  have VL := Lib.hid (valid (hz z0 (by simp)) (hz z1 (by simp)) (hz z2 (by simp)) (hz z3 (by simp)) (hz z4 (by simp)) (hz z5 (by simp)) (hz z6 (by simp)) (hz z7 (by simp)))
  have RL := Lib.hid (rvalid (hz z0 (by simp)) (hz z1 (by simp)) (hz z2 (by simp)) (hz z3 (by simp)) (hz z4 (by simp)) (hz z5 (by simp)) (hz z6 (by simp)) (hz z7 (by simp)))
  have VM := Lib.hid (valid (hz z8 (by simp)) (hz z9 (by simp)) (hz z10 (by simp)) (hz z11 (by simp)) (hz z12 (by simp)) (hz z13 (by simp)) (hz z14 (by simp)) (hz z15 (by simp)))
  have RM := Lib.hid (rvalid (hz z8 (by simp)) (hz z9 (by simp)) (hz z10 (by simp)) (hz z11 (by simp)) (hz z12 (by simp)) (hz z13 (by simp)) (hz z14 (by simp)) (hz z15 (by simp)))
  have VB := Lib.hid (validBox (hz z16 (by simp)) (hz z17 (by simp)) (hz z18 (by simp)) (hz z19 (by simp)) (hz z20 (by simp)) (hz z21 (by simp)) (hz z22 (by simp)) (hz z23 (by simp)) (hz z24 (by simp)) (hz z25 (by simp)) (hz z26 (by simp)) (hz z27 (by simp)))
  have RB := Lib.hid (rvalidBox (hz z16 (by simp)) (hz z17 (by simp)) (hz z18 (by simp)) (hz z19 (by simp)) (hz z20 (by simp)) (hz z21 (by simp)) (hz z22 (by simp)) (hz z23 (by simp)) (hz z24 (by simp)) (hz z25 (by simp)) (hz z26 (by simp)) (hz z27 (by simp)))
  have VI := Lib.hid (validInterval (hz z16 (by simp)) (hz z17 (by simp)) (hz z18 (by simp)) (hz z19 (by simp)))
  have RI := Lib.hid (rvalidInterval (hz z16 (by simp)) (hz z17 (by simp)) (hz z18 (by simp)) (hz z19 (by simp)))
  generalize okL z0 z1 z2 z3 z4 z5 z6 z7 = u0 at *
  generalize okL z8 z9 z10 z11 z12 z13 z14 z15 = u1 at *
  generalize okB z16 z17 z18 z19 z20 z21 z22 z23 z24 z25 z26 z27 = u2 at *
  generalize okI z16 z17 z18 z19 = u3 at *
  obtain ⟨q0, x0, x1, j0, h0⟩ := fmade_any (hz z40 (by simp)) (hz z41 (by simp))
  have F0 := Lib.hid (lfrac_0 (n0 := z40) (n1 := z41) (n2 := z42) (n3 := z43) (n4 := z44) (n5 := z45) (n6 := z46) (n7 := z47) (n8 := z48) (n9 := z49) (n10 := z50) (n11 := z51) (n12 := z52) (n13 := z53) (n14 := z54) (n15 := z55) (n16 := z56) (n17 := z57) (n18 := z58) (n19 := z59) (n20 := z60) (n21 := z61) (n22 := z62) (n23 := z63) h0)
  clear h0
  obtain ⟨q2, x2, x3, j2, h2⟩ := fmade_any (hz z42 (by simp)) (hz z43 (by simp))
  have F2 := Lib.hid (lfrac_2 (n0 := z40) (n1 := z41) (n2 := z42) (n3 := z43) (n4 := z44) (n5 := z45) (n6 := z46) (n7 := z47) (n8 := z48) (n9 := z49) (n10 := z50) (n11 := z51) (n12 := z52) (n13 := z53) (n14 := z54) (n15 := z55) (n16 := z56) (n17 := z57) (n18 := z58) (n19 := z59) (n20 := z60) (n21 := z61) (n22 := z62) (n23 := z63) h2)
  clear h2
  obtain ⟨q4, x4, x5, j4, h4⟩ := fmade_any (hz z44 (by simp)) (hz z45 (by simp))
  have F4 := Lib.hid (lfrac_4 (n0 := z40) (n1 := z41) (n2 := z42) (n3 := z43) (n4 := z44) (n5 := z45) (n6 := z46) (n7 := z47) (n8 := z48) (n9 := z49) (n10 := z50) (n11 := z51) (n12 := z52) (n13 := z53) (n14 := z54) (n15 := z55) (n16 := z56) (n17 := z57) (n18 := z58) (n19 := z59) (n20 := z60) (n21 := z61) (n22 := z62) (n23 := z63) h4)
  clear h4
  obtain ⟨q6, x6, x7, j6, h6⟩ := fmade_any (hz z46 (by simp)) (hz z47 (by simp))
  have F6 := Lib.hid (lfrac_6 (n0 := z40) (n1 := z41) (n2 := z42) (n3 := z43) (n4 := z44) (n5 := z45) (n6 := z46) (n7 := z47) (n8 := z48) (n9 := z49) (n10 := z50) (n11 := z51) (n12 := z52) (n13 := z53) (n14 := z54) (n15 := z55) (n16 := z56) (n17 := z57) (n18 := z58) (n19 := z59) (n20 := z60) (n21 := z61) (n22 := z62) (n23 := z63) h6)
  clear h6
  obtain ⟨q8, e8, f8, j8, h8⟩ := fmade_any (hz z48 (by simp)) (hz z49 (by simp))
  have F8 := Lib.hid (lfrac_8 (n0 := z40) (n1 := z41) (n2 := z42) (n3 := z43) (n4 := z44) (n5 := z45) (n6 := z46) (n7 := z47) (n8 := z48) (n9 := z49) (n10 := z50) (n11 := z51) (n12 := z52) (n13 := z53) (n14 := z54) (n15 := z55) (n16 := z56) (n17 := z57) (n18 := z58) (n19 := z59) (n20 := z60) (n21 := z61) (n22 := z62) (n23 := z63) h8)
  clear h8
  obtain ⟨q10, e10, f10, j10, h10⟩ := fmade_any (hz z50 (by simp)) (hz z51 (by simp))
  have F10 := Lib.hid (lfrac_10 (n0 := z40) (n1 := z41) (n2 := z42) (n3 := z43) (n4 := z44) (n5 := z45) (n6 := z46) (n7 := z47) (n8 := z48) (n9 := z49) (n10 := z50) (n11 := z51) (n12 := z52) (n13 := z53) (n14 := z54) (n15 := z55) (n16 := z56) (n17 := z57) (n18 := z58) (n19 := z59) (n20 := z60) (n21 := z61) (n22 := z62) (n23 := z63) h10)
  clear h10
  obtain ⟨q12, e12, f12, j12, h12⟩ := fmade_any (hz z52 (by simp)) (hz z53 (by simp))
  have F12 := Lib.hid (lfrac_12 (n0 := z40) (n1 := z41) (n2 := z42) (n3 := z43) (n4 := z44) (n5 := z45) (n6 := z46) (n7 := z47) (n8 := z48) (n9 := z49) (n10 := z50) (n11 := z51) (n12 := z52) (n13 := z53) (n14 := z54) (n15 := z55) (n16 := z56) (n17 := z57) (n18 := z58) (n19 := z59) (n20 := z60) (n21 := z61) (n22 := z62) (n23 := z63) h12)
  clear h12
  obtain ⟨q14, e14, f14, j14, h14⟩ := fmade_any (hz z54 (by simp)) (hz z55 (by simp))
  have F14 := Lib.hid (lfrac_14 (n0 := z40) (n1 := z41) (n2 := z42) (n3 := z43) (n4 := z44) (n5 := z45) (n6 := z46) (n7 := z47) (n8 := z48) (n9 := z49) (n10 := z50) (n11 := z51) (n12 := z52) (n13 := z53) (n14 := z54) (n15 := z55) (n16 := z56) (n17 := z57) (n18 := z58) (n19 := z59) (n20 := z60) (n21 := z61) (n22 := z62) (n23 := z63) h14)
  clear h14
  obtain ⟨q16, e16, f16, j16, h16⟩ := fmade_any (hz z56 (by simp)) (hz z57 (by simp))
  have F16 := Lib.hid (lfrac_16 (n0 := z40) (n1 := z41) (n2 := z42) (n3 := z43) (n4 := z44) (n5 := z45) (n6 := z46) (n7 := z47) (n8 := z48) (n9 := z49) (n10 := z50) (n11 := z51) (n12 := z52) (n13 := z53) (n14 := z54) (n15 := z55) (n16 := z56) (n17 := z57) (n18 := z58) (n19 := z59) (n20 := z60) (n21 := z61) (n22 := z62) (n23 := z63) h16)
  clear h16
  obtain ⟨q18, e18, f18, j18, h18⟩ := fmade_any (hz z58 (by simp)) (hz z59 (by simp))
  have F18 := Lib.hid (lfrac_18 (n0 := z40) (n1 := z41) (n2 := z42) (n3 := z43) (n4 := z44) (n5 := z45) (n6 := z46) (n7 := z47) (n8 := z48) (n9 := z49) (n10 := z50) (n11 := z51) (n12 := z52) (n13 := z53) (n14 := z54) (n15 := z55) (n16 := z56) (n17 := z57) (n18 := z58) (n19 := z59) (n20 := z60) (n21 := z61) (n22 := z62) (n23 := z63) h18)
  clear h18
  obtain ⟨q20, p0, p1, j20, h20⟩ := fmade_any (hz z60 (by simp)) (hz z61 (by simp))
  have F20 := Lib.hid (lfrac_20 (n0 := z40) (n1 := z41) (n2 := z42) (n3 := z43) (n4 := z44) (n5 := z45) (n6 := z46) (n7 := z47) (n8 := z48) (n9 := z49) (n10 := z50) (n11 := z51) (n12 := z52) (n13 := z53) (n14 := z54) (n15 := z55) (n16 := z56) (n17 := z57) (n18 := z58) (n19 := z59) (n20 := z60) (n21 := z61) (n22 := z62) (n23 := z63) h20)
  clear h20
  obtain ⟨q22, p2, p3, j22, h22⟩ := fmade_any (hz z62 (by simp)) (hz z63 (by simp))
  have F22 := Lib.hid (lfrac_22 (n0 := z40) (n1 := z41) (n2 := z42) (n3 := z43) (n4 := z44) (n5 := z45) (n6 := z46) (n7 := z47) (n8 := z48) (n9 := z49) (n10 := z50) (n11 := z51) (n12 := z52) (n13 := z53) (n14 := z54) (n15 := z55) (n16 := z56) (n17 := z57) (n18 := z58) (n19 := z59) (n20 := z60) (n21 := z61) (n22 := z62) (n23 := z63) h22)
  clear h22
  obtain ⟨q1, p4, p5, j1, h1⟩ := fmade_any (hz z41 (by simp)) (hz z42 (by simp))
  have F1 := Lib.hid (lfrac_1 (n0 := z40) (n1 := z41) (n2 := z42) (n3 := z43) (n4 := z44) (n5 := z45) (n6 := z46) (n7 := z47) (n8 := z48) (n9 := z49) (n10 := z50) (n11 := z51) (n12 := z52) (n13 := z53) (n14 := z54) (n15 := z55) (n16 := z56) (n17 := z57) (n18 := z58) (n19 := z59) (n20 := z60) (n21 := z61) (n22 := z62) (n23 := z63) h1)
  clear h1
  clear hz
  obtain ⟨c0, c1, c2, c3, i8⟩ := isI_fit (i := ⟨rmin q8 q10, rmax q8 q10⟩) (min_fit j8.fit j10.fit) (max_fit j8.fit j10.fit)
  have G8 := Lib.hid (lspread_8 F8.out F10.out j8 j10 i8)
  obtain ⟨c4, c5, c6, c7, i12⟩ := isI_fit (i := ⟨rmin q12 q14, rmax q12 q14⟩) (min_fit j12.fit j14.fit) (max_fit j12.fit j14.fit)
  have G12 := Lib.hid (lspread_12 F12.out F14.out j12 j14 i12)
  obtain ⟨c8, c9, c10, c11, i16⟩ := isI_fit (i := ⟨rmin q16 q18, rmax q16 q18⟩) (min_fit j16.fit j18.fit) (max_fit j16.fit j18.fit)
  have G16 := Lib.hid (lspread_16 F16.out F18.out j16 j18 i16)
  have ix : IsL ⟨q0, q2, q4, q6⟩ x0 x1 x2 x3 x4 x5 x6 x7 := ⟨j0, j2, j4, j6⟩
  have ip : IsP ⟨q20, q22, q1⟩ p0 p1 p2 p3 p4 p5 := ⟨j20, j22, j1⟩
  have ic : IsBx ⟨⟨rmin q8 q10, rmax q8 q10⟩, ⟨rmin q12 q14, rmax q12 q14⟩, ⟨rmin q16 q18, rmax q16 q18⟩⟩ c0 c1 c2 c3 c4 c5 c6 c7 c8 c9 c10 c11 := ⟨i8, i12, i16⟩
  clear j0 j2 j4 j6 j8 j10 j12 j14 j16 j18 j22 j1 i8 i12 i16
  have jp := j20
  clear j20
  obtain ⟨y0, y1, y2, y3, y4, y5, y6, y7, iy⟩ := isL_of (linQ_gr l) (by decide) (by decide) (by decide)
  obtain ⟨d0, d1, d2, d3, d4, d5, d6, d7, d8, d9, d10, d11, id⟩ := isBx_of (boxQ_gr t) (by decide) (by decide) (by decide)
  have TL := Lib.hid (rlinear_ (c := c) hA hn hl hs iy)
  have TB := Lib.hid (rbox_ (c := d) hB hm ht hr id)
  have okd := boxQ_ok t
  clear hA hn hl hs hB hm ht hr
  generalize linQ l = y at *
  generalize boxQ t = bd at *
  generalize LQ.mk q0 q2 q4 q6 = x at *
  generalize PQ.mk q20 q22 q1 = p at *
  generalize BQ.mk ⟨rmin q8 q10, rmax q8 q10⟩ ⟨rmin q12 q14, rmax q12 q14⟩ ⟨rmin q16 q18, rmax q16 q18⟩ = bc at *
  generalize q20 = q at *
  obtain ⟨v0, v1, ve, hv, _⟩ := resF_ways (x.at p) (fun r h => at_fit ix.k.fit h)
  have A1 := Lib.hid (lat ix ip hv)
  have A2 := Lib.hid (rat_ ix ip hv)
  clear hv
  obtain ⟨ra0, ra1, ra2, ra3, rae, hv⟩ := resI_ways (x.range bc) (fun r h => range_fit ix.k.fit h)
  have P0 := Lib.hid (lranged ix ic hv)
  have Q0 := Lib.hid (rrange_ ix ic hv)
  clear hv
  obtain ⟨rb0, rb1, rb2, rb3, rbe, hv⟩ := resI_ways (x.range bd) (fun r h => range_fit ix.k.fit h)
  have P1 := Lib.hid (lranged ix id hv)
  have Q1 := Lib.hid (rrange_ ix id hv)
  clear hv
  obtain ⟨rg0, rg1, rg2, rg3, rge, hv⟩ := resI_ways (y.range bd) (fun r h => range_fit iy.k.fit h)
  have P2 := Lib.hid (lranged iy id hv)
  have Q2 := Lib.hid (rrange_ iy id hv)
  clear hv
  obtain ⟨a0, a1, a2, a3, a4, a5, a6, a7, ae, hv, _⟩ := resL_ways (x.add y) (fun r h => fit4_fit h)
  have D1 := Lib.hid (ladded ix iy hv)
  have D2 := Lib.hid (radd4_ ix iy hv)
  clear hv
  obtain ⟨k0, k1, k2, k3, k4, k5, k6, k7, ke, hv, _⟩ := resL_ways (x.scale q) (fun r h => fit4_fit h)
  have K1 := Lib.hid (lscaled ix jp hv)
  have K2 := Lib.hid (rscale_ ix jp hv)
  clear hv
  obtain ⟨s0, s1, s2, s3, s4, s5, s6, s7, se, hv, _⟩ := resL_ways (sumO zeroQ [x, y, x]) (fun r h => sum_fit _ _ _ zero_fit h)
  have S1 := Lib.hid (fun (W1 : World) (b : Nat) (h : BoxL W1 b #[.int .i64 x0, .int .i64 x1, .int .i64 x2, .int .i64 x3, .int .i64 x4, .int .i64 x5, .int .i64 x6, .int .i64 x7, .int .i64 y0, .int .i64 y1, .int .i64 y2, .int .i64 y3, .int .i64 y4, .int .i64 y5, .int .i64 y6, .int .i64 y7, .int .i64 x0, .int .i64 x1, .int .i64 x2, .int .i64 x3, .int .i64 x4, .int .i64 x5, .int .i64 x6, .int .i64 x7]) => sum3_ h ix iy ix hv)
  have S2 := Lib.hid (fun (W1 : World) (b : Nat) (h : BoxL W1 b #[.int .i64 x0, .int .i64 x1, .int .i64 x2, .int .i64 x3, .int .i64 x4, .int .i64 x5, .int .i64 x6, .int .i64 x7, .int .i64 y0, .int .i64 y1, .int .i64 y2, .int .i64 y3, .int .i64 y4, .int .i64 y5, .int .i64 y6, .int .i64 y7, .int .i64 x0, .int .i64 x1, .int .i64 x2, .int .i64 x3, .int .i64 x4, .int .i64 x5, .int .i64 x6, .int .i64 x7]) => rsum3_ h ix iy ix hv)
  clear hv
  obtain ⟨w0, w1, w2, w3, we, hv⟩ := resI_ways (bc.t.plus bc.v) (fun r h => plus_fit h)
  have L1 := Lib.hid (lplus ic.t ic.v hv)
  have L2 := Lib.hid (rplus_ ic.t ic.v hv)
  clear hv
  obtain ⟨h0, h1, h2, h3, hv⟩ := isI_fit (i := bc.t.hull bd.t) (min_fit ic.t.lo.fit id.t.lo.fit) (max_fit ic.t.hi.fit id.t.hi.fit)
  have H1 := Lib.hid (hull ic.t id.t hv)
  have H2 := Lib.hid (rhull ic.t id.t hv)
  clear hv
  have C1 := contains ic.t jp
  have C2 := rcontains ic.t jp
  have I1 := within ic.t id.v
  have I2 := rwithin ic.t id.v
  have N1 := inside ic id
  have N2 := rinside ic id
  have N3 := Lib.hid ((inside id id).eq (congrArg Value.bool (inB_same okd)))
  generalize bc.t.hasB q = u4 at *
  generalize bc.t.inB bd.v = u5 at *
  generalize bc.inB bd = u6 at *
  have C1 := Lib.hid C1
  have C2 := Lib.hid C2
  have I1 := Lib.hid I1
  have I2 := Lib.hid I2
  have N1 := Lib.hid N1
  have N2 := Lib.hid N2
  have EX := Lib.hid examples_
  clear ix iy ic id ip jp okd
  intro W0 HB0
  have TL := Lib.hid (TL.out.mono HB0)
  have TB := Lib.hid (TB.out.mono HB0)
  clear HB0
  go_enter Try.func3, Try.ntmps3
  go_upto_region 1 with fail
  have hst := start1 W0 (#[.int .i64 z0, .int .i64 z1, .int .i64 z2, .int .i64 z3, .int .i64 z4, .int .i64 z5, .int .i64 z6, .int .i64 z7, .int .i64 z8, .int .i64 z9, .int .i64 z10, .int .i64 z11, .int .i64 z12, .int .i64 z13, .int .i64 z14, .int .i64 z15, .int .i64 z16, .int .i64 z17, .int .i64 z18, .int .i64 z19, .int .i64 z20, .int .i64 z21, .int .i64 z22, .int .i64 z23, .int .i64 z24, .int .i64 z25, .int .i64 z26, .int .i64 z27, .int .i64 z28, .int .i64 z29, .int .i64 z30, .int .i64 z31, .int .i64 z32, .int .i64 z33, .int .i64 z34, .int .i64 z35, .int .i64 z36, .int .i64 z37, .int .i64 z38, .int .i64 z39, .int .i64 z40, .int .i64 z41, .int .i64 z42, .int .i64 z43, .int .i64 z44, .int .i64 z45, .int .i64 z46, .int .i64 z47, .int .i64 z48, .int .i64 z49, .int .i64 z50, .int .i64 z51, .int .i64 z52, .int .i64 z53, .int .i64 z54, .int .i64 z55, .int .i64 z56, .int .i64 z57, .int .i64 z58, .int .i64 z59, .int .i64 z60, .int .i64 z61, .int .i64 z62, .int .i64 z63, .int .i64 z64, .int .i64 z65, .int .i64 z66, .int .i64 z67, .int .i64 z68, .int .i64 z69]) 33
  generalize (W0.alloc (.cells #[.int .i64 z0, .int .i64 z1, .int .i64 z2, .int .i64 z3, .int .i64 z4, .int .i64 z5, .int .i64 z6, .int .i64 z7, .int .i64 z8, .int .i64 z9, .int .i64 z10, .int .i64 z11, .int .i64 z12, .int .i64 z13, .int .i64 z14, .int .i64 z15, .int .i64 z16, .int .i64 z17, .int .i64 z18, .int .i64 z19, .int .i64 z20, .int .i64 z21, .int .i64 z22, .int .i64 z23, .int .i64 z24, .int .i64 z25, .int .i64 z26, .int .i64 z27, .int .i64 z28, .int .i64 z29, .int .i64 z30, .int .i64 z31, .int .i64 z32, .int .i64 z33, .int .i64 z34, .int .i64 z35, .int .i64 z36, .int .i64 z37, .int .i64 z38, .int .i64 z39, .int .i64 z40, .int .i64 z41, .int .i64 z42, .int .i64 z43, .int .i64 z44, .int .i64 z45, .int .i64 z46, .int .i64 z47, .int .i64 z48, .int .i64 z49, .int .i64 z50, .int .i64 z51, .int .i64 z52, .int .i64 z53, .int .i64 z54, .int .i64 z55, .int .i64 z56, .int .i64 z57, .int .i64 z58, .int .i64 z59, .int .i64 z60, .int .i64 z61, .int .i64 z62, .int .i64 z63, .int .i64 z64, .int .i64 z65, .int .i64 z66, .int .i64 z67, .int .i64 z68, .int .i64 z69] 33)) = Wx3 at *
  obtain ⟨mx1, Bx2⟩ := hst
  have ltx4 := mx1.lt
  go_wp2_with fail
  refine (EX.out.at _).mono ?_
  rintro o Wx5 ⟨rfl, hbx6⟩
  have mx7 := mx1.keep hbx6
  have Bx8 := Bx2.trans (hbx6.mono Bx2.size)
  have szx9 := hbx6.size
  clear mx1 Bx2 hbx6
  go_upto_region 4 with fail
  have rgx10 : ∀ wq, (∃ pq : Later Wx5, wq = pq.val) → wq.rangeAt (W0.heap.size) 0 [.int .i64 z0, .int .i64 z1, .int .i64 z2, .int .i64 z3, .int .i64 z4, .int .i64 z5, .int .i64 z6, .int .i64 z7] := BoxL.range mx7 (Below.refl _ _) 0 8
  have rgx11 : ∀ wq, (∃ pq : Later Wx5, wq = pq.val) → wq.rangeAt (W0.heap.size) 8 [.int .i64 z8, .int .i64 z9, .int .i64 z10, .int .i64 z11, .int .i64 z12, .int .i64 z13, .int .i64 z14, .int .i64 z15] := BoxL.range mx7 (Below.refl _ _) 8 8
  have rgx12 : ∀ wq, (∃ pq : Later Wx5, wq = pq.val) → wq.rangeAt (W0.heap.size) 16 [.int .i64 z16, .int .i64 z17, .int .i64 z18, .int .i64 z19, .int .i64 z20, .int .i64 z21, .int .i64 z22, .int .i64 z23, .int .i64 z24, .int .i64 z25, .int .i64 z26, .int .i64 z27] := BoxL.range mx7 (Below.refl _ _) 16 12
  have rgx13 : ∀ wq, (∃ pq : Later Wx5, wq = pq.val) → wq.rangeAt (W0.heap.size) 16 [.int .i64 z16, .int .i64 z17, .int .i64 z18, .int .i64 z19] := BoxL.range mx7 (Below.refl _ _) 16 4
  refine wp_region_later (by kernel_rfl) (by kernel_rfl) ?_
  repeat (first | (refine wpQuiet_load (by rfl) (by rfl) (by rfl) rgx10 (by rfl) (by rfl) 8 (by rfl) (by decide +kernel) ?_; simp only [Act.put, List.setIfInBounds_toArray, List.set_cons_succ, List.set_cons_zero]) | (refine wpQuiet_load (by rfl) (by rfl) (by rfl) rgx11 (by rfl) (by rfl) 8 (by rfl) (by decide +kernel) ?_; simp only [Act.put, List.setIfInBounds_toArray, List.set_cons_succ, List.set_cons_zero]) | (refine wpQuiet_load (by rfl) (by rfl) (by rfl) rgx12 (by rfl) (by rfl) 12 (by rfl) (by decide +kernel) ?_; simp only [Act.put, List.setIfInBounds_toArray, List.set_cons_succ, List.set_cons_zero]) | (refine wpQuiet_load (by rfl) (by rfl) (by rfl) rgx13 (by rfl) (by rfl) 4 (by rfl) (by decide +kernel) ?_; simp only [Act.put, List.setIfInBounds_toArray, List.set_cons_succ, List.set_cons_zero]) | go_big_quiet_step (((first | (go_at_call 10; first | with_reducible exact later_of ((VL.out.at _)) | with_reducible exact later_of ((VM.out.at _))) | (go_at_call 11; first | with_reducible exact later_of ((RL.out.at _)) | with_reducible exact later_of ((RM.out.at _))) | (go_at_call 12; with_reducible exact later_of ((VB.out.at _))) | (go_at_call 13; with_reducible exact later_of ((RB.out.at _))) | (go_at_call 14; with_reducible exact later_of ((VI.out.at _))) | (go_at_call 15; with_reducible exact later_of ((RI.out.at _)))))))
  refine wpQuiet_nil ?_
  intro _ hw'
  obtain ⟨zx14, hw''⟩ := hw'
  subst hw''
  clear rgx10 rgx11 rgx12 rgx13
  have hbx15 := zx14.below
  have mx16 := mx7.keep hbx15
  have Bx17 := Bx8.trans (hbx15.mono Bx8.size)
  have szx18 := hbx15.size
  clear mx7 Bx8 hbx15
  go_upto_region 6 with fail
  have ltx19 := mx16.lt
  refine wp_region_free2 (agf := ?frx20) 17 15 16 zrL zrL (by kernel_rfl) [] (by kernel_rfl) (fun d _ _ _ _ h => by cases d <;> exact h) (by decide) (by rfl) (by rfl) (by rfl) (by rfl) ?frx201 ?frx202
  case frx201 =>
    intro W hW
    have rgx21 : ∀ wq, (∃ pq : Later W, wq = pq.val) → wq.rangeAt (W0.heap.size) 40 [.int .i64 z40, .int .i64 z41, .int .i64 z42, .int .i64 z43, .int .i64 z44, .int .i64 z45, .int .i64 z46, .int .i64 z47, .int .i64 z48, .int .i64 z49, .int .i64 z50, .int .i64 z51, .int .i64 z52, .int .i64 z53, .int .i64 z54, .int .i64 z55, .int .i64 z56, .int .i64 z57, .int .i64 z58, .int .i64 z59, .int .i64 z60, .int .i64 z61, .int .i64 z62, .int .i64 z63] := BoxL.range mx16 hW 40 24
    have BW := Bx17.trans (hW.mono Bx17.size)
    have Gx22 := Lib.hid (fun p => DoesIn.later TL.out BW p)
    simp only [List.take_succ_cons, List.take_zero, ghostL, List.contains_cons, List.contains_nil, Nat.reduceAdd, Nat.reduceBEq, Bool.or_false, Bool.or_true, Bool.true_or, Bool.false_or, Bool.false_eq_true, if_false, if_true, ghostO]
    repeat (first | (refine wpQuiet_load (by rfl) (by rfl) (by rfl) rgx21 (by rfl) (by rfl) 24 (by rfl) (by decide +kernel) ?_; simp only [Act.put, List.setIfInBounds_toArray, List.set_cons_succ, List.set_cons_zero]) | go_big_quiet_step (((first | (go_at_call 16; first | with_reducible exact later_of ((F0.out.at _)) | with_reducible exact later_of ((F2.out.at _)) | with_reducible exact later_of ((F4.out.at _)) | with_reducible exact later_of ((F6.out.at _))) | (go_at_call 17; with_reducible exact later_of ((Gx22.out _)))))))
    refine wpQuiet_nil ?_
    rfl
  case frx202 =>
    intro bx25 bx26 Wx23 hbx24 mx27 mx28 gx29 gx30 nex31
    simp only [List.drop_succ_cons, List.drop_zero, Act.put, List.setIfInBounds_toArray, List.set_cons_succ, List.set_cons_zero]
    have mx32 := mx16.keep hbx24
    have Bx33 := Bx17.trans (hbx24.mono Bx17.size)
    have szx34 := hbx24.size
    clear mx16 Bx17 hbx24
    have ltx35 := mx27.lt
    have ltx36 := mx28.lt
    obtain ⟨c_x0, c_x1, c_x2, c_x3, c_x4, c_x5, c_x6, c_x7⟩ := mx27.c8
    obtain ⟨f_x0, f_x1, f_x2, f_x3, f_x4, f_x5, f_x6, f_x7⟩ := mx27.f8
    obtain ⟨c_y0, c_y1, c_y2, c_y3, c_y4, c_y5, c_y6, c_y7⟩ := mx28.c8
    obtain ⟨f_y0, f_y1, f_y2, f_y3, f_y4, f_y5, f_y6, f_y7⟩ := mx28.f8
    go_upto_region 7 with fail
    clear c_x0 c_x1 c_x2 c_x3 c_x4 c_x5 c_x6 c_x7 f_x0 f_x1 f_x2 f_x3 f_x4 f_x5 f_x6 f_x7
    clear c_y0 c_y1 c_y2 c_y3 c_y4 c_y5 c_y6 c_y7 f_y0 f_y1 f_y2 f_y3 f_y4 f_y5 f_y6 f_y7
    have mx38 := mx27.s8 (.int .i64 x0) (.int .i64 x1) (.int .i64 x2) (.int .i64 x3) (.int .i64 x4) (.int .i64 x5) (.int .i64 x6) (.int .i64 x7)
    have mx39 := mx32.z8 (b := bx25) (by omega) (.int .i64 x0) (.int .i64 x1) (.int .i64 x2) (.int .i64 x3) (.int .i64 x4) (.int .i64 x5) (.int .i64 x6) (.int .i64 x7)
    have mx40 := mx28.z8 (b := bx25) (by omega) (.int .i64 x0) (.int .i64 x1) (.int .i64 x2) (.int .i64 x3) (.int .i64 x4) (.int .i64 x5) (.int .i64 x6) (.int .i64 x7)
    have Bx41 := below_s8 (b := bx25) Bx33 (by omega) (.int .i64 x0) (.int .i64 x1) (.int .i64 x2) (.int .i64 x3) (.int .i64 x4) (.int .i64 x5) (.int .i64 x6) (.int .i64 x7)
    have ltx42 := mx38.lt
    generalize ((((((((Wx23.setCell ⟨bx25, 0, none⟩ (.int .i64 x0)).setCell ⟨bx25, 1, none⟩ (.int .i64 x1)).setCell ⟨bx25, 2, none⟩ (.int .i64 x2)).setCell ⟨bx25, 3, none⟩ (.int .i64 x3)).setCell ⟨bx25, 4, none⟩ (.int .i64 x4)).setCell ⟨bx25, 5, none⟩ (.int .i64 x5)).setCell ⟨bx25, 6, none⟩ (.int .i64 x6)).setCell ⟨bx25, 7, none⟩ (.int .i64 x7)) = Wx37 at *
    clear mx27 mx32 mx28 Bx33
    have mx44 := mx40.s8 (.int .i64 y0) (.int .i64 y1) (.int .i64 y2) (.int .i64 y3) (.int .i64 y4) (.int .i64 y5) (.int .i64 y6) (.int .i64 y7)
    have mx45 := mx39.z8 (b := bx26) (by omega) (.int .i64 y0) (.int .i64 y1) (.int .i64 y2) (.int .i64 y3) (.int .i64 y4) (.int .i64 y5) (.int .i64 y6) (.int .i64 y7)
    have mx46 := mx38.z8 (b := bx26) (by omega) (.int .i64 y0) (.int .i64 y1) (.int .i64 y2) (.int .i64 y3) (.int .i64 y4) (.int .i64 y5) (.int .i64 y6) (.int .i64 y7)
    have Bx47 := below_s8 (b := bx26) Bx41 (by omega) (.int .i64 y0) (.int .i64 y1) (.int .i64 y2) (.int .i64 y3) (.int .i64 y4) (.int .i64 y5) (.int .i64 y6) (.int .i64 y7)
    have ltx48 := mx44.lt
    generalize ((((((((Wx37.setCell ⟨bx26, 0, none⟩ (.int .i64 y0)).setCell ⟨bx26, 1, none⟩ (.int .i64 y1)).setCell ⟨bx26, 2, none⟩ (.int .i64 y2)).setCell ⟨bx26, 3, none⟩ (.int .i64 y3)).setCell ⟨bx26, 4, none⟩ (.int .i64 y4)).setCell ⟨bx26, 5, none⟩ (.int .i64 y5)).setCell ⟨bx26, 6, none⟩ (.int .i64 y6)).setCell ⟨bx26, 7, none⟩ (.int .i64 y7)) = Wx43 at *
    clear mx40 mx39 mx38 Bx41
    have ltx49 := mx45.lt
    have ltx50 := mx46.lt
    have ltx51 := mx44.lt
    refine wp_region_free1 (agf := ?frx52) 11 10 zrB (by kernel_rfl) [] (by kernel_rfl) (fun d _ _ _ _ h => by cases d <;> exact h) (by rfl) (by rfl) ?frx521 ?frx522
    case frx521 =>
      intro W hW
      have rgx53 : ∀ wq, (∃ pq : Later W, wq = pq.val) → wq.rangeAt (W0.heap.size) 40 [.int .i64 z40, .int .i64 z41, .int .i64 z42, .int .i64 z43, .int .i64 z44, .int .i64 z45, .int .i64 z46, .int .i64 z47, .int .i64 z48, .int .i64 z49, .int .i64 z50, .int .i64 z51, .int .i64 z52, .int .i64 z53, .int .i64 z54, .int .i64 z55, .int .i64 z56, .int .i64 z57, .int .i64 z58, .int .i64 z59, .int .i64 z60, .int .i64 z61, .int .i64 z62, .int .i64 z63] := BoxL.range mx45 hW 40 24
      simp only [List.take_succ_cons, List.take_zero, ghostL, List.contains_cons, List.contains_nil, Nat.reduceAdd, Nat.reduceBEq, Bool.or_false, Bool.or_true, Bool.true_or, Bool.false_or, Bool.false_eq_true, if_false, if_true, ghostO]
      repeat (first | (refine wpQuiet_load (by rfl) (by rfl) (by rfl) rgx53 (by rfl) (by rfl) 24 (by rfl) (by decide +kernel) ?_; simp only [Act.put, List.setIfInBounds_toArray, List.set_cons_succ, List.set_cons_zero]) | go_big_quiet_step (((go_at_call 18; first | with_reducible exact later_of ((G8.out.at _)) | with_reducible exact later_of ((G12.out.at _)) | with_reducible exact later_of ((G16.out.at _))))))
      refine wpQuiet_nil ?_
      rfl
    case frx522 =>
      intro bx56 Wx54 hbx55 mx57 gx58 
      simp only [List.drop_succ_cons, List.drop_zero, Act.put, List.setIfInBounds_toArray, List.set_cons_succ, List.set_cons_zero]
      have mx59 := mx45.keep hbx55
      have mx60 := mx46.keep hbx55
      have mx61 := mx44.keep hbx55
      have Bx62 := Bx47.trans (hbx55.mono Bx47.size)
      have szx63 := hbx55.size
      clear mx45 mx46 mx44 Bx47 hbx55
      have ltx64 := mx57.lt
      obtain ⟨c_c0, c_c1, c_c2, c_c3, c_c4, c_c5, c_c6, c_c7, c_c8, c_c9, c_c10, c_c11⟩ := mx57.c12
      obtain ⟨f_c0, f_c1, f_c2, f_c3, f_c4, f_c5, f_c6, f_c7, f_c8, f_c9, f_c10, f_c11⟩ := mx57.f12
      go_upto_region 8 with fail
      clear c_c0 c_c1 c_c2 c_c3 c_c4 c_c5 c_c6 c_c7 c_c8 c_c9 c_c10 c_c11 f_c0 f_c1 f_c2 f_c3 f_c4 f_c5 f_c6 f_c7 f_c8 f_c9 f_c10 f_c11
      have mx66 := mx57.s12 (.int .i64 c0) (.int .i64 c1) (.int .i64 c2) (.int .i64 c3) (.int .i64 c4) (.int .i64 c5) (.int .i64 c6) (.int .i64 c7) (.int .i64 c8) (.int .i64 c9) (.int .i64 c10) (.int .i64 c11)
      have mx67 := mx59.z12 (b := bx56) (by omega) (.int .i64 c0) (.int .i64 c1) (.int .i64 c2) (.int .i64 c3) (.int .i64 c4) (.int .i64 c5) (.int .i64 c6) (.int .i64 c7) (.int .i64 c8) (.int .i64 c9) (.int .i64 c10) (.int .i64 c11)
      have mx68 := mx60.z12 (b := bx56) (by omega) (.int .i64 c0) (.int .i64 c1) (.int .i64 c2) (.int .i64 c3) (.int .i64 c4) (.int .i64 c5) (.int .i64 c6) (.int .i64 c7) (.int .i64 c8) (.int .i64 c9) (.int .i64 c10) (.int .i64 c11)
      have mx69 := mx61.z12 (b := bx56) (by omega) (.int .i64 c0) (.int .i64 c1) (.int .i64 c2) (.int .i64 c3) (.int .i64 c4) (.int .i64 c5) (.int .i64 c6) (.int .i64 c7) (.int .i64 c8) (.int .i64 c9) (.int .i64 c10) (.int .i64 c11)
      have Bx70 := below_s12 (b := bx56) Bx62 (by omega) (.int .i64 c0) (.int .i64 c1) (.int .i64 c2) (.int .i64 c3) (.int .i64 c4) (.int .i64 c5) (.int .i64 c6) (.int .i64 c7) (.int .i64 c8) (.int .i64 c9) (.int .i64 c10) (.int .i64 c11)
      have ltx71 := mx66.lt
      generalize ((((((((((((Wx54.setCell ⟨bx56, 0, none⟩ (.int .i64 c0)).setCell ⟨bx56, 1, none⟩ (.int .i64 c1)).setCell ⟨bx56, 2, none⟩ (.int .i64 c2)).setCell ⟨bx56, 3, none⟩ (.int .i64 c3)).setCell ⟨bx56, 4, none⟩ (.int .i64 c4)).setCell ⟨bx56, 5, none⟩ (.int .i64 c5)).setCell ⟨bx56, 6, none⟩ (.int .i64 c6)).setCell ⟨bx56, 7, none⟩ (.int .i64 c7)).setCell ⟨bx56, 8, none⟩ (.int .i64 c8)).setCell ⟨bx56, 9, none⟩ (.int .i64 c9)).setCell ⟨bx56, 10, none⟩ (.int .i64 c10)).setCell ⟨bx56, 11, none⟩ (.int .i64 c11)) = Wx65 at *
      clear mx57 mx59 mx60 mx61 Bx62
      refine wp_region_plain_tail 2 ?_
      simp only [List.take_succ_cons, List.take_zero, List.drop_succ_cons, List.drop_zero]
      have Gx73 := Lib.hid (fun p => DoesIn.later TB.out Bx70 p)
      repeat (go_big_quiet_step (((go_at_call 19; with_reducible exact later_of ((Gx73.out _))))))
      refine wpQuiet_nil ?_
      intro _ hw'
      obtain ⟨zx72, hw''⟩ := hw'
      subst hw''
      clear Gx73
      have hbx74 := zx72.below
      have mx75 := mx67.keep hbx74
      have mx76 := mx68.keep hbx74
      have mx77 := mx69.keep hbx74
      have mx78 := mx66.keep hbx74
      have Bx79 := Bx70.trans (hbx74.mono Bx70.size)
      have szx80 := hbx74.size
      clear mx67 mx68 mx69 mx66 Bx70 hbx74
      go_upto_region 9 with fail
      have mx81 := BoxL.new zx72.val #[.int .i64 d0, .int .i64 d1, .int .i64 d2, .int .i64 d3, .int .i64 d4, .int .i64 d5, .int .i64 d6, .int .i64 d7, .int .i64 d8, .int .i64 d9, .int .i64 d10, .int .i64 d11] 29
      have hbx82 := (Below.refl zx72.val.heap.size zx72.val).alloc (Nat.le_refl _) (.cells #[.int .i64 d0, .int .i64 d1, .int .i64 d2, .int .i64 d3, .int .i64 d4, .int .i64 d5, .int .i64 d6, .int .i64 d7, .int .i64 d8, .int .i64 d9, .int .i64 d10, .int .i64 d11] 29)
      have ltx84 := mx75.lt
      have ltx85 := mx76.lt
      have ltx86 := mx77.lt
      have ltx87 := mx78.lt
      have mx88 := mx75.keep hbx82
      have mx89 := mx76.keep hbx82
      have mx90 := mx77.keep hbx82
      have mx91 := mx78.keep hbx82
      have Bx92 := Bx79.trans (hbx82.mono Bx79.size)
      have szx93 := hbx82.size
      clear mx75 mx76 mx77 mx78 Bx79 hbx82
      generalize zx72.val.alloc (.cells #[.int .i64 d0, .int .i64 d1, .int .i64 d2, .int .i64 d3, .int .i64 d4, .int .i64 d5, .int .i64 d6, .int .i64 d7, .int .i64 d8, .int .i64 d9, .int .i64 d10, .int .i64 d11] 29) = Wx83 at *
      have ltx94 := mx81.lt
      have ltx95 := mx88.lt
      have ltx96 := mx89.lt
      have ltx97 := mx90.lt
      have ltx98 := mx91.lt
      have ltx99 := mx81.lt
      refine wp_region_free1 (agf := ?frx100) 11 10 zrP3 (by kernel_rfl) [] (by kernel_rfl) (fun d _ _ _ _ h => by cases d <;> exact h) (by rfl) (by rfl) ?frx1001 ?frx1002
      case frx1001 =>
        intro W hW
        have rgx101 : ∀ wq, (∃ pq : Later W, wq = pq.val) → wq.rangeAt (W0.heap.size) 40 [.int .i64 z40, .int .i64 z41, .int .i64 z42, .int .i64 z43, .int .i64 z44, .int .i64 z45, .int .i64 z46, .int .i64 z47, .int .i64 z48, .int .i64 z49, .int .i64 z50, .int .i64 z51, .int .i64 z52, .int .i64 z53, .int .i64 z54, .int .i64 z55, .int .i64 z56, .int .i64 z57, .int .i64 z58, .int .i64 z59, .int .i64 z60, .int .i64 z61, .int .i64 z62, .int .i64 z63] := BoxL.range mx88 hW 40 24
        simp only [List.take_succ_cons, List.take_zero, ghostL, List.contains_cons, List.contains_nil, Nat.reduceAdd, Nat.reduceBEq, Bool.or_false, Bool.or_true, Bool.true_or, Bool.false_or, Bool.false_eq_true, if_false, if_true, ghostO]
        repeat (first | (refine wpQuiet_load (by rfl) (by rfl) (by rfl) rgx101 (by rfl) (by rfl) 24 (by rfl) (by decide +kernel) ?_; simp only [Act.put, List.setIfInBounds_toArray, List.set_cons_succ, List.set_cons_zero]) | go_big_quiet_step (((go_at_call 16; first | with_reducible exact later_of ((F20.out.at _)) | with_reducible exact later_of ((F22.out.at _)) | with_reducible exact later_of ((F1.out.at _))))))
        refine wpQuiet_nil ?_
        rfl
      case frx1002 =>
        intro bx104 Wx102 hbx103 mx105 gx106 
        simp only [List.drop_succ_cons, List.drop_zero, Act.put, List.setIfInBounds_toArray, List.set_cons_succ, List.set_cons_zero]
        have mx107 := mx88.keep hbx103
        have mx108 := mx89.keep hbx103
        have mx109 := mx90.keep hbx103
        have mx110 := mx91.keep hbx103
        have mx111 := mx81.keep hbx103
        have Bx112 := Bx92.trans (hbx103.mono Bx92.size)
        have szx113 := hbx103.size
        clear mx88 mx89 mx90 mx91 mx81 Bx92 hbx103
        have ltx114 := mx105.lt
        obtain ⟨c_p0, c_p1, c_p2, c_p3, c_p4, c_p5⟩ := mx105.c6
        obtain ⟨f_p0, f_p1, f_p2, f_p3, f_p4, f_p5⟩ := mx105.f6
        go_upto_region 10 with fail
        clear c_p0 c_p1 c_p2 c_p3 c_p4 c_p5 f_p0 f_p1 f_p2 f_p3 f_p4 f_p5
        have mx116 := mx105.s6 (.int .i64 p0) (.int .i64 p1) (.int .i64 p2) (.int .i64 p3) (.int .i64 p4) (.int .i64 p5)
        have mx117 := mx107.z6 (b := bx104) (by omega) (.int .i64 p0) (.int .i64 p1) (.int .i64 p2) (.int .i64 p3) (.int .i64 p4) (.int .i64 p5)
        have mx118 := mx108.z6 (b := bx104) (by omega) (.int .i64 p0) (.int .i64 p1) (.int .i64 p2) (.int .i64 p3) (.int .i64 p4) (.int .i64 p5)
        have mx119 := mx109.z6 (b := bx104) (by omega) (.int .i64 p0) (.int .i64 p1) (.int .i64 p2) (.int .i64 p3) (.int .i64 p4) (.int .i64 p5)
        have mx120 := mx110.z6 (b := bx104) (by omega) (.int .i64 p0) (.int .i64 p1) (.int .i64 p2) (.int .i64 p3) (.int .i64 p4) (.int .i64 p5)
        have mx121 := mx111.z6 (b := bx104) (by omega) (.int .i64 p0) (.int .i64 p1) (.int .i64 p2) (.int .i64 p3) (.int .i64 p4) (.int .i64 p5)
        have Bx122 := below_s6 (b := bx104) Bx112 (by omega) (.int .i64 p0) (.int .i64 p1) (.int .i64 p2) (.int .i64 p3) (.int .i64 p4) (.int .i64 p5)
        have ltx123 := mx116.lt
        generalize ((((((Wx102.setCell ⟨bx104, 0, none⟩ (.int .i64 p0)).setCell ⟨bx104, 1, none⟩ (.int .i64 p1)).setCell ⟨bx104, 2, none⟩ (.int .i64 p2)).setCell ⟨bx104, 3, none⟩ (.int .i64 p3)).setCell ⟨bx104, 4, none⟩ (.int .i64 p4)).setCell ⟨bx104, 5, none⟩ (.int .i64 p5)) = Wx115 at *
        clear mx105 mx107 mx108 mx109 mx110 mx111 Bx112
        obtain ⟨c_x0, c_x1, c_x2, c_x3, c_x4, c_x5, c_x6, c_x7⟩ := mx118.c8
        obtain ⟨c_y0, c_y1, c_y2, c_y3, c_y4, c_y5, c_y6, c_y7⟩ := mx119.c8
        go_wp2_with fail
        clear c_x0 c_x1 c_x2 c_x3 c_x4 c_x5 c_x6 c_x7
        clear c_y0 c_y1 c_y2 c_y3 c_y4 c_y5 c_y6 c_y7
        have mx124 := BoxL.new Wx115 #[.int .i64 x0, .int .i64 x1, .int .i64 x2, .int .i64 x3, .int .i64 x4, .int .i64 x5, .int .i64 x6, .int .i64 x7, .int .i64 y0, .int .i64 y1, .int .i64 y2, .int .i64 y3, .int .i64 y4, .int .i64 y5, .int .i64 y6, .int .i64 y7, .int .i64 x0, .int .i64 x1, .int .i64 x2, .int .i64 x3, .int .i64 x4, .int .i64 x5, .int .i64 x6, .int .i64 x7] 25
        have hbx125 := (Below.refl Wx115.heap.size Wx115).alloc (Nat.le_refl _) (.cells #[.int .i64 x0, .int .i64 x1, .int .i64 x2, .int .i64 x3, .int .i64 x4, .int .i64 x5, .int .i64 x6, .int .i64 x7, .int .i64 y0, .int .i64 y1, .int .i64 y2, .int .i64 y3, .int .i64 y4, .int .i64 y5, .int .i64 y6, .int .i64 y7, .int .i64 x0, .int .i64 x1, .int .i64 x2, .int .i64 x3, .int .i64 x4, .int .i64 x5, .int .i64 x6, .int .i64 x7] 25)
        have ltx127 := mx118.lt
        have ltx128 := mx119.lt
        have ltx129 := mx120.lt
        have ltx130 := mx121.lt
        have ltx131 := mx116.lt
        have mx132 := mx118.keep hbx125
        have mx133 := mx119.keep hbx125
        have mx134 := mx120.keep hbx125
        have mx135 := mx121.keep hbx125
        have mx136 := mx116.keep hbx125
        have Bx137 := Bx122.trans (hbx125.mono Bx122.size)
        have szx138 := hbx125.size
        clear mx118 mx119 mx120 mx121 mx116 Bx122 hbx125
        generalize Wx115.alloc (.cells #[.int .i64 x0, .int .i64 x1, .int .i64 x2, .int .i64 x3, .int .i64 x4, .int .i64 x5, .int .i64 x6, .int .i64 x7, .int .i64 y0, .int .i64 y1, .int .i64 y2, .int .i64 y3, .int .i64 y4, .int .i64 y5, .int .i64 y6, .int .i64 y7, .int .i64 x0, .int .i64 x1, .int .i64 x2, .int .i64 x3, .int .i64 x4, .int .i64 x5, .int .i64 x6, .int .i64 x7] 25) = Wx126 at *
        have ltx139 := mx124.lt
        refine ((S1.out _ _ mx124) _ (Below.refl _ _)).mono ?_
        rintro o Wx140 ⟨rfl, hbx141⟩
        have mx142 := mx132.keep hbx141
        have mx143 := mx133.keep hbx141
        have mx144 := mx134.keep hbx141
        have mx145 := mx135.keep hbx141
        have mx146 := mx136.keep hbx141
        have mx147 := mx124.keep hbx141
        have Bx148 := Bx137.trans (hbx141.mono Bx137.size)
        have szx149 := hbx141.size
        clear mx132 mx133 mx134 mx135 mx136 mx124 Bx137 hbx141
        go_upto_region 11 with fail
        have mx150 := BoxL.new Wx140 #[.int .i64 s0, .int .i64 s1, .int .i64 s2, .int .i64 s3, .int .i64 s4, .int .i64 s5, .int .i64 s6, .int .i64 s7] 25
        have hbx151 := (Below.refl Wx140.heap.size Wx140).alloc (Nat.le_refl _) (.cells #[.int .i64 s0, .int .i64 s1, .int .i64 s2, .int .i64 s3, .int .i64 s4, .int .i64 s5, .int .i64 s6, .int .i64 s7] 25)
        have ltx153 := mx142.lt
        have ltx154 := mx143.lt
        have ltx155 := mx144.lt
        have ltx156 := mx145.lt
        have ltx157 := mx146.lt
        have ltx158 := mx147.lt
        have mx159 := mx142.keep hbx151
        have mx160 := mx143.keep hbx151
        have mx161 := mx144.keep hbx151
        have mx162 := mx145.keep hbx151
        have mx163 := mx146.keep hbx151
        have mx164 := mx147.keep hbx151
        have Bx165 := Bx148.trans (hbx151.mono Bx148.size)
        have szx166 := hbx151.size
        clear mx142 mx143 mx144 mx145 mx146 mx147 Bx148 hbx151
        generalize Wx140.alloc (.cells #[.int .i64 s0, .int .i64 s1, .int .i64 s2, .int .i64 s3, .int .i64 s4, .int .i64 s5, .int .i64 s6, .int .i64 s7] 25) = Wx152 at *
        have ltx167 := mx150.lt
        obtain ⟨c_x0, c_x1, c_x2, c_x3, c_x4, c_x5, c_x6, c_x7⟩ := mx159.c8
        obtain ⟨c_y0, c_y1, c_y2, c_y3, c_y4, c_y5, c_y6, c_y7⟩ := mx160.c8
        go_wp2_with fail
        clear c_x0 c_x1 c_x2 c_x3 c_x4 c_x5 c_x6 c_x7
        clear c_y0 c_y1 c_y2 c_y3 c_y4 c_y5 c_y6 c_y7
        have mx168 := BoxL.new Wx152 #[.int .i64 x0, .int .i64 x1, .int .i64 x2, .int .i64 x3, .int .i64 x4, .int .i64 x5, .int .i64 x6, .int .i64 x7, .int .i64 y0, .int .i64 y1, .int .i64 y2, .int .i64 y3, .int .i64 y4, .int .i64 y5, .int .i64 y6, .int .i64 y7, .int .i64 x0, .int .i64 x1, .int .i64 x2, .int .i64 x3, .int .i64 x4, .int .i64 x5, .int .i64 x6, .int .i64 x7] 25
        have hbx169 := (Below.refl Wx152.heap.size Wx152).alloc (Nat.le_refl _) (.cells #[.int .i64 x0, .int .i64 x1, .int .i64 x2, .int .i64 x3, .int .i64 x4, .int .i64 x5, .int .i64 x6, .int .i64 x7, .int .i64 y0, .int .i64 y1, .int .i64 y2, .int .i64 y3, .int .i64 y4, .int .i64 y5, .int .i64 y6, .int .i64 y7, .int .i64 x0, .int .i64 x1, .int .i64 x2, .int .i64 x3, .int .i64 x4, .int .i64 x5, .int .i64 x6, .int .i64 x7] 25)
        have ltx171 := mx159.lt
        have ltx172 := mx160.lt
        have ltx173 := mx161.lt
        have ltx174 := mx162.lt
        have ltx175 := mx163.lt
        have ltx176 := mx150.lt
        have mx177 := mx159.keep hbx169
        have mx178 := mx160.keep hbx169
        have mx179 := mx161.keep hbx169
        have mx180 := mx162.keep hbx169
        have mx181 := mx163.keep hbx169
        have mx182 := mx150.keep hbx169
        have Bx183 := Bx165.trans (hbx169.mono Bx165.size)
        have szx184 := hbx169.size
        clear mx159 mx160 mx161 mx162 mx163 mx150 Bx165 hbx169
        generalize Wx152.alloc (.cells #[.int .i64 x0, .int .i64 x1, .int .i64 x2, .int .i64 x3, .int .i64 x4, .int .i64 x5, .int .i64 x6, .int .i64 x7, .int .i64 y0, .int .i64 y1, .int .i64 y2, .int .i64 y3, .int .i64 y4, .int .i64 y5, .int .i64 y6, .int .i64 y7, .int .i64 x0, .int .i64 x1, .int .i64 x2, .int .i64 x3, .int .i64 x4, .int .i64 x5, .int .i64 x6, .int .i64 x7] 25) = Wx170 at *
        have ltx185 := mx168.lt
        refine ((S2.out _ _ mx168) _ (Below.refl _ _)).mono ?_
        rintro o Wx186 ⟨rfl, hbx187⟩
        have mx188 := mx177.keep hbx187
        have mx189 := mx178.keep hbx187
        have mx190 := mx179.keep hbx187
        have mx191 := mx180.keep hbx187
        have mx192 := mx181.keep hbx187
        have mx193 := mx182.keep hbx187
        have mx194 := mx168.keep hbx187
        have Bx195 := Bx183.trans (hbx187.mono Bx183.size)
        have szx196 := hbx187.size
        clear mx177 mx178 mx179 mx180 mx181 mx182 mx168 Bx183 hbx187
        go_upto_region 12 with fail
        have mx197 := BoxL.new Wx186 #[.int .i64 s0, .int .i64 s1, .int .i64 s2, .int .i64 s3, .int .i64 s4, .int .i64 s5, .int .i64 s6, .int .i64 s7, .int .i64 se] 48
        have hbx198 := (Below.refl Wx186.heap.size Wx186).alloc (Nat.le_refl _) (.cells #[.int .i64 s0, .int .i64 s1, .int .i64 s2, .int .i64 s3, .int .i64 s4, .int .i64 s5, .int .i64 s6, .int .i64 s7, .int .i64 se] 48)
        have ltx200 := mx188.lt
        have ltx201 := mx189.lt
        have ltx202 := mx190.lt
        have ltx203 := mx191.lt
        have ltx204 := mx192.lt
        have ltx205 := mx193.lt
        have ltx206 := mx194.lt
        have mx207 := mx188.keep hbx198
        have mx208 := mx189.keep hbx198
        have mx209 := mx190.keep hbx198
        have mx210 := mx191.keep hbx198
        have mx211 := mx192.keep hbx198
        have mx212 := mx193.keep hbx198
        have mx213 := mx194.keep hbx198
        have Bx214 := Bx195.trans (hbx198.mono Bx195.size)
        have szx215 := hbx198.size
        clear mx188 mx189 mx190 mx191 mx192 mx193 mx194 Bx195 hbx198
        generalize Wx186.alloc (.cells #[.int .i64 s0, .int .i64 s1, .int .i64 s2, .int .i64 s3, .int .i64 s4, .int .i64 s5, .int .i64 s6, .int .i64 s7, .int .i64 se] 48) = Wx199 at *
        have ltx216 := mx197.lt
        have rgx217 : ∀ wq, (∃ pq : Later Wx199, wq = pq.val) → wq.rangeAt (bx25) 0 [.int .i64 x0, .int .i64 x1, .int .i64 x2, .int .i64 x3, .int .i64 x4, .int .i64 x5, .int .i64 x6, .int .i64 x7] := BoxL.range mx207 (Below.refl _ _) 0 8
        have rgx218 : ∀ wq, (∃ pq : Later Wx199, wq = pq.val) → wq.rangeAt (bx26) 0 [.int .i64 y0, .int .i64 y1, .int .i64 y2, .int .i64 y3, .int .i64 y4, .int .i64 y5, .int .i64 y6, .int .i64 y7] := BoxL.range mx208 (Below.refl _ _) 0 8
        have rgx219 : ∀ wq, (∃ pq : Later Wx199, wq = pq.val) → wq.rangeAt (bx56) 0 [.int .i64 c0, .int .i64 c1, .int .i64 c2, .int .i64 c3, .int .i64 c4, .int .i64 c5, .int .i64 c6, .int .i64 c7, .int .i64 c8, .int .i64 c9, .int .i64 c10, .int .i64 c11] := BoxL.range mx209 (Below.refl _ _) 0 12
        have rgx220 : ∀ wq, (∃ pq : Later Wx199, wq = pq.val) → wq.rangeAt (zx72.val.heap.size) 0 [.int .i64 d0, .int .i64 d1, .int .i64 d2, .int .i64 d3, .int .i64 d4, .int .i64 d5, .int .i64 d6, .int .i64 d7, .int .i64 d8, .int .i64 d9, .int .i64 d10, .int .i64 d11] := BoxL.range mx210 (Below.refl _ _) 0 12
        have rgx221 : ∀ wq, (∃ pq : Later Wx199, wq = pq.val) → wq.rangeAt (bx104) 0 [.int .i64 p0, .int .i64 p1, .int .i64 p2, .int .i64 p3, .int .i64 p4, .int .i64 p5] := BoxL.range mx211 (Below.refl _ _) 0 6
        have rgx222 : ∀ wq, (∃ pq : Later Wx199, wq = pq.val) → wq.rangeAt (bx104) 0 [.int .i64 p0, .int .i64 p1] := BoxL.range mx211 (Below.refl _ _) 0 2
        have rgx223 : ∀ wq, (∃ pq : Later Wx199, wq = pq.val) → wq.rangeAt (Wx140.heap.size) 0 [.int .i64 s0, .int .i64 s1, .int .i64 s2, .int .i64 s3, .int .i64 s4, .int .i64 s5, .int .i64 s6, .int .i64 s7] := BoxL.range mx212 (Below.refl _ _) 0 8
        have rgx224 : ∀ wq, (∃ pq : Later Wx199, wq = pq.val) → wq.rangeAt (Wx186.heap.size) 0 [.int .i64 s0, .int .i64 s1, .int .i64 s2, .int .i64 s3, .int .i64 s4, .int .i64 s5, .int .i64 s6, .int .i64 s7] := BoxL.range mx197 (Below.refl _ _) 0 8
        obtain ⟨c_t0, c_t1, c_t2, c_t3, c_t4, c_t5, c_t6, c_t7, c_t8⟩ := mx197.l9 (Below.refl _ _)
        refine wp_region_later (by kernel_rfl) (by kernel_rfl) ?_
        simp only [List.append_eq, List.cons_append, List.nil_append]
        repeat (first | (refine wpQuiet_load (by rfl) (by rfl) (by rfl) rgx217 (by rfl) (by rfl) 8 (by rfl) (by decide +kernel) ?_; simp only [Act.put, List.setIfInBounds_toArray, List.set_cons_succ, List.set_cons_zero]) | (refine wpQuiet_load (by rfl) (by rfl) (by rfl) rgx218 (by rfl) (by rfl) 8 (by rfl) (by decide +kernel) ?_; simp only [Act.put, List.setIfInBounds_toArray, List.set_cons_succ, List.set_cons_zero]) | (refine wpQuiet_load (by rfl) (by rfl) (by rfl) rgx219 (by rfl) (by rfl) 12 (by rfl) (by decide +kernel) ?_; simp only [Act.put, List.setIfInBounds_toArray, List.set_cons_succ, List.set_cons_zero]) | (refine wpQuiet_load (by rfl) (by rfl) (by rfl) rgx220 (by rfl) (by rfl) 12 (by rfl) (by decide +kernel) ?_; simp only [Act.put, List.setIfInBounds_toArray, List.set_cons_succ, List.set_cons_zero]) | (refine wpQuiet_load (by rfl) (by rfl) (by rfl) rgx221 (by rfl) (by rfl) 6 (by rfl) (by decide +kernel) ?_; simp only [Act.put, List.setIfInBounds_toArray, List.set_cons_succ, List.set_cons_zero]) | (refine wpQuiet_load (by rfl) (by rfl) (by rfl) rgx222 (by rfl) (by rfl) 2 (by rfl) (by decide +kernel) ?_; simp only [Act.put, List.setIfInBounds_toArray, List.set_cons_succ, List.set_cons_zero]) | (refine wpQuiet_load (by rfl) (by rfl) (by rfl) rgx223 (by rfl) (by rfl) 8 (by rfl) (by decide +kernel) ?_; simp only [Act.put, List.setIfInBounds_toArray, List.set_cons_succ, List.set_cons_zero]) | (refine wpQuiet_load (by rfl) (by rfl) (by rfl) rgx224 (by rfl) (by rfl) 8 (by rfl) (by decide +kernel) ?_; simp only [Act.put, List.setIfInBounds_toArray, List.set_cons_succ, List.set_cons_zero]) | go_big_quiet_step (((first | (go_at_call 22; with_reducible exact later_of ((A1.out.at _))) | (go_at_call 23; with_reducible exact later_of ((A2.out.at _))) | (go_at_call 24; first | with_reducible exact later_of ((P0.out.at _)) | with_reducible exact later_of ((P1.out.at _)) | with_reducible exact later_of ((P2.out.at _))) | (go_at_call 25; first | with_reducible exact later_of ((Q0.out.at _)) | with_reducible exact later_of ((Q1.out.at _)) | with_reducible exact later_of ((Q2.out.at _))) | (go_at_call 26; with_reducible exact later_of ((D1.out.at _))) | (go_at_call 27; with_reducible exact later_of ((D2.out.at _))) | (go_at_call 28; with_reducible exact later_of ((K1.out.at _))) | (go_at_call 29; with_reducible exact later_of ((K2.out.at _)))))))
        refine wpQuiet_nil ?_
        intro _ hw'
        obtain ⟨zx225, hw''⟩ := hw'
        subst hw''
        clear c_t0 c_t1 c_t2 c_t3 c_t4 c_t5 c_t6 c_t7 c_t8
        clear rgx217 rgx218 rgx219 rgx220 rgx221 rgx222 rgx223 rgx224
        have hbx226 := zx225.below
        have mx227 := mx207.keep hbx226
        have mx228 := mx208.keep hbx226
        have mx229 := mx209.keep hbx226
        have mx230 := mx210.keep hbx226
        have mx231 := mx211.keep hbx226
        have mx232 := mx212.keep hbx226
        have mx233 := mx197.keep hbx226
        have Bx234 := Bx214.trans (hbx226.mono Bx214.size)
        have szx235 := hbx226.size
        clear mx207 mx208 mx209 mx210 mx211 mx212 mx197 Bx214 hbx226
        go_upto_region 14 with fail
        have rgx236 : ∀ wq, (∃ pq : Later zx225.val, wq = pq.val) → wq.rangeAt (bx56) 0 [.int .i64 c0, .int .i64 c1, .int .i64 c2, .int .i64 c3] := BoxL.range mx229 (Below.refl _ _) 0 4
        have rgx237 : ∀ wq, (∃ pq : Later zx225.val, wq = pq.val) → wq.rangeAt (bx56) 4 [.int .i64 c4, .int .i64 c5, .int .i64 c6, .int .i64 c7] := BoxL.range mx229 (Below.refl _ _) 4 4
        have rgx238 : ∀ wq, (∃ pq : Later zx225.val, wq = pq.val) → wq.rangeAt (bx56) 0 [.int .i64 c0, .int .i64 c1, .int .i64 c2, .int .i64 c3, .int .i64 c4, .int .i64 c5, .int .i64 c6, .int .i64 c7, .int .i64 c8, .int .i64 c9, .int .i64 c10, .int .i64 c11] := BoxL.range mx229 (Below.refl _ _) 0 12
        have rgx239 : ∀ wq, (∃ pq : Later zx225.val, wq = pq.val) → wq.rangeAt (zx72.val.heap.size) 0 [.int .i64 d0, .int .i64 d1, .int .i64 d2, .int .i64 d3] := BoxL.range mx230 (Below.refl _ _) 0 4
        have rgx240 : ∀ wq, (∃ pq : Later zx225.val, wq = pq.val) → wq.rangeAt (zx72.val.heap.size) 4 [.int .i64 d4, .int .i64 d5, .int .i64 d6, .int .i64 d7] := BoxL.range mx230 (Below.refl _ _) 4 4
        have rgx241 : ∀ wq, (∃ pq : Later zx225.val, wq = pq.val) → wq.rangeAt (zx72.val.heap.size) 0 [.int .i64 d0, .int .i64 d1, .int .i64 d2, .int .i64 d3, .int .i64 d4, .int .i64 d5, .int .i64 d6, .int .i64 d7, .int .i64 d8, .int .i64 d9, .int .i64 d10, .int .i64 d11] := BoxL.range mx230 (Below.refl _ _) 0 12
        have rgx242 : ∀ wq, (∃ pq : Later zx225.val, wq = pq.val) → wq.rangeAt (bx104) 0 [.int .i64 p0, .int .i64 p1] := BoxL.range mx231 (Below.refl _ _) 0 2
        refine wp_region_later (by kernel_rfl) (by kernel_rfl) ?_
        repeat (first | (refine wpQuiet_load (by rfl) (by rfl) (by rfl) rgx236 (by rfl) (by rfl) 4 (by rfl) (by decide +kernel) ?_; simp only [Act.put, List.setIfInBounds_toArray, List.set_cons_succ, List.set_cons_zero]) | (refine wpQuiet_load (by rfl) (by rfl) (by rfl) rgx237 (by rfl) (by rfl) 4 (by rfl) (by decide +kernel) ?_; simp only [Act.put, List.setIfInBounds_toArray, List.set_cons_succ, List.set_cons_zero]) | (refine wpQuiet_load (by rfl) (by rfl) (by rfl) rgx238 (by rfl) (by rfl) 12 (by rfl) (by decide +kernel) ?_; simp only [Act.put, List.setIfInBounds_toArray, List.set_cons_succ, List.set_cons_zero]) | (refine wpQuiet_load (by rfl) (by rfl) (by rfl) rgx239 (by rfl) (by rfl) 4 (by rfl) (by decide +kernel) ?_; simp only [Act.put, List.setIfInBounds_toArray, List.set_cons_succ, List.set_cons_zero]) | (refine wpQuiet_load (by rfl) (by rfl) (by rfl) rgx240 (by rfl) (by rfl) 4 (by rfl) (by decide +kernel) ?_; simp only [Act.put, List.setIfInBounds_toArray, List.set_cons_succ, List.set_cons_zero]) | (refine wpQuiet_load (by rfl) (by rfl) (by rfl) rgx241 (by rfl) (by rfl) 12 (by rfl) (by decide +kernel) ?_; simp only [Act.put, List.setIfInBounds_toArray, List.set_cons_succ, List.set_cons_zero]) | (refine wpQuiet_load (by rfl) (by rfl) (by rfl) rgx242 (by rfl) (by rfl) 2 (by rfl) (by decide +kernel) ?_; simp only [Act.put, List.setIfInBounds_toArray, List.set_cons_succ, List.set_cons_zero]) | go_big_quiet_step (((first | (go_at_call 30; with_reducible exact later_of ((L1.out.at _))) | (go_at_call 31; with_reducible exact later_of ((L2.out.at _))) | (go_at_call 32; with_reducible exact later_of ((H1.out.at _))) | (go_at_call 33; with_reducible exact later_of ((H2.out.at _))) | (go_at_call 34; with_reducible exact later_of ((C1.out.at _))) | (go_at_call 35; with_reducible exact later_of ((C2.out.at _))) | (go_at_call 36; with_reducible exact later_of ((I1.out.at _))) | (go_at_call 37; with_reducible exact later_of ((I2.out.at _)))))))
        refine wpQuiet_nil ?_
        intro _ hw'
        obtain ⟨zx243, hw''⟩ := hw'
        subst hw''
        clear rgx236 rgx237 rgx238 rgx239 rgx240 rgx241 rgx242
        have hbx244 := zx243.below
        have mx245 := mx227.keep hbx244
        have mx246 := mx228.keep hbx244
        have mx247 := mx229.keep hbx244
        have mx248 := mx230.keep hbx244
        have mx249 := mx231.keep hbx244
        have mx250 := mx232.keep hbx244
        have mx251 := mx233.keep hbx244
        have Bx252 := Bx234.trans (hbx244.mono Bx234.size)
        have szx253 := hbx244.size
        clear mx227 mx228 mx229 mx230 mx231 mx232 mx233 Bx234 hbx244
        go_upto_region 16 with fail
        have rgx254 : ∀ wq, (∃ pq : Later zx243.val, wq = pq.val) → wq.rangeAt (bx56) 0 [.int .i64 c0, .int .i64 c1, .int .i64 c2, .int .i64 c3, .int .i64 c4, .int .i64 c5, .int .i64 c6, .int .i64 c7, .int .i64 c8, .int .i64 c9, .int .i64 c10, .int .i64 c11] := BoxL.range mx247 (Below.refl _ _) 0 12
        have rgx255 : ∀ wq, (∃ pq : Later zx243.val, wq = pq.val) → wq.rangeAt (zx72.val.heap.size) 0 [.int .i64 d0, .int .i64 d1, .int .i64 d2, .int .i64 d3, .int .i64 d4, .int .i64 d5, .int .i64 d6, .int .i64 d7, .int .i64 d8, .int .i64 d9, .int .i64 d10, .int .i64 d11] := BoxL.range mx248 (Below.refl _ _) 0 12
        refine wp_region_later (by kernel_rfl) (by kernel_rfl) ?_
        repeat (first | (refine wpQuiet_load (by rfl) (by rfl) (by rfl) rgx254 (by rfl) (by rfl) 12 (by rfl) (by decide +kernel) ?_; simp only [Act.put, List.setIfInBounds_toArray, List.set_cons_succ, List.set_cons_zero]) | (refine wpQuiet_load (by rfl) (by rfl) (by rfl) rgx255 (by rfl) (by rfl) 12 (by rfl) (by decide +kernel) ?_; simp only [Act.put, List.setIfInBounds_toArray, List.set_cons_succ, List.set_cons_zero]) | go_big_quiet_step (((first | (go_at_call 38; first | with_reducible exact later_of ((N1.out.at _)) | with_reducible exact later_of ((N3.out.at _))) | (go_at_call 39; with_reducible exact later_of ((N2.out.at _)))))))
        refine wpQuiet_nil ?_
        intro _ hw'
        obtain ⟨zx256, hw''⟩ := hw'
        subst hw''
        clear rgx254 rgx255
        have hbx257 := zx256.below
        have mx258 := mx245.keep hbx257
        have mx259 := mx246.keep hbx257
        have mx260 := mx247.keep hbx257
        have mx261 := mx248.keep hbx257
        have mx262 := mx249.keep hbx257
        have mx263 := mx250.keep hbx257
        have mx264 := mx251.keep hbx257
        have Bx265 := Bx252.trans (hbx257.mono Bx252.size)
        have szx266 := hbx257.size
        clear mx245 mx246 mx247 mx248 mx249 mx250 mx251 Bx252 hbx257
        go_wp2_with fail
        go_ret
        exact ⟨rfl, Bx265⟩

end Fr
end Go.Proofs.Ytojkaaglmdfcnaa
