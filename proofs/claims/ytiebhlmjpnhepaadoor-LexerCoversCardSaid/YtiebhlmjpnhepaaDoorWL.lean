/- LexerCovers. -/
import Derived.Test.YtiebhlmjpnhepaaDoorWG
namespace Go.Proofs.YtiebhlmjpnhepaaDoor
open Go.RowKit Sl Fr
namespace Lx
set_option linter.unusedVariables false
set_option linter.unusedSimpArgs false

theorem later_id {P : Program} {f : FuncId} {args : Array Value} {v : Value} {X : World} {p : Later X} (h : Calls P f args p.val fun e w' => e = .returned v ∧ p.val = w') : Calls P f args p.val fun e w' => e = .returned v ∧ Below p.val.heap.size p.val w' := by
  refine h.mono ?_
  rintro e w' ⟨rfl, rfl⟩
  exact ⟨rfl, Below.refl _ _⟩
/-- As far as the law has come. -/
def CvAt (s : ByteArray) (ts : List Tk) (X : World) (fv i : Value) (W : World) : Prop := ∃ j f : Nat, i = .int .i64 (j : Int) ∧ fv = .int .i64 (f : Int) ∧ j ≤ ts.length + 1 ∧ (j ≤ ts.length → Cov (bys s) f (ts.drop j)) ∧ (j = ts.length + 1 → f = s.size) ∧ Below X.heap.size X W
theorem covers_facts {l : By} (hl : l.length ≤ 900) (h : WF l) : ∃ ts : List Tk, lexR l = (ts ++ [endT l.length], 0, 0) ∧ ts.length ≤ 900 ∧ Cov l 0 ts := by
  have e : lex 0 l = ((lex 0 l).1, none) := by rw [← show (lex 0 l).2 = none from h]
  obtain ⟨k1, k2⟩ := lex_sum _ _ _ _ e
  exact ⟨_, lexR_ok (by omega) h, by omega, lex_cov l _ 0 (Nat.zero_le _) (by rw [List.drop_zero]; exact e)⟩

set_option maxRecDepth 100000 in
set_option maxHeartbeats 8000000 in
theorem covers_walk (A : Option Addr) (l : List Nat) (c : Nat) (s0 : ByteArray) (w : World) (hA : BytA w A l) (hl : l.length ≤ 9223372036854775807) (hs : s0.size ≤ 9223372036854775807) (hv : Vars w) :
    Calls Tryd.prog 4 #[.slice A l.length c, .string s0] w fun e w' => e = .returned (.bool true) ∧ Below w.heap.size w w' := by
  have HE := Lib.hid (examples_any w hv)
  have HM := Lib.hid (fun W (hb : Below w.heap.size w W) => made_any A l c W (hA.keep hb) hl)
  have HX := Lib.hid (fun (s : ByteArray) (hs : s.size ≤ 281474976710656) W (hb : Below w.heap.size w W) => lexed_any s W hs (hv.keep hb))
  clear hA hl hv
  by_cases h3 : 300 < s0.size
  · go_enter Tryd.func4, Tryd.ntmps4
    go_wp2_with fail
    refine HE.out.mono ?_
    rintro e W1 ⟨rfl, b1⟩
    have B1 := Lib.hid b1
    clear b1 HE HM HX
    go_wp2_with fail
    go_ret
    exact ⟨rfl, B1.out⟩
  have hs3 : s0.size ≤ 300 := by omega
  go_enter Tryd.func4, Tryd.ntmps4
  go_wp2_with fail
  refine HE.out.mono ?_
  rintro e W1 ⟨rfl, b1⟩
  have B1 := Lib.hid b1
  clear b1 HE
  go_wp2_with fail
  refine (HM.out _ B1.out).mono ?_
  rintro e W2 ⟨t, rfl, ht, _, b2⟩
  have B2 := Lib.hid (B1.out.trans (b2.mono B1.out.size))
  clear b2 HM B1
  go_wp2_with fail
  have hz : (t ++ s0).size ≤ 900 := by rw [ByteArray.size_append]; omega
  have HL := Lib.hid (HX.out (t ++ s0) (by omega) W2 B2.out)
  generalize t ++ s0 = s at *
  clear HX
  by_cases hw : WF (bys s)
  · obtain ⟨ts, f1, f2, f3⟩ := covers_facts (by rw [bys_len]; exact hz) hw
    rw [f1] at HL
    have hn1 : (ts ++ [endT (bys s).length]).length = ts.length + 1 := by simp
    have HN1 := Lib.hid hn1
    have F3 := Lib.hid f3
    have HBL := Lib.hid (bys_len s)
    clear f1 f3 hn1 hw
    refine HL.out.mono ?_
    rintro _ W3 ⟨A1, c1, rfl, hc1, _, hT, b3⟩
    have hT : TokF W3 W2.heap.size A1 (ts ++ [endT (bys s).length]) := hT
    have hc1 : (ts ++ [endT (bys s).length]).length ≤ c1 := hc1
    simp only [HN1.out, show ((0 : Nat) : Int) = 0 from rfl]
    rw [HN1.out] at hc1
    obtain ⟨N, hN⟩ : ∃ N, N = ts.length + 1 := ⟨_, rfl⟩
    rw [← hN] at hc1 ⊢
    have HN := Lib.hid hN
    have hN1 : 1 ≤ N := by omega
    have hN9 : N ≤ 901 := by omega
    clear hN
    obtain ⟨m0, bA⟩ := start1 W3 #[.slice A1 N c1, .int .i64 0, .int .i64 0] 29
    have hT2 := hT.arr.keep bA
    have B3 := B2.out.trans (b3.mono B2.out.size)
    have B4 := Lib.hid (B3.trans (bA.mono B3.size))
    obtain ⟨b, o, hbo⟩ := hT2.open
    obtain ⟨rfl, hbs, hc⟩ := hbo (by simp)
    have HC := Lib.hid hc
    clear HL b3 bA B3 B2 hT hT2 hbo hc
    go_upto_region 6 with fail
    generalize W3.alloc (.cells #[.slice (some ⟨b, o, none⟩) N c1, .int .i64 0, .int .i64 0] 29) = X at *
    generalize W3.heap.size = xb at *
    obtain ⟨d0, d1, d2⟩ := m0.c3
    have M0 := Lib.hid m0
    have mlt := m0.lt
    have H0 : Hid (CvAt s ts X (.int .i64 0) (.int .i64 0) X) := Lib.hid ⟨0, 0, rfl, rfl, Nat.zero_le _, fun _ => by rw [List.drop_zero]; exact F3.out, fun h => by omega, Below.refl _ _⟩
    clear m0 F3
    go_wp2_with fail
    clear d0 d1 d2
    go_loopw [8, 9] (fun fv i W => CvAt s ts X fv i W) (fun _ i _ => N - (intOf i).toNat)
    case atStart => exact H0.out
    case round =>
      obtain ⟨j, f, rfl, rfl, hj, hcov, hend, hb⟩ := hrel
      have HB := Lib.hid hb
      have HCV := Lib.hid hcov
      have HEN := Lib.hid hend
      have m := M0.out.keep hb
      have BW := Lib.hid (B4.out.trans (hb.mono B4.out.size))
      clear hcov hend hb H0
      have hjN : j ≤ N := by have := HN.out; omega
      by_cases hlt : j < N
      · have hlast : IntKind.i64.wrap ((N : Int) - 1) = (ts.length : Int) := by rw [IntWalk.i64_in _ (by omega)]; have := HN.out; omega
        by_cases hjn : j < ts.length
        · obtain ⟨t, htt⟩ := get_ex hjn
          obtain ⟨g0, g1, g2⟩ := HC.out j t (by rw [List.getElem?_append_left hjn]; exact htt)
          have hcv := HCV.out (by omega)
          rw [List.drop_eq_getElem_cons hjn, (List.getElem?_eq_some_iff.1 htt).2] at hcv
          obtain ⟨q1, q2, q3, q4, q5, q6⟩ := hcv
          have hne : t.text.length ≠ 0 := fun h0 => q4.1 (List.eq_nil_of_length_eq_zero h0)
          have hkk := q4.kind
          rw [HBL.out] at q2
          obtain ⟨e, he⟩ : ∃ e, e = t.at_ + t.text.length := ⟨_, rfl⟩
          have htx : s.extract t.at_ e = ⟨t.text.toArray⟩ := by rw [he, bys_mid, q3]
          have hsz : (⟨t.text.toArray⟩ : ByteArray).size = t.text.length := by rw [byte_size]; simp
          have HWH := Lib.hid (fun W => white_any (s.extract f t.at_) W (by rw [ByteArray.size_extract]; omega))
          have hwt : whiteS false (bys (s.extract f t.at_)) = true := by rw [bys_extract, List.drop_take]; exact q5
          rw [hwt] at HWH
          rw [← he] at q6
          have Q6 := Lib.hid q6
          generalize (⟨t.text.toArray⟩ : ByteArray) = tx at *
          generalize t.text.length = ln at *
          generalize t.at_ = a at *
          generalize t.kind = kk at *
          have k4 : ((kk : Int) == 4) = false := by simp; omega
          have k4b : (kk == 4) = false := by simp; omega
          have jn : ((j : Int) == (ts.length : Int)) = false := by simp; omega
          have jnb : (j == ts.length) = false := by simp; omega
          have ea : ((e : Int) == (a : Int)) = false := by simp; omega
          have eab : (e == a) = false := by simp; omega
          have hnx : Hid (CvAt s ts X (.int .i64 (e : Int)) (.int .i64 ((j + 1 : Nat) : Int)) wr) := Lib.hid ⟨j + 1, e, rfl, rfl, by omega, fun _ => Q6.out, fun h => by omega, HB.out⟩
          have qa : decide ((a : Int) < (f : Int)) = false := decide_eq_false (by omega)
          have qb : decide (a < f) = false := decide_eq_false (by omega)
          have qc : decide ((s.size : Int) < (e : Int)) = false := decide_eq_false (by omega)
          have qd : decide (s.size < e) = false := decide_eq_false (by omega)
          clear q3 q4 q5 q6 hwt htt HCV HEN hne hkk Q6
          have hes : e ≤ s.size := by omega
          have hae : a ≤ e := by omega
          have hsum : (a : Int) + (ln : Int) = (e : Int) := by omega
          clear he q2
          have c0 := (HB.out.cell (p := ⟨b, o + j * 3, none⟩) hbs).trans g0
          have c1' := (HB.out.cell (p := ⟨b, o + j * 3 + 1, none⟩) hbs).trans g1
          have c2 := (HB.out.cell (p := ⟨b, o + j * 3 + 2, none⟩) hbs).trans g2
          have hbs2 : b < wr.heap.size := Nat.lt_of_lt_of_le hbs HB.out.size
          clear g0 g1 g2
          obtain ⟨d0, d1, d2⟩ := m.c3
          go_upto_region 12 with fail
          clear d0 d1 d2
          obtain ⟨d0, d1, d2⟩ := m.l3 (Below.refl _ _)
          have z0 := fun q : Later wr => (q.below.cell (p := ⟨b, o + j * 3, none⟩) hbs2).trans c0
          have z1 := fun q : Later wr => (q.below.cell (p := ⟨b, o + j * 3 + 1, none⟩) hbs2).trans c1'
          have z2 := fun q : Later wr => (q.below.cell (p := ⟨b, o + j * 3 + 2, none⟩) hbs2).trans c2
          clear c0 c1' c2
          refine wp_region_later (by kernel_rfl) (by kernel_rfl) ?_
          repeat (go_big_quiet_step (((go_at_call 22; with_reducible exact later_of (later_id (HWH.out _))))))
          refine wpQuiet_nil ?_
          intro _ hw'
          obtain ⟨z, hw''⟩ := hw'
          subst hw''
          have x0 := z0 z
          have x1 := z1 z
          have x2 := z2 z
          have my := m.keep z.below
          have hyb := z.below
          have HNX : Hid (CvAt s ts X _ _ z.val) := Lib.hid (by
            obtain ⟨j2, f2, y1, y2, y3, y4, y5, y6⟩ := hnx.out
            exact ⟨j2, f2, y1, y2, y3, y4, y5, y6.trans (z.below.mono y6.size)⟩)
          have BZ := Lib.hid (BW.out.trans (z.below.mono BW.out.size))
          have hbs3 : b < z.val.heap.size := Nat.lt_of_lt_of_le hbs2 hyb.size
          clear d0 d1 d2 z0 z1 z2 m hyb
          generalize z.val = y at *
          clear z
          obtain ⟨d0, d1, d2⟩ := my.l3 (Below.refl _ _)
          have z0 := fun q : Later y => (q.below.cell (p := ⟨b, o + j * 3, none⟩) hbs3).trans x0
          have z1 := fun q : Later y => (q.below.cell (p := ⟨b, o + j * 3 + 1, none⟩) hbs3).trans x1
          have z2 := fun q : Later y => (q.below.cell (p := ⟨b, o + j * 3 + 2, none⟩) hbs3).trans x2
          clear x0 x1 x2 my
          go_upto_region 13 with fail
          refine wp_region_later (by kernel_rfl) (by kernel_rfl) ?_
          repeat (go_big_quiet_step (((go_at_call 22; with_reducible exact later_of (later_id (HWH.out _))))))
          refine wpQuiet_nil ?_
          intro _ hw'
          obtain ⟨z, hw''⟩ := hw'
          subst hw''
          have HNY : Hid (CvAt s ts X _ _ z.val) := Lib.hid (by
            obtain ⟨j2, f2, y1, y2, y3, y4, y5, y6⟩ := HNX.out
            exact ⟨j2, f2, y1, y2, y3, y4, y5, y6.trans (z.below.mono y6.size)⟩)
          clear d0 d1 d2 z0 z1 z2 hlast
          go_wp2_with fail
          go_roundw
          case rel => exact HNY.out
          case measure => simp [intOf]; omega
        · obtain rfl : j = ts.length := by have := HN.out; omega
          obtain ⟨g0, g1, g2⟩ := HC.out ts.length (endT (bys s).length) (by rw [List.getElem?_append_right (Nat.le_refl _)]; simp)
          have hcv := HCV.out (Nat.le_refl _)
          rw [List.drop_length] at hcv
          obtain ⟨q1, q5⟩ := hcv
          rw [HBL.out] at q1 g0 g1 g2
          have g0 : X.cell? ⟨b, o + ts.length * 3, none⟩ = some (.int .i64 4) := g0
          have g1 : X.cell? ⟨b, o + ts.length * 3 + 1, none⟩ = some (.string ⟨#[]⟩) := g1
          have g2 : X.cell? ⟨b, o + ts.length * 3 + 2, none⟩ = some (.int .i64 (s.size : Int)) := g2
          have htx : s.extract s.size s.size = ⟨#[]⟩ := bys_ext (by rw [bys_extract, List.drop_of_length_le (by rw [List.length_take, bys_len]; omega)]; rfl)
          have HWH := Lib.hid (fun W => white_any (s.extract f s.size) W (by rw [ByteArray.size_extract]; omega))
          rw [bys_from, q5] at HWH
          have hnx : Hid (CvAt s ts X (.int .i64 (s.size : Int)) (.int .i64 ((ts.length + 1 : Nat) : Int)) wr) := Lib.hid ⟨ts.length + 1, s.size, rfl, rfl, by omega, fun h => by omega, fun _ => rfl, HB.out⟩
          have qa : decide ((s.size : Int) < (f : Int)) = false := decide_eq_false (by omega)
          have qb : decide (s.size < f) = false := decide_eq_false (by omega)
          clear q5 HCV HEN hjn hjN
          generalize ts.length = j at *
          have c0 := (HB.out.cell (p := ⟨b, o + j * 3, none⟩) hbs).trans g0
          have c1' := (HB.out.cell (p := ⟨b, o + j * 3 + 1, none⟩) hbs).trans g1
          have c2 := (HB.out.cell (p := ⟨b, o + j * 3 + 2, none⟩) hbs).trans g2
          have hbs2 : b < wr.heap.size := Nat.lt_of_lt_of_le hbs HB.out.size
          clear g0 g1 g2
          obtain ⟨d0, d1, d2⟩ := m.c3
          go_upto_region 12 with fail
          clear d0 d1 d2
          obtain ⟨d0, d1, d2⟩ := m.l3 (Below.refl _ _)
          have z0 := fun q : Later wr => (q.below.cell (p := ⟨b, o + j * 3, none⟩) hbs2).trans c0
          have z1 := fun q : Later wr => (q.below.cell (p := ⟨b, o + j * 3 + 1, none⟩) hbs2).trans c1'
          have z2 := fun q : Later wr => (q.below.cell (p := ⟨b, o + j * 3 + 2, none⟩) hbs2).trans c2
          clear c0 c1' c2
          refine wp_region_later (by kernel_rfl) (by kernel_rfl) ?_
          repeat (go_big_quiet_step (((go_at_call 22; with_reducible exact later_of (later_id (HWH.out _))))))
          refine wpQuiet_nil ?_
          intro _ hw'
          obtain ⟨z, hw''⟩ := hw'
          subst hw''
          have x0 := z0 z
          have x1 := z1 z
          have x2 := z2 z
          have my := m.keep z.below
          have hyb := z.below
          have HNX : Hid (CvAt s ts X _ _ z.val) := Lib.hid (by
            obtain ⟨j2, f2, y1, y2, y3, y4, y5, y6⟩ := hnx.out
            exact ⟨j2, f2, y1, y2, y3, y4, y5, y6.trans (z.below.mono y6.size)⟩)
          have BZ := Lib.hid (BW.out.trans (z.below.mono BW.out.size))
          have hbs3 : b < z.val.heap.size := Nat.lt_of_lt_of_le hbs2 hyb.size
          clear d0 d1 d2 z0 z1 z2 m hyb
          generalize z.val = y at *
          clear z
          obtain ⟨d0, d1, d2⟩ := my.l3 (Below.refl _ _)
          have z0 := fun q : Later y => (q.below.cell (p := ⟨b, o + j * 3, none⟩) hbs3).trans x0
          have z1 := fun q : Later y => (q.below.cell (p := ⟨b, o + j * 3 + 1, none⟩) hbs3).trans x1
          have z2 := fun q : Later y => (q.below.cell (p := ⟨b, o + j * 3 + 2, none⟩) hbs3).trans x2
          clear x0 x1 x2 my
          go_upto_region 13 with fail
          refine wp_region_later (by kernel_rfl) (by kernel_rfl) ?_
          repeat (go_big_quiet_step (((go_at_call 22; with_reducible exact later_of (later_id (HWH.out _))))))
          refine wpQuiet_nil ?_
          intro _ hw'
          obtain ⟨z, hw''⟩ := hw'
          subst hw''
          have HNY : Hid (CvAt s ts X _ _ z.val) := Lib.hid (by
            obtain ⟨j2, f2, y1, y2, y3, y4, y5, y6⟩ := HNX.out
            exact ⟨j2, f2, y1, y2, y3, y4, y5, y6.trans (z.below.mono y6.size)⟩)
          clear d0 d1 d2 z0 z1 z2 hlast
          go_wp2_with fail
          go_roundw
          case rel => exact HNY.out
          case measure => simp [intOf]; omega
      · obtain rfl : j = N := by omega
        have hfs := HEN.out HN.out
        subst hfs
        obtain ⟨d0, d1, d2⟩ := m.c3
        clear m
        go_wp2_with fail
        go_ret
        exact ⟨rfl, BW.out⟩
  · cases hx : (lex 0 (bys s)).2 with
    | none => exact absurd hx hw
    | some e =>
      have hr := lexR_bad (l := bys s) (by rw [bys_len]; omega) hx
      have hin := lex_before (bys s) 0 e hx
      have hes : e < s.size := by have := hin.2.1; rw [bys_len] at this; omega
      rw [hr] at HL
      clear hx hr hw hin
      refine HL.out.mono ?_
      rintro _ W3 ⟨A1, c1, rfl, _, _, _, b3⟩
      have bA := (Below.refl _ W3).alloc (Nat.le_refl _) (.cells #[.slice A1 0 c1, .int .i64 (e : Int), .int .i64 5] 29)
      have B3 := B2.out.trans (b3.mono B2.out.size)
      have B4 := Lib.hid (B3.trans (bA.mono B3.size))
      clear HL b3 bA B3 B2
      have e0 : (0 : Int) ≤ (e : Int) := by omega
      simp only [List.length_nil, show ((5 : Nat) : Int) = 5 from rfl]
      go_wp2_with fail
      go_ret
      exact ⟨rfl, B4.out⟩

end Lx
end Go.Proofs.YtiebhlmjpnhepaaDoor
