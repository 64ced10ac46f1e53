/- LinearScales: the walk. -/
import Derived.Test.YtojkaaglmdfcnaaN16
namespace Go.Proofs.Ytojkaaglmdfcnaa
open Go.RowKit Go.Shelf
namespace Fr
set_option linter.unusedVariables false
set_option linter.unusedSimpArgs false


theorem zrLine : Zr Try.prog 48 #[.int .i64 0, .int .i64 0, .int .i64 0, .int .i64 0, .int .i64 0, .int .i64 0, .int .i64 0, .int .i64 0, .int .i64 0] := fun w => by simp [Instr.alloc, go_sem]
theorem isF_neg {q : Rat} {n d : Int} (h : IsF q n d) : IsF (-q) (-n) d := by
  have e1 : (-q).num = -q.num := rfl
  have e2 : (-q).den = q.den := rfl
  refine ⟨by rw [e1, h.num], by rw [e2]; exact h.den, ?_⟩
  have h1 := h.fit
  unfold Fit at *
  rw [e1, e2]
  omega
theorem mul_val (l : LQ) (f : Rat) (p : PQ) : (l.op (· * ·) ⟨f, f, f, f⟩).val p = l.val p * f := by unfold LQ.op LQ.val; simp only; grind
theorem mul_gr {D M E N : Nat} {l : LQ} {f : Rat} (h : l.Gr D M) (h' : Gr E N f) : (l.op (· * ·) ⟨f, f, f, f⟩).Gr (D * E) (M * N) := ⟨h.1.mul h', h.2.1.mul h', h.2.2.1.mul h', h.2.2.2.mul h'⟩
theorem least_mul {l : LQ} {b : BQ} (ok : b.Ok) {f : Rat} (hf : 0 ≤ f) : (l.op (· * ·) ⟨f, f, f, f⟩).val ((l.op (· * ·) ⟨f, f, f, f⟩).corner b false) = l.val (l.corner b false) * f ∧ (l.op (· * ·) ⟨f, f, f, f⟩).val ((l.op (· * ·) ⟨f, f, f, f⟩).corner b true) = l.val (l.corner b true) * f := by
  have hv := mul_val l f
  generalize l.op (· * ·) ⟨f, f, f, f⟩ = s at *
  have a1 := (val_in (corner_has ok l false) s).1
  have a2 := Rat.mul_le_mul_of_nonneg_right (val_in (corner_has ok s false) l).1 hf
  have b1 := (val_in (corner_has ok l true) s).2
  have b2 := Rat.mul_le_mul_of_nonneg_right (val_in (corner_has ok s true) l).2 hf
  have e1 := hv (l.corner b false)
  have e2 := hv (s.corner b false)
  have e3 := hv (l.corner b true)
  have e4 := hv (s.corner b true)
  constructor <;> grind
theorem least_neg {l : LQ} {b : BQ} (ok : b.Ok) {f : Rat} (hf : f = -1) : (l.op (· * ·) ⟨f, f, f, f⟩).val ((l.op (· * ·) ⟨f, f, f, f⟩).corner b false) = -l.val (l.corner b true) ∧ (l.op (· * ·) ⟨f, f, f, f⟩).val ((l.op (· * ·) ⟨f, f, f, f⟩).corner b true) = -l.val (l.corner b false) := by
  have hv := mul_val l f
  generalize l.op (· * ·) ⟨f, f, f, f⟩ = s at *
  have a1 := (val_in (corner_has ok l true) s).1
  have a2 := (val_in (corner_has ok s false) l).2
  have b1 := (val_in (corner_has ok l false) s).2
  have b2 := (val_in (corner_has ok s true) l).1
  have e1 := hv (l.corner b false)
  have e2 := hv (s.corner b false)
  have e3 := hv (l.corner b true)
  have e4 := hv (s.corner b true)
  subst hf
  constructor <;> grind
theorem range_facts' {l : LQ} {b : BQ} {D M : Nat} (hD : 0 < D) (hD' : D ≤ 3600) (hM : M ≤ 2880000) (gl : l.Gr D M) (gb : b.Gr 60 1200) : Fit (l.val (l.corner b false)) ∧ Fit (l.val (l.corner b true)) ∧ l.range b = some ⟨l.val (l.corner b false), l.val (l.corner b true)⟩ :=
  ⟨(at_small gl (gr_corner gb l false) hD (by decide) (by omega) (by omega)).2.2, (at_small gl (gr_corner gb l true) hD (by decide) (by omega) (by omega)).2.2, range_small gl gb hD (by decide) (by omega) (by omega)⟩
theorem divInt_pos {n d : Int} (hn : 0 ≤ n) (hd : 0 < d) : 0 ≤ Rat.divInt n d := by
  rw [Rat.divInt_nonneg_iff_of_pos_right hd]
  exact hn
theorem minus_one : Rat.divInt (-1) 1 = -1 := by kernel_rfl
theorem gr_one : Gr 1 1 (Rat.divInt (-1) 1) := ⟨-1, by rw [minus_one]; kernel_rfl, by decide⟩

set_option maxRecDepth 100000 in
set_option maxHeartbeats 2000000 in
theorem scales_walk {w : World} {A : Option Addr} {n c : Nat} {l : List Int} (hA : Sl.Arr w A (l.map fun x => .int .u8 x)) (hn : l.length = n) (hl : Bytes l) (hs : n < 9223372036854775808) {B : Option Addr} {m d : Nat} {t : List Int} (hB : Sl.Arr w B (t.map fun x => .int .u8 x)) (hm : t.length = m) (ht : Bytes t) (hr : m < 9223372036854775808) (k0 k1 : Int) (g0 : 0 ≤ k0 ∧ k0 ≤ 255) (g1 : 0 ≤ k1 ∧ k1 ≤ 255) : DoesIn w 6 #[.slice A n c, .slice B m d, .agg #[.int .u8 k0, .int .u8 k1]] (.bool true) := by
  obtain ⟨a0, a1, a2, a3, a4, a5, a6, a7, il⟩ := isL_of (linQ_gr l) (by decide) (by decide) (by decide)
  obtain ⟨b0, b1, b2, b3, b4, b5, b6, b7, b8, b9, b10, b11, ib⟩ := isBx_of (boxQ_gr t) (by decide) (by decide) (by decide)
  have TL := Lib.hid (rlinear_ (c := c) hA hn hl hs il)
  have TB := Lib.hid (rbox_ (c := d) hB hm ht hr ib)
  have gl := linQ_gr l
  have gb := boxQ_gr t
  have ok := boxQ_ok t
  generalize linQ l = x at *
  generalize boxQ t = b at *
  clear hA hn hl hs hB hm ht hr
  obtain ⟨fa, eA⟩ : ∃ a, k0 % 41 = a := ⟨_, rfl⟩
  obtain ⟨fb, eB⟩ : ∃ a, k1 % 6 = a := ⟨_, rfl⟩
  have t1 : k0.tmod 41 = fa := by rw [Int.tmod_eq_emod_of_nonneg g0.1]; exact eA
  have t2 : k1.tmod 6 = fb := by rw [Int.tmod_eq_emod_of_nonneg g1.1]; exact eB
  have t3 : IntKind.u8.wrap fa = fa := IntWalk.u8_in _ (by omega)
  have t4 : IntKind.u8.wrap fb = fb := IntWalk.u8_in _ (by omega)
  have t5 : IntKind.i64.wrap fa = fa := IntWalk.i64_in _ (by omega)
  have t6 : IntKind.i64.wrap fb = fb := IntWalk.i64_in _ (by omega)
  have t7 : IntKind.i64.wrap (1 + fb) = 1 + fb := IntWalk.i64_in _ (by omega)
  have gf : Gr 60 2400 (Rat.divInt fa (1 + fb)) := gr_frac (m := 40) (by omega) (by omega) (by omega)
  obtain ⟨f0, f1, jf⟩ := gf.isF (by decide) (by decide) (by decide)
  have hf0 : 0 ≤ Rat.divInt fa (1 + fb) := divInt_pos (by omega) (by omega)
  have TF := Lib.hid (fmade (n := fa) (d := 1 + fb) (by unfold I64; omega) (by unfold I64; omega) (by omega) jf)
  clear eA eB
  generalize Rat.divInt fa (1 + fb) = f at *
  have gs : (x.op (· * ·) ⟨f, f, f, f⟩).Gr 3600 2880000 := mul_gr gl gf
  have gn : (x.op (· * ·) ⟨Rat.divInt (-1) 1, Rat.divInt (-1) 1, Rat.divInt (-1) 1, Rat.divInt (-1) 1⟩).Gr 60 1200 := mul_gr gl gr_one
  have es : x.scale f = some (x.op (· * ·) ⟨f, f, f, f⟩) := gs.fits (by decide) (by decide) (by decide)
  have en : x.scale (Rat.divInt (-1) 1) = some (x.op (· * ·) ⟨Rat.divInt (-1) 1, Rat.divInt (-1) 1, Rat.divInt (-1) 1, Rat.divInt (-1) 1⟩) := gn.fits (by decide) (by decide) (by decide)
  have vs := least_mul (l := x) ok hf0
  have vn := least_neg (l := x) ok minus_one
  have jm := isF_int (-1) (by decide)
  generalize x.op (· * ·) ⟨f, f, f, f⟩ = s at *
  generalize x.op (· * ·) ⟨Rat.divInt (-1) 1, Rat.divInt (-1) 1, Rat.divInt (-1) 1, Rat.divInt (-1) 1⟩ = n1 at *
  obtain ⟨s0, s1, s2, s3, s4, s5, s6, s7, js⟩ := isL_of gs (by decide) (by decide) (by decide)
  obtain ⟨n0, n1, n2, n3, n4, n5, n6, n7, jn⟩ := isL_of gn (by decide) (by decide) (by decide)
  have TS := Lib.hid (lscaled il jf (.inl ⟨_, es, js, rfl⟩))
  have TN := Lib.hid (lscaled il jm (.inl ⟨_, en, jn, rfl⟩))
  have TW := Lib.hid (whole_ (-1))
  have VS := Lib.hid ((rvalid (i64_f js.k).1 (i64_f js.k).2 (i64_f js.t).1 (i64_f js.t).2 (i64_f js.v).1 (i64_f js.v).2 (i64_f js.a).1 (i64_f js.a).2).eq (congrArg Value.bool (okL_of js)))
  have VN := Lib.hid ((rvalid (i64_f jn.k).1 (i64_f jn.k).2 (i64_f jn.t).1 (i64_f jn.t).2 (i64_f jn.v).1 (i64_f jn.v).2 (i64_f jn.a).1 (i64_f jn.a).2).eq (congrArg Value.bool (okL_of jn)))
  obtain ⟨r0, r1, r2, r3, jr, er, o1, p1, q1⟩ := range_facts (M := 1200) (by decide) gl gb ok
  have RR := Lib.hid (lranged il ib (.inl ⟨_, er, jr, rfl⟩))
  have VR := Lib.hid ((rvalidInterval (i64_f jr.lo).1 (i64_f jr.lo).2 (i64_f jr.hi).1 (i64_f jr.hi).2).eq (congrArg Value.bool o1))
  obtain ⟨c1, c2, ec⟩ := range_facts' (by decide) (by decide) (by decide) gs gb
  obtain ⟨d1, d2, ed⟩ := range_facts' (by decide) (by decide) (by decide) gn gb
  rw [vs.1] at c1 ec
  rw [vs.2] at c2 ec
  rw [vn.1, vn.2] at ed
  obtain ⟨u0, u1, ju⟩ := isF_of _ c1
  obtain ⟨u2, u3, jv⟩ := isF_of _ c2
  have RT := Lib.hid (lranged js ib (.inl ⟨_, ec, ⟨ju, jv⟩, rfl⟩))
  have RM := Lib.hid (lranged jn ib (.inl ⟨_, ed, ⟨isF_neg jr.hi, isF_neg jr.lo⟩, rfl⟩))
  have ML := Lib.hid (fmul jr.lo jf (resF_fit ju))
  have MH := Lib.hid (fmul jr.hi jf (resF_fit jv))
  have y1 : IntKind.i64.wrap (-r2) = -r2 := IntWalk.i64_in _ (by have := jr.hi.n62; unfold I62 at this; omega)
  have y2 : IntKind.i64.wrap (-r0) = -r0 := IntWalk.i64_in _ (by have := jr.lo.n62; unfold I62 at this; omega)
  have EX := Lib.hid examples_
  clear il ib gl gb ok gf jf hf0 gs gn es en vs vn jm js jn jr er o1 p1 q1 c1 c2 ec d1 d2 ed ju jv g0 g1
  intro W0 HB0
  have TL := Lib.hid (TL.out.mono HB0)
  have TB := Lib.hid (TB.out.mono HB0)
  clear HB0
  go_enter Try.func6, Try.ntmps6
  go_upto_region 1 with fail
  have hst := start1 W0 (#[.int .u8 k0, .int .u8 k1]) 72
  generalize (W0.alloc (.cells #[.int .u8 k0, .int .u8 k1] 72)) = Wx3 at *
  obtain ⟨mx1, Bx2⟩ := hst
  have ltx4 := mx1.lt
  go_wp2_with fail
  refine (EX.out.at _).mono ?_
  rintro o Wx5 ⟨rfl, hbx6⟩
  have mx7 := mx1.keep hbx6
  have Bx8 := Bx2.trans (hbx6.mono Bx2.size)
  have szx9 := hbx6.size
  clear mx1 Bx2 hbx6
  go_upto_region 4 with fail
  refine wp_region_plain_tail 4 ?_
  simp only [List.take_succ_cons, List.take_zero, List.drop_succ_cons, List.drop_zero]
  have Gx11 := Lib.hid (fun p => DoesIn.later TL.out Bx8 p)
  have Gx12 := Lib.hid (fun p => DoesIn.later TB.out Bx8 p)
  repeat (go_big_quiet_step (((first | (go_at_call 17; with_reducible exact later_of ((Gx11.out _))) | (go_at_call 19; with_reducible exact later_of ((Gx12.out _)))))))
  refine wpQuiet_nil ?_
  intro _ hw'
  obtain ⟨zx10, hw''⟩ := hw'
  subst hw''
  clear Gx11 Gx12
  have hbx13 := zx10.below
  have mx14 := mx7.keep hbx13
  have Bx15 := Bx8.trans (hbx13.mono Bx8.size)
  have szx16 := hbx13.size
  clear mx7 Bx8 hbx13
  go_upto_region 5 with fail
  have ltx21 := mx14.lt
  obtain ⟨mx19, mx20, hbx18⟩ := start2 zx10.val (#[.int .i64 a0, .int .i64 a1, .int .i64 a2, .int .i64 a3, .int .i64 a4, .int .i64 a5, .int .i64 a6, .int .i64 a7]) (#[.int .i64 b0, .int .i64 b1, .int .i64 b2, .int .i64 b3, .int .i64 b4, .int .i64 b5, .int .i64 b6, .int .i64 b7, .int .i64 b8, .int .i64 b9, .int .i64 b10, .int .i64 b11]) 25 29
  have mx22 := mx14.keep hbx18
  have Bx23 := Bx15.trans (hbx18.mono Bx15.size)
  have szx24 := hbx18.size
  clear mx14 Bx15 hbx18
  generalize ((zx10.val.alloc (.cells #[.int .i64 a0, .int .i64 a1, .int .i64 a2, .int .i64 a3, .int .i64 a4, .int .i64 a5, .int .i64 a6, .int .i64 a7] 25)).alloc (.cells #[.int .i64 b0, .int .i64 b1, .int .i64 b2, .int .i64 b3, .int .i64 b4, .int .i64 b5, .int .i64 b6, .int .i64 b7, .int .i64 b8, .int .i64 b9, .int .i64 b10, .int .i64 b11] 29)) = Wx17 at *
  have ltx25 := mx19.lt
  have ltx26 := mx20.lt
  obtain ⟨c_k0, c_k1⟩ := mx22.l2 (Below.refl _ _)
  refine wp_region_plain_tail 10 ?_
  simp only [List.take_succ_cons, List.take_zero, List.drop_succ_cons, List.drop_zero]
  repeat (go_big_quiet_step (((go_at_call 43; with_reducible exact later_of ((TF.out.at _))))))
  refine wpQuiet_nil ?_
  intro _ hw'
  obtain ⟨zx27, hw''⟩ := hw'
  subst hw''
  clear c_k0 c_k1
  have hbx28 := zx27.below
  have mx29 := mx22.keep hbx28
  have mx30 := mx19.keep hbx28
  have mx31 := mx20.keep hbx28
  have Bx32 := Bx23.trans (hbx28.mono Bx23.size)
  have szx33 := hbx28.size
  clear mx22 mx19 mx20 Bx23 hbx28
  go_upto_region 6 with fail
  have mx34 := BoxL.new zx27.val #[.int .i64 f0, .int .i64 f1] 23
  have hbx35 := (Below.refl zx27.val.heap.size zx27.val).alloc (Nat.le_refl _) (.cells #[.int .i64 f0, .int .i64 f1] 23)
  have ltx37 := mx29.lt
  have ltx38 := mx30.lt
  have ltx39 := mx31.lt
  have mx40 := mx29.keep hbx35
  have mx41 := mx30.keep hbx35
  have mx42 := mx31.keep hbx35
  have Bx43 := Bx32.trans (hbx35.mono Bx32.size)
  have szx44 := hbx35.size
  clear mx29 mx30 mx31 Bx32 hbx35
  generalize zx27.val.alloc (.cells #[.int .i64 f0, .int .i64 f1] 23) = Wx36 at *
  have ltx45 := mx34.lt
  have ltx46 := mx40.lt
  have ltx47 := mx41.lt
  have ltx48 := mx42.lt
  have ltx49 := mx34.lt
  refine wp_region_free2 (agf := ?frx50) 8 6 7 zrLine zrLine (by kernel_rfl) [] (by kernel_rfl) (fun d _ _ _ _ h => by cases d <;> exact h) (by decide) (by rfl) (by rfl) (by rfl) (by rfl) ?frx501 ?frx502
  case frx501 =>
    intro W hW
    obtain ⟨c_x0, c_x1, c_x2, c_x3, c_x4, c_x5, c_x6, c_x7⟩ := mx41.l8 hW
    obtain ⟨c_f0, c_f1⟩ := mx34.l2 hW
    simp only [List.take_succ_cons, List.take_zero, ghostL, List.contains_cons, List.contains_nil, Nat.reduceAdd, Nat.reduceBEq, Bool.or_false, Bool.or_true, Bool.true_or, Bool.false_or, Bool.false_eq_true, if_false, if_true, ghostO]
    repeat (go_big_quiet_step (((first | (go_at_call 28; first | with_reducible exact later_of ((TS.out.at _)) | with_reducible exact later_of ((TN.out.at _))) | (go_at_call 44; with_reducible exact later_of ((TW.out.at _)))))))
    refine wpQuiet_nil ?_
    rfl
  case frx502 =>
    intro bx53 bx54 Wx51 hbx52 mx55 mx56 gx57 gx58 nex59
    simp only [List.drop_succ_cons, List.drop_zero, Act.put, List.setIfInBounds_toArray, List.set_cons_succ, List.set_cons_zero]
    have mx60 := mx40.keep hbx52
    have mx61 := mx41.keep hbx52
    have mx62 := mx42.keep hbx52
    have mx63 := mx34.keep hbx52
    have Bx64 := Bx43.trans (hbx52.mono Bx43.size)
    have szx65 := hbx52.size
    clear mx40 mx41 mx42 mx34 Bx43 hbx52
    have ltx66 := mx55.lt
    have ltx67 := mx56.lt
    obtain ⟨c_s0, c_s1, c_s2, c_s3, c_s4, c_s5, c_s6, c_s7, c_s8⟩ := mx55.c9
    obtain ⟨f_s0, f_s1, f_s2, f_s3, f_s4, f_s5, f_s6, f_s7, f_s8⟩ := mx55.f9
    obtain ⟨c_n0, c_n1, c_n2, c_n3, c_n4, c_n5, c_n6, c_n7, c_n8⟩ := mx56.c9
    obtain ⟨f_n0, f_n1, f_n2, f_n3, f_n4, f_n5, f_n6, f_n7, f_n8⟩ := mx56.f9
    go_upto_region 7 with fail
    clear c_s0 c_s1 c_s2 c_s3 c_s4 c_s5 c_s6 c_s7 c_s8 f_s0 f_s1 f_s2 f_s3 f_s4 f_s5 f_s6 f_s7 f_s8
    clear c_n0 c_n1 c_n2 c_n3 c_n4 c_n5 c_n6 c_n7 c_n8 f_n0 f_n1 f_n2 f_n3 f_n4 f_n5 f_n6 f_n7 f_n8
    have mx69 := mx55.s9 (.int .i64 s0) (.int .i64 s1) (.int .i64 s2) (.int .i64 s3) (.int .i64 s4) (.int .i64 s5) (.int .i64 s6) (.int .i64 s7) (.int .i64 0)
    have mx70 := mx60.z9 (b := bx53) (by omega) (.int .i64 s0) (.int .i64 s1) (.int .i64 s2) (.int .i64 s3) (.int .i64 s4) (.int .i64 s5) (.int .i64 s6) (.int .i64 s7) (.int .i64 0)
    have mx71 := mx61.z9 (b := bx53) (by omega) (.int .i64 s0) (.int .i64 s1) (.int .i64 s2) (.int .i64 s3) (.int .i64 s4) (.int .i64 s5) (.int .i64 s6) (.int .i64 s7) (.int .i64 0)
    have mx72 := mx62.z9 (b := bx53) (by omega) (.int .i64 s0) (.int .i64 s1) (.int .i64 s2) (.int .i64 s3) (.int .i64 s4) (.int .i64 s5) (.int .i64 s6) (.int .i64 s7) (.int .i64 0)
    have mx73 := mx63.z9 (b := bx53) (by omega) (.int .i64 s0) (.int .i64 s1) (.int .i64 s2) (.int .i64 s3) (.int .i64 s4) (.int .i64 s5) (.int .i64 s6) (.int .i64 s7) (.int .i64 0)
    have mx74 := mx56.z9 (b := bx53) (by omega) (.int .i64 s0) (.int .i64 s1) (.int .i64 s2) (.int .i64 s3) (.int .i64 s4) (.int .i64 s5) (.int .i64 s6) (.int .i64 s7) (.int .i64 0)
    have Bx75 := below_s9 (b := bx53) Bx64 (by omega) (.int .i64 s0) (.int .i64 s1) (.int .i64 s2) (.int .i64 s3) (.int .i64 s4) (.int .i64 s5) (.int .i64 s6) (.int .i64 s7) (.int .i64 0)
    have ltx76 := mx69.lt
    generalize (((((((((Wx51.setCell ⟨bx53, 0, none⟩ (.int .i64 s0)).setCell ⟨bx53, 1, none⟩ (.int .i64 s1)).setCell ⟨bx53, 2, none⟩ (.int .i64 s2)).setCell ⟨bx53, 3, none⟩ (.int .i64 s3)).setCell ⟨bx53, 4, none⟩ (.int .i64 s4)).setCell ⟨bx53, 5, none⟩ (.int .i64 s5)).setCell ⟨bx53, 6, none⟩ (.int .i64 s6)).setCell ⟨bx53, 7, none⟩ (.int .i64 s7)).setCell ⟨bx53, 8, none⟩ (.int .i64 0)) = Wx68 at *
    clear mx55 mx60 mx61 mx62 mx63 mx56 Bx64
    have mx78 := mx74.s9 (.int .i64 n0) (.int .i64 n1) (.int .i64 n2) (.int .i64 n3) (.int .i64 n4) (.int .i64 n5) (.int .i64 n6) (.int .i64 n7) (.int .i64 0)
    have mx79 := mx70.z9 (b := bx54) (by omega) (.int .i64 n0) (.int .i64 n1) (.int .i64 n2) (.int .i64 n3) (.int .i64 n4) (.int .i64 n5) (.int .i64 n6) (.int .i64 n7) (.int .i64 0)
    have mx80 := mx71.z9 (b := bx54) (by omega) (.int .i64 n0) (.int .i64 n1) (.int .i64 n2) (.int .i64 n3) (.int .i64 n4) (.int .i64 n5) (.int .i64 n6) (.int .i64 n7) (.int .i64 0)
    have mx81 := mx72.z9 (b := bx54) (by omega) (.int .i64 n0) (.int .i64 n1) (.int .i64 n2) (.int .i64 n3) (.int .i64 n4) (.int .i64 n5) (.int .i64 n6) (.int .i64 n7) (.int .i64 0)
    have mx82 := mx73.z9 (b := bx54) (by omega) (.int .i64 n0) (.int .i64 n1) (.int .i64 n2) (.int .i64 n3) (.int .i64 n4) (.int .i64 n5) (.int .i64 n6) (.int .i64 n7) (.int .i64 0)
    have mx83 := mx69.z9 (b := bx54) (by omega) (.int .i64 n0) (.int .i64 n1) (.int .i64 n2) (.int .i64 n3) (.int .i64 n4) (.int .i64 n5) (.int .i64 n6) (.int .i64 n7) (.int .i64 0)
    have Bx84 := below_s9 (b := bx54) Bx75 (by omega) (.int .i64 n0) (.int .i64 n1) (.int .i64 n2) (.int .i64 n3) (.int .i64 n4) (.int .i64 n5) (.int .i64 n6) (.int .i64 n7) (.int .i64 0)
    have ltx85 := mx78.lt
    generalize (((((((((Wx68.setCell ⟨bx54, 0, none⟩ (.int .i64 n0)).setCell ⟨bx54, 1, none⟩ (.int .i64 n1)).setCell ⟨bx54, 2, none⟩ (.int .i64 n2)).setCell ⟨bx54, 3, none⟩ (.int .i64 n3)).setCell ⟨bx54, 4, none⟩ (.int .i64 n4)).setCell ⟨bx54, 5, none⟩ (.int .i64 n5)).setCell ⟨bx54, 6, none⟩ (.int .i64 n6)).setCell ⟨bx54, 7, none⟩ (.int .i64 n7)).setCell ⟨bx54, 8, none⟩ (.int .i64 0)) = Wx77 at *
    clear mx74 mx70 mx71 mx72 mx73 mx69 Bx75
    obtain ⟨c_s0, c_s1, c_s2, c_s3, c_s4, c_s5, c_s6, c_s7, c_s8⟩ := mx83.l9 (Below.refl _ _)
    obtain ⟨c_n0, c_n1, c_n2, c_n3, c_n4, c_n5, c_n6, c_n7, c_n8⟩ := mx78.l9 (Below.refl _ _)
    refine wp_region_plain ?_
    repeat (go_big_quiet_step (((go_at_call 11; first | with_reducible exact later_of ((VS.out.at _)) | with_reducible exact later_of ((VN.out.at _))))))
    refine wpQuiet_nil ?_
    intro _ hw'
    obtain ⟨zx86, hw''⟩ := hw'
    subst hw''
    clear c_s0 c_s1 c_s2 c_s3 c_s4 c_s5 c_s6 c_s7 c_s8
    clear c_n0 c_n1 c_n2 c_n3 c_n4 c_n5 c_n6 c_n7 c_n8
    have hbx87 := zx86.below
    have mx88 := mx79.keep hbx87
    have mx89 := mx80.keep hbx87
    have mx90 := mx81.keep hbx87
    have mx91 := mx82.keep hbx87
    have mx92 := mx83.keep hbx87
    have mx93 := mx78.keep hbx87
    have Bx94 := Bx84.trans (hbx87.mono Bx84.size)
    have szx95 := hbx87.size
    clear mx79 mx80 mx81 mx82 mx83 mx78 Bx84 hbx87
    go_upto_region 9 with fail
    have ltx96 := mx88.lt
    have ltx97 := mx89.lt
    have ltx98 := mx90.lt
    have ltx99 := mx91.lt
    have ltx100 := mx92.lt
    have ltx101 := mx93.lt
    refine wp_region_free3 (agf := ?frx102) 14 11 12 13 zrG zrG zrG (by kernel_rfl) [] (by kernel_rfl) (fun d _ _ _ _ h => by cases d <;> exact h) (by decide) (by decide) (by decide) (by rfl) (by rfl) (by rfl) (by rfl) (by rfl) (by rfl) ?frx1021 ?frx1022
    case frx1021 =>
      intro W hW
      obtain ⟨c_x0, c_x1, c_x2, c_x3, c_x4, c_x5, c_x6, c_x7⟩ := mx89.l8 hW
      obtain ⟨c_s0, c_s1, c_s2, c_s3, c_s4, c_s5, c_s6, c_s7, c_s8⟩ := mx92.l9 hW
      obtain ⟨c_n0, c_n1, c_n2, c_n3, c_n4, c_n5, c_n6, c_n7, c_n8⟩ := mx93.l9 hW
      obtain ⟨c_d0, c_d1, c_d2, c_d3, c_d4, c_d5, c_d6, c_d7, c_d8, c_d9, c_d10, c_d11⟩ := mx90.l12 hW
      simp only [List.take_succ_cons, List.take_zero, ghostL, List.contains_cons, List.contains_nil, Nat.reduceAdd, Nat.reduceBEq, Bool.or_false, Bool.or_true, Bool.true_or, Bool.false_or, Bool.false_eq_true, if_false, if_true, ghostO]
      repeat (go_big_quiet_step (((go_at_call 24; first | with_reducible exact later_of ((RR.out.at _)) | with_reducible exact later_of ((RT.out.at _)) | with_reducible exact later_of ((RM.out.at _))))))
      refine wpQuiet_nil ?_
      rfl
    case frx1022 =>
      intro bx105 bx106 bx107 Wx103 hbx104 mx108 mx109 mx110 gx111 gx112 gx113 nex114 nex115 nex116
      simp only [List.drop_succ_cons, List.drop_zero, Act.put, List.setIfInBounds_toArray, List.set_cons_succ, List.set_cons_zero]
      have mx117 := mx88.keep hbx104
      have mx118 := mx89.keep hbx104
      have mx119 := mx90.keep hbx104
      have mx120 := mx91.keep hbx104
      have mx121 := mx92.keep hbx104
      have mx122 := mx93.keep hbx104
      have Bx123 := Bx94.trans (hbx104.mono Bx94.size)
      have szx124 := hbx104.size
      clear mx88 mx89 mx90 mx91 mx92 mx93 Bx94 hbx104
      have ltx125 := mx108.lt
      have ltx126 := mx109.lt
      have ltx127 := mx110.lt
      obtain ⟨c_r0, c_r1, c_r2, c_r3, c_r4⟩ := mx108.c5
      obtain ⟨f_r0, f_r1, f_r2, f_r3, f_r4⟩ := mx108.f5
      obtain ⟨c_t0, c_t1, c_t2, c_t3, c_t4⟩ := mx109.c5
      obtain ⟨f_t0, f_t1, f_t2, f_t3, f_t4⟩ := mx109.f5
      obtain ⟨c_m0, c_m1, c_m2, c_m3, c_m4⟩ := mx110.c5
      obtain ⟨f_m0, f_m1, f_m2, f_m3, f_m4⟩ := mx110.f5
      go_upto_region 10 with fail
      clear c_r0 c_r1 c_r2 c_r3 c_r4 f_r0 f_r1 f_r2 f_r3 f_r4
      clear c_t0 c_t1 c_t2 c_t3 c_t4 f_t0 f_t1 f_t2 f_t3 f_t4
      clear c_m0 c_m1 c_m2 c_m3 c_m4 f_m0 f_m1 f_m2 f_m3 f_m4
      have mx129 := mx108.s5 (.int .i64 r0) (.int .i64 r1) (.int .i64 r2) (.int .i64 r3) (.int .i64 0)
      have mx130 := mx117.z5 (b := bx105) (by omega) (.int .i64 r0) (.int .i64 r1) (.int .i64 r2) (.int .i64 r3) (.int .i64 0)
      have mx131 := mx118.z5 (b := bx105) (by omega) (.int .i64 r0) (.int .i64 r1) (.int .i64 r2) (.int .i64 r3) (.int .i64 0)
      have mx132 := mx119.z5 (b := bx105) (by omega) (.int .i64 r0) (.int .i64 r1) (.int .i64 r2) (.int .i64 r3) (.int .i64 0)
      have mx133 := mx120.z5 (b := bx105) (by omega) (.int .i64 r0) (.int .i64 r1) (.int .i64 r2) (.int .i64 r3) (.int .i64 0)
      have mx134 := mx121.z5 (b := bx105) (by omega) (.int .i64 r0) (.int .i64 r1) (.int .i64 r2) (.int .i64 r3) (.int .i64 0)
      have mx135 := mx122.z5 (b := bx105) (by omega) (.int .i64 r0) (.int .i64 r1) (.int .i64 r2) (.int .i64 r3) (.int .i64 0)
      have mx136 := mx109.z5 (b := bx105) (by omega) (.int .i64 r0) (.int .i64 r1) (.int .i64 r2) (.int .i64 r3) (.int .i64 0)
      have mx137 := mx110.z5 (b := bx105) (by omega) (.int .i64 r0) (.int .i64 r1) (.int .i64 r2) (.int .i64 r3) (.int .i64 0)
      have Bx138 := below_s5 (b := bx105) Bx123 (by omega) (.int .i64 r0) (.int .i64 r1) (.int .i64 r2) (.int .i64 r3) (.int .i64 0)
      have ltx139 := mx129.lt
      generalize (((((Wx103.setCell ⟨bx105, 0, none⟩ (.int .i64 r0)).setCell ⟨bx105, 1, none⟩ (.int .i64 r1)).setCell ⟨bx105, 2, none⟩ (.int .i64 r2)).setCell ⟨bx105, 3, none⟩ (.int .i64 r3)).setCell ⟨bx105, 4, none⟩ (.int .i64 0)) = Wx128 at *
      clear mx108 mx117 mx118 mx119 mx120 mx121 mx122 mx109 mx110 Bx123
      have mx141 := mx136.s5 (.int .i64 u0) (.int .i64 u1) (.int .i64 u2) (.int .i64 u3) (.int .i64 0)
      have mx142 := mx130.z5 (b := bx106) (by omega) (.int .i64 u0) (.int .i64 u1) (.int .i64 u2) (.int .i64 u3) (.int .i64 0)
      have mx143 := mx131.z5 (b := bx106) (by omega) (.int .i64 u0) (.int .i64 u1) (.int .i64 u2) (.int .i64 u3) (.int .i64 0)
      have mx144 := mx132.z5 (b := bx106) (by omega) (.int .i64 u0) (.int .i64 u1) (.int .i64 u2) (.int .i64 u3) (.int .i64 0)
      have mx145 := mx133.z5 (b := bx106) (by omega) (.int .i64 u0) (.int .i64 u1) (.int .i64 u2) (.int .i64 u3) (.int .i64 0)
      have mx146 := mx134.z5 (b := bx106) (by omega) (.int .i64 u0) (.int .i64 u1) (.int .i64 u2) (.int .i64 u3) (.int .i64 0)
      have mx147 := mx135.z5 (b := bx106) (by omega) (.int .i64 u0) (.int .i64 u1) (.int .i64 u2) (.int .i64 u3) (.int .i64 0)
      have mx148 := mx129.z5 (b := bx106) (by omega) (.int .i64 u0) (.int .i64 u1) (.int .i64 u2) (.int .i64 u3) (.int .i64 0)
      have mx149 := mx137.z5 (b := bx106) (by omega) (.int .i64 u0) (.int .i64 u1) (.int .i64 u2) (.int .i64 u3) (.int .i64 0)
      have Bx150 := below_s5 (b := bx106) Bx138 (by omega) (.int .i64 u0) (.int .i64 u1) (.int .i64 u2) (.int .i64 u3) (.int .i64 0)
      have ltx151 := mx141.lt
      generalize (((((Wx128.setCell ⟨bx106, 0, none⟩ (.int .i64 u0)).setCell ⟨bx106, 1, none⟩ (.int .i64 u1)).setCell ⟨bx106, 2, none⟩ (.int .i64 u2)).setCell ⟨bx106, 3, none⟩ (.int .i64 u3)).setCell ⟨bx106, 4, none⟩ (.int .i64 0)) = Wx140 at *
      clear mx136 mx130 mx131 mx132 mx133 mx134 mx135 mx129 mx137 Bx138
      have mx153 := mx149.s5 (.int .i64 (-r2)) (.int .i64 r3) (.int .i64 (-r0)) (.int .i64 r1) (.int .i64 0)
      have mx154 := mx142.z5 (b := bx107) (by omega) (.int .i64 (-r2)) (.int .i64 r3) (.int .i64 (-r0)) (.int .i64 r1) (.int .i64 0)
      have mx155 := mx143.z5 (b := bx107) (by omega) (.int .i64 (-r2)) (.int .i64 r3) (.int .i64 (-r0)) (.int .i64 r1) (.int .i64 0)
      have mx156 := mx144.z5 (b := bx107) (by omega) (.int .i64 (-r2)) (.int .i64 r3) (.int .i64 (-r0)) (.int .i64 r1) (.int .i64 0)
      have mx157 := mx145.z5 (b := bx107) (by omega) (.int .i64 (-r2)) (.int .i64 r3) (.int .i64 (-r0)) (.int .i64 r1) (.int .i64 0)
      have mx158 := mx146.z5 (b := bx107) (by omega) (.int .i64 (-r2)) (.int .i64 r3) (.int .i64 (-r0)) (.int .i64 r1) (.int .i64 0)
      have mx159 := mx147.z5 (b := bx107) (by omega) (.int .i64 (-r2)) (.int .i64 r3) (.int .i64 (-r0)) (.int .i64 r1) (.int .i64 0)
      have mx160 := mx148.z5 (b := bx107) (by omega) (.int .i64 (-r2)) (.int .i64 r3) (.int .i64 (-r0)) (.int .i64 r1) (.int .i64 0)
      have mx161 := mx141.z5 (b := bx107) (by omega) (.int .i64 (-r2)) (.int .i64 r3) (.int .i64 (-r0)) (.int .i64 r1) (.int .i64 0)
      have Bx162 := below_s5 (b := bx107) Bx150 (by omega) (.int .i64 (-r2)) (.int .i64 r3) (.int .i64 (-r0)) (.int .i64 r1) (.int .i64 0)
      have ltx163 := mx153.lt
      generalize (((((Wx140.setCell ⟨bx107, 0, none⟩ (.int .i64 (-r2))).setCell ⟨bx107, 1, none⟩ (.int .i64 r3)).setCell ⟨bx107, 2, none⟩ (.int .i64 (-r0))).setCell ⟨bx107, 3, none⟩ (.int .i64 r1)).setCell ⟨bx107, 4, none⟩ (.int .i64 0)) = Wx152 at *
      clear mx149 mx142 mx143 mx144 mx145 mx146 mx147 mx148 mx141 Bx150
      obtain ⟨c_r0, c_r1, c_r2, c_r3, c_r4⟩ := mx160.l5 (Below.refl _ _)
      refine wp_region_plain ?_
      repeat (go_big_quiet_step (((go_at_call 15; with_reducible exact later_of ((VR.out.at _))))))
      refine wpQuiet_nil ?_
      intro _ hw'
      obtain ⟨zx164, hw''⟩ := hw'
      subst hw''
      clear c_r0 c_r1 c_r2 c_r3 c_r4
      have hbx165 := zx164.below
      have mx166 := mx154.keep hbx165
      have mx167 := mx155.keep hbx165
      have mx168 := mx156.keep hbx165
      have mx169 := mx157.keep hbx165
      have mx170 := mx158.keep hbx165
      have mx171 := mx159.keep hbx165
      have mx172 := mx160.keep hbx165
      have mx173 := mx161.keep hbx165
      have mx174 := mx153.keep hbx165
      have Bx175 := Bx162.trans (hbx165.mono Bx162.size)
      have szx176 := hbx165.size
      clear mx154 mx155 mx156 mx157 mx158 mx159 mx160 mx161 mx153 Bx162 hbx165
      go_upto_region 12 with fail
      obtain ⟨c_r0, c_r1, c_r2, c_r3, c_r4⟩ := mx172.l5 (Below.refl _ _)
      obtain ⟨c_f0, c_f1⟩ := mx169.l2 (Below.refl _ _)
      refine wp_region_plain_tail 8 ?_
      simp only [List.take_succ_cons, List.take_zero, List.drop_succ_cons, List.drop_zero]
      repeat (go_big_quiet_step (((go_at_call 45; with_reducible exact later_of ((ML.out.at _))))))
      refine wpQuiet_nil ?_
      intro _ hw'
      obtain ⟨zx177, hw''⟩ := hw'
      subst hw''
      clear c_r0 c_r1 c_r2 c_r3 c_r4
      clear c_f0 c_f1
      have hbx178 := zx177.below
      have mx179 := mx166.keep hbx178
      have mx180 := mx167.keep hbx178
      have mx181 := mx168.keep hbx178
      have mx182 := mx169.keep hbx178
      have mx183 := mx170.keep hbx178
      have mx184 := mx171.keep hbx178
      have mx185 := mx172.keep hbx178
      have mx186 := mx173.keep hbx178
      have mx187 := mx174.keep hbx178
      have Bx188 := Bx175.trans (hbx178.mono Bx175.size)
      have szx189 := hbx178.size
      clear mx166 mx167 mx168 mx169 mx170 mx171 mx172 mx173 mx174 Bx175 hbx178
      go_upto_region 13 with fail
      have mx190 := BoxL.new zx177.val #[.int .i64 u0, .int .i64 u1] 23
      have hbx191 := (Below.refl zx177.val.heap.size zx177.val).alloc (Nat.le_refl _) (.cells #[.int .i64 u0, .int .i64 u1] 23)
      have ltx193 := mx179.lt
      have ltx194 := mx180.lt
      have ltx195 := mx181.lt
      have ltx196 := mx182.lt
      have ltx197 := mx183.lt
      have ltx198 := mx184.lt
      have ltx199 := mx185.lt
      have ltx200 := mx186.lt
      have ltx201 := mx187.lt
      have mx202 := mx179.keep hbx191
      have mx203 := mx180.keep hbx191
      have mx204 := mx181.keep hbx191
      have mx205 := mx182.keep hbx191
      have mx206 := mx183.keep hbx191
      have mx207 := mx184.keep hbx191
      have mx208 := mx185.keep hbx191
      have mx209 := mx186.keep hbx191
      have mx210 := mx187.keep hbx191
      have Bx211 := Bx188.trans (hbx191.mono Bx188.size)
      have szx212 := hbx191.size
      clear mx179 mx180 mx181 mx182 mx183 mx184 mx185 mx186 mx187 Bx188 hbx191
      generalize zx177.val.alloc (.cells #[.int .i64 u0, .int .i64 u1] 23) = Wx192 at *
      have ltx213 := mx190.lt
      obtain ⟨c_r0, c_r1, c_r2, c_r3, c_r4⟩ := mx208.l5 (Below.refl _ _)
      obtain ⟨c_f0, c_f1⟩ := mx205.l2 (Below.refl _ _)
      refine wp_region_plain_tail 8 ?_
      simp only [List.take_succ_cons, List.take_zero, List.drop_succ_cons, List.drop_zero]
      repeat (go_big_quiet_step (((go_at_call 45; with_reducible exact later_of ((MH.out.at _))))))
      refine wpQuiet_nil ?_
      intro _ hw'
      obtain ⟨zx214, hw''⟩ := hw'
      subst hw''
      clear c_r0 c_r1 c_r2 c_r3 c_r4
      clear c_f0 c_f1
      have hbx215 := zx214.below
      have mx216 := mx202.keep hbx215
      have mx217 := mx203.keep hbx215
      have mx218 := mx204.keep hbx215
      have mx219 := mx205.keep hbx215
      have mx220 := mx206.keep hbx215
      have mx221 := mx207.keep hbx215
      have mx222 := mx208.keep hbx215
      have mx223 := mx209.keep hbx215
      have mx224 := mx210.keep hbx215
      have mx225 := mx190.keep hbx215
      have Bx226 := Bx211.trans (hbx215.mono Bx211.size)
      have szx227 := hbx215.size
      clear mx202 mx203 mx204 mx205 mx206 mx207 mx208 mx209 mx210 mx190 Bx211 hbx215
      go_upto_region 14 with fail
      have mx228 := BoxL.new zx214.val #[.int .i64 u2, .int .i64 u3] 23
      have hbx229 := (Below.refl zx214.val.heap.size zx214.val).alloc (Nat.le_refl _) (.cells #[.int .i64 u2, .int .i64 u3] 23)
      have ltx231 := mx216.lt
      have ltx232 := mx217.lt
      have ltx233 := mx218.lt
      have ltx234 := mx219.lt
      have ltx235 := mx220.lt
      have ltx236 := mx221.lt
      have ltx237 := mx222.lt
      have ltx238 := mx223.lt
      have ltx239 := mx224.lt
      have ltx240 := mx225.lt
      have mx241 := mx216.keep hbx229
      have mx242 := mx217.keep hbx229
      have mx243 := mx218.keep hbx229
      have mx244 := mx219.keep hbx229
      have mx245 := mx220.keep hbx229
      have mx246 := mx221.keep hbx229
      have mx247 := mx222.keep hbx229
      have mx248 := mx223.keep hbx229
      have mx249 := mx224.keep hbx229
      have mx250 := mx225.keep hbx229
      have Bx251 := Bx226.trans (hbx229.mono Bx226.size)
      have szx252 := hbx229.size
      clear mx216 mx217 mx218 mx219 mx220 mx221 mx222 mx223 mx224 mx225 Bx226 hbx229
      generalize zx214.val.alloc (.cells #[.int .i64 u2, .int .i64 u3] 23) = Wx230 at *
      have ltx253 := mx228.lt
      obtain ⟨c_s0, c_s1, c_s2, c_s3, c_s4, c_s5, c_s6, c_s7, c_s8⟩ := mx245.l9 (Below.refl _ _)
      obtain ⟨c_n0, c_n1, c_n2, c_n3, c_n4, c_n5, c_n6, c_n7, c_n8⟩ := mx246.l9 (Below.refl _ _)
      obtain ⟨c_r0, c_r1, c_r2, c_r3, c_r4⟩ := mx247.l5 (Below.refl _ _)
      obtain ⟨c_t0, c_t1, c_t2, c_t3, c_t4⟩ := mx248.l5 (Below.refl _ _)
      obtain ⟨c_m0, c_m1, c_m2, c_m3, c_m4⟩ := mx249.l5 (Below.refl _ _)
      refine wp_region_plain ?_
      repeat (go_big_quiet_step (fail))
      refine wpQuiet_nil ?_
      intro _ hw'
      obtain ⟨zx254, hw''⟩ := hw'
      subst hw''
      clear c_s0 c_s1 c_s2 c_s3 c_s4 c_s5 c_s6 c_s7 c_s8
      clear c_n0 c_n1 c_n2 c_n3 c_n4 c_n5 c_n6 c_n7 c_n8
      clear c_r0 c_r1 c_r2 c_r3 c_r4
      clear c_t0 c_t1 c_t2 c_t3 c_t4
      clear c_m0 c_m1 c_m2 c_m3 c_m4
      have hbx255 := zx254.below
      have mx256 := mx241.keep hbx255
      have mx257 := mx242.keep hbx255
      have mx258 := mx243.keep hbx255
      have mx259 := mx244.keep hbx255
      have mx260 := mx245.keep hbx255
      have mx261 := mx246.keep hbx255
      have mx262 := mx247.keep hbx255
      have mx263 := mx248.keep hbx255
      have mx264 := mx249.keep hbx255
      have mx265 := mx250.keep hbx255
      have mx266 := mx228.keep hbx255
      have Bx267 := Bx251.trans (hbx255.mono Bx251.size)
      have szx268 := hbx255.size
      clear mx241 mx242 mx243 mx244 mx245 mx246 mx247 mx248 mx249 mx250 mx228 Bx251 hbx255
      go_upto_region 16 with fail
      obtain ⟨c_t0, c_t1, c_t2, c_t3, c_t4⟩ := mx263.l5 (Below.refl _ _)
      obtain ⟨c_lo0, c_lo1⟩ := mx265.l2 (Below.refl _ _)
      obtain ⟨c_hi0, c_hi1⟩ := mx266.l2 (Below.refl _ _)
      obtain ⟨c_m0, c_m1, c_m2, c_m3, c_m4⟩ := mx264.l5 (Below.refl _ _)
      obtain ⟨c_r0, c_r1, c_r2, c_r3, c_r4⟩ := mx262.l5 (Below.refl _ _)
      refine wp_region_plain ?_
      repeat (go_big_quiet_step (fail))
      refine wpQuiet_nil ?_
      intro _ hw'
      obtain ⟨zx269, hw''⟩ := hw'
      subst hw''
      clear c_t0 c_t1 c_t2 c_t3 c_t4
      clear c_lo0 c_lo1
      clear c_hi0 c_hi1
      clear c_m0 c_m1 c_m2 c_m3 c_m4
      clear c_r0 c_r1 c_r2 c_r3 c_r4
      have hbx270 := zx269.below
      have mx271 := mx256.keep hbx270
      have mx272 := mx257.keep hbx270
      have mx273 := mx258.keep hbx270
      have mx274 := mx259.keep hbx270
      have mx275 := mx260.keep hbx270
      have mx276 := mx261.keep hbx270
      have mx277 := mx262.keep hbx270
      have mx278 := mx263.keep hbx270
      have mx279 := mx264.keep hbx270
      have mx280 := mx265.keep hbx270
      have mx281 := mx266.keep hbx270
      have Bx282 := Bx267.trans (hbx270.mono Bx267.size)
      have szx283 := hbx270.size
      clear mx256 mx257 mx258 mx259 mx260 mx261 mx262 mx263 mx264 mx265 mx266 Bx267 hbx270
      go_wp2_with fail
      go_ret
      exact ⟨rfl, Bx282⟩

theorem scales_row {w : World} {A : Option Addr} {n c : Nat} {l : List Int} (hA : Sl.Arr w A (l.map fun x => .int .u8 x)) (hn : l.length = n) (hl : Bytes l) (hs : n < 9223372036854775808) {B : Option Addr} {m d : Nat} {t : List Int} (hB : Sl.Arr w B (t.map fun x => .int .u8 x)) (hm : t.length = m) (ht : Bytes t) (hr : m < 9223372036854775808) {x y : Int} (hx : 0 ≤ x ∧ x ≤ 255) (hy : 0 ≤ y ∧ y ≤ 255) : DoesIn w 6 #[.slice A n c, .slice B m d, .agg #[.int .u8 x, .int .u8 y]] (.bool true) := scales_walk hA hn hl hs hB hm ht hr x y hx hy

end Fr
end Go.Proofs.Ytojkaaglmdfcnaa
