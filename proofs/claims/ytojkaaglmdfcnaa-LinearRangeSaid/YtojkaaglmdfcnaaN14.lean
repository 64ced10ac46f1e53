/- LinearRange: the walk. -/
import Derived.Test.YtojkaaglmdfcnaaN13
namespace Go.Proofs.Ytojkaaglmdfcnaa
open Go.RowKit Go.Shelf
namespace Fr
set_option linter.unusedVariables false
set_option linter.unusedSimpArgs false


theorem eql_fr (a b c d : Int) (W : World) : (binOp .eql 23 (.agg #[.int .i64 a, .int .i64 b]) (.agg #[.int .i64 c, .int .i64 d])).run Try.prog W = .ok (.bool (decide (a = c) && decide (b = d))) W := by
  by_cases h1 : a = c
  · subst h1
    by_cases h2 : b = d
    · subst h2; simp [go_sem]
    · simp [go_sem, h2]
  · simp [go_sem, h1]
attribute [local go_sem high] eql_fr

theorem betw_0 (i : IQ) : betw i 0 = i.lo := by
  have e : Rat.divInt ((0 % 9 : Nat) : Int) 8 = 0 := by kernel_rfl
  unfold betw
  rw [e]
  grind
theorem betw_8 (i : IQ) : betw i 8 = i.hi := by
  have e : Rat.divInt ((8 % 9 : Nat) : Int) 8 = 1 := by kernel_rfl
  unfold betw
  rw [e]
  grind
/-- The corners are the points at 0 and 8 eighths. -/
theorem corner_pt (l : LQ) (b : BQ) (g : Bool) : ∃ j : Nat, j < 8 ∧ ptQ b (j % 2 * 8) (j / 2 % 2 * 8) (j / 4 * 8) = l.corner b g := by
  unfold ptQ LQ.corner cq
  by_cases h1 : (decide (l.t < 0) == g) = true <;> by_cases h2 : (decide (l.v < 0) == g) = true <;> by_cases h3 : (decide (l.a < 0) == g) = true <;> simp only [h1, h2, h3, if_true, if_false, Bool.false_eq_true]
  · exact ⟨0, by decide, by simp [betw_0]⟩
  · exact ⟨4, by decide, by simp [betw_0, betw_8]⟩
  · exact ⟨2, by decide, by simp [betw_0, betw_8]⟩
  · exact ⟨6, by decide, by simp [betw_0, betw_8]⟩
  · exact ⟨1, by decide, by simp [betw_0, betw_8]⟩
  · exact ⟨5, by decide, by simp [betw_0, betw_8]⟩
  · exact ⟨3, by decide, by simp [betw_0, betw_8]⟩
  · exact ⟨7, by decide, by simp [betw_8]⟩
/-- What the law asks at a point of the box. -/
theorem point_facts {l : LQ} {b : BQ} {a0 a1 a2 a3 a4 a5 a6 a7 b0 b1 b2 b3 b4 b5 b6 b7 b8 b9 b10 b11 : Int} (hl : IsL l a0 a1 a2 a3 a4 a5 a6 a7) (hb : IsBx b b0 b1 b2 b3 b4 b5 b6 b7 b8 b9 b10 b11) (gl : l.Gr 60 1200) (gb : b.Gr 60 1200) (ok : b.Ok) {r0 r1 r2 r3 : Int} (hr : IsI ⟨l.val (l.corner b false), l.val (l.corner b true)⟩ r0 r1 r2 r3) (k0 k1 k2 : Nat) (g0 : k0 ≤ 255) (g1 : k1 ≤ 255) (g2 : k2 ≤ 255) :
    ∃ p0 p1 p2 p3 p4 p5 x y : Int, Does 40 #[.agg #[.int .i64 b0, .int .i64 b1, .int .i64 b2, .int .i64 b3, .int .i64 b4, .int .i64 b5, .int .i64 b6, .int .i64 b7, .int .i64 b8, .int .i64 b9, .int .i64 b10, .int .i64 b11], .agg #[.int .u8 (k0 : Int), .int .u8 (k1 : Int), .int .u8 (k2 : Int)]] (.agg #[.int .i64 p0, .int .i64 p1, .int .i64 p2, .int .i64 p3, .int .i64 p4, .int .i64 p5]) ∧ Does 22 #[.agg #[.int .i64 a0, .int .i64 a1, .int .i64 a2, .int .i64 a3, .int .i64 a4, .int .i64 a5, .int .i64 a6, .int .i64 a7], .agg #[.int .i64 p0, .int .i64 p1, .int .i64 p2, .int .i64 p3, .int .i64 p4, .int .i64 p5]] (.agg #[.int .i64 x, .int .i64 y, .int .i64 0]) ∧ Does 41 #[.agg #[.int .i64 x, .int .i64 y]] (.bool true) ∧ Does 34 #[.agg #[.int .i64 r0, .int .i64 r1, .int .i64 r2, .int .i64 r3], .agg #[.int .i64 x, .int .i64 y]] (.bool true) ∧ IsF (l.val (ptQ b k0 k1 k2)) x y := by
  have gp := ptQ_gr gb k0 k1 k2
  have bp := ptQ_in ok k0 k1 k2
  obtain ⟨p0, p1, p2, p3, p4, p5, hp⟩ := isP_of gp (by decide) (by decide) (by decide)
  have ha := at_small gl gp (by decide) (by decide) (by decide) (by decide)
  obtain ⟨x, y, hx⟩ := isF_of _ ha.2.2
  have hv := val_in bp l
  exact ⟨p0, p1, p2, p3, p4, p5, x, y, point_ hb (short_of gb.1) (short_of gb.2.1) (short_of gb.2.2) k0 k1 k2 g0 g1 g2 hp, lat hl hp (.inl ⟨_, ha.1, hx, rfl⟩),
    (frvalid (i64_f hx).1 (i64_f hx).2).eq (congrArg Value.bool (validB_of hx)), (contains hr hx).eq (congrArg Value.bool (hasB_true hv.1 hv.2)), hx⟩

/-- The digits of a corner's number, as the program reckons them. -/
theorem digits (z : Int) (h0 : 0 ≤ z) (h8 : z < 8) : ∃ (a b c d : Int) (k0 k1 k2 : Nat), z.tmod 2 = a ∧ IntKind.i64.wrap (a * 8) = (k0 : Int) ∧ IntKind.u8.wrap (k0 : Int) = (k0 : Int) ∧
    IntKind.i64.wrap (z.tdiv 2) = b ∧ b.tmod 2 = c ∧ IntKind.i64.wrap (c * 8) = (k1 : Int) ∧ IntKind.u8.wrap (k1 : Int) = (k1 : Int) ∧
    IntKind.i64.wrap (z.tdiv 4) = d ∧ IntKind.i64.wrap (d * 8) = (k2 : Int) ∧ IntKind.u8.wrap (k2 : Int) = (k2 : Int) ∧ IntKind.i64.wrap (z + 1) = z + 1 ∧ decide (z < 8) = true ∧ z % 2 = a ∧ b.tmod 2 = c ∧ z.tdiv 2 = b ∧ z.tdiv 4 = d ∧ k0 = z.toNat % 2 * 8 ∧ k1 = z.toNat / 2 % 2 * 8 ∧ k2 = z.toNat / 4 * 8 := by
  have : z = 0 ∨ z = 1 ∨ z = 2 ∨ z = 3 ∨ z = 4 ∨ z = 5 ∨ z = 6 ∨ z = 7 := by omega
  rcases this with rfl | rfl | rfl | rfl | rfl | rfl | rfl | rfl
  · exact ⟨0, 0, 0, 0, 0, 0, 0, by decide +kernel⟩
  · exact ⟨1, 0, 0, 0, 8, 0, 0, by decide +kernel⟩
  · exact ⟨0, 1, 1, 0, 0, 8, 0, by decide +kernel⟩
  · exact ⟨1, 1, 1, 0, 8, 8, 0, by decide +kernel⟩
  · exact ⟨0, 2, 0, 1, 0, 0, 8, by decide +kernel⟩
  · exact ⟨1, 2, 0, 1, 8, 0, 8, by decide +kernel⟩
  · exact ⟨0, 3, 1, 1, 0, 8, 8, by decide +kernel⟩
  · exact ⟨1, 3, 1, 1, 8, 8, 8, by decide +kernel⟩
/-- What holds at the head of the loop over the corners. -/
def CornAt (W0 : World) (lb bb rb : Nat) (a0 a1 a2 a3 a4 a5 a6 a7 b0 b1 b2 b3 b4 b5 b6 b7 b8 b9 b10 b11 r0 r1 r2 r3 : Int) (jl jh : Int) (u v i : Value) (wr : World) : Prop :=
  ∃ (p q : Bool) (z : Int), u = .bool p ∧ v = .bool q ∧ i = .int .i64 z ∧ 0 ≤ z ∧ z ≤ 8 ∧ (jl < z → p = true) ∧ (jh < z → q = true) ∧ BoxL wr lb #[.int .i64 a0, .int .i64 a1, .int .i64 a2, .int .i64 a3, .int .i64 a4, .int .i64 a5, .int .i64 a6, .int .i64 a7] ∧ BoxL wr bb #[.int .i64 b0, .int .i64 b1, .int .i64 b2, .int .i64 b3, .int .i64 b4, .int .i64 b5, .int .i64 b6, .int .i64 b7, .int .i64 b8, .int .i64 b9, .int .i64 b10, .int .i64 b11] ∧ BoxL wr rb #[.int .i64 r0, .int .i64 r1, .int .i64 r2, .int .i64 r3, .int .i64 0] ∧ Below W0.heap.size W0 wr ∧ W0.heap.size ≤ lb ∧ W0.heap.size ≤ bb ∧ W0.heap.size ≤ rb

set_option maxRecDepth 100000 in
set_option maxHeartbeats 2000000 in
theorem range_walk {w : World} {A : Option Addr} {n c : Nat} {l : List Int} (hA : Sl.Arr w A (l.map fun x => .int .u8 x)) (hn : l.length = n) (hl : Bytes l) (hs : n < 9223372036854775808) {B : Option Addr} {m d : Nat} {t : List Int} (hB : Sl.Arr w B (t.map fun x => .int .u8 x)) (hm : t.length = m) (ht : Bytes t) (hr : m < 9223372036854775808) (k0 k1 k2 : Nat) (g0 : k0 ≤ 255) (g1 : k1 ≤ 255) (g2 : k2 ≤ 255) : DoesIn w 4 #[.slice A n c, .slice B m d, .agg #[.int .u8 (k0 : Int), .int .u8 (k1 : Int), .int .u8 (k2 : Int)]] (.bool true) := by
  obtain ⟨a0, a1, a2, a3, a4, a5, a6, a7, il⟩ := isL_of (linQ_gr l) (by decide) (by decide) (by decide)
  obtain ⟨b0, b1, b2, b3, b4, b5, b6, b7, b8, b9, b10, b11, ib⟩ := isBx_of (boxQ_gr t) (by decide) (by decide) (by decide)
  have TL := Lib.hid (rlinear_ (c := c) hA hn hl hs il)
  have TB := Lib.hid (rbox_ (c := d) hB hm ht hr ib)
  have gl := linQ_gr l
  have gb := boxQ_gr t
  have ok := boxQ_ok t
  generalize linQ l = x at *
  generalize boxQ t = b at *
  clear hA hn hl hs hB hm ht hr
  have er := range_small gl gb (by decide) (by decide) (by decide) (by decide)
  obtain ⟨r0, r1, hlo⟩ := isF_of _ (at_small gl (gr_corner gb x false) (by decide) (by decide) (by decide) (by decide)).2.2
  obtain ⟨r2, r3, hhi⟩ := isF_of _ (at_small gl (gr_corner gb x true) (by decide) (by decide) (by decide) (by decide)).2.2
  have ir : IsI ⟨x.val (x.corner b false), x.val (x.corner b true)⟩ r0 r1 r2 r3 := ⟨hlo, hhi⟩
  have TR := Lib.hid (lranged il ib (.inl ⟨_, er, ir, rfl⟩))
  have hle : x.val (x.corner b false) ≤ x.val (x.corner b true) := (val_in (corner_has ok x true) x).1
  have VR := Lib.hid ((rvalidInterval (i64_f ir.lo).1 (i64_f ir.lo).2 (i64_f ir.hi).1 (i64_f ir.hi).2).eq (congrArg Value.bool (okB_le ir hle)))
  have HF := Lib.hid (point_facts il ib gl gb ok ir)
  obtain ⟨jl, hjl, el⟩ := corner_pt x b false
  obtain ⟨jh, hjh, eh⟩ := corner_pt x b true
  have HL := Lib.hid (fun (z : Int) (x1 y1 : Int) (hz : z = (jl : Int)) (hf : IsF (x.val (ptQ b (z.toNat % 2 * 8) (z.toNat / 2 % 2 * 8) (z.toNat / 4 * 8))) x1 y1) => show x1 = r0 ∧ y1 = r1 from isF_same (by subst hz; rw [Int.toNat_natCast, el] at hf; exact hf) hlo)
  have HH := Lib.hid (fun (z : Int) (x1 y1 : Int) (hz : z = (jh : Int)) (hf : IsF (x.val (ptQ b (z.toNat % 2 * 8) (z.toNat / 2 % 2 * 8) (z.toNat / 4 * 8))) x1 y1) => show x1 = r2 ∧ y1 = r3 from isF_same (by subst hz; rw [Int.toNat_natCast, eh] at hf; exact hf) hhi)
  obtain ⟨p0, p1, p2, p3, p4, p5, f0, f1, TP, TA, VF, CF, hf⟩ := HF.out k0 k1 k2 g0 g1 g2
  clear hf gl gb ok er hlo hhi ir hle il ib g0 g1 g2 el eh
  have TP := Lib.hid TP
  have TA := Lib.hid TA
  have VF := Lib.hid VF
  have CF := Lib.hid CF
  have EX := Lib.hid examples_
  intro W0 HB0
  have TL := Lib.hid (TL.out.mono HB0)
  have TB := Lib.hid (TB.out.mono HB0)
  clear HB0
  go_enter Try.func4, Try.ntmps4
  go_upto_region 1 with fail
  have hst := start1 W0 (#[.int .u8 (k0 : Int), .int .u8 (k1 : Int), .int .u8 (k2 : Int)]) 64
  generalize (W0.alloc (.cells #[.int .u8 (k0 : Int), .int .u8 (k1 : Int), .int .u8 (k2 : Int)] 64)) = Wx3 at *
  obtain ⟨mx1, Bx2⟩ := hst
  have ltx4 := mx1.lt
  go_wp2_with fail
  refine (EX.out.at _).mono ?_
  rintro o Wx5 ⟨rfl, hbx6⟩
  have mx7 := mx1.keep hbx6
  have Bx8 := Bx2.trans (hbx6.mono Bx2.size)
  have szx9 := hbx6.size
  clear mx1 Bx2 hbx6
  go_upto_region 4 with fail
  refine wp_region_plain_tail 4 ?_
  simp only [List.take_succ_cons, List.take_zero, List.drop_succ_cons, List.drop_zero]
  have Gx11 := Lib.hid (fun p => DoesIn.later TL.out Bx8 p)
  have Gx12 := Lib.hid (fun p => DoesIn.later TB.out Bx8 p)
  repeat (go_big_quiet_step (((first | (go_at_call 17; with_reducible exact later_of ((Gx11.out _))) | (go_at_call 19; with_reducible exact later_of ((Gx12.out _)))))))
  refine wpQuiet_nil ?_
  intro _ hw'
  obtain ⟨zx10, hw''⟩ := hw'
  subst hw''
  clear Gx11 Gx12
  have hbx13 := zx10.below
  have mx14 := mx7.keep hbx13
  have Bx15 := Bx8.trans (hbx13.mono Bx8.size)
  have szx16 := hbx13.size
  clear mx7 Bx8 hbx13
  go_upto_region 5 with fail
  have ltx21 := mx14.lt
  obtain ⟨mx19, mx20, hbx18⟩ := start2 zx10.val (#[.int .i64 a0, .int .i64 a1, .int .i64 a2, .int .i64 a3, .int .i64 a4, .int .i64 a5, .int .i64 a6, .int .i64 a7]) (#[.int .i64 b0, .int .i64 b1, .int .i64 b2, .int .i64 b3, .int .i64 b4, .int .i64 b5, .int .i64 b6, .int .i64 b7, .int .i64 b8, .int .i64 b9, .int .i64 b10, .int .i64 b11]) 25 29
  have mx22 := mx14.keep hbx18
  have Bx23 := Bx15.trans (hbx18.mono Bx15.size)
  have szx24 := hbx18.size
  clear mx14 Bx15 hbx18
  generalize ((zx10.val.alloc (.cells #[.int .i64 a0, .int .i64 a1, .int .i64 a2, .int .i64 a3, .int .i64 a4, .int .i64 a5, .int .i64 a6, .int .i64 a7] 25)).alloc (.cells #[.int .i64 b0, .int .i64 b1, .int .i64 b2, .int .i64 b3, .int .i64 b4, .int .i64 b5, .int .i64 b6, .int .i64 b7, .int .i64 b8, .int .i64 b9, .int .i64 b10, .int .i64 b11] 29)) = Wx17 at *
  have ltx25 := mx19.lt
  have ltx26 := mx20.lt
  refine wp_region_free2 (agf := ?frx27) 10 8 9 zrG zrR (by kernel_rfl) [] (by kernel_rfl) (fun d _ _ _ _ h => by cases d <;> exact h) (by decide) (by rfl) (by rfl) (by rfl) (by rfl) ?frx271 ?frx272
  case frx271 =>
    intro W hW
    obtain ⟨c_l0, c_l1, c_l2, c_l3, c_l4, c_l5, c_l6, c_l7⟩ := mx19.l8 hW
    obtain ⟨c_b0, c_b1, c_b2, c_b3, c_b4, c_b5, c_b6, c_b7, c_b8, c_b9, c_b10, c_b11⟩ := mx20.l12 hW
    obtain ⟨c_k0, c_k1, c_k2⟩ := mx22.l3 hW
    simp only [List.take_succ_cons, List.take_zero, ghostL, List.contains_cons, List.contains_nil, Nat.reduceAdd, Nat.reduceBEq, Bool.or_false, Bool.or_true, Bool.true_or, Bool.false_or, Bool.false_eq_true, if_false, if_true, ghostO]
    repeat (go_big_quiet_step (((first | (go_at_call 24; with_reducible exact later_of ((TR.out.at _))) | (go_at_call 40; with_reducible exact later_of ((TP.out.at _))) | (go_at_call 22; with_reducible exact later_of ((TA.out.at _)))))))
    refine wpQuiet_nil ?_
    rfl
  case frx272 =>
    intro bx30 bx31 Wx28 hbx29 mx32 mx33 gx34 gx35 nex36
    simp only [List.drop_succ_cons, List.drop_zero, Act.put, List.setIfInBounds_toArray, List.set_cons_succ, List.set_cons_zero]
    have mx37 := mx22.keep hbx29
    have mx38 := mx19.keep hbx29
    have mx39 := mx20.keep hbx29
    have Bx40 := Bx23.trans (hbx29.mono Bx23.size)
    have szx41 := hbx29.size
    clear mx22 mx19 mx20 Bx23 hbx29
    have ltx42 := mx32.lt
    have ltx43 := mx33.lt
    obtain ⟨c_r0, c_r1, c_r2, c_r3, c_r4⟩ := mx32.c5
    obtain ⟨f_r0, f_r1, f_r2, f_r3, f_r4⟩ := mx32.f5
    obtain ⟨c_f0, c_f1, c_f2⟩ := mx33.c3
    obtain ⟨f_f0, f_f1, f_f2⟩ := mx33.f3
    go_upto_region 6 with fail
    clear c_r0 c_r1 c_r2 c_r3 c_r4 f_r0 f_r1 f_r2 f_r3 f_r4
    clear c_f0 c_f1 c_f2 f_f0 f_f1 f_f2
    have mx45 := mx32.s5 (.int .i64 r0) (.int .i64 r1) (.int .i64 r2) (.int .i64 r3) (.int .i64 0)
    have mx46 := mx37.z5 (b := bx30) (by omega) (.int .i64 r0) (.int .i64 r1) (.int .i64 r2) (.int .i64 r3) (.int .i64 0)
    have mx47 := mx38.z5 (b := bx30) (by omega) (.int .i64 r0) (.int .i64 r1) (.int .i64 r2) (.int .i64 r3) (.int .i64 0)
    have mx48 := mx39.z5 (b := bx30) (by omega) (.int .i64 r0) (.int .i64 r1) (.int .i64 r2) (.int .i64 r3) (.int .i64 0)
    have mx49 := mx33.z5 (b := bx30) (by omega) (.int .i64 r0) (.int .i64 r1) (.int .i64 r2) (.int .i64 r3) (.int .i64 0)
    have Bx50 := below_s5 (b := bx30) Bx40 (by omega) (.int .i64 r0) (.int .i64 r1) (.int .i64 r2) (.int .i64 r3) (.int .i64 0)
    have ltx51 := mx45.lt
    generalize (((((Wx28.setCell ⟨bx30, 0, none⟩ (.int .i64 r0)).setCell ⟨bx30, 1, none⟩ (.int .i64 r1)).setCell ⟨bx30, 2, none⟩ (.int .i64 r2)).setCell ⟨bx30, 3, none⟩ (.int .i64 r3)).setCell ⟨bx30, 4, none⟩ (.int .i64 0)) = Wx44 at *
    clear mx32 mx37 mx38 mx39 mx33 Bx40
    have mx53 := mx49.s3 (.int .i64 f0) (.int .i64 f1) (.int .i64 0)
    have mx54 := mx46.z3 (b := bx31) (by omega) (.int .i64 f0) (.int .i64 f1) (.int .i64 0)
    have mx55 := mx47.z3 (b := bx31) (by omega) (.int .i64 f0) (.int .i64 f1) (.int .i64 0)
    have mx56 := mx48.z3 (b := bx31) (by omega) (.int .i64 f0) (.int .i64 f1) (.int .i64 0)
    have mx57 := mx45.z3 (b := bx31) (by omega) (.int .i64 f0) (.int .i64 f1) (.int .i64 0)
    have Bx58 := below_s3 (b := bx31) Bx50 (by omega) (.int .i64 f0) (.int .i64 f1) (.int .i64 0)
    have ltx59 := mx53.lt
    generalize (((Wx44.setCell ⟨bx31, 0, none⟩ (.int .i64 f0)).setCell ⟨bx31, 1, none⟩ (.int .i64 f1)).setCell ⟨bx31, 2, none⟩ (.int .i64 0)) = Wx52 at *
    clear mx49 mx46 mx47 mx48 mx45 Bx50
    obtain ⟨c_r0, c_r1, c_r2, c_r3, c_r4⟩ := mx57.l5 (Below.refl _ _)
    obtain ⟨c_f0, c_f1, c_f2⟩ := mx53.l3 (Below.refl _ _)
    refine wp_region_plain ?_
    repeat (go_big_quiet_step (((first | (go_at_call 15; with_reducible exact later_of ((VR.out.at _))) | (go_at_call 41; with_reducible exact later_of ((VF.out.at _))) | (go_at_call 34; with_reducible exact later_of ((CF.out.at _)))))))
    refine wpQuiet_nil ?_
    intro _ hw'
    obtain ⟨zx60, hw''⟩ := hw'
    subst hw''
    clear c_r0 c_r1 c_r2 c_r3 c_r4
    clear c_f0 c_f1 c_f2
    have hbx61 := zx60.below
    have mx62 := mx54.keep hbx61
    have mx63 := mx55.keep hbx61
    have mx64 := mx56.keep hbx61
    have mx65 := mx57.keep hbx61
    have mx66 := mx53.keep hbx61
    have Bx67 := Bx58.trans (hbx61.mono Bx58.size)
    have szx68 := hbx61.size
    clear mx54 mx55 mx56 mx57 mx53 Bx58 hbx61
    go_upto_region 10 with fail
    have HS : Hid (CornAt W0 (zx10.val.heap.size) ((zx10.val.heap.size + 1)) (bx30) a0 a1 a2 a3 a4 a5 a6 a7 b0 b1 b2 b3 b4 b5 b6 b7 b8 b9 b10 b11 r0 r1 r2 r3 (jl : Int) (jh : Int) (.bool false) (.bool false) (.int .i64 0) zx60.val) := Lib.hid ⟨false, false, 0, rfl, rfl, rfl, by omega, by omega, fun h => by omega, fun h => by omega, mx63, mx64, mx65, Bx67, by omega, by omega, by omega⟩
    clear mx63 mx64 mx65 mx66 mx62 Bx67
    go_loopw [12, 13, 14] (fun u v i wr => CornAt W0 (zx10.val.heap.size) ((zx10.val.heap.size + 1)) (bx30) a0 a1 a2 a3 a4 a5 a6 a7 b0 b1 b2 b3 b4 b5 b6 b7 b8 b9 b10 b11 r0 r1 r2 r3 (jl : Int) (jh : Int) u v i wr) (fun _ _ i _ => 8 - (intOf i).toNat)
    case atStart => exact HS.out
    case round =>
      obtain ⟨p, q, z, rfl, rfl, rfl, z0, z8, hp, hq, m0, m1, m2, B0, e0, e1, e2⟩ := hrel
      clear HS
      have hp := Lib.hid hp
      have hq := Lib.hid hq
      by_cases hz : z < 8
      · obtain ⟨a, b2, c2, d2, n0, n1, n2, t1, t2, t3, t4, t5, t6, t7, t8, t9, t10, t11, t12, t13, t14, t15, t16, rfl, rfl, rfl⟩ := digits z z0 hz
        obtain ⟨p0, p1, p2, p3, p4, p5, x1, y1, TP, TA, VF, CF, hf⟩ := HF.out (z.toNat % 2 * 8) (z.toNat / 2 % 2 * 8) (z.toNat / 4 * 8) (by omega) (by omega) (by omega)
        have TP := Lib.hid TP
        have TA := Lib.hid TA
        have VF := Lib.hid VF
        have CF := Lib.hid CF
        have GL : Hid (z = (jl : Int) → x1 = r0 ∧ y1 = r1) := Lib.hid (fun h => HL.out z x1 y1 h hf)
        have GH : Hid (z = (jh : Int) → x1 = r2 ∧ y1 = r3) := Lib.hid (fun h => HH.out z x1 y1 h hf)
        have HZ := Lib.hid (And.intro z0 (And.intro z8 hz))
        clear hf z0 z8 hz t13 t14 t15 t16
        generalize ((z.toNat % 2 * 8 : Nat) : Int) = w0 at *
        generalize ((z.toNat / 2 % 2 * 8 : Nat) : Int) = w1 at *
        generalize ((z.toNat / 4 * 8 : Nat) : Int) = w2 at *
        have ltx69 := m0.lt
        have ltx70 := m1.lt
        have ltx71 := m2.lt
        go_upto_region 12 with fail
        refine wp_region_free1 (agf := ?frx72) 19 18 zrR (by kernel_rfl) [] (by kernel_rfl) (fun d _ _ _ _ h => by cases d <;> exact h) (by rfl) (by rfl) ?frx721 ?frx722
        case frx721 =>
          intro W hW
          obtain ⟨c_l0, c_l1, c_l2, c_l3, c_l4, c_l5, c_l6, c_l7⟩ := m0.l8 hW
          obtain ⟨c_b0, c_b1, c_b2, c_b3, c_b4, c_b5, c_b6, c_b7, c_b8, c_b9, c_b10, c_b11⟩ := m1.l12 hW
          simp only [List.take_succ_cons, List.take_zero, ghostL, List.contains_cons, List.contains_nil, Nat.reduceAdd, Nat.reduceBEq, Bool.or_false, Bool.or_true, Bool.true_or, Bool.false_or, Bool.false_eq_true, if_false, if_true, ghostO]
          repeat (go_big_quiet_step (((first | (go_at_call 40; with_reducible exact later_of ((TP.out.at _))) | (go_at_call 22; with_reducible exact later_of ((TA.out.at _)))))))
          refine wpQuiet_nil ?_
          rfl
        case frx722 =>
          intro bx75 Wx73 hbx74 mx76 gx77 
          simp only [List.drop_succ_cons, List.drop_zero, Act.put, List.setIfInBounds_toArray, List.set_cons_succ, List.set_cons_zero]
          have mx78 := m0.keep hbx74
          have mx79 := m1.keep hbx74
          have mx80 := m2.keep hbx74
          have Bx81 := B0.trans (hbx74.mono B0.size)
          have szx82 := hbx74.size
          clear m0 m1 m2 B0 hbx74
          have ltx83 := mx76.lt
          obtain ⟨c_g0, c_g1, c_g2⟩ := mx76.c3
          obtain ⟨f_g0, f_g1, f_g2⟩ := mx76.f3
          go_upto_region 13 with fail
          clear c_g0 c_g1 c_g2 f_g0 f_g1 f_g2
          have mx85 := mx76.s3 (.int .i64 x1) (.int .i64 y1) (.int .i64 0)
          have mx86 := mx78.z3 (b := bx75) (by omega) (.int .i64 x1) (.int .i64 y1) (.int .i64 0)
          have mx87 := mx79.z3 (b := bx75) (by omega) (.int .i64 x1) (.int .i64 y1) (.int .i64 0)
          have mx88 := mx80.z3 (b := bx75) (by omega) (.int .i64 x1) (.int .i64 y1) (.int .i64 0)
          have Bx89 := below_s3 (b := bx75) Bx81 (by omega) (.int .i64 x1) (.int .i64 y1) (.int .i64 0)
          have ltx90 := mx85.lt
          generalize (((Wx73.setCell ⟨bx75, 0, none⟩ (.int .i64 x1)).setCell ⟨bx75, 1, none⟩ (.int .i64 y1)).setCell ⟨bx75, 2, none⟩ (.int .i64 0)) = Wx84 at *
          clear mx76 mx78 mx79 mx80 Bx81
          obtain ⟨c_g0, c_g1, c_g2⟩ := mx85.l3 (Below.refl _ _)
          obtain ⟨c_r0, c_r1, c_r2, c_r3, c_r4⟩ := mx88.l5 (Below.refl _ _)
          refine wp_region_plain ?_
          repeat (go_big_quiet_step (((first | (go_at_call 41; with_reducible exact later_of ((VF.out.at _))) | (go_at_call 34; with_reducible exact later_of ((CF.out.at _)))))))
          refine wpQuiet_nil ?_
          intro _ hw'
          obtain ⟨zx91, hw''⟩ := hw'
          subst hw''
          clear c_g0 c_g1 c_g2
          clear c_r0 c_r1 c_r2 c_r3 c_r4
          have hbx92 := zx91.below
          have mx93 := mx86.keep hbx92
          have mx94 := mx87.keep hbx92
          have mx95 := mx88.keep hbx92
          have mx96 := mx85.keep hbx92
          have Bx97 := Bx89.trans (hbx92.mono Bx89.size)
          have szx98 := hbx92.size
          clear mx86 mx87 mx88 mx85 Bx89 hbx92
          go_upto_region 15 with fail
          obtain ⟨c_g0, c_g1, c_g2⟩ := mx96.c3
          obtain ⟨c_r0, c_r1, c_r2, c_r3, c_r4⟩ := mx95.c5
          cases p <;> cases q
          all_goals
            go_wp2_with fail
            go_roundw
            case rel => exact ⟨_, _, z + 1, rfl, rfl, rfl, by have := HZ.out.1; omega, by have := HZ.out.2.2; omega, (fun h => by first | rfl | (have h1 : ¬ ((jl : Int) < z) := (fun h => by cases (hp.out h)); obtain ⟨e1, e2⟩ := GL.out (by omega); simp [e1, e2])), (fun h => by first | rfl | (have h1 : ¬ ((jh : Int) < z) := (fun h => by cases (hq.out h)); obtain ⟨e1, e2⟩ := GH.out (by omega); simp [e1, e2])), mx93, mx94, mx95, Bx97, e0, e1, e2⟩
            case measure => have := HZ.out; simp [intOf]; omega
      · have hz8 : z = 8 := by omega
        subst hz8
        obtain rfl : p = true := hp.out (by omega)
        obtain rfl : q = true := hq.out (by omega)
        go_wp2_with fail
        go_ret
        exact ⟨rfl, B0⟩

theorem range_row {w : World} {A : Option Addr} {n c : Nat} {l : List Int} (hA : Sl.Arr w A (l.map fun x => .int .u8 x)) (hn : l.length = n) (hl : Bytes l) (hs : n < 9223372036854775808) {B : Option Addr} {m d : Nat} {t : List Int} (hB : Sl.Arr w B (t.map fun x => .int .u8 x)) (hm : t.length = m) (ht : Bytes t) (hr : m < 9223372036854775808) {x y z : Int} (hx : 0 ≤ x ∧ x ≤ 255) (hy : 0 ≤ y ∧ y ≤ 255) (hz : 0 ≤ z ∧ z ≤ 255) : DoesIn w 4 #[.slice A n c, .slice B m d, .agg #[.int .u8 x, .int .u8 y, .int .u8 z]] (.bool true) := by
  obtain ⟨k0, rfl⟩ : ∃ k : Nat, x = k := ⟨x.toNat, by omega⟩
  obtain ⟨k1, rfl⟩ : ∃ k : Nat, y = k := ⟨y.toNat, by omega⟩
  obtain ⟨k2, rfl⟩ : ∃ k : Nat, z = k := ⟨z.toNat, by omega⟩
  exact range_walk hA hn hl hs hB hm ht hr k0 k1 k2 (by omega) (by omega) (by omega)

end Fr
end Go.Proofs.Ytojkaaglmdfcnaa
