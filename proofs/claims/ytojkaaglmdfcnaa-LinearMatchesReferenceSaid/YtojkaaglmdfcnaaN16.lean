/- LinearRange: the walk. What Sum returns, of two or three functions. LinearSums: the walk. -/
import Derived.Test.YtojkaaglmdfcnaaN13
namespace Go.Proofs.Ytojkaaglmdfcnaa
open Go.RowKit Go.Shelf
namespace Fr
set_option linter.unusedVariables false
set_option linter.unusedSimpArgs false


theorem eql_fr (a b c d : Int) (W : World) : (binOp .eql 23 (.agg #[.int .i64 a, .int .i64 b]) (.agg #[.int .i64 c, .int .i64 d])).run Try.prog W = .ok (.bool (decide (a = c) && decide (b = d))) W := by
  by_cases h1 : a = c
  · subst h1
    by_cases h2 : b = d
    · subst h2; simp [go_sem]
    · simp [go_sem, h2]
  · simp [go_sem, h1]
attribute [local go_sem high] eql_fr

theorem betw_0 (i : IQ) : betw i 0 = i.lo := by
  have e : Rat.divInt ((0 % 9 : Nat) : Int) 8 = 0 := by kernel_rfl
  unfold betw
  rw [e]
  grind
theorem betw_8 (i : IQ) : betw i 8 = i.hi := by
  have e : Rat.divInt ((8 % 9 : Nat) : Int) 8 = 1 := by kernel_rfl
  unfold betw
  rw [e]
  grind
/-- The corners are the points at 0 and 8 eighths. -/
theorem corner_pt (l : LQ) (b : BQ) (g : Bool) : ∃ j : Nat, j < 8 ∧ ptQ b (j % 2 * 8) (j / 2 % 2 * 8) (j / 4 * 8) = l.corner b g := by
  unfold ptQ LQ.corner cq
  by_cases h1 : (decide (l.t < 0) == g) = true <;> by_cases h2 : (decide (l.v < 0) == g) = true <;> by_cases h3 : (decide (l.a < 0) == g) = true <;> simp only [h1, h2, h3, if_true, if_false, Bool.false_eq_true]
  · exact ⟨0, by decide, by simp [betw_0]⟩
  · exact ⟨4, by decide, by simp [betw_0, betw_8]⟩
  · exact ⟨2, by decide, by simp [betw_0, betw_8]⟩
  · exact ⟨6, by decide, by simp [betw_0, betw_8]⟩
  · exact ⟨1, by decide, by simp [betw_0, betw_8]⟩
  · exact ⟨5, by decide, by simp [betw_0, betw_8]⟩
  · exact ⟨3, by decide, by simp [betw_0, betw_8]⟩
  · exact ⟨7, by decide, by simp [betw_8]⟩
/-- What the law asks at a point of the box. -/
theorem point_facts {l : LQ} {b : BQ} {a0 a1 a2 a3 a4 a5 a6 a7 b0 b1 b2 b3 b4 b5 b6 b7 b8 b9 b10 b11 : Int} (hl : IsL l a0 a1 a2 a3 a4 a5 a6 a7) (hb : IsBx b b0 b1 b2 b3 b4 b5 b6 b7 b8 b9 b10 b11) (gl : l.Gr 60 1200) (gb : b.Gr 60 1200) (ok : b.Ok) {r0 r1 r2 r3 : Int} (hr : IsI ⟨l.val (l.corner b false), l.val (l.corner b true)⟩ r0 r1 r2 r3) (k0 k1 k2 : Nat) (g0 : k0 ≤ 255) (g1 : k1 ≤ 255) (g2 : k2 ≤ 255) :
    ∃ p0 p1 p2 p3 p4 p5 x y : Int, Does 40 #[.agg #[.int .i64 b0, .int .i64 b1, .int .i64 b2, .int .i64 b3, .int .i64 b4, .int .i64 b5, .int .i64 b6, .int .i64 b7, .int .i64 b8, .int .i64 b9, .int .i64 b10, .int .i64 b11], .agg #[.int .u8 (k0 : Int), .int .u8 (k1 : Int), .int .u8 (k2 : Int)]] (.agg #[.int .i64 p0, .int .i64 p1, .int .i64 p2, .int .i64 p3, .int .i64 p4, .int .i64 p5]) ∧ Does 22 #[.agg #[.int .i64 a0, .int .i64 a1, .int .i64 a2, .int .i64 a3, .int .i64 a4, .int .i64 a5, .int .i64 a6, .int .i64 a7], .agg #[.int .i64 p0, .int .i64 p1, .int .i64 p2, .int .i64 p3, .int .i64 p4, .int .i64 p5]] (.agg #[.int .i64 x, .int .i64 y, .int .i64 0]) ∧ Does 41 #[.agg #[.int .i64 x, .int .i64 y]] (.bool true) ∧ Does 34 #[.agg #[.int .i64 r0, .int .i64 r1, .int .i64 r2, .int .i64 r3], .agg #[.int .i64 x, .int .i64 y]] (.bool true) ∧ IsF (l.val (ptQ b k0 k1 k2)) x y := by
  have gp := ptQ_gr gb k0 k1 k2
  have bp := ptQ_in ok k0 k1 k2
  obtain ⟨p0, p1, p2, p3, p4, p5, hp⟩ := isP_of gp (by decide) (by decide) (by decide)
  have ha := at_small gl gp (by decide) (by decide) (by decide) (by decide)
  obtain ⟨x, y, hx⟩ := isF_of _ ha.2.2
  have hv := val_in bp l
  exact ⟨p0, p1, p2, p3, p4, p5, x, y, point_ hb (short_of gb.1) (short_of gb.2.1) (short_of gb.2.2) k0 k1 k2 g0 g1 g2 hp, lat hl hp (.inl ⟨_, ha.1, hx, rfl⟩),
    (frvalid (i64_f hx).1 (i64_f hx).2).eq (congrArg Value.bool (validB_of hx)), (contains hr hx).eq (congrArg Value.bool (hasB_true hv.1 hv.2)), hx⟩

/-- The digits of a corner's number, as the program reckons them. -/
theorem digits (z : Int) (h0 : 0 ≤ z) (h8 : z < 8) : ∃ (a b c d : Int) (k0 k1 k2 : Nat), z.tmod 2 = a ∧ IntKind.i64.wrap (a * 8) = (k0 : Int) ∧ IntKind.u8.wrap (k0 : Int) = (k0 : Int) ∧
    IntKind.i64.wrap (z.tdiv 2) = b ∧ b.tmod 2 = c ∧ IntKind.i64.wrap (c * 8) = (k1 : Int) ∧ IntKind.u8.wrap (k1 : Int) = (k1 : Int) ∧
    IntKind.i64.wrap (z.tdiv 4) = d ∧ IntKind.i64.wrap (d * 8) = (k2 : Int) ∧ IntKind.u8.wrap (k2 : Int) = (k2 : Int) ∧ IntKind.i64.wrap (z + 1) = z + 1 ∧ decide (z < 8) = true ∧ z % 2 = a ∧ b.tmod 2 = c ∧ z.tdiv 2 = b ∧ z.tdiv 4 = d ∧ k0 = z.toNat % 2 * 8 ∧ k1 = z.toNat / 2 % 2 * 8 ∧ k2 = z.toNat / 4 * 8 := by
  have : z = 0 ∨ z = 1 ∨ z = 2 ∨ z = 3 ∨ z = 4 ∨ z = 5 ∨ z = 6 ∨ z = 7 := by omega
  rcases this with rfl | rfl | rfl | rfl | rfl | rfl | rfl | rfl
  · exact ⟨0, 0, 0, 0, 0, 0, 0, by decide +kernel⟩
  · exact ⟨1, 0, 0, 0, 8, 0, 0, by decide +kernel⟩
  · exact ⟨0, 1, 1, 0, 0, 8, 0, by decide +kernel⟩
  · exact ⟨1, 1, 1, 0, 8, 8, 0, by decide +kernel⟩
  · exact ⟨0, 2, 0, 1, 0, 0, 8, by decide +kernel⟩
  · exact ⟨1, 2, 0, 1, 8, 0, 8, by decide +kernel⟩
  · exact ⟨0, 3, 1, 1, 0, 8, 8, by decide +kernel⟩
  · exact ⟨1, 3, 1, 1, 8, 8, 8, by decide +kernel⟩
/-- What holds at the head of the loop over the corners. -/
def CornAt (W0 : World) (lb bb rb : Nat) (a0 a1 a2 a3 a4 a5 a6 a7 b0 b1 b2 b3 b4 b5 b6 b7 b8 b9 b10 b11 r0 r1 r2 r3 : Int) (jl jh : Int) (u v i : Value) (wr : World) : Prop :=
  ∃ (p q : Bool) (z : Int), u = .bool p ∧ v = .bool q ∧ i = .int .i64 z ∧ 0 ≤ z ∧ z ≤ 8 ∧ (jl < z → p = true) ∧ (jh < z → q = true) ∧ BoxL wr lb #[.int .i64 a0, .int .i64 a1, .int .i64 a2, .int .i64 a3, .int .i64 a4, .int .i64 a5, .int .i64 a6, .int .i64 a7] ∧ BoxL wr bb #[.int .i64 b0, .int .i64 b1, .int .i64 b2, .int .i64 b3, .int .i64 b4, .int .i64 b5, .int .i64 b6, .int .i64 b7, .int .i64 b8, .int .i64 b9, .int .i64 b10, .int .i64 b11] ∧ BoxL wr rb #[.int .i64 r0, .int .i64 r1, .int .i64 r2, .int .i64 r3, .int .i64 0] ∧ Below W0.heap.size W0 wr ∧ W0.heap.size ≤ lb ∧ W0.heap.size ≤ bb ∧ W0.heap.size ≤ rb

set_option maxRecDepth 100000 in
set_option maxHeartbeats 2000000 in
theorem range_walk {w : World} {A : Option Addr} {n c : Nat} {l : List Int} (hA : Sl.Arr w A (l.map fun x => .int .u8 x)) (hn : l.length = n) (hl : Bytes l) (hs : n < 9223372036854775808) {B : Option Addr} {m d : Nat} {t : List Int} (hB : Sl.Arr w B (t.map fun x => .int .u8 x)) (hm : t.length = m) (ht : Bytes t) (hr : m < 9223372036854775808) (k0 k1 k2 : Nat) (g0 : k0 ≤ 255) (g1 : k1 ≤ 255) (g2 : k2 ≤ 255) : DoesIn w 4 #[.slice A n c, .slice B m d, .agg #[.int .u8 (k0 : Int), .int .u8 (k1 : Int), .int .u8 (k2 : Int)]] (.bool true) := by
  obtain ⟨a0, a1, a2, a3, a4, a5, a6, a7, il⟩ := isL_of (linQ_gr l) (by decide) (by decide) (by decide)
  obtain ⟨b0, b1, b2, b3, b4, b5, b6, b7, b8, b9, b10, b11, ib⟩ := isBx_of (boxQ_gr t) (by decide) (by decide) (by decide)
  have TL := Lib.hid (rlinear_ (c := c) hA hn hl hs il)
  have TB := Lib.hid (rbox_ (c := d) hB hm ht hr ib)
  have gl := linQ_gr l
  have gb := boxQ_gr t
  have ok := boxQ_ok t
  generalize linQ l = x at *
  generalize boxQ t = b at *
  clear hA hn hl hs hB hm ht hr
  have er := range_small gl gb (by decide) (by decide) (by decide) (by decide)
  obtain ⟨r0, r1, hlo⟩ := isF_of _ (at_small gl (gr_corner gb x false) (by decide) (by decide) (by decide) (by decide)).2.2
  obtain ⟨r2, r3, hhi⟩ := isF_of _ (at_small gl (gr_corner gb x true) (by decide) (by decide) (by decide) (by decide)).2.2
  have ir : IsI ⟨x.val (x.corner b false), x.val (x.corner b true)⟩ r0 r1 r2 r3 := ⟨hlo, hhi⟩
  have TR := Lib.hid (lranged il ib (.inl ⟨_, er, ir, rfl⟩))
  have hle : x.val (x.corner b false) ≤ x.val (x.corner b true) := (val_in (corner_has ok x true) x).1
  have VR := Lib.hid ((rvalidInterval (i64_f ir.lo).1 (i64_f ir.lo).2 (i64_f ir.hi).1 (i64_f ir.hi).2).eq (congrArg Value.bool (okB_le ir hle)))
  have HF := Lib.hid (point_facts il ib gl gb ok ir)
  obtain ⟨jl, hjl, el⟩ := corner_pt x b false
  obtain ⟨jh, hjh, eh⟩ := corner_pt x b true
  have HL := Lib.hid (fun (z : Int) (x1 y1 : Int) (hz : z = (jl : Int)) (hf : IsF (x.val (ptQ b (z.toNat % 2 * 8) (z.toNat / 2 % 2 * 8) (z.toNat / 4 * 8))) x1 y1) => show x1 = r0 ∧ y1 = r1 from isF_same (by subst hz; rw [Int.toNat_natCast, el] at hf; exact hf) hlo)
  have HH := Lib.hid (fun (z : Int) (x1 y1 : Int) (hz : z = (jh : Int)) (hf : IsF (x.val (ptQ b (z.toNat % 2 * 8) (z.toNat / 2 % 2 * 8) (z.toNat / 4 * 8))) x1 y1) => show x1 = r2 ∧ y1 = r3 from isF_same (by subst hz; rw [Int.toNat_natCast, eh] at hf; exact hf) hhi)
  obtain ⟨p0, p1, p2, p3, p4, p5, f0, f1, TP, TA, VF, CF, hf⟩ := HF.out k0 k1 k2 g0 g1 g2
  clear hf gl gb ok er hlo hhi ir hle il ib g0 g1 g2 el eh
  have TP := Lib.hid TP
  have TA := Lib.hid TA
  have VF := Lib.hid VF
  have CF := Lib.hid CF
  have EX := Lib.hid examples_
  intro W0 HB0
  have TL := Lib.hid (TL.out.mono HB0)
  have TB := Lib.hid (TB.out.mono HB0)
  clear HB0
  go_enter Try.func4, Try.ntmps4
  go_upto_region 1 with fail
  have hst := start1 W0 (#[.int .u8 (k0 : Int), .int .u8 (k1 : Int), .int .u8 (k2 : Int)]) 64
  generalize (W0.alloc (.cells #[.int .u8 (k0 : Int), .int .u8 (k1 : Int), .int .u8 (k2 : Int)] 64)) = Wx3 at *
  obtain ⟨mx1, Bx2⟩ := hst
  have ltx4 := mx1.lt
  go_wp2_with fail
  refine (EX.out.at _).mono ?_
  rintro o Wx5 ⟨rfl, hbx6⟩
  have mx7 := mx1.keep hbx6
  have Bx8 := Bx2.trans (hbx6.mono Bx2.size)
  have szx9 := hbx6.size
  clear mx1 Bx2 hbx6
  go_upto_region 4 with fail
  refine wp_region_plain_tail 4 ?_
  simp only [List.take_succ_cons, List.take_zero, List.drop_succ_cons, List.drop_zero]
  have Gx11 := Lib.hid (fun p => DoesIn.later TL.out Bx8 p)
  have Gx12 := Lib.hid (fun p => DoesIn.later TB.out Bx8 p)
  repeat (go_big_quiet_step (((first | (go_at_call 17; with_reducible exact later_of ((Gx11.out _))) | (go_at_call 19; with_reducible exact later_of ((Gx12.out _)))))))
  refine wpQuiet_nil ?_
  intro _ hw'
  obtain ⟨zx10, hw''⟩ := hw'
  subst hw''
  clear Gx11 Gx12
  have hbx13 := zx10.below
  have mx14 := mx7.keep hbx13
  have Bx15 := Bx8.trans (hbx13.mono Bx8.size)
  have szx16 := hbx13.size
  clear mx7 Bx8 hbx13
  go_upto_region 5 with fail
  have ltx21 := mx14.lt
  obtain ⟨mx19, mx20, hbx18⟩ := start2 zx10.val (#[.int .i64 a0, .int .i64 a1, .int .i64 a2, .int .i64 a3, .int .i64 a4, .int .i64 a5, .int .i64 a6, .int .i64 a7]) (#[.int .i64 b0, .int .i64 b1, .int .i64 b2, .int .i64 b3, .int .i64 b4, .int .i64 b5, .int .i64 b6, .int .i64 b7, .int .i64 b8, .int .i64 b9, .int .i64 b10, .int .i64 b11]) 25 29
  have mx22 := mx14.keep hbx18
  have Bx23 := Bx15.trans (hbx18.mono Bx15.size)
  have szx24 := hbx18.size
  clear mx14 Bx15 hbx18
  generalize ((zx10.val.alloc (.cells #[.int .i64 a0, .int .i64 a1, .int .i64 a2, .int .i64 a3, .int .i64 a4, .int .i64 a5, .int .i64 a6, .int .i64 a7] 25)).alloc (.cells #[.int .i64 b0, .int .i64 b1, .int .i64 b2, .int .i64 b3, .int .i64 b4, .int .i64 b5, .int .i64 b6, .int .i64 b7, .int .i64 b8, .int .i64 b9, .int .i64 b10, .int .i64 b11] 29)) = Wx17 at *
  have ltx25 := mx19.lt
  have ltx26 := mx20.lt
  refine wp_region_free2 (agf := ?frx27) 10 8 9 zrG zrR (by kernel_rfl) [] (by kernel_rfl) (fun d _ _ _ _ h => by cases d <;> exact h) (by decide) (by rfl) (by rfl) (by rfl) (by rfl) ?frx271 ?frx272
  case frx271 =>
    intro W hW
    obtain ⟨c_l0, c_l1, c_l2, c_l3, c_l4, c_l5, c_l6, c_l7⟩ := mx19.l8 hW
    obtain ⟨c_b0, c_b1, c_b2, c_b3, c_b4, c_b5, c_b6, c_b7, c_b8, c_b9, c_b10, c_b11⟩ := mx20.l12 hW
    obtain ⟨c_k0, c_k1, c_k2⟩ := mx22.l3 hW
    simp only [List.take_succ_cons, List.take_zero, ghostL, List.contains_cons, List.contains_nil, Nat.reduceAdd, Nat.reduceBEq, Bool.or_false, Bool.or_true, Bool.true_or, Bool.false_or, Bool.false_eq_true, if_false, if_true, ghostO]
    repeat (go_big_quiet_step (((first | (go_at_call 24; with_reducible exact later_of ((TR.out.at _))) | (go_at_call 40; with_reducible exact later_of ((TP.out.at _))) | (go_at_call 22; with_reducible exact later_of ((TA.out.at _)))))))
    refine wpQuiet_nil ?_
    rfl
  case frx272 =>
    intro bx30 bx31 Wx28 hbx29 mx32 mx33 gx34 gx35 nex36
    simp only [List.drop_succ_cons, List.drop_zero, Act.put, List.setIfInBounds_toArray, List.set_cons_succ, List.set_cons_zero]
    have mx37 := mx22.keep hbx29
    have mx38 := mx19.keep hbx29
    have mx39 := mx20.keep hbx29
    have Bx40 := Bx23.trans (hbx29.mono Bx23.size)
    have szx41 := hbx29.size
    clear mx22 mx19 mx20 Bx23 hbx29
    have ltx42 := mx32.lt
    have ltx43 := mx33.lt
    obtain ⟨c_r0, c_r1, c_r2, c_r3, c_r4⟩ := mx32.c5
    obtain ⟨f_r0, f_r1, f_r2, f_r3, f_r4⟩ := mx32.f5
    obtain ⟨c_f0, c_f1, c_f2⟩ := mx33.c3
    obtain ⟨f_f0, f_f1, f_f2⟩ := mx33.f3
    go_upto_region 6 with fail
    clear c_r0 c_r1 c_r2 c_r3 c_r4 f_r0 f_r1 f_r2 f_r3 f_r4
    clear c_f0 c_f1 c_f2 f_f0 f_f1 f_f2
    have mx45 := mx32.s5 (.int .i64 r0) (.int .i64 r1) (.int .i64 r2) (.int .i64 r3) (.int .i64 0)
    have mx46 := mx37.z5 (b := bx30) (by omega) (.int .i64 r0) (.int .i64 r1) (.int .i64 r2) (.int .i64 r3) (.int .i64 0)
    have mx47 := mx38.z5 (b := bx30) (by omega) (.int .i64 r0) (.int .i64 r1) (.int .i64 r2) (.int .i64 r3) (.int .i64 0)
    have mx48 := mx39.z5 (b := bx30) (by omega) (.int .i64 r0) (.int .i64 r1) (.int .i64 r2) (.int .i64 r3) (.int .i64 0)
    have mx49 := mx33.z5 (b := bx30) (by omega) (.int .i64 r0) (.int .i64 r1) (.int .i64 r2) (.int .i64 r3) (.int .i64 0)
    have Bx50 := below_s5 (b := bx30) Bx40 (by omega) (.int .i64 r0) (.int .i64 r1) (.int .i64 r2) (.int .i64 r3) (.int .i64 0)
    have ltx51 := mx45.lt
    generalize (((((Wx28.setCell ⟨bx30, 0, none⟩ (.int .i64 r0)).setCell ⟨bx30, 1, none⟩ (.int .i64 r1)).setCell ⟨bx30, 2, none⟩ (.int .i64 r2)).setCell ⟨bx30, 3, none⟩ (.int .i64 r3)).setCell ⟨bx30, 4, none⟩ (.int .i64 0)) = Wx44 at *
    clear mx32 mx37 mx38 mx39 mx33 Bx40
    have mx53 := mx49.s3 (.int .i64 f0) (.int .i64 f1) (.int .i64 0)
    have mx54 := mx46.z3 (b := bx31) (by omega) (.int .i64 f0) (.int .i64 f1) (.int .i64 0)
    have mx55 := mx47.z3 (b := bx31) (by omega) (.int .i64 f0) (.int .i64 f1) (.int .i64 0)
    have mx56 := mx48.z3 (b := bx31) (by omega) (.int .i64 f0) (.int .i64 f1) (.int .i64 0)
    have mx57 := mx45.z3 (b := bx31) (by omega) (.int .i64 f0) (.int .i64 f1) (.int .i64 0)
    have Bx58 := below_s3 (b := bx31) Bx50 (by omega) (.int .i64 f0) (.int .i64 f1) (.int .i64 0)
    have ltx59 := mx53.lt
    generalize (((Wx44.setCell ⟨bx31, 0, none⟩ (.int .i64 f0)).setCell ⟨bx31, 1, none⟩ (.int .i64 f1)).setCell ⟨bx31, 2, none⟩ (.int .i64 0)) = Wx52 at *
    clear mx49 mx46 mx47 mx48 mx45 Bx50
    obtain ⟨c_r0, c_r1, c_r2, c_r3, c_r4⟩ := mx57.l5 (Below.refl _ _)
    obtain ⟨c_f0, c_f1, c_f2⟩ := mx53.l3 (Below.refl _ _)
    refine wp_region_plain ?_
    repeat (go_big_quiet_step (((first | (go_at_call 15; with_reducible exact later_of ((VR.out.at _))) | (go_at_call 41; with_reducible exact later_of ((VF.out.at _))) | (go_at_call 34; with_reducible exact later_of ((CF.out.at _)))))))
    refine wpQuiet_nil ?_
    intro _ hw'
    obtain ⟨zx60, hw''⟩ := hw'
    subst hw''
    clear c_r0 c_r1 c_r2 c_r3 c_r4
    clear c_f0 c_f1 c_f2
    have hbx61 := zx60.below
    have mx62 := mx54.keep hbx61
    have mx63 := mx55.keep hbx61
    have mx64 := mx56.keep hbx61
    have mx65 := mx57.keep hbx61
    have mx66 := mx53.keep hbx61
    have Bx67 := Bx58.trans (hbx61.mono Bx58.size)
    have szx68 := hbx61.size
    clear mx54 mx55 mx56 mx57 mx53 Bx58 hbx61
    go_upto_region 10 with fail
    have HS : Hid (CornAt W0 (zx10.val.heap.size) ((zx10.val.heap.size + 1)) (bx30) a0 a1 a2 a3 a4 a5 a6 a7 b0 b1 b2 b3 b4 b5 b6 b7 b8 b9 b10 b11 r0 r1 r2 r3 (jl : Int) (jh : Int) (.bool false) (.bool false) (.int .i64 0) zx60.val) := Lib.hid ⟨false, false, 0, rfl, rfl, rfl, by omega, by omega, fun h => by omega, fun h => by omega, mx63, mx64, mx65, Bx67, by omega, by omega, by omega⟩
    clear mx63 mx64 mx65 mx66 mx62 Bx67
    go_loopw [12, 13, 14] (fun u v i wr => CornAt W0 (zx10.val.heap.size) ((zx10.val.heap.size + 1)) (bx30) a0 a1 a2 a3 a4 a5 a6 a7 b0 b1 b2 b3 b4 b5 b6 b7 b8 b9 b10 b11 r0 r1 r2 r3 (jl : Int) (jh : Int) u v i wr) (fun _ _ i _ => 8 - (intOf i).toNat)
    case atStart => exact HS.out
    case round =>
      obtain ⟨p, q, z, rfl, rfl, rfl, z0, z8, hp, hq, m0, m1, m2, B0, e0, e1, e2⟩ := hrel
      clear HS
      have hp := Lib.hid hp
      have hq := Lib.hid hq
      by_cases hz : z < 8
      · obtain ⟨a, b2, c2, d2, n0, n1, n2, t1, t2, t3, t4, t5, t6, t7, t8, t9, t10, t11, t12, t13, t14, t15, t16, rfl, rfl, rfl⟩ := digits z z0 hz
        obtain ⟨p0, p1, p2, p3, p4, p5, x1, y1, TP, TA, VF, CF, hf⟩ := HF.out (z.toNat % 2 * 8) (z.toNat / 2 % 2 * 8) (z.toNat / 4 * 8) (by omega) (by omega) (by omega)
        have TP := Lib.hid TP
        have TA := Lib.hid TA
        have VF := Lib.hid VF
        have CF := Lib.hid CF
        have GL : Hid (z = (jl : Int) → x1 = r0 ∧ y1 = r1) := Lib.hid (fun h => HL.out z x1 y1 h hf)
        have GH : Hid (z = (jh : Int) → x1 = r2 ∧ y1 = r3) := Lib.hid (fun h => HH.out z x1 y1 h hf)
        have HZ := Lib.hid (And.intro z0 (And.intro z8 hz))
        clear hf z0 z8 hz t13 t14 t15 t16
        generalize ((z.toNat % 2 * 8 : Nat) : Int) = w0 at *
        generalize ((z.toNat / 2 % 2 * 8 : Nat) : Int) = w1 at *
        generalize ((z.toNat / 4 * 8 : Nat) : Int) = w2 at *
        have ltx69 := m0.lt
        have ltx70 := m1.lt
        have ltx71 := m2.lt
        go_upto_region 12 with fail
        refine wp_region_free1 (agf := ?frx72) 19 18 zrR (by kernel_rfl) [] (by kernel_rfl) (fun d _ _ _ _ h => by cases d <;> exact h) (by rfl) (by rfl) ?frx721 ?frx722
        case frx721 =>
          intro W hW
          obtain ⟨c_l0, c_l1, c_l2, c_l3, c_l4, c_l5, c_l6, c_l7⟩ := m0.l8 hW
          obtain ⟨c_b0, c_b1, c_b2, c_b3, c_b4, c_b5, c_b6, c_b7, c_b8, c_b9, c_b10, c_b11⟩ := m1.l12 hW
          simp only [List.take_succ_cons, List.take_zero, ghostL, List.contains_cons, List.contains_nil, Nat.reduceAdd, Nat.reduceBEq, Bool.or_false, Bool.or_true, Bool.true_or, Bool.false_or, Bool.false_eq_true, if_false, if_true, ghostO]
          repeat (go_big_quiet_step (((first | (go_at_call 40; with_reducible exact later_of ((TP.out.at _))) | (go_at_call 22; with_reducible exact later_of ((TA.out.at _)))))))
          refine wpQuiet_nil ?_
          rfl
        case frx722 =>
          intro bx75 Wx73 hbx74 mx76 gx77 
          simp only [List.drop_succ_cons, List.drop_zero, Act.put, List.setIfInBounds_toArray, List.set_cons_succ, List.set_cons_zero]
          have mx78 := m0.keep hbx74
          have mx79 := m1.keep hbx74
          have mx80 := m2.keep hbx74
          have Bx81 := B0.trans (hbx74.mono B0.size)
          have szx82 := hbx74.size
          clear m0 m1 m2 B0 hbx74
          have ltx83 := mx76.lt
          obtain ⟨c_g0, c_g1, c_g2⟩ := mx76.c3
          obtain ⟨f_g0, f_g1, f_g2⟩ := mx76.f3
          go_upto_region 13 with fail
          clear c_g0 c_g1 c_g2 f_g0 f_g1 f_g2
          have mx85 := mx76.s3 (.int .i64 x1) (.int .i64 y1) (.int .i64 0)
          have mx86 := mx78.z3 (b := bx75) (by omega) (.int .i64 x1) (.int .i64 y1) (.int .i64 0)
          have mx87 := mx79.z3 (b := bx75) (by omega) (.int .i64 x1) (.int .i64 y1) (.int .i64 0)
          have mx88 := mx80.z3 (b := bx75) (by omega) (.int .i64 x1) (.int .i64 y1) (.int .i64 0)
          have Bx89 := below_s3 (b := bx75) Bx81 (by omega) (.int .i64 x1) (.int .i64 y1) (.int .i64 0)
          have ltx90 := mx85.lt
          generalize (((Wx73.setCell ⟨bx75, 0, none⟩ (.int .i64 x1)).setCell ⟨bx75, 1, none⟩ (.int .i64 y1)).setCell ⟨bx75, 2, none⟩ (.int .i64 0)) = Wx84 at *
          clear mx76 mx78 mx79 mx80 Bx81
          obtain ⟨c_g0, c_g1, c_g2⟩ := mx85.l3 (Below.refl _ _)
          obtain ⟨c_r0, c_r1, c_r2, c_r3, c_r4⟩ := mx88.l5 (Below.refl _ _)
          refine wp_region_plain ?_
          repeat (go_big_quiet_step (((first | (go_at_call 41; with_reducible exact later_of ((VF.out.at _))) | (go_at_call 34; with_reducible exact later_of ((CF.out.at _)))))))
          refine wpQuiet_nil ?_
          intro _ hw'
          obtain ⟨zx91, hw''⟩ := hw'
          subst hw''
          clear c_g0 c_g1 c_g2
          clear c_r0 c_r1 c_r2 c_r3 c_r4
          have hbx92 := zx91.below
          have mx93 := mx86.keep hbx92
          have mx94 := mx87.keep hbx92
          have mx95 := mx88.keep hbx92
          have mx96 := mx85.keep hbx92
          have Bx97 := Bx89.trans (hbx92.mono Bx89.size)
          have szx98 := hbx92.size
          clear mx86 mx87 mx88 mx85 Bx89 hbx92
          go_upto_region 15 with fail
          obtain ⟨c_g0, c_g1, c_g2⟩ := mx96.c3
          obtain ⟨c_r0, c_r1, c_r2, c_r3, c_r4⟩ := mx95.c5
          cases p <;> cases q
          all_goals
            go_wp2_with fail
            go_roundw
            case rel => exact ⟨_, _, z + 1, rfl, rfl, rfl, by have := HZ.out.1; omega, by have := HZ.out.2.2; omega, (fun h => by first | rfl | (have h1 : ¬ ((jl : Int) < z) := (fun h => by cases (hp.out h)); obtain ⟨e1, e2⟩ := GL.out (by omega); simp [e1, e2])), (fun h => by first | rfl | (have h1 : ¬ ((jh : Int) < z) := (fun h => by cases (hq.out h)); obtain ⟨e1, e2⟩ := GH.out (by omega); simp [e1, e2])), mx93, mx94, mx95, Bx97, e0, e1, e2⟩
            case measure => have := HZ.out; simp [intOf]; omega
      · have hz8 : z = 8 := by omega
        subst hz8
        obtain rfl : p = true := hp.out (by omega)
        obtain rfl : q = true := hq.out (by omega)
        go_wp2_with fail
        go_ret
        exact ⟨rfl, B0⟩

theorem range_row {w : World} {A : Option Addr} {n c : Nat} {l : List Int} (hA : Sl.Arr w A (l.map fun x => .int .u8 x)) (hn : l.length = n) (hl : Bytes l) (hs : n < 9223372036854775808) {B : Option Addr} {m d : Nat} {t : List Int} (hB : Sl.Arr w B (t.map fun x => .int .u8 x)) (hm : t.length = m) (ht : Bytes t) (hr : m < 9223372036854775808) {x y z : Int} (hx : 0 ≤ x ∧ x ≤ 255) (hy : 0 ≤ y ∧ y ≤ 255) (hz : 0 ≤ z ∧ z ≤ 255) : DoesIn w 4 #[.slice A n c, .slice B m d, .agg #[.int .u8 x, .int .u8 y, .int .u8 z]] (.bool true) := by
  obtain ⟨k0, rfl⟩ : ∃ k : Nat, x = k := ⟨x.toNat, by omega⟩
  obtain ⟨k1, rfl⟩ : ∃ k : Nat, y = k := ⟨y.toNat, by omega⟩
  obtain ⟨k2, rfl⟩ : ∃ k : Nat, z = k := ⟨z.toNat, by omega⟩
  exact range_walk hA hn hl hs hB hm ht hr k0 k1 k2 (by omega) (by omega) (by omega)

end Fr
end Go.Proofs.Ytojkaaglmdfcnaa

namespace Go.Proofs.Ytojkaaglmdfcnaa
open Go.RowKit Go.Shelf
namespace Fr
set_option linter.unusedVariables false
set_option linter.unusedSimpArgs false


theorem resL_ways (o : Option LQ) (hq : ∀ r, o = some r → Fit r.k ∧ Fit r.t ∧ Fit r.v ∧ Fit r.a) : ∃ x0 x1 x2 x3 x4 x5 x6 x7 e, ResL o x0 x1 x2 x3 x4 x5 x6 x7 e ∧ ((∃ r, o = some r ∧ IsL r x0 x1 x2 x3 x4 x5 x6 x7 ∧ e = 0) ∨ (o = none ∧ x0 = 0 ∧ x1 = 0 ∧ x2 = 0 ∧ x3 = 0 ∧ x4 = 0 ∧ x5 = 0 ∧ x6 = 0 ∧ x7 = 0 ∧ e = 2)) := by
  cases o with
  | none => exact ⟨0, 0, 0, 0, 0, 0, 0, 0, 2, .inr ⟨rfl, rfl, rfl, rfl, rfl, rfl, rfl, rfl, rfl, rfl⟩, .inr ⟨rfl, rfl, rfl, rfl, rfl, rfl, rfl, rfl, rfl, rfl⟩⟩
  | some r =>
    obtain ⟨f1, f2, f3, f4⟩ := hq r rfl
    obtain ⟨x0, x1, h0⟩ := isF_of _ f1
    obtain ⟨x2, x3, h1⟩ := isF_of _ f2
    obtain ⟨x4, x5, h2⟩ := isF_of _ f3
    obtain ⟨x6, x7, h3⟩ := isF_of _ f4
    exact ⟨x0, x1, x2, x3, x4, x5, x6, x7, 0, .inl ⟨r, rfl, ⟨h0, h1, h2, h3⟩, rfl⟩, .inl ⟨r, rfl, ⟨h0, h1, h2, h3⟩, rfl⟩⟩
theorem fit4_fit {l r : LQ} (h : fit4 l = some r) : Fit r.k ∧ Fit r.t ∧ Fit r.v ∧ Fit r.a := by
  unfold fit4 at h
  split at h
  · cases h; assumption
  · cases h
def zeroQ : LQ := ⟨Rat.divInt 0 1, Rat.divInt 0 1, Rat.divInt 0 1, Rat.divInt 0 1⟩
theorem isL_zero : IsL zeroQ 0 1 0 1 0 1 0 1 := ⟨isF_int 0 (by decide), isF_int 0 (by decide), isF_int 0 (by decide), isF_int 0 (by decide)⟩

/-- What holds at the head of the loop of Sum. -/
def SumAt2 (w : World) (b B : Nat) (v00 v01 v02 v03 v04 v05 v06 v07 v10 v11 v12 v13 v14 v15 v16 v17 : Int) (ms : List LQ) (o : Option LQ) (i : Value) (wr : World) : Prop :=
  ∃ (k : Nat) (s : LQ) (a0 a1 a2 a3 a4 a5 a6 a7 : Int), i = .int .i64 k ∧ k ≤ 2 ∧ IsL s a0 a1 a2 a3 a4 a5 a6 a7 ∧ sumO s (ms.drop k) = o ∧ BoxL wr w.heap.size #[.int .i64 0, .int .i64 0, .int .i64 0, .int .i64 0, .int .i64 0, .int .i64 0, .int .i64 0, .int .i64 0] ∧ BoxL wr b #[.int .i64 v00, .int .i64 v01, .int .i64 v02, .int .i64 v03, .int .i64 v04, .int .i64 v05, .int .i64 v06, .int .i64 v07, .int .i64 v10, .int .i64 v11, .int .i64 v12, .int .i64 v13, .int .i64 v14, .int .i64 v15, .int .i64 v16, .int .i64 v17] ∧ BoxL wr B #[.int .i64 a0, .int .i64 a1, .int .i64 a2, .int .i64 a3, .int .i64 a4, .int .i64 a5, .int .i64 a6, .int .i64 a7] ∧ Below w.heap.size w wr ∧ w.heap.size < B ∧ b < w.heap.size

set_option maxRecDepth 100000 in
set_option maxHeartbeats 2000000 in
theorem sum2_ {w : World} {b : Nat} {lq0 lq1 : LQ} {v00 v01 v02 v03 v04 v05 v06 v07 v10 v11 v12 v13 v14 v15 v16 v17 r0 r1 r2 r3 r4 r5 r6 r7 e : Int} (hB : BoxL w b #[.int .i64 v00, .int .i64 v01, .int .i64 v02, .int .i64 v03, .int .i64 v04, .int .i64 v05, .int .i64 v06, .int .i64 v07, .int .i64 v10, .int .i64 v11, .int .i64 v12, .int .i64 v13, .int .i64 v14, .int .i64 v15, .int .i64 v16, .int .i64 v17]) (h0 : IsL lq0 v00 v01 v02 v03 v04 v05 v06 v07) (h1 : IsL lq1 v10 v11 v12 v13 v14 v15 v16 v17) (hr : ResL (sumO zeroQ [lq0, lq1]) r0 r1 r2 r3 r4 r5 r6 r7 e) : DoesIn w 20 #[.slice (some ⟨b, 0, none⟩) 2 2] (.tuple #[.agg #[.int .i64 r0, .int .i64 r1, .int .i64 r2, .int .i64 r3, .int .i64 r4, .int .i64 r5, .int .i64 r6, .int .i64 r7], .int .i64 e]) := by
  obtain ⟨o, ho⟩ : ∃ o, sumO zeroQ [lq0, lq1] = o := ⟨_, rfl⟩
  rw [ho] at hr
  have HR := Lib.hid hr
  have HO := Lib.hid ho
  have HU := Lib.hid (uniform_ 0 1)
  have H0 := Lib.hid h0
  have H1 := Lib.hid h1
  clear hr ho h0 h1
  intro W0 HB0
  have mb0 := hB.keep HB0
  clear hB HB0
  have hbl := mb0.lt
  go_enter Try.func20, Try.ntmps20
  go_upto_region 1 with fail
  have hst := start1 W0 (#[.int .i64 0, .int .i64 0, .int .i64 0, .int .i64 0, .int .i64 0, .int .i64 0, .int .i64 0, .int .i64 0]) 25
  generalize (W0.alloc (.cells #[.int .i64 0, .int .i64 0, .int .i64 0, .int .i64 0, .int .i64 0, .int .i64 0, .int .i64 0, .int .i64 0] 25)) = Wx3 at *
  obtain ⟨mx1, Bx2⟩ := hst
  have ltx4 := mx1.lt
  have mb := mb0.keep Bx2
  clear mb0
  go_wp2_with fail
  refine (HU.out.at _).mono ?_
  rintro o Wx5 ⟨rfl, hbx6⟩
  have mx7 := mx1.keep hbx6
  have mx8 := mb.keep hbx6
  have Bx9 := Bx2.trans (hbx6.mono Bx2.size)
  have szx10 := hbx6.size
  clear mx1 mb Bx2 hbx6
  go_upto_region 2 with fail
  have mx11 := BoxL.new Wx5 #[.int .i64 0, .int .i64 1, .int .i64 0, .int .i64 1, .int .i64 0, .int .i64 1, .int .i64 0, .int .i64 1] 25
  have hbx12 := (Below.refl Wx5.heap.size Wx5).alloc (Nat.le_refl _) (.cells #[.int .i64 0, .int .i64 1, .int .i64 0, .int .i64 1, .int .i64 0, .int .i64 1, .int .i64 0, .int .i64 1] 25)
  have ltx14 := mx7.lt
  have ltx15 := mx8.lt
  have mx16 := mx7.keep hbx12
  have mx17 := mx8.keep hbx12
  have Bx18 := Bx9.trans (hbx12.mono Bx9.size)
  have szx19 := hbx12.size
  clear mx7 mx8 Bx9 hbx12
  generalize Wx5.alloc (.cells #[.int .i64 0, .int .i64 1, .int .i64 0, .int .i64 1, .int .i64 0, .int .i64 1, .int .i64 0, .int .i64 1] 25) = Wx13 at *
  have ltx20 := mx11.lt
  have HS : Hid (SumAt2 W0 b (Wx5.heap.size) v00 v01 v02 v03 v04 v05 v06 v07 v10 v11 v12 v13 v14 v15 v16 v17 [lq0, lq1] o (.int .i64 0) Wx13) := Lib.hid ⟨0, zeroQ, 0, 1, 0, 1, 0, 1, 0, 1, rfl, by omega, isL_zero, HO.out, mx16, mx17, mx11, Bx18, by omega, hbl⟩
  clear mx16 mx17 mx11 Bx18 HO HU
  go_upto_region 3 with fail
  go_loopw [12] (fun i wr => SumAt2 W0 b (Wx5.heap.size) v00 v01 v02 v03 v04 v05 v06 v07 v10 v11 v12 v13 v14 v15 v16 v17 [lq0, lq1] o i wr) (fun i _ => 2 - (intOf i).toNat)
  case atStart => exact HS.out
  case round =>
    obtain ⟨k, q, a0, a1, a2, a3, a4, a5, a6, a7, rfl, hk, hs, ho, m0, m1, m2, B0, hlt, hbl⟩ := hrel
    have HI := Lib.hid hs
    have HE := Lib.hid ho
    clear hs ho HS
    obtain rfl | rfl | rfl : k = 0 ∨ k = 1 ∨ k = 2 := by omega
    · have HE2 : Hid ((q.add lq0).bind (fun x => sumO x ([lq0, lq1].drop 1)) = o) := Lib.hid HE.out
      clear HE
      have ltx21 := m0.lt
      have ltx22 := m1.lt
      have ltx23 := m2.lt
      obtain ⟨x0, x1, x2, x3, x4, x5, x6, x7, xe, hx, hy⟩ := resL_ways (q.add lq0) (fun r h => fit4_fit h)
      have HA := Lib.hid (add_ HI.out H0.out hx)
      have HC := Lib.hid hy
      clear hx hy
      obtain ⟨c_b0, c_b1, c_b2, c_b3, c_b4, c_b5, c_b6, c_b7, c_b8, c_b9, c_b10, c_b11, c_b12, c_b13, c_b14, c_b15⟩ := m1.c16
      go_upto_region 5 with fail
      clear c_b0 c_b1 c_b2 c_b3 c_b4 c_b5 c_b6 c_b7 c_b8 c_b9 c_b10 c_b11 c_b12 c_b13 c_b14 c_b15
      have mx24 := BoxL.new wr #[.int .i64 v00, .int .i64 v01, .int .i64 v02, .int .i64 v03, .int .i64 v04, .int .i64 v05, .int .i64 v06, .int .i64 v07] 25
      have hbx25 := (Below.refl wr.heap.size wr).alloc (Nat.le_refl _) (.cells #[.int .i64 v00, .int .i64 v01, .int .i64 v02, .int .i64 v03, .int .i64 v04, .int .i64 v05, .int .i64 v06, .int .i64 v07] 25)
      have ltx27 := m0.lt
      have ltx28 := m1.lt
      have ltx29 := m2.lt
      have mx30 := m0.keep hbx25
      have mx31 := m1.keep hbx25
      have mx32 := m2.keep hbx25
      have Bx33 := B0.trans (hbx25.mono B0.size)
      have szx34 := hbx25.size
      clear m0 m1 m2 B0 hbx25
      generalize wr.alloc (.cells #[.int .i64 v00, .int .i64 v01, .int .i64 v02, .int .i64 v03, .int .i64 v04, .int .i64 v05, .int .i64 v06, .int .i64 v07] 25) = Wx26 at *
      have ltx35 := mx24.lt
      obtain ⟨c_s0, c_s1, c_s2, c_s3, c_s4, c_s5, c_s6, c_s7⟩ := mx32.c8
      obtain ⟨c_m0, c_m1, c_m2, c_m3, c_m4, c_m5, c_m6, c_m7⟩ := mx24.c8
      go_wp2_with fail
      refine (HA.out.at _).mono ?_
      rintro o Wx36 ⟨rfl, hbx37⟩
      clear c_s0 c_s1 c_s2 c_s3 c_s4 c_s5 c_s6 c_s7
      clear c_m0 c_m1 c_m2 c_m3 c_m4 c_m5 c_m6 c_m7
      have mx38 := mx30.keep hbx37
      have mx39 := mx31.keep hbx37
      have mx40 := mx32.keep hbx37
      have mx41 := mx24.keep hbx37
      have Bx42 := Bx33.trans (hbx37.mono Bx33.size)
      have szx43 := hbx37.size
      clear mx30 mx31 mx32 mx24 Bx33 hbx37
      obtain ⟨c_s0, c_s1, c_s2, c_s3, c_s4, c_s5, c_s6, c_s7⟩ := mx40.c8
      obtain ⟨f_s0, f_s1, f_s2, f_s3, f_s4, f_s5, f_s6, f_s7⟩ := mx40.f8
      go_upto_region 7 with fail
      clear c_s0 c_s1 c_s2 c_s3 c_s4 c_s5 c_s6 c_s7 f_s0 f_s1 f_s2 f_s3 f_s4 f_s5 f_s6 f_s7
      have mx45 := mx40.s8 (.int .i64 x0) (.int .i64 x1) (.int .i64 x2) (.int .i64 x3) (.int .i64 x4) (.int .i64 x5) (.int .i64 x6) (.int .i64 x7)
      have mx46 := mx38.z8 (b := Wx5.heap.size) (by omega) (.int .i64 x0) (.int .i64 x1) (.int .i64 x2) (.int .i64 x3) (.int .i64 x4) (.int .i64 x5) (.int .i64 x6) (.int .i64 x7)
      have mx47 := mx39.z8 (b := Wx5.heap.size) (by omega) (.int .i64 x0) (.int .i64 x1) (.int .i64 x2) (.int .i64 x3) (.int .i64 x4) (.int .i64 x5) (.int .i64 x6) (.int .i64 x7)
      have mx48 := mx41.z8 (b := Wx5.heap.size) (by omega) (.int .i64 x0) (.int .i64 x1) (.int .i64 x2) (.int .i64 x3) (.int .i64 x4) (.int .i64 x5) (.int .i64 x6) (.int .i64 x7)
      have Bx49 := below_s8 (b := Wx5.heap.size) Bx42 (by omega) (.int .i64 x0) (.int .i64 x1) (.int .i64 x2) (.int .i64 x3) (.int .i64 x4) (.int .i64 x5) (.int .i64 x6) (.int .i64 x7)
      have ltx50 := mx45.lt
      generalize ((((((((Wx36.setCell ⟨Wx5.heap.size, 0, none⟩ (.int .i64 x0)).setCell ⟨Wx5.heap.size, 1, none⟩ (.int .i64 x1)).setCell ⟨Wx5.heap.size, 2, none⟩ (.int .i64 x2)).setCell ⟨Wx5.heap.size, 3, none⟩ (.int .i64 x3)).setCell ⟨Wx5.heap.size, 4, none⟩ (.int .i64 x4)).setCell ⟨Wx5.heap.size, 5, none⟩ (.int .i64 x5)).setCell ⟨Wx5.heap.size, 6, none⟩ (.int .i64 x6)).setCell ⟨Wx5.heap.size, 7, none⟩ (.int .i64 x7)) = Wx44 at *
      clear mx40 mx38 mx39 mx41 Bx42
      rcases HC.out with ⟨q2, eq, fq, rfl⟩ | ⟨eq, rfl, rfl, rfl, rfl, rfl, rfl, rfl, rfl, rfl⟩
      rotate_left
      · have hz := HE2.out
        rw [eq] at hz
        obtain ⟨rfl, rfl, rfl, rfl, rfl, rfl, rfl, rfl, rfl⟩ := resL_none HR.out (show o = none from hz.symm)
        clear hz eq HC HE2
        obtain ⟨c_r0, c_r1, c_r2, c_r3, c_r4, c_r5, c_r6, c_r7⟩ := mx46.c8
        obtain ⟨f_r0, f_r1, f_r2, f_r3, f_r4, f_r5, f_r6, f_r7⟩ := mx46.f8
        go_wp2_with fail
        have hRx51 := mx46.s8 (.int .i64 0) (.int .i64 0) (.int .i64 0) (.int .i64 0) (.int .i64 0) (.int .i64 0) (.int .i64 0) (.int .i64 0)
        obtain ⟨s0, s1, s2, s3, s4, s5, s6, s7⟩ := hRx51.c8
        exact bodyPost_ret (v := .tuple #[.agg #[.int .i64 0, .int .i64 0, .int .i64 0, .int .i64 0, .int .i64 0, .int .i64 0, .int .i64 0, .int .i64 0], .int .i64 2]) (by simp [results, Try.results20, go_sem, s0, s1, s2, s3, s4, s5, s6, s7]) rfl ⟨rfl, below_s8 Bx49 (by omega) _ _ _ _ _ _ _ _⟩
      · have hz := HE2.out
        rw [eq] at hz
        have HS2 : Hid (SumAt2 W0 b (Wx5.heap.size) v00 v01 v02 v03 v04 v05 v06 v07 v10 v11 v12 v13 v14 v15 v16 v17 [lq0, lq1] o (.int .i64 1) Wx44) := Lib.hid ⟨1, q2, x0, x1, x2, x3, x4, x5, x6, x7, rfl, by omega, fq, hz, mx46, mx47, mx45, Bx49, hlt, hbl⟩
        clear hz eq fq HC HE2 HA mx46 mx47 mx45 mx48 Bx49
        go_wp2_with fail
        go_roundw
        case rel => exact HS2.out
        case measure => simp [intOf]
    · have HE2 : Hid ((q.add lq1).bind (fun x => sumO x ([lq0, lq1].drop 2)) = o) := Lib.hid HE.out
      clear HE
      have ltx52 := m0.lt
      have ltx53 := m1.lt
      have ltx54 := m2.lt
      obtain ⟨x0, x1, x2, x3, x4, x5, x6, x7, xe, hx, hy⟩ := resL_ways (q.add lq1) (fun r h => fit4_fit h)
      have HA := Lib.hid (add_ HI.out H1.out hx)
      have HC := Lib.hid hy
      clear hx hy
      obtain ⟨c_b0, c_b1, c_b2, c_b3, c_b4, c_b5, c_b6, c_b7, c_b8, c_b9, c_b10, c_b11, c_b12, c_b13, c_b14, c_b15⟩ := m1.c16
      go_upto_region 5 with fail
      clear c_b0 c_b1 c_b2 c_b3 c_b4 c_b5 c_b6 c_b7 c_b8 c_b9 c_b10 c_b11 c_b12 c_b13 c_b14 c_b15
      have mx55 := BoxL.new wr #[.int .i64 v10, .int .i64 v11, .int .i64 v12, .int .i64 v13, .int .i64 v14, .int .i64 v15, .int .i64 v16, .int .i64 v17] 25
      have hbx56 := (Below.refl wr.heap.size wr).alloc (Nat.le_refl _) (.cells #[.int .i64 v10, .int .i64 v11, .int .i64 v12, .int .i64 v13, .int .i64 v14, .int .i64 v15, .int .i64 v16, .int .i64 v17] 25)
      have ltx58 := m0.lt
      have ltx59 := m1.lt
      have ltx60 := m2.lt
      have mx61 := m0.keep hbx56
      have mx62 := m1.keep hbx56
      have mx63 := m2.keep hbx56
      have Bx64 := B0.trans (hbx56.mono B0.size)
      have szx65 := hbx56.size
      clear m0 m1 m2 B0 hbx56
      generalize wr.alloc (.cells #[.int .i64 v10, .int .i64 v11, .int .i64 v12, .int .i64 v13, .int .i64 v14, .int .i64 v15, .int .i64 v16, .int .i64 v17] 25) = Wx57 at *
      have ltx66 := mx55.lt
      obtain ⟨c_s0, c_s1, c_s2, c_s3, c_s4, c_s5, c_s6, c_s7⟩ := mx63.c8
      obtain ⟨c_m0, c_m1, c_m2, c_m3, c_m4, c_m5, c_m6, c_m7⟩ := mx55.c8
      go_wp2_with fail
      refine (HA.out.at _).mono ?_
      rintro o Wx67 ⟨rfl, hbx68⟩
      clear c_s0 c_s1 c_s2 c_s3 c_s4 c_s5 c_s6 c_s7
      clear c_m0 c_m1 c_m2 c_m3 c_m4 c_m5 c_m6 c_m7
      have mx69 := mx61.keep hbx68
      have mx70 := mx62.keep hbx68
      have mx71 := mx63.keep hbx68
      have mx72 := mx55.keep hbx68
      have Bx73 := Bx64.trans (hbx68.mono Bx64.size)
      have szx74 := hbx68.size
      clear mx61 mx62 mx63 mx55 Bx64 hbx68
      obtain ⟨c_s0, c_s1, c_s2, c_s3, c_s4, c_s5, c_s6, c_s7⟩ := mx71.c8
      obtain ⟨f_s0, f_s1, f_s2, f_s3, f_s4, f_s5, f_s6, f_s7⟩ := mx71.f8
      go_upto_region 7 with fail
      clear c_s0 c_s1 c_s2 c_s3 c_s4 c_s5 c_s6 c_s7 f_s0 f_s1 f_s2 f_s3 f_s4 f_s5 f_s6 f_s7
      have mx76 := mx71.s8 (.int .i64 x0) (.int .i64 x1) (.int .i64 x2) (.int .i64 x3) (.int .i64 x4) (.int .i64 x5) (.int .i64 x6) (.int .i64 x7)
      have mx77 := mx69.z8 (b := Wx5.heap.size) (by omega) (.int .i64 x0) (.int .i64 x1) (.int .i64 x2) (.int .i64 x3) (.int .i64 x4) (.int .i64 x5) (.int .i64 x6) (.int .i64 x7)
      have mx78 := mx70.z8 (b := Wx5.heap.size) (by omega) (.int .i64 x0) (.int .i64 x1) (.int .i64 x2) (.int .i64 x3) (.int .i64 x4) (.int .i64 x5) (.int .i64 x6) (.int .i64 x7)
      have mx79 := mx72.z8 (b := Wx5.heap.size) (by omega) (.int .i64 x0) (.int .i64 x1) (.int .i64 x2) (.int .i64 x3) (.int .i64 x4) (.int .i64 x5) (.int .i64 x6) (.int .i64 x7)
      have Bx80 := below_s8 (b := Wx5.heap.size) Bx73 (by omega) (.int .i64 x0) (.int .i64 x1) (.int .i64 x2) (.int .i64 x3) (.int .i64 x4) (.int .i64 x5) (.int .i64 x6) (.int .i64 x7)
      have ltx81 := mx76.lt
      generalize ((((((((Wx67.setCell ⟨Wx5.heap.size, 0, none⟩ (.int .i64 x0)).setCell ⟨Wx5.heap.size, 1, none⟩ (.int .i64 x1)).setCell ⟨Wx5.heap.size, 2, none⟩ (.int .i64 x2)).setCell ⟨Wx5.heap.size, 3, none⟩ (.int .i64 x3)).setCell ⟨Wx5.heap.size, 4, none⟩ (.int .i64 x4)).setCell ⟨Wx5.heap.size, 5, none⟩ (.int .i64 x5)).setCell ⟨Wx5.heap.size, 6, none⟩ (.int .i64 x6)).setCell ⟨Wx5.heap.size, 7, none⟩ (.int .i64 x7)) = Wx75 at *
      clear mx71 mx69 mx70 mx72 Bx73
      rcases HC.out with ⟨q2, eq, fq, rfl⟩ | ⟨eq, rfl, rfl, rfl, rfl, rfl, rfl, rfl, rfl, rfl⟩
      rotate_left
      · have hz := HE2.out
        rw [eq] at hz
        obtain ⟨rfl, rfl, rfl, rfl, rfl, rfl, rfl, rfl, rfl⟩ := resL_none HR.out (show o = none from hz.symm)
        clear hz eq HC HE2
        obtain ⟨c_r0, c_r1, c_r2, c_r3, c_r4, c_r5, c_r6, c_r7⟩ := mx77.c8
        obtain ⟨f_r0, f_r1, f_r2, f_r3, f_r4, f_r5, f_r6, f_r7⟩ := mx77.f8
        go_wp2_with fail
        have hRx82 := mx77.s8 (.int .i64 0) (.int .i64 0) (.int .i64 0) (.int .i64 0) (.int .i64 0) (.int .i64 0) (.int .i64 0) (.int .i64 0)
        obtain ⟨s0, s1, s2, s3, s4, s5, s6, s7⟩ := hRx82.c8
        exact bodyPost_ret (v := .tuple #[.agg #[.int .i64 0, .int .i64 0, .int .i64 0, .int .i64 0, .int .i64 0, .int .i64 0, .int .i64 0, .int .i64 0], .int .i64 2]) (by simp [results, Try.results20, go_sem, s0, s1, s2, s3, s4, s5, s6, s7]) rfl ⟨rfl, below_s8 Bx80 (by omega) _ _ _ _ _ _ _ _⟩
      · have hz := HE2.out
        rw [eq] at hz
        have HS2 : Hid (SumAt2 W0 b (Wx5.heap.size) v00 v01 v02 v03 v04 v05 v06 v07 v10 v11 v12 v13 v14 v15 v16 v17 [lq0, lq1] o (.int .i64 2) Wx75) := Lib.hid ⟨2, q2, x0, x1, x2, x3, x4, x5, x6, x7, rfl, by omega, fq, hz, mx77, mx78, mx76, Bx80, hlt, hbl⟩
        clear hz eq fq HC HE2 HA mx77 mx78 mx76 mx79 Bx80
        go_wp2_with fail
        go_roundw
        case rel => exact HS2.out
        case measure => simp [intOf]
    · have hz : o = some q := HE.out.symm
      obtain ⟨rfl, rfl, rfl, rfl, rfl, rfl, rfl, rfl, rfl⟩ := resL_val HR.out hz HI.out
      clear hz HE
      obtain ⟨c_s0, c_s1, c_s2, c_s3, c_s4, c_s5, c_s6, c_s7⟩ := m2.c8
      obtain ⟨c_r0, c_r1, c_r2, c_r3, c_r4, c_r5, c_r6, c_r7⟩ := m0.c8
      obtain ⟨f_r0, f_r1, f_r2, f_r3, f_r4, f_r5, f_r6, f_r7⟩ := m0.f8
      go_wp2_with fail
      have hRx83 := m0.s8 (.int .i64 r0) (.int .i64 r1) (.int .i64 r2) (.int .i64 r3) (.int .i64 r4) (.int .i64 r5) (.int .i64 r6) (.int .i64 r7)
      obtain ⟨s0, s1, s2, s3, s4, s5, s6, s7⟩ := hRx83.c8
      exact bodyPost_ret (v := .tuple #[.agg #[.int .i64 r0, .int .i64 r1, .int .i64 r2, .int .i64 r3, .int .i64 r4, .int .i64 r5, .int .i64 r6, .int .i64 r7], .int .i64 0]) (by simp [results, Try.results20, go_sem, s0, s1, s2, s3, s4, s5, s6, s7]) rfl ⟨rfl, below_s8 B0 (by omega) _ _ _ _ _ _ _ _⟩

/-- What holds at the head of the loop of Sum. -/
def SumAt3 (w : World) (b B : Nat) (v00 v01 v02 v03 v04 v05 v06 v07 v10 v11 v12 v13 v14 v15 v16 v17 v20 v21 v22 v23 v24 v25 v26 v27 : Int) (ms : List LQ) (o : Option LQ) (i : Value) (wr : World) : Prop :=
  ∃ (k : Nat) (s : LQ) (a0 a1 a2 a3 a4 a5 a6 a7 : Int), i = .int .i64 k ∧ k ≤ 3 ∧ IsL s a0 a1 a2 a3 a4 a5 a6 a7 ∧ sumO s (ms.drop k) = o ∧ BoxL wr w.heap.size #[.int .i64 0, .int .i64 0, .int .i64 0, .int .i64 0, .int .i64 0, .int .i64 0, .int .i64 0, .int .i64 0] ∧ BoxL wr b #[.int .i64 v00, .int .i64 v01, .int .i64 v02, .int .i64 v03, .int .i64 v04, .int .i64 v05, .int .i64 v06, .int .i64 v07, .int .i64 v10, .int .i64 v11, .int .i64 v12, .int .i64 v13, .int .i64 v14, .int .i64 v15, .int .i64 v16, .int .i64 v17, .int .i64 v20, .int .i64 v21, .int .i64 v22, .int .i64 v23, .int .i64 v24, .int .i64 v25, .int .i64 v26, .int .i64 v27] ∧ BoxL wr B #[.int .i64 a0, .int .i64 a1, .int .i64 a2, .int .i64 a3, .int .i64 a4, .int .i64 a5, .int .i64 a6, .int .i64 a7] ∧ Below w.heap.size w wr ∧ w.heap.size < B ∧ b < w.heap.size

set_option maxRecDepth 100000 in
set_option maxHeartbeats 2000000 in
theorem sum3_ {w : World} {b : Nat} {lq0 lq1 lq2 : LQ} {v00 v01 v02 v03 v04 v05 v06 v07 v10 v11 v12 v13 v14 v15 v16 v17 v20 v21 v22 v23 v24 v25 v26 v27 r0 r1 r2 r3 r4 r5 r6 r7 e : Int} (hB : BoxL w b #[.int .i64 v00, .int .i64 v01, .int .i64 v02, .int .i64 v03, .int .i64 v04, .int .i64 v05, .int .i64 v06, .int .i64 v07, .int .i64 v10, .int .i64 v11, .int .i64 v12, .int .i64 v13, .int .i64 v14, .int .i64 v15, .int .i64 v16, .int .i64 v17, .int .i64 v20, .int .i64 v21, .int .i64 v22, .int .i64 v23, .int .i64 v24, .int .i64 v25, .int .i64 v26, .int .i64 v27]) (h0 : IsL lq0 v00 v01 v02 v03 v04 v05 v06 v07) (h1 : IsL lq1 v10 v11 v12 v13 v14 v15 v16 v17) (h2 : IsL lq2 v20 v21 v22 v23 v24 v25 v26 v27) (hr : ResL (sumO zeroQ [lq0, lq1, lq2]) r0 r1 r2 r3 r4 r5 r6 r7 e) : DoesIn w 20 #[.slice (some ⟨b, 0, none⟩) 3 3] (.tuple #[.agg #[.int .i64 r0, .int .i64 r1, .int .i64 r2, .int .i64 r3, .int .i64 r4, .int .i64 r5, .int .i64 r6, .int .i64 r7], .int .i64 e]) := by
  obtain ⟨o, ho⟩ : ∃ o, sumO zeroQ [lq0, lq1, lq2] = o := ⟨_, rfl⟩
  rw [ho] at hr
  have HR := Lib.hid hr
  have HO := Lib.hid ho
  have HU := Lib.hid (uniform_ 0 1)
  have H0 := Lib.hid h0
  have H1 := Lib.hid h1
  have H2 := Lib.hid h2
  clear hr ho h0 h1 h2
  intro W0 HB0
  have mb0 := hB.keep HB0
  clear hB HB0
  have hbl := mb0.lt
  go_enter Try.func20, Try.ntmps20
  go_upto_region 1 with fail
  have hst := start1 W0 (#[.int .i64 0, .int .i64 0, .int .i64 0, .int .i64 0, .int .i64 0, .int .i64 0, .int .i64 0, .int .i64 0]) 25
  generalize (W0.alloc (.cells #[.int .i64 0, .int .i64 0, .int .i64 0, .int .i64 0, .int .i64 0, .int .i64 0, .int .i64 0, .int .i64 0] 25)) = Wx3 at *
  obtain ⟨mx1, Bx2⟩ := hst
  have ltx4 := mx1.lt
  have mb := mb0.keep Bx2
  clear mb0
  go_wp2_with fail
  refine (HU.out.at _).mono ?_
  rintro o Wx5 ⟨rfl, hbx6⟩
  have mx7 := mx1.keep hbx6
  have mx8 := mb.keep hbx6
  have Bx9 := Bx2.trans (hbx6.mono Bx2.size)
  have szx10 := hbx6.size
  clear mx1 mb Bx2 hbx6
  go_upto_region 2 with fail
  have mx11 := BoxL.new Wx5 #[.int .i64 0, .int .i64 1, .int .i64 0, .int .i64 1, .int .i64 0, .int .i64 1, .int .i64 0, .int .i64 1] 25
  have hbx12 := (Below.refl Wx5.heap.size Wx5).alloc (Nat.le_refl _) (.cells #[.int .i64 0, .int .i64 1, .int .i64 0, .int .i64 1, .int .i64 0, .int .i64 1, .int .i64 0, .int .i64 1] 25)
  have ltx14 := mx7.lt
  have ltx15 := mx8.lt
  have mx16 := mx7.keep hbx12
  have mx17 := mx8.keep hbx12
  have Bx18 := Bx9.trans (hbx12.mono Bx9.size)
  have szx19 := hbx12.size
  clear mx7 mx8 Bx9 hbx12
  generalize Wx5.alloc (.cells #[.int .i64 0, .int .i64 1, .int .i64 0, .int .i64 1, .int .i64 0, .int .i64 1, .int .i64 0, .int .i64 1] 25) = Wx13 at *
  have ltx20 := mx11.lt
  have HS : Hid (SumAt3 W0 b (Wx5.heap.size) v00 v01 v02 v03 v04 v05 v06 v07 v10 v11 v12 v13 v14 v15 v16 v17 v20 v21 v22 v23 v24 v25 v26 v27 [lq0, lq1, lq2] o (.int .i64 0) Wx13) := Lib.hid ⟨0, zeroQ, 0, 1, 0, 1, 0, 1, 0, 1, rfl, by omega, isL_zero, HO.out, mx16, mx17, mx11, Bx18, by omega, hbl⟩
  clear mx16 mx17 mx11 Bx18 HO HU
  go_upto_region 3 with fail
  go_loopw [12] (fun i wr => SumAt3 W0 b (Wx5.heap.size) v00 v01 v02 v03 v04 v05 v06 v07 v10 v11 v12 v13 v14 v15 v16 v17 v20 v21 v22 v23 v24 v25 v26 v27 [lq0, lq1, lq2] o i wr) (fun i _ => 3 - (intOf i).toNat)
  case atStart => exact HS.out
  case round =>
    obtain ⟨k, q, a0, a1, a2, a3, a4, a5, a6, a7, rfl, hk, hs, ho, m0, m1, m2, B0, hlt, hbl⟩ := hrel
    have HI := Lib.hid hs
    have HE := Lib.hid ho
    clear hs ho HS
    obtain rfl | rfl | rfl | rfl : k = 0 ∨ k = 1 ∨ k = 2 ∨ k = 3 := by omega
    · have HE2 : Hid ((q.add lq0).bind (fun x => sumO x ([lq0, lq1, lq2].drop 1)) = o) := Lib.hid HE.out
      clear HE
      have ltx21 := m0.lt
      have ltx22 := m1.lt
      have ltx23 := m2.lt
      obtain ⟨x0, x1, x2, x3, x4, x5, x6, x7, xe, hx, hy⟩ := resL_ways (q.add lq0) (fun r h => fit4_fit h)
      have HA := Lib.hid (add_ HI.out H0.out hx)
      have HC := Lib.hid hy
      clear hx hy
      obtain ⟨c_b0, c_b1, c_b2, c_b3, c_b4, c_b5, c_b6, c_b7, c_b8, c_b9, c_b10, c_b11, c_b12, c_b13, c_b14, c_b15, c_b16, c_b17, c_b18, c_b19, c_b20, c_b21, c_b22, c_b23⟩ := m1.c24
      go_upto_region 5 with fail
      clear c_b0 c_b1 c_b2 c_b3 c_b4 c_b5 c_b6 c_b7 c_b8 c_b9 c_b10 c_b11 c_b12 c_b13 c_b14 c_b15 c_b16 c_b17 c_b18 c_b19 c_b20 c_b21 c_b22 c_b23
      have mx24 := BoxL.new wr #[.int .i64 v00, .int .i64 v01, .int .i64 v02, .int .i64 v03, .int .i64 v04, .int .i64 v05, .int .i64 v06, .int .i64 v07] 25
      have hbx25 := (Below.refl wr.heap.size wr).alloc (Nat.le_refl _) (.cells #[.int .i64 v00, .int .i64 v01, .int .i64 v02, .int .i64 v03, .int .i64 v04, .int .i64 v05, .int .i64 v06, .int .i64 v07] 25)
      have ltx27 := m0.lt
      have ltx28 := m1.lt
      have ltx29 := m2.lt
      have mx30 := m0.keep hbx25
      have mx31 := m1.keep hbx25
      have mx32 := m2.keep hbx25
      have Bx33 := B0.trans (hbx25.mono B0.size)
      have szx34 := hbx25.size
      clear m0 m1 m2 B0 hbx25
      generalize wr.alloc (.cells #[.int .i64 v00, .int .i64 v01, .int .i64 v02, .int .i64 v03, .int .i64 v04, .int .i64 v05, .int .i64 v06, .int .i64 v07] 25) = Wx26 at *
      have ltx35 := mx24.lt
      obtain ⟨c_s0, c_s1, c_s2, c_s3, c_s4, c_s5, c_s6, c_s7⟩ := mx32.c8
      obtain ⟨c_m0, c_m1, c_m2, c_m3, c_m4, c_m5, c_m6, c_m7⟩ := mx24.c8
      go_wp2_with fail
      refine (HA.out.at _).mono ?_
      rintro o Wx36 ⟨rfl, hbx37⟩
      clear c_s0 c_s1 c_s2 c_s3 c_s4 c_s5 c_s6 c_s7
      clear c_m0 c_m1 c_m2 c_m3 c_m4 c_m5 c_m6 c_m7
      have mx38 := mx30.keep hbx37
      have mx39 := mx31.keep hbx37
      have mx40 := mx32.keep hbx37
      have mx41 := mx24.keep hbx37
      have Bx42 := Bx33.trans (hbx37.mono Bx33.size)
      have szx43 := hbx37.size
      clear mx30 mx31 mx32 mx24 Bx33 hbx37
      obtain ⟨c_s0, c_s1, c_s2, c_s3, c_s4, c_s5, c_s6, c_s7⟩ := mx40.c8
      obtain ⟨f_s0, f_s1, f_s2, f_s3, f_s4, f_s5, f_s6, f_s7⟩ := mx40.f8
      go_upto_region 7 with fail
      clear c_s0 c_s1 c_s2 c_s3 c_s4 c_s5 c_s6 c_s7 f_s0 f_s1 f_s2 f_s3 f_s4 f_s5 f_s6 f_s7
      have mx45 := mx40.s8 (.int .i64 x0) (.int .i64 x1) (.int .i64 x2) (.int .i64 x3) (.int .i64 x4) (.int .i64 x5) (.int .i64 x6) (.int .i64 x7)
      have mx46 := mx38.z8 (b := Wx5.heap.size) (by omega) (.int .i64 x0) (.int .i64 x1) (.int .i64 x2) (.int .i64 x3) (.int .i64 x4) (.int .i64 x5) (.int .i64 x6) (.int .i64 x7)
      have mx47 := mx39.z8 (b := Wx5.heap.size) (by omega) (.int .i64 x0) (.int .i64 x1) (.int .i64 x2) (.int .i64 x3) (.int .i64 x4) (.int .i64 x5) (.int .i64 x6) (.int .i64 x7)
      have mx48 := mx41.z8 (b := Wx5.heap.size) (by omega) (.int .i64 x0) (.int .i64 x1) (.int .i64 x2) (.int .i64 x3) (.int .i64 x4) (.int .i64 x5) (.int .i64 x6) (.int .i64 x7)
      have Bx49 := below_s8 (b := Wx5.heap.size) Bx42 (by omega) (.int .i64 x0) (.int .i64 x1) (.int .i64 x2) (.int .i64 x3) (.int .i64 x4) (.int .i64 x5) (.int .i64 x6) (.int .i64 x7)
      have ltx50 := mx45.lt
      generalize ((((((((Wx36.setCell ⟨Wx5.heap.size, 0, none⟩ (.int .i64 x0)).setCell ⟨Wx5.heap.size, 1, none⟩ (.int .i64 x1)).setCell ⟨Wx5.heap.size, 2, none⟩ (.int .i64 x2)).setCell ⟨Wx5.heap.size, 3, none⟩ (.int .i64 x3)).setCell ⟨Wx5.heap.size, 4, none⟩ (.int .i64 x4)).setCell ⟨Wx5.heap.size, 5, none⟩ (.int .i64 x5)).setCell ⟨Wx5.heap.size, 6, none⟩ (.int .i64 x6)).setCell ⟨Wx5.heap.size, 7, none⟩ (.int .i64 x7)) = Wx44 at *
      clear mx40 mx38 mx39 mx41 Bx42
      rcases HC.out with ⟨q2, eq, fq, rfl⟩ | ⟨eq, rfl, rfl, rfl, rfl, rfl, rfl, rfl, rfl, rfl⟩
      rotate_left
      · have hz := HE2.out
        rw [eq] at hz
        obtain ⟨rfl, rfl, rfl, rfl, rfl, rfl, rfl, rfl, rfl⟩ := resL_none HR.out (show o = none from hz.symm)
        clear hz eq HC HE2
        obtain ⟨c_r0, c_r1, c_r2, c_r3, c_r4, c_r5, c_r6, c_r7⟩ := mx46.c8
        obtain ⟨f_r0, f_r1, f_r2, f_r3, f_r4, f_r5, f_r6, f_r7⟩ := mx46.f8
        go_wp2_with fail
        have hRx51 := mx46.s8 (.int .i64 0) (.int .i64 0) (.int .i64 0) (.int .i64 0) (.int .i64 0) (.int .i64 0) (.int .i64 0) (.int .i64 0)
        obtain ⟨s0, s1, s2, s3, s4, s5, s6, s7⟩ := hRx51.c8
        exact bodyPost_ret (v := .tuple #[.agg #[.int .i64 0, .int .i64 0, .int .i64 0, .int .i64 0, .int .i64 0, .int .i64 0, .int .i64 0, .int .i64 0], .int .i64 2]) (by simp [results, Try.results20, go_sem, s0, s1, s2, s3, s4, s5, s6, s7]) rfl ⟨rfl, below_s8 Bx49 (by omega) _ _ _ _ _ _ _ _⟩
      · have hz := HE2.out
        rw [eq] at hz
        have HS2 : Hid (SumAt3 W0 b (Wx5.heap.size) v00 v01 v02 v03 v04 v05 v06 v07 v10 v11 v12 v13 v14 v15 v16 v17 v20 v21 v22 v23 v24 v25 v26 v27 [lq0, lq1, lq2] o (.int .i64 1) Wx44) := Lib.hid ⟨1, q2, x0, x1, x2, x3, x4, x5, x6, x7, rfl, by omega, fq, hz, mx46, mx47, mx45, Bx49, hlt, hbl⟩
        clear hz eq fq HC HE2 HA mx46 mx47 mx45 mx48 Bx49
        go_wp2_with fail
        go_roundw
        case rel => exact HS2.out
        case measure => simp [intOf]
    · have HE2 : Hid ((q.add lq1).bind (fun x => sumO x ([lq0, lq1, lq2].drop 2)) = o) := Lib.hid HE.out
      clear HE
      have ltx52 := m0.lt
      have ltx53 := m1.lt
      have ltx54 := m2.lt
      obtain ⟨x0, x1, x2, x3, x4, x5, x6, x7, xe, hx, hy⟩ := resL_ways (q.add lq1) (fun r h => fit4_fit h)
      have HA := Lib.hid (add_ HI.out H1.out hx)
      have HC := Lib.hid hy
      clear hx hy
      obtain ⟨c_b0, c_b1, c_b2, c_b3, c_b4, c_b5, c_b6, c_b7, c_b8, c_b9, c_b10, c_b11, c_b12, c_b13, c_b14, c_b15, c_b16, c_b17, c_b18, c_b19, c_b20, c_b21, c_b22, c_b23⟩ := m1.c24
      go_upto_region 5 with fail
      clear c_b0 c_b1 c_b2 c_b3 c_b4 c_b5 c_b6 c_b7 c_b8 c_b9 c_b10 c_b11 c_b12 c_b13 c_b14 c_b15 c_b16 c_b17 c_b18 c_b19 c_b20 c_b21 c_b22 c_b23
      have mx55 := BoxL.new wr #[.int .i64 v10, .int .i64 v11, .int .i64 v12, .int .i64 v13, .int .i64 v14, .int .i64 v15, .int .i64 v16, .int .i64 v17] 25
      have hbx56 := (Below.refl wr.heap.size wr).alloc (Nat.le_refl _) (.cells #[.int .i64 v10, .int .i64 v11, .int .i64 v12, .int .i64 v13, .int .i64 v14, .int .i64 v15, .int .i64 v16, .int .i64 v17] 25)
      have ltx58 := m0.lt
      have ltx59 := m1.lt
      have ltx60 := m2.lt
      have mx61 := m0.keep hbx56
      have mx62 := m1.keep hbx56
      have mx63 := m2.keep hbx56
      have Bx64 := B0.trans (hbx56.mono B0.size)
      have szx65 := hbx56.size
      clear m0 m1 m2 B0 hbx56
      generalize wr.alloc (.cells #[.int .i64 v10, .int .i64 v11, .int .i64 v12, .int .i64 v13, .int .i64 v14, .int .i64 v15, .int .i64 v16, .int .i64 v17] 25) = Wx57 at *
      have ltx66 := mx55.lt
      obtain ⟨c_s0, c_s1, c_s2, c_s3, c_s4, c_s5, c_s6, c_s7⟩ := mx63.c8
      obtain ⟨c_m0, c_m1, c_m2, c_m3, c_m4, c_m5, c_m6, c_m7⟩ := mx55.c8
      go_wp2_with fail
      refine (HA.out.at _).mono ?_
      rintro o Wx67 ⟨rfl, hbx68⟩
      clear c_s0 c_s1 c_s2 c_s3 c_s4 c_s5 c_s6 c_s7
      clear c_m0 c_m1 c_m2 c_m3 c_m4 c_m5 c_m6 c_m7
      have mx69 := mx61.keep hbx68
      have mx70 := mx62.keep hbx68
      have mx71 := mx63.keep hbx68
      have mx72 := mx55.keep hbx68
      have Bx73 := Bx64.trans (hbx68.mono Bx64.size)
      have szx74 := hbx68.size
      clear mx61 mx62 mx63 mx55 Bx64 hbx68
      obtain ⟨c_s0, c_s1, c_s2, c_s3, c_s4, c_s5, c_s6, c_s7⟩ := mx71.c8
      obtain ⟨f_s0, f_s1, f_s2, f_s3, f_s4, f_s5, f_s6, f_s7⟩ := mx71.f8
      go_upto_region 7 with fail
      clear c_s0 c_s1 c_s2 c_s3 c_s4 c_s5 c_s6 c_s7 f_s0 f_s1 f_s2 f_s3 f_s4 f_s5 f_s6 f_s7
      have mx76 := mx71.s8 (.int .i64 x0) (.int .i64 x1) (.int .i64 x2) (.int .i64 x3) (.int .i64 x4) (.int .i64 x5) (.int .i64 x6) (.int .i64 x7)
      have mx77 := mx69.z8 (b := Wx5.heap.size) (by omega) (.int .i64 x0) (.int .i64 x1) (.int .i64 x2) (.int .i64 x3) (.int .i64 x4) (.int .i64 x5) (.int .i64 x6) (.int .i64 x7)
      have mx78 := mx70.z8 (b := Wx5.heap.size) (by omega) (.int .i64 x0) (.int .i64 x1) (.int .i64 x2) (.int .i64 x3) (.int .i64 x4) (.int .i64 x5) (.int .i64 x6) (.int .i64 x7)
      have mx79 := mx72.z8 (b := Wx5.heap.size) (by omega) (.int .i64 x0) (.int .i64 x1) (.int .i64 x2) (.int .i64 x3) (.int .i64 x4) (.int .i64 x5) (.int .i64 x6) (.int .i64 x7)
      have Bx80 := below_s8 (b := Wx5.heap.size) Bx73 (by omega) (.int .i64 x0) (.int .i64 x1) (.int .i64 x2) (.int .i64 x3) (.int .i64 x4) (.int .i64 x5) (.int .i64 x6) (.int .i64 x7)
      have ltx81 := mx76.lt
      generalize ((((((((Wx67.setCell ⟨Wx5.heap.size, 0, none⟩ (.int .i64 x0)).setCell ⟨Wx5.heap.size, 1, none⟩ (.int .i64 x1)).setCell ⟨Wx5.heap.size, 2, none⟩ (.int .i64 x2)).setCell ⟨Wx5.heap.size, 3, none⟩ (.int .i64 x3)).setCell ⟨Wx5.heap.size, 4, none⟩ (.int .i64 x4)).setCell ⟨Wx5.heap.size, 5, none⟩ (.int .i64 x5)).setCell ⟨Wx5.heap.size, 6, none⟩ (.int .i64 x6)).setCell ⟨Wx5.heap.size, 7, none⟩ (.int .i64 x7)) = Wx75 at *
      clear mx71 mx69 mx70 mx72 Bx73
      rcases HC.out with ⟨q2, eq, fq, rfl⟩ | ⟨eq, rfl, rfl, rfl, rfl, rfl, rfl, rfl, rfl, rfl⟩
      rotate_left
      · have hz := HE2.out
        rw [eq] at hz
        obtain ⟨rfl, rfl, rfl, rfl, rfl, rfl, rfl, rfl, rfl⟩ := resL_none HR.out (show o = none from hz.symm)
        clear hz eq HC HE2
        obtain ⟨c_r0, c_r1, c_r2, c_r3, c_r4, c_r5, c_r6, c_r7⟩ := mx77.c8
        obtain ⟨f_r0, f_r1, f_r2, f_r3, f_r4, f_r5, f_r6, f_r7⟩ := mx77.f8
        go_wp2_with fail
        have hRx82 := mx77.s8 (.int .i64 0) (.int .i64 0) (.int .i64 0) (.int .i64 0) (.int .i64 0) (.int .i64 0) (.int .i64 0) (.int .i64 0)
        obtain ⟨s0, s1, s2, s3, s4, s5, s6, s7⟩ := hRx82.c8
        exact bodyPost_ret (v := .tuple #[.agg #[.int .i64 0, .int .i64 0, .int .i64 0, .int .i64 0, .int .i64 0, .int .i64 0, .int .i64 0, .int .i64 0], .int .i64 2]) (by simp [results, Try.results20, go_sem, s0, s1, s2, s3, s4, s5, s6, s7]) rfl ⟨rfl, below_s8 Bx80 (by omega) _ _ _ _ _ _ _ _⟩
      · have hz := HE2.out
        rw [eq] at hz
        have HS2 : Hid (SumAt3 W0 b (Wx5.heap.size) v00 v01 v02 v03 v04 v05 v06 v07 v10 v11 v12 v13 v14 v15 v16 v17 v20 v21 v22 v23 v24 v25 v26 v27 [lq0, lq1, lq2] o (.int .i64 2) Wx75) := Lib.hid ⟨2, q2, x0, x1, x2, x3, x4, x5, x6, x7, rfl, by omega, fq, hz, mx77, mx78, mx76, Bx80, hlt, hbl⟩
        clear hz eq fq HC HE2 HA mx77 mx78 mx76 mx79 Bx80
        go_wp2_with fail
        go_roundw
        case rel => exact HS2.out
        case measure => simp [intOf]
    · have HE2 : Hid ((q.add lq2).bind (fun x => sumO x ([lq0, lq1, lq2].drop 3)) = o) := Lib.hid HE.out
      clear HE
      have ltx83 := m0.lt
      have ltx84 := m1.lt
      have ltx85 := m2.lt
      obtain ⟨x0, x1, x2, x3, x4, x5, x6, x7, xe, hx, hy⟩ := resL_ways (q.add lq2) (fun r h => fit4_fit h)
      have HA := Lib.hid (add_ HI.out H2.out hx)
      have HC := Lib.hid hy
      clear hx hy
      obtain ⟨c_b0, c_b1, c_b2, c_b3, c_b4, c_b5, c_b6, c_b7, c_b8, c_b9, c_b10, c_b11, c_b12, c_b13, c_b14, c_b15, c_b16, c_b17, c_b18, c_b19, c_b20, c_b21, c_b22, c_b23⟩ := m1.c24
      go_upto_region 5 with fail
      clear c_b0 c_b1 c_b2 c_b3 c_b4 c_b5 c_b6 c_b7 c_b8 c_b9 c_b10 c_b11 c_b12 c_b13 c_b14 c_b15 c_b16 c_b17 c_b18 c_b19 c_b20 c_b21 c_b22 c_b23
      have mx86 := BoxL.new wr #[.int .i64 v20, .int .i64 v21, .int .i64 v22, .int .i64 v23, .int .i64 v24, .int .i64 v25, .int .i64 v26, .int .i64 v27] 25
      have hbx87 := (Below.refl wr.heap.size wr).alloc (Nat.le_refl _) (.cells #[.int .i64 v20, .int .i64 v21, .int .i64 v22, .int .i64 v23, .int .i64 v24, .int .i64 v25, .int .i64 v26, .int .i64 v27] 25)
      have ltx89 := m0.lt
      have ltx90 := m1.lt
      have ltx91 := m2.lt
      have mx92 := m0.keep hbx87
      have mx93 := m1.keep hbx87
      have mx94 := m2.keep hbx87
      have Bx95 := B0.trans (hbx87.mono B0.size)
      have szx96 := hbx87.size
      clear m0 m1 m2 B0 hbx87
      generalize wr.alloc (.cells #[.int .i64 v20, .int .i64 v21, .int .i64 v22, .int .i64 v23, .int .i64 v24, .int .i64 v25, .int .i64 v26, .int .i64 v27] 25) = Wx88 at *
      have ltx97 := mx86.lt
      obtain ⟨c_s0, c_s1, c_s2, c_s3, c_s4, c_s5, c_s6, c_s7⟩ := mx94.c8
      obtain ⟨c_m0, c_m1, c_m2, c_m3, c_m4, c_m5, c_m6, c_m7⟩ := mx86.c8
      go_wp2_with fail
      refine (HA.out.at _).mono ?_
      rintro o Wx98 ⟨rfl, hbx99⟩
      clear c_s0 c_s1 c_s2 c_s3 c_s4 c_s5 c_s6 c_s7
      clear c_m0 c_m1 c_m2 c_m3 c_m4 c_m5 c_m6 c_m7
      have mx100 := mx92.keep hbx99
      have mx101 := mx93.keep hbx99
      have mx102 := mx94.keep hbx99
      have mx103 := mx86.keep hbx99
      have Bx104 := Bx95.trans (hbx99.mono Bx95.size)
      have szx105 := hbx99.size
      clear mx92 mx93 mx94 mx86 Bx95 hbx99
      obtain ⟨c_s0, c_s1, c_s2, c_s3, c_s4, c_s5, c_s6, c_s7⟩ := mx102.c8
      obtain ⟨f_s0, f_s1, f_s2, f_s3, f_s4, f_s5, f_s6, f_s7⟩ := mx102.f8
      go_upto_region 7 with fail
      clear c_s0 c_s1 c_s2 c_s3 c_s4 c_s5 c_s6 c_s7 f_s0 f_s1 f_s2 f_s3 f_s4 f_s5 f_s6 f_s7
      have mx107 := mx102.s8 (.int .i64 x0) (.int .i64 x1) (.int .i64 x2) (.int .i64 x3) (.int .i64 x4) (.int .i64 x5) (.int .i64 x6) (.int .i64 x7)
      have mx108 := mx100.z8 (b := Wx5.heap.size) (by omega) (.int .i64 x0) (.int .i64 x1) (.int .i64 x2) (.int .i64 x3) (.int .i64 x4) (.int .i64 x5) (.int .i64 x6) (.int .i64 x7)
      have mx109 := mx101.z8 (b := Wx5.heap.size) (by omega) (.int .i64 x0) (.int .i64 x1) (.int .i64 x2) (.int .i64 x3) (.int .i64 x4) (.int .i64 x5) (.int .i64 x6) (.int .i64 x7)
      have mx110 := mx103.z8 (b := Wx5.heap.size) (by omega) (.int .i64 x0) (.int .i64 x1) (.int .i64 x2) (.int .i64 x3) (.int .i64 x4) (.int .i64 x5) (.int .i64 x6) (.int .i64 x7)
      have Bx111 := below_s8 (b := Wx5.heap.size) Bx104 (by omega) (.int .i64 x0) (.int .i64 x1) (.int .i64 x2) (.int .i64 x3) (.int .i64 x4) (.int .i64 x5) (.int .i64 x6) (.int .i64 x7)
      have ltx112 := mx107.lt
      generalize ((((((((Wx98.setCell ⟨Wx5.heap.size, 0, none⟩ (.int .i64 x0)).setCell ⟨Wx5.heap.size, 1, none⟩ (.int .i64 x1)).setCell ⟨Wx5.heap.size, 2, none⟩ (.int .i64 x2)).setCell ⟨Wx5.heap.size, 3, none⟩ (.int .i64 x3)).setCell ⟨Wx5.heap.size, 4, none⟩ (.int .i64 x4)).setCell ⟨Wx5.heap.size, 5, none⟩ (.int .i64 x5)).setCell ⟨Wx5.heap.size, 6, none⟩ (.int .i64 x6)).setCell ⟨Wx5.heap.size, 7, none⟩ (.int .i64 x7)) = Wx106 at *
      clear mx102 mx100 mx101 mx103 Bx104
      rcases HC.out with ⟨q2, eq, fq, rfl⟩ | ⟨eq, rfl, rfl, rfl, rfl, rfl, rfl, rfl, rfl, rfl⟩
      rotate_left
      · have hz := HE2.out
        rw [eq] at hz
        obtain ⟨rfl, rfl, rfl, rfl, rfl, rfl, rfl, rfl, rfl⟩ := resL_none HR.out (show o = none from hz.symm)
        clear hz eq HC HE2
        obtain ⟨c_r0, c_r1, c_r2, c_r3, c_r4, c_r5, c_r6, c_r7⟩ := mx108.c8
        obtain ⟨f_r0, f_r1, f_r2, f_r3, f_r4, f_r5, f_r6, f_r7⟩ := mx108.f8
        go_wp2_with fail
        have hRx113 := mx108.s8 (.int .i64 0) (.int .i64 0) (.int .i64 0) (.int .i64 0) (.int .i64 0) (.int .i64 0) (.int .i64 0) (.int .i64 0)
        obtain ⟨s0, s1, s2, s3, s4, s5, s6, s7⟩ := hRx113.c8
        exact bodyPost_ret (v := .tuple #[.agg #[.int .i64 0, .int .i64 0, .int .i64 0, .int .i64 0, .int .i64 0, .int .i64 0, .int .i64 0, .int .i64 0], .int .i64 2]) (by simp [results, Try.results20, go_sem, s0, s1, s2, s3, s4, s5, s6, s7]) rfl ⟨rfl, below_s8 Bx111 (by omega) _ _ _ _ _ _ _ _⟩
      · have hz := HE2.out
        rw [eq] at hz
        have HS2 : Hid (SumAt3 W0 b (Wx5.heap.size) v00 v01 v02 v03 v04 v05 v06 v07 v10 v11 v12 v13 v14 v15 v16 v17 v20 v21 v22 v23 v24 v25 v26 v27 [lq0, lq1, lq2] o (.int .i64 3) Wx106) := Lib.hid ⟨3, q2, x0, x1, x2, x3, x4, x5, x6, x7, rfl, by omega, fq, hz, mx108, mx109, mx107, Bx111, hlt, hbl⟩
        clear hz eq fq HC HE2 HA mx108 mx109 mx107 mx110 Bx111
        go_wp2_with fail
        go_roundw
        case rel => exact HS2.out
        case measure => simp [intOf]
    · have hz : o = some q := HE.out.symm
      obtain ⟨rfl, rfl, rfl, rfl, rfl, rfl, rfl, rfl, rfl⟩ := resL_val HR.out hz HI.out
      clear hz HE
      obtain ⟨c_s0, c_s1, c_s2, c_s3, c_s4, c_s5, c_s6, c_s7⟩ := m2.c8
      obtain ⟨c_r0, c_r1, c_r2, c_r3, c_r4, c_r5, c_r6, c_r7⟩ := m0.c8
      obtain ⟨f_r0, f_r1, f_r2, f_r3, f_r4, f_r5, f_r6, f_r7⟩ := m0.f8
      go_wp2_with fail
      have hRx114 := m0.s8 (.int .i64 r0) (.int .i64 r1) (.int .i64 r2) (.int .i64 r3) (.int .i64 r4) (.int .i64 r5) (.int .i64 r6) (.int .i64 r7)
      obtain ⟨s0, s1, s2, s3, s4, s5, s6, s7⟩ := hRx114.c8
      exact bodyPost_ret (v := .tuple #[.agg #[.int .i64 r0, .int .i64 r1, .int .i64 r2, .int .i64 r3, .int .i64 r4, .int .i64 r5, .int .i64 r6, .int .i64 r7], .int .i64 0]) (by simp [results, Try.results20, go_sem, s0, s1, s2, s3, s4, s5, s6, s7]) rfl ⟨rfl, below_s8 B0 (by omega) _ _ _ _ _ _ _ _⟩

end Fr
end Go.Proofs.Ytojkaaglmdfcnaa

namespace Go.Proofs.Ytojkaaglmdfcnaa
open Go.RowKit Go.Shelf
namespace Fr
set_option linter.unusedVariables false
set_option linter.unusedSimpArgs false


theorem zrL : Zr Try.prog 25 #[.int .i64 0, .int .i64 0, .int .i64 0, .int .i64 0, .int .i64 0, .int .i64 0, .int .i64 0, .int .i64 0] := fun w => by simp [Instr.alloc, go_sem]
theorem zrB : Zr Try.prog 29 #[.int .i64 0, .int .i64 0, .int .i64 0, .int .i64 0, .int .i64 0, .int .i64 0, .int .i64 0, .int .i64 0, .int .i64 0, .int .i64 0, .int .i64 0, .int .i64 0] := fun w => by simp [Instr.alloc, go_sem]
theorem BoxL.arrTake {W : World} {b : Nat} {zs : Array Value} (h : BoxL W b zs) (k : Nat) : Sl.Arr W (some ⟨b, 0, none⟩) (zs.toList.take k) := fun _ =>
  ⟨b, 0, rfl, h.lt, fun j u hu => by
    have hk : j < k := by have := (List.getElem?_eq_some_iff.1 hu).1; simp at this; omega
    rw [List.getElem?_take_of_lt hk] at hu
    rw [Nat.zero_add]
    exact (h.cells j u (by simpa using hu)).1⟩
theorem op_val (l m : LQ) (p : PQ) : (l.op (· + ·) m).val p = l.val p + m.val p := by unfold LQ.op LQ.val; simp only; grind
theorem op_gr {D M N : Nat} {l m : LQ} (h : l.Gr D M) (h' : m.Gr D N) : (l.op (· + ·) m).Gr D (M + N) := ⟨h.1.add h'.1, h.2.1.add h'.2.1, h.2.2.1.add h'.2.2.1, h.2.2.2.add h'.2.2.2⟩
theorem LQ.Gr.fits {D M : Nat} {l : LQ} (h : l.Gr D M) (h0 : 0 < D) (h1 : D ≤ 4611686018427387904) (h2 : M ≤ 4611686018427387904) : fit4 l = some l := fit4_some (h.1.fit h0 h1 h2) (h.2.1.fit h0 h1 h2) (h.2.2.1.fit h0 h1 h2) (h.2.2.2.fit h0 h1 h2)
theorem op_comm (l m : LQ) : m.op (· + ·) l = l.op (· + ·) m := by unfold LQ.op; simp only [Rat.add_comm]
theorem op_zero (l : LQ) : zeroQ.op (· + ·) l = l := by
  have e : Rat.divInt 0 1 = 0 := by kernel_rfl
  unfold LQ.op zeroQ
  simp only [e, Rat.zero_add]
theorem sum_two {l m : LQ} (hl : l.Gr 60 1200) (hm : m.Gr 60 1200) : sumO zeroQ [l, m] = some (l.op (· + ·) m) := by
  unfold sumO sumO sumO LQ.add
  rw [op_zero, hl.fits (by decide) (by decide) (by decide)]
  show ((fit4 (l.op (· + ·) m)).bind fun x => some x) = _
  rw [(op_gr hl hm).fits (by decide) (by decide) (by decide)]
  rfl
/-- The range of a small function over a small box. -/
theorem range_facts {l : LQ} {b : BQ} {M : Nat} (hM : M ≤ 2400) (gl : l.Gr 60 M) (gb : b.Gr 60 1200) (ok : b.Ok) : ∃ r0 r1 r2 r3, IsI ⟨l.val (l.corner b false), l.val (l.corner b true)⟩ r0 r1 r2 r3 ∧ l.range b = some ⟨l.val (l.corner b false), l.val (l.corner b true)⟩ ∧ okI r0 r1 r2 r3 = true ∧
    Gr 3600 10000000 (l.val (l.corner b false)) ∧ Gr 3600 10000000 (l.val (l.corner b true)) := by
  have h1 := at_small gl (gr_corner gb l false) (by decide) (by decide) (by decide) (by omega)
  have h2 := at_small gl (gr_corner gb l true) (by decide) (by decide) (by decide) (by omega)
  obtain ⟨r0, r1, hlo⟩ := isF_of _ h1.2.2
  obtain ⟨r2, r3, hhi⟩ := isF_of _ h2.2.2
  have ir : IsI ⟨l.val (l.corner b false), l.val (l.corner b true)⟩ r0 r1 r2 r3 := ⟨hlo, hhi⟩
  exact ⟨r0, r1, r2, r3, ir, range_small gl gb (by decide) (by decide) (by decide) (by omega), okB_le ir (val_in (corner_has ok l true) l).1, (h1.2.1.le (by omega)).as rfl, (h2.2.1.le (by omega)).as rfl⟩

set_option maxRecDepth 100000 in
set_option maxHeartbeats 2000000 in
theorem sums_walk {w : World} {A : Option Addr} {n c : Nat} {l : List Int} (hA : Sl.Arr w A (l.map fun x => .int .u8 x)) (hn : l.length = n) (hl : Bytes l) (hs : n < 9223372036854775808) {B : Option Addr} {m d : Nat} {t : List Int} (hB : Sl.Arr w B (t.map fun x => .int .u8 x)) (hm : t.length = m) (ht : Bytes t) (hr : m < 9223372036854775808) (x0 x1 x2 x3 x4 x5 x6 x7 x8 x9 x10 x11 x12 x13 x14 x15 : Int) (qq0 : 0 ≤ x0 ∧ x0 ≤ 255) (qq1 : 0 ≤ x1 ∧ x1 ≤ 255) (qq2 : 0 ≤ x2 ∧ x2 ≤ 255) (qq3 : 0 ≤ x3 ∧ x3 ≤ 255) (qq4 : 0 ≤ x4 ∧ x4 ≤ 255) (qq5 : 0 ≤ x5 ∧ x5 ≤ 255) (qq6 : 0 ≤ x6 ∧ x6 ≤ 255) (qq7 : 0 ≤ x7 ∧ x7 ≤ 255) (qq8 : 0 ≤ x8 ∧ x8 ≤ 255) (qq9 : 0 ≤ x9 ∧ x9 ≤ 255) (qq10 : 0 ≤ x10 ∧ x10 ≤ 255) (qq11 : 0 ≤ x11 ∧ x11 ≤ 255) (qq12 : 0 ≤ x12 ∧ x12 ≤ 255) (qq13 : 0 ≤ x13 ∧ x13 ≤ 255) (qq14 : 0 ≤ x14 ∧ x14 ≤ 255) (qq15 : 0 ≤ x15 ∧ x15 ≤ 255) (k0 k1 k2 : Nat) (e0 : x12 = (k0 : Int)) (e1 : x13 = (k1 : Int)) (e2 : x14 = (k2 : Int)) : DoesIn w 5 #[.slice A n c, .slice B m d, .agg #[.int .u8 x0, .int .u8 x1, .int .u8 x2, .int .u8 x3, .int .u8 x4, .int .u8 x5, .int .u8 x6, .int .u8 x7, .int .u8 x8, .int .u8 x9, .int .u8 x10, .int .u8 x11, .int .u8 x12, .int .u8 x13, .int .u8 x14, .int .u8 x15]] (.bool true) := by
  obtain ⟨bb, ebb⟩ : ∃ bb : List Int, bb = [x0, x1, x2, x3, x4, x5, x6, x7, x8, x9, x10, x11] := ⟨_, rfl⟩
  have hbb : Bytes bb := by rw [ebb]; intro x hx; simp only [List.mem_cons, List.not_mem_nil, or_false] at hx; rcases hx with rfl | rfl | rfl | rfl | rfl | rfl | rfl | rfl | rfl | rfl | rfl | rfl <;> assumption
  obtain ⟨a0, a1, a2, a3, a4, a5, a6, a7, il⟩ := isL_of (linQ_gr l) (by decide) (by decide) (by decide)
  obtain ⟨v0, v1, v2, v3, v4, v5, v6, v7, im⟩ := isL_of (linQ_gr t) (by decide) (by decide) (by decide)
  obtain ⟨b0, b1, b2, b3, b4, b5, b6, b7, b8, b9, b10, b11, ib⟩ := isBx_of (boxQ_gr bb) (by decide) (by decide) (by decide)
  have TL := Lib.hid (rlinear_ (c := c) hA hn hl hs il)
  have TM := Lib.hid (rlinear_ (c := d) hB hm ht hr im)
  have TBX := Lib.hid (fun (W1 : World) (q : Nat) (h : BoxL W1 q #[.int .u8 x0, .int .u8 x1, .int .u8 x2, .int .u8 x3, .int .u8 x4, .int .u8 x5, .int .u8 x6, .int .u8 x7, .int .u8 x8, .int .u8 x9, .int .u8 x10, .int .u8 x11, .int .u8 x12, .int .u8 x13, .int .u8 x14, .int .u8 x15]) => rbox_ (w := W1) (A := some ⟨q, 0, none⟩) (n := 12) (c := 16) (l := bb) (by rw [ebb]; exact h.arrTake 12) (by rw [ebb]; rfl) hbb (by decide) ib)
  have gl := linQ_gr l
  have gm := linQ_gr t
  have gb := boxQ_gr bb
  have ok := boxQ_ok bb
  generalize linQ l = x at *
  generalize linQ t = y at *
  generalize boxQ bb = b at *
  clear hA hn hl hs hB hm ht hr ebb hbb
  have gs := op_gr gl gm
  have ea : x.add y = some (x.op (· + ·) y) := gs.fits (by decide) (by decide) (by decide)
  have ea2 : y.add x = some (x.op (· + ·) y) := by unfold LQ.add; rw [op_comm]; exact ea
  have e3 := sum_two gl gm
  have ov := op_val x y
  generalize x.op (· + ·) y = s at *
  obtain ⟨s0, s1, s2, s3, s4, s5, s6, s7, is⟩ := isL_of gs (by decide) (by decide) (by decide)
  have TS := Lib.hid (ladded il im (.inl ⟨_, ea, is, rfl⟩))
  have TS2 := Lib.hid (ladded im il (.inl ⟨_, ea2, is, rfl⟩))
  have T3 := Lib.hid (fun (W1 : World) (q : Nat) (h : BoxL W1 q #[.int .i64 a0, .int .i64 a1, .int .i64 a2, .int .i64 a3, .int .i64 a4, .int .i64 a5, .int .i64 a6, .int .i64 a7, .int .i64 v0, .int .i64 v1, .int .i64 v2, .int .i64 v3, .int .i64 v4, .int .i64 v5, .int .i64 v6, .int .i64 v7]) => sum2_ h il im (.inl ⟨_, e3, is, rfl⟩))
  have VS := Lib.hid ((rvalid (i64_f is.k).1 (i64_f is.k).2 (i64_f is.t).1 (i64_f is.t).2 (i64_f is.v).1 (i64_f is.v).2 (i64_f is.a).1 (i64_f is.a).2).eq (congrArg Value.bool (okL_of is)))
  have gp := ptQ_gr gb k0 k1 k2
  obtain ⟨p0, p1, p2, p3, p4, p5, hp⟩ := isP_of gp (by decide) (by decide) (by decide)
  have TP := Lib.hid (point_ ib (short_of gb.1) (short_of gb.2.1) (short_of gb.2.2) k0 k1 k2 (by omega) (by omega) (by omega) hp)
  rw [← e0, ← e1, ← e2] at TP
  generalize ptQ b k0 k1 k2 = p at *
  have hf := at_small gl gp (by decide) (by decide) (by decide) (by decide)
  obtain ⟨f0, f1, iF⟩ := isF_of _ hf.2.2
  have Af := Lib.hid (lat il hp (.inl ⟨_, hf.1, iF, rfl⟩))
  have hg := at_small gm gp (by decide) (by decide) (by decide) (by decide)
  obtain ⟨g0, g1, ig⟩ := isF_of _ hg.2.2
  have Ag := Lib.hid (lat im hp (.inl ⟨_, hg.1, ig, rfl⟩))
  have hh := at_small gs gp (by decide) (by decide) (by decide) (by decide)
  obtain ⟨h0, h1, ih⟩ := isF_of _ hh.2.2
  have Ah := Lib.hid (lat is hp (.inl ⟨_, hh.1, ih, rfl⟩))
  have TU := Lib.hid (fadd iF ig (resF_fit (show IsF (x.val p + y.val p) h0 h1 by rw [← ov]; exact ih)))
  have VF := Lib.hid ((frvalid (i64_f iF).1 (i64_f iF).2).eq (congrArg Value.bool (validB_of iF)))
  have VG := Lib.hid ((frvalid (i64_f ig).1 (i64_f ig).2).eq (congrArg Value.bool (validB_of ig)))
  obtain ⟨u0, u1, u2, u3, ju, eu, ou, pu, qu⟩ := range_facts (M := 1200) (by decide) gl gb ok
  have Ru := Lib.hid (lranged il ib (.inl ⟨_, eu, ju, rfl⟩))
  have Vu := Lib.hid ((rvalidInterval (i64_f ju.lo).1 (i64_f ju.lo).2 (i64_f ju.hi).1 (i64_f ju.hi).2).eq (congrArg Value.bool ou))
  obtain ⟨i0, i1, i2, i3, ji, ei, oi, pi, qi⟩ := range_facts (M := 1200) (by decide) gm gb ok
  have Ri := Lib.hid (lranged im ib (.inl ⟨_, ei, ji, rfl⟩))
  have Vi := Lib.hid ((rvalidInterval (i64_f ji.lo).1 (i64_f ji.lo).2 (i64_f ji.hi).1 (i64_f ji.hi).2).eq (congrArg Value.bool oi))
  obtain ⟨z0, z1, z2, z3, jz, ez, oz, pz, qz⟩ := range_facts (M := 2400) (by decide) gs gb ok
  have Rz := Lib.hid (lranged is ib (.inl ⟨_, ez, jz, rfl⟩))
  have Vz := Lib.hid ((rvalidInterval (i64_f jz.lo).1 (i64_f jz.lo).2 (i64_f jz.hi).1 (i64_f jz.hi).2).eq (congrArg Value.bool oz))
  have ep : IQ.plus ⟨x.val (x.corner b false), x.val (x.corner b true)⟩ ⟨y.val (y.corner b false), y.val (y.corner b true)⟩ = some ⟨x.val (x.corner b false) + y.val (y.corner b false), x.val (x.corner b true) + y.val (y.corner b true)⟩ := by unfold IQ.plus; rw [if_pos ⟨(pu.add pi).fit (by decide) (by decide) (by decide), (qu.add qi).fit (by decide) (by decide) (by decide)⟩]
  obtain ⟨w0, w1, hw0⟩ := isF_of _ ((pu.add pi).fit (by decide) (by decide) (by decide))
  obtain ⟨w2, w3, hw1⟩ := isF_of _ ((qu.add qi).fit (by decide) (by decide) (by decide))
  have jw : IsI ⟨x.val (x.corner b false) + y.val (y.corner b false), x.val (x.corner b true) + y.val (y.corner b true)⟩ w0 w1 w2 w3 := ⟨hw0, hw1⟩
  have TW := Lib.hid (lplus ju ji (.inl ⟨_, ep, jw, rfl⟩))
  have c0 := val_in (corner_has ok s false) x
  have c1 := val_in (corner_has ok s false) y
  have c2 := val_in (corner_has ok s true) x
  have c3 := val_in (corner_has ok s true) y
  have c4 := val_in (corner_has ok s true) s
  have o1 := ov (s.corner b false)
  have o2 := ov (s.corner b true)
  have lw : x.val (x.corner b false) + y.val (y.corner b false) ≤ x.val (x.corner b true) + y.val (y.corner b true) := by grind
  have Vw := Lib.hid ((rvalidInterval (i64_f jw.lo).1 (i64_f jw.lo).2 (i64_f jw.hi).1 (i64_f jw.hi).2).eq (congrArg Value.bool (okB_le jw lw)))
  have Ww := Lib.hid ((within jz jw).eq (congrArg Value.bool ((inB_iff _ _ c4.1).2 ⟨by simp only; grind, by simp only; grind⟩)))
  have EX := Lib.hid examples_
  clear il im ib gl gm gb ok gs ea ea2 e3 ov is gp hp hf hg hh iF ig ih ju eu ou pu qu ji ei oi pi qi jz ez oz pz qz ep hw0 hw1 jw c0 c1 c2 c3 c4 o1 o2 lw e0 e1 e2 qq0 qq1 qq2 qq3 qq4 qq5 qq6 qq7 qq8 qq9 qq10 qq11 qq12 qq13 qq14 qq15
  intro W0 HB0
  have TL := Lib.hid (TL.out.mono HB0)
  have TM := Lib.hid (TM.out.mono HB0)
  clear HB0
  go_enter Try.func5, Try.ntmps5
  go_upto_region 1 with fail
  have hst := start1 W0 (#[.int .u8 x0, .int .u8 x1, .int .u8 x2, .int .u8 x3, .int .u8 x4, .int .u8 x5, .int .u8 x6, .int .u8 x7, .int .u8 x8, .int .u8 x9, .int .u8 x10, .int .u8 x11, .int .u8 x12, .int .u8 x13, .int .u8 x14, .int .u8 x15]) 68
  generalize (W0.alloc (.cells #[.int .u8 x0, .int .u8 x1, .int .u8 x2, .int .u8 x3, .int .u8 x4, .int .u8 x5, .int .u8 x6, .int .u8 x7, .int .u8 x8, .int .u8 x9, .int .u8 x10, .int .u8 x11, .int .u8 x12, .int .u8 x13, .int .u8 x14, .int .u8 x15] 68)) = Wx3 at *
  obtain ⟨mx1, Bx2⟩ := hst
  have ltx4 := mx1.lt
  go_wp2_with fail
  refine (EX.out.at _).mono ?_
  rintro o Wx5 ⟨rfl, hbx6⟩
  have mx7 := mx1.keep hbx6
  have Bx8 := Bx2.trans (hbx6.mono Bx2.size)
  have szx9 := hbx6.size
  clear mx1 Bx2 hbx6
  go_upto_region 4 with fail
  have TBY := Lib.hid (TBX.out _ _ mx7)
  refine wp_region_free3 (agf := ?frx10) 9 6 7 8 zrL zrL zrB (by kernel_rfl) [] (by kernel_rfl) (fun d _ _ _ _ h => by cases d <;> exact h) (by decide) (by decide) (by decide) (by rfl) (by rfl) (by rfl) (by rfl) (by rfl) (by rfl) ?frx101 ?frx102
  case frx101 =>
    intro W hW
    obtain ⟨c_k0, c_k1, c_k2, c_k3, c_k4, c_k5, c_k6, c_k7, c_k8, c_k9, c_k10, c_k11, c_k12, c_k13, c_k14, c_k15⟩ := mx7.l16 hW
    have BW := Bx8.trans (hW.mono Bx8.size)
    have Gx11 := Lib.hid (fun p => DoesIn.later TL.out BW p)
    have Gx12 := Lib.hid (fun p => DoesIn.later TM.out BW p)
    have Gx13 := Lib.hid (fun p => DoesIn.later TBY.out hW p)
    simp only [List.take_succ_cons, List.take_zero, ghostL, List.contains_cons, List.contains_nil, Nat.reduceAdd, Nat.reduceBEq, Bool.or_false, Bool.or_true, Bool.true_or, Bool.false_or, Bool.false_eq_true, if_false, if_true, ghostO]
    repeat (go_big_quiet_step (((first | (go_at_call 17; first | with_reducible exact later_of ((Gx11.out _)) | with_reducible exact later_of ((Gx12.out _))) | (go_at_call 19; with_reducible exact later_of ((Gx13.out _)))))))
    refine wpQuiet_nil ?_
    rfl
  case frx102 =>
    intro bx16 bx17 bx18 Wx14 hbx15 mx19 mx20 mx21 gx22 gx23 gx24 nex25 nex26 nex27
    simp only [List.drop_succ_cons, List.drop_zero, Act.put, List.setIfInBounds_toArray, List.set_cons_succ, List.set_cons_zero]
    have mx28 := mx7.keep hbx15
    have Bx29 := Bx8.trans (hbx15.mono Bx8.size)
    have szx30 := hbx15.size
    clear mx7 Bx8 hbx15
    have ltx31 := mx19.lt
    have ltx32 := mx20.lt
    have ltx33 := mx21.lt
    clear TBY TBX
    obtain ⟨c_x0, c_x1, c_x2, c_x3, c_x4, c_x5, c_x6, c_x7⟩ := mx19.c8
    obtain ⟨f_x0, f_x1, f_x2, f_x3, f_x4, f_x5, f_x6, f_x7⟩ := mx19.f8
    obtain ⟨c_y0, c_y1, c_y2, c_y3, c_y4, c_y5, c_y6, c_y7⟩ := mx20.c8
    obtain ⟨f_y0, f_y1, f_y2, f_y3, f_y4, f_y5, f_y6, f_y7⟩ := mx20.f8
    obtain ⟨c_d0, c_d1, c_d2, c_d3, c_d4, c_d5, c_d6, c_d7, c_d8, c_d9, c_d10, c_d11⟩ := mx21.c12
    obtain ⟨f_d0, f_d1, f_d2, f_d3, f_d4, f_d5, f_d6, f_d7, f_d8, f_d9, f_d10, f_d11⟩ := mx21.f12
    go_upto_region 5 with fail
    clear c_x0 c_x1 c_x2 c_x3 c_x4 c_x5 c_x6 c_x7 f_x0 f_x1 f_x2 f_x3 f_x4 f_x5 f_x6 f_x7
    clear c_y0 c_y1 c_y2 c_y3 c_y4 c_y5 c_y6 c_y7 f_y0 f_y1 f_y2 f_y3 f_y4 f_y5 f_y6 f_y7
    clear c_d0 c_d1 c_d2 c_d3 c_d4 c_d5 c_d6 c_d7 c_d8 c_d9 c_d10 c_d11 f_d0 f_d1 f_d2 f_d3 f_d4 f_d5 f_d6 f_d7 f_d8 f_d9 f_d10 f_d11
    have mx35 := mx19.s8 (.int .i64 a0) (.int .i64 a1) (.int .i64 a2) (.int .i64 a3) (.int .i64 a4) (.int .i64 a5) (.int .i64 a6) (.int .i64 a7)
    have mx36 := mx28.z8 (b := bx16) (by omega) (.int .i64 a0) (.int .i64 a1) (.int .i64 a2) (.int .i64 a3) (.int .i64 a4) (.int .i64 a5) (.int .i64 a6) (.int .i64 a7)
    have mx37 := mx20.z8 (b := bx16) (by omega) (.int .i64 a0) (.int .i64 a1) (.int .i64 a2) (.int .i64 a3) (.int .i64 a4) (.int .i64 a5) (.int .i64 a6) (.int .i64 a7)
    have mx38 := mx21.z8 (b := bx16) (by omega) (.int .i64 a0) (.int .i64 a1) (.int .i64 a2) (.int .i64 a3) (.int .i64 a4) (.int .i64 a5) (.int .i64 a6) (.int .i64 a7)
    have Bx39 := below_s8 (b := bx16) Bx29 (by omega) (.int .i64 a0) (.int .i64 a1) (.int .i64 a2) (.int .i64 a3) (.int .i64 a4) (.int .i64 a5) (.int .i64 a6) (.int .i64 a7)
    have ltx40 := mx35.lt
    generalize ((((((((Wx14.setCell ⟨bx16, 0, none⟩ (.int .i64 a0)).setCell ⟨bx16, 1, none⟩ (.int .i64 a1)).setCell ⟨bx16, 2, none⟩ (.int .i64 a2)).setCell ⟨bx16, 3, none⟩ (.int .i64 a3)).setCell ⟨bx16, 4, none⟩ (.int .i64 a4)).setCell ⟨bx16, 5, none⟩ (.int .i64 a5)).setCell ⟨bx16, 6, none⟩ (.int .i64 a6)).setCell ⟨bx16, 7, none⟩ (.int .i64 a7)) = Wx34 at *
    clear mx19 mx28 mx20 mx21 Bx29
    have mx42 := mx37.s8 (.int .i64 v0) (.int .i64 v1) (.int .i64 v2) (.int .i64 v3) (.int .i64 v4) (.int .i64 v5) (.int .i64 v6) (.int .i64 v7)
    have mx43 := mx36.z8 (b := bx17) (by omega) (.int .i64 v0) (.int .i64 v1) (.int .i64 v2) (.int .i64 v3) (.int .i64 v4) (.int .i64 v5) (.int .i64 v6) (.int .i64 v7)
    have mx44 := mx35.z8 (b := bx17) (by omega) (.int .i64 v0) (.int .i64 v1) (.int .i64 v2) (.int .i64 v3) (.int .i64 v4) (.int .i64 v5) (.int .i64 v6) (.int .i64 v7)
    have mx45 := mx38.z8 (b := bx17) (by omega) (.int .i64 v0) (.int .i64 v1) (.int .i64 v2) (.int .i64 v3) (.int .i64 v4) (.int .i64 v5) (.int .i64 v6) (.int .i64 v7)
    have Bx46 := below_s8 (b := bx17) Bx39 (by omega) (.int .i64 v0) (.int .i64 v1) (.int .i64 v2) (.int .i64 v3) (.int .i64 v4) (.int .i64 v5) (.int .i64 v6) (.int .i64 v7)
    have ltx47 := mx42.lt
    generalize ((((((((Wx34.setCell ⟨bx17, 0, none⟩ (.int .i64 v0)).setCell ⟨bx17, 1, none⟩ (.int .i64 v1)).setCell ⟨bx17, 2, none⟩ (.int .i64 v2)).setCell ⟨bx17, 3, none⟩ (.int .i64 v3)).setCell ⟨bx17, 4, none⟩ (.int .i64 v4)).setCell ⟨bx17, 5, none⟩ (.int .i64 v5)).setCell ⟨bx17, 6, none⟩ (.int .i64 v6)).setCell ⟨bx17, 7, none⟩ (.int .i64 v7)) = Wx41 at *
    clear mx37 mx36 mx35 mx38 Bx39
    have mx49 := mx45.s12 (.int .i64 b0) (.int .i64 b1) (.int .i64 b2) (.int .i64 b3) (.int .i64 b4) (.int .i64 b5) (.int .i64 b6) (.int .i64 b7) (.int .i64 b8) (.int .i64 b9) (.int .i64 b10) (.int .i64 b11)
    have mx50 := mx43.z12 (b := bx18) (by omega) (.int .i64 b0) (.int .i64 b1) (.int .i64 b2) (.int .i64 b3) (.int .i64 b4) (.int .i64 b5) (.int .i64 b6) (.int .i64 b7) (.int .i64 b8) (.int .i64 b9) (.int .i64 b10) (.int .i64 b11)
    have mx51 := mx44.z12 (b := bx18) (by omega) (.int .i64 b0) (.int .i64 b1) (.int .i64 b2) (.int .i64 b3) (.int .i64 b4) (.int .i64 b5) (.int .i64 b6) (.int .i64 b7) (.int .i64 b8) (.int .i64 b9) (.int .i64 b10) (.int .i64 b11)
    have mx52 := mx42.z12 (b := bx18) (by omega) (.int .i64 b0) (.int .i64 b1) (.int .i64 b2) (.int .i64 b3) (.int .i64 b4) (.int .i64 b5) (.int .i64 b6) (.int .i64 b7) (.int .i64 b8) (.int .i64 b9) (.int .i64 b10) (.int .i64 b11)
    have Bx53 := below_s12 (b := bx18) Bx46 (by omega) (.int .i64 b0) (.int .i64 b1) (.int .i64 b2) (.int .i64 b3) (.int .i64 b4) (.int .i64 b5) (.int .i64 b6) (.int .i64 b7) (.int .i64 b8) (.int .i64 b9) (.int .i64 b10) (.int .i64 b11)
    have ltx54 := mx49.lt
    generalize ((((((((((((Wx41.setCell ⟨bx18, 0, none⟩ (.int .i64 b0)).setCell ⟨bx18, 1, none⟩ (.int .i64 b1)).setCell ⟨bx18, 2, none⟩ (.int .i64 b2)).setCell ⟨bx18, 3, none⟩ (.int .i64 b3)).setCell ⟨bx18, 4, none⟩ (.int .i64 b4)).setCell ⟨bx18, 5, none⟩ (.int .i64 b5)).setCell ⟨bx18, 6, none⟩ (.int .i64 b6)).setCell ⟨bx18, 7, none⟩ (.int .i64 b7)).setCell ⟨bx18, 8, none⟩ (.int .i64 b8)).setCell ⟨bx18, 9, none⟩ (.int .i64 b9)).setCell ⟨bx18, 10, none⟩ (.int .i64 b10)).setCell ⟨bx18, 11, none⟩ (.int .i64 b11)) = Wx48 at *
    clear mx45 mx43 mx44 mx42 Bx46
    obtain ⟨c_x0, c_x1, c_x2, c_x3, c_x4, c_x5, c_x6, c_x7⟩ := mx51.l8 (Below.refl _ _)
    obtain ⟨c_y0, c_y1, c_y2, c_y3, c_y4, c_y5, c_y6, c_y7⟩ := mx52.l8 (Below.refl _ _)
    refine wp_region_plain_tail 3 ?_
    simp only [List.take_succ_cons, List.take_zero, List.drop_succ_cons, List.drop_zero]
    repeat (go_big_quiet_step (((go_at_call 26; with_reducible exact later_of ((TS.out.at _))))))
    refine wpQuiet_nil ?_
    intro _ hw'
    obtain ⟨zx55, hw''⟩ := hw'
    subst hw''
    clear c_x0 c_x1 c_x2 c_x3 c_x4 c_x5 c_x6 c_x7
    clear c_y0 c_y1 c_y2 c_y3 c_y4 c_y5 c_y6 c_y7
    have hbx56 := zx55.below
    have mx57 := mx50.keep hbx56
    have mx58 := mx51.keep hbx56
    have mx59 := mx52.keep hbx56
    have mx60 := mx49.keep hbx56
    have Bx61 := Bx53.trans (hbx56.mono Bx53.size)
    have szx62 := hbx56.size
    clear mx50 mx51 mx52 mx49 Bx53 hbx56
    go_upto_region 6 with fail
    have mx63 := BoxL.new zx55.val #[.int .i64 s0, .int .i64 s1, .int .i64 s2, .int .i64 s3, .int .i64 s4, .int .i64 s5, .int .i64 s6, .int .i64 s7, .int .i64 0] 48
    have hbx64 := (Below.refl zx55.val.heap.size zx55.val).alloc (Nat.le_refl _) (.cells #[.int .i64 s0, .int .i64 s1, .int .i64 s2, .int .i64 s3, .int .i64 s4, .int .i64 s5, .int .i64 s6, .int .i64 s7, .int .i64 0] 48)
    have ltx66 := mx57.lt
    have ltx67 := mx58.lt
    have ltx68 := mx59.lt
    have ltx69 := mx60.lt
    have mx70 := mx57.keep hbx64
    have mx71 := mx58.keep hbx64
    have mx72 := mx59.keep hbx64
    have mx73 := mx60.keep hbx64
    have Bx74 := Bx61.trans (hbx64.mono Bx61.size)
    have szx75 := hbx64.size
    clear mx57 mx58 mx59 mx60 Bx61 hbx64
    generalize zx55.val.alloc (.cells #[.int .i64 s0, .int .i64 s1, .int .i64 s2, .int .i64 s3, .int .i64 s4, .int .i64 s5, .int .i64 s6, .int .i64 s7, .int .i64 0] 48) = Wx65 at *
    have ltx76 := mx63.lt
    obtain ⟨c_d0, c_d1, c_d2, c_d3, c_d4, c_d5, c_d6, c_d7, c_d8, c_d9, c_d10, c_d11⟩ := mx73.l12 (Below.refl _ _)
    obtain ⟨c_k0, c_k1, c_k2, c_k3, c_k4, c_k5, c_k6, c_k7, c_k8, c_k9, c_k10, c_k11, c_k12, c_k13, c_k14, c_k15⟩ := mx70.l16 (Below.refl _ _)
    refine wp_region_plain_tail 9 ?_
    simp only [List.take_succ_cons, List.take_zero, List.drop_succ_cons, List.drop_zero]
    repeat (go_big_quiet_step (((go_at_call 40; with_reducible exact later_of ((TP.out.at _))))))
    refine wpQuiet_nil ?_
    intro _ hw'
    obtain ⟨zx77, hw''⟩ := hw'
    subst hw''
    clear c_d0 c_d1 c_d2 c_d3 c_d4 c_d5 c_d6 c_d7 c_d8 c_d9 c_d10 c_d11
    clear c_k0 c_k1 c_k2 c_k3 c_k4 c_k5 c_k6 c_k7 c_k8 c_k9 c_k10 c_k11 c_k12 c_k13 c_k14 c_k15
    have hbx78 := zx77.below
    have mx79 := mx70.keep hbx78
    have mx80 := mx71.keep hbx78
    have mx81 := mx72.keep hbx78
    have mx82 := mx73.keep hbx78
    have mx83 := mx63.keep hbx78
    have Bx84 := Bx74.trans (hbx78.mono Bx74.size)
    have szx85 := hbx78.size
    clear mx70 mx71 mx72 mx73 mx63 Bx74 hbx78
    go_upto_region 7 with fail
    have mx86 := BoxL.new zx77.val #[.int .i64 p0, .int .i64 p1, .int .i64 p2, .int .i64 p3, .int .i64 p4, .int .i64 p5] 31
    have hbx87 := (Below.refl zx77.val.heap.size zx77.val).alloc (Nat.le_refl _) (.cells #[.int .i64 p0, .int .i64 p1, .int .i64 p2, .int .i64 p3, .int .i64 p4, .int .i64 p5] 31)
    have ltx89 := mx79.lt
    have ltx90 := mx80.lt
    have ltx91 := mx81.lt
    have ltx92 := mx82.lt
    have ltx93 := mx83.lt
    have mx94 := mx79.keep hbx87
    have mx95 := mx80.keep hbx87
    have mx96 := mx81.keep hbx87
    have mx97 := mx82.keep hbx87
    have mx98 := mx83.keep hbx87
    have Bx99 := Bx84.trans (hbx87.mono Bx84.size)
    have szx100 := hbx87.size
    clear mx79 mx80 mx81 mx82 mx83 Bx84 hbx87
    generalize zx77.val.alloc (.cells #[.int .i64 p0, .int .i64 p1, .int .i64 p2, .int .i64 p3, .int .i64 p4, .int .i64 p5] 31) = Wx88 at *
    have ltx101 := mx86.lt
    obtain ⟨c_s0, c_s1, c_s2, c_s3, c_s4, c_s5, c_s6, c_s7, c_s8⟩ := mx98.l9 (Below.refl _ _)
    refine wp_region_plain ?_
    repeat (go_big_quiet_step (((go_at_call 11; with_reducible exact later_of ((VS.out.at _))))))
    refine wpQuiet_nil ?_
    intro _ hw'
    obtain ⟨zx102, hw''⟩ := hw'
    subst hw''
    clear c_s0 c_s1 c_s2 c_s3 c_s4 c_s5 c_s6 c_s7 c_s8
    have hbx103 := zx102.below
    have mx104 := mx94.keep hbx103
    have mx105 := mx95.keep hbx103
    have mx106 := mx96.keep hbx103
    have mx107 := mx97.keep hbx103
    have mx108 := mx98.keep hbx103
    have mx109 := mx86.keep hbx103
    have Bx110 := Bx99.trans (hbx103.mono Bx99.size)
    have szx111 := hbx103.size
    clear mx94 mx95 mx96 mx97 mx98 mx86 Bx99 hbx103
    go_upto_region 9 with fail
    refine wp_region_free3 (agf := ?frx112) 13 10 11 12 zrR zrR zrR (by kernel_rfl) [] (by kernel_rfl) (fun d _ _ _ _ h => by cases d <;> exact h) (by decide) (by decide) (by decide) (by rfl) (by rfl) (by rfl) (by rfl) (by rfl) (by rfl) ?frx1121 ?frx1122
    case frx1121 =>
      intro W hW
      obtain ⟨c_x0, c_x1, c_x2, c_x3, c_x4, c_x5, c_x6, c_x7⟩ := mx105.l8 hW
      obtain ⟨c_y0, c_y1, c_y2, c_y3, c_y4, c_y5, c_y6, c_y7⟩ := mx106.l8 hW
      obtain ⟨c_s0, c_s1, c_s2, c_s3, c_s4, c_s5, c_s6, c_s7, c_s8⟩ := mx108.l9 hW
      obtain ⟨c_p0, c_p1, c_p2, c_p3, c_p4, c_p5⟩ := mx109.l6 hW
      simp only [List.take_succ_cons, List.take_zero, ghostL, List.contains_cons, List.contains_nil, Nat.reduceAdd, Nat.reduceBEq, Bool.or_false, Bool.or_true, Bool.true_or, Bool.false_or, Bool.false_eq_true, if_false, if_true, ghostO]
      repeat (go_big_quiet_step (((go_at_call 22; first | with_reducible exact later_of ((Af.out.at _)) | with_reducible exact later_of ((Ag.out.at _)) | with_reducible exact later_of ((Ah.out.at _))))))
      refine wpQuiet_nil ?_
      rfl
    case frx1122 =>
      intro bx115 bx116 bx117 Wx113 hbx114 mx118 mx119 mx120 gx121 gx122 gx123 nex124 nex125 nex126
      simp only [List.drop_succ_cons, List.drop_zero, Act.put, List.setIfInBounds_toArray, List.set_cons_succ, List.set_cons_zero]
      have mx127 := mx104.keep hbx114
      have mx128 := mx105.keep hbx114
      have mx129 := mx106.keep hbx114
      have mx130 := mx107.keep hbx114
      have mx131 := mx108.keep hbx114
      have mx132 := mx109.keep hbx114
      have Bx133 := Bx110.trans (hbx114.mono Bx110.size)
      have szx134 := hbx114.size
      clear mx104 mx105 mx106 mx107 mx108 mx109 Bx110 hbx114
      have ltx135 := mx118.lt
      have ltx136 := mx119.lt
      have ltx137 := mx120.lt
      obtain ⟨c_f0, c_f1, c_f2⟩ := mx118.c3
      obtain ⟨f_f0, f_f1, f_f2⟩ := mx118.f3
      obtain ⟨c_g0, c_g1, c_g2⟩ := mx119.c3
      obtain ⟨f_g0, f_g1, f_g2⟩ := mx119.f3
      obtain ⟨c_h0, c_h1, c_h2⟩ := mx120.c3
      obtain ⟨f_h0, f_h1, f_h2⟩ := mx120.f3
      go_upto_region 10 with fail
      clear c_f0 c_f1 c_f2 f_f0 f_f1 f_f2
      clear c_g0 c_g1 c_g2 f_g0 f_g1 f_g2
      clear c_h0 c_h1 c_h2 f_h0 f_h1 f_h2
      have mx139 := mx118.s3 (.int .i64 f0) (.int .i64 f1) (.int .i64 0)
      have mx140 := mx127.z3 (b := bx115) (by omega) (.int .i64 f0) (.int .i64 f1) (.int .i64 0)
      have mx141 := mx128.z3 (b := bx115) (by omega) (.int .i64 f0) (.int .i64 f1) (.int .i64 0)
      have mx142 := mx129.z3 (b := bx115) (by omega) (.int .i64 f0) (.int .i64 f1) (.int .i64 0)
      have mx143 := mx130.z3 (b := bx115) (by omega) (.int .i64 f0) (.int .i64 f1) (.int .i64 0)
      have mx144 := mx131.z3 (b := bx115) (by omega) (.int .i64 f0) (.int .i64 f1) (.int .i64 0)
      have mx145 := mx132.z3 (b := bx115) (by omega) (.int .i64 f0) (.int .i64 f1) (.int .i64 0)
      have mx146 := mx119.z3 (b := bx115) (by omega) (.int .i64 f0) (.int .i64 f1) (.int .i64 0)
      have mx147 := mx120.z3 (b := bx115) (by omega) (.int .i64 f0) (.int .i64 f1) (.int .i64 0)
      have Bx148 := below_s3 (b := bx115) Bx133 (by omega) (.int .i64 f0) (.int .i64 f1) (.int .i64 0)
      have ltx149 := mx139.lt
      generalize (((Wx113.setCell ⟨bx115, 0, none⟩ (.int .i64 f0)).setCell ⟨bx115, 1, none⟩ (.int .i64 f1)).setCell ⟨bx115, 2, none⟩ (.int .i64 0)) = Wx138 at *
      clear mx118 mx127 mx128 mx129 mx130 mx131 mx132 mx119 mx120 Bx133
      have mx151 := mx146.s3 (.int .i64 g0) (.int .i64 g1) (.int .i64 0)
      have mx152 := mx140.z3 (b := bx116) (by omega) (.int .i64 g0) (.int .i64 g1) (.int .i64 0)
      have mx153 := mx141.z3 (b := bx116) (by omega) (.int .i64 g0) (.int .i64 g1) (.int .i64 0)
      have mx154 := mx142.z3 (b := bx116) (by omega) (.int .i64 g0) (.int .i64 g1) (.int .i64 0)
      have mx155 := mx143.z3 (b := bx116) (by omega) (.int .i64 g0) (.int .i64 g1) (.int .i64 0)
      have mx156 := mx144.z3 (b := bx116) (by omega) (.int .i64 g0) (.int .i64 g1) (.int .i64 0)
      have mx157 := mx145.z3 (b := bx116) (by omega) (.int .i64 g0) (.int .i64 g1) (.int .i64 0)
      have mx158 := mx139.z3 (b := bx116) (by omega) (.int .i64 g0) (.int .i64 g1) (.int .i64 0)
      have mx159 := mx147.z3 (b := bx116) (by omega) (.int .i64 g0) (.int .i64 g1) (.int .i64 0)
      have Bx160 := below_s3 (b := bx116) Bx148 (by omega) (.int .i64 g0) (.int .i64 g1) (.int .i64 0)
      have ltx161 := mx151.lt
      generalize (((Wx138.setCell ⟨bx116, 0, none⟩ (.int .i64 g0)).setCell ⟨bx116, 1, none⟩ (.int .i64 g1)).setCell ⟨bx116, 2, none⟩ (.int .i64 0)) = Wx150 at *
      clear mx146 mx140 mx141 mx142 mx143 mx144 mx145 mx139 mx147 Bx148
      have mx163 := mx159.s3 (.int .i64 h0) (.int .i64 h1) (.int .i64 0)
      have mx164 := mx152.z3 (b := bx117) (by omega) (.int .i64 h0) (.int .i64 h1) (.int .i64 0)
      have mx165 := mx153.z3 (b := bx117) (by omega) (.int .i64 h0) (.int .i64 h1) (.int .i64 0)
      have mx166 := mx154.z3 (b := bx117) (by omega) (.int .i64 h0) (.int .i64 h1) (.int .i64 0)
      have mx167 := mx155.z3 (b := bx117) (by omega) (.int .i64 h0) (.int .i64 h1) (.int .i64 0)
      have mx168 := mx156.z3 (b := bx117) (by omega) (.int .i64 h0) (.int .i64 h1) (.int .i64 0)
      have mx169 := mx157.z3 (b := bx117) (by omega) (.int .i64 h0) (.int .i64 h1) (.int .i64 0)
      have mx170 := mx158.z3 (b := bx117) (by omega) (.int .i64 h0) (.int .i64 h1) (.int .i64 0)
      have mx171 := mx151.z3 (b := bx117) (by omega) (.int .i64 h0) (.int .i64 h1) (.int .i64 0)
      have Bx172 := below_s3 (b := bx117) Bx160 (by omega) (.int .i64 h0) (.int .i64 h1) (.int .i64 0)
      have ltx173 := mx163.lt
      generalize (((Wx150.setCell ⟨bx117, 0, none⟩ (.int .i64 h0)).setCell ⟨bx117, 1, none⟩ (.int .i64 h1)).setCell ⟨bx117, 2, none⟩ (.int .i64 0)) = Wx162 at *
      clear mx159 mx152 mx153 mx154 mx155 mx156 mx157 mx158 mx151 Bx160
      obtain ⟨c_f0, c_f1, c_f2⟩ := mx170.l3 (Below.refl _ _)
      obtain ⟨c_g0, c_g1, c_g2⟩ := mx171.l3 (Below.refl _ _)
      refine wp_region_plain ?_
      repeat (go_big_quiet_step (((go_at_call 41; first | with_reducible exact later_of ((VF.out.at _)) | with_reducible exact later_of ((VG.out.at _))))))
      refine wpQuiet_nil ?_
      intro _ hw'
      obtain ⟨zx174, hw''⟩ := hw'
      subst hw''
      clear c_f0 c_f1 c_f2
      clear c_g0 c_g1 c_g2
      have hbx175 := zx174.below
      have mx176 := mx164.keep hbx175
      have mx177 := mx165.keep hbx175
      have mx178 := mx166.keep hbx175
      have mx179 := mx167.keep hbx175
      have mx180 := mx168.keep hbx175
      have mx181 := mx169.keep hbx175
      have mx182 := mx170.keep hbx175
      have mx183 := mx171.keep hbx175
      have mx184 := mx163.keep hbx175
      have Bx185 := Bx172.trans (hbx175.mono Bx172.size)
      have szx186 := hbx175.size
      clear mx164 mx165 mx166 mx167 mx168 mx169 mx170 mx171 mx163 Bx172 hbx175
      go_upto_region 12 with fail
      obtain ⟨c_f0, c_f1, c_f2⟩ := mx182.l3 (Below.refl _ _)
      obtain ⟨c_g0, c_g1, c_g2⟩ := mx183.l3 (Below.refl _ _)
      refine wp_region_plain_tail 8 ?_
      simp only [List.take_succ_cons, List.take_zero, List.drop_succ_cons, List.drop_zero]
      repeat (go_big_quiet_step (((go_at_call 42; with_reducible exact later_of ((TU.out.at _))))))
      refine wpQuiet_nil ?_
      intro _ hw'
      obtain ⟨zx187, hw''⟩ := hw'
      subst hw''
      clear c_f0 c_f1 c_f2
      clear c_g0 c_g1 c_g2
      have hbx188 := zx187.below
      have mx189 := mx176.keep hbx188
      have mx190 := mx177.keep hbx188
      have mx191 := mx178.keep hbx188
      have mx192 := mx179.keep hbx188
      have mx193 := mx180.keep hbx188
      have mx194 := mx181.keep hbx188
      have mx195 := mx182.keep hbx188
      have mx196 := mx183.keep hbx188
      have mx197 := mx184.keep hbx188
      have Bx198 := Bx185.trans (hbx188.mono Bx185.size)
      have szx199 := hbx188.size
      clear mx176 mx177 mx178 mx179 mx180 mx181 mx182 mx183 mx184 Bx185 hbx188
      go_upto_region 13 with fail
      have mx200 := BoxL.new zx187.val #[.int .i64 h0, .int .i64 h1] 23
      have hbx201 := (Below.refl zx187.val.heap.size zx187.val).alloc (Nat.le_refl _) (.cells #[.int .i64 h0, .int .i64 h1] 23)
      have ltx203 := mx189.lt
      have ltx204 := mx190.lt
      have ltx205 := mx191.lt
      have ltx206 := mx192.lt
      have ltx207 := mx193.lt
      have ltx208 := mx194.lt
      have ltx209 := mx195.lt
      have ltx210 := mx196.lt
      have ltx211 := mx197.lt
      have mx212 := mx189.keep hbx201
      have mx213 := mx190.keep hbx201
      have mx214 := mx191.keep hbx201
      have mx215 := mx192.keep hbx201
      have mx216 := mx193.keep hbx201
      have mx217 := mx194.keep hbx201
      have mx218 := mx195.keep hbx201
      have mx219 := mx196.keep hbx201
      have mx220 := mx197.keep hbx201
      have Bx221 := Bx198.trans (hbx201.mono Bx198.size)
      have szx222 := hbx201.size
      clear mx189 mx190 mx191 mx192 mx193 mx194 mx195 mx196 mx197 Bx198 hbx201
      generalize zx187.val.alloc (.cells #[.int .i64 h0, .int .i64 h1] 23) = Wx202 at *
      have ltx223 := mx200.lt
      obtain ⟨c_h0, c_h1, c_h2⟩ := mx220.l3 (Below.refl _ _)
      obtain ⟨c_su0, c_su1⟩ := mx200.l2 (Below.refl _ _)
      refine wp_region_plain ?_
      repeat (go_big_quiet_step (fail))
      refine wpQuiet_nil ?_
      intro _ hw'
      obtain ⟨zx224, hw''⟩ := hw'
      subst hw''
      clear c_h0 c_h1 c_h2
      clear c_su0 c_su1
      have hbx225 := zx224.below
      have mx226 := mx212.keep hbx225
      have mx227 := mx213.keep hbx225
      have mx228 := mx214.keep hbx225
      have mx229 := mx215.keep hbx225
      have mx230 := mx216.keep hbx225
      have mx231 := mx217.keep hbx225
      have mx232 := mx218.keep hbx225
      have mx233 := mx219.keep hbx225
      have mx234 := mx220.keep hbx225
      have mx235 := mx200.keep hbx225
      have Bx236 := Bx221.trans (hbx225.mono Bx221.size)
      have szx237 := hbx225.size
      clear mx212 mx213 mx214 mx215 mx216 mx217 mx218 mx219 mx220 mx200 Bx221 hbx225
      go_upto_region 15 with fail
      refine wp_region_free3 (agf := ?frx238) 13 10 11 12 zrG zrG zrG (by kernel_rfl) [] (by kernel_rfl) (fun d _ _ _ _ h => by cases d <;> exact h) (by decide) (by decide) (by decide) (by rfl) (by rfl) (by rfl) (by rfl) (by rfl) (by rfl) ?frx2381 ?frx2382
      case frx2381 =>
        intro W hW
        obtain ⟨c_x0, c_x1, c_x2, c_x3, c_x4, c_x5, c_x6, c_x7⟩ := mx227.l8 hW
        obtain ⟨c_y0, c_y1, c_y2, c_y3, c_y4, c_y5, c_y6, c_y7⟩ := mx228.l8 hW
        obtain ⟨c_s0, c_s1, c_s2, c_s3, c_s4, c_s5, c_s6, c_s7, c_s8⟩ := mx230.l9 hW
        obtain ⟨c_d0, c_d1, c_d2, c_d3, c_d4, c_d5, c_d6, c_d7, c_d8, c_d9, c_d10, c_d11⟩ := mx229.l12 hW
        simp only [List.take_succ_cons, List.take_zero, ghostL, List.contains_cons, List.contains_nil, Nat.reduceAdd, Nat.reduceBEq, Bool.or_false, Bool.or_true, Bool.true_or, Bool.false_or, Bool.false_eq_true, if_false, if_true, ghostO]
        repeat (go_big_quiet_step (((go_at_call 24; first | with_reducible exact later_of ((Ru.out.at _)) | with_reducible exact later_of ((Ri.out.at _)) | with_reducible exact later_of ((Rz.out.at _))))))
        refine wpQuiet_nil ?_
        rfl
      case frx2382 =>
        intro bx241 bx242 bx243 Wx239 hbx240 mx244 mx245 mx246 gx247 gx248 gx249 nex250 nex251 nex252
        simp only [List.drop_succ_cons, List.drop_zero, Act.put, List.setIfInBounds_toArray, List.set_cons_succ, List.set_cons_zero]
        have mx253 := mx226.keep hbx240
        have mx254 := mx227.keep hbx240
        have mx255 := mx228.keep hbx240
        have mx256 := mx229.keep hbx240
        have mx257 := mx230.keep hbx240
        have mx258 := mx231.keep hbx240
        have mx259 := mx232.keep hbx240
        have mx260 := mx233.keep hbx240
        have mx261 := mx234.keep hbx240
        have mx262 := mx235.keep hbx240
        have Bx263 := Bx236.trans (hbx240.mono Bx236.size)
        have szx264 := hbx240.size
        clear mx226 mx227 mx228 mx229 mx230 mx231 mx232 mx233 mx234 mx235 Bx236 hbx240
        have ltx265 := mx244.lt
        have ltx266 := mx245.lt
        have ltx267 := mx246.lt
        obtain ⟨c_u0, c_u1, c_u2, c_u3, c_u4⟩ := mx244.c5
        obtain ⟨f_u0, f_u1, f_u2, f_u3, f_u4⟩ := mx244.f5
        obtain ⟨c_i0, c_i1, c_i2, c_i3, c_i4⟩ := mx245.c5
        obtain ⟨f_i0, f_i1, f_i2, f_i3, f_i4⟩ := mx245.f5
        obtain ⟨c_z0, c_z1, c_z2, c_z3, c_z4⟩ := mx246.c5
        obtain ⟨f_z0, f_z1, f_z2, f_z3, f_z4⟩ := mx246.f5
        go_upto_region 16 with fail
        clear c_u0 c_u1 c_u2 c_u3 c_u4 f_u0 f_u1 f_u2 f_u3 f_u4
        clear c_i0 c_i1 c_i2 c_i3 c_i4 f_i0 f_i1 f_i2 f_i3 f_i4
        clear c_z0 c_z1 c_z2 c_z3 c_z4 f_z0 f_z1 f_z2 f_z3 f_z4
        have mx269 := mx244.s5 (.int .i64 u0) (.int .i64 u1) (.int .i64 u2) (.int .i64 u3) (.int .i64 0)
        have mx270 := mx253.z5 (b := bx241) (by omega) (.int .i64 u0) (.int .i64 u1) (.int .i64 u2) (.int .i64 u3) (.int .i64 0)
        have mx271 := mx254.z5 (b := bx241) (by omega) (.int .i64 u0) (.int .i64 u1) (.int .i64 u2) (.int .i64 u3) (.int .i64 0)
        have mx272 := mx255.z5 (b := bx241) (by omega) (.int .i64 u0) (.int .i64 u1) (.int .i64 u2) (.int .i64 u3) (.int .i64 0)
        have mx273 := mx256.z5 (b := bx241) (by omega) (.int .i64 u0) (.int .i64 u1) (.int .i64 u2) (.int .i64 u3) (.int .i64 0)
        have mx274 := mx257.z5 (b := bx241) (by omega) (.int .i64 u0) (.int .i64 u1) (.int .i64 u2) (.int .i64 u3) (.int .i64 0)
        have mx275 := mx258.z5 (b := bx241) (by omega) (.int .i64 u0) (.int .i64 u1) (.int .i64 u2) (.int .i64 u3) (.int .i64 0)
        have mx276 := mx259.z5 (b := bx241) (by omega) (.int .i64 u0) (.int .i64 u1) (.int .i64 u2) (.int .i64 u3) (.int .i64 0)
        have mx277 := mx260.z5 (b := bx241) (by omega) (.int .i64 u0) (.int .i64 u1) (.int .i64 u2) (.int .i64 u3) (.int .i64 0)
        have mx278 := mx261.z5 (b := bx241) (by omega) (.int .i64 u0) (.int .i64 u1) (.int .i64 u2) (.int .i64 u3) (.int .i64 0)
        have mx279 := mx262.z5 (b := bx241) (by omega) (.int .i64 u0) (.int .i64 u1) (.int .i64 u2) (.int .i64 u3) (.int .i64 0)
        have mx280 := mx245.z5 (b := bx241) (by omega) (.int .i64 u0) (.int .i64 u1) (.int .i64 u2) (.int .i64 u3) (.int .i64 0)
        have mx281 := mx246.z5 (b := bx241) (by omega) (.int .i64 u0) (.int .i64 u1) (.int .i64 u2) (.int .i64 u3) (.int .i64 0)
        have Bx282 := below_s5 (b := bx241) Bx263 (by omega) (.int .i64 u0) (.int .i64 u1) (.int .i64 u2) (.int .i64 u3) (.int .i64 0)
        have ltx283 := mx269.lt
        generalize (((((Wx239.setCell ⟨bx241, 0, none⟩ (.int .i64 u0)).setCell ⟨bx241, 1, none⟩ (.int .i64 u1)).setCell ⟨bx241, 2, none⟩ (.int .i64 u2)).setCell ⟨bx241, 3, none⟩ (.int .i64 u3)).setCell ⟨bx241, 4, none⟩ (.int .i64 0)) = Wx268 at *
        clear mx244 mx253 mx254 mx255 mx256 mx257 mx258 mx259 mx260 mx261 mx262 mx245 mx246 Bx263
        have mx285 := mx280.s5 (.int .i64 i0) (.int .i64 i1) (.int .i64 i2) (.int .i64 i3) (.int .i64 0)
        have mx286 := mx270.z5 (b := bx242) (by omega) (.int .i64 i0) (.int .i64 i1) (.int .i64 i2) (.int .i64 i3) (.int .i64 0)
        have mx287 := mx271.z5 (b := bx242) (by omega) (.int .i64 i0) (.int .i64 i1) (.int .i64 i2) (.int .i64 i3) (.int .i64 0)
        have mx288 := mx272.z5 (b := bx242) (by omega) (.int .i64 i0) (.int .i64 i1) (.int .i64 i2) (.int .i64 i3) (.int .i64 0)
        have mx289 := mx273.z5 (b := bx242) (by omega) (.int .i64 i0) (.int .i64 i1) (.int .i64 i2) (.int .i64 i3) (.int .i64 0)
        have mx290 := mx274.z5 (b := bx242) (by omega) (.int .i64 i0) (.int .i64 i1) (.int .i64 i2) (.int .i64 i3) (.int .i64 0)
        have mx291 := mx275.z5 (b := bx242) (by omega) (.int .i64 i0) (.int .i64 i1) (.int .i64 i2) (.int .i64 i3) (.int .i64 0)
        have mx292 := mx276.z5 (b := bx242) (by omega) (.int .i64 i0) (.int .i64 i1) (.int .i64 i2) (.int .i64 i3) (.int .i64 0)
        have mx293 := mx277.z5 (b := bx242) (by omega) (.int .i64 i0) (.int .i64 i1) (.int .i64 i2) (.int .i64 i3) (.int .i64 0)
        have mx294 := mx278.z5 (b := bx242) (by omega) (.int .i64 i0) (.int .i64 i1) (.int .i64 i2) (.int .i64 i3) (.int .i64 0)
        have mx295 := mx279.z5 (b := bx242) (by omega) (.int .i64 i0) (.int .i64 i1) (.int .i64 i2) (.int .i64 i3) (.int .i64 0)
        have mx296 := mx269.z5 (b := bx242) (by omega) (.int .i64 i0) (.int .i64 i1) (.int .i64 i2) (.int .i64 i3) (.int .i64 0)
        have mx297 := mx281.z5 (b := bx242) (by omega) (.int .i64 i0) (.int .i64 i1) (.int .i64 i2) (.int .i64 i3) (.int .i64 0)
        have Bx298 := below_s5 (b := bx242) Bx282 (by omega) (.int .i64 i0) (.int .i64 i1) (.int .i64 i2) (.int .i64 i3) (.int .i64 0)
        have ltx299 := mx285.lt
        generalize (((((Wx268.setCell ⟨bx242, 0, none⟩ (.int .i64 i0)).setCell ⟨bx242, 1, none⟩ (.int .i64 i1)).setCell ⟨bx242, 2, none⟩ (.int .i64 i2)).setCell ⟨bx242, 3, none⟩ (.int .i64 i3)).setCell ⟨bx242, 4, none⟩ (.int .i64 0)) = Wx284 at *
        clear mx280 mx270 mx271 mx272 mx273 mx274 mx275 mx276 mx277 mx278 mx279 mx269 mx281 Bx282
        have mx301 := mx297.s5 (.int .i64 z0) (.int .i64 z1) (.int .i64 z2) (.int .i64 z3) (.int .i64 0)
        have mx302 := mx286.z5 (b := bx243) (by omega) (.int .i64 z0) (.int .i64 z1) (.int .i64 z2) (.int .i64 z3) (.int .i64 0)
        have mx303 := mx287.z5 (b := bx243) (by omega) (.int .i64 z0) (.int .i64 z1) (.int .i64 z2) (.int .i64 z3) (.int .i64 0)
        have mx304 := mx288.z5 (b := bx243) (by omega) (.int .i64 z0) (.int .i64 z1) (.int .i64 z2) (.int .i64 z3) (.int .i64 0)
        have mx305 := mx289.z5 (b := bx243) (by omega) (.int .i64 z0) (.int .i64 z1) (.int .i64 z2) (.int .i64 z3) (.int .i64 0)
        have mx306 := mx290.z5 (b := bx243) (by omega) (.int .i64 z0) (.int .i64 z1) (.int .i64 z2) (.int .i64 z3) (.int .i64 0)
        have mx307 := mx291.z5 (b := bx243) (by omega) (.int .i64 z0) (.int .i64 z1) (.int .i64 z2) (.int .i64 z3) (.int .i64 0)
        have mx308 := mx292.z5 (b := bx243) (by omega) (.int .i64 z0) (.int .i64 z1) (.int .i64 z2) (.int .i64 z3) (.int .i64 0)
        have mx309 := mx293.z5 (b := bx243) (by omega) (.int .i64 z0) (.int .i64 z1) (.int .i64 z2) (.int .i64 z3) (.int .i64 0)
        have mx310 := mx294.z5 (b := bx243) (by omega) (.int .i64 z0) (.int .i64 z1) (.int .i64 z2) (.int .i64 z3) (.int .i64 0)
        have mx311 := mx295.z5 (b := bx243) (by omega) (.int .i64 z0) (.int .i64 z1) (.int .i64 z2) (.int .i64 z3) (.int .i64 0)
        have mx312 := mx296.z5 (b := bx243) (by omega) (.int .i64 z0) (.int .i64 z1) (.int .i64 z2) (.int .i64 z3) (.int .i64 0)
        have mx313 := mx285.z5 (b := bx243) (by omega) (.int .i64 z0) (.int .i64 z1) (.int .i64 z2) (.int .i64 z3) (.int .i64 0)
        have Bx314 := below_s5 (b := bx243) Bx298 (by omega) (.int .i64 z0) (.int .i64 z1) (.int .i64 z2) (.int .i64 z3) (.int .i64 0)
        have ltx315 := mx301.lt
        generalize (((((Wx284.setCell ⟨bx243, 0, none⟩ (.int .i64 z0)).setCell ⟨bx243, 1, none⟩ (.int .i64 z1)).setCell ⟨bx243, 2, none⟩ (.int .i64 z2)).setCell ⟨bx243, 3, none⟩ (.int .i64 z3)).setCell ⟨bx243, 4, none⟩ (.int .i64 0)) = Wx300 at *
        clear mx297 mx286 mx287 mx288 mx289 mx290 mx291 mx292 mx293 mx294 mx295 mx296 mx285 Bx298
        obtain ⟨c_u0, c_u1, c_u2, c_u3, c_u4⟩ := mx312.l5 (Below.refl _ _)
        obtain ⟨c_i0, c_i1, c_i2, c_i3, c_i4⟩ := mx313.l5 (Below.refl _ _)
        obtain ⟨c_z0, c_z1, c_z2, c_z3, c_z4⟩ := mx301.l5 (Below.refl _ _)
        refine wp_region_plain ?_
        repeat (go_big_quiet_step (((go_at_call 15; first | with_reducible exact later_of ((Vu.out.at _)) | with_reducible exact later_of ((Vi.out.at _)) | with_reducible exact later_of ((Vz.out.at _))))))
        refine wpQuiet_nil ?_
        intro _ hw'
        obtain ⟨zx316, hw''⟩ := hw'
        subst hw''
        clear c_u0 c_u1 c_u2 c_u3 c_u4
        clear c_i0 c_i1 c_i2 c_i3 c_i4
        clear c_z0 c_z1 c_z2 c_z3 c_z4
        have hbx317 := zx316.below
        have mx318 := mx302.keep hbx317
        have mx319 := mx303.keep hbx317
        have mx320 := mx304.keep hbx317
        have mx321 := mx305.keep hbx317
        have mx322 := mx306.keep hbx317
        have mx323 := mx307.keep hbx317
        have mx324 := mx308.keep hbx317
        have mx325 := mx309.keep hbx317
        have mx326 := mx310.keep hbx317
        have mx327 := mx311.keep hbx317
        have mx328 := mx312.keep hbx317
        have mx329 := mx313.keep hbx317
        have mx330 := mx301.keep hbx317
        have Bx331 := Bx314.trans (hbx317.mono Bx314.size)
        have szx332 := hbx317.size
        clear mx302 mx303 mx304 mx305 mx306 mx307 mx308 mx309 mx310 mx311 mx312 mx313 mx301 Bx314 hbx317
        go_upto_region 18 with fail
        obtain ⟨c_u0, c_u1, c_u2, c_u3, c_u4⟩ := mx328.l5 (Below.refl _ _)
        obtain ⟨c_i0, c_i1, c_i2, c_i3, c_i4⟩ := mx329.l5 (Below.refl _ _)
        refine wp_region_plain_tail 5 ?_
        simp only [List.take_succ_cons, List.take_zero, List.drop_succ_cons, List.drop_zero]
        repeat (go_big_quiet_step (((go_at_call 30; with_reducible exact later_of ((TW.out.at _))))))
        refine wpQuiet_nil ?_
        intro _ hw'
        obtain ⟨zx333, hw''⟩ := hw'
        subst hw''
        clear c_u0 c_u1 c_u2 c_u3 c_u4
        clear c_i0 c_i1 c_i2 c_i3 c_i4
        have hbx334 := zx333.below
        have mx335 := mx318.keep hbx334
        have mx336 := mx319.keep hbx334
        have mx337 := mx320.keep hbx334
        have mx338 := mx321.keep hbx334
        have mx339 := mx322.keep hbx334
        have mx340 := mx323.keep hbx334
        have mx341 := mx324.keep hbx334
        have mx342 := mx325.keep hbx334
        have mx343 := mx326.keep hbx334
        have mx344 := mx327.keep hbx334
        have mx345 := mx328.keep hbx334
        have mx346 := mx329.keep hbx334
        have mx347 := mx330.keep hbx334
        have Bx348 := Bx331.trans (hbx334.mono Bx331.size)
        have szx349 := hbx334.size
        clear mx318 mx319 mx320 mx321 mx322 mx323 mx324 mx325 mx326 mx327 mx328 mx329 mx330 Bx331 hbx334
        go_upto_region 19 with fail
        have mx350 := BoxL.new zx333.val #[.int .i64 w0, .int .i64 w1, .int .i64 w2, .int .i64 w3, .int .i64 0] 54
        have hbx351 := (Below.refl zx333.val.heap.size zx333.val).alloc (Nat.le_refl _) (.cells #[.int .i64 w0, .int .i64 w1, .int .i64 w2, .int .i64 w3, .int .i64 0] 54)
        have ltx353 := mx335.lt
        have ltx354 := mx336.lt
        have ltx355 := mx337.lt
        have ltx356 := mx338.lt
        have ltx357 := mx339.lt
        have ltx358 := mx340.lt
        have ltx359 := mx341.lt
        have ltx360 := mx342.lt
        have ltx361 := mx343.lt
        have ltx362 := mx344.lt
        have ltx363 := mx345.lt
        have ltx364 := mx346.lt
        have ltx365 := mx347.lt
        have mx366 := mx335.keep hbx351
        have mx367 := mx336.keep hbx351
        have mx368 := mx337.keep hbx351
        have mx369 := mx338.keep hbx351
        have mx370 := mx339.keep hbx351
        have mx371 := mx340.keep hbx351
        have mx372 := mx341.keep hbx351
        have mx373 := mx342.keep hbx351
        have mx374 := mx343.keep hbx351
        have mx375 := mx344.keep hbx351
        have mx376 := mx345.keep hbx351
        have mx377 := mx346.keep hbx351
        have mx378 := mx347.keep hbx351
        have Bx379 := Bx348.trans (hbx351.mono Bx348.size)
        have szx380 := hbx351.size
        clear mx335 mx336 mx337 mx338 mx339 mx340 mx341 mx342 mx343 mx344 mx345 mx346 mx347 Bx348 hbx351
        generalize zx333.val.alloc (.cells #[.int .i64 w0, .int .i64 w1, .int .i64 w2, .int .i64 w3, .int .i64 0] 54) = Wx352 at *
        have ltx381 := mx350.lt
        obtain ⟨c_x0, c_x1, c_x2, c_x3, c_x4, c_x5, c_x6, c_x7⟩ := mx367.c8
        obtain ⟨c_y0, c_y1, c_y2, c_y3, c_y4, c_y5, c_y6, c_y7⟩ := mx368.c8
        go_wp2_with fail
        clear c_x0 c_x1 c_x2 c_x3 c_x4 c_x5 c_x6 c_x7
        clear c_y0 c_y1 c_y2 c_y3 c_y4 c_y5 c_y6 c_y7
        have mx382 := BoxL.new Wx352 #[.int .i64 a0, .int .i64 a1, .int .i64 a2, .int .i64 a3, .int .i64 a4, .int .i64 a5, .int .i64 a6, .int .i64 a7, .int .i64 v0, .int .i64 v1, .int .i64 v2, .int .i64 v3, .int .i64 v4, .int .i64 v5, .int .i64 v6, .int .i64 v7] 25
        have hbx383 := (Below.refl Wx352.heap.size Wx352).alloc (Nat.le_refl _) (.cells #[.int .i64 a0, .int .i64 a1, .int .i64 a2, .int .i64 a3, .int .i64 a4, .int .i64 a5, .int .i64 a6, .int .i64 a7, .int .i64 v0, .int .i64 v1, .int .i64 v2, .int .i64 v3, .int .i64 v4, .int .i64 v5, .int .i64 v6, .int .i64 v7] 25)
        have ltx385 := mx366.lt
        have ltx386 := mx367.lt
        have ltx387 := mx368.lt
        have ltx388 := mx369.lt
        have ltx389 := mx370.lt
        have ltx390 := mx371.lt
        have ltx391 := mx372.lt
        have ltx392 := mx373.lt
        have ltx393 := mx374.lt
        have ltx394 := mx375.lt
        have ltx395 := mx376.lt
        have ltx396 := mx377.lt
        have ltx397 := mx378.lt
        have ltx398 := mx350.lt
        have mx399 := mx366.keep hbx383
        have mx400 := mx367.keep hbx383
        have mx401 := mx368.keep hbx383
        have mx402 := mx369.keep hbx383
        have mx403 := mx370.keep hbx383
        have mx404 := mx371.keep hbx383
        have mx405 := mx372.keep hbx383
        have mx406 := mx373.keep hbx383
        have mx407 := mx374.keep hbx383
        have mx408 := mx375.keep hbx383
        have mx409 := mx376.keep hbx383
        have mx410 := mx377.keep hbx383
        have mx411 := mx378.keep hbx383
        have mx412 := mx350.keep hbx383
        have Bx413 := Bx379.trans (hbx383.mono Bx379.size)
        have szx414 := hbx383.size
        clear mx366 mx367 mx368 mx369 mx370 mx371 mx372 mx373 mx374 mx375 mx376 mx377 mx378 mx350 Bx379 hbx383
        generalize Wx352.alloc (.cells #[.int .i64 a0, .int .i64 a1, .int .i64 a2, .int .i64 a3, .int .i64 a4, .int .i64 a5, .int .i64 a6, .int .i64 a7, .int .i64 v0, .int .i64 v1, .int .i64 v2, .int .i64 v3, .int .i64 v4, .int .i64 v5, .int .i64 v6, .int .i64 v7] 25) = Wx384 at *
        have ltx415 := mx382.lt
        refine ((T3.out _ _ mx382) _ (Below.refl _ _)).mono ?_
        rintro o Wx416 ⟨rfl, hbx417⟩
        have mx418 := mx399.keep hbx417
        have mx419 := mx400.keep hbx417
        have mx420 := mx401.keep hbx417
        have mx421 := mx402.keep hbx417
        have mx422 := mx403.keep hbx417
        have mx423 := mx404.keep hbx417
        have mx424 := mx405.keep hbx417
        have mx425 := mx406.keep hbx417
        have mx426 := mx407.keep hbx417
        have mx427 := mx408.keep hbx417
        have mx428 := mx409.keep hbx417
        have mx429 := mx410.keep hbx417
        have mx430 := mx411.keep hbx417
        have mx431 := mx412.keep hbx417
        have mx432 := mx382.keep hbx417
        have Bx433 := Bx413.trans (hbx417.mono Bx413.size)
        have szx434 := hbx417.size
        clear mx399 mx400 mx401 mx402 mx403 mx404 mx405 mx406 mx407 mx408 mx409 mx410 mx411 mx412 mx382 Bx413 hbx417
        go_upto_region 20 with fail
        have mx435 := BoxL.new Wx416 #[.int .i64 s0, .int .i64 s1, .int .i64 s2, .int .i64 s3, .int .i64 s4, .int .i64 s5, .int .i64 s6, .int .i64 s7] 25
        have hbx436 := (Below.refl Wx416.heap.size Wx416).alloc (Nat.le_refl _) (.cells #[.int .i64 s0, .int .i64 s1, .int .i64 s2, .int .i64 s3, .int .i64 s4, .int .i64 s5, .int .i64 s6, .int .i64 s7] 25)
        have ltx438 := mx418.lt
        have ltx439 := mx419.lt
        have ltx440 := mx420.lt
        have ltx441 := mx421.lt
        have ltx442 := mx422.lt
        have ltx443 := mx423.lt
        have ltx444 := mx424.lt
        have ltx445 := mx425.lt
        have ltx446 := mx426.lt
        have ltx447 := mx427.lt
        have ltx448 := mx428.lt
        have ltx449 := mx429.lt
        have ltx450 := mx430.lt
        have ltx451 := mx431.lt
        have ltx452 := mx432.lt
        have mx453 := mx418.keep hbx436
        have mx454 := mx419.keep hbx436
        have mx455 := mx420.keep hbx436
        have mx456 := mx421.keep hbx436
        have mx457 := mx422.keep hbx436
        have mx458 := mx423.keep hbx436
        have mx459 := mx424.keep hbx436
        have mx460 := mx425.keep hbx436
        have mx461 := mx426.keep hbx436
        have mx462 := mx427.keep hbx436
        have mx463 := mx428.keep hbx436
        have mx464 := mx429.keep hbx436
        have mx465 := mx430.keep hbx436
        have mx466 := mx431.keep hbx436
        have mx467 := mx432.keep hbx436
        have Bx468 := Bx433.trans (hbx436.mono Bx433.size)
        have szx469 := hbx436.size
        clear mx418 mx419 mx420 mx421 mx422 mx423 mx424 mx425 mx426 mx427 mx428 mx429 mx430 mx431 mx432 Bx433 hbx436
        generalize Wx416.alloc (.cells #[.int .i64 s0, .int .i64 s1, .int .i64 s2, .int .i64 s3, .int .i64 s4, .int .i64 s5, .int .i64 s6, .int .i64 s7] 25) = Wx437 at *
        have ltx470 := mx435.lt
        obtain ⟨c_u0, c_u1, c_u2, c_u3, c_u4⟩ := mx463.l5 (Below.refl _ _)
        obtain ⟨c_i0, c_i1, c_i2, c_i3, c_i4⟩ := mx464.l5 (Below.refl _ _)
        obtain ⟨c_z0, c_z1, c_z2, c_z3, c_z4⟩ := mx465.l5 (Below.refl _ _)
        obtain ⟨c_w0, c_w1, c_w2, c_w3, c_w4⟩ := mx466.l5 (Below.refl _ _)
        obtain ⟨c_t30, c_t31, c_t32, c_t33, c_t34, c_t35, c_t36, c_t37⟩ := mx435.l8 (Below.refl _ _)
        obtain ⟨c_s0, c_s1, c_s2, c_s3, c_s4, c_s5, c_s6, c_s7, c_s8⟩ := mx457.l9 (Below.refl _ _)
        obtain ⟨c_x0, c_x1, c_x2, c_x3, c_x4, c_x5, c_x6, c_x7⟩ := mx454.l8 (Below.refl _ _)
        obtain ⟨c_y0, c_y1, c_y2, c_y3, c_y4, c_y5, c_y6, c_y7⟩ := mx455.l8 (Below.refl _ _)
        refine wp_region_later (by kernel_rfl) (by kernel_rfl) ?_
        repeat (go_big_quiet_step (((first | (go_at_call 15; with_reducible exact later_of ((Vw.out.at _))) | (go_at_call 36; with_reducible exact later_of ((Ww.out.at _))) | (go_at_call 26; with_reducible exact later_of ((TS2.out.at _)))))))
        refine wpQuiet_nil ?_
        intro _ hw'
        obtain ⟨zx471, hw''⟩ := hw'
        subst hw''
        clear c_u0 c_u1 c_u2 c_u3 c_u4
        clear c_i0 c_i1 c_i2 c_i3 c_i4
        clear c_z0 c_z1 c_z2 c_z3 c_z4
        clear c_w0 c_w1 c_w2 c_w3 c_w4
        clear c_t30 c_t31 c_t32 c_t33 c_t34 c_t35 c_t36 c_t37
        clear c_s0 c_s1 c_s2 c_s3 c_s4 c_s5 c_s6 c_s7 c_s8
        clear c_x0 c_x1 c_x2 c_x3 c_x4 c_x5 c_x6 c_x7
        clear c_y0 c_y1 c_y2 c_y3 c_y4 c_y5 c_y6 c_y7
        have hbx472 := zx471.below
        have mx473 := mx453.keep hbx472
        have mx474 := mx454.keep hbx472
        have mx475 := mx455.keep hbx472
        have mx476 := mx456.keep hbx472
        have mx477 := mx457.keep hbx472
        have mx478 := mx458.keep hbx472
        have mx479 := mx459.keep hbx472
        have mx480 := mx460.keep hbx472
        have mx481 := mx461.keep hbx472
        have mx482 := mx462.keep hbx472
        have mx483 := mx463.keep hbx472
        have mx484 := mx464.keep hbx472
        have mx485 := mx465.keep hbx472
        have mx486 := mx466.keep hbx472
        have mx487 := mx467.keep hbx472
        have mx488 := mx435.keep hbx472
        have Bx489 := Bx468.trans (hbx472.mono Bx468.size)
        have szx490 := hbx472.size
        clear mx453 mx454 mx455 mx456 mx457 mx458 mx459 mx460 mx461 mx462 mx463 mx464 mx465 mx466 mx467 mx435 Bx468 hbx472
        go_wp2_with fail
        go_ret
        exact ⟨rfl, Bx489⟩

theorem sums_row {w : World} {A : Option Addr} {n c : Nat} {l : List Int} (hA : Sl.Arr w A (l.map fun x => .int .u8 x)) (hn : l.length = n) (hl : Bytes l) (hs : n < 9223372036854775808) {B : Option Addr} {m d : Nat} {t : List Int} (hB : Sl.Arr w B (t.map fun x => .int .u8 x)) (hm : t.length = m) (ht : Bytes t) (hr : m < 9223372036854775808) {x0 x1 x2 x3 x4 x5 x6 x7 x8 x9 x10 x11 x12 x13 x14 x15 : Int} (h0 : 0 ≤ x0 ∧ x0 ≤ 255) (h1 : 0 ≤ x1 ∧ x1 ≤ 255) (h2 : 0 ≤ x2 ∧ x2 ≤ 255) (h3 : 0 ≤ x3 ∧ x3 ≤ 255) (h4 : 0 ≤ x4 ∧ x4 ≤ 255) (h5 : 0 ≤ x5 ∧ x5 ≤ 255) (h6 : 0 ≤ x6 ∧ x6 ≤ 255) (h7 : 0 ≤ x7 ∧ x7 ≤ 255) (h8 : 0 ≤ x8 ∧ x8 ≤ 255) (h9 : 0 ≤ x9 ∧ x9 ≤ 255) (h10 : 0 ≤ x10 ∧ x10 ≤ 255) (h11 : 0 ≤ x11 ∧ x11 ≤ 255) (h12 : 0 ≤ x12 ∧ x12 ≤ 255) (h13 : 0 ≤ x13 ∧ x13 ≤ 255) (h14 : 0 ≤ x14 ∧ x14 ≤ 255) (h15 : 0 ≤ x15 ∧ x15 ≤ 255) : DoesIn w 5 #[.slice A n c, .slice B m d, .agg #[.int .u8 x0, .int .u8 x1, .int .u8 x2, .int .u8 x3, .int .u8 x4, .int .u8 x5, .int .u8 x6, .int .u8 x7, .int .u8 x8, .int .u8 x9, .int .u8 x10, .int .u8 x11, .int .u8 x12, .int .u8 x13, .int .u8 x14, .int .u8 x15]] (.bool true) :=
  sums_walk hA hn hl hs hB hm ht hr x0 x1 x2 x3 x4 x5 x6 x7 x8 x9 x10 x11 x12 x13 x14 x15 h0 h1 h2 h3 h4 h5 h6 h7 h8 h9 h10 h11 h12 h13 h14 h15 x12.toNat x13.toNat x14.toNat (by omega) (by omega) (by omega)

end Fr
end Go.Proofs.Ytojkaaglmdfcnaa
