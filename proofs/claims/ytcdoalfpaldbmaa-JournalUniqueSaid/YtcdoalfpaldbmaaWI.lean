/- The law of unique encodings. -/
import Derived.Test.YtcdoalfpaldbmaaWH
namespace Go.Proofs.Ytcdoalfpaldbmaa
open Go.RowKit Sl Fr Dg
namespace Jn
set_option linter.unusedVariables false
attribute [local go_sem] field_b0 field_b1 field_r0

theorem beq_decide {p q : Prop} [Decidable p] [Decidable q] (h : p ↔ q) : (decide p == decide q) = true := by
  rw [beq_iff_eq]; exact decide_eq_decide.2 h

set_option maxRecDepth 100000 in
set_option maxHeartbeats 12800000 in
theorem unique_law (A A1 A2 : Option Addr) (bs : List Int) (rs1 rs2 : List (List Int)) (c c1 c2 : Nat) (w : World) (hB : Byt w A bs) (hb8 : B8 bs) (hbn : A = none → bs = [] ∧ c = 0) (hbc : bs.length ≤ c) (hbl : bs.length ≤ 9223372036854775807)
    (hA1 : LL w A1 rs1) (hi1 : ∀ r ∈ rs1, ∀ x ∈ r, I64 x) (hlen1 : rs1.length ≤ 9223372036854775807) (hA2 : LL w A2 rs2) (hi2 : ∀ r ∈ rs2, ∀ x ∈ r, I64 x) (hlen2 : rs2.length ≤ 9223372036854775807) :
    Calls Try.prog 8 #[.slice A bs.length c, .slice A1 rs1.length c1, .slice A2 rs2.length c2] w fun e w' => e = .returned (.bool true) ∧ Below w.heap.size w w' := by
  go_enter Try.func8, Try.ntmps8
  go_upto_region 4 with (go_at_call 9; refine (examples_any _).mono ?_; rintro e X ⟨rfl, hbX⟩)
  have hs1 := small_any A1 rs1 c1 X (hA1.keep hbX) hlen1
  have hs2 := small_any A2 rs2 c2 X (hA2.keep hbX) hlen2
  by_cases hbig : 2000 < bs.length
  · go_wp2
    go_ret
    exact ⟨rfl, hbX⟩
  by_cases h1 : smallB rs1 = true
  case neg =>
    have h1' : smallB rs1 = false := by simpa using h1
    rw [h1'] at hs1
    clear hs2
    go_wp2_with (go_at_call 10; refine hs1.mono ?_; rintro e w2 ⟨rfl, rfl⟩)
    go_ret
    exact ⟨rfl, hbX⟩
  rw [h1] at hs1
  by_cases h2 : smallB rs2 = true
  case neg =>
    have h2' : smallB rs2 = false := by simpa using h2
    rw [h2'] at hs2
    go_wp2_with fail
    go_at_call 10
    refine hs1.mono ?_
    rintro e w2 ⟨rfl, rfl⟩
    go_wp2_with fail
    go_at_call 10
    refine hs2.mono ?_
    rintro e w2 ⟨rfl, rfl⟩
    go_wp2_with fail
    go_ret
    exact ⟨rfl, hbX⟩
  rw [h2] at hs2
  have hok1 := Lib.hid (small_ok h1 hi1)
  have hok2 := Lib.hid (small_ok h2 hi2)
  have hjl1 := small_len h1
  have hjl2 := small_len h2
  have hrl1 := (small_iff h1).1
  have hrl2 := (small_iff h2).1
  obtain ⟨rs, rest, hp0⟩ := parses_any bs.length 0 bs (Nat.le_refl _) hb8
  have hp := Lib.hid hp0
  have hlb := congrArg List.length hp0.eq
  rw [List.length_append] at hlb
  obtain ⟨hrsl, hrtl⟩ := parses_len hp0
  have hokr := Lib.hid hp0.ok
  have hwh := whole_any A bs rest rs c X (Arr.keep hB hbX) hbn hb8 (by omega) hbc hp.out
  obtain ⟨lw, hlw⟩ : ∃ lw, lw = (jour 0 rs).length := ⟨_, rfl⟩
  have HLW := Lib.hid hlw
  obtain ⟨lr, hlr⟩ : ∃ lr, lr = rest.length := ⟨_, rfl⟩
  have HLR := Lib.hid hlr
  have HLB : Hid (bs.length = lw + lr) := Lib.hid (by rw [hlw, hlr]; exact hlb)
  have hlw2 : lw ≤ 2000 := by omega
  have hrs2 : rs.length ≤ 2000 := by omega
  clear hlw hlr hlb hp0 h1 h2 hi1 hi2
  go_wp2_with fail
  go_at_call 10
  refine hs1.mono ?_
  rintro e w2 ⟨rfl, rfl⟩
  go_wp2_with fail
  go_at_call 10
  refine hs2.mono ?_
  rintro e w2 ⟨rfl, rfl⟩
  go_upto_region 6 with fail
  go_upto_region 7 with (go_at_call 18; refine hwh.mono ?_; rintro e Y ⟨Aw, cw, rfl, g1, g2, g3, hbY⟩)
  rw [← HLW.out] at g1
  try rw [← HLW.out]
  have HJ := Lib.hid (ArrF.arr g3)
  have HN := Lib.hid g2
  have hrx := readL_any Aw (jour 0 rs) [] rs cw Y HJ.out (jour_B8 _ _) (by have := HLW.out; omega) (by have := HLW.out; omega) (parses_jour 0 hokr.out)
  rw [← HLW.out] at hrx
  have hbwY := hbX.trans (hbY.mono hbX.size)
  have hry := fun (W : World) (hW : Below Y.heap.size Y W) => readL_any A bs rest rs c W (((Arr.keep hB hbX).keep hbY).keep hW) hb8 (by omega) hbc hp.out
  have HRY := Lib.hid hry
  have hxx : errR ([] : List Int) = 0 := rfl
  obtain ⟨x, hx⟩ : ∃ x, errR rest = x := ⟨_, rfl⟩
  have HX := Lib.hid hx
  clear hry g3 g2 hwh hs1 hs2
  go_wp2_with fail
  go_at_call 12
  refine hrx.mono ?_
  rintro e T hg
  obtain ⟨Ax, cx, Bx, dx, rfl, q1, q2, q4, q5, hbT⟩ := readN hg (k := rs.length) (r := 0) rfl rfl hxx
  have Q4 := Lib.hid q4
  clear q4 q5 hg hrx
  go_wp2_with fail
  go_at_call 12
  refine (HRY.out T hbT).mono ?_
  rintro e U hg
  obtain ⟨Ay, cy, By, dy, rfl, r1, r2, r4, r5, hbU⟩ := readN hg rfl HLR.out.symm HX.out
  have R4 := Lib.hid r4
  clear r4 r5 hg
  go_upto_region 8 with fail
  have hst := start2 U #[.slice Ax rs.length cx, .slice Bx 0 dx, .int .i64 0, .int .i64 0, .int .u64 0] #[.slice Ay rs.length cy, .slice By lr dy, .int .i64 x, .int .i64 0, .int .u64 0] 34 34
  generalize (U.alloc (.cells #[.slice Ax rs.length cx, .slice Bx 0 dx, .int .i64 0, .int .i64 0, .int .u64 0] 34)).alloc (.cells #[.slice Ay rs.length cy, .slice By lr dy, .int .i64 x, .int .i64 0, .int .u64 0] 34) = V at *
  obtain ⟨mX, mY, hUV⟩ := hst
  have hTV := hbU.trans (hUV.mono hbU.size)
  have hYV := hbT.trans (hTV.mono hbT.size)
  have hLX := Lib.hid (Q4.out.ll.keep hTV)
  have hLY := Lib.hid (R4.out.ll.keep hUV)
  have MX := Lib.hid mX
  have MY := Lib.hid mY
  clear mX mY hTV hUV hbU hbT Q4 R4 HRY hp
  generalize U.heap.size = Nx at *
  obtain ⟨kx0, kx1, kx2, _⟩ := MX.out.c5
  have hmd := made_any Ax rs cx V hLX.out hokr.out (by have := HLW.out; omega) (by omega)
  go_upto_region 9 with (go_at_call 22; refine hmd.mono ?_; rintro e V1 ⟨Aa, ca, Be, de, rfl, a1, a2, a3, a4, a5, hb1⟩)
  rw [← HLW.out] at a1
  try rw [← HLW.out]
  have HAG := Lib.hid (ArrF.arr a3)
  clear kx0 kx1 kx2 hmd a2 a3 a5
  have hq : ((lw : Int) + (lr : Int) != (bs.length : Int)) = false := by
    have := HLB.out
    rw [bne_eq_false_iff_eq]; omega
  have hsame := same_any Aa Aw (jour 0 rs) (jour 0 rs) ca cw V1 HAG.out (Arr.keep (Arr.keep HJ.out hYV) hb1) (by have := HLW.out; omega) (by have := HLW.out; omega)
  rw [← HLW.out, decide_eq_true rfl] at hsame
  have hrec := fun (W : World) (hW : Below V.heap.size V W) => records_same Ay Ax rs rs cy cx W (hLY.out.keep hW) (hLX.out.keep hW) (by omega) (by omega) (fun y hy => by have := (hokr.out y hy).1; omega) (fun y hy => by have := (hokr.out y hy).1; omega)
  have HREC := Lib.hid hrec
  have hyV := hbwY.trans (hYV.mono hbwY.size)
  have hm1 := fun (W : World) (hW : Below V.heap.size V W) => made_any A1 rs1 c1 W ((hA1.keep hyV).keep hW) hok1.out (by omega) (by omega)
  have hm2 := fun (W : World) (hW : Below V.heap.size V W) => made_any A2 rs2 c2 W ((hA2.keep hyV).keep hW) hok2.out (by omega) (by omega)
  have HM1 := Lib.hid hm1
  have HM2 := Lib.hid hm2
  clear hrec hm1 hm2
  have hle : lr = 0 ∧ x = 0 ∨ lr ≠ 0 ∧ x = 60 := by
    by_cases h0 : lr = 0
    · exact .inl ⟨h0, by rw [← HX.out]; exact errR_zero (by rw [← HLR.out]; exact h0)⟩
    · exact .inr ⟨h0, by rw [← HX.out]; exact errR_pos HLR.out.symm h0⟩
  clear hx hxx
  obtain ⟨kx0, kx1, kx2, _⟩ := (MX.out.keep hb1).c5
  obtain ⟨ky0, ky1, ky2, _⟩ := (MY.out.keep hb1).c5
  have hx0 : ((x == 0) != decide (lr = 0)) = false := by
    rcases hle with ⟨rfl, rfl⟩ | ⟨h, rfl⟩
    · rfl
    · rw [decide_eq_false h]; rfl
  have HX0 := Lib.hid hx0
  have HLE := Lib.hid hle
  clear hle hx0
  go_wp2_with fail
  go_at_call 17
  refine hsame.mono ?_
  rintro e V2 ⟨rfl, hb2⟩
  have v2 : Below V.heap.size V V2 := hb1.trans (hb2.mono hb1.size)
  clear kx0 kx1 kx2 ky0 ky1 ky2 hsame
  obtain ⟨kx0, kx1, kx2, _⟩ := (MX.out.keep v2).c5
  obtain ⟨ky0, ky1, ky2, _⟩ := (MY.out.keep v2).c5
  go_wp2_with fail
  go_at_call 16
  refine (HREC.out V2 v2).mono ?_
  rintro e V3 ⟨he, hb3⟩
  obtain rfl : e = .returned (.bool true) := by simpa using he
  have v3 := v2.trans (hb3.mono v2.size)
  clear kx0 kx1 kx2 ky0 ky1 ky2
  obtain ⟨kx0, kx1, kx2, _⟩ := (MX.out.keep v3).c5
  obtain ⟨ky0, ky1, ky2, _⟩ := (MY.out.keep v3).c5
  rcases HLE.out with ⟨rfl, rfl⟩ | ⟨h0, rfl⟩
  · have hE : (lw : Int) = (bs.length : Int) := by have := HLB.out; omega
    clear hq
    go_wp2_with fail
    clear hE
    go_at_call 22
    refine (HM1.out V3 v3).mono ?_
    rintro e V4 ⟨Ap, cp, Bp, dp, rfl, p1, p2, p3, p4, p5, hb4⟩
    have v4 := v3.trans (hb4.mono v3.size)
    go_wp2_with fail
    go_at_call 22
    refine (HM2.out V4 v4).mono ?_
    rintro e V5 ⟨Aq, cq, Bq, dq, rfl, s1, s2, s3, s4, s5, hb5⟩
    have v5 := v4.trans (hb5.mono v4.size)
    have hsm := same_any Ap Aq (jour 0 rs1) (jour 0 rs2) cp cq V5 (Arr.keep p3.arr hb5) s3.arr (by omega) (by omega)
    clear p2 p3 p5 s2 s3 s5 p4 s4
    go_wp2_with fail
    go_at_call 17
    refine hsm.mono ?_
    rintro e V6 ⟨rfl, hb6⟩
    have v6 := v5.trans (hb6.mono v5.size)
    have hrc := records_same A1 A2 rs1 rs2 c1 c2 V6 ((hA1.keep hyV).keep v6) ((hA2.keep hyV).keep v6) (by omega) (by omega) (fun y hy => by have := (hok1.out y hy).1; omega) (fun y hy => by have := (hok2.out y hy).1; omega)
    have hbd := beq_decide (p := jour 0 rs1 = jour 0 rs2) (q := rs1 = rs2) ⟨fun h => jour_inj hok1.out hok2.out h, fun h => by rw [h]⟩
    have HBD := Lib.hid hbd
    clear hbd hsm
    go_wp2_with fail
    go_at_call 16
    refine hrc.mono ?_
    rintro e V7 ⟨rfl, hb7⟩
    have v7 := v6.trans (hb7.mono v6.size)
    have hbd := HBD.out
    generalize decide (jour 0 rs1 = jour 0 rs2) = u at *
    generalize decide (rs1 = rs2) = v at *
    clear hrc
    go_wp2_with fail
    go_ret
    exact ⟨rfl, hyV.trans (v7.mono hyV.size)⟩
  · have h0' : ((lr : Int) == 0) = false := by rw [beq_eq_false_iff_ne]; omega
    have hE : (lw : Int) + (lr : Int) = (bs.length : Int) := by have := HLB.out; omega
    clear hq
    go_wp2_with fail
    clear hE
    go_at_call 22
    refine (HM1.out V3 v3).mono ?_
    rintro e V4 ⟨Ap, cp, Bp, dp, rfl, p1, p2, p3, p4, p5, hb4⟩
    have v4 := v3.trans (hb4.mono v3.size)
    go_wp2_with fail
    go_at_call 22
    refine (HM2.out V4 v4).mono ?_
    rintro e V5 ⟨Aq, cq, Bq, dq, rfl, s1, s2, s3, s4, s5, hb5⟩
    have v5 := v4.trans (hb5.mono v4.size)
    have hsm := same_any Ap Aq (jour 0 rs1) (jour 0 rs2) cp cq V5 (Arr.keep p3.arr hb5) s3.arr (by omega) (by omega)
    clear p2 p3 p5 s2 s3 s5 p4 s4
    go_wp2_with fail
    go_at_call 17
    refine hsm.mono ?_
    rintro e V6 ⟨rfl, hb6⟩
    have v6 := v5.trans (hb6.mono v5.size)
    have hrc := records_same A1 A2 rs1 rs2 c1 c2 V6 ((hA1.keep hyV).keep v6) ((hA2.keep hyV).keep v6) (by omega) (by omega) (fun y hy => by have := (hok1.out y hy).1; omega) (fun y hy => by have := (hok2.out y hy).1; omega)
    have hbd := beq_decide (p := jour 0 rs1 = jour 0 rs2) (q := rs1 = rs2) ⟨fun h => jour_inj hok1.out hok2.out h, fun h => by rw [h]⟩
    have HBD := Lib.hid hbd
    clear hbd hsm
    go_wp2_with fail
    go_at_call 16
    refine hrc.mono ?_
    rintro e V7 ⟨rfl, hb7⟩
    have v7 := v6.trans (hb7.mono v6.size)
    have hbd := HBD.out
    generalize decide (jour 0 rs1 = jour 0 rs2) = u at *
    generalize decide (rs1 = rs2) = v at *
    clear hrc
    go_wp2_with fail
    go_ret
    exact ⟨rfl, hyV.trans (v7.mono hyV.size)⟩
end Jn
end Go.Proofs.Ytcdoalfpaldbmaa
