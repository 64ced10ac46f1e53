/- The law: as the reference. -/
import Derived.Test.YtjfijhchnchfcaaV5
import Derived.Test.YtjfijhchnchfcaaWB
import Derived.Test.YtjfijhchnchfcaaLB
namespace Go.Proofs.Ytjfijhchnchfcaa
open Go.RowKit Sl Fr
namespace Bt
set_option linter.unusedVariables false
set_option linter.unusedSimpArgs false

theorem dep_of {F : Nat → World × World → World → Prop} {l : List Nat} {w : World} (hd : ∀ j ∈ l, ∃ p, F j p w) (j : Nat) (h : l.contains j = true) : ∃ p, F j p w := hd j (List.contains_iff_mem.1 h)
def sliB (n : Nat) (R : World → Option Addr → Prop) : FSpec := ⟨fun v => ∃ B c, v = .slice B n c, fun _ v wm => ∀ B c, v = .slice B n c → R wm B⟩
theorem splI_len (v n : Int) : (splI v n).length ≤ maxLen := by
  unfold splI maxLen
  by_cases h : 0 ≤ n ∧ n ≤ 62
  · rw [if_pos h, spl_length]; omega
  · rw [if_neg h]; simp
theorem bools_same (A B : Option Addr) (l : List Bool) (c d : Nat) (w : World) (hA : ArrB w A l) (hB : ArrB w B l) (hl : l.length ≤ maxLen) :
    Calls Try.prog 16 #[.slice A l.length c, .slice B l.length d] w fun e w' => e = .returned (.bool true) ∧ Below w.heap.size w w' := by
  have := bools_any A l c B l d w hA hl hB hl
  rwa [show decide (l = l) = true from decide_eq_true rfl] at this
set_option maxRecDepth 100000 in
set_option maxHeartbeats 12800000 in
theorem matches_walk (op v wd : Int) (A0 : Option Addr) (c0 : Nat) (ws : List Int) (A1 : Option Addr) (c1 : Nat) (vs : List Int) (A2 : Option Addr) (c2 : Nat) (num : List Int) (k n : Int) (A3 : Option Addr) (c3 : Nat) (l : List Bool) (w : World)
    (h0 : ArrI w A0 ws) (hl0 : ws.length ≤ maxLen) (h1 : ArrI w A1 vs) (hl1 : vs.length ≤ maxLen) (h2 : ArrI w A2 num) (hl2 : num.length ≤ maxLen) (h3 : ArrB w A3 l) (hl3 : l.length ≤ c3) (hc3 : c3 ≤ maxLen) (hnil3 : A3 = none → c3 = 0 ∧ l = [])
    (hn : -9223372036854775808 ≤ n ∧ n ≤ 9223372036854775807) (hnum : ∀ x ∈ num, -9223372036854775808 ≤ x ∧ x ≤ 9223372036854775807) (hkn : ∀ x ∈ [k, n], -9223372036854775808 ≤ x ∧ x ≤ 9223372036854775807) :
    Calls Try.prog 3 #[.agg #[.int .i64 op, .int .i64 v, .int .i64 wd, .slice A0 ws.length c0, .slice A1 vs.length c1, .slice A2 num.length c2, .int .i64 k, .int .i64 n, .slice A3 l.length c3]] w fun e w' => e = .returned (.bool true) ∧ Below w.heap.size w w' := by
  go_enter Try.func3, Try.ntmps3
  go_upto_region 1 with fail
  have hst := start1 w #[.int .i64 op, .int .i64 v, .int .i64 wd, .slice A0 ws.length c0, .slice A1 vs.length c1, .slice A2 num.length c2, .int .i64 k, .int .i64 n, .slice A3 l.length c3] 26
  generalize w.alloc (.cells #[.int .i64 op, .int .i64 v, .int .i64 wd, .slice A0 ws.length c0, .slice A1 vs.length c1, .slice A2 num.length c2, .int .i64 k, .int .i64 n, .slice A3 l.length c3] 26) = W0 at *
  obtain ⟨m0, B0⟩ := hst
  go_upto_region 4 with (refine (examples_any.at _).mono ?_; rintro e W1 ⟨rfl, hb1⟩)
  have B1 := B0.trans (hb1.mono B0.size)
  have m1 := m0.keep hb1
  clear hb1 B0 m0
  obtain ⟨r0, r1, r2, r3, r4, r5, r6, r7, r8⟩ := m1.c9
  by_cases g0 : 80 < ws.length
  · have e0 : decide ((80 : Int) < (ws.length : Int)) = true := decide_eq_true (by omega)
    go_wp2_with fail
    go_ret
    exact ⟨rfl, B1⟩
  have e0 : decide ((80 : Int) < (ws.length : Int)) = false := decide_eq_false (by omega)
  by_cases g1 : 80 < vs.length
  · have e1 : decide ((80 : Int) < (vs.length : Int)) = true := decide_eq_true (by omega)
    go_wp2_with fail
    go_ret
    exact ⟨rfl, B1⟩
  have e1 : decide ((80 : Int) < (vs.length : Int)) = false := decide_eq_false (by omega)
  by_cases g2 : 80 < num.length
  · have e2 : decide ((80 : Int) < (num.length : Int)) = true := decide_eq_true (by omega)
    go_wp2_with fail
    go_ret
    exact ⟨rfl, B1⟩
  have e2 : decide ((80 : Int) < (num.length : Int)) = false := decide_eq_false (by omega)
  by_cases g3 : 80 < l.length
  · have e3 : decide ((80 : Int) < (l.length : Int)) = true := decide_eq_true (by omega)
    go_wp2_with fail
    go_ret
    exact ⟨rfl, B1⟩
  have e3 : decide ((80 : Int) < (l.length : Int)) = false := decide_eq_false (by omega)
  clear g0 g1 g2 g3
  obtain ⟨q, hq⟩ : ∃ q, q = wid op ws k n := ⟨_, rfl⟩
  obtain ⟨er, her⟩ : ∃ er, er = err q := ⟨_, rfl⟩
  obtain ⟨x0, hx0⟩ : ∃ x, x = apNV op ws vs num := ⟨_, rfl⟩
  obtain ⟨x1, hx1⟩ : ∃ x, x = apNE op ws vs num := ⟨_, rfl⟩
  obtain ⟨y0, hy0⟩ : ∃ x, x = apNV op ws vs [k, n] := ⟨_, rfl⟩
  obtain ⟨y1, hy1⟩ : ∃ x, x = apNE op ws vs [k, n] := ⟨_, rfl⟩
  have C1 := Lib.hid (fun W (hW : Below w.heap.size w W) => width_any op A0 c0 ws k n W (h0.keep hW) hl0 hn)
  have C2 := Lib.hid (fun W (hW : Below w.heap.size w W) => rwidth_any op A0 c0 ws k n W (h0.keep hW) hl0 hn)
  have C3 := Lib.hid (fun W (hW : Below w.heap.size w W) => apply_any op A0 c0 ws A1 c1 vs A2 c2 num W (h0.keep hW) hl0 (h1.keep hW) hl1 (h2.keep hW) hl2 hnum)
  have C4 := Lib.hid (fun W (hW : Below w.heap.size w W) => rapply_any op A0 c0 ws A1 c1 vs A2 c2 num W (h0.keep hW) hl0 (h1.keep hW) (h2.keep hW) hnum)
  have C5 := Lib.hid (fun W (hW : Below w.heap.size w W) A c hA => apply_any op A0 c0 ws A1 c1 vs A c [k, n] W (h0.keep hW) hl0 (h1.keep hW) hl1 hA (by unfold maxLen; simp) hkn)
  have C6 := Lib.hid (fun W (hW : Below w.heap.size w W) A c hA => rapply_any op A0 c0 ws A1 c1 vs A c [k, n] W (h0.keep hW) hl0 (h1.keep hW) hA hkn)
  have C7 := Lib.hid (fun W (hW : Below w.heap.size w W) => join_any A3 l c3 W (h3.keep hW) hnil3 hl3 hc3)
  have C8 := Lib.hid (fun W (hW : Below w.heap.size w W) => rjoin_any A3 l c3 W (h3.keep hW) (Nat.le_trans hl3 hc3))
  rw [← hq, ← her] at C1
  rw [← hq, ← her] at C2
  rw [← hx0, ← hx1] at C3 C4
  rw [← hy0, ← hy1] at C5 C6
  clear hq her hx0 hx1 hy0 hy1 h0 h1 h2 h3 hnum hkn hn
  go_wp2_with fail
  refine (C1.out _ B1).mono ?_
  rintro e W2 ⟨rfl, hb2⟩
  have B2 := B1.trans (hb2.mono B1.size)
  have m2 := m1.keep hb2
  clear r0 r1 r2 r3 r4 r5 r6 r7 r8
  clear hb2 B1 m1
  obtain ⟨r0, r1, r2, r3, r4, r5, r6, r7, r8⟩ := m2.c9
  go_wp2_with fail
  refine (C2.out _ B2).mono ?_
  rintro e W3 ⟨rfl, hb3⟩
  have B3 := B2.trans (hb3.mono B2.size)
  have m3 := m2.keep hb3
  clear r0 r1 r2 r3 r4 r5 r6 r7 r8
  clear hb3 B2 m2
  obtain ⟨r0, r1, r2, r3, r4, r5, r6, r7, r8⟩ := m3.c9
  go_upto_region 8 with fail
  have lt_p := m3.lt
  have n_p := BoxL.new W3 #[.int .i64 q, .int .i64 er] 32
  have ha_p := (Below.refl W3.heap.size W3).alloc (Nat.le_refl _) (.cells #[.int .i64 q, .int .i64 er] 32)
  have m4 := m3.keep ha_p
  have B4 := B3.trans (ha_p.mono B3.size)
  clear ha_p m3 B3 lt_p
  clear r0 r1 r2 r3 r4 r5 r6 r7 r8
  generalize W3.alloc (.cells #[.int .i64 q, .int .i64 er] 32) = W4 at *
  generalize W3.heap.size = bp at *
  obtain ⟨r0, r1, r2, r3, r4, r5, r6, r7, r8⟩ := m4.c9
  go_wp2_with fail
  refine (C3.out _ B4).mono ?_
  rintro e W5 ⟨rfl, hb5⟩
  have B5 := B4.trans (hb5.mono B4.size)
  have m5 := m4.keep hb5
  have p5 := n_p.keep hb5
  clear r0 r1 r2 r3 r4 r5 r6 r7 r8
  clear hb5 B4 m4 n_p
  obtain ⟨r0, r1, r2, r3, r4, r5, r6, r7, r8⟩ := m5.c9
  go_wp2_with fail
  refine (C4.out _ B5).mono ?_
  rintro e W6 ⟨rfl, hb6⟩
  have B6 := B5.trans (hb6.mono B5.size)
  have m6 := m5.keep hb6
  have p6 := p5.keep hb6
  clear r0 r1 r2 r3 r4 r5 r6 r7 r8
  clear hb6 B5 m5 p5
  obtain ⟨r0, r1, r2, r3, r4, r5, r6, r7, r8⟩ := m6.c9
  go_upto_region 10 with fail
  have lt_v := m6.lt
  have n_v := BoxL.new W6 #[.int .i64 x0, .int .i64 x1] 32
  have ha_v := (Below.refl W6.heap.size W6).alloc (Nat.le_refl _) (.cells #[.int .i64 x0, .int .i64 x1] 32)
  have m7 := m6.keep ha_v
  have p7 := p6.keep ha_v
  have B7 := B6.trans (ha_v.mono B6.size)
  clear ha_v m6 B6 lt_v p6
  clear r0 r1 r2 r3 r4 r5 r6 r7 r8
  generalize W6.alloc (.cells #[.int .i64 x0, .int .i64 x1] 32) = W7 at *
  generalize W6.heap.size = bv at *
  obtain ⟨r0, r1, r2, r3, r4, r5, r6, r7, r8⟩ := m7.c9
  go_wp2_with fail
  have hs7 := (Below.refl W7.heap.size W7).alloc (Nat.le_refl _) (.cells #[.int .i64 k, .int .i64 n] 3)
  have as7 := arr2 (BoxL.new W7 #[.int .i64 k, .int .i64 n] 3)
  refine (C5.out _ (B7.trans (hs7.mono B7.size)) _ _ as7).mono ?_
  rintro e W8 ⟨rfl, hb8⟩
  replace hb8 := hs7.trans (hb8.mono hs7.size)
  have B8 := B7.trans (hb8.mono B7.size)
  have m8 := m7.keep hb8
  have p8 := p7.keep hb8
  have v8 := n_v.keep hb8
  clear r0 r1 r2 r3 r4 r5 r6 r7 r8
  clear hb8 B7 m7 p7 n_v hs7 as7
  obtain ⟨r0, r1, r2, r3, r4, r5, r6, r7, r8⟩ := m8.c9
  go_wp2_with fail
  have hs8 := (Below.refl W8.heap.size W8).alloc (Nat.le_refl _) (.cells #[.int .i64 k, .int .i64 n] 3)
  have as8 := arr2 (BoxL.new W8 #[.int .i64 k, .int .i64 n] 3)
  refine (C6.out _ (B8.trans (hs8.mono B8.size)) _ _ as8).mono ?_
  rintro e W9 ⟨rfl, hb9⟩
  replace hb9 := hs8.trans (hb9.mono hs8.size)
  have B9 := B8.trans (hb9.mono B8.size)
  have m9 := m8.keep hb9
  have p9 := p8.keep hb9
  have v9 := v8.keep hb9
  clear r0 r1 r2 r3 r4 r5 r6 r7 r8
  clear hb9 B8 m8 p8 v8 hs8 as8
  have lt_y := m9.lt
  have n_y := BoxL.new W9 #[.int .i64 y0, .int .i64 y1] 32
  have ha_y := (Below.refl W9.heap.size W9).alloc (Nat.le_refl _) (.cells #[.int .i64 y0, .int .i64 y1] 32)
  have m10 := m9.keep ha_y
  have p10 := p9.keep ha_y
  have v10 := v9.keep ha_y
  have B10 := B9.trans (ha_y.mono B9.size)
  obtain ⟨r0, r1, r2, r3, r4, r5, r6, r7, r8⟩ := m10.c9
  obtain ⟨s0, s1⟩ := p10.c2
  obtain ⟨t0, t1⟩ := v10.c2
  obtain ⟨u0, u1⟩ := n_y.c2
  clear m9 p9 v9 B9 ha_y
  go_upto_region 12 with fail
  generalize W9.alloc (.cells #[.int .i64 y0, .int .i64 y1] 32) = W10 at *
  generalize W9.heap.size = bm at *
  clear s0 s1 t0 t1 u0 u1 lt_y
  clear r0 r1 r2 r3 r4 r5 r6 r7 r8
  have za1 : ∀ wz, Below W10.heap.size W10 wz → wz.cell? ⟨w.heap.size, 1, none⟩ = some (.int .i64 v) := fun wz hz => (m10.keep hz).c9.2.1
  have za2 : ∀ wz, Below W10.heap.size W10 wz → wz.cell? ⟨w.heap.size, 2, none⟩ = some (.int .i64 wd) := fun wz hz => (m10.keep hz).c9.2.2.1
  have za8 : ∀ wz, Below W10.heap.size W10 wz → wz.cell? ⟨w.heap.size, 8, none⟩ = some (.slice A3 l.length c3) := fun wz hz => (m10.keep hz).c9.2.2.2.2.2.2.2.2
  have zp0 : ∀ wz, Below W10.heap.size W10 wz → wz.cell? ⟨bp, 0, none⟩ = some (.int .i64 q) := fun wz hz => (p10.keep hz).c2.1
  have zp1 : ∀ wz, Below W10.heap.size W10 wz → wz.cell? ⟨bp, 1, none⟩ = some (.int .i64 er) := fun wz hz => (p10.keep hz).c2.2
  have zv0 : ∀ wz, Below W10.heap.size W10 wz → wz.cell? ⟨bv, 0, none⟩ = some (.int .i64 x0) := fun wz hz => (v10.keep hz).c2.1
  have zv1 : ∀ wz, Below W10.heap.size W10 wz → wz.cell? ⟨bv, 1, none⟩ = some (.int .i64 x1) := fun wz hz => (v10.keep hz).c2.2
  have zy0 : ∀ wz, Below W10.heap.size W10 wz → wz.cell? ⟨bm, 0, none⟩ = some (.int .i64 y0) := fun wz hz => (n_y.keep hz).c2.1
  have zy1 : ∀ wz, Below W10.heap.size W10 wz → wz.cell? ⟨bm, 1, none⟩ = some (.int .i64 y1) := fun wz hz => (n_y.keep hz).c2.2
  have FM := fun (wz : World) (hz : Below W10.heap.size W10 wz) => mask_any wd wz
  have FN := fun (wz : World) (hz : Below W10.heap.size W10 wz) => rmask_any wd wz
  have FS := fun (wz : World) (hz : Below W10.heap.size W10 wz) => split_any v wd wz
  have FR := fun (wz : World) (hz : Below W10.heap.size W10 wz) => rsplit_any v wd wz
  have FB := fun (wz : World) (hz : Below W10.heap.size W10 wz) (Aw : Option Addr) (cw : Nat) (Ax : Option Addr) (cx : Nat) (ha : ArrB wz Aw (splI v wd)) (hx : ArrB wz Ax (splI v wd)) => bools_same Aw Ax (splI v wd) cw cx wz ha hx (splI_len v wd)
  have FJ := fun (wz : World) (hz : Below W10.heap.size W10 wz) => C7.out wz (B10.trans (hz.mono B10.size))
  have FK := fun (wz : World) (hz : Below W10.heap.size W10 wz) => C8.out wz (B10.trans (hz.mono B10.size))
  clear m10 p10 v10 n_y C1 C2 C3 C4 C5 C6 C7 C8
  generalize (joi l : Int) = jl at *
  generalize mask wd = mk at *
  generalize splI v wd = sp at *
  refine wp_region_flow 68 [.det (.int .i64 q), .det (.pointer (some ⟨bp, 0, none⟩)), .det (.int .i64 q), .det (.bool true), .det (.bool true), .det (.int .i64 er), .det (.pointer (some ⟨bp, 1, none⟩)), .det (.int .i64 er), .det (.bool true), .det (.bool true), .det (.bool true), .det (.int .i64 x0), .det (.pointer (some ⟨bv, 0, none⟩)), .det (.int .i64 x0), .det (.bool true), .det (.bool true), .det (.bool true), .det (.int .i64 x1), .det (.pointer (some ⟨bv, 1, none⟩)), .det (.int .i64 x1), .det (.bool true), .det (.bool true), .det (.bool true), .det (.int .i64 y0), .det (.pointer (some ⟨bm, 0, none⟩)), .det (.int .i64 y0), .det (.bool true), .det (.bool true), .det (.bool true), .det (.int .i64 y1), .det (.pointer (some ⟨bm, 1, none⟩)), .det (.int .i64 y1), .det (.bool true), .det (.bool true), .det (.bool true), .det (.pointer (some ⟨w.heap.size, 2, none⟩)), .det (.int .i64 wd), .det (.int .i64 mk), .det (.pointer (some ⟨w.heap.size, 2, none⟩)), .det (.int .i64 wd), .det (.int .i64 mk), .det (.bool true), .det (.bool true), .det (.bool true), .det (.pointer (some ⟨w.heap.size, 1, none⟩)), .det (.int .i64 v), .det (.pointer (some ⟨w.heap.size, 2, none⟩)), .det (.int .i64 wd), sliB sp.length (fun wm A => ArrB wm A sp), .det (.pointer (some ⟨w.heap.size, 1, none⟩)), .det (.int .i64 v), .det (.pointer (some ⟨w.heap.size, 2, none⟩)), .det (.int .i64 wd), sliB sp.length (fun wm A => ArrB wm A sp), .det (.bool true), .det (.bool true), .det (.bool true), .det (.pointer (some ⟨w.heap.size, 8, none⟩)), .det (.slice A3 l.length c3), .det (.int .i64 jl), .det (.pointer (some ⟨w.heap.size, 8, none⟩)), .det (.slice A3 l.length c3), .det (.int .i64 jl), .det (.bool true), .det (.bool true), .det (.bool true), .det (.bool true), .det (.bool true)] (by kernel_rfl) (by kernel_rfl) rfl ?_
  simp only [List.append_eq, List.cons_append, List.nil_append]
  simp only [List.take_succ_cons, List.take_zero, List.drop_succ_cons, List.drop_zero]
  refine flowL_det (fun wz hz hd => stepF_reads (by rfl) ?_) ?_
  · go_simp; try rfl
  simp only [Act.put, List.setIfInBounds_toArray, List.set_cons_zero, List.set_cons_succ]
  refine flowL_det (fun wz hz hd => stepF_reads (by rfl) ?_) ?_
  · go_simp; try rfl
  simp only [Act.put, List.setIfInBounds_toArray, List.set_cons_zero, List.set_cons_succ]
  refine flowL_det (fun wz hz hd => stepF_reads (by rfl) ?_) ?_
  · have q := zp0 wz hz; go_simp; try rfl
  simp only [Act.put, List.setIfInBounds_toArray, List.set_cons_zero, List.set_cons_succ]
  refine flowL_det (fun wz hz hd => stepF_reads (by rfl) ?_) ?_
  · go_simp; try rfl
  simp only [Act.put, List.setIfInBounds_toArray, List.set_cons_zero, List.set_cons_succ]
  refine flowL_det (fun wz hz hd => stepF_reads (by rfl) ?_) ?_
  · go_simp; try rfl
  simp only [Act.put, List.setIfInBounds_toArray, List.set_cons_zero, List.set_cons_succ]
  refine flowL_det (fun wz hz hd => stepF_reads (by rfl) ?_) ?_
  · go_simp; try rfl
  simp only [Act.put, List.setIfInBounds_toArray, List.set_cons_zero, List.set_cons_succ]
  refine flowL_det (fun wz hz hd => stepF_reads (by rfl) ?_) ?_
  · go_simp; try rfl
  simp only [Act.put, List.setIfInBounds_toArray, List.set_cons_zero, List.set_cons_succ]
  refine flowL_det (fun wz hz hd => stepF_reads (by rfl) ?_) ?_
  · have q := zp1 wz hz; go_simp; try rfl
  simp only [Act.put, List.setIfInBounds_toArray, List.set_cons_zero, List.set_cons_succ]
  refine flowL_det (fun wz hz hd => stepF_reads (by rfl) ?_) ?_
  · go_simp; try rfl
  simp only [Act.put, List.setIfInBounds_toArray, List.set_cons_zero, List.set_cons_succ]
  refine flowL_det (fun wz hz hd => stepF_reads (by rfl) ?_) ?_
  · go_simp; try rfl
  simp only [Act.put, List.setIfInBounds_toArray, List.set_cons_zero, List.set_cons_succ]
  refine flowL_det (fun wz hz hd => stepF_reads (by rfl) ?_) ?_
  · go_simp; try rfl
  simp only [Act.put, List.setIfInBounds_toArray, List.set_cons_zero, List.set_cons_succ]
  refine flowL_det (fun wz hz hd => stepF_reads (by rfl) ?_) ?_
  · go_simp; try rfl
  simp only [Act.put, List.setIfInBounds_toArray, List.set_cons_zero, List.set_cons_succ]
  refine flowL_det (fun wz hz hd => stepF_reads (by rfl) ?_) ?_
  · go_simp; try rfl
  simp only [Act.put, List.setIfInBounds_toArray, List.set_cons_zero, List.set_cons_succ]
  refine flowL_det (fun wz hz hd => stepF_reads (by rfl) ?_) ?_
  · have q := zv0 wz hz; go_simp; try rfl
  simp only [Act.put, List.setIfInBounds_toArray, List.set_cons_zero, List.set_cons_succ]
  refine flowL_det (fun wz hz hd => stepF_reads (by rfl) ?_) ?_
  · go_simp; try rfl
  simp only [Act.put, List.setIfInBounds_toArray, List.set_cons_zero, List.set_cons_succ]
  refine flowL_det (fun wz hz hd => stepF_reads (by rfl) ?_) ?_
  · go_simp; try rfl
  simp only [Act.put, List.setIfInBounds_toArray, List.set_cons_zero, List.set_cons_succ]
  refine flowL_det (fun wz hz hd => stepF_reads (by rfl) ?_) ?_
  · go_simp; try rfl
  simp only [Act.put, List.setIfInBounds_toArray, List.set_cons_zero, List.set_cons_succ]
  refine flowL_det (fun wz hz hd => stepF_reads (by rfl) ?_) ?_
  · go_simp; try rfl
  simp only [Act.put, List.setIfInBounds_toArray, List.set_cons_zero, List.set_cons_succ]
  refine flowL_det (fun wz hz hd => stepF_reads (by rfl) ?_) ?_
  · go_simp; try rfl
  simp only [Act.put, List.setIfInBounds_toArray, List.set_cons_zero, List.set_cons_succ]
  refine flowL_det (fun wz hz hd => stepF_reads (by rfl) ?_) ?_
  · have q := zv1 wz hz; go_simp; try rfl
  simp only [Act.put, List.setIfInBounds_toArray, List.set_cons_zero, List.set_cons_succ]
  refine flowL_det (fun wz hz hd => stepF_reads (by rfl) ?_) ?_
  · go_simp; try rfl
  simp only [Act.put, List.setIfInBounds_toArray, List.set_cons_zero, List.set_cons_succ]
  refine flowL_det (fun wz hz hd => stepF_reads (by rfl) ?_) ?_
  · go_simp; try rfl
  simp only [Act.put, List.setIfInBounds_toArray, List.set_cons_zero, List.set_cons_succ]
  refine flowL_det (fun wz hz hd => stepF_reads (by rfl) ?_) ?_
  · go_simp; try rfl
  simp only [Act.put, List.setIfInBounds_toArray, List.set_cons_zero, List.set_cons_succ]
  refine flowL_det (fun wz hz hd => stepF_reads (by rfl) ?_) ?_
  · go_simp; try rfl
  simp only [Act.put, List.setIfInBounds_toArray, List.set_cons_zero, List.set_cons_succ]
  refine flowL_det (fun wz hz hd => stepF_reads (by rfl) ?_) ?_
  · go_simp; try rfl
  simp only [Act.put, List.setIfInBounds_toArray, List.set_cons_zero, List.set_cons_succ]
  refine flowL_det (fun wz hz hd => stepF_reads (by rfl) ?_) ?_
  · have q := zy0 wz hz; go_simp; try rfl
  simp only [Act.put, List.setIfInBounds_toArray, List.set_cons_zero, List.set_cons_succ]
  refine flowL_det (fun wz hz hd => stepF_reads (by rfl) ?_) ?_
  · go_simp; try rfl
  simp only [Act.put, List.setIfInBounds_toArray, List.set_cons_zero, List.set_cons_succ]
  refine flowL_det (fun wz hz hd => stepF_reads (by rfl) ?_) ?_
  · go_simp; try rfl
  simp only [Act.put, List.setIfInBounds_toArray, List.set_cons_zero, List.set_cons_succ]
  refine flowL_det (fun wz hz hd => stepF_reads (by rfl) ?_) ?_
  · go_simp; try rfl
  simp only [Act.put, List.setIfInBounds_toArray, List.set_cons_zero, List.set_cons_succ]
  refine flowL_det (fun wz hz hd => stepF_reads (by rfl) ?_) ?_
  · go_simp; try rfl
  simp only [Act.put, List.setIfInBounds_toArray, List.set_cons_zero, List.set_cons_succ]
  refine flowL_det (fun wz hz hd => stepF_reads (by rfl) ?_) ?_
  · go_simp; try rfl
  simp only [Act.put, List.setIfInBounds_toArray, List.set_cons_zero, List.set_cons_succ]
  refine flowL_det (fun wz hz hd => stepF_reads (by rfl) ?_) ?_
  · have q := zy1 wz hz; go_simp; try rfl
  simp only [Act.put, List.setIfInBounds_toArray, List.set_cons_zero, List.set_cons_succ]
  refine flowL_det (fun wz hz hd => stepF_reads (by rfl) ?_) ?_
  · go_simp; try rfl
  simp only [Act.put, List.setIfInBounds_toArray, List.set_cons_zero, List.set_cons_succ]
  refine flowL_det (fun wz hz hd => stepF_reads (by rfl) ?_) ?_
  · go_simp; try rfl
  simp only [Act.put, List.setIfInBounds_toArray, List.set_cons_zero, List.set_cons_succ]
  refine flowL_det (fun wz hz hd => stepF_reads (by rfl) ?_) ?_
  · go_simp; try rfl
  simp only [Act.put, List.setIfInBounds_toArray, List.set_cons_zero, List.set_cons_succ]
  refine flowL_det (fun wz hz hd => stepF_reads (by rfl) ?_) ?_
  · go_simp; try rfl
  simp only [Act.put, List.setIfInBounds_toArray, List.set_cons_zero, List.set_cons_succ]
  refine flowL_det (fun wz hz hd => stepF_reads (by rfl) ?_) ?_
  · have q := za2 wz hz; go_simp; try rfl
  simp only [Act.put, List.setIfInBounds_toArray, List.set_cons_zero, List.set_cons_succ]
  refine flowL_det (fun wz hz hd => stepF_walk (by rfl) (fun K hK => ?_)) ?_
  · go_wp2_with fail
    go_at_call 14
    refine (FM wz hz).mono ?_
    rintro e w9 ⟨rfl, rfl⟩
    exact hK.out _ _ rfl trivial (Below.refl _ _)
  simp only [Act.put, List.setIfInBounds_toArray, List.set_cons_zero, List.set_cons_succ]
  refine flowL_det (fun wz hz hd => stepF_reads (by rfl) ?_) ?_
  · go_simp; try rfl
  simp only [Act.put, List.setIfInBounds_toArray, List.set_cons_zero, List.set_cons_succ]
  refine flowL_det (fun wz hz hd => stepF_reads (by rfl) ?_) ?_
  · have q := za2 wz hz; go_simp; try rfl
  simp only [Act.put, List.setIfInBounds_toArray, List.set_cons_zero, List.set_cons_succ]
  refine flowL_det (fun wz hz hd => stepF_walk (by rfl) (fun K hK => ?_)) ?_
  · go_wp2_with fail
    go_at_call 15
    refine (FN wz hz).mono ?_
    rintro e w9 ⟨rfl, rfl⟩
    exact hK.out _ _ rfl trivial (Below.refl _ _)
  simp only [Act.put, List.setIfInBounds_toArray, List.set_cons_zero, List.set_cons_succ]
  refine flowL_det (fun wz hz hd => stepF_reads (by rfl) ?_) ?_
  · go_simp; try rfl
  simp only [Act.put, List.setIfInBounds_toArray, List.set_cons_zero, List.set_cons_succ]
  refine flowL_det (fun wz hz hd => stepF_reads (by rfl) ?_) ?_
  · go_simp; try rfl
  simp only [Act.put, List.setIfInBounds_toArray, List.set_cons_zero, List.set_cons_succ]
  refine flowL_det (fun wz hz hd => stepF_reads (by rfl) ?_) ?_
  · go_simp; try rfl
  simp only [Act.put, List.setIfInBounds_toArray, List.set_cons_zero, List.set_cons_succ]
  refine flowL_det (fun wz hz hd => stepF_reads (by rfl) ?_) ?_
  · go_simp; try rfl
  simp only [Act.put, List.setIfInBounds_toArray, List.set_cons_zero, List.set_cons_succ]
  refine flowL_det (fun wz hz hd => stepF_reads (by rfl) ?_) ?_
  · have q := za1 wz hz; go_simp; try rfl
  simp only [Act.put, List.setIfInBounds_toArray, List.set_cons_zero, List.set_cons_succ]
  refine flowL_det (fun wz hz hd => stepF_reads (by rfl) ?_) ?_
  · go_simp; try rfl
  simp only [Act.put, List.setIfInBounds_toArray, List.set_cons_zero, List.set_cons_succ]
  refine flowL_det (fun wz hz hd => stepF_reads (by rfl) ?_) ?_
  · have q := za2 wz hz; go_simp; try rfl
  simp only [Act.put, List.setIfInBounds_toArray, List.set_cons_zero, List.set_cons_succ]
  refine flowL_make (⟨_, none, 0, rfl⟩) (fun wz hz hd => stepF_walk (by rfl) (fun K hK => ?_)) (fun v hv => ?_)
  · go_wp2_with fail
    go_at_call 17
    refine (FS wz hz).mono ?_
    rintro e w9 ⟨A9, c9, rfl, _, _, g9, _, hb⟩
    exact hK.out _ _ ⟨A9, c9, rfl⟩ (fun B c e => by cases e; exact GiveB.arr g9) hb
  obtain ⟨Aw, cw, rfl⟩ := hv
  simp only [Act.put, List.setIfInBounds_toArray, List.set_cons_zero, List.set_cons_succ]
  refine flowL_det (fun wz hz hd => stepF_reads (by rfl) ?_) ?_
  · go_simp; try rfl
  simp only [Act.put, List.setIfInBounds_toArray, List.set_cons_zero, List.set_cons_succ]
  refine flowL_det (fun wz hz hd => stepF_reads (by rfl) ?_) ?_
  · have q := za1 wz hz; go_simp; try rfl
  simp only [Act.put, List.setIfInBounds_toArray, List.set_cons_zero, List.set_cons_succ]
  refine flowL_det (fun wz hz hd => stepF_reads (by rfl) ?_) ?_
  · go_simp; try rfl
  simp only [Act.put, List.setIfInBounds_toArray, List.set_cons_zero, List.set_cons_succ]
  refine flowL_det (fun wz hz hd => stepF_reads (by rfl) ?_) ?_
  · have q := za2 wz hz; go_simp; try rfl
  simp only [Act.put, List.setIfInBounds_toArray, List.set_cons_zero, List.set_cons_succ]
  refine flowL_make (⟨_, none, 0, rfl⟩) (fun wz hz hd => stepF_walk (by rfl) (fun K hK => ?_)) (fun v hv => ?_)
  · go_wp2_with fail
    go_at_call 18
    refine (FR wz hz).mono ?_
    rintro e w9 ⟨A9, c9, rfl, _, _, g9, _, hb⟩
    exact hK.out _ _ ⟨A9, c9, rfl⟩ (fun B c e => by cases e; exact GiveB.arr g9) hb
  obtain ⟨Ax, cx, rfl⟩ := hv
  simp only [Act.put, List.setIfInBounds_toArray, List.set_cons_zero, List.set_cons_succ]
  refine flowL_det (fun wz hz hd => stepF_walk (by rfl) (fun K hK => ?_)) ?_
  · obtain ⟨p, hp⟩ := dep_of hd 48 (by decide +kernel)
    obtain ⟨p2, hq⟩ := dep_of hd 53 (by decide +kernel)
    go_wp2_with fail
    go_at_call 16
    refine (FB wz hz Aw cw Ax cx ((hp.post Aw cw rfl).keep hp.since) ((hq.post Ax cx rfl).keep hq.since)).mono ?_
    rintro e w9 ⟨rfl, hb⟩
    first | exact hK.out _ _ (det_true rfl) trivial hb | exact hK.out _ _ (det_true trivial) trivial hb | exact hK.out _ _ rfl trivial hb
  simp only [Act.put, List.setIfInBounds_toArray, List.set_cons_zero, List.set_cons_succ]
  refine flowL_det (fun wz hz hd => stepF_reads (by rfl) ?_) ?_
  · go_simp; try rfl
  simp only [Act.put, List.setIfInBounds_toArray, List.set_cons_zero, List.set_cons_succ]
  refine flowL_det (fun wz hz hd => stepF_reads (by rfl) ?_) ?_
  · go_simp; try rfl
  simp only [Act.put, List.setIfInBounds_toArray, List.set_cons_zero, List.set_cons_succ]
  refine flowL_det (fun wz hz hd => stepF_reads (by rfl) ?_) ?_
  · go_simp; try rfl
  simp only [Act.put, List.setIfInBounds_toArray, List.set_cons_zero, List.set_cons_succ]
  refine flowL_det (fun wz hz hd => stepF_reads (by rfl) ?_) ?_
  · have q := za8 wz hz; go_simp; try rfl
  simp only [Act.put, List.setIfInBounds_toArray, List.set_cons_zero, List.set_cons_succ]
  refine flowL_det (fun wz hz hd => stepF_walk (by rfl) (fun K hK => ?_)) ?_
  · go_wp2_with fail
    go_at_call 19
    refine (FJ wz hz).mono ?_
    rintro e w9 ⟨rfl, rfl⟩
    exact hK.out _ _ rfl trivial (Below.refl _ _)
  simp only [Act.put, List.setIfInBounds_toArray, List.set_cons_zero, List.set_cons_succ]
  refine flowL_det (fun wz hz hd => stepF_reads (by rfl) ?_) ?_
  · go_simp; try rfl
  simp only [Act.put, List.setIfInBounds_toArray, List.set_cons_zero, List.set_cons_succ]
  refine flowL_det (fun wz hz hd => stepF_reads (by rfl) ?_) ?_
  · have q := za8 wz hz; go_simp; try rfl
  simp only [Act.put, List.setIfInBounds_toArray, List.set_cons_zero, List.set_cons_succ]
  refine flowL_det (fun wz hz hd => stepF_walk (by rfl) (fun K hK => ?_)) ?_
  · go_wp2_with fail
    go_at_call 20
    refine (FK wz hz).mono ?_
    rintro e w9 ⟨rfl, rfl⟩
    exact hK.out _ _ rfl trivial (Below.refl _ _)
  simp only [Act.put, List.setIfInBounds_toArray, List.set_cons_zero, List.set_cons_succ]
  refine flowL_det (fun wz hz hd => stepF_reads (by rfl) ?_) ?_
  · go_simp; try rfl
  simp only [Act.put, List.setIfInBounds_toArray, List.set_cons_zero, List.set_cons_succ]
  refine flowL_det (fun wz hz hd => stepF_reads (by rfl) ?_) ?_
  · go_simp; try rfl
  simp only [Act.put, List.setIfInBounds_toArray, List.set_cons_zero, List.set_cons_succ]
  refine flowL_det (fun wz hz hd => stepF_reads (by rfl) ?_) ?_
  · go_simp; try rfl
  simp only [Act.put, List.setIfInBounds_toArray, List.set_cons_zero, List.set_cons_succ]
  refine flowL_det (fun wz hz hd => stepF_reads (by rfl) ?_) ?_
  · go_simp; try rfl
  simp only [Act.put, List.setIfInBounds_toArray, List.set_cons_zero, List.set_cons_succ]
  refine flowL_det (fun wz hz hd => stepF_reads (by rfl) ?_) ?_
  · go_simp; try rfl
  simp only [Act.put, List.setIfInBounds_toArray, List.set_cons_zero, List.set_cons_succ]
  intro w5 ps hb5 hF hap
  clear hF hap
  have B11 := B10.trans (hb5.mono B10.size)
  clear za1 za2 za8 zp0 zp1 zv0 zv1 zy0 zy1 FM FN FS FR FB FJ FK
  go_wp2_with fail
  go_ret
  exact ⟨rfl, B11⟩

end Bt
end Go.Proofs.Ytjfijhchnchfcaa
