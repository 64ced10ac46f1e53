/- BitsRange, for the operators. -/
import Derived.Test.YtjfijhchnchfcaaWK
namespace Go.Proofs.Ytjfijhchnchfcaa
open Go.RowKit Sl Fr
namespace Bt
set_option linter.unusedVariables false
set_option linter.unusedSimpArgs false

theorem dep_of {F : Nat → World × World → World → Prop} {l : List Nat} {w : World} (hd : ∀ j ∈ l, ∃ p, F j p w) (j : Nat) (h : l.contains j = true) : ∃ p, F j p w := hd j (List.contains_iff_mem.1 h)
def cutI (u v : Int) : Int := bits .and .i64 u (mask v)
theorem cutI_ok {u v : Int} (h : isW v = true) : isV (cutI u v) v = true := by
  have h1 := isW_in h
  obtain ⟨m, rfl⟩ := Int.eq_ofNat_of_zero_le (by omega : 0 ≤ v)
  unfold cutI
  simp only [isV, decide_eq_true_eq]
  rw [mask_nat (by omega), and_mask _ _ (by omega)]
  have hp := pow_int (k := m) (by omega)
  have h2 := Int.emod_nonneg u (show (2 : Int) ^ m ≠ 0 by omega)
  have h3 := Int.emod_lt_of_pos u hp.1
  omega
theorem cut_all : ∀ (zs ws : List Int), zs.length = ws.length → ws.all isW = true → okA (List.zipWith cutI zs ws) ws = true
  | [], [], _, _ => rfl
  | z :: zs, v :: ws, hl, hw => by
    simp only [List.all_cons, Bool.and_eq_true] at hw
    have ih := cut_all zs ws (by simpa using hl) hw.2
    simp only [okA, Bool.and_eq_true, decide_eq_true_eq] at ih ⊢
    refine ⟨by simpa using ih.1, ?_⟩
    simp only [List.zipWith_cons_cons, List.zip_cons_cons, List.all_cons, Bool.and_eq_true]
    exact ⟨cutI_ok hw.1, ih.2⟩
theorem own_newI (W : World) (base : Nat) (hb : base ≤ W.heap.size) : (W.alloc (.cells #[] 3)).ownsRow base 3 1 (.slice (some ⟨W.heap.size, 0, none⟩) 0 0) 0 [] :=
  World.ownsRow_lit (e := 3) (size := 1) W #[] 0 hb (by unfold maxLen; omega) rfl
theorem own_sliceI {W : World} {base : Nat} {v : Value} {n : Nat} {l : List Int} (h : W.ownsRow base 3 1 v n (l.map (Value.int .i64))) : ∃ A c, v = .slice A n c ∧ ArrI W A l := by
  obtain ⟨A, c, h1, _, _, h4, _⟩ := row_forms h
  exact ⟨A, c, h1, h4.arr⟩
theorem slice3 (B n : Nat) (hn : n ≤ 3) (wz : World) : (Instr.sliceAt 42 (.pointer (some ⟨B, 0, none⟩)) none (some (.int .i64 (n : Int))) none).run Try.prog wz = .ok (.slice (some ⟨B, 0, none⟩) n 3) wz := by
  rcases (by omega : n = 0 ∨ n = 1 ∨ n = 2 ∨ n = 3) with rfl | rfl | rfl | rfl <;> go_simp

set_option maxRecDepth 100000 in
set_option maxHeartbeats 4000000 in
theorem range_in (op r : Nat) (w0 w1 w2 z0 z1 z2 z3 z4 : Int) (w : World) (hop : op < 256) (hr : r < 16) (hq : (op : Int) % 16 = (r : Int)) (h13 : 1 ≤ r ∧ r ≤ 13) (hz1 : -9223372036854775808 ≤ z1 ∧ z1 ≤ 9223372036854775807) :
    Calls Try.prog 4 #[.int .u8 (op : Int), .agg #[.int .i64 w0, .int .i64 w1, .int .i64 w2], .agg #[.int .i64 z0, .int .i64 z1, .int .i64 z2, .int .i64 z3, .int .i64 z4]] w fun e w' => e = .returned (.bool true) ∧ Below w.heap.size w w' := by
  go_enter Try.func4, Try.ntmps4
  go_upto_region 1 with fail
  have hst := start2 w #[.int .i64 w0, .int .i64 w1, .int .i64 w2] #[.int .i64 z0, .int .i64 z1, .int .i64 z2, .int .i64 z3, .int .i64 z4] 42 43
  generalize (w.alloc (.cells #[.int .i64 w0, .int .i64 w1, .int .i64 w2] 42)).alloc (.cells #[.int .i64 z0, .int .i64 z1, .int .i64 z2, .int .i64 z3, .int .i64 z4] 43) = W0 at *
  obtain ⟨m0, m1, B0⟩ := hst
  go_upto_region 4 with (refine (examples_any.at _).mono ?_; rintro e W1 ⟨rfl, hb1⟩)
  have MW := Lib.hid (m0.keep hb1)
  have MZ := Lib.hid (m1.keep hb1)
  have BB := Lib.hid (B0.trans (hb1.mono B0.size))
  clear m0 m1 B0 hb1
  have ha := fun w => arity_any r hr w
  rw [show arI r = (arity r : Int) from if_pos h13] at ha
  have hn3 : arity r ≤ 3 := by rcases ops13 h13 with rfl | rfl | rfl | rfl | rfl | rfl | rfl | rfl | rfl | rfl | rfl | rfl | rfl <;> decide
  have HV := Lib.hid (val_range r h13)
  have HWA := Lib.hid (fun A c ws A' c' vs A'' c'' w a1 a2 a3 a4 a5 => apply_two (r : Int) A c ws A' c' vs A'' c'' z0 z1 w a1 a2 a3 a4 a5 hz1)
  obtain ⟨n, hn⟩ : ∃ n, n = arity r := ⟨_, rfl⟩
  rw [← hn] at ha hn3
  obtain ⟨ws, hws⟩ : ∃ ws, ws = [w0, w1, w2].take n := ⟨_, rfl⟩
  have hwl : ws.length = n := by rw [hws, List.length_take]; simp; omega
  have HAW := Lib.hid (fun (wz : World) (hz : Below W1.heap.size W1 wz) => (arr_take (l := [w0, w1, w2]) n (MW.out.keep hz)))
  rw [← hws] at HAW
  have WO := fun (wz : World) (hz : Below W1.heap.size W1 wz) => width_op r h13 (some ⟨w.heap.size, 0, none⟩) 3 ws z0 z1 wz (HAW.out wz hz) (small (by omega)) hz1
  rw [hwl] at WO
  obtain ⟨wd, hwd⟩ : ∃ wd, wd = wid r ws z0 z1 := ⟨_, rfl⟩
  obtain ⟨er, her⟩ : ∃ er, er = err wd := ⟨_, rfl⟩
  rw [← hwd, ← her] at WO
  have HWD := Lib.hid hwd
  have HER := Lib.hid her
  have HWS := Lib.hid hws
  have HWL := Lib.hid hwl
  clear hwd her hws hwl hn h13
  have hn0 : ¬ ((n : Int) < 0) := by omega
  have hsl := fun wz => slice3 w.heap.size n hn3 wz
  have zc0 : ∀ wz, Below W1.heap.size W1 wz → wz.cell? ⟨w.heap.size + 1, 0, none⟩ = some (.int .i64 z0) := fun wz hz => (MZ.out.keep hz).get (i := 0) rfl
  have zc1 : ∀ wz, Below W1.heap.size W1 wz → wz.cell? ⟨w.heap.size + 1, 1, none⟩ = some (.int .i64 z1) := fun wz hz => (MZ.out.keep hz).get (i := 1) rfl
  go_upto_region 8 with (go_at_call 21; refine (ha _).mono ?_; rintro e w' ⟨rfl, rfl⟩)
  clear hn0 ha
  refine wp_region_flow 15 [.det (.int .u8 ((op : Int))), .det (.int .u8 ((r : Int))), .det (.int .i64 ((r : Int))), .det (.int .i64 ((n : Int))), .det (.slice ((some ⟨w.heap.size, 0, none⟩)) n 3), .det (.pointer (some ⟨(w.heap.size + 1), 0, none⟩)), .det (.int .i64 z0), .det (.pointer (some ⟨(w.heap.size + 1), 1, none⟩)), .det (.int .i64 z1), .det (.agg #[.int .i64 z0, .int .i64 z1]), .det (.tuple #[.int .i64 wd, .int .i64 er]), .det (.tuple #[.int .i64 wd, .int .i64 er]), .det (.int .i64 wd), .det (.int .i64 er), .det (.int .i64 wd)] (by kernel_rfl) (by kernel_rfl) rfl ?_
  simp only [List.take_succ_cons, List.take_zero, List.drop_succ_cons, List.drop_zero]
  refine flowL_det (fun wz hz hd => stepF_reads (by rfl) ?_) ?_
  · go_simp; try rfl
  simp only [Act.put, List.setIfInBounds_toArray, List.set_cons_zero, List.set_cons_succ]
  refine flowL_det (fun wz hz hd => stepF_reads (by rfl) ?_) ?_
  · go_simp; exact (Int.tmod_eq_emod_of_nonneg (by omega)).trans hq
  simp only [Act.put, List.setIfInBounds_toArray, List.set_cons_zero, List.set_cons_succ]
  refine flowL_det (fun wz hz hd => stepF_reads (by rfl) ?_) ?_
  · go_simp; exact IntWalk.i64_in _ (by omega)
  simp only [Act.put, List.setIfInBounds_toArray, List.set_cons_zero, List.set_cons_succ]
  refine flowL_det (fun wz hz hd => stepF_reads (by rfl) ?_) ?_
  · go_simp; try rfl
  simp only [Act.put, List.setIfInBounds_toArray, List.set_cons_zero, List.set_cons_succ]
  refine flowL_det (fun wz hz hd => stepF_reads (by rfl) ?_) ?_
  · have q := hsl wz; go_simp; try rfl
  simp only [Act.put, List.setIfInBounds_toArray, List.set_cons_zero, List.set_cons_succ]
  refine flowL_det (fun wz hz hd => stepF_reads (by rfl) ?_) ?_
  · go_simp; try rfl
  simp only [Act.put, List.setIfInBounds_toArray, List.set_cons_zero, List.set_cons_succ]
  refine flowL_det (fun wz hz hd => stepF_reads (by rfl) ?_) ?_
  · have q := zc0 wz hz; go_simp; try rfl
  simp only [Act.put, List.setIfInBounds_toArray, List.set_cons_zero, List.set_cons_succ]
  refine flowL_det (fun wz hz hd => stepF_reads (by rfl) ?_) ?_
  · go_simp; try rfl
  simp only [Act.put, List.setIfInBounds_toArray, List.set_cons_zero, List.set_cons_succ]
  refine flowL_det (fun wz hz hd => stepF_reads (by rfl) ?_) ?_
  · have q := zc1 wz hz; go_simp; try rfl
  simp only [Act.put, List.setIfInBounds_toArray, List.set_cons_zero, List.set_cons_succ]
  refine flowL_det (fun wz hz hd => stepF_reads (by rfl) ?_) ?_
  · go_simp; try rfl
  simp only [Act.put, List.setIfInBounds_toArray, List.set_cons_zero, List.set_cons_succ]
  refine flowL_det (fun wz hz hd => stepF_walk (by rfl) (fun K hK => ?_)) ?_
  · go_wp2_with fail
    go_at_call 10
    refine (WO wz hz).mono ?_
    rintro e w9 ⟨rfl, hb⟩
    exact hK.out _ _ rfl trivial hb
  simp only [Act.put, List.setIfInBounds_toArray, List.set_cons_zero, List.set_cons_succ]
  refine flowL_det (fun wz hz hd => stepF_reads (by rfl) ?_) ?_
  · go_simp; try rfl
  simp only [Act.put, List.setIfInBounds_toArray, List.set_cons_zero, List.set_cons_succ]
  refine flowL_det (fun wz hz hd => stepF_reads (by rfl) ?_) ?_
  · go_simp; try rfl
  simp only [Act.put, List.setIfInBounds_toArray, List.set_cons_zero, List.set_cons_succ]
  refine flowL_det (fun wz hz hd => stepF_reads (by rfl) ?_) ?_
  · go_simp; try rfl
  simp only [Act.put, List.setIfInBounds_toArray, List.set_cons_zero, List.set_cons_succ]
  refine flowL_det (fun wz hz hd => stepF_reads (by rfl) ?_) ?_
  · go_simp; try rfl
  simp only [Act.put, List.setIfInBounds_toArray, List.set_cons_zero, List.set_cons_succ]
  intro w3 ps hb3 hF hap
  clear hF hap
  clear WO zc0 zc1
  go_wp2_with fail
  have B3 := Lib.hid hb3
  have hO := own_newI w3 w3.heap.size (Nat.le_refl _)
  have hBn := (Below.refl _ w3).alloc (Nat.le_refl _) (.cells #[] 3)
  generalize w3.alloc (.cells #[] 3) = W4 at *
  clear hb3
  go_loopw [13, 14] (fun s i wr => ∃ k : Nat, k ≤ n ∧ i = .int .i64 (k : Int) ∧ wr.ownsRow w3.heap.size 3 1 s k (((List.zipWith cutI [z2, z3, z4] [w0, w1, w2]).take k).map (Value.int .i64)) ∧ Below w3.heap.size w3 wr) (fun _ i _ => n - (intOf i).toNat)
  case atStart => exact ⟨0, Nat.zero_le _, rfl, hO, hBn⟩
  case round =>
    clear hO hBn
    obtain ⟨k, hk, rfl, hO, hB⟩ := hrel
    by_cases hlt : k < n
    · obtain ⟨i0, hi, hz0, hz1', hz2⟩ := parts_of infoInt
      have H3 := Lib.hid hB
      obtain ⟨u, hu⟩ := get_ex (show k < [z2, z3, z4].length by simp; omega)
      obtain ⟨v, hv⟩ := get_ex (show k < [w0, w1, w2].length by simp; omega)
      have g1 : ∀ wz, Below W1.heap.size W1 wz → wz.cell? ⟨w.heap.size + 1, 2 + k, none⟩ = some (.int .i64 u) := fun wz hz => by
        rcases (by omega : k = 0 ∨ k = 1 ∨ k = 2) with rfl | rfl | rfl <;> (simp at hu; subst hu) <;> exact (MZ.out.keep hz).get rfl
      have g2 : ∀ wz, Below W1.heap.size W1 wz → wz.cell? ⟨w.heap.size, k, none⟩ = some (.int .i64 v) := fun wz hz => by
        rcases (by omega : k = 0 ∨ k = 1 ∨ k = 2) with rfl | rfl | rfl <;> (simp at hv; subst hv) <;> exact (MW.out.keep hz).get rfl
      have HE : Hid ((List.zipWith cutI [z2, z3, z4] [w0, w1, w2]).take (k + 1) = (List.zipWith cutI [z2, z3, z4] [w0, w1, w2]).take k ++ [cutI u v]) := Lib.hid (take_snoc (by rw [List.getElem?_zipWith, hu, hv]))
      have hm := fun w => mask_any v w
      have hcx : bits .and .i64 u (mask v) = cutI u v := rfl
      have HG1 := Lib.hid g1
      have HG2 := Lib.hid g2
      have HBW : Hid (Below W1.heap.size W1 wr) := Lib.hid (B3.out.trans (hB.mono B3.out.size))
      have HO := Lib.hid hO
      clear hu hv g1 g2 hO hB
      clear hsl
      generalize cutI u v = x at *
      generalize mask v = mv at *
      go_upto_region 13 with fail
      refine wp_region_free0 (agf := ?fr) 10 (by kernel_rfl) [0] (by kernel_rfl) (fun d _ _ _ _ h => by cases d <;> exact h) ?fr1 ?fr2
      case fr1 =>
        intro W hW
        have d0 := fun pp : Later W => HG1.out pp.val (HBW.out.trans ((hW.trans (pp.below.mono hW.size)).mono HBW.out.size))
        have d1 := fun pp : Later W => HG2.out pp.val (HBW.out.trans ((hW.trans (pp.below.mono hW.size)).mono HBW.out.size))
        simp only [List.take_succ_cons, List.take_zero, ghostL, List.contains_cons, List.contains_nil, Nat.reduceAdd, Nat.reduceBEq, Bool.or_false, Bool.or_true, Bool.true_or, Bool.false_or, Bool.false_eq_true, if_false, if_true, ghostO]
        repeat (go_big_quiet_step ((go_at_call 14; with_reducible exact later_same (hm _))))
        refine wpQuiet_nil ?_
        rfl
      case fr2 =>
        intro ZZ hzz
        simp only [List.drop_succ_cons, List.drop_zero, Act.put, List.setIfInBounds_toArray, List.set_cons_succ, List.set_cons_zero]
        have hba := hzz.trans (((Below.refl _ ZZ).alloc (Nat.le_refl _) (.cells #[.int .i64 x] 3)).mono hzz.size)
        have hOA := row_keep HO.out hba
        have hBA := H3.out.trans (hba.mono H3.out.size)
        clear hba
        go_wp2_with (refine wpList_append_own_at _ rfl _ _ 22 rfl w3.heap.size 3 i0 (.int .i64 0) 1 8 Try.underlying22 hi hz0 hz1' hz2 rfl (by decide) u13 k _ rfl hOA ⟨ZZ.heap.size, 0, none⟩ 1 1 [.int .i64 x] rfl rfl (cell_one_new _ _ _) (by simp [Value.oneCell']) (by unfold maxLen; omega) (by omega) hBA.size ?_; intro v' V ho hg hnil hob)
        have hBV := hBA.grown hg hBA.size (fun g e => row_own hOA g e)
        have hO2 : V.ownsRow w3.heap.size 3 1 v' (k + 1) (((List.zipWith cutI [z2, z3, z4] [w0, w1, w2]).take (k + 1)).map (Value.int .i64)) := by
          rw [HE.out, List.map_append]
          exact ho
        clear ho hg hnil hob hOA hBA HE
        go_roundw
        case rel => exact ⟨k + 1, by omega, by go_num, hO2, hBV⟩
        case measure => simp [intOf]; omega
    · have hkn : k = n := by omega
      subst hkn
      obtain ⟨D, dc, hD, hAD⟩ := own_sliceI hO
      subst hD
      obtain ⟨vs, hvs⟩ : ∃ vs, vs = (List.zipWith cutI [z2, z3, z4] [w0, w1, w2]).take k := ⟨_, rfl⟩
      rw [← hvs] at hAD
      have hvl : vs.length = k := by rw [hvs, List.length_take, List.length_zipWith]; simp; omega
      have hok : Hid (wid r ws z0 z1 ≠ 0 → okA vs ws = true) := Lib.hid (fun h => by
        rw [hvs, HWS.out, List.take_zipWith]
        refine cut_all _ _ (by simp) ?_
        have := (wid_ne h).1
        rwa [HWS.out] at this)
      have HBW : Hid (Below W1.heap.size W1 wr) := Lib.hid (B3.out.trans (hB.mono B3.out.size))
      obtain ⟨av, hav⟩ : ∃ av, av = apV r ws z0 z1 vs := ⟨_, rfl⟩
      obtain ⟨ae, hae⟩ : ∃ ae, ae = apE r ws z0 z1 vs := ⟨_, rfl⟩
      have WA := fun (wz : World) (hz : Below wr.heap.size wr wz) P cP (hP : ArrI wz (some ⟨P, 0, none⟩) [z0, z1]) => HWA.out (some ⟨w.heap.size, 0, none⟩) 3 ws D dc vs (some ⟨P, 0, none⟩) cP wz (HAW.out wz (HBW.out.trans (hz.mono HBW.out.size))) (small (by have := HWL.out; omega)) (hAD.keep hz) (small (by omega)) hP
      rw [HWL.out, hvl, ← hav, ← hae] at WA
      have zc0 : ∀ wz, Below wr.heap.size wr wz → wz.cell? ⟨w.heap.size + 1, 0, none⟩ = some (.int .i64 z0) := fun wz hz => (MZ.out.keep (HBW.out.trans (hz.mono HBW.out.size))).get (i := 0) rfl
      have zc1 : ∀ wz, Below wr.heap.size wr wz → wz.cell? ⟨w.heap.size + 1, 1, none⟩ = some (.int .i64 z1) := fun wz hz => (MZ.out.keep (HBW.out.trans (hz.mono HBW.out.size))).get (i := 1) rfl
      have HFIN : Hid ((wd = 0 ∧ er = 1 ∧ av = 0 ∧ ae = 1) ∨ (er = 0 ∧ ae = 0 ∧ 1 ≤ wd ∧ wd ≤ 8 ∧ 0 ≤ av ∧ av ≤ mask wd)) := Lib.hid (by
        have e0 := HWD.out
        by_cases h0 : wid r ws z0 z1 = 0
        · rw [h0] at e0
          exact .inl ⟨e0, by rw [HER.out, e0]; rfl, by rw [hav]; exact if_neg (fun h => h.1 h0), by rw [hae]; exact if_neg (fun h => h.1 h0)⟩
        · have h1 := isW_in (wid_ne h0).2
          rw [← wid_raw h0, ← e0] at h1
          have h2 := hok.out h0
          have e1 : av = (val r ws z0 z1 (vs.map Int.toNat) : Int) := by rw [hav]; exact if_pos ⟨h0, h2⟩
          have h3 := HV.out ws z0 z1 vs h0 h2
          rw [← e1, ← e0] at h3
          exact .inr ⟨by rw [HER.out]; exact if_neg (by omega), by rw [hae]; exact if_pos ⟨h0, h2⟩, h1.1, h1.2, by omega, h3⟩)
      clear hav hae hAD hO hvs hvl HV HWA
      go_upto_region 14 with fail
      refine wp_region_flow 16 [.det (.int .u8 ((op : Int))), .det (.int .u8 ((r : Int))), .det (.int .i64 ((r : Int))), .det (.int .i64 ((k : Int))), .det (.slice ((some ⟨w.heap.size, 0, none⟩)) k 3), .det (.slice D k dc), .det (.pointer (some ⟨(w.heap.size + 1), 0, none⟩)), .det (.int .i64 z0), .det (.pointer (some ⟨(w.heap.size + 1), 1, none⟩)), .det (.int .i64 z1), sliceS 2 (fun wm A => Arr wm A ([z0, z1].map (Value.int .i64))), .det (.tuple #[.int .i64 av, .int .i64 ae]), .det (.tuple #[.int .i64 av, .int .i64 ae]), .det (.int .i64 av), .det (.int .i64 ae), .det (.int .i64 av)] (by kernel_rfl) (by kernel_rfl) rfl ?_
      simp only [List.take_succ_cons, List.take_zero, List.drop_succ_cons, List.drop_zero]
      refine flowL_det (fun wz hz hd => stepF_reads (by rfl) ?_) ?_
      · go_simp; try rfl
      simp only [Act.put, List.setIfInBounds_toArray, List.set_cons_zero, List.set_cons_succ]
      refine flowL_det (fun wz hz hd => stepF_reads (by rfl) ?_) ?_
      · go_simp; exact (Int.tmod_eq_emod_of_nonneg (by omega)).trans hq
      simp only [Act.put, List.setIfInBounds_toArray, List.set_cons_zero, List.set_cons_succ]
      refine flowL_det (fun wz hz hd => stepF_reads (by rfl) ?_) ?_
      · go_simp; exact IntWalk.i64_in _ (by omega)
      simp only [Act.put, List.setIfInBounds_toArray, List.set_cons_zero, List.set_cons_succ]
      refine flowL_det (fun wz hz hd => stepF_reads (by rfl) ?_) ?_
      · go_simp; try rfl
      simp only [Act.put, List.setIfInBounds_toArray, List.set_cons_zero, List.set_cons_succ]
      refine flowL_det (fun wz hz hd => stepF_reads (by rfl) ?_) ?_
      · have q := hsl wz; go_simp; try rfl
      simp only [Act.put, List.setIfInBounds_toArray, List.set_cons_zero, List.set_cons_succ]
      refine flowL_det (fun wz hz hd => stepF_reads (by rfl) ?_) ?_
      · go_simp; try rfl
      simp only [Act.put, List.setIfInBounds_toArray, List.set_cons_zero, List.set_cons_succ]
      refine flowL_det (fun wz hz hd => stepF_reads (by rfl) ?_) ?_
      · go_simp; try rfl
      simp only [Act.put, List.setIfInBounds_toArray, List.set_cons_zero, List.set_cons_succ]
      refine flowL_det (fun wz hz hd => stepF_reads (by rfl) ?_) ?_
      · have q := zc0 wz hz; go_simp; try rfl
      simp only [Act.put, List.setIfInBounds_toArray, List.set_cons_zero, List.set_cons_succ]
      refine flowL_det (fun wz hz hd => stepF_reads (by rfl) ?_) ?_
      · go_simp; try rfl
      simp only [Act.put, List.setIfInBounds_toArray, List.set_cons_zero, List.set_cons_succ]
      refine flowL_det (fun wz hz hd => stepF_reads (by rfl) ?_) ?_
      · have q := zc1 wz hz; go_simp; try rfl
      simp only [Act.put, List.setIfInBounds_toArray, List.set_cons_zero, List.set_cons_succ]
      refine flowL_make (⟨_, 0, 2, rfl⟩) (fun wz hz hd => stepF_walk (by rfl) (fun K hK => ?_)) (fun v hv => ?_)
      · go_simp
        refine hK.out _ _ ⟨_, _, rfl⟩ (fun B c e => ?_) ((Below.refl _ _).alloc (Nat.le_refl _) _)
        cases e
        exact arr_lit wz [z0, z1] _ _ rfl
      obtain ⟨P, cP, rfl⟩ := hv
      simp only [Act.put, List.setIfInBounds_toArray, List.set_cons_zero, List.set_cons_succ]
      refine flowL_det (fun wz hz hd => stepF_walk (by rfl) (fun K hK => ?_)) ?_
      · obtain ⟨p, hp⟩ := dep_of hd 10 (by decide +kernel)
        go_wp2_with fail
        go_at_call 12
        refine (WA wz hz P cP (Arr.keep (hp.post P cP rfl) hp.since)).mono ?_
        rintro e w9 ⟨rfl, hb⟩
        exact hK.out _ _ rfl trivial hb
      simp only [Act.put, List.setIfInBounds_toArray, List.set_cons_zero, List.set_cons_succ]
      refine flowL_det (fun wz hz hd => stepF_reads (by rfl) ?_) ?_
      · go_simp; try rfl
      simp only [Act.put, List.setIfInBounds_toArray, List.set_cons_zero, List.set_cons_succ]
      refine flowL_det (fun wz hz hd => stepF_reads (by rfl) ?_) ?_
      · go_simp; try rfl
      simp only [Act.put, List.setIfInBounds_toArray, List.set_cons_zero, List.set_cons_succ]
      refine flowL_det (fun wz hz hd => stepF_reads (by rfl) ?_) ?_
      · go_simp; try rfl
      simp only [Act.put, List.setIfInBounds_toArray, List.set_cons_zero, List.set_cons_succ]
      refine flowL_det (fun wz hz hd => stepF_reads (by rfl) ?_) ?_
      · go_simp; try rfl
      simp only [Act.put, List.setIfInBounds_toArray, List.set_cons_zero, List.set_cons_succ]
      intro w3 ps hb3 hF hap
      clear hF hap
      have HBF := Lib.hid (BB.out.trans ((HBW.out.trans (hb3.mono HBW.out.size)).mono BB.out.size))
      clear WA zc0 zc1 hsl hb3
      rcases HFIN.out with ⟨rfl, rfl, rfl, rfl⟩ | ⟨rfl, rfl, h1, h2, h3, h4⟩
      · go_wp2_with fail
        go_ret
        exact ⟨rfl, HBF.out⟩
      · have hm := fun w => mask_any wd w
        generalize mask wd = mw at *
        go_wp2_with (go_at_call 14; refine (hm _).mono ?_; rintro e w' ⟨rfl, rfl⟩)
        go_ret
        exact ⟨rfl, HBF.out⟩

theorem range_row (op w0 w1 w2 z0 z1 z2 z3 z4 : Int) (w : World) (hop : 0 ≤ op ∧ op ≤ 255) (hz1 : -9223372036854775808 ≤ z1 ∧ z1 ≤ 9223372036854775807) :
    Calls Try.prog 4 #[.int .u8 op, .agg #[.int .i64 w0, .int .i64 w1, .int .i64 w2], .agg #[.int .i64 z0, .int .i64 z1, .int .i64 z2, .int .i64 z3, .int .i64 z4]] w fun e w' => e = .returned (.bool true) ∧ Below w.heap.size w w' := by
  obtain ⟨op, rfl⟩ := Int.eq_ofNat_of_zero_le hop.1
  by_cases h : 1 ≤ op % 16 ∧ op % 16 ≤ 13
  · exact range_in op (op % 16) w0 w1 w2 z0 z1 z2 z3 z4 w (by omega) (by omega) (by simp) h hz1
  · exact range_out op (op % 16) w0 w1 w2 z0 z1 z2 z3 z4 w (by omega) (by omega) (by simp) h

end Bt
end Go.Proofs.Ytjfijhchnchfcaa
