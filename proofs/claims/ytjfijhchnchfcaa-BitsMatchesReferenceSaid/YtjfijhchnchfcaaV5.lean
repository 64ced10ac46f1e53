/- The reference's values. -/
import Derived.Test.YtjfijhchnchfcaaV4
namespace Go.Proofs.Ytjfijhchnchfcaa
open Go.RowKit Sl Fr
namespace Bt
set_option linter.unusedVariables false
set_option linter.unusedSimpArgs false

set_option maxRecDepth 100000 in
set_option maxHeartbeats 1000000 in
theorem ain_num (op : Int) (A : Option Addr) (c : Nat) (ws : List Int) (A' : Option Addr) (c' : Nat) (vs : List Int) (A'' : Option Addr) (c'' L : Nat) (w : World) (h : ¬ L = 2) :
    Calls Try.prog 13 #[.int .i64 op, .slice A ws.length c, .agg #[.slice A' vs.length c', .slice A'' L c'']] w fun e w' => e = .returned (.agg #[.int .i64 0, .int .i64 1]) ∧ Below w.heap.size w w' := by
  have e1 : ((L : Int) != 2) = true := by rw [bne_iff_ne]; omega
  clear h
  go_enter Try.func13, Try.ntmps13
  go_upto_region 1 with fail
  have hst := start2 w #[.slice A' vs.length c', .slice A'' L c''] #[.int .i64 0, .int .i64 0] 36 32
  generalize (w.alloc (.cells #[.slice A' vs.length c', .slice A'' L c''] 36)).alloc (.cells #[.int .i64 0, .int .i64 0] 32) = W0 at *
  obtain ⟨m0, m1, B0⟩ := hst
  obtain ⟨q0, q1⟩ := m0.l2 (Below.refl _ _)
  refine wp_region_later (by kernel_rfl) (by kernel_rfl) ?_
  repeat (go_big_quiet_step (fail))
  refine wpQuiet_nil ?_
  intro _ hw'
  obtain ⟨z, hw''⟩ := hw'
  subst hw''
  have B1 := B0.trans (z.below.mono B0.size)
  have M1 := m1.keep z.below
  clear q0 q1 m0 m1 B0
  generalize z.val = W1 at *
  obtain ⟨r0, r1⟩ := M1.c2
  obtain ⟨f0, f1⟩ := M1.f2
  go_wp2_with fail
  have hR := M1.s2 (.int .i64 0) (.int .i64 1)
  obtain ⟨s0, s1⟩ := hR.c2
  exact bodyPost_ret (v := .agg #[.int .i64 0, .int .i64 1]) (by simp [results, Try.results13, go_sem, s0, s1]) rfl ⟨rfl, below_s2 B1 (by omega) _ _⟩
set_option maxRecDepth 100000 in
set_option maxHeartbeats 1000000 in
theorem ain_len (op : Int) (A : Option Addr) (c : Nat) (ws : List Int) (A' : Option Addr) (c' : Nat) (vs : List Int) (A'' : Option Addr) (c'' : Nat) (w : World) (h : ¬ vs.length = ws.length) :
    Calls Try.prog 13 #[.int .i64 op, .slice A ws.length c, .agg #[.slice A' vs.length c', .slice A'' 2 c'']] w fun e w' => e = .returned (.agg #[.int .i64 0, .int .i64 1]) ∧ Below w.heap.size w w' := by
  have e1 : ((vs.length : Int) != (ws.length : Int)) = true := by rw [bne_iff_ne]; omega
  clear h
  go_enter Try.func13, Try.ntmps13
  go_upto_region 1 with fail
  have hst := start2 w #[.slice A' vs.length c', .slice A'' 2 c''] #[.int .i64 0, .int .i64 0] 36 32
  generalize (w.alloc (.cells #[.slice A' vs.length c', .slice A'' 2 c''] 36)).alloc (.cells #[.int .i64 0, .int .i64 0] 32) = W0 at *
  obtain ⟨m0, m1, B0⟩ := hst
  obtain ⟨q0, q1⟩ := m0.l2 (Below.refl _ _)
  refine wp_region_later (by kernel_rfl) (by kernel_rfl) ?_
  repeat (go_big_quiet_step (fail))
  refine wpQuiet_nil ?_
  intro _ hw'
  obtain ⟨z, hw''⟩ := hw'
  subst hw''
  have B1 := B0.trans (z.below.mono B0.size)
  have M1 := m1.keep z.below
  clear q0 q1 m0 m1 B0
  generalize z.val = W1 at *
  obtain ⟨r0, r1⟩ := M1.c2
  obtain ⟨f0, f1⟩ := M1.f2
  go_wp2_with fail
  have hR := M1.s2 (.int .i64 0) (.int .i64 1)
  obtain ⟨s0, s1⟩ := hR.c2
  exact bodyPost_ret (v := .agg #[.int .i64 0, .int .i64 1]) (by simp [results, Try.results13, go_sem, s0, s1]) rfl ⟨rfl, below_s2 B1 (by omega) _ _⟩
theorem zrNum : Zr Try.prog 32 #[.int .i64 0, .int .i64 0] := fun w => by simp [Instr.alloc, go_sem]
theorem okA_no {vs ws : List Int} {k : Nat} {v u : Int} (hv : vs[k]? = some v) (hu : ws[k]? = some u) (h : isV v u = false) : okA vs ws = false := by
  unfold okA
  rw [all_no (l := vs.zip ws) (p := fun p => isV p.1 p.2) (j := k) (v := (v, u)) (by simp [List.getElem?_zip_eq_some, hv, hu]) h]
  simp
theorem okA_yes {vs ws : List Int} (h : vs.length = ws.length) (hall : ∀ x < vs.length, ∀ v u, vs[x]? = some v → ws[x]? = some u → isV v u = true) : okA vs ws = true := by
  unfold okA
  rw [decide_eq_true h, Bool.true_and, List.all_eq_true]
  rintro ⟨v, u⟩ hp
  obtain ⟨i, hi⟩ := List.getElem?_of_mem hp
  rw [List.getElem?_zip_eq_some] at hi
  refine hall i ?_ v u hi.1 hi.2
  have h2 := hi.1
  exact Classical.byContradiction fun hc => by rw [List.getElem?_eq_none (by omega)] at h2; cases h2
set_option maxRecDepth 100000 in
set_option maxHeartbeats 4000000 in
theorem ain_two (op : Int) (A : Option Addr) (c : Nat) (ws : List Int) (A' : Option Addr) (c' : Nat) (vs : List Int) (A'' : Option Addr) (c'' : Nat) (k n : Int) (w : World) (hA : ArrI w A ws) (hlen : ws.length ≤ maxLen) (hA' : ArrI w A' vs) (h : vs.length = ws.length) (hA'' : ArrI w A'' [k, n]) (hn : -9223372036854775808 ≤ n ∧ n ≤ 9223372036854775807) :
    Calls Try.prog 13 #[.int .i64 op, .slice A ws.length c, .agg #[.slice A' vs.length c', .slice A'' 2 c'']] w fun e w' => e = .returned (.agg #[.int .i64 (apV op ws k n vs), .int .i64 (apE op ws k n vs)]) ∧ Below w.heap.size w w' := by
  obtain ⟨b0, o0, hb0⟩ := hA''.open
  obtain ⟨rfl, hl0, hc0⟩ := hb0 (by simp)
  have c00 : w.cell? ⟨b0, o0, none⟩ = some (.int .i64 k) := hc0 0 k rfl
  have c01 : w.cell? ⟨b0, o0 + 1, none⟩ = some (.int .i64 n) := hc0 1 n rfl
  have HW := Lib.hid (fun W (hW : Below w.heap.size w W) => rwidth_any op A c ws k n W (hA.keep hW) hlen hn)
  obtain ⟨r, hr⟩ : ∃ r, r = wid op ws k n := ⟨_, rfl⟩
  obtain ⟨er, her⟩ : ∃ er, er = err r := ⟨_, rfl⟩
  rw [← hr, ← her] at HW
  have HR := Lib.hid hr
  have HER := Lib.hid her
  clear hr her
  have e1 : ((vs.length : Int) != (ws.length : Int)) = false := by rw [bne_eq_false_iff_eq]; omega
  have HL := Lib.hid h
  clear h
  have HA := Lib.hid hA
  have HA' := Lib.hid hA'
  clear hA hA' hA'' hb0 hc0
  have HK := Lib.hid (And.intro c00 c01)
  clear c00 c01
  unfold maxLen at hlen
  go_enter Try.func13, Try.ntmps13
  go_upto_region 1 with fail
  have hst := start2 w #[.slice A' vs.length c', .slice (some ⟨b0, o0, none⟩) 2 c''] #[.int .i64 0, .int .i64 0] 36 32
  generalize (w.alloc (.cells #[.slice A' vs.length c', .slice (some ⟨b0, o0, none⟩) 2 c''] 36)).alloc (.cells #[.int .i64 0, .int .i64 0] 32) = W0 at *
  obtain ⟨m0, m1, B0⟩ := hst
  obtain ⟨q0, q1⟩ := m0.l2 (Below.refl _ _)
  refine wp_region_later (by kernel_rfl) (by kernel_rfl) ?_
  repeat (go_big_quiet_step (fail))
  refine wpQuiet_nil ?_
  intro _ hw'
  obtain ⟨z, hw''⟩ := hw'
  subst hw''
  have B1 := B0.trans (z.below.mono B0.size)
  have M1 := m1.keep z.below
  clear q0 q1 m0 m1 B0
  generalize z.val = W1 at *
  go_upto_region 4 with fail
  refine wp_region_free1 (agf := ?fr4) 11 10 zrNum (by kernel_rfl) [] (by kernel_rfl) (fun d _ _ _ _ h => by cases d <;> exact h) (by rfl) (by rfl) ?fr41 ?fr42
  case fr41 =>
    intro W hW
    have d0 := fun pp : Later W => ((B1.trans ((hW.trans (pp.below.mono hW.size)).mono B1.size)).cell (p := ⟨b0, o0, none⟩) hl0).trans HK.out.1
    have d1 := fun pp : Later W => ((B1.trans ((hW.trans (pp.below.mono hW.size)).mono B1.size)).cell (p := ⟨b0, o0 + 1, none⟩) hl0).trans HK.out.2
    have H4 := Lib.hid (fun pp : Later W => HW.out pp.val (B1.trans ((hW.trans (pp.below.mono hW.size)).mono B1.size)))
    simp only [List.take_succ_cons, List.take_zero, ghostL, List.contains_cons, List.contains_nil, Nat.reduceAdd, Nat.reduceBEq, Bool.or_false, Bool.or_true, Bool.true_or, Bool.false_or, Bool.false_eq_true, if_false, if_true, ghostO]
    repeat (go_big_quiet_step (((go_at_call 11; with_reducible exact later_of (H4.out _)))))
    refine wpQuiet_nil ?_
    rfl
  case fr42 =>
    intro b2 W2 hb m2 g2
    simp only [List.drop_succ_cons, List.drop_zero, Act.put, List.setIfInBounds_toArray, List.set_cons_succ, List.set_cons_zero]
    have M2 := M1.keep hb
    have B2 := B1.trans (hb.mono B1.size)
    have sz := hb.size
    have lt1 := M1.lt
    clear M1 B1 hb HW
    obtain ⟨x0, x1⟩ := m2.c2
    obtain ⟨y0, y1⟩ := m2.f2
    go_upto_region 5 with fail
    have m3 : BoxL ((W2.setCell ⟨b2, 0, none⟩ (.int .i64 r)).setCell ⟨b2, 1, none⟩ (.int .i64 er)) b2 #[.int .i64 r, .int .i64 er] := m2.setPart [.int .i64 r, .int .i64 er] 0 (by simp)
    have M3 : BoxL ((W2.setCell ⟨b2, 0, none⟩ (.int .i64 r)).setCell ⟨b2, 1, none⟩ (.int .i64 er)) (w.heap.size + 1) #[.int .i64 0, .int .i64 0] := M2.setFar (b := b2) (by omega) [.int .i64 r, .int .i64 er] 0
    have B3 : Below w.heap.size w ((W2.setCell ⟨b2, 0, none⟩ (.int .i64 r)).setCell ⟨b2, 1, none⟩ (.int .i64 er)) := below_setAll (b := b2) (by omega) [.int .i64 r, .int .i64 er] _ 0 B2
    generalize (W2.setCell ⟨b2, 0, none⟩ (.int .i64 r)).setCell ⟨b2, 1, none⟩ (.int .i64 er) = W3 at *
    clear x0 x1 y0 y1 m2 M2 B2 sz g2
    obtain ⟨n0, n1⟩ := m3.c2
    by_cases h0 : r = 0
    · have hq : er = 1 := by rw [HER.out, h0]; rfl
      have HE : Hid (apV op ws k n vs = 0 ∧ apE op ws k n vs = 1) := Lib.hid ⟨if_neg fun h => h.1 (by rw [← HR.out, h0]), if_neg fun h => h.1 (by rw [← HR.out, h0])⟩
      clear HER
      subst hq
      subst h0
      obtain ⟨r0, r1⟩ := M3.c2
      obtain ⟨f0, f1⟩ := M3.f2
      go_wp2_with fail
      have hR := M3.s2 (.int .i64 0) (.int .i64 1)
      obtain ⟨s0, s1⟩ := hR.c2
      rw [HE.out.1, HE.out.2]
      exact bodyPost_ret (v := .agg #[.int .i64 0, .int .i64 1]) (by simp [results, Try.results13, go_sem, s0, s1]) rfl ⟨rfl, below_s2 B3 (by omega) _ _⟩
    have hq : er = 0 := by rw [HER.out]; exact if_neg h0
    have hw0 : Hid (wid op ws k n ≠ 0) := Lib.hid (by rw [← HR.out]; exact h0)
    clear HER h0 HR
    subst hq
    obtain ⟨b, o, hb1⟩ := (HA'.out.keep B3).open
    obtain ⟨b', o', hb1'⟩ := (HA.out.keep B3).open
    have HB := Lib.hid hb1
    have HB' := Lib.hid hb1'
    clear hb1 hb1' m3 lt1
    go_upto_region 8 with fail
    clear n0 n1
    go_loopw [10] (fun i wr => ∃ j : Nat, j ≤ vs.length ∧ i = .int .i64 (j : Int) ∧ (∀ x < j, ∀ v u, vs[x]? = some v → ws[x]? = some u → isV v u = true) ∧ Below W3.heap.size W3 wr) (fun i _ => vs.length - (intOf i).toNat)
    case atStart => exact ⟨0, Nat.zero_le _, rfl, fun x h => by omega, Below.refl _ _⟩
    case round =>
      obtain ⟨j, hj, rfl, hall, BV⟩ := hrel
      have HG := Lib.hid hall
      clear hall
      have M4 := M3.keep BV
      have B4 := B3.trans (BV.mono B3.size)
      by_cases hlt : j < vs.length
      · have hlw : j < ws.length := by rw [← HL.out]; exact hlt
        obtain ⟨v, hv⟩ := get_ex hlt
        obtain ⟨u, hu⟩ := get_ex (show j < ws.length by rw [← HL.out]; exact hlt)
        obtain ⟨rfl, hbs, hc⟩ := HB.out (by intro h; subst h; simp at hlt)
        obtain ⟨rfl, hbs', hc'⟩ := HB'.out (by intro h; subst h; simp at hu)
        have hcv := hc j v hv
        have hcu := hc' j u hu
        have HE := Lib.hid (And.intro hv hu)
        clear hc hv hc' hu HB HB'
        have hm := fun w => rmask_any u w
        go_upto_region 10 with fail
        have d0 := fun pp : Later wr => ((BV.trans (pp.below.mono BV.size)).cell (p := ⟨b, o + j, none⟩) hbs).trans hcv
        have d1 := fun pp : Later wr => ((BV.trans (pp.below.mono BV.size)).cell (p := ⟨b', o' + j, none⟩) hbs').trans hcu
        clear hcv hcu
        by_cases h1 : v < 0
        · have g0 : decide (v < 0) = true := decide_eq_true h1
          have hi : isV v u = false := decide_eq_false (by omega)
          have HN : Hid (apV op ws k n vs = 0 ∧ apE op ws k n vs = 1) := Lib.hid ⟨if_neg (fun h => Bool.false_ne_true ((okA_no HE.out.1 HE.out.2 hi).symm.trans h.2)), if_neg (fun h => Bool.false_ne_true ((okA_no HE.out.1 HE.out.2 hi).symm.trans h.2))⟩
          clear hi
          refine wp_region_later (by kernel_rfl) (by kernel_rfl) ?_
          repeat (go_big_quiet_step ((go_at_call 15; with_reducible exact later_same (hm _))))
          refine wpQuiet_nil ?_
          intro _ hw'
          obtain ⟨z5, hw''⟩ := hw'
          subst hw''
          have M5 := M4.keep z5.below
          have B5 := B4.trans (z5.below.mono B4.size)
          have BV5 := BV.trans (z5.below.mono BV.size)
          clear d0 d1 M4 B4 BV
          generalize z5.val = W5 at *
          obtain ⟨r0, r1⟩ := M5.c2
          obtain ⟨f0, f1⟩ := M5.f2
          go_wp2_with fail
          have hR := M5.s2 (.int .i64 0) (.int .i64 1)
          obtain ⟨s0, s1⟩ := hR.c2
          rw [HN.out.1, HN.out.2]
          exact bodyPost_ret (v := .agg #[.int .i64 0, .int .i64 1]) (by simp [results, Try.results13, go_sem, s0, s1]) rfl ⟨rfl, below_s2 B5 (by omega) _ _⟩
        have g0 : decide (v < 0) = false := decide_eq_false h1
        by_cases h2 : mask u < v
        · have g1 : decide (mask u < v) = true := decide_eq_true h2
          clear g0
          have hi : isV v u = false := decide_eq_false (by omega)
          have HN : Hid (apV op ws k n vs = 0 ∧ apE op ws k n vs = 1) := Lib.hid ⟨if_neg (fun h => Bool.false_ne_true ((okA_no HE.out.1 HE.out.2 hi).symm.trans h.2)), if_neg (fun h => Bool.false_ne_true ((okA_no HE.out.1 HE.out.2 hi).symm.trans h.2))⟩
          clear hi
          have g0 : decide (v < 0) = false := decide_eq_false h1
          clear h1 h2
          generalize mask u = mu at *
          refine wp_region_later (by kernel_rfl) (by kernel_rfl) ?_
          repeat (go_big_quiet_step ((go_at_call 15; with_reducible exact later_same (hm _))))
          refine wpQuiet_nil ?_
          intro _ hw'
          obtain ⟨z5, hw''⟩ := hw'
          subst hw''
          have M5 := M4.keep z5.below
          have B5 := B4.trans (z5.below.mono B4.size)
          have BV5 := BV.trans (z5.below.mono BV.size)
          clear d0 d1 M4 B4 BV
          generalize z5.val = W5 at *
          obtain ⟨r0, r1⟩ := M5.c2
          obtain ⟨f0, f1⟩ := M5.f2
          go_wp2_with fail
          have hR := M5.s2 (.int .i64 0) (.int .i64 1)
          obtain ⟨s0, s1⟩ := hR.c2
          rw [HN.out.1, HN.out.2]
          exact bodyPost_ret (v := .agg #[.int .i64 0, .int .i64 1]) (by simp [results, Try.results13, go_sem, s0, s1]) rfl ⟨rfl, below_s2 B5 (by omega) _ _⟩
        have hi : isV v u = true := decide_eq_true ⟨by omega, by omega⟩
        have g1 : decide (mask u < v) = false := decide_eq_false h2
        clear h1 h2
        generalize mask u = mu at *
        refine wp_region_later (by kernel_rfl) (by kernel_rfl) ?_
        repeat (go_big_quiet_step ((go_at_call 15; with_reducible exact later_same (hm _))))
        refine wpQuiet_nil ?_
        intro _ hw'
        obtain ⟨z5, hw''⟩ := hw'
        subst hw''
        have M5 := M4.keep z5.below
        have B5 := B4.trans (z5.below.mono B4.size)
        have BV5 := BV.trans (z5.below.mono BV.size)
        clear d0 d1 M4 B4 BV
        generalize z5.val = W5 at *
        go_wp2_with fail
        go_roundw
        case rel =>
          refine ⟨j + 1, by omega, by go_num, fun x h v1 u1 hv1 hu1 => ?_, BV5⟩
          by_cases hx : x < j
          · exact HG.out x hx v1 u1 hv1 hu1
          · obtain rfl : x = j := by omega
            rw [HE.out.1] at hv1
            rw [HE.out.2] at hu1
            cases hv1
            cases hu1
            exact hi
        case measure => simp [intOf]; omega
      · obtain rfl : j = vs.length := by omega
        have hok : okA vs ws = true := okA_yes HL.out HG.out
        have hop : 1 ≤ op ∧ op ≤ 13 := Classical.byContradiction fun h => hw0.out (wid_out h)
        obtain ⟨m, rfl⟩ := Int.eq_ofNat_of_zero_le (by omega : 0 ≤ op)
        have hm13 : 1 ≤ m ∧ m ≤ 13 := by omega
        have hl : ws.length = arity m := Classical.byContradiction fun hc => hw0.out (wid_bad hc hm13)
        obtain ⟨hw, hr⟩ := wid_ne hw0.out
        have HP : Hid (apV (m : Int) ws k n vs = (val m ws k n (vs.map Int.toNat) : Int) ∧ apE (m : Int) ws k n vs = 0) := Lib.hid ⟨if_pos ⟨hw0.out, hok⟩, if_pos ⟨hw0.out, hok⟩⟩
        have hAA := Lib.hid (HA'.out)
        clear HA' HG hlt hj e1 hop hw0
        rcases ops13 hm13 with rfl | rfl | rfl | rfl | rfl | rfl | rfl | rfl | rfl | rfl | rfl | rfl | rfl
        · obtain rfl := len0 hl
          obtain rfl := len0 (HL.out)
          have h1 : raw 1 [] k n = if 0 ≤ k ∧ k ≤ mask n then n else 0 := rfl
          rw [h1] at hr
          have h2 : 0 ≤ k := by
            by_cases hc : 0 ≤ k ∧ k ≤ mask n
            · exact hc.1
            · rw [if_neg hc] at hr; cases hr
          obtain ⟨kk, rfl⟩ := Int.eq_ofNat_of_zero_le h2
          obtain ⟨u, hu⟩ : ∃ u : Int, u = (kk : Int) := ⟨_, rfl⟩
          have HQ : Hid (apV ((1 : Nat) : Int) [] (kk : Int) n [] = u ∧ apE ((1 : Nat) : Int) [] (kk : Int) n [] = 0) := Lib.hid ⟨HP.out.1.trans (hu.trans (by rfl)).symm, HP.out.2⟩
          have HQ2 : Hid (apV 1 [] (kk : Int) n [] = u ∧ apE 1 [] (kk : Int) n [] = 0) := Lib.hid HQ.out
          have cn := (B4.cell (p := ⟨b0, o0, none⟩) hl0).trans HK.out.1
          rw [← hu] at cn
          clear hu HP hr h1 h2
          obtain ⟨r0, r1⟩ := M4.c2
          obtain ⟨f0, f1⟩ := M4.f2
          go_wp2_with fail
          have hR := M4.s2 (.int .i64 u) (.int .i64 0)
          obtain ⟨s0, s1⟩ := hR.c2
          first | rw [HQ.out.1, HQ.out.2] | rw [HQ2.out.1, HQ2.out.2]
          exact bodyPost_ret (v := .agg #[.int .i64 u, .int .i64 0]) (by simp [results, Try.results13, go_sem, s0, s1]) rfl ⟨rfl, below_s2 B4 (by omega) _ _⟩
        · obtain ⟨a, rfl⟩ := len1 hl
          obtain ⟨x, rfl, hv0⟩ := okA1 hok
          simp only [List.all_cons, List.all_nil, Bool.and_true, Bool.and_eq_true] at hw
          obtain ⟨rfl, hbs', hc'⟩ := HB'.out (by simp)
          obtain ⟨m0, a0, rfl, rfl, ha0, hm0⟩ := nat_of hw hv0
          obtain ⟨u, hu⟩ : ∃ u : Int, u = ((2 ^ a0 - 1 - m0 : Nat) : Int) := ⟨_, rfl⟩
          have HQ : Hid (apV ((2 : Nat) : Int) [(a0 : Int)] k n [(m0 : Int)] = u ∧ apE ((2 : Nat) : Int) [(a0 : Int)] k n [(m0 : Int)] = 0) := Lib.hid ⟨HP.out.1.trans (hu.trans (by rfl)).symm, HP.out.2⟩
          have HQ2 : Hid (apV 2 [(a0 : Int)] k n [(m0 : Int)] = u ∧ apE 2 [(a0 : Int)] k n [(m0 : Int)] = 0) := Lib.hid HQ.out
          have hv := Lib.hid (fun W (hW : Below W3.heap.size W3 W) => rv2 A' c' a0 m0 0 W (hAA.out.keep (B3.trans (hW.mono B3.size))) ha0 hm0)
          rw [← hu] at hv
          have hw0 := hc' 0 _ rfl
          clear hu HP hc' hr HB HB' hAA
          have d0 := (BV.cell (p := ⟨b', o', none⟩) hbs').trans hw0
          go_wp2_with fail
          refine (hv.out _ BV).mono ?_
          rintro e W8 ⟨rfl, hb8⟩
          have M8 := M4.keep hb8
          have B8 := B4.trans (hb8.mono B4.size)
          clear d0
          obtain ⟨r0, r1⟩ := M8.c2
          obtain ⟨f0, f1⟩ := M8.f2
          go_wp2_with fail
          have hR := M8.s2 (.int .i64 u) (.int .i64 0)
          obtain ⟨s0, s1⟩ := hR.c2
          first | rw [HQ.out.1, HQ.out.2] | rw [HQ2.out.1, HQ2.out.2]
          exact bodyPost_ret (v := .agg #[.int .i64 u, .int .i64 0]) (by simp [results, Try.results13, go_sem, s0, s1]) rfl ⟨rfl, below_s2 B8 (by omega) _ _⟩
        · obtain ⟨a, b, rfl⟩ := len2 hl
          obtain ⟨x, y, rfl, hv0, hv1⟩ := okA2 hok
          simp only [List.all_cons, List.all_nil, Bool.and_true, Bool.and_eq_true] at hw
          obtain ⟨rfl, hbs', hc'⟩ := HB'.out (by simp)
          obtain ⟨m0, a0, rfl, rfl, ha0, hm0⟩ := nat_of hw.1 hv0
          obtain ⟨m1, a1, rfl, rfl, ha1, hm1⟩ := nat_of hw.2 hv1
          obtain ⟨u, hu⟩ : ∃ u : Int, u = ((m0 &&& m1 : Nat) : Int) := ⟨_, rfl⟩
          have HQ : Hid (apV ((3 : Nat) : Int) [(a0 : Int), (a1 : Int)] k n [(m0 : Int), (m1 : Int)] = u ∧ apE ((3 : Nat) : Int) [(a0 : Int), (a1 : Int)] k n [(m0 : Int), (m1 : Int)] = 0) := Lib.hid ⟨HP.out.1.trans (hu.trans (by rfl)).symm, HP.out.2⟩
          have HQ2 : Hid (apV 3 [(a0 : Int), (a1 : Int)] k n [(m0 : Int), (m1 : Int)] = u ∧ apE 3 [(a0 : Int), (a1 : Int)] k n [(m0 : Int), (m1 : Int)] = 0) := Lib.hid HQ.out
          have hv := Lib.hid (fun W (hW : Below W3.heap.size W3 W) => rv3 A' c' a0 m0 m1 0 W (hAA.out.keep (B3.trans (hW.mono B3.size))) ha0 (low8 ha0.2 hm0) (low8 ha1.2 hm1))
          rw [← hu] at hv
          have hw0 := hc' 0 _ rfl
          clear hu HP hc' hr HB HB' hAA
          have d0 := (BV.cell (p := ⟨b', o', none⟩) hbs').trans hw0
          go_wp2_with fail
          refine (hv.out _ BV).mono ?_
          rintro e W8 ⟨rfl, hb8⟩
          have M8 := M4.keep hb8
          have B8 := B4.trans (hb8.mono B4.size)
          clear d0
          obtain ⟨r0, r1⟩ := M8.c2
          obtain ⟨f0, f1⟩ := M8.f2
          go_wp2_with fail
          have hR := M8.s2 (.int .i64 u) (.int .i64 0)
          obtain ⟨s0, s1⟩ := hR.c2
          first | rw [HQ.out.1, HQ.out.2] | rw [HQ2.out.1, HQ2.out.2]
          exact bodyPost_ret (v := .agg #[.int .i64 u, .int .i64 0]) (by simp [results, Try.results13, go_sem, s0, s1]) rfl ⟨rfl, below_s2 B8 (by omega) _ _⟩
        · obtain ⟨a, b, rfl⟩ := len2 hl
          obtain ⟨x, y, rfl, hv0, hv1⟩ := okA2 hok
          simp only [List.all_cons, List.all_nil, Bool.and_true, Bool.and_eq_true] at hw
          obtain ⟨rfl, hbs', hc'⟩ := HB'.out (by simp)
          obtain ⟨m0, a0, rfl, rfl, ha0, hm0⟩ := nat_of hw.1 hv0
          obtain ⟨m1, a1, rfl, rfl, ha1, hm1⟩ := nat_of hw.2 hv1
          obtain ⟨u, hu⟩ : ∃ u : Int, u = ((m0 ||| m1 : Nat) : Int) := ⟨_, rfl⟩
          have HQ : Hid (apV ((4 : Nat) : Int) [(a0 : Int), (a1 : Int)] k n [(m0 : Int), (m1 : Int)] = u ∧ apE ((4 : Nat) : Int) [(a0 : Int), (a1 : Int)] k n [(m0 : Int), (m1 : Int)] = 0) := Lib.hid ⟨HP.out.1.trans (hu.trans (by rfl)).symm, HP.out.2⟩
          have HQ2 : Hid (apV 4 [(a0 : Int), (a1 : Int)] k n [(m0 : Int), (m1 : Int)] = u ∧ apE 4 [(a0 : Int), (a1 : Int)] k n [(m0 : Int), (m1 : Int)] = 0) := Lib.hid HQ.out
          have hv := Lib.hid (fun W (hW : Below W3.heap.size W3 W) => rv4 A' c' a0 m0 m1 0 W (hAA.out.keep (B3.trans (hW.mono B3.size))) ha0 (low8 ha0.2 hm0) (low8 ha1.2 hm1))
          rw [← hu] at hv
          have hw0 := hc' 0 _ rfl
          clear hu HP hc' hr HB HB' hAA
          have d0 := (BV.cell (p := ⟨b', o', none⟩) hbs').trans hw0
          go_wp2_with fail
          refine (hv.out _ BV).mono ?_
          rintro e W8 ⟨rfl, hb8⟩
          have M8 := M4.keep hb8
          have B8 := B4.trans (hb8.mono B4.size)
          clear d0
          obtain ⟨r0, r1⟩ := M8.c2
          obtain ⟨f0, f1⟩ := M8.f2
          go_wp2_with fail
          have hR := M8.s2 (.int .i64 u) (.int .i64 0)
          obtain ⟨s0, s1⟩ := hR.c2
          first | rw [HQ.out.1, HQ.out.2] | rw [HQ2.out.1, HQ2.out.2]
          exact bodyPost_ret (v := .agg #[.int .i64 u, .int .i64 0]) (by simp [results, Try.results13, go_sem, s0, s1]) rfl ⟨rfl, below_s2 B8 (by omega) _ _⟩
        · obtain ⟨a, b, rfl⟩ := len2 hl
          obtain ⟨x, y, rfl, hv0, hv1⟩ := okA2 hok
          simp only [List.all_cons, List.all_nil, Bool.and_true, Bool.and_eq_true] at hw
          obtain ⟨rfl, hbs', hc'⟩ := HB'.out (by simp)
          obtain ⟨m0, a0, rfl, rfl, ha0, hm0⟩ := nat_of hw.1 hv0
          obtain ⟨m1, a1, rfl, rfl, ha1, hm1⟩ := nat_of hw.2 hv1
          obtain ⟨u, hu⟩ : ∃ u : Int, u = ((m0 ^^^ m1 : Nat) : Int) := ⟨_, rfl⟩
          have HQ : Hid (apV ((5 : Nat) : Int) [(a0 : Int), (a1 : Int)] k n [(m0 : Int), (m1 : Int)] = u ∧ apE ((5 : Nat) : Int) [(a0 : Int), (a1 : Int)] k n [(m0 : Int), (m1 : Int)] = 0) := Lib.hid ⟨HP.out.1.trans (hu.trans (by rfl)).symm, HP.out.2⟩
          have HQ2 : Hid (apV 5 [(a0 : Int), (a1 : Int)] k n [(m0 : Int), (m1 : Int)] = u ∧ apE 5 [(a0 : Int), (a1 : Int)] k n [(m0 : Int), (m1 : Int)] = 0) := Lib.hid HQ.out
          have hv := Lib.hid (fun W (hW : Below W3.heap.size W3 W) => rv5 A' c' a0 m0 m1 0 W (hAA.out.keep (B3.trans (hW.mono B3.size))) ha0 (low8 ha0.2 hm0) (low8 ha1.2 hm1))
          rw [← hu] at hv
          have hw0 := hc' 0 _ rfl
          clear hu HP hc' hr HB HB' hAA
          have d0 := (BV.cell (p := ⟨b', o', none⟩) hbs').trans hw0
          go_wp2_with fail
          refine (hv.out _ BV).mono ?_
          rintro e W8 ⟨rfl, hb8⟩
          have M8 := M4.keep hb8
          have B8 := B4.trans (hb8.mono B4.size)
          clear d0
          obtain ⟨r0, r1⟩ := M8.c2
          obtain ⟨f0, f1⟩ := M8.f2
          go_wp2_with fail
          have hR := M8.s2 (.int .i64 u) (.int .i64 0)
          obtain ⟨s0, s1⟩ := hR.c2
          first | rw [HQ.out.1, HQ.out.2] | rw [HQ2.out.1, HQ2.out.2]
          exact bodyPost_ret (v := .agg #[.int .i64 u, .int .i64 0]) (by simp [results, Try.results13, go_sem, s0, s1]) rfl ⟨rfl, below_s2 B8 (by omega) _ _⟩
        · obtain ⟨a, b, rfl⟩ := len2 hl
          obtain ⟨x, y, rfl, hv0, hv1⟩ := okA2 hok
          simp only [List.all_cons, List.all_nil, Bool.and_true, Bool.and_eq_true] at hw
          obtain ⟨rfl, hbs', hc'⟩ := HB'.out (by simp)
          obtain ⟨m0, a0, rfl, rfl, ha0, hm0⟩ := nat_of hw.1 hv0
          obtain ⟨m1, a1, rfl, rfl, ha1, hm1⟩ := nat_of hw.2 hv1
          obtain ⟨u, hu⟩ : ∃ u : Int, u = (((m0 + m1) % 2 ^ a0 : Nat) : Int) := ⟨_, rfl⟩
          have HQ : Hid (apV ((6 : Nat) : Int) [(a0 : Int), (a1 : Int)] k n [(m0 : Int), (m1 : Int)] = u ∧ apE ((6 : Nat) : Int) [(a0 : Int), (a1 : Int)] k n [(m0 : Int), (m1 : Int)] = 0) := Lib.hid ⟨HP.out.1.trans (hu.trans (by rfl)).symm, HP.out.2⟩
          have HQ2 : Hid (apV 6 [(a0 : Int), (a1 : Int)] k n [(m0 : Int), (m1 : Int)] = u ∧ apE 6 [(a0 : Int), (a1 : Int)] k n [(m0 : Int), (m1 : Int)] = 0) := Lib.hid HQ.out
          have hv := Lib.hid (fun W (hW : Below W3.heap.size W3 W) => rv6 A' c' a0 m0 m1 0 W (hAA.out.keep (B3.trans (hW.mono B3.size))) ha0 (low8 ha0.2 hm0) (low8 ha1.2 hm1))
          rw [← hu] at hv
          have hw0 := hc' 0 _ rfl
          clear hu HP hc' hr HB HB' hAA
          have d0 := (BV.cell (p := ⟨b', o', none⟩) hbs').trans hw0
          go_wp2_with fail
          refine (hv.out _ BV).mono ?_
          rintro e W8 ⟨rfl, hb8⟩
          have M8 := M4.keep hb8
          have B8 := B4.trans (hb8.mono B4.size)
          clear d0
          obtain ⟨r0, r1⟩ := M8.c2
          obtain ⟨f0, f1⟩ := M8.f2
          go_wp2_with fail
          have hR := M8.s2 (.int .i64 u) (.int .i64 0)
          obtain ⟨s0, s1⟩ := hR.c2
          first | rw [HQ.out.1, HQ.out.2] | rw [HQ2.out.1, HQ2.out.2]
          exact bodyPost_ret (v := .agg #[.int .i64 u, .int .i64 0]) (by simp [results, Try.results13, go_sem, s0, s1]) rfl ⟨rfl, below_s2 B8 (by omega) _ _⟩
        · obtain ⟨a, b, rfl⟩ := len2 hl
          obtain ⟨x, y, rfl, hv0, hv1⟩ := okA2 hok
          simp only [List.all_cons, List.all_nil, Bool.and_true, Bool.and_eq_true] at hw
          obtain ⟨rfl, hbs', hc'⟩ := HB'.out (by simp)
          have hab : b = a := by
            have h1 : raw 7 [a, b] k n = if b = a then a else 0 := rfl
            rw [h1] at hr
            exact Classical.byContradiction fun hc => by rw [if_neg hc] at hr; cases hr
          subst hab
          obtain ⟨m0, a0, rfl, rfl, ha0, hm0⟩ := nat_of hw.1 hv0
          obtain ⟨m1, a1, rfl, ha1x, ha1, hm1⟩ := nat_of hw.1 hv1
          obtain rfl : a1 = a0 := by omega
          obtain ⟨u, hu⟩ : ∃ u : Int, u = (((m0 + 2 ^ a1 - m1) % 2 ^ a1 : Nat) : Int) := ⟨_, rfl⟩
          have HQ : Hid (apV ((7 : Nat) : Int) [(a1 : Int), (a1 : Int)] k n [(m0 : Int), (m1 : Int)] = u ∧ apE ((7 : Nat) : Int) [(a1 : Int), (a1 : Int)] k n [(m0 : Int), (m1 : Int)] = 0) := Lib.hid ⟨HP.out.1.trans (hu.trans (by rfl)).symm, HP.out.2⟩
          have HQ2 : Hid (apV 7 [(a1 : Int), (a1 : Int)] k n [(m0 : Int), (m1 : Int)] = u ∧ apE 7 [(a1 : Int), (a1 : Int)] k n [(m0 : Int), (m1 : Int)] = 0) := Lib.hid HQ.out
          have hv := Lib.hid (fun W (hW : Below W3.heap.size W3 W) => rv7 A' c' a1 m0 m1 0 W (hAA.out.keep (B3.trans (hW.mono B3.size))) ha0 hm0 hm1)
          rw [← hu] at hv
          have hw0 := hc' 0 _ rfl
          clear hu HP hc' hr HB HB' hAA
          have d0 := (BV.cell (p := ⟨b', o', none⟩) hbs').trans hw0
          go_wp2_with fail
          refine (hv.out _ BV).mono ?_
          rintro e W8 ⟨rfl, hb8⟩
          have M8 := M4.keep hb8
          have B8 := B4.trans (hb8.mono B4.size)
          clear d0
          obtain ⟨r0, r1⟩ := M8.c2
          obtain ⟨f0, f1⟩ := M8.f2
          go_wp2_with fail
          have hR := M8.s2 (.int .i64 u) (.int .i64 0)
          obtain ⟨s0, s1⟩ := hR.c2
          first | rw [HQ.out.1, HQ.out.2] | rw [HQ2.out.1, HQ2.out.2]
          exact bodyPost_ret (v := .agg #[.int .i64 u, .int .i64 0]) (by simp [results, Try.results13, go_sem, s0, s1]) rfl ⟨rfl, below_s2 B8 (by omega) _ _⟩
        · obtain ⟨a, b, rfl⟩ := len2 hl
          obtain ⟨x, y, rfl, hv0, hv1⟩ := okA2 hok
          simp only [List.all_cons, List.all_nil, Bool.and_true, Bool.and_eq_true] at hw
          obtain ⟨rfl, hbs', hc'⟩ := HB'.out (by simp)
          obtain ⟨m0, a0, rfl, rfl, ha0, hm0⟩ := nat_of hw.1 hv0
          obtain ⟨m1, a1, rfl, rfl, ha1, hm1⟩ := nat_of hw.2 hv1
          obtain ⟨u, hu⟩ : ∃ u : Int, u = ((if m0 = m1 then 1 else 0 : Nat) : Int) := ⟨_, rfl⟩
          have HQ : Hid (apV ((8 : Nat) : Int) [(a0 : Int), (a1 : Int)] k n [(m0 : Int), (m1 : Int)] = u ∧ apE ((8 : Nat) : Int) [(a0 : Int), (a1 : Int)] k n [(m0 : Int), (m1 : Int)] = 0) := Lib.hid ⟨HP.out.1.trans (hu.trans (by rfl)).symm, HP.out.2⟩
          have HQ2 : Hid (apV 8 [(a0 : Int), (a1 : Int)] k n [(m0 : Int), (m1 : Int)] = u ∧ apE 8 [(a0 : Int), (a1 : Int)] k n [(m0 : Int), (m1 : Int)] = 0) := Lib.hid HQ.out
          have hv := Lib.hid (fun W (hW : Below W3.heap.size W3 W) => rv8 A' c' a0 m0 m1 0 W (hAA.out.keep (B3.trans (hW.mono B3.size))) ha0)
          rw [← hu] at hv
          have hw0 := hc' 0 _ rfl
          clear hu HP hc' hr HB HB' hAA
          have d0 := (BV.cell (p := ⟨b', o', none⟩) hbs').trans hw0
          go_wp2_with fail
          refine (hv.out _ BV).mono ?_
          rintro e W8 ⟨rfl, hb8⟩
          have M8 := M4.keep hb8
          have B8 := B4.trans (hb8.mono B4.size)
          clear d0
          obtain ⟨r0, r1⟩ := M8.c2
          obtain ⟨f0, f1⟩ := M8.f2
          go_wp2_with fail
          have hR := M8.s2 (.int .i64 u) (.int .i64 0)
          obtain ⟨s0, s1⟩ := hR.c2
          first | rw [HQ.out.1, HQ.out.2] | rw [HQ2.out.1, HQ2.out.2]
          exact bodyPost_ret (v := .agg #[.int .i64 u, .int .i64 0]) (by simp [results, Try.results13, go_sem, s0, s1]) rfl ⟨rfl, below_s2 B8 (by omega) _ _⟩
        · obtain ⟨a, b, rfl⟩ := len2 hl
          obtain ⟨x, y, rfl, hv0, hv1⟩ := okA2 hok
          simp only [List.all_cons, List.all_nil, Bool.and_true, Bool.and_eq_true] at hw
          obtain ⟨rfl, hbs', hc'⟩ := HB'.out (by simp)
          obtain ⟨m0, a0, rfl, rfl, ha0, hm0⟩ := nat_of hw.1 hv0
          obtain ⟨m1, a1, rfl, rfl, ha1, hm1⟩ := nat_of hw.2 hv1
          obtain ⟨u, hu⟩ : ∃ u : Int, u = ((if m0 < m1 then 1 else 0 : Nat) : Int) := ⟨_, rfl⟩
          have HQ : Hid (apV ((9 : Nat) : Int) [(a0 : Int), (a1 : Int)] k n [(m0 : Int), (m1 : Int)] = u ∧ apE ((9 : Nat) : Int) [(a0 : Int), (a1 : Int)] k n [(m0 : Int), (m1 : Int)] = 0) := Lib.hid ⟨HP.out.1.trans (hu.trans (by rfl)).symm, HP.out.2⟩
          have HQ2 : Hid (apV 9 [(a0 : Int), (a1 : Int)] k n [(m0 : Int), (m1 : Int)] = u ∧ apE 9 [(a0 : Int), (a1 : Int)] k n [(m0 : Int), (m1 : Int)] = 0) := Lib.hid HQ.out
          have hv := Lib.hid (fun W (hW : Below W3.heap.size W3 W) => rv9 A' c' a0 m0 m1 0 W (hAA.out.keep (B3.trans (hW.mono B3.size))) ha0)
          rw [← hu] at hv
          have hw0 := hc' 0 _ rfl
          clear hu HP hc' hr HB HB' hAA
          have d0 := (BV.cell (p := ⟨b', o', none⟩) hbs').trans hw0
          go_wp2_with fail
          refine (hv.out _ BV).mono ?_
          rintro e W8 ⟨rfl, hb8⟩
          have M8 := M4.keep hb8
          have B8 := B4.trans (hb8.mono B4.size)
          clear d0
          obtain ⟨r0, r1⟩ := M8.c2
          obtain ⟨f0, f1⟩ := M8.f2
          go_wp2_with fail
          have hR := M8.s2 (.int .i64 u) (.int .i64 0)
          obtain ⟨s0, s1⟩ := hR.c2
          first | rw [HQ.out.1, HQ.out.2] | rw [HQ2.out.1, HQ2.out.2]
          exact bodyPost_ret (v := .agg #[.int .i64 u, .int .i64 0]) (by simp [results, Try.results13, go_sem, s0, s1]) rfl ⟨rfl, below_s2 B8 (by omega) _ _⟩
        · obtain ⟨a, b, d, rfl⟩ := len3 hl
          obtain ⟨x, y, z, rfl, hv0, hv1, hv2⟩ := okA3 hok
          simp only [List.all_cons, List.all_nil, Bool.and_true, Bool.and_eq_true] at hw
          obtain ⟨rfl, hbs', hc'⟩ := HB'.out (by simp)
          obtain ⟨m0, a0, rfl, rfl, ha0, hm0⟩ := nat_of hw.1 hv0
          obtain ⟨m1, a1, rfl, rfl, ha1, hm1⟩ := nat_of hw.2.1 hv1
          obtain ⟨m2, a2, rfl, rfl, ha2, hm2⟩ := nat_of hw.2.2 hv2
          obtain ⟨u, hu⟩ : ∃ u : Int, u = ((if m0 = 1 then m1 else m2 : Nat) : Int) := ⟨_, rfl⟩
          have HQ : Hid (apV ((10 : Nat) : Int) [(a0 : Int), (a1 : Int), (a2 : Int)] k n [(m0 : Int), (m1 : Int), (m2 : Int)] = u ∧ apE ((10 : Nat) : Int) [(a0 : Int), (a1 : Int), (a2 : Int)] k n [(m0 : Int), (m1 : Int), (m2 : Int)] = 0) := Lib.hid ⟨HP.out.1.trans (hu.trans (by rfl)).symm, HP.out.2⟩
          have HQ2 : Hid (apV 10 [(a0 : Int), (a1 : Int), (a2 : Int)] k n [(m0 : Int), (m1 : Int), (m2 : Int)] = u ∧ apE 10 [(a0 : Int), (a1 : Int), (a2 : Int)] k n [(m0 : Int), (m1 : Int), (m2 : Int)] = 0) := Lib.hid HQ.out
          have hv := Lib.hid (fun W (hW : Below W3.heap.size W3 W) => rv10 A' c' a0 m0 m1 m2 0 W (hAA.out.keep (B3.trans (hW.mono B3.size))) ha0)
          rw [← hu] at hv
          have hw0 := hc' 0 _ rfl
          clear hu HP hc' hr HB HB' hAA
          have d0 := (BV.cell (p := ⟨b', o', none⟩) hbs').trans hw0
          go_wp2_with fail
          refine (hv.out _ BV).mono ?_
          rintro e W8 ⟨rfl, hb8⟩
          have M8 := M4.keep hb8
          have B8 := B4.trans (hb8.mono B4.size)
          clear d0
          obtain ⟨r0, r1⟩ := M8.c2
          obtain ⟨f0, f1⟩ := M8.f2
          go_wp2_with fail
          have hR := M8.s2 (.int .i64 u) (.int .i64 0)
          obtain ⟨s0, s1⟩ := hR.c2
          first | rw [HQ.out.1, HQ.out.2] | rw [HQ2.out.1, HQ2.out.2]
          exact bodyPost_ret (v := .agg #[.int .i64 u, .int .i64 0]) (by simp [results, Try.results13, go_sem, s0, s1]) rfl ⟨rfl, below_s2 B8 (by omega) _ _⟩
        · obtain ⟨a, b, rfl⟩ := len2 hl
          obtain ⟨x, y, rfl, hv0, hv1⟩ := okA2 hok
          simp only [List.all_cons, List.all_nil, Bool.and_true, Bool.and_eq_true] at hw
          obtain ⟨rfl, hbs', hc'⟩ := HB'.out (by simp)
          obtain ⟨m0, a0, rfl, rfl, ha0, hm0⟩ := nat_of hw.1 hv0
          obtain ⟨m1, a1, rfl, rfl, ha1, hm1⟩ := nat_of hw.2 hv1
          obtain ⟨u, hu⟩ : ∃ u : Int, u = ((m0 * 2 ^ a1 + m1 : Nat) : Int) := ⟨_, rfl⟩
          have HQ : Hid (apV ((11 : Nat) : Int) [(a0 : Int), (a1 : Int)] k n [(m0 : Int), (m1 : Int)] = u ∧ apE ((11 : Nat) : Int) [(a0 : Int), (a1 : Int)] k n [(m0 : Int), (m1 : Int)] = 0) := Lib.hid ⟨HP.out.1.trans (hu.trans (by rfl)).symm, HP.out.2⟩
          have HQ2 : Hid (apV 11 [(a0 : Int), (a1 : Int)] k n [(m0 : Int), (m1 : Int)] = u ∧ apE 11 [(a0 : Int), (a1 : Int)] k n [(m0 : Int), (m1 : Int)] = 0) := Lib.hid HQ.out
          have hv := Lib.hid (fun W (hW : Below W3.heap.size W3 W) => rv11 A' c' a0 a1 m0 m1 W (hAA.out.keep (B3.trans (hW.mono B3.size))) ha0 ha1 (low8 ha0.2 hm0) hm1)
          rw [← hu] at hv
          have hw0 := hc' 0 _ rfl
          have hw1 := hc' 1 _ rfl
          clear hu HP hc' hr HB HB' hAA
          go_upto_region 20 with fail
          simp only [List.length_cons, List.length_nil, Nat.reduceAdd, Nat.zero_add]
          refine wp_region_free0 (agf := ?f11) 11 (by kernel_rfl) [] (by kernel_rfl) (fun d _ _ _ _ h => by cases d <;> exact h) ?f111 ?f112
          case f111 =>
            intro W hW
            have d0 := fun pp : Later W => ((BV.trans ((hW.trans (pp.below.mono hW.size)).mono BV.size)).cell (p := ⟨b', o', none⟩) hbs').trans hw0
            have d1 := fun pp : Later W => ((BV.trans ((hW.trans (pp.below.mono hW.size)).mono BV.size)).cell (p := ⟨b', o' + 1, none⟩) hbs').trans hw1
            have H4 := Lib.hid (fun pp : Later W => hv.out pp.val (BV.trans ((hW.trans (pp.below.mono hW.size)).mono BV.size)))
            simp only [List.take_succ_cons, List.take_zero, ghostL, List.contains_cons, List.contains_nil, Nat.reduceAdd, Nat.reduceBEq, Bool.or_false, Bool.or_true, Bool.true_or, Bool.false_or, Bool.false_eq_true, if_false, if_true, ghostO]
            repeat (go_big_quiet_step (((go_at_call 33; with_reducible exact later_of (H4.out _)))))
            refine wpQuiet_nil ?_
            rfl
          case f112 =>
            intro ZZ hzz
            simp only [List.drop_succ_cons, List.drop_zero, Act.put, List.setIfInBounds_toArray, List.set_cons_succ, List.set_cons_zero]
            have M8 := M4.keep hzz
            have B8 := B4.trans (hzz.mono B4.size)
            obtain ⟨r0, r1⟩ := M8.c2
            obtain ⟨f0, f1⟩ := M8.f2
            go_wp2_with fail
            have hR := M8.s2 (.int .i64 u) (.int .i64 0)
            obtain ⟨s0, s1⟩ := hR.c2
            first | rw [HQ.out.1, HQ.out.2] | rw [HQ2.out.1, HQ2.out.2]
            exact bodyPost_ret (v := .agg #[.int .i64 u, .int .i64 0]) (by simp [results, Try.results13, go_sem, s0, s1]) rfl ⟨rfl, below_s2 B8 (by omega) _ _⟩
        · obtain ⟨a, rfl⟩ := len1 hl
          obtain ⟨x, rfl, hv0⟩ := okA1 hok
          simp only [List.all_cons, List.all_nil, Bool.and_true, Bool.and_eq_true] at hw
          obtain ⟨rfl, hbs, hc⟩ := HB.out (by simp)
          have h1 : raw 12 [a] k n = if 0 ≤ k ∧ k ≤ a - n then n else 0 := rfl
          rw [h1] at hr
          have hc1 : 0 ≤ k ∧ k ≤ a - n := Classical.byContradiction fun hc => by rw [if_neg hc] at hr; cases hr
          rw [if_pos hc1] at hr
          have h3 := isW_in hr
          obtain ⟨kk, rfl⟩ := Int.eq_ofNat_of_zero_le hc1.1
          obtain ⟨nn, rfl⟩ := Int.eq_ofNat_of_zero_le (by omega : 0 ≤ n)
          obtain ⟨m0, a0, rfl, rfl, ha0, hm0⟩ := nat_of hw hv0
          have hk8 : kk ≤ 8 := by omega
          have hx := (low8 ha0.2 hm0)
          obtain ⟨u, hu⟩ : ∃ u : Int, u = ((m0 / 2 ^ kk % 2 ^ nn : Nat) : Int) := ⟨_, rfl⟩
          have HQ : Hid (apV ((12 : Nat) : Int) [(a0 : Int)] (kk : Int) (nn : Int) [(m0 : Int)] = u ∧ apE ((12 : Nat) : Int) [(a0 : Int)] (kk : Int) (nn : Int) [(m0 : Int)] = 0) := Lib.hid ⟨HP.out.1.trans (hu.trans (by rfl)).symm, HP.out.2⟩
          have HQ2 : Hid (apV 12 [(a0 : Int)] (kk : Int) (nn : Int) [(m0 : Int)] = u ∧ apE 12 [(a0 : Int)] (kk : Int) (nn : Int) [(m0 : Int)] = 0) := Lib.hid HQ.out
          have hm := fun w => rmask_any (nn : Int) w
          rw [mask_nat (by omega)] at hm
          have hq : bits .and .i64 ((m0 : Int) / 2 ^ kk) ((2 : Int) ^ nn - 1) = u := by
            rw [and_mask _ _ (by omega), hu]; simp
          generalize (2 : Int) ^ nn - 1 = mm at *
          have hcx := hc 0 _ rfl
          clear hu HP hc h1 hr hc1 hn
          go_upto_region 16 with fail
          refine wp_region_free0 (agf := ?f12) 14 (by kernel_rfl) [] (by kernel_rfl) (fun d _ _ _ _ h => by cases d <;> exact h) ?f121 ?f122
          case f121 =>
            intro W hW
            have d0 := fun pp : Later W => ((BV.trans ((hW.trans (pp.below.mono hW.size)).mono BV.size)).cell (p := ⟨b, o, none⟩) hbs).trans hcx
            have d1 := fun pp : Later W => ((B4.trans ((hW.trans (pp.below.mono hW.size)).mono B4.size)).cell (p := ⟨b0, o0, none⟩) hl0).trans HK.out.1
            have d2 := fun pp : Later W => ((B4.trans ((hW.trans (pp.below.mono hW.size)).mono B4.size)).cell (p := ⟨b0, o0 + 1, none⟩) hl0).trans HK.out.2
            simp only [List.take_succ_cons, List.take_zero, ghostL, List.contains_cons, List.contains_nil, Nat.reduceAdd, Nat.reduceBEq, Bool.or_false, Bool.or_true, Bool.true_or, Bool.false_or, Bool.false_eq_true, if_false, if_true, ghostO]
            repeat (go_big_quiet_step ((go_at_call 15; with_reducible exact later_same (hm _))))
            refine wpQuiet_nil ?_
            rfl
          case f122 =>
            intro ZZ hzz
            simp only [List.drop_succ_cons, List.drop_zero, Act.put, List.setIfInBounds_toArray, List.set_cons_succ, List.set_cons_zero]
            have M8 := M4.keep hzz
            have B8 := B4.trans (hzz.mono B4.size)
            obtain ⟨r0, r1⟩ := M8.c2
            obtain ⟨f0, f1⟩ := M8.f2
            go_wp2_with fail
            have hR := M8.s2 (.int .i64 u) (.int .i64 0)
            obtain ⟨s0, s1⟩ := hR.c2
            first | rw [HQ.out.1, HQ.out.2] | rw [HQ2.out.1, HQ2.out.2]
            exact bodyPost_ret (v := .agg #[.int .i64 u, .int .i64 0]) (by simp [results, Try.results13, go_sem, s0, s1]) rfl ⟨rfl, below_s2 B8 (by omega) _ _⟩
        · obtain ⟨a, rfl⟩ := len1 hl
          obtain ⟨x, rfl, hv0⟩ := okA1 hok
          simp only [List.all_cons, List.all_nil, Bool.and_true, Bool.and_eq_true] at hw
          obtain ⟨rfl, hbs, hc⟩ := HB.out (by simp)
          obtain ⟨m0, a0, rfl, rfl, ha0, hm0⟩ := nat_of hw hv0
          obtain ⟨u, hu⟩ : ∃ u : Int, u = (m0 : Int) := ⟨_, rfl⟩
          have HQ : Hid (apV ((13 : Nat) : Int) [(a0 : Int)] k n [(m0 : Int)] = u ∧ apE ((13 : Nat) : Int) [(a0 : Int)] k n [(m0 : Int)] = 0) := Lib.hid ⟨HP.out.1.trans (hu.trans (by rfl)).symm, HP.out.2⟩
          have HQ2 : Hid (apV 13 [(a0 : Int)] k n [(m0 : Int)] = u ∧ apE 13 [(a0 : Int)] k n [(m0 : Int)] = 0) := Lib.hid HQ.out
          have cn := (BV.cell (p := ⟨b, o, none⟩) hbs).trans (hc 0 _ rfl)
          rw [← hu] at cn
          clear hu HP hc
          obtain ⟨r0, r1⟩ := M4.c2
          obtain ⟨f0, f1⟩ := M4.f2
          go_wp2_with fail
          have hR := M4.s2 (.int .i64 u) (.int .i64 0)
          obtain ⟨s0, s1⟩ := hR.c2
          first | rw [HQ.out.1, HQ.out.2] | rw [HQ2.out.1, HQ2.out.2]
          exact bodyPost_ret (v := .agg #[.int .i64 u, .int .i64 0]) (by simp [results, Try.results13, go_sem, s0, s1]) rfl ⟨rfl, below_s2 B4 (by omega) _ _⟩
theorem okA_len {vs ws : List Int} (h : ¬ vs.length = ws.length) : okA vs ws = false := by
  unfold okA
  rw [decide_eq_false h]; rfl
theorem rapply_any (op : Int) (A : Option Addr) (c : Nat) (ws : List Int) (A' : Option Addr) (c' : Nat) (vs : List Int) (A'' : Option Addr) (c'' : Nat) (num : List Int) (w : World) (hA : ArrI w A ws) (hlen : ws.length ≤ maxLen) (hA' : ArrI w A' vs) (hA'' : ArrI w A'' num)
    (hn : ∀ x ∈ num, -9223372036854775808 ≤ x ∧ x ≤ 9223372036854775807) :
    Calls Try.prog 13 #[.int .i64 op, .slice A ws.length c, .agg #[.slice A' vs.length c', .slice A'' num.length c'']] w fun e w' => e = .returned (.agg #[.int .i64 (apNV op ws vs num), .int .i64 (apNE op ws vs num)]) ∧ Below w.heap.size w w' := by
  by_cases h : num.length = 2
  · obtain ⟨k, n, rfl⟩ := len2 h
    by_cases hl : vs.length = ws.length
    · exact ain_two op A c ws A' c' vs A'' c'' k n w hA hlen hA' hl hA'' (hn n (by simp))
    · have := ain_len op A c ws A' c' vs A'' c'' w hl
      have e1 : apNV op ws vs [k, n] = 0 := if_neg (fun h => Bool.false_ne_true ((okA_len hl).symm.trans h.2))
      have e2 : apNE op ws vs [k, n] = 1 := if_neg (fun h => Bool.false_ne_true ((okA_len hl).symm.trans h.2))
      rw [e1, e2]
      exact this
  · rw [(apN_not h).1, (apN_not h).2]
    exact ain_num op A c ws A' c' vs A'' c'' num.length w h

end Bt
end Go.Proofs.Ytjfijhchnchfcaa
