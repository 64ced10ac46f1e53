/- SyntaxTokens. -/
import Derived.Test.YtggeepimihhpjaaGreatDoorUB
namespace Go.Proofs.YtggeepimihhpjaaGreatDoor
open Go.RowKit Go.Shelf Go.Lib Sl Fr Lx
namespace Sy
set_option linter.unusedVariables false
set_option linter.unusedSimpArgs false

theorem toks_of {T : By} (hl : T.length ≤ 8000) (hw : (lex 0 T).2 = none) : tksR T = (lex 0 T).1 ++ [endT T.length] := by
  unfold tksR
  rw [lexR_ok hl hw, if_neg (by simp)]
theorem toks_alike {s T : By} (h1 : s.length ≤ 8000) (h2 : (lex 0 s).2 = none) (h3 : T.length ≤ 8000) (h4 : (lex 0 T).2 = none) (h : (lex 0 T).1.map kt = (lex 0 s).1.map kt) : (tksR T).length = (tksR s).length ∧ 0 < (tksR s).length ∧ (tksR s).length ≤ s.length + 1 ∧
    ∀ (j : Nat) (t u : Tk), (tksR s)[j]? = some t → (tksR T)[j]? = some u → u.kind = t.kind ∧ u.text = t.text := by
  rw [toks_of h1 h2, toks_of h3 h4]
  have hl := congrArg List.length h
  rw [List.length_map, List.length_map] at hl
  have hle := lex_len s 0
  refine ⟨by simp [hl], by simp, by simp; exact hle, fun j t u ht hu => ?_⟩
  have hm : ((lex 0 T).1 ++ [endT T.length]).map kt = ((lex 0 s).1 ++ [endT s.length]).map kt := by rw [List.map_append, List.map_append, h]; rfl
  have := congrArg (fun l : List KT => l[j]?) hm
  simp only [List.getElem?_map, ht, hu, Option.map_some, Option.some.injEq] at this
  exact ⟨congrArg Prod.fst this, congrArg Prod.snd this⟩
theorem tok_math {s : By} {f : FileT} (hs : s.length ≤ 2000) (h : parseR s = (f, 0, 0)) : ∃ T, printR f = (T, 0) ∧ T.length ≤ 8000 ∧ parseR T = (f, 0, 0) ∧ (tksR T).length = (tksR s).length ∧ 0 < (tksR s).length ∧ (tksR s).length ≤ 10000 ∧
    ∀ (j : Nat) (t u : Tk), (tksR s)[j]? = some t → (tksR T)[j]? = some u → u.kind = t.kind ∧ u.text = t.text := by
  obtain ⟨T, a1, a2, a3, a4, a5, a6⟩ := print_parsed h hs
  obtain ⟨b1, b2, b3, b4⟩ := toks_alike (by omega) a4 a2 a3 a5
  exact ⟨T, a1, a2, a6, b1, b2, by omega, b4⟩
def tkB (n : Nat) (ts : List Tk) : FSpec := ⟨fun v => ∃ B c, v = .slice B n c, fun _ v wm => ∀ B c, v = .slice B n c → TokA wm B ts⟩
theorem tokens_n (s : ByteArray) (n : Nat) (w : World) (hs : s.size ≤ 281474976710656) (hv : VG w) (hn : (tksR (bys s)).length = n) :
    Calls Tryz.prog 13 #[.string s] w fun e w' => ∃ A c, e = .returned (.slice A n c) ∧ TokA w' A (tksR (bys s)) ∧ Below w.heap.size w w' := by
  refine (tokens_any s w hs hv.v).mono ?_
  rintro e w' ⟨A, c, rfl, h1, h2, hb⟩
  rw [hn]
  exact ⟨A, c, rfl, h2.arr, hb⟩

set_option maxRecDepth 100000 in
set_option maxHeartbeats 8000000 in
theorem tokens_walk (s : ByteArray) (w : World) (hs0 : s.size ≤ 2 ^ 63 - 1) (hv : VG w) : Calls Tryz.prog 5 #[.string s] w fun e w' => e = .returned (.bool true) ∧ Below w.heap.size w w' := by
  have HE := Lib.hid (examples_any w hv)
  have HV := Lib.hid (fun W (hb : Below w.heap.size w W) => hv.keep hb)
  obtain ⟨R, hR⟩ : ∃ R, parseR (bys s) = R := ⟨_, rfl⟩
  obtain ⟨f, a, er⟩ := R
  have HR := Lib.hid hR
  clear hR hv
  go_enter Tryz.func5, Tryz.ntmps5
  go_upto_region 2 with (go_at_call 9; refine HE.out.mono ?_; rintro e W1 ⟨rfl, b1⟩)
  have B1 := Lib.hid b1
  clear b1 HE
  by_cases g : 2000 < s.size
  · have e : decide ((2000 : Int) < (s.size : Int)) = true := decide_eq_true (by omega)
    go_wp2_with fail
    go_ret
    exact ⟨rfl, B1.out⟩
  have e0 : decide ((2000 : Int) < (s.size : Int)) = false := decide_eq_false (by omega)
  have hs : s.size ≤ 281474976710656 := by omega
  have HS := Lib.hid hs
  go_upto_region 7 with (go_at_call 16; refine (parsed_is hs (HV.out _ B1.out) HR.out).mono ?_; rintro e W2 ⟨A2, c2, rfl, hf2, hb2⟩)
  have bA := (Below.refl W2.heap.size W2).alloc (Nat.le_refl _) (.cells #[.slice A2 f.length c2, .int .i64 (a : Int), .int .i64 (er : Int)] 41)
  have mP := BoxL.new W2 #[.slice A2 f.length c2, .int .i64 (a : Int), .int .i64 (er : Int)] 41
  have B2 := B1.out.trans (hb2.mono B1.out.size)
  have HB := Lib.hid (B2.trans (bA.mono B2.size))
  have HF := Lib.hid (hf2.keep bA)
  obtain ⟨bp, hbp⟩ : ∃ b, b = W2.heap.size := ⟨_, rfl⟩
  rw [← hbp] at mP ⊢
  generalize W2.alloc (.cells #[.slice A2 f.length c2, .int .i64 (a : Int), .int .i64 (er : Int)] 41) = X at *
  have HM := Lib.hid mP
  have hlX := mP.lt
  clear mP bA hf2 hb2 B1 B2 hbp e0 hs hs0
  have hsl : (bys s).length ≤ 2000 := by rw [bys_len]; omega
  have HSL := Lib.hid hsl
  by_cases her : er = 0
  · subst her
    have hy := parse_yes (T := bys s) (by rw [HR.out])
    rw [HR.out] at hy
    injection hy with _ hy
    injection hy with hy _
    subst hy
    have HSM := Lib.hid (parsed_small HR.out)
    obtain ⟨T, hT1, hT2, hT3, hT4, hT5, hT6, hT7⟩ := tok_math hsl HR.out
    have HT1 := Lib.hid hT1
    have HT2 := Lib.hid hT2
    have HT3 := Lib.hid hT3
    have HT7 := Lib.hid hT7
    obtain ⟨n, hn⟩ : ∃ n, (tksR (bys s)).length = n := ⟨_, rfl⟩
    rw [hn] at hT4 hT5 hT6
    have HN1 := Lib.hid hn
    have HN2 := Lib.hid hT4
    clear hT1 hT2 hT3 hT4 hT7 hn hsl g
    obtain ⟨k0, k1, k2⟩ := HM.out.c3
    simp only [show ((0 : Nat) : Int) = 0 from rfl] at k1 k2
    go_upto_region 10 with (go_at_call 18; refine (printed_is HSM.out.1 HSM.out.2 HF.out (HV.out _ HB.out) HT1.out).mono ?_; rintro e W3 ⟨rfl, hb3⟩)
    have bA := (Below.refl W3.heap.size W3).alloc (Nat.le_refl _) (.cells #[.string ⟨T.toArray⟩, .int .i64 ((0 : Nat) : Int)] 33)
    have mT := BoxL.new W3 #[.string ⟨T.toArray⟩, .int .i64 ((0 : Nat) : Int)] 33
    have mP := (HM.out.keep hb3).keep bA
    have hf3 := (HF.out.keep hb3).keep bA
    have b3 := HB.out.trans (hb3.mono HB.out.size)
    have HB3 := Lib.hid (b3.trans (bA.mono b3.size))
    obtain ⟨bt, hbt⟩ : ∃ b, b = W3.heap.size := ⟨_, rfl⟩
    rw [← hbt] at mT
    have hsz : W3.heap.size < (W3.alloc (.cells #[.string ⟨T.toArray⟩, .int .i64 ((0 : Nat) : Int)] 33)).heap.size := by simp
    try rw [← hbt]
    simp only [show ((0 : Nat) : Int) = 0 from rfl] at mT mP
    generalize W3.alloc (.cells #[.string ⟨T.toArray⟩, .int .i64 ((0 : Nat) : Int)] 33) = Y at *
    clear hb3 bA b3 k0 k1 k2 HB HM HF hlX hbt hsz
    have HFY := Lib.hid hf3
    have HMP := Lib.hid mP
    have HMT := Lib.hid mT
    have z0 : ∀ wz, Below Y.heap.size Y wz → wz.cell? ⟨bt, 0, none⟩ = some (.string ⟨T.toArray⟩) := fun wz hz => (mT.keep hz).c2.1
    have C1 := fun wz (hz : Below Y.heap.size Y wz) => tokens_n s n wz HS.out (HV.out _ (HB3.out.trans (hz.mono HB3.out.size))) HN1.out
    have C2 := fun wz (hz : Below Y.heap.size Y wz) => tokens_n ⟨T.toArray⟩ n wz (by have := HT2.out; show T.length ≤ _; omega) (HV.out _ (HB3.out.trans (hz.mono HB3.out.size))) HN2.out
    clear hf3 mP mT
    refine wp_region_flow 5 [.det (.string s), tkB n (tksR (bys s)), .det (.pointer (some ⟨bt, 0, none⟩)), .det (.string ⟨T.toArray⟩), tkB n (tksR (bys ⟨T.toArray⟩))] (by kernel_rfl) (by kernel_rfl) rfl ?_
    simp only [List.take_succ_cons, List.take_zero, List.drop_succ_cons, List.drop_zero]
    refine flowL_det (fun wz hz hd => stepF_reads (by rfl) ?_) ?_
    · go_simp; try rfl
    simp only [Act.put, List.setIfInBounds_toArray, List.set_cons_zero, List.set_cons_succ]
    refine flowL_make (⟨_, none, 0, rfl⟩) (fun wz hz hd => stepF_walk (by rfl) (fun K hK => ?_)) (fun v hv => ?_)
    · go_wp2_with fail
      go_at_call 13
      refine (C1 wz hz).mono ?_
      rintro e w9 ⟨A9, c9, rfl, hf9, hb⟩
      exact hK.out _ _ ⟨A9, c9, rfl⟩ (fun B c e => by cases e; exact hf9) hb
    obtain ⟨A55, c55, rfl⟩ := hv
    simp only [Act.put, List.setIfInBounds_toArray, List.set_cons_zero, List.set_cons_succ]
    refine flowL_det (fun wz hz hd => stepF_reads (by rfl) ?_) ?_
    · go_simp; try rfl
    simp only [Act.put, List.setIfInBounds_toArray, List.set_cons_zero, List.set_cons_succ]
    refine flowL_det (fun wz hz hd => stepF_reads (by rfl) ?_) ?_
    · have q := z0 wz hz; go_simp; try rfl
    simp only [Act.put, List.setIfInBounds_toArray, List.set_cons_zero, List.set_cons_succ]
    refine flowL_make (⟨_, none, 0, rfl⟩) (fun wz hz hd => stepF_walk (by rfl) (fun K hK => ?_)) (fun v hv => ?_)
    · go_wp2_with fail
      go_at_call 13
      refine (C2 wz hz).mono ?_
      rintro e w9 ⟨A9, c9, rfl, hf9, hb⟩
      exact hK.out _ _ ⟨A9, c9, rfl⟩ (fun B c e => by cases e; exact hf9) hb
    obtain ⟨A58, c58, rfl⟩ := hv
    simp only [Act.put, List.setIfInBounds_toArray, List.set_cons_zero, List.set_cons_succ]
    intro W4 ps hb4 hK hap
    obtain ⟨hD1, _⟩ := hK 1 (by decide)
    obtain ⟨hD2, _⟩ := hK 4 (by decide)
    have HA := Lib.hid ((hD1.post A55 c55 rfl).keep hD1.since)
    have HA2 := Lib.hid ((hD2.post A58 c58 rfl).keep hD2.since)
    have HM4 := Lib.hid (HMP.out.keep hb4)
    have HT4 := Lib.hid (HMT.out.keep hb4)
    have HF4 := Lib.hid (HFY.out.keep hb4)
    have HB4 := Lib.hid (HB3.out.trans (hb4.mono HB3.out.size))
    clear hK hap hD1 hD2 hb4 z0 C1 C2 HMP HMT HFY HB3
    obtain ⟨k0, k1, k2⟩ := HM4.out.c3
    obtain ⟨q0, q1⟩ := HT4.out.c2
    have hn0 : ((n : Int) == 0) = false := by simp; omega
    have H0 : Hid (Below W4.heap.size W4 W4) := Lib.hid (Below.refl _ _)
    go_wp2_with fail
    clear k0 k1 k2 q0 q1
    go_loopw [8] (fun i W => ∃ j : Nat, i = .int .i64 (j : Int) ∧ j ≤ n ∧ Below W4.heap.size W4 W) (fun i _ => n - (Go.Lib.intOf i).toNat)
    case atStart => exact ⟨0, rfl, Nat.zero_le _, H0.out⟩
    case round =>
      obtain ⟨j, rfl, hj, hbl⟩ := hrel
      have HBL := Lib.hid hbl
      clear hbl H0
      by_cases hlt : j < n
      · obtain ⟨t, ht⟩ := get_ex (l := tksR (bys s)) (j := j) (by rw [HN1.out]; exact hlt)
        obtain ⟨u, hu⟩ := get_ex (l := tksR T) (j := j) (by rw [show (tksR T).length = n from HN2.out]; exact hlt)
        obtain ⟨b, o, ho⟩ := HA.out.open
        obtain ⟨b', o', ho'⟩ := HA2.out.open
        obtain ⟨rfl, hbs, hc⟩ := ho (by intro h; rw [h] at ht; simp at ht)
        obtain ⟨rfl, hbs', hc'⟩ := ho' (by intro h; rw [show tksR T = [] from h] at hu; simp at hu)
        obtain ⟨g0, g1, g2⟩ := hc j t ht
        obtain ⟨g0', g1', g2'⟩ := hc' j u hu
        obtain ⟨e1, e2⟩ := HT7.out j t u ht hu
        rw [e1] at g0'
        rw [e2] at g1'
        have z0 := fun q : Later wr => (q.below.cell (p := ⟨b, o + j * 3, none⟩) (by have := HBL.out.size; exact Nat.lt_of_lt_of_le hbs this)).trans ((HBL.out.cell (p := ⟨b, o + j * 3, none⟩) hbs).trans g0)
        have z1 := fun q : Later wr => (q.below.cell (p := ⟨b, o + j * 3 + 1, none⟩) (by have := HBL.out.size; exact Nat.lt_of_lt_of_le hbs this)).trans ((HBL.out.cell (p := ⟨b, o + j * 3 + 1, none⟩) hbs).trans g1)
        have z0' := fun q : Later wr => (q.below.cell (p := ⟨b', o' + j * 3, none⟩) (by have := HBL.out.size; exact Nat.lt_of_lt_of_le hbs' this)).trans ((HBL.out.cell (p := ⟨b', o' + j * 3, none⟩) hbs').trans g0')
        have z1' := fun q : Later wr => (q.below.cell (p := ⟨b', o' + j * 3 + 1, none⟩) (by have := HBL.out.size; exact Nat.lt_of_lt_of_le hbs' this)).trans ((HBL.out.cell (p := ⟨b', o' + j * 3 + 1, none⟩) hbs').trans g1')
        clear hc hc' g0 g1 g2 g0' g1' g2' ht hu ho ho' e1 e2
        generalize t.kind = a0 at *
        generalize t.text = a1 at *
        have HBL2 := HBL
        clear HBL
        go_upto_region 16 with fail
        refine wp_region_later (by kernel_rfl) (by kernel_rfl) ?_
        repeat (go_big_quiet_step (fail))
        refine wpQuiet_nil ?_
        intro _ hw'
        obtain ⟨q, hw''⟩ := hw'
        subst hw''
        have HB5 := Lib.hid (HBL2.out.trans (q.below.mono HBL2.out.size))
        clear z0 z1 z0' z1'
        go_wp2_with fail
        go_roundw
        case rel => exact ⟨j + 1, by go_num, by omega, HB5.out⟩
        case measure => simp [Go.Lib.intOf]; omega
      · obtain rfl : j = n := by omega
        have HM5 := Lib.hid (HM4.out.keep HBL.out)
        have HT5 := Lib.hid (HT4.out.keep HBL.out)
        have HF5 := Lib.hid (HF4.out.keep HBL.out)
        have HB5 := Lib.hid (HB4.out.trans (HBL.out.mono HB4.out.size))
        clear HBL HM4 HT4 HF4 HB4 HA HA2
        go_upto_region 18 with fail
        have z0 : ∀ wz, Below wr.heap.size wr wz → wz.cell? ⟨bt, 0, none⟩ = some (.string ⟨T.toArray⟩) := fun wz hz => (HT5.out.keep hz).c2.1
        have y0 := fun wz (hz : Below wr.heap.size wr wz) => (HM5.out.keep hz).c3.1
        have y1 := fun wz (hz : Below wr.heap.size wr wz) => (HM5.out.keep hz).c3.2.1
        have y2 := fun wz (hz : Below wr.heap.size wr wz) => (HM5.out.keep hz).c3.2.2
        have FX := fun wz (hz : Below wr.heap.size wr wz) => HF5.out.keep hz
        have PA := fun wz (hz : Below wr.heap.size wr wz) => parsed_is (s := ⟨T.toArray⟩) (by have := HT2.out; show T.length ≤ _; omega) (HV.out _ (HB5.out.trans (hz.mono HB5.out.size))) HT3.out
        have hsm := HSM.out.2
        refine wp_region_flow 8 [.det (.pointer (some ⟨bt, 0, none⟩)), .det (.string ⟨T.toArray⟩), pdB f 0 0, .det (.agg #[.slice A2 f.length c2, .int .i64 0, .int .i64 0]), .det (.bool true), .det (.bool true), .det (.bool true), .det (.bool true)] (by kernel_rfl) (by kernel_rfl) rfl ?_
        simp only [List.take_succ_cons, List.take_zero, List.drop_succ_cons, List.drop_zero]
        refine flowL_det (fun wz hz hd => stepF_reads (by rfl) ?_) ?_
        · go_simp; try rfl
        simp only [Act.put, List.setIfInBounds_toArray, List.set_cons_zero, List.set_cons_succ]
        refine flowL_det (fun wz hz hd => stepF_reads (by rfl) ?_) ?_
        · have q := z0 wz hz; go_simp; try rfl
        simp only [Act.put, List.setIfInBounds_toArray, List.set_cons_zero, List.set_cons_succ]
        refine flowL_make (⟨_, none, 0, rfl⟩) (fun wz hz hd => stepF_walk (by rfl) (fun K hK => ?_)) (fun v hv => ?_)
        · go_wp2_with fail
          go_at_call 16
          refine (PA wz hz).mono ?_
          rintro e w9 ⟨A9, c9, rfl, hf9, hb⟩
          exact hK.out _ _ ⟨A9, c9, rfl⟩ (fun B c e => by cases e; exact hf9) hb
        obtain ⟨A111, c111, rfl⟩ := hv
        simp only [Act.put, List.setIfInBounds_toArray, List.set_cons_zero, List.set_cons_succ]
        refine flowL_det (fun wz hz hd => stepF_reads (by rfl) ?_) ?_
        · have r0 := y0 wz hz; have r1 := y1 wz hz; have r2 := y2 wz hz; go_simp; try rfl
        simp only [Act.put, List.setIfInBounds_toArray, List.set_cons_zero, List.set_cons_succ]
        refine flowL_det (fun wz hz hd => stepF_walk (by rfl) (fun K hK => ?_)) ?_
        · obtain ⟨p, hp⟩ := dep_of hd 2 (by decide +kernel)
          go_wp2_with fail
          go_at_call 15
          refine (same_yes f hsm 0 0 wz A111 A2 c111 c2 ((hp.post A111 c111 rfl).keep hp.since) (FX wz hz)).mono ?_
          rintro e w9 ⟨rfl, hb⟩
          exact hK.out _ _ rfl trivial hb
        simp only [Act.put, List.setIfInBounds_toArray, List.set_cons_zero, List.set_cons_succ]
        refine flowL_det (fun wz hz hd => stepF_reads (by rfl) ?_) ?_
        · go_simp; try rfl
        simp only [Act.put, List.setIfInBounds_toArray, List.set_cons_zero, List.set_cons_succ]
        refine flowL_det (fun wz hz hd => stepF_reads (by rfl) ?_) ?_
        · go_simp; try rfl
        simp only [Act.put, List.setIfInBounds_toArray, List.set_cons_zero, List.set_cons_succ]
        refine flowL_det (fun wz hz hd => stepF_reads (by rfl) ?_) ?_
        · go_simp; try rfl
        simp only [Act.put, List.setIfInBounds_toArray, List.set_cons_zero, List.set_cons_succ]
        intro W6 ps6 hb6 hK6 hap6
        have HB6 := Lib.hid (HB5.out.trans (hb6.mono HB5.out.size))
        clear hK6 hap6 z0 y0 y1 y2 FX PA
        go_wp2_with fail
        go_ret
        exact ⟨rfl, HB6.out⟩
  · obtain ⟨hn1, hn2, hn3⟩ := parse_no (T := bys s) (by rw [HR.out]; exact her) (by omega)
    rw [HR.out] at hn1 hn2 hn3
    replace hn1 : f = [] := hn1
    replace hn2 : er = 5 ∨ er = 90 := hn2
    replace hn3 : a ≤ (bys s).length := hn3
    rw [bys_len] at hn3
    subst hn1
    obtain ⟨k0, k1, k2⟩ := HM.out.c3
    rw [List.length_nil] at k0
    have p0 : decide ((0 : Int) ≤ (a : Int)) = true := decide_eq_true (by omega)
    have p1 : decide ((a : Int) ≤ (s.size : Int)) = true := decide_eq_true (by omega)
    rcases hn2 with rfl | rfl
    · simp only [show ((5 : Nat) : Int) = 5 from rfl] at k2
      go_wp2_with fail
      go_ret
      exact ⟨rfl, HB.out⟩
    · simp only [show ((90 : Nat) : Int) = 90 from rfl] at k2
      go_wp2_with fail
      go_ret
      exact ⟨rfl, HB.out⟩
end Sy
end Go.Proofs.YtggeepimihhpjaaGreatDoor
