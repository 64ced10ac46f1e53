/- LexerKinds. -/
import Derived.Test.YtiebhlmjpnhepaaDoorWF
namespace Go.Proofs.YtiebhlmjpnhepaaDoor
open Go.RowKit Sl Fr
namespace Lx
set_option linter.unusedVariables false
set_option linter.unusedSimpArgs false

def KindAt (Y : World) (i : Value) (n : Nat) (W : World) : Prop := ∃ j : Nat, i = .int .i64 (j : Int) ∧ j ≤ n ∧ Below Y.heap.size Y W
theorem str_eq {a : By} {s : ByteArray} : (a == s.toList) = (a == bys s) := by rw [bys_toList]
theorem mk_bys (s : ByteArray) : (⟨(bys s).toArray⟩ : ByteArray) = s := bys_ext (by simp [bys])
/-- The tokens of a well-formed file, as Lex gives them. -/
theorem wf_toks {l : By} (h : WF l) (hl : l.length ≤ 600) : ∃ ts : List Tk, lexR l = (ts ++ [endT l.length], 0, 0) ∧ ts.length ≤ 600 ∧ (∀ t ∈ ts, IsTok t.text t.kind ∧ t.text.length ≤ 600) ∧ lex 0 l = (ts, none) := by
  have h2 : (lex 0 l).2 = none := h
  have e : lex 0 l = ((lex 0 l).1, none) := by rw [← h2]
  obtain ⟨k1, k2⟩ := lex_sum _ _ _ _ e
  exact ⟨(lex 0 l).1, lexR_ok (by omega) h2, by omega, fun t ht => by
    obtain ⟨q1, q2⟩ := lex_toks _ _ _ _ e t ht
    exact ⟨q1, by omega⟩, e⟩
/-- Without a kind: malformed, or not one token alone. -/
theorem no_kind {l : By} (hl : l.length ≤ 600) (h : kindOf l = 0) : (∃ e, lexR l = ([], e, 5)) ∨ ∃ ts : List Tk, lexR l = (ts, 0, 0) ∧ ts.length ≤ 601 ∧ (ts.length ≠ 2 ∨ ∃ t u, ts = [t, u] ∧ t.text ≠ l) := by
  cases h2 : (lex 0 l).2 with
  | some e => exact .inl ⟨e, lexR_bad (by omega) h2⟩
  | none =>
    right
    obtain ⟨ts, h3, h4, h5, h6⟩ := wf_toks (show WF l from h2) hl
    refine ⟨_, h3, by simp; omega, ?_⟩
    by_cases h7 : ts.length = 1
    · right
      obtain ⟨t, rfl⟩ : ∃ t, ts = [t] := by
        match ts, h7 with
        | [t], _ => exact ⟨t, rfl⟩
      refine ⟨t, _, rfl, fun h8 => ?_⟩
      exact (kind_alone l).2 ⟨t, h6, h8⟩ h
    · left
      simp
      omega

set_option maxRecDepth 100000 in
set_option maxHeartbeats 8000000 in
theorem kinds_walk (A : Option Addr) (l : List Nat) (c : Nat) (s : ByteArray) (w : World) (hA : BytA w A l) (hl : l.length ≤ 9223372036854775807) (hs : s.size ≤ 9223372036854775807) (hv : Vars w) :
    Calls Tryd.prog 7 #[.slice A l.length c, .string s] w fun e w' => e = .returned (.bool true) ∧ Below w.heap.size w w' := by
  have HE := Lib.hid (examples_any w hv)
  have HM := Lib.hid (fun W (hb : Below w.heap.size w W) => clean_any A l c W (hA.keep hb) hl)
  have HX := Lib.hid (fun (s : ByteArray) (hs : s.size ≤ 281474976710656) W (hb : Below w.heap.size w W) => lexed_any s W hs (hv.keep hb))
  have HK : Hid (∀ (s : ByteArray), s.size ≤ 281474976710656 → DoesIn w 16 #[.string s] (.int .i64 (kindOf (bys s) : Nat))) := Lib.hid (fun s hs W hb => kind_any s W hs (hv.keep hb))
  clear hA hl hv
  by_cases h3 : 300 < s.size
  · go_enter Tryd.func7, Tryd.ntmps7
    go_wp2_with fail
    refine HE.out.mono ?_
    rintro e W1 ⟨rfl, b1⟩
    have B1 := Lib.hid b1
    clear b1 HE HM HX HK
    go_wp2_with fail
    go_ret
    exact ⟨rfl, B1.out⟩
  have hs3 : s.size ≤ 300 := by omega
  go_enter Tryd.func7, Tryd.ntmps7
  go_wp2_with fail
  refine HE.out.mono ?_
  rintro e W1 ⟨rfl, b1⟩
  have B1 := Lib.hid b1
  clear b1 HE
  go_wp2_with fail
  have HKS := Lib.hid (HK.out s (by omega))
  have HL := Lib.hid (HX.out s (by omega) W1 B1.out)
  have hlen : (bys s).length ≤ 600 := by rw [bys_len]; omega
  by_cases hk : kindOf (bys s) = 0
  · rw [hk] at HKS
    simp only [show ((0 : Nat) : Int) = 0 from rfl] at HKS
    rcases no_kind hlen hk with ⟨e, hr⟩ | ⟨ts0, hr, hn0, hn | ⟨t0, u0, rfl, hne⟩⟩
    · as_aux_lemma =>
      rw [hr] at HL
      clear hr hk

      refine HL.out.mono ?_
      rintro _ W3 ⟨A1, c1, rfl, _, _, hT, b3⟩
      obtain ⟨m0, bA⟩ := start1 W3 #[.slice A1 0 c1, .int .i64 (e : Int), .int .i64 5] 29
      have HT := Lib.hid (hT.arr.keep bA)
      have B3 := B1.out.trans (b3.mono B1.out.size)
      have B4 := Lib.hid (B3.trans (bA.mono B3.size))
      clear HL b3 bA B3 B1 hT
      simp only [List.length_nil, show ((5 : Nat) : Int) = 5 from rfl]
      go_upto_region 5 with fail
      generalize W3.alloc (.cells #[.slice A1 0 c1, .int .i64 (e : Int), .int .i64 5] 29) = X at *
      generalize W3.heap.size = xb at *
      have mlt := m0.lt
      have M0 := Lib.hid m0
      obtain ⟨d0, d1, d2⟩ := m0.c3
      go_upto_region 6 with fail
      clear d0 d1 d2
      obtain ⟨d0, d1, d2⟩ := m0.l3 (Below.refl _ _)
      have HKL := Lib.hid (fun p => DoesIn.later HKS.out B4.out (W := X) p)
      refine wp_region_later (by kernel_rfl) (by kernel_rfl) ?_
      repeat (go_big_quiet_step (((go_at_call 16; with_reducible exact later_of (HKL.out _)))))
      refine wpQuiet_nil ?_
      intro _ hw'
      obtain ⟨z, hw''⟩ := hw'
      subst hw''
      have B5 := Lib.hid (B4.out.trans (z.below.mono B4.out.size))
      clear d0 d1 d2 HKL B4 m0
      generalize z.val = Z at *
      go_wp2_with fail
      refine (HM.out _ B5.out).mono ?_
      rintro _ W6 ⟨y, rfl, hy, hg, b6⟩
      have B6 := Lib.hid (B5.out.trans (b6.mono B5.out.size))
      obtain ⟨ts, f1, f2, f3, _⟩ := wf_toks hg.wf (by rw [bys_len]; exact hy)
      have HL := Lib.hid (HX.out y (by omega) W6 B6.out)
      rw [f1] at HL
      have hen : (ts ++ [endT (bys y).length]).length = ts.length + 1 := by simp
      have F3 := Lib.hid f3
      clear b6 HM B5 hg f1 f3
      go_wp2_with fail
      refine HL.out.mono ?_
      rintro _ W7 ⟨A7, c7, rfl, _, _, hT, b7⟩
      simp only [hen]
      have e0 : ((0 : Nat) : Int) = 0 := rfl
      simp only [e0]
      clear e0
      obtain ⟨m7, bA⟩ := start1 W7 #[.slice A7 (ts.length + 1) c7, .int .i64 0, .int .i64 0] 29
      have HT7 := Lib.hid (hT.arr.keep bA)
      have B7 := B6.out.trans (b7.mono B6.out.size)
      have B8 := Lib.hid (B7.trans (bA.mono B7.size))
      clear b7 bA B7 B6 hT HL hen
      go_upto_region 9 with fail
      generalize W7.alloc (.cells #[.slice A7 ((ts.length + 1 : Nat)) c7, .int .i64 0, .int .i64 0] 29) = Y at *
      generalize W7.heap.size = yb at *
      have M7 := Lib.hid m7
      have ylt := m7.lt
      have H0 : Hid (KindAt Y (.int .i64 0) ts.length Y) := Lib.hid ⟨0, rfl, Nat.zero_le _, Below.refl _ _⟩
      clear m7
      go_wp2_with fail
      go_loopw [9] (fun i W => KindAt Y i ts.length W) (fun i _ => ts.length - (intOf i).toNat)
      case atStart => exact H0.out
      case round =>
        obtain ⟨j, rfl, hj, hb⟩ := hrel
        have HB := Lib.hid hb
        have m := M7.out.keep hb
        obtain ⟨d0, d1, d2⟩ := m.c3
        clear hb m H0
        by_cases hlt : j < ts.length
        · obtain ⟨t, ht⟩ := get_ex hlt
          obtain ⟨b, o, hbo⟩ := (HT7.out.keep HB.out).open
          obtain ⟨rfl, hbs, hc⟩ := hbo (by simp)
          obtain ⟨g0, g1, g2⟩ := hc j t (by rw [List.getElem?_append_left hlt]; exact ht)
          obtain ⟨q1, q2⟩ := F3.out t (List.mem_of_getElem? ht)
          have BW := B8.out.trans (HB.out.mono B8.out.size)
          have HKT := Lib.hid (HK.out ⟨t.text.toArray⟩ (by rw [byte_size]; simp; omega) wr BW)
          rw [show bys (⟨t.text.toArray⟩ : ByteArray) = t.text by simp [bys], kind_yes q1] at HKT
          have hkk := q1.kind
          clear hc hbo ht q1 q2 BW HX HK
          generalize t.text = tx at *
          generalize t.at_ = ta at *
          generalize t.kind = tk at *
          rcases hkk with rfl | rfl | rfl
          all_goals
            simp only [show ((1 : Nat) : Int) = 1 from rfl, show ((2 : Nat) : Int) = 2 from rfl, show ((3 : Nat) : Int) = 3 from rfl] at HKT g0
            go_wp2_with fail
            refine HKT.out.mono ?_
            rintro _ W9 ⟨rfl, b9⟩
            have HB9 := Lib.hid (HB.out.trans (b9.mono HB.out.size))
            have m9 := M7.out.keep HB9.out
            obtain ⟨d0', d1', d2'⟩ := m9.c3
            have g0' := (b9.cell (p := ⟨b, o + j * 3, none⟩) hbs).trans g0
            clear b9 HB m9 d0 d1 d2 g0 g1 g2 HKT
            go_wp2_with fail
            go_roundw
            case rel => exact ⟨j + 1, by go_num, by omega, HB9.out⟩
            case measure => simp [intOf]; omega
        · have BW := Lib.hid (B8.out.trans (HB.out.mono B8.out.size))
          go_wp2_with fail
          go_ret
          exact ⟨rfl, BW.out⟩
    · as_aux_lemma =>
      rw [hr] at HL
      clear hr hk
      have hn2 : ((ts0.length : Int) == 2) = false := by simp; omega
      have hn3 : (ts0.length == 2) = false := by simp; omega
      refine HL.out.mono ?_
      rintro _ W3 ⟨A1, c1, rfl, _, _, hT, b3⟩
      obtain ⟨m0, bA⟩ := start1 W3 #[.slice A1 ts0.length c1, .int .i64 0, .int .i64 0] 29
      have HT := Lib.hid (hT.arr.keep bA)
      have B3 := B1.out.trans (b3.mono B1.out.size)
      have B4 := Lib.hid (B3.trans (bA.mono B3.size))
      clear HL b3 bA B3 B1 hT
      simp only [show ((0 : Nat) : Int) = 0 from rfl]
      go_upto_region 5 with fail
      generalize W3.alloc (.cells #[.slice A1 ts0.length c1, .int .i64 0, .int .i64 0] 29) = X at *
      generalize W3.heap.size = xb at *
      have mlt := m0.lt
      obtain ⟨d0, d1, d2⟩ := m0.c3
      go_upto_region 6 with fail
      clear d0 d1 d2
      obtain ⟨d0, d1, d2⟩ := m0.l3 (Below.refl _ _)
      have HKL := Lib.hid (fun p => DoesIn.later HKS.out B4.out (W := X) p)
      refine wp_region_later (by kernel_rfl) (by kernel_rfl) ?_
      repeat (go_big_quiet_step (((go_at_call 16; with_reducible exact later_of (HKL.out _)))))
      refine wpQuiet_nil ?_
      intro _ hw'
      obtain ⟨z, hw''⟩ := hw'
      subst hw''
      have B5 := Lib.hid (B4.out.trans (z.below.mono B4.out.size))
      clear d0 d1 d2 HKL B4 m0
      generalize z.val = Z at *
      go_wp2_with fail
      refine (HM.out _ B5.out).mono ?_
      rintro _ W6 ⟨y, rfl, hy, hg, b6⟩
      have B6 := Lib.hid (B5.out.trans (b6.mono B5.out.size))
      obtain ⟨ts, f1, f2, f3, _⟩ := wf_toks hg.wf (by rw [bys_len]; exact hy)
      have HL := Lib.hid (HX.out y (by omega) W6 B6.out)
      rw [f1] at HL
      have hen : (ts ++ [endT (bys y).length]).length = ts.length + 1 := by simp
      have F3 := Lib.hid f3
      clear b6 HM B5 hg f1 f3
      go_wp2_with fail
      refine HL.out.mono ?_
      rintro _ W7 ⟨A7, c7, rfl, _, _, hT, b7⟩
      simp only [hen]
      have e0 : ((0 : Nat) : Int) = 0 := rfl
      simp only [e0]
      clear e0
      obtain ⟨m7, bA⟩ := start1 W7 #[.slice A7 (ts.length + 1) c7, .int .i64 0, .int .i64 0] 29
      have HT7 := Lib.hid (hT.arr.keep bA)
      have B7 := B6.out.trans (b7.mono B6.out.size)
      have B8 := Lib.hid (B7.trans (bA.mono B7.size))
      clear b7 bA B7 B6 hT HL hen
      go_upto_region 9 with fail
      generalize W7.alloc (.cells #[.slice A7 ((ts.length + 1 : Nat)) c7, .int .i64 0, .int .i64 0] 29) = Y at *
      generalize W7.heap.size = yb at *
      have M7 := Lib.hid m7
      have ylt := m7.lt
      have H0 : Hid (KindAt Y (.int .i64 0) ts.length Y) := Lib.hid ⟨0, rfl, Nat.zero_le _, Below.refl _ _⟩
      clear m7
      go_wp2_with fail
      go_loopw [9] (fun i W => KindAt Y i ts.length W) (fun i _ => ts.length - (intOf i).toNat)
      case atStart => exact H0.out
      case round =>
        obtain ⟨j, rfl, hj, hb⟩ := hrel
        have HB := Lib.hid hb
        have m := M7.out.keep hb
        obtain ⟨d0, d1, d2⟩ := m.c3
        clear hb m H0
        by_cases hlt : j < ts.length
        · obtain ⟨t, ht⟩ := get_ex hlt
          obtain ⟨b, o, hbo⟩ := (HT7.out.keep HB.out).open
          obtain ⟨rfl, hbs, hc⟩ := hbo (by simp)
          obtain ⟨g0, g1, g2⟩ := hc j t (by rw [List.getElem?_append_left hlt]; exact ht)
          obtain ⟨q1, q2⟩ := F3.out t (List.mem_of_getElem? ht)
          have BW := B8.out.trans (HB.out.mono B8.out.size)
          have HKT := Lib.hid (HK.out ⟨t.text.toArray⟩ (by rw [byte_size]; simp; omega) wr BW)
          rw [show bys (⟨t.text.toArray⟩ : ByteArray) = t.text by simp [bys], kind_yes q1] at HKT
          have hkk := q1.kind
          clear hc hbo ht q1 q2 BW HX HK
          generalize t.text = tx at *
          generalize t.at_ = ta at *
          generalize t.kind = tk at *
          rcases hkk with rfl | rfl | rfl
          all_goals
            simp only [show ((1 : Nat) : Int) = 1 from rfl, show ((2 : Nat) : Int) = 2 from rfl, show ((3 : Nat) : Int) = 3 from rfl] at HKT g0
            go_wp2_with fail
            refine HKT.out.mono ?_
            rintro _ W9 ⟨rfl, b9⟩
            have HB9 := Lib.hid (HB.out.trans (b9.mono HB.out.size))
            have m9 := M7.out.keep HB9.out
            obtain ⟨d0', d1', d2'⟩ := m9.c3
            have g0' := (b9.cell (p := ⟨b, o + j * 3, none⟩) hbs).trans g0
            clear b9 HB m9 d0 d1 d2 g0 g1 g2 HKT
            go_wp2_with fail
            go_roundw
            case rel => exact ⟨j + 1, by go_num, by omega, HB9.out⟩
            case measure => simp [intOf]; omega
        · have BW := Lib.hid (B8.out.trans (HB.out.mono B8.out.size))
          go_wp2_with fail
          go_ret
          exact ⟨rfl, BW.out⟩
    · as_aux_lemma =>
      rw [hr] at HL
      have hst := (str_eq (a := t0.text) (s := s)).trans (show (t0.text == bys s) = false by simpa using hne)
      clear hr hk hne
      refine HL.out.mono ?_
      rintro _ W3 ⟨A1, c1, rfl, _, _, hT, b3⟩
      obtain ⟨m0, bA⟩ := start1 W3 #[.slice A1 2 c1, .int .i64 0, .int .i64 0] 29
      have HT := Lib.hid (hT.arr.keep bA)
      have B3 := B1.out.trans (b3.mono B1.out.size)
      have B4 := Lib.hid (B3.trans (bA.mono B3.size))
      clear HL b3 bA B3 B1 hT
      simp only [show ((0 : Nat) : Int) = 0 from rfl, show [t0, u0].length = 2 from rfl]
      go_upto_region 5 with fail
      generalize W3.alloc (.cells #[.slice A1 2 c1, .int .i64 0, .int .i64 0] 29) = X at *
      generalize W3.heap.size = xb at *
      have mlt := m0.lt
      obtain ⟨b, o, hbo⟩ := HT.out.open
      obtain ⟨rfl, hbs, hc⟩ := hbo (by simp)
      obtain ⟨g0, g1, g2⟩ := hc 0 t0 rfl
      simp only [Nat.zero_mul, Nat.add_zero] at g0 g1 g2
      clear hc hbo g0 g2
      obtain ⟨d0, d1, d2⟩ := m0.c3
      generalize t0.text = tx at *
      go_upto_region 6 with fail
      clear d0 d1 d2 g1 hst
      obtain ⟨d0, d1, d2⟩ := m0.l3 (Below.refl _ _)
      have HKL := Lib.hid (fun p => DoesIn.later HKS.out B4.out (W := X) p)
      refine wp_region_later (by kernel_rfl) (by kernel_rfl) ?_
      repeat (go_big_quiet_step (((go_at_call 16; with_reducible exact later_of (HKL.out _)))))
      refine wpQuiet_nil ?_
      intro _ hw'
      obtain ⟨z, hw''⟩ := hw'
      subst hw''
      have B5 := Lib.hid (B4.out.trans (z.below.mono B4.out.size))
      clear d0 d1 d2 HKL B4 m0
      generalize z.val = Z at *
      go_wp2_with fail
      refine (HM.out _ B5.out).mono ?_
      rintro _ W6 ⟨y, rfl, hy, hg, b6⟩
      have B6 := Lib.hid (B5.out.trans (b6.mono B5.out.size))
      obtain ⟨ts, f1, f2, f3, _⟩ := wf_toks hg.wf (by rw [bys_len]; exact hy)
      have HL := Lib.hid (HX.out y (by omega) W6 B6.out)
      rw [f1] at HL
      have hen : (ts ++ [endT (bys y).length]).length = ts.length + 1 := by simp
      have F3 := Lib.hid f3
      clear b6 HM B5 hg f1 f3
      go_wp2_with fail
      refine HL.out.mono ?_
      rintro _ W7 ⟨A7, c7, rfl, _, _, hT, b7⟩
      simp only [hen]
      have e0 : ((0 : Nat) : Int) = 0 := rfl
      simp only [e0]
      clear e0
      obtain ⟨m7, bA⟩ := start1 W7 #[.slice A7 (ts.length + 1) c7, .int .i64 0, .int .i64 0] 29
      have HT7 := Lib.hid (hT.arr.keep bA)
      have B7 := B6.out.trans (b7.mono B6.out.size)
      have B8 := Lib.hid (B7.trans (bA.mono B7.size))
      clear b7 bA B7 B6 hT HL hen
      go_upto_region 9 with fail
      generalize W7.alloc (.cells #[.slice A7 ((ts.length + 1 : Nat)) c7, .int .i64 0, .int .i64 0] 29) = Y at *
      generalize W7.heap.size = yb at *
      have M7 := Lib.hid m7
      have ylt := m7.lt
      have H0 : Hid (KindAt Y (.int .i64 0) ts.length Y) := Lib.hid ⟨0, rfl, Nat.zero_le _, Below.refl _ _⟩
      clear m7
      go_wp2_with fail
      go_loopw [9] (fun i W => KindAt Y i ts.length W) (fun i _ => ts.length - (intOf i).toNat)
      case atStart => exact H0.out
      case round =>
        obtain ⟨j, rfl, hj, hb⟩ := hrel
        have HB := Lib.hid hb
        have m := M7.out.keep hb
        obtain ⟨d0, d1, d2⟩ := m.c3
        clear hb m H0
        by_cases hlt : j < ts.length
        · obtain ⟨t, ht⟩ := get_ex hlt
          obtain ⟨b, o, hbo⟩ := (HT7.out.keep HB.out).open
          obtain ⟨rfl, hbs, hc⟩ := hbo (by simp)
          obtain ⟨g0, g1, g2⟩ := hc j t (by rw [List.getElem?_append_left hlt]; exact ht)
          obtain ⟨q1, q2⟩ := F3.out t (List.mem_of_getElem? ht)
          have BW := B8.out.trans (HB.out.mono B8.out.size)
          have HKT := Lib.hid (HK.out ⟨t.text.toArray⟩ (by rw [byte_size]; simp; omega) wr BW)
          rw [show bys (⟨t.text.toArray⟩ : ByteArray) = t.text by simp [bys], kind_yes q1] at HKT
          have hkk := q1.kind
          clear hc hbo ht q1 q2 BW HX HK
          generalize t.text = tx at *
          generalize t.at_ = ta at *
          generalize t.kind = tk at *
          rcases hkk with rfl | rfl | rfl
          all_goals
            simp only [show ((1 : Nat) : Int) = 1 from rfl, show ((2 : Nat) : Int) = 2 from rfl, show ((3 : Nat) : Int) = 3 from rfl] at HKT g0
            go_wp2_with fail
            refine HKT.out.mono ?_
            rintro _ W9 ⟨rfl, b9⟩
            have HB9 := Lib.hid (HB.out.trans (b9.mono HB.out.size))
            have m9 := M7.out.keep HB9.out
            obtain ⟨d0', d1', d2'⟩ := m9.c3
            have g0' := (b9.cell (p := ⟨b, o + j * 3, none⟩) hbs).trans g0
            clear b9 HB m9 d0 d1 d2 g0 g1 g2 HKT
            go_wp2_with fail
            go_roundw
            case rel => exact ⟨j + 1, by go_num, by omega, HB9.out⟩
            case measure => simp [intOf]; omega
        · have BW := Lib.hid (B8.out.trans (HB.out.mono B8.out.size))
          go_wp2_with fail
          go_ret
          exact ⟨rfl, BW.out⟩
  · as_aux_lemma =>
    have htk := kind_tok hk
    have hr : lexR (bys s) = ([⟨kindOf (bys s), bys s, 0⟩, endT (bys s).length], 0, 0) := by
      have := lex_one htk 0
      rw [lexR_ok (by omega) (by rw [this]), this]
      rfl
    rw [hr] at HL
    generalize kindOf (bys s) = kk at *
    have e1 : ((kk : Int) == 0) = false := by simp; omega
    have e2 : ((kk : Int) != 0) = true := by simp; omega
    have e3 : (kk == 0) = false := by simp; omega
    have hst : (bys s == s.toList) = true := by rw [str_eq]; simp
    clear hr htk hk
    refine HL.out.mono ?_
    rintro _ W3 ⟨A1, c1, rfl, _, _, hT, b3⟩
    obtain ⟨m0, bA⟩ := start1 W3 #[.slice A1 2 c1, .int .i64 0, .int .i64 0] 29
    have HT := Lib.hid (hT.arr.keep bA)
    have B3 := B1.out.trans (b3.mono B1.out.size)
    have B4 := Lib.hid (B3.trans (bA.mono B3.size))
    clear HL b3 bA B3 B1 hT
    simp only [show ((0 : Nat) : Int) = 0 from rfl, List.length_cons, List.length_nil]
    go_upto_region 5 with fail
    generalize W3.alloc (.cells #[.slice A1 2 c1, .int .i64 0, .int .i64 0] 29) = X at *
    generalize W3.heap.size = xb at *
    have mlt := m0.lt
    obtain ⟨b, o, hbo⟩ := HT.out.open
    obtain ⟨rfl, hbs, hc⟩ := hbo (by simp)
    obtain ⟨g0, g1, g2⟩ := hc 0 _ rfl
    simp only [Nat.zero_mul, Nat.add_zero, mk_bys] at g0 g1 g2
    clear hc hbo g2
    obtain ⟨d0, d1, d2⟩ := m0.c3
    go_upto_region 6 with fail
    clear d0 d1 d2 g1 hst
    have z0 := fun q : Later X => (q.below.cell (p := ⟨b, o, none⟩) hbs).trans g0
    clear g0
    obtain ⟨d0, d1, d2⟩ := m0.l3 (Below.refl _ _)
    have HKL := Lib.hid (fun p => DoesIn.later HKS.out B4.out (W := X) p)
    refine wp_region_later (by kernel_rfl) (by kernel_rfl) ?_
    repeat (go_big_quiet_step (((go_at_call 16; with_reducible exact later_of (HKL.out _)))))
    refine wpQuiet_nil ?_
    intro _ hw'
    obtain ⟨z, hw''⟩ := hw'
    subst hw''
    have B5 := Lib.hid (B4.out.trans (z.below.mono B4.out.size))
    clear d0 d1 d2 HKL B4 m0
    generalize z.val = Z at *
    clear z0 e1 e2 e3
    go_wp2_with fail
    refine (HM.out _ B5.out).mono ?_
    rintro _ W6 ⟨y, rfl, hy, hg, b6⟩
    have B6 := Lib.hid (B5.out.trans (b6.mono B5.out.size))
    obtain ⟨ts, f1, f2, f3, _⟩ := wf_toks hg.wf (by rw [bys_len]; exact hy)
    have HL := Lib.hid (HX.out y (by omega) W6 B6.out)
    rw [f1] at HL
    have hen : (ts ++ [endT (bys y).length]).length = ts.length + 1 := by simp
    have F3 := Lib.hid f3
    clear b6 HM B5 hg f1 f3
    go_wp2_with fail
    refine HL.out.mono ?_
    rintro _ W7 ⟨A7, c7, rfl, _, _, hT, b7⟩
    simp only [hen]
    have e0 : ((0 : Nat) : Int) = 0 := rfl
    simp only [e0]
    clear e0
    obtain ⟨m7, bA⟩ := start1 W7 #[.slice A7 (ts.length + 1) c7, .int .i64 0, .int .i64 0] 29
    have HT7 := Lib.hid (hT.arr.keep bA)
    have B7 := B6.out.trans (b7.mono B6.out.size)
    have B8 := Lib.hid (B7.trans (bA.mono B7.size))
    clear b7 bA B7 B6 hT HL hen
    go_upto_region 9 with fail
    generalize W7.alloc (.cells #[.slice A7 ((ts.length + 1 : Nat)) c7, .int .i64 0, .int .i64 0] 29) = Y at *
    generalize W7.heap.size = yb at *
    have M7 := Lib.hid m7
    have ylt := m7.lt
    have H0 : Hid (KindAt Y (.int .i64 0) ts.length Y) := Lib.hid ⟨0, rfl, Nat.zero_le _, Below.refl _ _⟩
    clear m7
    go_wp2_with fail
    go_loopw [9] (fun i W => KindAt Y i ts.length W) (fun i _ => ts.length - (intOf i).toNat)
    case atStart => exact H0.out
    case round =>
      obtain ⟨j, rfl, hj, hb⟩ := hrel
      have HB := Lib.hid hb
      have m := M7.out.keep hb
      obtain ⟨d0, d1, d2⟩ := m.c3
      clear hb m H0
      by_cases hlt : j < ts.length
      · obtain ⟨t, ht⟩ := get_ex hlt
        obtain ⟨b, o, hbo⟩ := (HT7.out.keep HB.out).open
        obtain ⟨rfl, hbs, hc⟩ := hbo (by simp)
        obtain ⟨g0, g1, g2⟩ := hc j t (by rw [List.getElem?_append_left hlt]; exact ht)
        obtain ⟨q1, q2⟩ := F3.out t (List.mem_of_getElem? ht)
        have BW := B8.out.trans (HB.out.mono B8.out.size)
        have HKT := Lib.hid (HK.out ⟨t.text.toArray⟩ (by rw [byte_size]; simp; omega) wr BW)
        rw [show bys (⟨t.text.toArray⟩ : ByteArray) = t.text by simp [bys], kind_yes q1] at HKT
        have hkk := q1.kind
        clear hc hbo ht q1 q2 BW HX HK
        generalize t.text = tx at *
        generalize t.at_ = ta at *
        generalize t.kind = tk at *
        rcases hkk with rfl | rfl | rfl
        all_goals
          simp only [show ((1 : Nat) : Int) = 1 from rfl, show ((2 : Nat) : Int) = 2 from rfl, show ((3 : Nat) : Int) = 3 from rfl] at HKT g0
          go_wp2_with fail
          refine HKT.out.mono ?_
          rintro _ W9 ⟨rfl, b9⟩
          have HB9 := Lib.hid (HB.out.trans (b9.mono HB.out.size))
          have m9 := M7.out.keep HB9.out
          obtain ⟨d0', d1', d2'⟩ := m9.c3
          have g0' := (b9.cell (p := ⟨b, o + j * 3, none⟩) hbs).trans g0
          clear b9 HB m9 d0 d1 d2 g0 g1 g2 HKT
          go_wp2_with fail
          go_roundw
          case rel => exact ⟨j + 1, by go_num, by omega, HB9.out⟩
          case measure => simp [intOf]; omega
      · have BW := Lib.hid (B8.out.trans (HB.out.mono B8.out.size))
        go_wp2_with fail
        go_ret
        exact ⟨rfl, BW.out⟩

end Lx
end Go.Proofs.YtiebhlmjpnhepaaDoor
