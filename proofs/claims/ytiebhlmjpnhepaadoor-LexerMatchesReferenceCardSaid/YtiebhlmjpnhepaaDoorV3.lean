/- The reference's blank and LineIn. -/
import Derived.Test.YtiebhlmjpnhepaaDoorV2
import Derived.Test.YtiebhlmjpnhepaaDoorW9
namespace Go.Proofs.YtiebhlmjpnhepaaDoor
open Go.RowKit Sl Fr
namespace Lx
set_option linter.unusedVariables false
set_option linter.unusedSimpArgs false

/-- j stands behind the white space at i. -/
def RB (s : ByteArray) (i j : Nat) : Prop := i ≤ j ∧ j ≤ s.size ∧ lex i ((bys s).drop i) = lex j ((bys s).drop j) ∧ ∀ c r, (bys s).drop j = c :: r → isSp c = false ∧ isCm (c :: r) = false
/-- As far as blank has come. -/
def RbAt (s : ByteArray) (i : Nat) (v : Value) : Prop := ∃ k : Nat, v = .int .i64 (k : Int) ∧ i ≤ k ∧ k ≤ s.size ∧ lex i ((bys s).drop i) = lex k ((bys s).drop k)
def RcAt (s : ByteArray) (k : Nat) (v : Value) : Prop := ∃ m : Nat, v = .int .i64 (m : Int) ∧ k ≤ m ∧ m ≤ s.size ∧ m - k ≤ span notLf ((bys s).drop k)

set_option maxRecDepth 100000 in
set_option maxHeartbeats 4000000 in
theorem rblank_any (s : ByteArray) (i : Nat) (w : World) (hi : i ≤ s.size) (hs : s.size ≤ 281474976710656) : Calls Tryd.prog 27 #[.string s, .int .i64 (i : Int)] w fun e w' => ∃ j, e = .returned (.int .i64 ((j : Nat) : Int)) ∧ RB s i j ∧ w = w' := by
  have hcs := fun (c : UInt8) w => rspace_any c w
  go_enter Tryd.func27, Tryd.ntmps27
  go_wp2_with fail
  go_loop [1] (RbAt s i) (fun v => s.size - (intOf v).toNat)
  case atStart => exact ⟨i, rfl, Nat.le_refl _, hi, rfl⟩
  case round =>
    obtain ⟨k, rfl, hik, hk, hlex⟩ := hrel
    have HX := Lib.hid hlex
    clear hlex
    by_cases hlt : k < s.size
    · have hd := bys_drop hlt
      have HD := Lib.hid hd
      clear hd
      have e47 := eq_int s[k] 47
      rw [show ((47 : UInt8).toNat : Int) = 47 from rfl] at e47
      generalize hcc : s[k] = c at *
      have hc := fun w => hcs c w
      have HCC := Lib.hid hcc
      cases hS : isSp c with
      | true =>
        rw [hS] at hc
        have HS := Lib.hid hS
        clear hS e47
        go_wp2_with (go_at_call 34; refine (hc _).mono ?_; rintro e w' ⟨rfl, rfl⟩)
        go_round
        case rel => exact ⟨k + 1, by go_num, by omega, by omega, by rw [HX.out, HD.out, lex_sp HS.out]⟩
        case measure => simp [intOf]; omega
      | false =>
        rw [hS] at hc
        have HS := Lib.hid hS
        clear hS
        have STOP : isCm ((bys s).drop k) = false → RB s i k := fun h => ⟨hik, hk, HX.out, fun c2 r2 e2 => by
          rw [e2] at h
          have : c :: (bys s).drop (k + 1) = c2 :: r2 := HD.out.symm.trans e2
          injection this with h1 h2
          subst h1
          exact ⟨HS.out, h⟩⟩
        have HSTOP := Lib.hid STOP
        clear STOP
        cases q : ((c.toNat : Int) == 47) with
        | false =>
          have qn : ((c.toNat : Int) != 47) = true := by simp [bne, q]
          rw [q] at e47
          have hne : c ≠ 47 := by simpa using e47
          have HR : Hid (RB s i k) := Lib.hid (HSTOP.out (by rw [HD.out, Bool.eq_false_iff]; intro h; exact hne (cm_iff.1 h).1))
          clear e47 hne
          go_wp2_with (go_at_call 34; refine (hc _).mono ?_; rintro e w' ⟨rfl, rfl⟩)
          go_ret
          exact ⟨k, rfl, HR.out, rfl⟩
        | true =>
          have qn : ((c.toNat : Int) != 47) = false := by simp [bne, q]
          rw [q] at e47
          have heq : c = 47 := by simpa using e47
          have HEQ := Lib.hid heq
          clear e47 heq
          by_cases hlast : k + 1 = s.size
          · have HR : Hid (RB s i k) := Lib.hid (HSTOP.out (by
              rw [HD.out, Bool.eq_false_iff]; intro h
              have := (cm_iff.1 h).2
              rw [List.drop_of_length_le (by rw [bys_len]; omega)] at this
              cases this))
            have hl2 : (k : Int) + 1 = (s.size : Int) := by omega
            go_wp2_with (go_at_call 34; refine (hc _).mono ?_; rintro e w' ⟨rfl, rfl⟩)
            go_ret
            exact ⟨k, rfl, HR.out, rfl⟩
          · have hlt2 : k + 1 < s.size := by omega
            have hl2 : ((k : Int) + 1 == (s.size : Int)) = false := beq_eq_false_iff_ne.2 (by omega)
            have hd2 := bys_drop hlt2
            have HD2 := Lib.hid hd2
            clear hd2
            have f47 := eq_int s[k + 1] 47
            rw [show ((47 : UInt8).toNat : Int) = 47 from rfl] at f47
            generalize hdd : s[k + 1] = d at *
            cases q2 : ((d.toNat : Int) == 47) with
            | false =>
              have q2n : ((d.toNat : Int) != 47) = true := by simp [bne, q2]
              rw [q2] at f47
              have hne : d ≠ 47 := by simpa using f47
              have HR : Hid (RB s i k) := Lib.hid (HSTOP.out (by
                rw [HD.out, Bool.eq_false_iff]; intro h
                have := (cm_iff.1 h).2
                rw [HD2.out] at this
                exact hne (by simpa using this)))
              clear f47 hne
              go_wp2_with (go_at_call 34; refine (hc _).mono ?_; rintro e w' ⟨rfl, rfl⟩)
              go_ret
              exact ⟨k, rfl, HR.out, rfl⟩
            | true =>
              have q2n : ((d.toNat : Int) != 47) = false := by simp [bne, q2]
              rw [q2] at f47
              have heq : d = 47 := by simpa using f47
              have hcm : isCm (c :: (bys s).drop (k + 1)) = true := cm_iff.2 ⟨HEQ.out, by rw [HD2.out, heq]; rfl⟩
              have HN : Hid (∀ m, k ≤ m → m - k = span notLf ((bys s).drop k) → k + 2 ≤ m ∧ lex i ((bys s).drop i) = lex m ((bys s).drop m)) := Lib.hid (fun m hm he => by
                have h1 := cm_span hcm
                rw [← HD.out, ← he] at h1
                refine ⟨by omega, ?_⟩
                rw [HX.out, HD.out, lex_cm HS.out hcm, ← HD.out, ← he, List.drop_drop, show k + (m - k) = m by omega])
              clear f47 heq hcm HSTOP HX
              go_wp2_with (go_at_call 34; refine (hc _).mono ?_; rintro e w' ⟨rfl, rfl⟩)
              clear hc
              go_loop [1] (RcAt s k) (fun v => s.size - (intOf v).toNat)
              case atStart => exact ⟨k, rfl, Nat.le_refl _, hk, by omega⟩
              case round =>
                obtain ⟨m, rfl, hkm, hm, hsp⟩ := hrel
                have HSP := Lib.hid hsp
                clear hsp
                by_cases hlm : m < s.size
                · have hg := bys_get hlm
                  have HG : Hid (((bys s).drop k)[m - k]? = some s[m]) := Lib.hid (by rw [List.getElem?_drop, show k + (m - k) = m by omega]; exact hg)
                  clear hg hcc hdd
                  have e10 := eq_int s[m] 10
                  rw [show ((10 : UInt8).toNat : Int) = 10 from rfl] at e10
                  generalize hee : s[m] = b at *
                  cases q3 : ((b.toNat : Int) == 10) with
                  | false =>
                    have q3n : ((b.toNat : Int) != 10) = true := by simp [bne, q3]
                    rw [q3] at e10
                    have HP : Hid (m + 1 - k ≤ span notLf ((bys s).drop k)) := Lib.hid (by
                      have := span_one HSP.out HG.out (by simp [notLf, bne, e10])
                      omega)
                    clear e10
                    go_wp2_with fail
                    go_round
                    case rel => exact ⟨m + 1, by go_num, by omega, by omega, HP.out⟩
                    case measure => simp [intOf]; omega
                  | true =>
                    have q3n : ((b.toNat : Int) != 10) = false := by simp [bne, q3]
                    rw [q3] at e10
                    have hse := span_end HSP.out HG.out (by simp [notLf, bne, e10])
                    obtain ⟨n1, n2⟩ := HN.out m hkm hse.symm
                    have HN2 := Lib.hid n2
                    clear e10 hse n2
                    go_wp2_with fail
                    go_round
                    case rel => exact ⟨m, rfl, by omega, hm, HN2.out⟩
                    case measure => simp [intOf]; omega
                · have hm2 : m = s.size := by omega
                  have hle := span_le notLf ((bys s).drop k)
                  rw [List.length_drop, bys_len] at hle
                  have hse : m - k = span notLf ((bys s).drop k) := by have := HSP.out; omega
                  obtain ⟨n1, n2⟩ := HN.out m hkm hse
                  have HN2 := Lib.hid n2
                  clear hse n2 hle
                  go_wp2_with fail
                  go_round
                  case rel => exact ⟨m, rfl, by omega, hm, HN2.out⟩
                  case measure => simp [intOf]; omega
    · have hk2 : k = s.size := by omega
      have HR : Hid (RB s i k) := Lib.hid ⟨hik, hk, HX.out, fun c r e => by
        rw [List.drop_of_length_le (by rw [bys_len]; omega)] at e
        cases e⟩
      go_wp2_with fail
      go_ret
      refine ⟨k, ?_, HR.out, rfl⟩
      rw [hk2]; rfl

/-- As far as LineIn has come. -/
def RlAt (s : ByteArray) (a : Nat) (w : World) (i : Value) (W : World) : Prop := ∃ k : Nat, i = .int .i64 (k : Int) ∧ k ≤ a ∧ BoxL W (w.heap.size + 1) #[.int .i64 ((lc ((bys s).take k)).1 : Int), .int .i64 ((lc ((bys s).take k)).2 : Int)] ∧ BoxL W w.heap.size #[.int .i64 0, .int .i64 0] ∧ Below w.heap.size w W
theorem rlc_le (l : By) : (lc l).1 ≤ l.length + 1 ∧ (lc l).2 ≤ l.length + 1 := by
  obtain ⟨h1, h2, h3⟩ := lc_count l
  exact ⟨by have := List.count_le_length (a := (10 : UInt8)) (l := l); omega, h3⟩

set_option maxRecDepth 100000 in
set_option maxHeartbeats 4000000 in
theorem rline_any (s : ByteArray) (a : Int) (w : World) (hs : s.size ≤ 281474976710656) : Calls Tryd.prog 19 #[.string s, .int .i64 a] w (GiveD (lnP s a) w) := by
  have hst := start1 w #[.int .i64 0, .int .i64 0] 34
  by_cases ho : a < 0 ∨ s.size < a
  · rw [lnP_out ho]
    have hd : a < 0 ∨ (¬ a < 0 ∧ (s.size : Int) < a) := by omega
    obtain ⟨m0, B0⟩ := hst
    obtain ⟨d0, d1⟩ := m0.c2
    obtain ⟨f0, f1⟩ := m0.f2
    rcases hd with h1 | ⟨h1, h2⟩
    · go_enter Tryd.func19, Tryd.ntmps19
      go_wp2_with fail
      exact bodyPost_ret (v := .agg #[.int .i64 0, .int .i64 0]) (by simp [results, Tryd.results19, go_sem, d0, d1]) rfl ⟨rfl, B0⟩
    · go_enter Tryd.func19, Tryd.ntmps19
      go_wp2_with fail
      exact bodyPost_ret (v := .agg #[.int .i64 0, .int .i64 0]) (by simp [results, Tryd.results19, go_sem, d0, d1]) rfl ⟨rfl, B0⟩
  · obtain ⟨n, rfl⟩ := Int.eq_ofNat_of_zero_le (show 0 ≤ a by omega)
    have hn : n ≤ s.size := by omega
    rw [lnP_in hn]
    have h1 : ¬ (n : Int) < 0 := by omega
    have h2 : ¬ (s.size : Int) < (n : Int) := by omega
    obtain ⟨m0, B0⟩ := hst
    have hst2 := start1 (w.alloc (.cells #[.int .i64 0, .int .i64 0] 34)) #[.int .i64 1, .int .i64 1] 34
    rw [World.size_alloc] at hst2
    have H0 : Hid (RlAt s n w (.int .i64 0) ((w.alloc (.cells #[.int .i64 0, .int .i64 0] 34)).alloc (.cells #[.int .i64 1, .int .i64 1] 34))) := Lib.hid
      ⟨0, rfl, Nat.zero_le _, by rw [List.take_zero]; exact hst2.1, m0.keep (by rw [World.size_alloc]; exact hst2.2), B0.alloc (by rw [World.size_alloc]; omega) _⟩
    clear hst2 m0 B0 ho
    go_enter Tryd.func19, Tryd.ntmps19
    go_wp2_with fail
    go_loopw [6] (RlAt s n w) (fun i _ => n - (intOf i).toNat)
    case atStart => exact H0.out
    case round =>
      obtain ⟨k, rfl, hk, hm, hr, hb⟩ := hrel
      have HB := Lib.hid hb
      have HM := Lib.hid hm
      have HR := Lib.hid hr
      have hsz := hr.lt
      obtain ⟨p1, p2⟩ := rlc_le ((bys s).take k)
      have hl : ((bys s).take k).length ≤ k := List.length_take_le _ _
      clear H0 hb hr
      by_cases hlt : k < n
      · have hlt2 : k < s.size := by omega
        have HG := Lib.hid (take_snoc (bys_get hlt2))
        have e10 := eq_int s[k] 10
        rw [show ((10 : UInt8).toNat : Int) = 10 from rfl] at e10
        generalize hcc : s[k] = c at *
        have HST := Lib.hid (show lc ((bys s).take (k + 1)) = lcStep (lc ((bys s).take k)) c by rw [HG.out, lc_snoc])
        generalize lc ((bys s).take k) = p at *
        obtain ⟨pl, pc⟩ := p
        simp only at p1 p2 hm HM
        obtain ⟨d0, d1⟩ := hm.c2
        obtain ⟨f0, f1⟩ := hm.f2
        have hq := hm.set1 (i := 1) (by simp) (.int .i64 ((pc : Int) + 1))
        simp at hq
        obtain ⟨g0, g1⟩ := hq.c2
        obtain ⟨k0, k1⟩ := hq.f2
        have HQ := Lib.hid hq
        clear hq
        cases q : ((c.toNat : Int) == 10) with
        | false =>
          rw [q] at e10
          have hne : c ≠ 10 := by simpa using e10
          have HP : Hid (lc ((bys s).take (k + 1)) = (pl, pc + 1)) := Lib.hid (by rw [HST.out]; unfold lcStep; rw [if_neg hne])
          clear e10 hne hm
          go_wp2_with fail
          go_roundw
          case rel => exact ⟨k + 1, by go_num, by omega, by rw [HP.out]; exact HQ.out, HR.out.far1 (by omega) 1 _, below_set1 HB.out (by omega) 1 _⟩
          case measure => simp [intOf]; omega
        | true =>
          rw [q] at e10
          have heq : c = 10 := by simpa using e10
          have HP : Hid (lc ((bys s).take (k + 1)) = (pl + 1, 1)) := Lib.hid (by rw [HST.out]; unfold lcStep; rw [if_pos heq])
          clear e10 heq hm
          go_wp2_with fail
          go_roundw
          case rel => exact ⟨k + 1, by go_num, by omega, by rw [HP.out]; exact HQ.out.s2 _ _, (HR.out.far1 (by omega) 1 _).z2 (by omega) _ _, below_s2 (below_set1 HB.out (by omega) 1 _) (by omega) _ _⟩
          case measure => simp [intOf]; omega
      · obtain rfl : k = n := by omega
        generalize lc ((bys s).take k) = p at *
        obtain ⟨pl, pc⟩ := p
        simp only at hm HM
        obtain ⟨d0, d1⟩ := hm.c2
        obtain ⟨e0, e1⟩ := HR.out.c2
        obtain ⟨f0, f1⟩ := HR.out.f2
        clear hm
        go_wp2_with fail
        have q := HR.out.s2 (.int .i64 (pl : Int)) (.int .i64 (pc : Int))
        obtain ⟨s0, s1⟩ := q.c2
        exact bodyPost_ret (v := .agg #[.int .i64 (pl : Int), .int .i64 (pc : Int)]) (by simp [results, Tryd.results19, go_sem, s0, s1]) rfl ⟨rfl, below_s2 HB.out (Nat.le_refl _) _ _⟩

end Lx
end Go.Proofs.YtiebhlmjpnhepaaDoor
