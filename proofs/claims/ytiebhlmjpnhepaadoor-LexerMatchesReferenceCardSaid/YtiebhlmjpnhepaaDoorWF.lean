/- LexerLines. -/
import Derived.Test.YtiebhlmjpnhepaaDoorWE
namespace Go.Proofs.YtiebhlmjpnhepaaDoor
open Go.RowKit Sl Fr
namespace Lx
set_option linter.unusedVariables false
set_option linter.unusedSimpArgs false

def LineAt (s : ByteArray) (w : World) (lb : Nat) (i : Value) (W : World) : Prop := ∃ k : Nat, i = .int .i64 (k : Int) ∧ k ≤ s.size ∧ BoxL W lb #[.int .i64 ((lc ((bys s).take k)).1 : Int), .int .i64 ((lc ((bys s).take k)).2 : Int)] ∧ Below w.heap.size w W
theorem lc_pos (l : By) : 1 ≤ (lc l).1 ∧ 1 ≤ (lc l).2 := by
  obtain ⟨h1, h2, h3⟩ := lc_count l
  omega
theorem lc_le (l : By) : (lc l).1 ≤ l.length + 1 ∧ (lc l).2 ≤ l.length + 1 := by
  obtain ⟨h1, h2, h3⟩ := lc_count l
  have := List.count_le_length (a := (10 : UInt8)) (l := l)
  omega

set_option maxRecDepth 100000 in
set_option maxHeartbeats 4000000 in
theorem lines_walk (A : Option Addr) (l : List Nat) (c : Nat) (a : Int) (w : World) (hA : BytA w A l) (hl : l.length ≤ 9223372036854775807) (hv : Vars w) :
    Calls Tryd.prog 9 #[.slice A l.length c, .int .i64 a] w fun e w' => e = .returned (.bool true) ∧ Below w.heap.size w w' := by
  have HE := Lib.hid (examples_any w hv)
  have HM := Lib.hid (fun W (hb : Below w.heap.size w W) => made_any A l c W (hA.keep hb) hl)
  clear hA hl hv
  go_enter Tryd.func9, Tryd.ntmps9
  go_wp2_with fail
  refine HE.out.mono ?_
  rintro e W1 ⟨rfl, b1⟩
  have B1 := Lib.hid b1
  clear b1 HE
  go_wp2_with fail
  refine (HM.out _ B1.out).mono ?_
  rintro e W2 ⟨s, rfl, hs, _, b2⟩
  have B2 := Lib.hid (B1.out.trans (b2.mono B1.out.size))
  clear b2 HM B1
  have HLN := Lib.hid (fun a W => lined_any s a W (by omega))
  have hp0 : lnP s 0 = (1, 1) := by
    have := lnP_in (s := s) (k := 0) (Nat.zero_le _)
    rw [List.take_zero] at this
    exact this
  have HP0 := Lib.hid hp0
  clear hp0
  by_cases h0 : a < 0
  · have HC := HLN.out a
    rw [lnP_out (.inl h0)] at HC
    have HC2 := Lib.hid HC
    clear HC
    go_wp2_with fail
    refine (HC2.out _).mono ?_
    rintro e W3 ⟨rfl, b3⟩
    have B3 := Lib.hid (B2.out.trans (b3.mono B2.out.size))
    clear b3 HC2 B2
    go_wp2_with fail
    have HC3 := HLN.out 0 W3
    rw [HP0.out] at HC3
    refine HC3.mono ?_
    rintro e W4 ⟨rfl, b4⟩
    have B4 := B3.out.trans (b4.mono B3.out.size)
    obtain ⟨m0, bA⟩ := start1 W4 #[.int .i64 1, .int .i64 1] 34
    have H0 : Hid (LineAt s w W4.heap.size (.int .i64 0) (W4.alloc (.cells #[.int .i64 1, .int .i64 1] 34))) := Lib.hid ⟨0, rfl, Nat.zero_le _, by rw [List.take_zero]; exact m0, B4.trans (bA.mono B4.size)⟩
    have HSZ := Lib.hid B4.size
    clear HC3 b4 B4 B3 m0 bA HP0
    have e11 : (((1, 1) : Nat × Nat).1 : Int) = 1 := rfl
    have e12 : (((1, 1) : Nat × Nat).2 : Int) = 1 := rfl
    rw [e11]
    try rw [e12]
    clear e11 e12
    go_wp2_with fail
    go_loopw [8] (LineAt s w W4.heap.size) (fun i _ => s.size - (intOf i).toNat)
    case atStart => exact H0.out
    case round =>
      obtain ⟨k, rfl, hk, hm, hb⟩ := hrel
      have HB := Lib.hid hb
      clear hb H0
      by_cases hlt : k < s.size
      · have HC4 := HLN.out (k + 1 : Nat) wr
        rw [lnP_in (by omega : k + 1 ≤ s.size)] at HC4
        obtain ⟨q1, q2⟩ := lc_le ((bys s).take k)
        have hlen : ((bys s).take k).length ≤ k := List.length_take_le _ _
        have hs1 : lc ((bys s).take (k + 1)) = lcStep (lc ((bys s).take k)) s[k] := by rw [take_snoc (bys_get hlt), lc_snoc]
        have HM : Hid (BoxL wr W4.heap.size #[.int .i64 ((lc ((bys s).take k)).1 : Int), .int .i64 ((lc ((bys s).take k)).2 : Int)]) := Lib.hid hm
        have HS1 := Lib.hid hs1
        rw [hs1] at HC4
        clear hm hs1
        generalize lc ((bys s).take k) = p at *
        obtain ⟨x, y⟩ := p
        have q1 : x ≤ 601 := by have h : x ≤ _ := q1; omega
        have q2 : y ≤ 601 := by have h : y ≤ _ := q2; omega
        have HM : Hid (BoxL wr W4.heap.size #[.int .i64 (x : Int), .int .i64 (y : Int)]) := HM
        by_cases hc : s[k] = 10
        · have hst : lcStep (x, y) s[k] = (x + 1, 1) := by unfold lcStep; rw [if_pos hc]
          have hci : ((s[k].toNat : Int) == 10) = true := by rw [hc]; rfl
          have hci2 : ((s[k].toNat : Int) != 10) = false := by rw [hc]; rfl
          rw [hst] at HC4 HS1
          have HC5 := Lib.hid HC4
          clear HC4 hst hc
          go_wp2_with fail
          refine HC5.out.mono ?_
          rintro e W5 ⟨rfl, b5⟩
          have bA := (Below.refl _ W5).alloc (Nat.le_refl _) (.cells #[.int .i64 ((x : Int) + 1), .int .i64 1] 34)
          have m2 := (HM.out.keep b5).keep bA
          have B5 := HB.out.trans (b5.mono HB.out.size)
          have HB6 := Lib.hid (B5.trans (bA.mono B5.size))
          obtain ⟨c0, c1⟩ := m2.c2
          obtain ⟨f0, f1⟩ := m2.f2
          have hb5 := b5.size
          have hltm := HM.out.lt
          have M2 := Lib.hid m2
          clear b5 bA m2 B5 HB HM HC5
          have e1 : (((x + 1, 1) : Nat × Nat).1 : Int) = (x : Int) + 1 := by simp
          have e2 : (((x + 1, 1) : Nat × Nat).2 : Int) = 1 := rfl
          rw [e1]
          try rw [e2]
          clear e1 e2
          go_wp2_with fail
          go_roundw
          case rel => exact ⟨k + 1, by go_num, by omega, by rw [HS1.out]; simpa using M2.out.s2 (.int .i64 ((x : Int) + 1)) (.int .i64 1), below_s2 HB6.out HSZ.out _ _⟩
          case measure => simp [intOf]; omega
        · have hst : lcStep (x, y) s[k] = (x, y + 1) := by unfold lcStep; rw [if_neg hc]
          have hci : ((s[k].toNat : Int) == 10) = false := by
            rw [Bool.eq_false_iff]
            intro h
            exact hc (UInt8.toNat_inj.1 (by show _ = 10; have := beq_iff_eq.1 h; omega))
          have hci2 : ((s[k].toNat : Int) != 10) = true := by rw [bne, hci]; rfl
          rw [hst] at HC4 HS1
          have HC5 := Lib.hid HC4
          clear HC4 hst hc
          go_wp2_with fail
          refine HC5.out.mono ?_
          rintro e W5 ⟨rfl, b5⟩
          have bA := (Below.refl _ W5).alloc (Nat.le_refl _) (.cells #[.int .i64 (x : Int), .int .i64 ((y : Int) + 1)] 34)
          have m2 := (HM.out.keep b5).keep bA
          have B5 := HB.out.trans (b5.mono HB.out.size)
          have HB6 := Lib.hid (B5.trans (bA.mono B5.size))
          obtain ⟨c0, c1⟩ := m2.c2
          obtain ⟨f0, f1⟩ := m2.f2
          have hb5 := b5.size
          have hltm := HM.out.lt
          have M2 := Lib.hid m2
          clear b5 bA m2 B5 HB HM HC5
          have e1 : (((x, y + 1) : Nat × Nat).1 : Int) = (x : Int) := rfl
          have e2 : (((x, y + 1) : Nat × Nat).2 : Int) = (y : Int) + 1 := by simp
          rw [e1]
          try rw [e2]
          clear e1 e2
          go_wp2_with fail
          go_roundw
          case rel => exact ⟨k + 1, by go_num, by omega, by rw [HS1.out]; simpa using M2.out.s2 (.int .i64 (x : Int)) (.int .i64 ((y : Int) + 1)), below_s2 HB6.out HSZ.out _ _⟩
          case measure => simp [intOf]; omega
      · go_wp2_with fail
        go_ret
        exact ⟨rfl, HB.out⟩
  · by_cases h1 : (s.size : Int) < a
    · have HC := HLN.out a
      rw [lnP_out (.inr h1)] at HC
      have HC2 := Lib.hid HC
      clear HC
      go_wp2_with fail
      refine (HC2.out _).mono ?_
      rintro e W3 ⟨rfl, b3⟩
      have B3 := Lib.hid (B2.out.trans (b3.mono B2.out.size))
      clear b3 HC2 B2
      go_wp2_with fail
      have HC3 := HLN.out 0 W3
      rw [HP0.out] at HC3
      refine HC3.mono ?_
      rintro e W4 ⟨rfl, b4⟩
      have B4 := B3.out.trans (b4.mono B3.out.size)
      obtain ⟨m0, bA⟩ := start1 W4 #[.int .i64 1, .int .i64 1] 34
      have H0 : Hid (LineAt s w W4.heap.size (.int .i64 0) (W4.alloc (.cells #[.int .i64 1, .int .i64 1] 34))) := Lib.hid ⟨0, rfl, Nat.zero_le _, by rw [List.take_zero]; exact m0, B4.trans (bA.mono B4.size)⟩
      have HSZ := Lib.hid B4.size
      clear HC3 b4 B4 B3 m0 bA HP0
      have e11 : (((1, 1) : Nat × Nat).1 : Int) = 1 := rfl
      have e12 : (((1, 1) : Nat × Nat).2 : Int) = 1 := rfl
      rw [e11]
      try rw [e12]
      clear e11 e12
      go_wp2_with fail
      go_loopw [8] (LineAt s w W4.heap.size) (fun i _ => s.size - (intOf i).toNat)
      case atStart => exact H0.out
      case round =>
        obtain ⟨k, rfl, hk, hm, hb⟩ := hrel
        have HB := Lib.hid hb
        clear hb H0
        by_cases hlt : k < s.size
        · have HC4 := HLN.out (k + 1 : Nat) wr
          rw [lnP_in (by omega : k + 1 ≤ s.size)] at HC4
          obtain ⟨q1, q2⟩ := lc_le ((bys s).take k)
          have hlen : ((bys s).take k).length ≤ k := List.length_take_le _ _
          have hs1 : lc ((bys s).take (k + 1)) = lcStep (lc ((bys s).take k)) s[k] := by rw [take_snoc (bys_get hlt), lc_snoc]
          have HM : Hid (BoxL wr W4.heap.size #[.int .i64 ((lc ((bys s).take k)).1 : Int), .int .i64 ((lc ((bys s).take k)).2 : Int)]) := Lib.hid hm
          have HS1 := Lib.hid hs1
          rw [hs1] at HC4
          clear hm hs1
          generalize lc ((bys s).take k) = p at *
          obtain ⟨x, y⟩ := p
          have q1 : x ≤ 601 := by have h : x ≤ _ := q1; omega
          have q2 : y ≤ 601 := by have h : y ≤ _ := q2; omega
          have HM : Hid (BoxL wr W4.heap.size #[.int .i64 (x : Int), .int .i64 (y : Int)]) := HM
          by_cases hc : s[k] = 10
          · have hst : lcStep (x, y) s[k] = (x + 1, 1) := by unfold lcStep; rw [if_pos hc]
            have hci : ((s[k].toNat : Int) == 10) = true := by rw [hc]; rfl
            have hci2 : ((s[k].toNat : Int) != 10) = false := by rw [hc]; rfl
            rw [hst] at HC4 HS1
            have HC5 := Lib.hid HC4
            clear HC4 hst hc
            go_wp2_with fail
            refine HC5.out.mono ?_
            rintro e W5 ⟨rfl, b5⟩
            have bA := (Below.refl _ W5).alloc (Nat.le_refl _) (.cells #[.int .i64 ((x : Int) + 1), .int .i64 1] 34)
            have m2 := (HM.out.keep b5).keep bA
            have B5 := HB.out.trans (b5.mono HB.out.size)
            have HB6 := Lib.hid (B5.trans (bA.mono B5.size))
            obtain ⟨c0, c1⟩ := m2.c2
            obtain ⟨f0, f1⟩ := m2.f2
            have hb5 := b5.size
            have hltm := HM.out.lt
            have M2 := Lib.hid m2
            clear b5 bA m2 B5 HB HM HC5
            have e1 : (((x + 1, 1) : Nat × Nat).1 : Int) = (x : Int) + 1 := by simp
            have e2 : (((x + 1, 1) : Nat × Nat).2 : Int) = 1 := rfl
            rw [e1]
            try rw [e2]
            clear e1 e2
            go_wp2_with fail
            go_roundw
            case rel => exact ⟨k + 1, by go_num, by omega, by rw [HS1.out]; simpa using M2.out.s2 (.int .i64 ((x : Int) + 1)) (.int .i64 1), below_s2 HB6.out HSZ.out _ _⟩
            case measure => simp [intOf]; omega
          · have hst : lcStep (x, y) s[k] = (x, y + 1) := by unfold lcStep; rw [if_neg hc]
            have hci : ((s[k].toNat : Int) == 10) = false := by
              rw [Bool.eq_false_iff]
              intro h
              exact hc (UInt8.toNat_inj.1 (by show _ = 10; have := beq_iff_eq.1 h; omega))
            have hci2 : ((s[k].toNat : Int) != 10) = true := by rw [bne, hci]; rfl
            rw [hst] at HC4 HS1
            have HC5 := Lib.hid HC4
            clear HC4 hst hc
            go_wp2_with fail
            refine HC5.out.mono ?_
            rintro e W5 ⟨rfl, b5⟩
            have bA := (Below.refl _ W5).alloc (Nat.le_refl _) (.cells #[.int .i64 (x : Int), .int .i64 ((y : Int) + 1)] 34)
            have m2 := (HM.out.keep b5).keep bA
            have B5 := HB.out.trans (b5.mono HB.out.size)
            have HB6 := Lib.hid (B5.trans (bA.mono B5.size))
            obtain ⟨c0, c1⟩ := m2.c2
            obtain ⟨f0, f1⟩ := m2.f2
            have hb5 := b5.size
            have hltm := HM.out.lt
            have M2 := Lib.hid m2
            clear b5 bA m2 B5 HB HM HC5
            have e1 : (((x, y + 1) : Nat × Nat).1 : Int) = (x : Int) := rfl
            have e2 : (((x, y + 1) : Nat × Nat).2 : Int) = (y : Int) + 1 := by simp
            rw [e1]
            try rw [e2]
            clear e1 e2
            go_wp2_with fail
            go_roundw
            case rel => exact ⟨k + 1, by go_num, by omega, by rw [HS1.out]; simpa using M2.out.s2 (.int .i64 (x : Int)) (.int .i64 ((y : Int) + 1)), below_s2 HB6.out HSZ.out _ _⟩
            case measure => simp [intOf]; omega
        · go_wp2_with fail
          go_ret
          exact ⟨rfl, HB.out⟩
    · obtain ⟨j, rfl⟩ := Int.eq_ofNat_of_zero_le (by omega : 0 ≤ a)
      have hj : j ≤ s.size := by omega
      have HC := HLN.out (j : Int)
      rw [lnP_in hj] at HC
      obtain ⟨p1, p2⟩ := lc_pos ((bys s).take j)
      generalize lc ((bys s).take j) = p at *
      obtain ⟨x, y⟩ := p
      have e1 : ((x : Int) == 0) = false := by simp only at p1; simp; omega
      have e2 : (x == 0) = false := by simp only at p1; simp; omega
      have HC2 := Lib.hid HC
      clear HC p1 p2
      go_wp2_with fail
      refine (HC2.out _).mono ?_
      rintro e W3 ⟨rfl, b3⟩
      have B3 := Lib.hid (B2.out.trans (b3.mono B2.out.size))
      clear b3 HC2 B2
      go_wp2_with fail
      have HC3 := HLN.out 0 W3
      rw [HP0.out] at HC3
      refine HC3.mono ?_
      rintro e W4 ⟨rfl, b4⟩
      have B4 := B3.out.trans (b4.mono B3.out.size)
      obtain ⟨m0, bA⟩ := start1 W4 #[.int .i64 1, .int .i64 1] 34
      have H0 : Hid (LineAt s w W4.heap.size (.int .i64 0) (W4.alloc (.cells #[.int .i64 1, .int .i64 1] 34))) := Lib.hid ⟨0, rfl, Nat.zero_le _, by rw [List.take_zero]; exact m0, B4.trans (bA.mono B4.size)⟩
      have HSZ := Lib.hid B4.size
      clear HC3 b4 B4 B3 m0 bA HP0
      have e11 : (((1, 1) : Nat × Nat).1 : Int) = 1 := rfl
      have e12 : (((1, 1) : Nat × Nat).2 : Int) = 1 := rfl
      rw [e11]
      try rw [e12]
      clear e11 e12
      go_wp2_with fail
      go_loopw [8] (LineAt s w W4.heap.size) (fun i _ => s.size - (intOf i).toNat)
      case atStart => exact H0.out
      case round =>
        obtain ⟨k, rfl, hk, hm, hb⟩ := hrel
        have HB := Lib.hid hb
        clear hb H0
        by_cases hlt : k < s.size
        · have HC4 := HLN.out (k + 1 : Nat) wr
          rw [lnP_in (by omega : k + 1 ≤ s.size)] at HC4
          obtain ⟨q1, q2⟩ := lc_le ((bys s).take k)
          have hlen : ((bys s).take k).length ≤ k := List.length_take_le _ _
          have hs1 : lc ((bys s).take (k + 1)) = lcStep (lc ((bys s).take k)) s[k] := by rw [take_snoc (bys_get hlt), lc_snoc]
          have HM : Hid (BoxL wr W4.heap.size #[.int .i64 ((lc ((bys s).take k)).1 : Int), .int .i64 ((lc ((bys s).take k)).2 : Int)]) := Lib.hid hm
          have HS1 := Lib.hid hs1
          rw [hs1] at HC4
          clear hm hs1
          generalize lc ((bys s).take k) = p at *
          obtain ⟨x, y⟩ := p
          have q1 : x ≤ 601 := by have h : x ≤ _ := q1; omega
          have q2 : y ≤ 601 := by have h : y ≤ _ := q2; omega
          have HM : Hid (BoxL wr W4.heap.size #[.int .i64 (x : Int), .int .i64 (y : Int)]) := HM
          by_cases hc : s[k] = 10
          · have hst : lcStep (x, y) s[k] = (x + 1, 1) := by unfold lcStep; rw [if_pos hc]
            have hci : ((s[k].toNat : Int) == 10) = true := by rw [hc]; rfl
            have hci2 : ((s[k].toNat : Int) != 10) = false := by rw [hc]; rfl
            rw [hst] at HC4 HS1
            have HC5 := Lib.hid HC4
            clear HC4 hst hc
            go_wp2_with fail
            refine HC5.out.mono ?_
            rintro e W5 ⟨rfl, b5⟩
            have bA := (Below.refl _ W5).alloc (Nat.le_refl _) (.cells #[.int .i64 ((x : Int) + 1), .int .i64 1] 34)
            have m2 := (HM.out.keep b5).keep bA
            have B5 := HB.out.trans (b5.mono HB.out.size)
            have HB6 := Lib.hid (B5.trans (bA.mono B5.size))
            obtain ⟨c0, c1⟩ := m2.c2
            obtain ⟨f0, f1⟩ := m2.f2
            have hb5 := b5.size
            have hltm := HM.out.lt
            have M2 := Lib.hid m2
            clear b5 bA m2 B5 HB HM HC5
            have e1 : (((x + 1, 1) : Nat × Nat).1 : Int) = (x : Int) + 1 := by simp
            have e2 : (((x + 1, 1) : Nat × Nat).2 : Int) = 1 := rfl
            rw [e1]
            try rw [e2]
            clear e1 e2
            go_wp2_with fail
            go_roundw
            case rel => exact ⟨k + 1, by go_num, by omega, by rw [HS1.out]; simpa using M2.out.s2 (.int .i64 ((x : Int) + 1)) (.int .i64 1), below_s2 HB6.out HSZ.out _ _⟩
            case measure => simp [intOf]; omega
          · have hst : lcStep (x, y) s[k] = (x, y + 1) := by unfold lcStep; rw [if_neg hc]
            have hci : ((s[k].toNat : Int) == 10) = false := by
              rw [Bool.eq_false_iff]
              intro h
              exact hc (UInt8.toNat_inj.1 (by show _ = 10; have := beq_iff_eq.1 h; omega))
            have hci2 : ((s[k].toNat : Int) != 10) = true := by rw [bne, hci]; rfl
            rw [hst] at HC4 HS1
            have HC5 := Lib.hid HC4
            clear HC4 hst hc
            go_wp2_with fail
            refine HC5.out.mono ?_
            rintro e W5 ⟨rfl, b5⟩
            have bA := (Below.refl _ W5).alloc (Nat.le_refl _) (.cells #[.int .i64 (x : Int), .int .i64 ((y : Int) + 1)] 34)
            have m2 := (HM.out.keep b5).keep bA
            have B5 := HB.out.trans (b5.mono HB.out.size)
            have HB6 := Lib.hid (B5.trans (bA.mono B5.size))
            obtain ⟨c0, c1⟩ := m2.c2
            obtain ⟨f0, f1⟩ := m2.f2
            have hb5 := b5.size
            have hltm := HM.out.lt
            have M2 := Lib.hid m2
            clear b5 bA m2 B5 HB HM HC5
            have e1 : (((x, y + 1) : Nat × Nat).1 : Int) = (x : Int) := rfl
            have e2 : (((x, y + 1) : Nat × Nat).2 : Int) = (y : Int) + 1 := by simp
            rw [e1]
            try rw [e2]
            clear e1 e2
            go_wp2_with fail
            go_roundw
            case rel => exact ⟨k + 1, by go_num, by omega, by rw [HS1.out]; simpa using M2.out.s2 (.int .i64 (x : Int)) (.int .i64 ((y : Int) + 1)), below_s2 HB6.out HSZ.out _ _⟩
            case measure => simp [intOf]; omega
        · go_wp2_with fail
          go_ret
          exact ⟨rfl, HB.out⟩

end Lx
end Go.Proofs.YtiebhlmjpnhepaaDoor
