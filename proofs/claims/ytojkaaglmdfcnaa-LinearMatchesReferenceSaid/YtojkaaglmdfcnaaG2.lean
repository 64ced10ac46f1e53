/- What the reference's fraction of two integers returns. -/
import Derived.Test.YtojkaaglmdfcnaaG1
namespace Go.Proofs.Ytojkaaglmdfcnaa
open Go.RowKit Go.Shelf
namespace Fr
set_option linter.unusedVariables false

/-- The two integers, without a common factor 2, behind the loop. -/
def Odd (n d a b : Int) : Prop := I64 a ∧ I64 b ∧ b ≠ 0 ∧ Rat.divInt a b = Rat.divInt n d ∧ (a.tmod 2 = 0 → b.tmod 2 = 0 → a = 0)

theorem mk_ok {n d x y : Int} (hd : d ≠ 0) (hy : y ≠ 0) (he : Rat.divInt x y = Rat.divInt n d) (hc : Nat.Coprime x.natAbs y.natAbs) (h1 : x.natAbs ≤ 4611686018427387904) (h2 : y.natAbs ≤ 4611686018427387904) :
    mN n d = (if y < 0 then -x else x) ∧ mD n d = (y.natAbs : Int) ∧ mE n d = 0 := by
  have hq : IsF (Rat.divInt n d) (if y < 0 then -x else x) (y.natAbs : Int) := by
    rw [← he]
    by_cases hn : y < 0
    · rw [if_pos hn, ← divInt_neg_neg]
      have c2 : Nat.Coprime (-x).natAbs (-y).natAbs := by rw [Int.natAbs_neg, Int.natAbs_neg]; exact hc
      have e1 := divInt_num (n := -x) (d := -y) (by omega) c2
      have e2 := divInt_den (n := -x) (d := -y) (by omega) c2
      exact ⟨e1, by rw [e2]; omega, by unfold Fit; rw [e1, e2]; omega⟩
    · rw [if_neg hn]
      have e1 := divInt_num (n := x) (d := y) (by omega) hc
      have e2 := divInt_den (n := x) (d := y) (by omega) hc
      exact ⟨e1, by rw [e2]; omega, by unfold Fit; rw [e1, e2]; omega⟩
  unfold mN mD mE
  rw [if_neg hd, if_neg hd, if_neg hd]
  exact ⟨rN_of hq, rD_of hq, rE_fit hq.fit⟩

theorem mk_big {n d x y : Int} (hd : d ≠ 0) (hy : y ≠ 0) (he : Rat.divInt x y = Rat.divInt n d) (hc : Nat.Coprime x.natAbs y.natAbs) (h1 : 4611686018427387904 < x.natAbs ∨ 4611686018427387904 < y.natAbs) :
    mN n d = 0 ∧ mD n d = 0 ∧ mE n d = 2 := by
  have hF : ¬ Fit (Rat.divInt n d) := by
    rw [← he]
    by_cases hn : y < 0
    · rw [← divInt_neg_neg]
      have c2 : Nat.Coprime (-x).natAbs (-y).natAbs := by rw [Int.natAbs_neg, Int.natAbs_neg]; exact hc
      have e1 := divInt_num (n := -x) (d := -y) (by omega) c2
      have e2 := divInt_den (n := -x) (d := -y) (by omega) c2
      unfold Fit; rw [e1, e2]; omega
    · have e1 := divInt_num (n := x) (d := y) (by omega) hc
      have e2 := divInt_den (n := x) (d := y) (by omega) hc
      unfold Fit; rw [e1, e2]; omega
  unfold mN mD mE
  rw [if_neg hd, if_neg hd, if_neg hd]
  exact ⟨rN_big hF, rD_big hF, rE_big hF⟩

theorem coprime_pow63 {y : Int} (h : y.tmod 2 ≠ 0) : Nat.Coprime 9223372036854775808 y.natAbs := by
  have h2 : ¬ 2 ∣ y.natAbs := fun hd => h (by
    have : (2 : Int) ∣ y := Int.ofNat_dvd_left.2 hd
    exact Int.tmod_eq_zero_of_dvd this)
  have h3 : Nat.Coprime 2 y.natAbs := by
    have := Nat.gcd_dvd_left 2 y.natAbs
    have h4 := Nat.gcd_dvd_right 2 y.natAbs
    have h5 : Nat.gcd 2 y.natAbs ≤ 2 := Nat.le_of_dvd (by decide) this
    have h6 : 0 < Nat.gcd 2 y.natAbs := Nat.gcd_pos_of_pos_left _ (by decide)
    have h7 : Nat.gcd 2 y.natAbs ≠ 2 := fun e => h2 (e ▸ h4)
    show Nat.gcd 2 y.natAbs = 1
    omega
  have h4 := Nat.Coprime.pow_left 63 h3
  rwa [show (2 : Nat) ^ 63 = 9223372036854775808 by decide] at h4

set_option maxHeartbeats 2000000 in
theorem makeIn_any (n d : Int) (w : World) (h1 : I64 n) (h2 : I64 d) :
    Calls Try.prog 80 #[.int .i64 n, .int .i64 d] w fun o w' => o = .returned (.agg #[.int .i64 (mN n d), .int .i64 (mD n d), .int .i64 (mE n d)]) ∧ Below w.heap.size w w' := by
  by_cases h0 : d = 0
  · subst h0
    have HEE : Hid (mN n 0 = 0 ∧ mD n 0 = 0 ∧ mE n 0 = 3) := Lib.hid ⟨rfl, rfl, rfl⟩
    go_enter Try.func80, Try.ntmps80
    go_wp2_with fail
    refine bodyPost_ret (v := .agg #[.int .i64 (0), .int .i64 (0), .int .i64 (3)]) (by simp [results, Try.results80, go_sem]) rfl ⟨by rw [HEE.out.1, HEE.out.2.1, HEE.out.2.2], ?_⟩
    exact (Below.refl _ w).alloc (Nat.le_refl _) _
  · have hb0 : (d == 0) = false := by simpa using h0
    have HI : Hid (I64 n ∧ I64 d ∧ d ≠ 0) := Lib.hid ⟨h1, h2, h0⟩
    unfold I64 at h1 h2
    clear h0
    go_enter Try.func80, Try.ntmps80
    go_upto_block 0 with fail
    go_cut [5, 6] (fun u v wx => ∃ a b : Int, u = .int .i64 a ∧ v = .int .i64 b ∧ Odd n d a b ∧ wx = w.alloc (.cells #[.int .i64 0, .int .i64 0, .int .i64 0] 51))
    case first =>
      go_wp2_with fail
      go_loop [5, 6] (fun u v => ∃ a b : Int, u = .int .i64 a ∧ v = .int .i64 b ∧ I64 a ∧ I64 b ∧ b ≠ 0 ∧ Rat.divInt a b = Rat.divInt n d) (fun u _ => (intOf u).natAbs)
      case atStart => exact ⟨n, d, rfl, rfl, HI.out.1, HI.out.2.1, HI.out.2.2, rfl⟩
      case round =>
        obtain ⟨a, b, rfl, rfl, ha, hb, hbn, he⟩ := hrel
        have HA := Lib.hid (And.intro ha (And.intro hb (And.intro hbn he)))
        clear ha hb hbn he
        by_cases ea : a.tmod 2 = 0
        · have fa : (a.tmod 2 == 0) = true := by simpa using ea
          by_cases eb : b.tmod 2 = 0
          · have fb : (b.tmod 2 == 0) = true := by simpa using eb
            by_cases ez : a = 0
            · have HO : Hid (Odd n d a b) := Lib.hid ⟨HA.out.1, HA.out.2.1, HA.out.2.2.1, HA.out.2.2.2, fun _ _ => ez⟩
              have fz : (a == 0) = true := by simpa using ez
              clear ea eb ez
              go_wp2_with fail
              go_meet
              exact ⟨a, b, rfl, rfl, HO.out, rfl⟩
            · have fz : (a == 0) = false := by simpa using ez
              obtain ⟨x, hx⟩ : ∃ x, a = 2 * x := Int.dvd_of_tmod_eq_zero ea
              obtain ⟨y, hy⟩ : ∃ y, b = 2 * y := Int.dvd_of_tmod_eq_zero eb
              have HX := Lib.hid hx
              have HY := Lib.hid hy
              have qa : IntKind.i64.wrap (a.tdiv 2) = x := by
                rw [hx, Int.mul_tdiv_cancel_left _ (by decide)]
                exact IntWalk.i64_in _ (by have := HA.out.1; unfold I64 at this; omega)
              have qb : IntKind.i64.wrap (b.tdiv 2) = y := by
                rw [hy, Int.mul_tdiv_cancel_left _ (by decide)]
                exact IntWalk.i64_in _ (by have := HA.out.2.1; unfold I64 at this; omega)
              have HZ := Lib.hid ez
              clear ea eb ez hx hy
              go_wp2_with fail
              go_round
              case rel =>
                have hA := HA.out
                rw [HX.out, HY.out] at hA
                refine ⟨x, y, rfl, rfl, ?_, ?_, ?_, ?_⟩
                · have := hA.1; unfold I64 at *; omega
                · have := hA.2.1; unfold I64 at *; omega
                · have := hA.2.2.1; omega
                · rw [← hA.2.2.2, Rat.divInt_mul_left (by decide)]
              case measure => have := HX.out; have := HZ.out; simp [intOf]; omega
          · have fb : (b.tmod 2 == 0) = false := by simpa using eb
            have HO : Hid (Odd n d a b) := Lib.hid ⟨HA.out.1, HA.out.2.1, HA.out.2.2.1, HA.out.2.2.2, fun _ h => absurd h eb⟩
            clear ea eb
            go_wp2_with fail
            go_meet
            exact ⟨a, b, rfl, rfl, HO.out, rfl⟩
        · have fa : (a.tmod 2 == 0) = false := by simpa using ea
          have HO : Hid (Odd n d a b) := Lib.hid ⟨HA.out.1, HA.out.2.1, HA.out.2.2.1, HA.out.2.2.2, fun h => absurd h ea⟩
          clear ea
          go_wp2_with fail
          go_meet
          exact ⟨a, b, rfl, rfl, HO.out, rfl⟩
    case rest =>
      obtain ⟨a, b, rfl, rfl, HO, rfl⟩ := hcut
      obtain ⟨hA, hB, hBn, hE, hO⟩ := HO
      have hdn : d ≠ 0 := HI.out.2.2
      by_cases hz : a = 0
      · have fz : (a == 0) = true := by simpa using hz
        obtain ⟨e1, e2, e3⟩ := mk_ok (n := n) (d := d) (x := 0) (y := 1) hdn (by decide) (by rw [← hE, hz]; simp) (by decide) (by decide) (by decide)
        have e1 : mN n d = 0 := e1
        have e2 : mD n d = 1 := e2
        have HEE := Lib.hid (And.intro e1 (And.intro e2 e3))
        clear e1 e2 e3 hA hB hBn hE hO hdn hz HI h1 h2 hb0
        go_wp2_with fail
        refine bodyPost_ret (v := .agg #[.int .i64 (0), .int .i64 (1), .int .i64 (0)]) (by simp [results, Try.results80, go_sem]) rfl ⟨by rw [HEE.out.1, HEE.out.2.1, HEE.out.2.2], ?_⟩
        exact (Below.refl _ w).alloc (Nat.le_refl _) _
      · have fz : (a == 0) = false := by simpa using hz
        by_cases hla : a = -9223372036854775808
        · have fl : (a == -9223372036854775808) = true := by simpa using hla
          have hbo : b.tmod 2 ≠ 0 := fun h => hz (hO (by rw [hla]; decide) h)
          obtain ⟨e1, e2, e3⟩ := mk_big hdn hBn hE (by rw [hla]; exact coprime_pow63 hbo) (.inl (by rw [hla]; decide))
          have HEE := Lib.hid (And.intro e1 (And.intro e2 e3))
          clear e1 e2 e3 hA hB hBn hE hO hdn hz HI h1 h2 hb0 hla hbo
          go_wp2_with fail
          refine bodyPost_ret (v := .agg #[.int .i64 (0), .int .i64 (0), .int .i64 (2)]) (by simp [results, Try.results80, go_sem]) rfl ⟨by rw [HEE.out.1, HEE.out.2.1, HEE.out.2.2], ?_⟩
          exact (Below.refl _ w).alloc (Nat.le_refl _) _
        · have fl : (a == -9223372036854775808) = false := by simpa using hla
          by_cases hlb : b = -9223372036854775808
          · have fb : (b == -9223372036854775808) = true := by simpa using hlb
            have hao : a.tmod 2 ≠ 0 := fun h => hz (hO h (by rw [hlb]; decide))
            obtain ⟨e1, e2, e3⟩ := mk_big hdn hBn hE (by rw [hlb]; exact (coprime_pow63 hao).symm) (.inr (by rw [hlb]; decide))
            have HEE := Lib.hid (And.intro e1 (And.intro e2 e3))
            clear e1 e2 e3 hA hB hBn hE hO hdn hz HI h1 h2 hb0 hlb hao hla
            go_wp2_with fail
            refine bodyPost_ret (v := .agg #[.int .i64 (0), .int .i64 (0), .int .i64 (2)]) (by simp [results, Try.results80, go_sem]) rfl ⟨by rw [HEE.out.1, HEE.out.2.1, HEE.out.2.2], ?_⟩
            exact (Below.refl _ w).alloc (Nat.le_refl _) _
          · have fb : (b == -9223372036854775808) = false := by simpa using hlb
            have hA1 : -9223372036854775808 < a := by unfold I64 at hA; omega
            have hB1 : -9223372036854775808 < b := by unfold I64 at hB; omega
            have hA2 : a ≤ 9223372036854775807 := hA.2
            have hB2 : b ≤ 9223372036854775807 := hB.2
            have hg0 : 0 < Nat.gcd a.natAbs b.natAbs := Nat.gcd_pos_of_pos_right _ (by omega)
            have hg1 : Nat.gcd a.natAbs b.natAbs ≤ 9223372036854775807 := Nat.le_trans (Nat.gcd_le_right _ (by omega)) (by omega)
            have HGC := Lib.hid (fun W => rgcd_any a.natAbs b.natAbs W (by omega) (by omega))
            have HHA := Lib.hid (fun W => half_any a (Nat.gcd a.natAbs b.natAbs : Int) W hA (by omega) (by omega) hA1)
            have HHB := Lib.hid (fun W => half_any b (Nat.gcd a.natAbs b.natAbs : Int) W hB (by omega) (by omega) hB1)
            have c1 := coprime_split (a := a.natAbs) (b := b.natAbs) (.inr (by omega))
            obtain ⟨x, ex⟩ : (Nat.gcd a.natAbs b.natAbs : Int) ∣ a := Int.ofNat_dvd_left.2 (Nat.gcd_dvd_left _ _)
            obtain ⟨y, ey⟩ : (Nat.gcd a.natAbs b.natAbs : Int) ∣ b := Int.ofNat_dvd_left.2 (Nat.gcd_dvd_right _ _)
            generalize Nat.gcd a.natAbs b.natAbs = g at *
            have hgn : (g : Int) ≠ 0 := by omega
            have ta : a.tdiv (g : Int) = x := by rw [ex, Int.mul_tdiv_cancel_left _ hgn]
            have tb : b.tdiv (g : Int) = y := by rw [ey, Int.mul_tdiv_cancel_left _ hgn]
            rw [ta] at HHA
            rw [tb] at HHB
            have hcop : Nat.Coprime x.natAbs y.natAbs := by
              rw [ex, ey, natAbs_cast_mul, natAbs_cast_mul, Nat.mul_div_cancel_left _ hg0, Nat.mul_div_cancel_left _ hg0] at c1
              exact c1
            have hyn : y ≠ 0 := by intro h; rw [h] at ey; simp at ey; exact hBn ey
            have hE2 : Rat.divInt x y = Rat.divInt n d := by rw [← hE, ex, ey, Rat.divInt_mul_left hgn]
            have sa : a < 0 ↔ x < 0 := by
              rw [ex]
              constructor
              · intro h
                rcases Int.lt_or_le x 0 with h' | h'
                · exact h'
                · have := Int.mul_nonneg (by omega : (0 : Int) ≤ g) h'; omega
              · intro h; exact Int.mul_neg_of_pos_of_neg (by omega) h
            have sb : b < 0 ↔ y < 0 := by
              rw [ey]
              constructor
              · intro h
                rcases Int.lt_or_le y 0 with h' | h'
                · exact h'
                · have := Int.mul_nonneg (by omega : (0 : Int) ≤ g) h'; omega
              · intro h; exact Int.mul_neg_of_pos_of_neg (by omega) h
            clear c1 ta tb ex ey hgn hg0 hg1 hA hB hBn hE hO hla hlb hz HI h1 h2 hb0
            by_cases hp : 4611686018427387904 < x.natAbs
            · obtain ⟨e1, e2, e3⟩ := mk_big hdn hyn hE2 hcop (.inl hp)
              have HEE := Lib.hid (And.intro e1 (And.intro e2 e3))
              have hp' : (4611686018427387904 : Int) < (x.natAbs : Int) := by omega
              generalize (x.natAbs : Int) = X at *
              generalize (y.natAbs : Int) = Y at *
              clear e1 e2 e3 hcop hyn hE2 sa sb hdn hp
              go_wp2_with fail
              refine (rsize_any a _ (by omega) (by omega)).mono ?_
              rintro o w' ⟨rfl, rfl⟩
              go_wp2_with fail
              refine (rsize_any b _ (by omega) (by omega)).mono ?_
              rintro o w' ⟨rfl, rfl⟩
              go_wp2_with fail
              refine (HGC.out _).mono ?_
              rintro o w' ⟨rfl, rfl⟩
              go_wp2_with fail
              refine (HHA.out _).mono ?_
              rintro o w' ⟨rfl, rfl⟩
              go_wp2_with fail
              refine (HHB.out _).mono ?_
              rintro o w' ⟨rfl, rfl⟩
              go_wp2_with fail
              refine (most_any _).mono ?_
              rintro o w' ⟨rfl, rfl⟩
              go_wp2_with fail
              refine bodyPost_ret (v := .agg #[.int .i64 (0), .int .i64 (0), .int .i64 (2)]) (by simp [results, Try.results80, go_sem]) rfl ⟨by rw [HEE.out.1, HEE.out.2.1, HEE.out.2.2], ?_⟩
              exact (Below.refl _ w).alloc (Nat.le_refl _) _
            · by_cases hq : 4611686018427387904 < y.natAbs
              · obtain ⟨e1, e2, e3⟩ := mk_big hdn hyn hE2 hcop (.inr hq)
                have HEE := Lib.hid (And.intro e1 (And.intro e2 e3))
                have hp' : (x.natAbs : Int) ≤ 4611686018427387904 := by omega
                have hq' : (4611686018427387904 : Int) < (y.natAbs : Int) := by omega
                generalize (x.natAbs : Int) = X at *
                generalize (y.natAbs : Int) = Y at *
                clear e1 e2 e3 hcop hyn hE2 sa sb hdn hp hq
                go_wp2_with fail
                refine (rsize_any a _ (by omega) (by omega)).mono ?_
                rintro o w' ⟨rfl, rfl⟩
                go_wp2_with fail
                refine (rsize_any b _ (by omega) (by omega)).mono ?_
                rintro o w' ⟨rfl, rfl⟩
                go_wp2_with fail
                refine (HGC.out _).mono ?_
                rintro o w' ⟨rfl, rfl⟩
                go_wp2_with fail
                refine (HHA.out _).mono ?_
                rintro o w' ⟨rfl, rfl⟩
                go_wp2_with fail
                refine (HHB.out _).mono ?_
                rintro o w' ⟨rfl, rfl⟩
                go_wp2_with fail
                refine (most_any _).mono ?_
                rintro o w' ⟨rfl, rfl⟩
                go_wp2_with fail
                refine (most_any _).mono ?_
                rintro o w' ⟨rfl, rfl⟩
                go_wp2_with fail
                refine bodyPost_ret (v := .agg #[.int .i64 (0), .int .i64 (0), .int .i64 (2)]) (by simp [results, Try.results80, go_sem]) rfl ⟨by rw [HEE.out.1, HEE.out.2.1, HEE.out.2.2], ?_⟩
                exact (Below.refl _ w).alloc (Nat.le_refl _) _
              · obtain ⟨e1, e2, e3⟩ := mk_ok hdn hyn hE2 hcop (by omega) (by omega)
                have hX0 : (0 : Int) ≤ (x.natAbs : Int) := by omega
                by_cases hs : (a < 0) ↔ (b < 0)
                · have hval : (if y < 0 then -x else x) = (x.natAbs : Int) := by split <;> omega
                  rw [hval] at e1
                  have HEE := Lib.hid (And.intro e1 (And.intro e2 e3))
                  have hsb : (decide (a < 0) == decide (b < 0)) = true := by simp [hs]
                  have hp' : (x.natAbs : Int) ≤ 4611686018427387904 := by omega
                  have hq' : (y.natAbs : Int) ≤ 4611686018427387904 := by omega
                  generalize (x.natAbs : Int) = X at *
                  generalize (y.natAbs : Int) = Y at *
                  clear e1 e2 e3 hcop hyn hE2 sa sb hdn hp hq hval hs
                  go_wp2_with fail
                  refine (rsize_any a _ (by omega) (by omega)).mono ?_
                  rintro o w' ⟨rfl, rfl⟩
                  go_wp2_with fail
                  refine (rsize_any b _ (by omega) (by omega)).mono ?_
                  rintro o w' ⟨rfl, rfl⟩
                  go_wp2_with fail
                  refine (HGC.out _).mono ?_
                  rintro o w' ⟨rfl, rfl⟩
                  go_wp2_with fail
                  refine (HHA.out _).mono ?_
                  rintro o w' ⟨rfl, rfl⟩
                  go_wp2_with fail
                  refine (HHB.out _).mono ?_
                  rintro o w' ⟨rfl, rfl⟩
                  go_wp2_with fail
                  refine (most_any _).mono ?_
                  rintro o w' ⟨rfl, rfl⟩
                  go_wp2_with fail
                  refine (most_any _).mono ?_
                  rintro o w' ⟨rfl, rfl⟩
                  go_wp2_with fail
                  refine bodyPost_ret (v := .agg #[.int .i64 (X), .int .i64 (Y), .int .i64 (0)]) (by simp [results, Try.results80, go_sem]) rfl ⟨by rw [HEE.out.1, HEE.out.2.1, HEE.out.2.2], ?_⟩
                  exact (Below.refl _ w).alloc (Nat.le_refl _) _
                · have hval : (if y < 0 then -x else x) = -(x.natAbs : Int) := by
                    rw [sa, sb] at hs
                    by_cases hy0 : y < 0
                    · rw [if_pos hy0]; simp [hy0] at hs; omega
                    · rw [if_neg hy0]; simp [hy0] at hs; omega
                  rw [hval] at e1
                  have HEE := Lib.hid (And.intro e1 (And.intro e2 e3))
                  have hsb : (decide (a < 0) == decide (b < 0)) = false := by
                    by_cases h : a < 0 <;> by_cases h' : b < 0 <;> simp [h, h'] <;> simp [h, h'] at hs
                  have hp' : (x.natAbs : Int) ≤ 4611686018427387904 := by omega
                  have hq' : (y.natAbs : Int) ≤ 4611686018427387904 := by omega
                  generalize (x.natAbs : Int) = X at *
                  generalize (y.natAbs : Int) = Y at *
                  clear e1 e2 e3 hcop hyn hE2 sa sb hdn hp hq hval hs
                  go_wp2_with fail
                  refine (rsize_any a _ (by omega) (by omega)).mono ?_
                  rintro o w' ⟨rfl, rfl⟩
                  go_wp2_with fail
                  refine (rsize_any b _ (by omega) (by omega)).mono ?_
                  rintro o w' ⟨rfl, rfl⟩
                  go_wp2_with fail
                  refine (HGC.out _).mono ?_
                  rintro o w' ⟨rfl, rfl⟩
                  go_wp2_with fail
                  refine (HHA.out _).mono ?_
                  rintro o w' ⟨rfl, rfl⟩
                  go_wp2_with fail
                  refine (HHB.out _).mono ?_
                  rintro o w' ⟨rfl, rfl⟩
                  go_wp2_with fail
                  refine (most_any _).mono ?_
                  rintro o w' ⟨rfl, rfl⟩
                  go_wp2_with fail
                  refine (most_any _).mono ?_
                  rintro o w' ⟨rfl, rfl⟩
                  go_wp2_with fail
                  refine bodyPost_ret (v := .agg #[.int .i64 (-X), .int .i64 (Y), .int .i64 (0)]) (by simp [results, Try.results80, go_sem]) rfl ⟨by rw [HEE.out.1, HEE.out.2.1, HEE.out.2.2], ?_⟩
                  exact (Below.refl _ w).alloc (Nat.le_refl _) _

end Fr
end Go.Proofs.Ytojkaaglmdfcnaa
