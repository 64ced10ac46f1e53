/- What a long division by one word returns. -/
import Derived.Test.YtojkaaglmdfcnaaW2
import Derived.Test.YtojkaaglmdfcnaaM2
import Derived.Deep.DeepCutAuto
import Derived.Deep.CutBlock
import Derived.Deep.LoopGhost
import Derived.Lib.ItoaNum
namespace Go.Proofs.Ytojkaaglmdfcnaa
open Go.RowKit Go.Shelf
namespace Fr
set_option linter.unusedVariables false

theorem ret2_int {k : IntKind} {a b c d : Int} (h : a = b) (h' : c = d) : Ending.returned (.tuple #[.int k a, .int k c]) = .returned (.tuple #[.int k b, .int k d]) := by rw [h, h']

theorem drewN_below (w : World) (n : Nat) : Below w.heap.size w (w.drewN n) := ⟨rfl, rfl, rfl, Nat.le_refl _, fun _ _ => rfl⟩

theorem div64_low (l y : Int) (w : World) (hl0 : 0 ≤ l) (hl1 : l < 18446744073709551616) (hy0 : 0 < y) (hy1 : y < 18446744073709551616) :
    Calls Try.prog 96 #[.int .u64 0, .int .u64 l, .int .u64 y] w fun e w' => e = .returned (.tuple #[.int .u64 (l / y), .int .u64 (l % y)]) ∧ Below w.heap.size w w' := by
  have hb1 : (y == 0) = false := by simp; omega
  have hb2 : decide (y ≤ 0) = false := by simp; omega
  have e1 : IntKind.u64.wrap (l.tdiv y) = l / y := IntWalk.u64_quo l y (by omega)
  have e2 : l.tmod y = l % y := IntWalk.rem_in l y hl0
  go_enter Try.func96, Try.ntmps96
  go_wp2
  go_quiet (fail)
  go_wp2
  go_ret2
  exact ⟨rfl, drewN_below _ _⟩

/-- The zeros ahead of a word. -/
theorem zeros_any (y : Int) (hy0 : 0 < y) (hy1 : y < 18446744073709551616) : ∃ s : Nat, s ≤ 63 ∧ 9223372036854775808 ≤ y * 2 ^ s ∧ y * 2 ^ s < 18446744073709551616 ∧
    ∀ w : World, Calls Try.prog 108 #[.int .u64 y] w fun e w' => e = .returned (.int .i64 (s : Int)) ∧ w = w' := by
  obtain ⟨n, rfl⟩ := Int.eq_ofNat_of_zero_le (by omega : 0 ≤ y)
  obtain ⟨b1, b2, b3⟩ := Lib.bitLenAux_bounds 64 n (by omega) (by omega)
  have hle := Lib.bitLen_le n 64 (by omega) (by omega)
  change 1 ≤ Lib.bitLen n at b1
  change 2 ^ (Lib.bitLen n - 1) ≤ n at b2
  change n < 2 ^ Lib.bitLen n at b3
  refine ⟨64 - Lib.bitLen n, by omega, ?_, ?_, fun w => ?_⟩
  · have h1 : 2 ^ (Lib.bitLen n - 1) * 2 ^ (64 - Lib.bitLen n) ≤ n * 2 ^ (64 - Lib.bitLen n) := Nat.mul_le_mul_right _ b2
    rw [← Nat.pow_add, show Lib.bitLen n - 1 + (64 - Lib.bitLen n) = 63 by omega] at h1
    have : ((n * 2 ^ (64 - Lib.bitLen n) : Nat) : Int) = (n : Int) * 2 ^ (64 - Lib.bitLen n) := by simp
    rw [← this]
    omega
  · have h1 : n * 2 ^ (64 - Lib.bitLen n) < 2 ^ Lib.bitLen n * 2 ^ (64 - Lib.bitLen n) := Nat.mul_lt_mul_of_pos_right b3 (Nat.two_pow_pos _)
    rw [← Nat.pow_add, show Lib.bitLen n + (64 - Lib.bitLen n) = 64 by omega] at h1
    have : ((n * 2 ^ (64 - Lib.bitLen n) : Nat) : Int) = (n : Int) * 2 ^ (64 - Lib.bitLen n) := by simp
    rw [← this]
    omega
  · refine (Try.bits_LeadingZeros64 (n : Int) w (by omega) (by omega)).mono ?_
    rintro e w' ⟨rfl, rfl⟩
    refine ⟨ret_int ?_, rfl⟩
    simp
    omega

/-- A guess is still to be made lesser, or is the digit. -/
def Guess (y1 y0 u v q r : Int) : Prop := q * y1 + r = u ∧ 0 ≤ r ∧ r < 4294967296 ∧ (u * 4294967296 + v) / (y1 * 4294967296 + y0) ≤ q ∧ q < 18446744073709551616

set_option maxHeartbeats 1000000 in
theorem div64_high (h l y : Int) (w : World) (hl0 : 0 ≤ l) (hl1 : l < 18446744073709551616) (hh : 0 < h) (hhy : h < y) (hy1 : y < 18446744073709551616) :
    Calls Try.prog 96 #[.int .u64 h, .int .u64 l, .int .u64 y] w fun e w' => e = .returned (.tuple #[.int .u64 ((h * 18446744073709551616 + l) / y), .int .u64 ((h * 18446744073709551616 + l) % y)]) ∧ Below w.heap.size w w' := by
  have hb1 : (y == 0) = false := by simp; omega
  have hb2 : decide (y ≤ h) = false := by simp; omega
  have hb3 : (h == 0) = false := by simp; omega
  obtain ⟨s, hs, hY0, hY1, hz⟩ := zeros_any y (by omega) hy1
  have HZ := Lib.hid hz
  clear hz
  have ws : IntKind.u64.wrap (s : Int) = (s : Int) := IntWalk.u64_in _ (by omega)
  have hp : (0 : Int) < 2 ^ s := Int.pow_pos (by decide)
  have hlt := shift_lt (h := h) (l := l) (y := y) hs hl0 hl1 hhy
  have hsh : 0 ≤ h * 2 ^ s := Int.mul_nonneg (by omega) (by omega)
  have hld : 0 ≤ l / 2 ^ (64 - s) := Int.ediv_nonneg hl0 (Int.le_of_lt (Int.pow_pos (by decide)))
  have hor := or_shift (h := h) (l := l) hs (by omega) hl0 hl1 (by omega)
  have HP := Lib.hid (shift_pair (h := h) (l := l) hs hl0)
  have HQ : Hid ((h * 18446744073709551616 + l) * 2 ^ s / (y * 2 ^ s) = (h * 18446744073709551616 + l) / y) := Lib.hid (Int.mul_ediv_mul_of_pos_left _ _ hp)
  have HR : Hid ((h * 18446744073709551616 + l) * 2 ^ s % (y * 2 ^ s) / 2 ^ s = (h * 18446744073709551616 + l) % y) := Lib.hid (by
    rw [Int.mul_comm _ (2 ^ s), Int.mul_comm y, Int.mul_emod_mul_of_pos _ _ hp, Int.mul_comm (2 ^ s), Int.mul_ediv_cancel _ (by omega)])
  have hlw : IntKind.u64.wrap (l * 2 ^ s) = l * 2 ^ s % 18446744073709551616 := IntKind.wrap_u64 _
  obtain ⟨U, hU⟩ : ∃ U, h * 2 ^ s + l / 2 ^ (64 - s) = U := ⟨_, rfl⟩
  obtain ⟨L, hL⟩ : ∃ L, l * 2 ^ s % 18446744073709551616 = L := ⟨_, rfl⟩
  have hL0 : 0 ≤ L := by omega
  have hL1 : L < 18446744073709551616 := by omega
  rw [hU] at hlt hor HP
  rw [hL] at hlw HP
  have hU0 : 0 ≤ U := by omega
  obtain ⟨Y, hY⟩ : ∃ Y, y * 2 ^ s = Y := ⟨_, rfl⟩
  rw [hY] at hY0 hY1 hlt HQ HR
  have hym := and_mask32 (x := Y) (by omega) hY1
  have hlm := and_mask32 (x := L) hL0 hL1
  have HE := Lib.hid (Int.mul_ediv_add_emod Y 4294967296)
  have HLE := Lib.hid (Int.mul_ediv_add_emod L 4294967296)
  obtain ⟨y1, hy1e⟩ : ∃ y1, Y / 4294967296 = y1 := ⟨_, rfl⟩
  obtain ⟨y0, hy0e⟩ : ∃ y0, Y % 4294967296 = y0 := ⟨_, rfl⟩
  obtain ⟨v1, hv1e⟩ : ∃ v1, L / 4294967296 = v1 := ⟨_, rfl⟩
  obtain ⟨v0, hv0e⟩ : ∃ v0, L % 4294967296 = v0 := ⟨_, rfl⟩
  have b1 : 2147483648 ≤ y1 := by omega
  have b1' : y1 < 4294967296 := by omega
  have b2 : 0 ≤ y0 := by omega
  have b2' : y0 < 4294967296 := by omega
  have b3 : 0 ≤ v1 := by omega
  have b3' : v1 < 4294967296 := by omega
  have b4 : 0 ≤ v0 := by omega
  have b4' : v0 < 4294967296 := by omega
  rw [hy1e, hy0e] at HE
  rw [hv1e, hv0e] at HLE
  rw [hy0e] at hym
  rw [hv0e] at hlm
  have hYe : y1 * 4294967296 + y0 = Y := by have := HE.out; omega
  have hLe : v1 * 4294967296 + v0 = L := by have := HLE.out; omega
  -- the first digit
  have hq0 := guess_start (y1 := y1) (y0 := y0) (u := U) (v := v1) (by omega) b2 hU0 b3'
  have hqt : IntKind.u64.wrap (U.tdiv y1) = U / y1 := IntWalk.u64_quo U y1 (by omega)
  have hqm : IntKind.u64.wrap (U - IntKind.u64.wrap (U / y1 * y1)) = U % y1 := by
    have := Int.ediv_mul_add_emod U y1
    have := Int.emod_nonneg U (b := y1) (by omega)
    have := Int.emod_lt_of_pos U (b := y1) (by omega)
    simp only [IntKind.wrap_u64]
    omega
  have hqe := Int.ediv_mul_add_emod U y1
  have hqu : U / y1 ≤ U := Int.ediv_le_self _ hU0
  have hqp : 0 ≤ U / y1 := Int.ediv_nonneg hU0 (by omega)
  have hr0 := Int.emod_nonneg U (b := y1) (by omega)
  have hr1 := Int.emod_lt_of_pos U (b := y1) (by omega)
  obtain ⟨q, hq⟩ : ∃ q, U / y1 = q := ⟨_, rfl⟩
  obtain ⟨r, hr⟩ : ∃ r, U % y1 = r := ⟨_, rfl⟩
  rw [hq] at hq0 hqt hqm hqe hqu hqp
  rw [hr] at hqm hqe hr0 hr1
  have HG : Hid (Guess y1 y0 U v1 q r) := Lib.hid ⟨hqe, hr0, by omega, hq0, by omega⟩
  have HYE := Lib.hid hYe
  have HLE' := Lib.hid hLe
  clear hq0 hqe hYe hLe hL hU hq hr
  go_enter Try.func96, Try.ntmps96
  go_upto_block 0 with (go_at_call 108; refine (HZ.out _).mono ?_; rintro e w' ⟨rfl, rfl⟩)
  clear hqt hqm hqu hqp hr0 hr1 hor hlw hsh hld ws HZ hY hym hlm hy1e hy0e hv1e hv0e hb1 hb2 hb3 hp HE HLE
  go_cut [15] (fun d wx => d = .int .u64 ((U * 4294967296 + v1) / (y1 * 4294967296 + y0)) ∧ w = wx)
  case first =>
    go_wp2_with fail
    go_loop [15, 16] (fun a b => ∃ q r : Int, a = .int .u64 q ∧ b = .int .u64 r ∧ Guess y1 y0 U v1 q r) (fun _ b => (4294967296 - intOf b).toNat)
    case atStart => exact ⟨q, r, rfl, rfl, HG.out⟩
    case round =>
      obtain ⟨q, r, rfl, rfl, hg⟩ := hrel
      obtain ⟨g1, g2, g3, g4, g5⟩ := hg
      have hq0 : 0 ≤ q := Int.le_trans (Int.ediv_nonneg (by omega) (by omega)) g4
      have hyp : 0 < y1 * 4294967296 + y0 := by omega
      have huy : U < y1 * 4294967296 + y0 := by have := HYE.out; omega
      have next : ∀ G6 : (U * 4294967296 + v1) / (y1 * 4294967296 + y0) ≤ q - 1, 4294967296 ≤ r + y1 → q - 1 = (U * 4294967296 + v1) / (y1 * 4294967296 + y0) := fun G6 hr =>
        guess_break (r := r + y1) (by omega) b2 b2' huy (by omega) (by rw [Int.sub_mul, Int.one_mul]; omega) (Int.le_trans (Int.ediv_nonneg (by omega) (by omega)) G6) G6 hr
      have keep : ∀ G6 : (U * 4294967296 + v1) / (y1 * 4294967296 + y0) ≤ q - 1, r + y1 < 4294967296 → Guess y1 y0 U v1 (q - 1) (r + y1) := fun G6 hr =>
        ⟨by rw [Int.sub_mul, Int.one_mul]; omega, by omega, by omega, G6, by omega⟩
      have HN := Lib.hid next
      have HK := Lib.hid keep
      have G1 := Lib.hid g1
      have G4 := Lib.hid g4
      have HU := Lib.hid huy
      clear next keep g1 g4 huy
      by_cases hq : 4294967296 ≤ q
      · have G6 := Lib.hid (guess_high (q := q) (y1 := y1) (y0 := y0) (u := U) (v := v1) hyp HU.out (by omega) hq)
        have hq1 : 1 ≤ q := by omega
        clear hyp
        by_cases hr : 4294967296 ≤ r + y1
        · have E1 := Lib.hid (HN.out G6.out hr)
          go_wp2_with fail
          go_meet
          exact ⟨congrArg (Value.int .u64) E1.out, rfl⟩
        · have HK1 := Lib.hid (HK.out G6.out (by omega))
          go_wp2_with fail
          go_round
          case rel => exact ⟨q - 1, r + y1, rfl, rfl, HK1.out⟩
          case measure => simp [intOf]; omega
      · have hm : q * y0 ≤ 4294967295 * 4294967295 := Int.mul_le_mul (by omega) (by omega) b2 (by decide)
        have hm0 : 0 ≤ q * y0 := Int.mul_nonneg hq0 b2
        have hmw : IntKind.u64.wrap (q * y0) = q * y0 := IntWalk.u64_in _ (by omega)
        by_cases ht : 4294967296 * r + v1 < q * y0
        · have G6 := Lib.hid (guess_more (q := q) (y1 := y1) (y0 := y0) (u := U) (v := v1) (r := r) hyp G1.out (by omega))
          have hq1 : 1 ≤ q := by
            rcases Int.lt_or_le q 1 with h' | h'
            · have : q = 0 := by omega
              subst this
              simp at ht
              omega
            · exact h'
          clear hyp hm hm0
          by_cases hr : 4294967296 ≤ r + y1
          · have E1 := Lib.hid (HN.out G6.out hr)
            go_wp2_with fail
            go_meet
            exact ⟨congrArg (Value.int .u64) E1.out, rfl⟩
          · have HK1 := Lib.hid (HK.out G6.out (by omega))
            go_wp2_with fail
            go_round
            case rel => exact ⟨q - 1, r + y1, rfl, rfl, HK1.out⟩
            case measure => simp [intOf]; omega
        · have E1 := Lib.hid (guess_done (q := q) (y1 := y1) (y0 := y0) (u := U) (v := v1) (r := r) hyp G1.out G4.out (by omega))
          clear hyp hm hm0
          go_wp2_with fail
          go_meet
          exact ⟨congrArg (Value.int .u64) E1.out, rfl⟩
  case rest =>
    obtain ⟨rfl, rfl⟩ := hcut
    have hlt' := guess_lt (y1 := y1) (y0 := y0) (u := U) (v := v1) (by omega) (by have := HYE.out; omega) b3'
    have hge' : 0 ≤ (U * 4294967296 + v1) / (y1 * 4294967296 + y0) := Int.ediv_nonneg (by omega) (by omega)
    rw [HYE.out] at hlt' hge' ⊢
    have HT := Lib.hid (two_digits U v1 v0 Y (by omega))
    have hU2a := Int.emod_nonneg (U * 4294967296 + v1) (b := Y) (by omega)
    have hU2b := Int.emod_lt_of_pos (U * 4294967296 + v1) (b := Y) (by omega)
    have hun := left_eq U v1 Y
    obtain ⟨Q1, hQ1⟩ : ∃ Q1, (U * 4294967296 + v1) / Y = Q1 := ⟨_, rfl⟩
    obtain ⟨V, hV⟩ : ∃ V, (U * 4294967296 + v1) % Y = V := ⟨_, rfl⟩
    rw [hQ1] at hlt' hge' hun HT ⊢
    rw [hV] at hU2a hU2b hun HT
    have hunw := wrap_sub (U * 4294967296) v1 (Q1 * Y) (by omega) (by omega)
    rw [hun] at hunw
    clear hun hQ1 hV HG
    have hq0 := guess_start (y1 := y1) (y0 := y0) (u := V) (v := v0) (by omega) b2 hU2a b4'
    have hqt : IntKind.u64.wrap (V.tdiv y1) = V / y1 := IntWalk.u64_quo V y1 (by omega)
    have hqm : IntKind.u64.wrap (V - IntKind.u64.wrap (V / y1 * y1)) = V % y1 := by
      have := Int.ediv_mul_add_emod V y1
      have := Int.emod_nonneg V (b := y1) (by omega)
      have := Int.emod_lt_of_pos V (b := y1) (by omega)
      simp only [IntKind.wrap_u64]
      omega
    have hqe := Int.ediv_mul_add_emod V y1
    have hqu : V / y1 ≤ V := Int.ediv_le_self _ hU2a
    have hqp : 0 ≤ V / y1 := Int.ediv_nonneg hU2a (by omega)
    have hr0 := Int.emod_nonneg V (b := y1) (by omega)
    have hr1 := Int.emod_lt_of_pos V (b := y1) (by omega)
    obtain ⟨q2, hq2⟩ : ∃ q, V / y1 = q := ⟨_, rfl⟩
    obtain ⟨r2, hr2⟩ : ∃ r, V % y1 = r := ⟨_, rfl⟩
    rw [hq2] at hq0 hqt hqm hqe hqu hqp
    rw [hr2] at hqm hqe hr0 hr1
    have HG : Hid (Guess y1 y0 V v0 q2 r2) := Lib.hid ⟨hqe, hr0, by omega, hq0, by omega⟩
    clear hq0 hqe hq2 hr2
    go_upto_block 2 with fail
    clear hqt hqm hqu hqp hr0 hr1 hunw
    go_cut [18] (fun d wx => d = .int .u64 ((V * 4294967296 + v0) / (y1 * 4294967296 + y0)) ∧ w = wx)
    case first =>
      go_wp2_with fail
      go_loop [18, 16] (fun a b => ∃ q r : Int, a = .int .u64 q ∧ b = .int .u64 r ∧ Guess y1 y0 V v0 q r) (fun _ b => (4294967296 - intOf b).toNat)
      case atStart => exact ⟨q2, r2, rfl, rfl, HG.out⟩
      case round =>
        obtain ⟨q, r, rfl, rfl, hg⟩ := hrel
        obtain ⟨g1, g2, g3, g4, g5⟩ := hg
        have hq0 : 0 ≤ q := Int.le_trans (Int.ediv_nonneg (by omega) (by omega)) g4
        have hyp : 0 < y1 * 4294967296 + y0 := by omega
        have huy : V < y1 * 4294967296 + y0 := by have := HYE.out; omega
        have next : ∀ G6 : (V * 4294967296 + v0) / (y1 * 4294967296 + y0) ≤ q - 1, 4294967296 ≤ r + y1 → q - 1 = (V * 4294967296 + v0) / (y1 * 4294967296 + y0) := fun G6 hr =>
          guess_break (r := r + y1) (by omega) b2 b2' huy (by omega) (by rw [Int.sub_mul, Int.one_mul]; omega) (Int.le_trans (Int.ediv_nonneg (by omega) (by omega)) G6) G6 hr
        have keep : ∀ G6 : (V * 4294967296 + v0) / (y1 * 4294967296 + y0) ≤ q - 1, r + y1 < 4294967296 → Guess y1 y0 V v0 (q - 1) (r + y1) := fun G6 hr =>
          ⟨by rw [Int.sub_mul, Int.one_mul]; omega, by omega, by omega, G6, by omega⟩
        have HN := Lib.hid next
        have HK := Lib.hid keep
        have G1 := Lib.hid g1
        have G4 := Lib.hid g4
        have HU := Lib.hid huy
        clear next keep g1 g4 huy
        by_cases hq : 4294967296 ≤ q
        · have G6 := Lib.hid (guess_high (q := q) (y1 := y1) (y0 := y0) (u := V) (v := v0) hyp HU.out (by omega) hq)
          have hq1 : 1 ≤ q := by omega
          clear hyp
          by_cases hr : 4294967296 ≤ r + y1
          · have E1 := Lib.hid (HN.out G6.out hr)
            go_wp2_with fail
            go_meet
            exact ⟨congrArg (Value.int .u64) E1.out, rfl⟩
          · have HK1 := Lib.hid (HK.out G6.out (by omega))
            go_wp2_with fail
            go_round
            case rel => exact ⟨q - 1, r + y1, rfl, rfl, HK1.out⟩
            case measure => simp [intOf]; omega
        · have hm : q * y0 ≤ 4294967295 * 4294967295 := Int.mul_le_mul (by omega) (by omega) b2 (by decide)
          have hm0 : 0 ≤ q * y0 := Int.mul_nonneg hq0 b2
          have hmw : IntKind.u64.wrap (q * y0) = q * y0 := IntWalk.u64_in _ (by omega)
          by_cases ht : 4294967296 * r + v0 < q * y0
          · have G6 := Lib.hid (guess_more (q := q) (y1 := y1) (y0 := y0) (u := V) (v := v0) (r := r) hyp G1.out (by omega))
            have hq1 : 1 ≤ q := by
              rcases Int.lt_or_le q 1 with h' | h'
              · have : q = 0 := by omega
                subst this
                simp at ht
                omega
              · exact h'
            clear hyp hm hm0
            by_cases hr : 4294967296 ≤ r + y1
            · have E1 := Lib.hid (HN.out G6.out hr)
              go_wp2_with fail
              go_meet
              exact ⟨congrArg (Value.int .u64) E1.out, rfl⟩
            · have HK1 := Lib.hid (HK.out G6.out (by omega))
              go_wp2_with fail
              go_round
              case rel => exact ⟨q - 1, r + y1, rfl, rfl, HK1.out⟩
              case measure => simp [intOf]; omega
          · have E1 := Lib.hid (guess_done (q := q) (y1 := y1) (y0 := y0) (u := V) (v := v0) (r := r) hyp G1.out G4.out (by omega))
            clear hyp hm hm0
            go_wp2_with fail
            go_meet
            exact ⟨congrArg (Value.int .u64) E1.out, rfl⟩
    case rest =>
      obtain ⟨rfl, rfl⟩ := hcut
      have hlt2 := guess_lt (y1 := y1) (y0 := y0) (u := V) (v := v0) (by omega) (by have := HYE.out; omega) b4'
      have hge2 : 0 ≤ (V * 4294967296 + v0) / (y1 * 4294967296 + y0) := Int.ediv_nonneg (by omega) (by omega)
      rw [HYE.out] at hlt2 hge2 ⊢
      have hU3a := Int.emod_nonneg (V * 4294967296 + v0) (b := Y) (by omega)
      have hU3b := Int.emod_lt_of_pos (V * 4294967296 + v0) (b := Y) (by omega)
      have hun := left_eq V v0 Y
      obtain ⟨Q2, hQ2⟩ : ∃ Q2, (V * 4294967296 + v0) / Y = Q2 := ⟨_, rfl⟩
      obtain ⟨Z, hZ⟩ : ∃ Z, (V * 4294967296 + v0) % Y = Z := ⟨_, rfl⟩
      rw [hQ2] at hlt2 hge2 hun HT ⊢
      rw [hZ] at hU3a hU3b hun HT
      have hunw := wrap_sub (V * 4294967296) v0 (Q2 * Y) (by omega) (by omega)
      rw [hun] at hunw
      have hN : (h * 18446744073709551616 + l) * 2 ^ s = U * 18446744073709551616 + v1 * 4294967296 + v0 := by have := HP.out; have := HLE'.out; omega
      have HE1 : Hid (Q1 * 4294967296 + Q2 = (h * 18446744073709551616 + l) / y) := Lib.hid (by rw [← HQ.out, hN]; exact HT.out.1.symm)
      have HE2 : Hid (Z / 2 ^ s = (h * 18446744073709551616 + l) % y) := Lib.hid (by rw [← HR.out, hN, HT.out.2])
      clear hun hQ2 hZ HG hN HQ HR HP HT HLE'
      go_wp2_with fail
      go_ret2
      exact ⟨ret2_int HE1.out HE2.out, Below.refl _ _⟩

theorem div64_any (h l y : Int) (w : World) (hl0 : 0 ≤ l) (hl1 : l < 18446744073709551616) (hh : 0 ≤ h) (hhy : h < y) (hy1 : y < 18446744073709551616) :
    Calls Try.prog 96 #[.int .u64 h, .int .u64 l, .int .u64 y] w fun e w' => e = .returned (.tuple #[.int .u64 ((h * 18446744073709551616 + l) / y), .int .u64 ((h * 18446744073709551616 + l) % y)]) ∧ Below w.heap.size w w' := by
  by_cases h0 : h = 0
  · subst h0
    have := div64_low l y w hl0 hl1 (by omega) hy1
    simpa using this
  · exact div64_high h l y w hl0 hl1 (by omega) hhy hy1

theorem rem64_any (h l y : Int) (w : World) (hh : 0 ≤ h) (hh1 : h < 18446744073709551616) (hl0 : 0 ≤ l) (hl1 : l < 18446744073709551616) (hy0 : 0 < y) (hy1 : y < 18446744073709551616) :
    Calls Try.prog 97 #[.int .u64 h, .int .u64 l, .int .u64 y] w fun e w' => e = .returned (.int .u64 ((h % y * 18446744073709551616 + l) % y)) ∧ Below w.heap.size w w' := by
  have hb1 : (y == 0) = false := by simp; omega
  have e2 : h.tmod y = h % y := IntWalk.rem_in h y hh
  have hm0 := Int.emod_nonneg h (b := y) (by omega)
  have hm1 := Int.emod_lt_of_pos h hy0
  obtain ⟨m, hm⟩ : ∃ m, h % y = m := ⟨_, rfl⟩
  rw [hm] at hm0 hm1 e2 ⊢
  clear hm
  go_enter Try.func97, Try.ntmps97
  go_wp2_with fail
  refine (div64_any m l y _ hl0 hl1 hm0 hm1 hy1).mono ?_
  rintro e w' ⟨rfl, hb⟩
  go_wp2
  go_ret
  exact ⟨rfl, hb⟩

end Fr
end Go.Proofs.Ytojkaaglmdfcnaa
