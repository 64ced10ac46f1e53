/- The reference's numbers of arguments; values lie in the width of the result. -/
import Derived.Test.YtjfijhchnchfcaaWC
import Derived.Test.YtjfijhchnchfcaaM4
namespace Go.Proofs.Ytjfijhchnchfcaa
open Go.RowKit Sl Fr
namespace Bt
set_option linter.unusedVariables false
set_option linter.unusedSimpArgs false

def arI (r : Nat) : Int := if 1 ≤ r ∧ r ≤ 13 then (arity r : Int) else -1
theorem arity_any (r : Nat) (hr : r < 16) (w : World) : Calls Try.prog 21 #[.int .i64 (r : Int)] w fun e w' => e = .returned (.int .i64 (arI r)) ∧ w = w' := by
  rcases (by omega : r = 0 ∨ r = 1 ∨ r = 2 ∨ r = 3 ∨ r = 4 ∨ r = 5 ∨ r = 6 ∨ r = 7 ∨ r = 8 ∨ r = 9 ∨ r = 10 ∨ r = 11 ∨ r = 12 ∨ r = 13 ∨ r = 14 ∨ r = 15) with rfl | rfl | rfl | rfl | rfl | rfl | rfl | rfl | rfl | rfl | rfl | rfl | rfl | rfl | rfl | rfl
  all_goals
    go_enter Try.func21, Try.ntmps21
    go_wp2
    go_ret
    exact ⟨rfl, rfl⟩
theorem mask_le {r v : Nat} {w : Int} (hw : w = (r : Int)) (hr : r ≤ 62) (h : v < 2 ^ r) : (v : Int) ≤ mask w := by
  subst hw
  rw [mask_cast hr]
  omega
theorem wid_raw {op : Nat} {ws : List Int} {k n : Int} (h : wid op ws k n ≠ 0) : wid op ws k n = raw op ws k n := by
  obtain ⟨h1, h2⟩ := wid_ne h
  unfold wid
  rw [Int.toNat_natCast, h1, h2]
  rfl
theorem val_range (op : Nat) (h : 1 ≤ op ∧ op ≤ 13) (ws : List Int) (k n : Int) (vs : List Int) (hv : wid op ws k n ≠ 0) (hok : okA vs ws = true) : (val op ws k n (vs.map Int.toNat) : Int) ≤ mask (wid op ws k n) := by
  have hl : ws.length = arity op := Classical.byContradiction fun hc => hv (wid_bad hc h)
  obtain ⟨hw, hr⟩ := wid_ne hv
  rw [wid_raw hv]
  clear hv
  rcases ops13 h with rfl | rfl | rfl | rfl | rfl | rfl | rfl | rfl | rfl | rfl | rfl | rfl | rfl
  · obtain rfl := len0 hl
    have h1 : raw 1 [] k n = if 0 ≤ k ∧ k ≤ mask n then n else 0 := rfl
    rw [h1] at hr ⊢
    have hc : 0 ≤ k ∧ k ≤ mask n := Classical.byContradiction fun hc => by rw [if_neg hc] at hr; cases hr
    rw [if_pos hc]
    have : ((val 1 [] k n (vs.map Int.toNat) : Nat) : Int) = k := Int.toNat_of_nonneg hc.1
    omega
  · obtain ⟨a, rfl⟩ := len1 hl
    obtain ⟨x, rfl, hv0⟩ := okA1 hok
    simp only [List.all_cons, List.all_nil, Bool.and_true, Bool.and_eq_true] at hw
    obtain ⟨m0, a0, rfl, rfl, ha0, hm0⟩ := nat_of hw hv0
    exact mask_le (r := a0) rfl (by omega) (show 2 ^ a0 - 1 - m0 < 2 ^ a0 from not_lt)
  · obtain ⟨a, b, rfl⟩ := len2 hl
    obtain ⟨x, y, rfl, hv0, hv1⟩ := okA2 hok
    simp only [List.all_cons, List.all_nil, Bool.and_true, Bool.and_eq_true] at hw
    have hab : b = a := by
      have h1 : raw 3 [a, b] k n = if b = a then a else 0 := rfl
      rw [h1] at hr
      exact Classical.byContradiction fun hc => by rw [if_neg hc] at hr; cases hr
    subst hab
    obtain ⟨m0, a0, rfl, rfl, ha0, hm0⟩ := nat_of hw.1 hv0
    obtain ⟨m1, a1, rfl, ha1', ha1, hm1⟩ := nat_of hw.1 hv1
    obtain rfl : a1 = a0 := by omega
    exact mask_le (r := a1) (if_pos rfl) (by omega) (show m0 &&& m1 < 2 ^ a1 from Nat.lt_of_le_of_lt Nat.and_le_left hm0)
  · obtain ⟨a, b, rfl⟩ := len2 hl
    obtain ⟨x, y, rfl, hv0, hv1⟩ := okA2 hok
    simp only [List.all_cons, List.all_nil, Bool.and_true, Bool.and_eq_true] at hw
    have hab : b = a := by
      have h1 : raw 4 [a, b] k n = if b = a then a else 0 := rfl
      rw [h1] at hr
      exact Classical.byContradiction fun hc => by rw [if_neg hc] at hr; cases hr
    subst hab
    obtain ⟨m0, a0, rfl, rfl, ha0, hm0⟩ := nat_of hw.1 hv0
    obtain ⟨m1, a1, rfl, ha1', ha1, hm1⟩ := nat_of hw.1 hv1
    obtain rfl : a1 = a0 := by omega
    exact mask_le (r := a1) (if_pos rfl) (by omega) (show m0 ||| m1 < 2 ^ a1 from Nat.or_lt_two_pow hm0 hm1)
  · obtain ⟨a, b, rfl⟩ := len2 hl
    obtain ⟨x, y, rfl, hv0, hv1⟩ := okA2 hok
    simp only [List.all_cons, List.all_nil, Bool.and_true, Bool.and_eq_true] at hw
    have hab : b = a := by
      have h1 : raw 5 [a, b] k n = if b = a then a else 0 := rfl
      rw [h1] at hr
      exact Classical.byContradiction fun hc => by rw [if_neg hc] at hr; cases hr
    subst hab
    obtain ⟨m0, a0, rfl, rfl, ha0, hm0⟩ := nat_of hw.1 hv0
    obtain ⟨m1, a1, rfl, ha1', ha1, hm1⟩ := nat_of hw.1 hv1
    obtain rfl : a1 = a0 := by omega
    exact mask_le (r := a1) (if_pos rfl) (by omega) (show m0 ^^^ m1 < 2 ^ a1 from Nat.xor_lt_two_pow hm0 hm1)
  · obtain ⟨a, b, rfl⟩ := len2 hl
    obtain ⟨x, y, rfl, hv0, hv1⟩ := okA2 hok
    simp only [List.all_cons, List.all_nil, Bool.and_true, Bool.and_eq_true] at hw
    have hab : b = a := by
      have h1 : raw 6 [a, b] k n = if b = a then a else 0 := rfl
      rw [h1] at hr
      exact Classical.byContradiction fun hc => by rw [if_neg hc] at hr; cases hr
    subst hab
    obtain ⟨m0, a0, rfl, rfl, ha0, hm0⟩ := nat_of hw.1 hv0
    obtain ⟨m1, a1, rfl, ha1', ha1, hm1⟩ := nat_of hw.1 hv1
    obtain rfl : a1 = a0 := by omega
    exact mask_le (r := a1) (if_pos rfl) (by omega) (show (m0 + m1) % 2 ^ a1 < 2 ^ a1 from Nat.mod_lt _ (Nat.two_pow_pos a1))
  · obtain ⟨a, b, rfl⟩ := len2 hl
    obtain ⟨x, y, rfl, hv0, hv1⟩ := okA2 hok
    simp only [List.all_cons, List.all_nil, Bool.and_true, Bool.and_eq_true] at hw
    have hab : b = a := by
      have h1 : raw 7 [a, b] k n = if b = a then a else 0 := rfl
      rw [h1] at hr
      exact Classical.byContradiction fun hc => by rw [if_neg hc] at hr; cases hr
    subst hab
    obtain ⟨m0, a0, rfl, rfl, ha0, hm0⟩ := nat_of hw.1 hv0
    obtain ⟨m1, a1, rfl, ha1', ha1, hm1⟩ := nat_of hw.1 hv1
    obtain rfl : a1 = a0 := by omega
    exact mask_le (r := a1) (if_pos rfl) (by omega) (show (m0 + 2 ^ a1 - m1) % 2 ^ a1 < 2 ^ a1 from Nat.mod_lt _ (Nat.two_pow_pos a1))
  · obtain ⟨a, b, rfl⟩ := len2 hl
    obtain ⟨x, y, rfl, hv0, hv1⟩ := okA2 hok
    simp only [List.all_cons, List.all_nil, Bool.and_true, Bool.and_eq_true] at hw
    have hab : b = a := by
      have h1 : raw 8 [a, b] k n = if b = a then 1 else 0 := rfl
      rw [h1] at hr
      exact Classical.byContradiction fun hc => by rw [if_neg hc] at hr; cases hr
    subst hab
    obtain ⟨m0, a0, rfl, rfl, ha0, hm0⟩ := nat_of hw.1 hv0
    obtain ⟨m1, a1, rfl, ha1', ha1, hm1⟩ := nat_of hw.1 hv1
    obtain rfl : a1 = a0 := by omega
    exact mask_le (r := 1) (if_pos rfl) (by omega) (show (if m0 = m1 then 1 else 0) < 2 ^ 1 by split <;> omega)
  · obtain ⟨a, b, rfl⟩ := len2 hl
    obtain ⟨x, y, rfl, hv0, hv1⟩ := okA2 hok
    simp only [List.all_cons, List.all_nil, Bool.and_true, Bool.and_eq_true] at hw
    have hab : b = a := by
      have h1 : raw 9 [a, b] k n = if b = a then 1 else 0 := rfl
      rw [h1] at hr
      exact Classical.byContradiction fun hc => by rw [if_neg hc] at hr; cases hr
    subst hab
    obtain ⟨m0, a0, rfl, rfl, ha0, hm0⟩ := nat_of hw.1 hv0
    obtain ⟨m1, a1, rfl, ha1', ha1, hm1⟩ := nat_of hw.1 hv1
    obtain rfl : a1 = a0 := by omega
    exact mask_le (r := 1) (if_pos rfl) (by omega) (show (if m0 < m1 then 1 else 0) < 2 ^ 1 by split <;> omega)
  · obtain ⟨a, b, d, rfl⟩ := len3 hl
    obtain ⟨x, y, z, rfl, hv0, hv1, hv2⟩ := okA3 hok
    simp only [List.all_cons, List.all_nil, Bool.and_true, Bool.and_eq_true] at hw
    have h1 : raw 10 [a, b, d] k n = if a = 1 ∧ b = d then b else 0 := rfl
    rw [h1] at hr
    have hc : a = 1 ∧ b = d := Classical.byContradiction fun hc => by rw [if_neg hc] at hr; cases hr
    obtain ⟨hc1, rfl⟩ := hc
    obtain ⟨m0, a0, rfl, rfl, ha0, hm0⟩ := nat_of hw.1 hv0
    obtain ⟨m1, a1, rfl, rfl, ha1, hm1⟩ := nat_of hw.2.1 hv1
    obtain ⟨m2, a2, rfl, ha2', ha2, hm2⟩ := nat_of hw.2.1 hv2
    obtain rfl : a2 = a1 := by omega
    exact mask_le (r := a2) (if_pos ⟨hc1, rfl⟩) (by omega) (show (if m0 = 1 then m1 else m2) < 2 ^ a2 by split <;> assumption)
  · obtain ⟨a, b, rfl⟩ := len2 hl
    obtain ⟨x, y, rfl, hv0, hv1⟩ := okA2 hok
    simp only [List.all_cons, List.all_nil, Bool.and_true, Bool.and_eq_true] at hw
    obtain ⟨m0, a0, rfl, rfl, ha0, hm0⟩ := nat_of hw.1 hv0
    obtain ⟨m1, a1, rfl, rfl, ha1, hm1⟩ := nat_of hw.2 hv1
    have h8 := isW_in (show isW ((a0 : Int) + (a1 : Int)) = true from hr)
    exact mask_le (r := a0 + a1) (show (a0 : Int) + (a1 : Int) = _ by simp) (by omega) (show m0 * 2 ^ a1 + m1 < 2 ^ (a0 + a1) from cat_lt hm0 hm1)
  · obtain ⟨a, rfl⟩ := len1 hl
    obtain ⟨x, rfl, hv0⟩ := okA1 hok
    simp only [List.all_cons, List.all_nil, Bool.and_true, Bool.and_eq_true] at hw
    have h1 : raw 12 [a] k n = if 0 ≤ k ∧ k ≤ a - n then n else 0 := rfl
    rw [h1] at hr
    have hc : 0 ≤ k ∧ k ≤ a - n := Classical.byContradiction fun hc => by rw [if_neg hc] at hr; cases hr
    rw [if_pos hc] at hr
    have h3 := isW_in hr
    obtain ⟨nn, rfl⟩ := Int.eq_ofNat_of_zero_le (by omega : 0 ≤ n)
    obtain ⟨m0, a0, rfl, rfl, ha0, hm0⟩ := nat_of hw hv0
    exact mask_le (r := nn) (if_pos hc) (by omega) (show m0 / 2 ^ k.toNat % 2 ^ nn < 2 ^ nn from Nat.mod_lt _ (Nat.two_pow_pos nn))
  · obtain ⟨a, rfl⟩ := len1 hl
    obtain ⟨x, rfl, hv0⟩ := okA1 hok
    simp only [List.all_cons, List.all_nil, Bool.and_true, Bool.and_eq_true] at hw
    have h1 : raw 13 [a] k n = if a ≤ n then n else 0 := rfl
    rw [h1] at hr
    have hc : a ≤ n := Classical.byContradiction fun hc => by rw [if_neg hc] at hr; cases hr
    rw [if_pos hc] at hr
    have h3 := isW_in hr
    obtain ⟨nn, rfl⟩ := Int.eq_ofNat_of_zero_le (by omega : 0 ≤ n)
    obtain ⟨m0, a0, rfl, rfl, ha0, hm0⟩ := nat_of hw hv0
    exact mask_le (r := nn) (if_pos hc) (by omega) (show m0 < 2 ^ nn from Nat.lt_of_lt_of_le hm0 (pow_le (by omega)))

end Bt
end Go.Proofs.Ytjfijhchnchfcaa
