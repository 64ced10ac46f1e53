/- Fractions as rational numbers: which ones fit, and that sums and products, divided by common divisors as the code does it, have no common divisor left. -/
import Derived.Test.YtajpklacaaegcaaGreatDoorM0
namespace Go.Proofs.YtajpklacaaegcaaGreatDoor
namespace Fr
set_option linter.unusedVariables false

/-- A rational number that has a fraction. -/
def Fit (q : Rat) : Prop := -4611686018427387904 ≤ q.num ∧ q.num ≤ 4611686018427387904 ∧ (q.den : Int) ≤ 4611686018427387904
instance (q : Rat) : Decidable (Fit q) := by unfold Fit; infer_instance

/-- The fraction and the error of a result. -/
def rN (q : Rat) : Int := if Fit q then q.num else 0
def rD (q : Rat) : Int := if Fit q then (q.den : Int) else 0
def rE (q : Rat) : Int := if Fit q then 0 else 2

theorem coprime_split {a b : Nat} (hb : 0 < a ∨ 0 < b) : Nat.Coprime (a / Nat.gcd a b) (b / Nat.gcd a b) := by
  apply Nat.coprime_div_gcd_div_gcd
  rcases hb with h | h
  · exact Nat.gcd_pos_of_pos_left _ h
  · exact Nat.gcd_pos_of_pos_right _ h

theorem natAbs_cast_mul (g : Nat) (x : Int) : ((g : Int) * x).natAbs = g * x.natAbs := by rw [Int.natAbs_mul]; rfl

theorem divInt_num {n d : Int} (hd : 0 < d) (hc : Nat.Coprime n.natAbs d.natAbs) : (Rat.divInt n d).num = n := by
  have e : (d.gcd n : Int) = 1 := by
    have : d.gcd n = 1 := by rw [Int.gcd_comm]; exact hc
    omega
  rw [Rat.num_divInt, e, Int.sign_eq_one_of_pos hd]
  omega
theorem divInt_den {n d : Int} (hd : 0 < d) (hc : Nat.Coprime n.natAbs d.natAbs) : ((Rat.divInt n d).den : Int) = d := by
  have e : d.gcd n = 1 := by rw [Int.gcd_comm]; exact hc
  rw [Rat.den_divInt, e, if_neg (by omega)]
  omega
theorem divInt_neg_neg (n d : Int) : Rat.divInt (-n) (-d) = Rat.divInt n d := by
  have := Rat.divInt_mul_left (n := n) (d := d) (a := -1) (by decide)
  rwa [Int.neg_one_mul, Int.neg_one_mul] at this

/-- A product, divided crosswise. -/
theorem mul_core {aN aD bN bD : Int} (ha : aD ≠ 0) (hb : bD ≠ 0) (hca : Nat.Coprime aN.natAbs aD.natAbs) (hcb : Nat.Coprime bN.natAbs bD.natAbs) :
    ((aD * bD).tdiv (Nat.gcd aN.natAbs bD.natAbs : Int)).tdiv (Nat.gcd bN.natAbs aD.natAbs : Int) ≠ 0 ∧
    Nat.Coprime (((aN * bN).tdiv (Nat.gcd aN.natAbs bD.natAbs : Int)).tdiv (Nat.gcd bN.natAbs aD.natAbs : Int)).natAbs (((aD * bD).tdiv (Nat.gcd aN.natAbs bD.natAbs : Int)).tdiv (Nat.gcd bN.natAbs aD.natAbs : Int)).natAbs ∧
    Rat.divInt (((aN * bN).tdiv (Nat.gcd aN.natAbs bD.natAbs : Int)).tdiv (Nat.gcd bN.natAbs aD.natAbs : Int)) (((aD * bD).tdiv (Nat.gcd aN.natAbs bD.natAbs : Int)).tdiv (Nat.gcd bN.natAbs aD.natAbs : Int)) = Rat.divInt aN aD * Rat.divInt bN bD := by
  have hg0 : 0 < Nat.gcd aN.natAbs bD.natAbs := Nat.gcd_pos_of_pos_right _ (by omega)
  have hh0 : 0 < Nat.gcd bN.natAbs aD.natAbs := Nat.gcd_pos_of_pos_right _ (by omega)
  have c1 := coprime_split (a := aN.natAbs) (b := bD.natAbs) (.inr (by omega))
  have c2 := coprime_split (a := bN.natAbs) (b := aD.natAbs) (.inr (by omega))
  obtain ⟨a', e1⟩ : (Nat.gcd aN.natAbs bD.natAbs : Int) ∣ aN := Int.ofNat_dvd_left.2 (Nat.gcd_dvd_left _ _)
  obtain ⟨b'', e2⟩ : (Nat.gcd aN.natAbs bD.natAbs : Int) ∣ bD := Int.ofNat_dvd_left.2 (Nat.gcd_dvd_right _ _)
  obtain ⟨b', e3⟩ : (Nat.gcd bN.natAbs aD.natAbs : Int) ∣ bN := Int.ofNat_dvd_left.2 (Nat.gcd_dvd_left _ _)
  obtain ⟨a'', e4⟩ : (Nat.gcd bN.natAbs aD.natAbs : Int) ∣ aD := Int.ofNat_dvd_left.2 (Nat.gcd_dvd_right _ _)
  generalize Nat.gcd aN.natAbs bD.natAbs = g at *
  generalize Nat.gcd bN.natAbs aD.natAbs = h at *
  subst e1 e2 e3 e4
  rw [natAbs_cast_mul, natAbs_cast_mul, Nat.mul_div_cancel_left _ hg0, Nat.mul_div_cancel_left _ hg0] at c1
  rw [natAbs_cast_mul, natAbs_cast_mul, Nat.mul_div_cancel_left _ hh0, Nat.mul_div_cancel_left _ hh0] at c2
  rw [natAbs_cast_mul, natAbs_cast_mul] at hca hcb
  have c3 : Nat.Coprime a'.natAbs a''.natAbs := Nat.Coprime.coprime_dvd_left (Nat.dvd_mul_left _ _) (Nat.Coprime.coprime_dvd_right (Nat.dvd_mul_left _ _) hca)
  have c4 : Nat.Coprime b'.natAbs b''.natAbs := Nat.Coprime.coprime_dvd_left (Nat.dvd_mul_left _ _) (Nat.Coprime.coprime_dvd_right (Nat.dvd_mul_left _ _) hcb)
  have hg : (g : Int) ≠ 0 := by omega
  have hh : (h : Int) ≠ 0 := by omega
  have n1 : (g : Int) * a' * ((h : Int) * b') = (g : Int) * ((h : Int) * (a' * b')) := by simp only [Int.mul_assoc, Int.mul_left_comm]
  have d1 : (h : Int) * a'' * ((g : Int) * b'') = (g : Int) * ((h : Int) * (a'' * b'')) := by simp only [Int.mul_assoc, Int.mul_left_comm]
  rw [n1, d1, Int.mul_tdiv_cancel_left _ hg, Int.mul_tdiv_cancel_left _ hh, Int.mul_tdiv_cancel_left _ hg, Int.mul_tdiv_cancel_left _ hh]
  refine ⟨?_, ?_, ?_⟩
  · have h1 : a'' ≠ 0 := by intro e; subst e; simp at ha
    have h2 : b'' ≠ 0 := by intro e; subst e; simp at hb
    exact Int.mul_ne_zero h1 h2
  · rw [Int.natAbs_mul, Int.natAbs_mul]
    exact Nat.Coprime.mul_left (Nat.Coprime.mul_right c3 c1) (Nat.Coprime.mul_right c2 c4)
  · rw [Rat.divInt_mul_divInt, n1, d1, Rat.divInt_mul_left hg, Rat.divInt_mul_left hh]

/-- A sum, divided by what the denominators share, and by what is left of it. -/
theorem add_core {aN aD bN bD : Int} (ha : 0 < aD) (hb : 0 < bD) (hca : Nat.Coprime aN.natAbs aD.natAbs) (hcb : Nat.Coprime bN.natAbs bD.natAbs) (g r : Nat) (hgd : g = Nat.gcd aD.natAbs bD.natAbs)
    (hr : r = Nat.gcd g (((aN * bD + bN * aD).tdiv (g : Int)).natAbs % g)) :
    0 < g ∧ 0 < r ∧ 0 < ((aD * bD).tdiv (g : Int)).tdiv (r : Int) ∧
    Nat.Coprime (((aN * bD + bN * aD).tdiv (g : Int)).tdiv (r : Int)).natAbs (((aD * bD).tdiv (g : Int)).tdiv (r : Int)).natAbs ∧
    Rat.divInt (((aN * bD + bN * aD).tdiv (g : Int)).tdiv (r : Int)) (((aD * bD).tdiv (g : Int)).tdiv (r : Int)) = Rat.divInt aN aD + Rat.divInt bN bD := by
  have hg0 : 0 < g := by rw [hgd]; exact Nat.gcd_pos_of_pos_right _ (by omega)
  have hr0 : 0 < r := by rw [hr]; exact Nat.gcd_pos_of_pos_left _ hg0
  have c1 := coprime_split (a := aD.natAbs) (b := bD.natAbs) (.inr (by omega))
  obtain ⟨a1, e1⟩ : (g : Int) ∣ aD := Int.ofNat_dvd_left.2 (by rw [hgd]; exact Nat.gcd_dvd_left _ _)
  obtain ⟨b1, e2⟩ : (g : Int) ∣ bD := Int.ofNat_dvd_left.2 (by rw [hgd]; exact Nat.gcd_dvd_right _ _)
  rw [← hgd] at c1
  clear hgd
  subst e1 e2
  rw [natAbs_cast_mul, natAbs_cast_mul, Nat.mul_div_cancel_left _ hg0, Nat.mul_div_cancel_left _ hg0] at c1
  rw [natAbs_cast_mul] at hca hcb
  have hg : (g : Int) ≠ 0 := by omega
  have ha1 : 0 < a1 := Int.pos_of_mul_pos_right ha (by omega)
  have hb1 : 0 < b1 := Int.pos_of_mul_pos_right hb (by omega)
  have n1 : aN * ((g : Int) * b1) + bN * ((g : Int) * a1) = (g : Int) * (aN * b1 + bN * a1) := by
    rw [Int.mul_add, Int.mul_left_comm, Int.mul_left_comm bN]
  have d1 : (g : Int) * a1 * ((g : Int) * b1) = (g : Int) * ((g : Int) * (a1 * b1)) := by simp only [Int.mul_assoc, Int.mul_left_comm]
  rw [n1, Int.mul_tdiv_cancel_left _ hg] at hr ⊢
  rw [d1, Int.mul_tdiv_cancel_left _ hg]
  obtain ⟨t, ht⟩ : ∃ t, aN * b1 + bN * a1 = t := ⟨_, rfl⟩
  have ca1 : Nat.Coprime aN.natAbs a1.natAbs := Nat.Coprime.coprime_dvd_right (Nat.dvd_mul_left _ _) hca
  have cb1 : Nat.Coprime bN.natAbs b1.natAbs := Nat.Coprime.coprime_dvd_right (Nat.dvd_mul_left _ _) hcb
  have ct1 : Nat.Coprime t.natAbs a1.natAbs := by
    rw [← ht]
    show Int.gcd (aN * b1 + bN * a1) a1 = 1
    rw [Int.mul_comm bN, Int.gcd_add_mul_left_left]
    show Nat.gcd (aN * b1).natAbs a1.natAbs = 1
    rw [Int.natAbs_mul]
    exact Nat.Coprime.mul_left ca1 c1.symm
  have ct2 : Nat.Coprime t.natAbs b1.natAbs := by
    rw [← ht]
    show Int.gcd (aN * b1 + bN * a1) b1 = 1
    rw [Int.add_comm, Int.mul_comm aN, Int.gcd_add_mul_left_left]
    show Nat.gcd (bN * a1).natAbs b1.natAbs = 1
    rw [Int.natAbs_mul]
    exact Nat.Coprime.mul_left cb1 c1
  rw [ht] at hr ⊢
  have hr' : r = Nat.gcd t.natAbs g := by
    rw [hr, Nat.gcd_comm g, ← Nat.gcd_rec, Nat.gcd_comm]
  have hgr : Nat.gcd t.natAbs (g * (a1.natAbs * b1.natAbs)) = r := by
    rw [hr', Nat.mul_comm g, Nat.Coprime.gcd_mul_left_cancel_right]
    exact (Nat.Coprime.mul_right ct1 ct2).symm
  have c5 := coprime_split (a := t.natAbs) (b := g * (a1.natAbs * b1.natAbs)) (.inr (Nat.mul_pos hg0 (Nat.mul_pos (by omega) (by omega))))
  rw [hgr] at c5
  obtain ⟨t', e3⟩ : (r : Int) ∣ t := Int.ofNat_dvd_left.2 (by rw [hr']; exact Nat.gcd_dvd_left _ _)
  obtain ⟨g', e4⟩ : r ∣ g := by rw [hr']; exact Nat.gcd_dvd_right _ _
  clear hr hr' hgr ct1 ct2
  have hrr : (r : Int) ≠ 0 := by omega
  subst e3
  have d2 : (g : Int) * (a1 * b1) = (r : Int) * ((g' : Int) * (a1 * b1)) := by rw [e4, Int.natCast_mul, Int.mul_assoc]
  have hg' : 0 < g' := by
    rcases Nat.eq_zero_or_pos g' with h | h
    · subst h; omega
    · exact h
  have hpos : 0 < (g' : Int) * (a1 * b1) := Int.mul_pos (by omega) (Int.mul_pos ha1 hb1)
  rw [e4, natAbs_cast_mul, Nat.mul_div_cancel_left _ hr0, Nat.mul_assoc, Nat.mul_div_cancel_left _ hr0] at c5
  rw [d2, Int.mul_tdiv_cancel_left _ hrr, Int.mul_tdiv_cancel_left _ hrr]
  refine ⟨hg0, hr0, hpos, ?_, ?_⟩
  · rw [Int.natAbs_mul, Int.natAbs_mul, Int.natAbs_natCast]
    exact c5
  · rw [Rat.divInt_add_divInt _ _ (by omega) (by omega), n1, d1, ht, Rat.divInt_mul_left hg, d2, Rat.divInt_mul_left hrr]

end Fr
end Go.Proofs.YtajpklacaaegcaaGreatDoor
