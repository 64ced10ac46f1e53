/- The reference's AddIn, SubIn, DivIn and Cmp return what the rational numbers say. -/
import Derived.Test.YtojkaaglmdfcnaaB11
namespace Go.Proofs.Ytojkaaglmdfcnaa
open Go.RowKit Sl
namespace Fr
set_option linter.unusedVariables false

theorem sval_mul (n : Bool) (r x : Nat) : sval n (r * x) = (r : Int) * sval n x := by
  unfold sval
  cases n
  · simp
  · simp [Int.mul_neg]
theorem sval_nat (n : Bool) (x : Nat) : (sval n x).natAbs = x := by
  unfold sval
  cases n <;> simp

theorem radd_any (aN bN : Int) (p q : Nat) (w : World) (h1 : aN.natAbs ≤ 4611686018427387904) (h2 : p ≤ 4611686018427387904) (h3 : bN.natAbs ≤ 4611686018427387904) (h4 : q ≤ 4611686018427387904) (hp : 0 < p) (hq : 0 < q) (hca : Nat.Coprime aN.natAbs p) (hcb : Nat.Coprime bN.natAbs q) :
    Calls Try.prog 61 #[.agg #[.int .i64 aN, .int .i64 (p : Int)], .agg #[.int .i64 bN, .int .i64 (q : Int)]] w
      (RetR (rN (Rat.divInt aN p + Rat.divInt bN q)) (rD (Rat.divInt aN p + Rat.divInt bN q)) (rE (Rat.divInt aN p + Rat.divInt bN q)) w) := by
  refine radd_walk aN bN p q w h1 h2 h3 h4 hp hq _ _ _ ?_
  intro n x hv
  have hg0 : 0 < Nat.gcd p q := Nat.gcd_pos_of_pos_right _ hq
  obtain ⟨p', ep⟩ : Nat.gcd p q ∣ p := Nat.gcd_dvd_left _ _
  obtain ⟨q', eq⟩ : Nat.gcd p q ∣ q := Nat.gcd_dvd_right _ _
  have core := fun r => add_core (aN := aN) (aD := p) (bN := bN) (bD := q) (by omega) (by omega) (by simpa using hca) (by simpa using hcb) (Nat.gcd p q) r (by simp)
  have e1 : p / Nat.gcd p q = p' := Nat.div_eq_of_eq_mul_right hg0 ep
  have e2 : q / Nat.gcd p q = q' := Nat.div_eq_of_eq_mul_right hg0 eq
  rw [e1, e2] at hv
  rw [e1]
  generalize Nat.gcd p q = g at *
  have hgz : (g : Int) ≠ 0 := by omega
  have hT : (aN * (q : Int) + bN * (p : Int)).tdiv (g : Int) = sval n x := by
    rw [hv, ep, eq, Int.natCast_mul, Int.natCast_mul, Int.mul_left_comm, Int.mul_left_comm bN, ← Int.mul_add, Int.mul_tdiv_cancel_left _ hgz]
  obtain ⟨_, hr0, hpos, hco, hdiv⟩ := core (Nat.gcd g (x % g)) (by rw [hT, sval_nat])
  rw [hT] at hco hdiv
  have hrg : Nat.gcd g (x % g) ∣ g := Nat.gcd_dvd_left _ _
  have hrx : Nat.gcd g (x % g) ∣ x := (Nat.dvd_mod_iff hrg).1 (Nat.gcd_dvd_right _ _)
  rw [Nat.gcd_comm (x % g) g]
  generalize Nat.gcd g (x % g) = r at *
  obtain ⟨g', eg⟩ := hrg
  obtain ⟨x', ex⟩ := hrx
  have hrz : (r : Int) ≠ 0 := by omega
  have hD : (((p : Int) * (q : Int)).tdiv (g : Int)).tdiv (r : Int) = ((p' * (g' * q') : Nat) : Int) := by
    have : (p : Int) * (q : Int) = (g : Int) * ((r : Int) * ((p' * (g' * q') : Nat) : Int)) := by
      have h : p * q = g * (r * (p' * (g' * q'))) := by
        conv => lhs; rw [ep, eq]
        conv => lhs; arg 2; rw [eg]
        simp only [Nat.mul_left_comm, Nat.mul_comm]
      exact_mod_cast h
    rw [this, Int.mul_tdiv_cancel_left _ hgz, Int.mul_tdiv_cancel_left _ hrz]
  rw [hD] at hpos hco hdiv
  have hxr : x / r = x' := Nat.div_eq_of_eq_mul_right hr0 ex
  have hqr : q / r = g' * q' := Nat.div_eq_of_eq_mul_right hr0 (by rw [← Nat.mul_assoc, ← eg]; exact eq)
  have hS : (sval n x).tdiv (r : Int) = sval n x' := by rw [ex, sval_mul, Int.mul_tdiv_cancel_left _ hrz]
  rw [hS] at hco hdiv
  constructor
  · intro h0
    have hx' : x' = 0 := by
      rw [h0] at hxr
      rw [← hxr, Nat.zero_div]
    have e : Rat.divInt aN p + Rat.divInt bN q = 0 := by
      rw [← hdiv, hx', show sval n 0 = 0 by cases n <;> rfl, Rat.zero_divInt]
    rw [e]
    exact r_zero
  · intro _
    simp only
    rw [hxr, hqr]
    refine made_rat ?_ ?_
    · rw [← hdiv, divInt_num hpos hco]
    · have := divInt_den hpos hco
      rw [hdiv] at this
      exact_mod_cast this

theorem radd_q {A B : Rat} {an ad bn bd : Int} (ha : IsF A an ad) (hb : IsF B bn bd) (w : World) :
    Calls Try.prog 61 #[.agg #[.int .i64 an, .int .i64 ad], .agg #[.int .i64 bn, .int .i64 bd]] w (RetR (rN (A + B)) (rD (A + B)) (rE (A + B)) w) := by
  have a1 := ha.n62
  have a2 := ha.d62
  have a3 := ha.pos
  have b1 := hb.n62
  have b2 := hb.d62
  have b3 := hb.pos
  unfold I62 at a1 a2 b1 b2
  have ca := ha.cop
  have cb := hb.cop
  rw [← ha.eq, ← hb.eq]
  obtain ⟨p, rfl⟩ := Int.eq_ofNat_of_zero_le (Int.le_of_lt a3)
  obtain ⟨q, rfl⟩ := Int.eq_ofNat_of_zero_le (Int.le_of_lt b3)
  exact radd_any an bn p q w (by omega) (by omega) (by omega) (by omega) (by omega) (by omega) (by simpa using ca) (by simpa using cb)
theorem rmul_q {A B : Rat} {an ad bn bd : Int} (ha : IsF A an ad) (hb : IsF B bn bd) (w : World) :
    Calls Try.prog 60 #[.agg #[.int .i64 an, .int .i64 ad], .agg #[.int .i64 bn, .int .i64 bd]] w (RetR (rN (A * B)) (rD (A * B)) (rE (A * B)) w) := by
  have a1 := ha.n62
  have a2 := ha.d62
  have a3 := ha.pos
  have b1 := hb.n62
  have b2 := hb.d62
  have b3 := hb.pos
  unfold I62 at a1 a2 b1 b2
  have ca := ha.cop
  have cb := hb.cop
  rw [← ha.eq, ← hb.eq]
  obtain ⟨p, rfl⟩ := Int.eq_ofNat_of_zero_le (Int.le_of_lt a3)
  obtain ⟨q, rfl⟩ := Int.eq_ofNat_of_zero_le (Int.le_of_lt b3)
  exact rmul_any an bn p q w (by omega) (by omega) (by omega) (by omega) (by omega) (by omega) (by simpa using ca) (by simpa using cb)

theorem isF_cop {n d : Int} (hd : 0 < d) (hc : Nat.Coprime n.natAbs d.natAbs) (h1 : I62 n) (h2 : I62 d) : IsF (Rat.divInt n d) n d := by
  refine ⟨divInt_num hd hc, divInt_den hd hc, ?_⟩
  have e1 := divInt_num hd hc
  have e2 := divInt_den hd hc
  unfold Fit
  unfold I62 at h1 h2
  omega
theorem isF_inv {r : Rat} {m k : Int} (hb : IsF r m k) (h : 0 < m) : IsF r⁻¹ k m := by
  rw [← hb.eq, Rat.inv_divInt]
  exact isF_cop h hb.cop.symm hb.d62 hb.n62
theorem isF_inv_neg {r : Rat} {m k : Int} (hb : IsF r m k) (h : m < 0) : IsF r⁻¹ (-k) (-m) := by
  rw [← hb.eq, Rat.inv_divInt, ← divInt_neg_neg]
  have h1 := hb.n62
  have h2 := hb.d62
  refine isF_cop (by omega) ?_ (by unfold I62 at *; omega) (by unfold I62 at *; omega)
  rw [Int.natAbs_neg, Int.natAbs_neg]
  exact hb.cop.symm

theorem rsub_q {q r : Rat} {n d m k : Int} (ha : IsF q n d) (hb : IsF r m k) (w : World) :
    Calls Try.prog 92 #[.agg #[.int .i64 n, .int .i64 d], .agg #[.int .i64 m, .int .i64 k]] w (RetR (rN (q - r)) (rD (q - r)) (rE (q - r)) w) := by
  have HA : Hid (∀ W : World, _) := Lib.hid (fun W => radd_q ha hb.neg W)
  rw [← Rat.sub_eq_add_neg] at HA
  have hm := hb.n62
  have hmw : IntKind.i64.wrap (-m) = -m := IntWalk.i64_in _ (by unfold I62 at hm; omega)
  unfold I62 at hm
  clear ha hb
  go_enter Try.func92, Try.ntmps92
  go_wp2_with fail
  have A0 := Args3.start w (.int .i64 n) (.int .i64 d) (.int .i64 m) (.int .i64 k) (.int .i64 0) (.int .i64 0) (.int .i64 0) 23 23 51
  refine (HA.out _).mono ?_
  rintro o w1 ⟨rfl, hb⟩
  have A1 := A0.keep hb
  clear A0 hb HA
  have r0 := A1.r.c0
  have r1 := A1.r.c1
  have r2 := A1.r.c2
  have f0 := A1.r.f0
  have f1 := A1.r.f1
  have f2 := A1.r.f2
  go_wp2_with fail
  have A2 := A1.r.set (.int .i64 (rN (q - r))) (.int .i64 (rD (q - r))) (.int .i64 (rE (q - r)))
  have s0 := A2.c0
  have s1 := A2.c1
  have s2 := A2.c2
  exact bodyPost_ret (v := .agg #[.int .i64 (rN (q - r)), .int .i64 (rD (q - r)), .int .i64 (rE (q - r))]) (by simp [results, Try.results92, go_sem, s0, s1, s2]) rfl ⟨rfl, below_set3 A1.below (by omega) _ _ _⟩

theorem sval_not (s : Bool) (x : Nat) : sval (!s) x = -sval s x := by
  unfold sval
  cases s <;> simp

theorem cmp_sign {q r : Rat} {n d m k : Int} (ha : IsF q n d) (hb : IsF r m k) {s : Bool} {x : Nat} (h : sval s x = n * k + -(m * d)) : x = 0 ∧ cmpI q r = 0 ∨ x ≠ 0 ∧ s = true ∧ cmpI q r = -1 ∨ x ≠ 0 ∧ s = false ∧ cmpI q r = 1 := by
  have l1 := lt_cross ha hb
  have l2 := lt_cross hb ha
  rcases cmpI_three q r with ⟨h1, e⟩ | ⟨h1, e⟩ | ⟨h1, e⟩
  · have h2 := l1.1 h1
    unfold sval at h
    cases s
    · simp only [Bool.false_eq_true, if_false] at h
      omega
    · simp only [if_true] at h
      exact .inr (.inl ⟨by omega, rfl, e⟩)
  · have h2 : ¬ n * k + -(m * d) < 0 := fun h2 => Rat.lt_irrefl (h1 ▸ l1.2 h2)
    have h3 : ¬ m * d + -(n * k) < 0 := fun h2 => Rat.lt_irrefl (h1 ▸ l2.2 h2)
    refine .inl ⟨?_, e⟩
    unfold sval at h
    cases s
    · simp only [Bool.false_eq_true, if_false] at h
      omega
    · simp only [if_true] at h
      omega
  · have h2 := l2.1 h1
    unfold sval at h
    cases s
    · simp only [Bool.false_eq_true, if_false] at h
      exact .inr (.inr ⟨by omega, rfl, e⟩)
    · simp only [if_true] at h
      omega

set_option maxRecDepth 100000 in
set_option maxHeartbeats 4000000 in
theorem rcmp_q {A B : Rat} {n d m k : Int} (ha : IsF A n d) (hb : IsF B m k) (w : World) :
    Calls Try.prog 51 #[.agg #[.int .i64 n, .int .i64 d], .agg #[.int .i64 m, .int .i64 k]] w fun o w' => o = .returned (.int .i64 (cmpI A B)) ∧ Below w.heap.size w w' := by
  have n1 := ha.n62
  have n2 := ha.d62
  have n3 := hb.n62
  have n4 := hb.d62
  unfold I62 at n1 n2 n3 n4
  have HP1 := Lib.hid (fun W => rproduct_any n k W (by omega) (by omega))
  have HP2 := Lib.hid (fun W => rproduct_any m d W (by omega) (by omega))
  have hv := sum_val (decide (n < 0) != decide (k < 0)) (!(decide (m < 0) != decide (d < 0))) (n.natAbs * k.natAbs) (m.natAbs * d.natAbs)
  rw [sval_not, prod_val, prod_val] at hv
  have HC := cmp_sign ha hb hv
  have hT1 : ∀ j, Tight (n.natAbs * k.natAbs) j → j ≤ 500 := fun j hT => by
    have h5 := Nat.mul_le_mul (show n.natAbs ≤ 4611686018427387904 by omega) (show k.natAbs ≤ 4611686018427387904 by omega)
    have := hT.le (m := 130) (Nat.lt_of_le_of_lt h5 (by decide))
    omega
  have hT2 : ∀ j, Tight (m.natAbs * d.natAbs) j → j ≤ 500 := fun j hT => by
    have h5 := Nat.mul_le_mul (show m.natAbs ≤ 4611686018427387904 by omega) (show d.natAbs ≤ 4611686018427387904 by omega)
    have := hT.le (m := 130) (Nat.lt_of_le_of_lt h5 (by decide))
    omega
  have HT1 := Lib.hid hT1
  have HT2 := Lib.hid hT2
  have HSM : Hid (∀ W v u k' l', _) := Lib.hid (fun W v u k' l' => rsum_any (decide (n < 0) != decide (k < 0)) (!(decide (m < 0) != decide (d < 0))) (n.natAbs * k.natAbs) (m.natAbs * d.natAbs) v u k' l' W)
  clear hv hT1 hT2 ha hb n1 n2 n3 n4
  generalize sumN (decide (n < 0) != decide (k < 0)) (!(decide (m < 0) != decide (d < 0))) (n.natAbs * k.natAbs) (m.natAbs * d.natAbs) = s at *
  generalize sumX (decide (n < 0) != decide (k < 0)) (!(decide (m < 0) != decide (d < 0))) (n.natAbs * k.natAbs) (m.natAbs * d.natAbs) = x at *
  generalize n.natAbs * k.natAbs = x1 at *
  generalize m.natAbs * d.natAbs = x2 at *
  generalize (decide (n < 0) != decide (k < 0)) = s1 at *
  generalize (decide (m < 0) != decide (d < 0)) = s2 at *
  generalize cmpI A B = C at *
  have HCC := Lib.hid HC
  clear HC
  go_enter Try.func51, Try.ntmps51
  go_wp2_with fail
  have a0 := (Box2.new w (.int .i64 n) (.int .i64 d) 23).alloc (.cells #[.int .i64 m, .int .i64 k] 23)
  have b0 := Box2.newAt (W := w.alloc (.cells #[.int .i64 n, .int .i64 d] 23)) (B := w.heap.size + 1) (by simp) (.int .i64 m) (.int .i64 k) 23
  have B0 := ((Below.refl w.heap.size w).alloc (Nat.le_refl _) (.cells #[.int .i64 n, .int .i64 d] 23)).alloc (by simp) (.cells #[.int .i64 m, .int .i64 k] 23)
  refine (HP1.out _).mono ?_
  rintro e w1 ⟨v1, k1, rfl, hh1, hT1, hb1, hn1⟩
  obtain ⟨g1, c1, rfl, hc1, hg1, hI1⟩ := hh1
  have a1 := (a0.keep hb1).alloc (.cells #[.bool s1, .slice (some ⟨g1, 0, none⟩) k1 c1] 118)
  have b1 := (b0.keep hb1).alloc (.cells #[.bool s1, .slice (some ⟨g1, 0, none⟩) k1 c1] 118)
  have p1 := Box2.new w1 (.bool s1) (.slice (some ⟨g1, 0, none⟩) k1 c1) 118
  have B1 := (B0.trans (hb1.mono B0.size)).alloc (B0.trans (hb1.mono B0.size)).size (.cells #[.bool s1, .slice (some ⟨g1, 0, none⟩) k1 c1] 118)
  have H1 := Lib.hid (show HasB (w1.alloc (.cells #[.bool s1, .slice (some ⟨g1, 0, none⟩) k1 c1] 118)) (.slice (some ⟨g1, 0, none⟩) k1 c1) x1 k1 from HasB.alloc ⟨g1, c1, rfl, hc1, hg1, hI1⟩ _)
  have T1 := Lib.hid hT1
  have y0 := b1.c0
  have y1 := a1.c1
  clear a0 b0 B0 hT1 hb1 hn1 hc1 hg1 hI1 HP1
  go_wp2_with fail
  refine (HP2.out _).mono ?_
  rintro e w2 ⟨v2, k2, rfl, hh2, hT2, hb2, hn2⟩
  obtain ⟨g2, c2, rfl, hc2, hg2, hI2⟩ := hh2
  have p2 := (p1.keep hb2).alloc (.cells #[.bool s2, .slice (some ⟨g2, 0, none⟩) k2 c2] 118)
  have q2 := Box2.new w2 (.bool s2) (.slice (some ⟨g2, 0, none⟩) k2 c2) 118
  have B2 := (B1.trans (hb2.mono B1.size)).alloc (B1.trans (hb2.mono B1.size)).size (.cells #[.bool s2, .slice (some ⟨g2, 0, none⟩) k2 c2] 118)
  have H2 := Lib.hid (show HasB (w2.alloc (.cells #[.bool s2, .slice (some ⟨g2, 0, none⟩) k2 c2] 118)) (.slice (some ⟨g2, 0, none⟩) k2 c2) x2 k2 from HasB.alloc ⟨g2, c2, rfl, hc2, hg2, hI2⟩ _)
  have H12 := Lib.hid (show HasB (w2.alloc (.cells #[.bool s2, .slice (some ⟨g2, 0, none⟩) k2 c2] 118)) (.slice (some ⟨g1, 0, none⟩) k1 c1) x1 k1 from (H1.out.keep hb2).alloc _)
  have T2 := Lib.hid hT2
  have z0 := p2.c0
  have z1 := p2.c1
  have u0 := q2.c0
  have u1 := q2.c1
  clear a1 b1 B1 y0 y1 p1 H1 hT2 hb2 hn2 hc2 hg2 hI2 HP2
  go_wp2_with fail
  refine (HSM.out _ (.slice (some ⟨g1, 0, none⟩) k1 c1) (.slice (some ⟨g2, 0, none⟩) k2 c2) k1 k2 H12.out H2.out T1.out T2.out (HT1.out k1 T1.out) (HT2.out k2 T2.out)).mono ?_
  rintro e w3 ⟨v3, k3, rfl, ⟨g3, c3, rfl, hc3, hg3, hI3⟩, hT3, hb3, hn3⟩
  have d3 := Box2.new w3 (.bool s) (.slice (some ⟨g3, 0, none⟩) k3 c3) 118
  have B3 := (B2.trans (hb3.mono B2.size)).alloc (B2.trans (hb3.mono B2.size)).size (.cells #[.bool s, .slice (some ⟨g3, 0, none⟩) k3 c3] 118)
  have t0 := d3.c0
  have t1 := d3.c1
  have hk := hT3.zero
  clear z0 z1 u0 u1 p2 q2 B2 H12 H2 T1 T2 HT1 HT2 HSM hb3 hn3 hc3 hg3 hI3 hT3
  rcases HCC.out with ⟨hx, e⟩ | ⟨hx, hs, e⟩ | ⟨hx, hs, e⟩
  · have hz : ((k3 : Int) == 0) = true := by have := hk.1 hx; simp [this]
    subst e
    clear HCC hk hx
    go_wp2_with fail
    go_ret
    exact ⟨rfl, B3⟩
  · have hz : ((k3 : Int) == 0) = false := by
      have : k3 ≠ 0 := fun h => hx (hk.2 h)
      simp [this]
    subst hs
    subst e
    clear HCC hk hx
    go_wp2_with fail
    go_ret
    exact ⟨rfl, B3⟩
  · have hz : ((k3 : Int) == 0) = false := by
      have : k3 ≠ 0 := fun h => hx (hk.2 h)
      simp [this]
    subst hs
    subst e
    clear HCC hk hx
    go_wp2_with fail
    go_ret
    exact ⟨rfl, B3⟩

end Fr
end Go.Proofs.Ytojkaaglmdfcnaa
