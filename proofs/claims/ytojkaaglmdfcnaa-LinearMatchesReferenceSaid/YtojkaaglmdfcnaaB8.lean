/- The reference's fractions out of signed numbers. -/
import Derived.Test.YtojkaaglmdfcnaaB7
import Derived.Test.YtojkaaglmdfcnaaF8
namespace Go.Proofs.Ytojkaaglmdfcnaa
open Go.RowKit Sl
namespace Fr
set_option linter.unusedVariables false

/-- The value of a signed number. -/
def sval (n : Bool) (x : Nat) : Int := if n then -(x : Int) else (x : Int)
theorem sum_val (n m : Bool) (x y : Nat) : sval (sumN n m x y) (sumX n m x y) = sval n x + sval m y := by
  unfold sumN sumX
  cases n <;> cases m <;> simp [sval]
  · by_cases h : y ≤ x
    · simp [h]; omega
    · simp [h]; omega
  · by_cases h : y ≤ x
    · simp [h]; omega
    · simp [h]; omega
  · omega
theorem prod_val (a b : Int) : sval (decide (a < 0) != decide (b < 0)) (a.natAbs * b.natAbs) = a * b := by
  rcases Int.natAbs_eq a with ha | ha <;> rcases Int.natAbs_eq b with hb | hb
  all_goals
    by_cases h1 : a < 0 <;> by_cases h2 : b < 0
  all_goals
    simp only [sval, h1, h2, decide_true, decide_false, bne_self_eq_false, Bool.false_eq_true, if_false, Int.natCast_mul, show (true != false) = true from rfl, show (false != true) = true from rfl, if_true]
    first
      | (exfalso; omega)
      | (rw [show ((a.natAbs : Nat) : Int) = a by omega, show ((b.natAbs : Nat) : Int) = b by omega])
      | (rw [show ((a.natAbs : Nat) : Int) = -a by omega, show ((b.natAbs : Nat) : Int) = b by omega, Int.neg_mul, Int.neg_neg])
      | (rw [show ((a.natAbs : Nat) : Int) = a by omega, show ((b.natAbs : Nat) : Int) = -b by omega, Int.mul_neg, Int.neg_neg])
      | (rw [show ((a.natAbs : Nat) : Int) = -a by omega, show ((b.natAbs : Nat) : Int) = -b by omega, Int.neg_mul_neg])
theorem sval_abs {n : Bool} {x : Nat} {T : Int} (h : sval n x = T) : x = T.natAbs ∧ (T ≠ 0 → n = decide (T < 0)) := by
  unfold sval at h
  cases n
  · simp only [Bool.false_eq_true, if_false] at h
    exact ⟨by omega, fun h0 => by simp; omega⟩
  · simp only [if_true] at h
    exact ⟨by omega, fun h0 => by simp; omega⟩

/-- What made returns. -/
def mdN (n : Bool) (x d : Nat) : Int := if x ≤ 4611686018427387904 ∧ d ≤ 4611686018427387904 then sval n x else 0
def mdD (x d : Nat) : Int := if x ≤ 4611686018427387904 ∧ d ≤ 4611686018427387904 then (d : Int) else 0
def mdE (x d : Nat) : Int := if x ≤ 4611686018427387904 ∧ d ≤ 4611686018427387904 then 0 else 2

theorem made_rat {q : Rat} {n : Bool} {x d : Nat} (hn : q.num = sval n x) (hd : q.den = d) : mdN n x d = rN q ∧ mdD x d = rD q ∧ mdE x d = rE q := by
  have hf : Fit q ↔ (x ≤ 4611686018427387904 ∧ d ≤ 4611686018427387904) := by
    unfold Fit
    rw [hn, hd]
    unfold sval
    cases n
    · simp only [Bool.false_eq_true, if_false]; omega
    · simp only [if_true]; omega
  unfold mdN mdD mdE rN rD rE
  by_cases h : x ≤ 4611686018427387904 ∧ d ≤ 4611686018427387904
  · rw [if_pos h, if_pos h, if_pos h, if_pos (hf.2 h), if_pos (hf.2 h), if_pos (hf.2 h), hn, hd]
    exact ⟨rfl, rfl, rfl⟩
  · rw [if_neg h, if_neg h, if_neg h, if_neg (fun h' => h (hf.1 h')), if_neg (fun h' => h (hf.1 h')), if_neg (fun h' => h (hf.1 h'))]
    exact ⟨rfl, rfl, rfl⟩

/-- A call hands back a fraction and an error, and changes nothing that was there. -/
def RetR (N D E : Int) (w : World) (e : Ending) (w' : World) : Prop := e = .returned (.agg #[.int .i64 N, .int .i64 D, .int .i64 E]) ∧ Below w.heap.size w w'

set_option maxRecDepth 100000 in
set_option maxHeartbeats 2000000 in
theorem rmade_any (n : Bool) (x d : Nat) (v u : Value) (k1 k2 : Nat) (w : World) (h1 : HasB w v x k1) (h2 : HasB w u d k2) (hx : Tight x k1) (hd : Tight d k2) (hk1 : k1 ≤ 500) (hk2 : k2 ≤ 500) :
    Calls Try.prog 87 #[.agg #[.bool n, v], u] w (RetR (mdN n x d) (mdD x d) (mdE x d) w) := by
  obtain ⟨g1, c1, rfl, _, hg1, hI1⟩ := h1
  obtain ⟨g2, c2, rfl, _, hg2, hI2⟩ := h2
  have HF1 := Lib.hid (fun W (hW : Below w.heap.size w W) => rfits_any (some ⟨g1, 0, none⟩) x k1 c1 W (hI1.keep hW) hx.1 hk1)
  have HF2 := Lib.hid (fun W (hW : Below w.heap.size w W) => rfits_any (some ⟨g2, 0, none⟩) d k2 c2 W (hI2.keep hW) hd.1 hk2)
  have XA := Lib.hid ((Box2.new w (.bool n) (.slice (some ⟨g1, 0, none⟩) k1 c1) 118).alloc (.cells #[.int .i64 0, .int .i64 0, .int .i64 0] 51))
  have XR := Lib.hid (Box3.newAt (W := w.alloc (.cells #[.bool n, .slice (some ⟨g1, 0, none⟩) k1 c1] 118)) (B := w.heap.size + 1) (by simp) (.int .i64 0) (.int .i64 0) (.int .i64 0) 51)
  have W0 := Lib.hid (((Below.refl _ w).alloc (Nat.le_refl _) (.cells #[.bool n, .slice (some ⟨g1, 0, none⟩) k1 c1] 118)).alloc (by simp) (.cells #[.int .i64 0, .int .i64 0, .int .i64 0] 51))
  clear hI1 hI2 hx hd hk1 hk2
  have a1 := XA.out.c1
  have ways : (fitY x = false ∨ (fitY x = true ∧ fitY d = false) ∨ (fitY x = true ∧ fitY d = true)) := by cases fitY x <;> cases fitY d <;> simp
  have hB : ∀ y, (y ≤ 4611686018427387904 ↔ fitY y = true) := fun y => by unfold fitY; simp
  have hv : ∀ y, fitY y = true → fitN y = (y : Int) := fun y h => by unfold fitN; rw [if_pos ((hB y).2 h)]
  have HMd : Hid ((fitY x = true ∧ fitY d = true → mdN n x d = sval n x ∧ mdD x d = (d : Int) ∧ mdE x d = 0) ∧ (¬ (fitY x = true ∧ fitY d = true) → mdN n x d = 0 ∧ mdD x d = 0 ∧ mdE x d = 2)) := Lib.hid (by
    unfold mdN mdD mdE
    refine ⟨fun h => ?_, fun h => ?_⟩
    · have h' : x ≤ 4611686018427387904 ∧ d ≤ 4611686018427387904 := ⟨(hB x).2 h.1, (hB d).2 h.2⟩
      rw [if_pos h', if_pos h', if_pos h']; exact ⟨rfl, rfl, rfl⟩
    · have h' : ¬ (x ≤ 4611686018427387904 ∧ d ≤ 4611686018427387904) := fun h2 => h ⟨(hB x).1 h2.1, (hB d).1 h2.2⟩
      rw [if_neg h', if_neg h', if_neg h']; exact ⟨rfl, rfl, rfl⟩)
  have HV := Lib.hid (And.intro (hv x) (hv d))
  clear hB hv
  have HS : Hid (sval n x = if n then -(x : Int) else (x : Int)) := Lib.hid rfl
  have hx62 : fitY x = true → (x : Int) ≤ 4611686018427387904 := fun h => by unfold fitY at h; simp at h; omega
  have HX62 := Lib.hid hx62
  clear hx62
  rcases ways with hfx | ⟨hfx, hfd⟩ | ⟨hfx, hfd⟩
  · obtain ⟨e1, e2, e3⟩ := HMd.out.2 (fun h => by rw [hfx] at h; exact absurd h.1 (by decide))
    rw [e1, e2, e3]
    rw [hfx] at HF1
    clear e1 e2 e3 hfx HMd HV HX62
    generalize fitN x = p at *
    generalize fitN d = q at *
    generalize fitY d = b at *
    go_enter Try.func87, Try.ntmps87
    go_wp2_with fail
    refine (HF1.out _ W0.out).mono ?_
    rintro e w1 ⟨rfl, hb1⟩
    have XR1 := Lib.hid (XR.out.keep hb1)
    have XA1 := Lib.hid (XA.out.keep hb1)
    have W1 := Lib.hid (W0.out.trans (hb1.mono W0.out.size))
    clear hb1 a1
    go_wp2_with fail
    refine (HF2.out _ W1.out).mono ?_
    rintro e w2 ⟨rfl, hb2⟩
    have XR2 := Lib.hid (XR1.out.keep hb2)
    have a0 := (XA1.out.keep hb2).c0
    have W2 := Lib.hid (W1.out.trans (hb2.mono W1.out.size))
    have HN := Lib.hid ((XR1.out.keep hb2).set (.int .i64 0) (.int .i64 0) (.int .i64 2))
    have r0 := XR2.out.c0
    have r1 := XR2.out.c1
    have r2 := XR2.out.c2
    have q0 := XR2.out.f0
    have q1 := XR2.out.f1
    have q2 := XR2.out.f2
    clear hb2
    go_wp2_with fail
    have c0 := HN.out.c0
    have c1 := HN.out.c1
    have c2 := HN.out.c2
    clear r0 r1 r2 q0 q1 q2 a0
    refine bodyPost_ret (v := .agg #[.int .i64 0, .int .i64 0, .int .i64 2]) (by simp [results, Try.results87, go_sem, c0, c1, c2]) rfl ?_
    exact ⟨rfl, below_set3 W2.out (by omega) _ _ _⟩
  · obtain ⟨e1, e2, e3⟩ := HMd.out.2 (fun h => by rw [hfd] at h; exact absurd h.2 (by decide))
    rw [e1, e2, e3]
    rw [hfx] at HF1
    rw [hfd] at HF2
    clear e1 e2 e3 hfx hfd HMd HV HX62
    generalize fitN x = p at *
    generalize fitN d = q at *
    go_enter Try.func87, Try.ntmps87
    go_wp2_with fail
    refine (HF1.out _ W0.out).mono ?_
    rintro e w1 ⟨rfl, hb1⟩
    have XR1 := Lib.hid (XR.out.keep hb1)
    have XA1 := Lib.hid (XA.out.keep hb1)
    have W1 := Lib.hid (W0.out.trans (hb1.mono W0.out.size))
    clear hb1 a1
    go_wp2_with fail
    refine (HF2.out _ W1.out).mono ?_
    rintro e w2 ⟨rfl, hb2⟩
    have XR2 := Lib.hid (XR1.out.keep hb2)
    have a0 := (XA1.out.keep hb2).c0
    have W2 := Lib.hid (W1.out.trans (hb2.mono W1.out.size))
    have HN := Lib.hid ((XR1.out.keep hb2).set (.int .i64 0) (.int .i64 0) (.int .i64 2))
    have r0 := XR2.out.c0
    have r1 := XR2.out.c1
    have r2 := XR2.out.c2
    have q0 := XR2.out.f0
    have q1 := XR2.out.f1
    have q2 := XR2.out.f2
    clear hb2
    go_wp2_with fail
    have c0 := HN.out.c0
    have c1 := HN.out.c1
    have c2 := HN.out.c2
    clear r0 r1 r2 q0 q1 q2 a0
    refine bodyPost_ret (v := .agg #[.int .i64 0, .int .i64 0, .int .i64 2]) (by simp [results, Try.results87, go_sem, c0, c1, c2]) rfl ?_
    exact ⟨rfl, below_set3 W2.out (by omega) _ _ _⟩
  · obtain ⟨e1, e2, e3⟩ := HMd.out.1 ⟨hfx, hfd⟩
    have hx62 := HX62.out hfx
    rw [e1, e2, e3, HS.out]
    rw [hfx, HV.out.1 hfx] at HF1
    rw [hfd, HV.out.2 hfd] at HF2
    clear e1 e2 e3 hfx hfd HMd HV HX62 HS
    cases n with
    | true =>
      simp only [if_true]
      go_enter Try.func87, Try.ntmps87
      go_wp2_with fail
      refine (HF1.out _ W0.out).mono ?_
      rintro e w1 ⟨rfl, hb1⟩
      have XR1 := Lib.hid (XR.out.keep hb1)
      have XA1 := Lib.hid (XA.out.keep hb1)
      have W1 := Lib.hid (W0.out.trans (hb1.mono W0.out.size))
      clear hb1 a1
      go_wp2_with fail
      refine (HF2.out _ W1.out).mono ?_
      rintro e w2 ⟨rfl, hb2⟩
      have XR2 := Lib.hid (XR1.out.keep hb2)
      have a0 := (XA1.out.keep hb2).c0
      have W2 := Lib.hid (W1.out.trans (hb2.mono W1.out.size))
      have HN := Lib.hid ((XR1.out.keep hb2).set (.int .i64 (-(x : Int))) (.int .i64 (d : Int)) (.int .i64 0))
      have r0 := XR2.out.c0
      have r1 := XR2.out.c1
      have r2 := XR2.out.c2
      have q0 := XR2.out.f0
      have q1 := XR2.out.f1
      have q2 := XR2.out.f2
      clear hb2
      go_wp2_with fail
      have c0 := HN.out.c0
      have c1 := HN.out.c1
      have c2 := HN.out.c2
      clear r0 r1 r2 q0 q1 q2 a0
      refine bodyPost_ret (v := .agg #[.int .i64 (-(x : Int)), .int .i64 (d : Int), .int .i64 0]) (by simp [results, Try.results87, go_sem, c0, c1, c2]) rfl ?_
      exact ⟨rfl, below_set3 W2.out (by omega) _ _ _⟩
    | false =>
      simp only [Bool.false_eq_true, if_false]
      go_enter Try.func87, Try.ntmps87
      go_wp2_with fail
      refine (HF1.out _ W0.out).mono ?_
      rintro e w1 ⟨rfl, hb1⟩
      have XR1 := Lib.hid (XR.out.keep hb1)
      have XA1 := Lib.hid (XA.out.keep hb1)
      have W1 := Lib.hid (W0.out.trans (hb1.mono W0.out.size))
      clear hb1 a1
      go_wp2_with fail
      refine (HF2.out _ W1.out).mono ?_
      rintro e w2 ⟨rfl, hb2⟩
      have XR2 := Lib.hid (XR1.out.keep hb2)
      have a0 := (XA1.out.keep hb2).c0
      have W2 := Lib.hid (W1.out.trans (hb2.mono W1.out.size))
      have HN := Lib.hid ((XR1.out.keep hb2).set (.int .i64 (x : Int)) (.int .i64 (d : Int)) (.int .i64 0))
      have r0 := XR2.out.c0
      have r1 := XR2.out.c1
      have r2 := XR2.out.c2
      have q0 := XR2.out.f0
      have q1 := XR2.out.f1
      have q2 := XR2.out.f2
      clear hb2
      go_wp2_with fail
      have c0 := HN.out.c0
      have c1 := HN.out.c1
      have c2 := HN.out.c2
      clear r0 r1 r2 q0 q1 q2 a0
      refine bodyPost_ret (v := .agg #[.int .i64 (x : Int), .int .i64 (d : Int), .int .i64 0]) (by simp [results, Try.results87, go_sem, c0, c1, c2]) rfl ?_
      exact ⟨rfl, below_set3 W2.out (by omega) _ _ _⟩

end Fr
end Go.Proofs.Ytojkaaglmdfcnaa
