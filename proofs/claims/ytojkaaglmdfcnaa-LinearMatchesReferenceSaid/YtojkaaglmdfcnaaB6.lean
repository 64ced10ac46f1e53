/- The reference's signed numbers: products of two integers; numbers read off. -/
import Derived.Test.YtojkaaglmdfcnaaB5
import Derived.Test.YtojkaaglmdfcnaaG1
namespace Go.Proofs.Ytojkaaglmdfcnaa
open Go.RowKit Sl
namespace Fr
set_option linter.unusedVariables false

/-- What fits says: the number and true, or 0 and false. -/
def fitN (x : Nat) : Int := if x ≤ 4611686018427387904 then (x : Int) else 0
def fitY (x : Nat) : Bool := decide (x ≤ 4611686018427387904)

theorem cmp_most (x : Nat) : 0 < cmpN x 4611686018427387904 ↔ ¬ x ≤ 4611686018427387904 := by
  unfold cmpN
  split
  · omega
  · split <;> omega

set_option maxRecDepth 100000 in
set_option maxHeartbeats 2000000 in
theorem rfits_any (A : Option Addr) (x k c : Nat) (w : World) (hA : IsB w A x k) (hx : x < 2 ^ k) (hk : k ≤ 500) :
    Calls Try.prog 104 #[.slice A k c] w fun e w' => e = .returned (.tuple #[.int .i64 (fitN x), .bool (fitY x)]) ∧ Below w.heap.size w w' := by
  have HB := Lib.hid (bits_any 4611686018427387904 w (by decide))
  have HC := Lib.hid (fun W (hW : Below w.heap.size w W) B l d (hB : IsB W B 4611686018427387904 l) (hl : Tight 4611686018427387904 l) => compare_any A B x 4611686018427387904 k l c d W (hA.keep hW) hB hx hl.1 (by omega) (by have := hl.le (m := 63) (by decide); omega))
  have HA := Lib.hid hA
  have HX := Lib.hid hx
  by_cases hf : x ≤ 4611686018427387904
  · have hcm : decide (0 < cmpN x 4611686018427387904) = false := by
      rw [decide_eq_false_iff_not]; intro h; exact (cmp_most x).1 h hf
    have HF : Hid (fitN x = (x : Int) ∧ fitY x = true) := Lib.hid ⟨by unfold fitN; rw [if_pos hf], by unfold fitY; exact decide_eq_true hf⟩
    have HL := Lib.hid hf
    clear hA hx hf
    go_enter Try.func104, Try.ntmps104
    go_wp2_with fail
    refine (most_any _).mono ?_
    rintro e w' ⟨rfl, rfl⟩
    go_wp2_with fail
    refine HB.out.mono ?_
    rintro e w1 ⟨v, l, rfl, ⟨g, d, rfl, hd, hg, hI⟩, hT, hb1, _⟩
    have HC1 := Lib.hid (HC.out w1 hb1 _ l d hI hT)
    have HB1 := Lib.hid hb1
    have HI1 := Lib.hid (HA.out.keep hb1)
    clear hI hT hb1 hd
    go_wp2_with fail
    refine HC1.out.mono ?_
    rintro e w' ⟨rfl, rfl⟩
    generalize cmpN x 4611686018427387904 = cm at *
    go_wp2_with fail
    clear HC HB HC1
    go_loop [4, 5] (fun n i => ∃ j : Nat, j ≤ k ∧ n = .int .i64 ((x / 2 ^ j : Nat) : Int) ∧ i = .int .i64 ((j : Int) - 1)) (fun _ i => (intOf i + 1).toNat)
    case atStart => exact ⟨k, Nat.le_refl _, by rw [top_zero HX.out]; rfl, rfl⟩
    case round =>
      obtain ⟨j, hj, rfl, rfl⟩ := hrel
      by_cases h0 : j = 0
      · have hz : x / 2 ^ j = x := by rw [h0, Nat.pow_zero, Nat.div_one]
        rw [hz]
        have d1 : decide (0 ≤ (j : Int) - 1) = false := by simp; omega
        have d2 : decide (1 ≤ (j : Int)) = false := by simp; omega
        clear h0 hz
        go_wp2_with fail
        go_ret2
        exact ⟨by rw [HF.out.1, HF.out.2]; rfl, HB1.out⟩
      · obtain ⟨t, rfl⟩ : ∃ t, j = t + 1 := ⟨j - 1, by omega⟩
        obtain ⟨b, o, rfl, hbb, hcell⟩ := HI1.out.cell (j := t) (by omega)
        have ec : ((t + 1 : Nat) : Int) - 1 = (t : Int) := by omega
        rw [ec]
        have hd := div_bit x t
        have hle : x / 2 ^ t ≤ 4611686018427387904 := Nat.le_trans (Nat.div_le_self _ _) HL.out
        have htk : t < k := by omega
        have HE := Lib.hid hd
        generalize x / 2 ^ (t + 1) = r at *
        generalize bt x t = p at *
        have hb1 : 2 * (r : Int) + (p : Int) ≤ 4611686018427387904 := by omega
        clear hd hle h0
        go_wp2_with fail
        go_round
        case rel => exact ⟨t, by omega, by rw [HE.out]; go_num, rfl⟩
        case measure => simp [intOf]
  · have hcm : 0 < cmpN x 4611686018427387904 := (cmp_most x).2 hf
    have HF : Hid (fitN x = 0 ∧ fitY x = false) := Lib.hid ⟨by unfold fitN; rw [if_neg hf], by unfold fitY; exact decide_eq_false hf⟩
    clear hA hx hf
    go_enter Try.func104, Try.ntmps104
    go_wp2_with fail
    refine (most_any _).mono ?_
    rintro e w' ⟨rfl, rfl⟩
    go_wp2_with fail
    refine HB.out.mono ?_
    rintro e w1 ⟨v, l, rfl, ⟨g, d, rfl, hd, hg, hI⟩, hT, hb1, _⟩
    have HC1 := Lib.hid (HC.out w1 hb1 _ l d hI hT)
    have HB1 := Lib.hid hb1
    clear hI hT hb1 hd
    go_wp2_with fail
    refine HC1.out.mono ?_
    rintro e w' ⟨rfl, rfl⟩
    generalize cmpN x 4611686018427387904 = cm at *
    go_wp2_with fail
    go_ret2
    exact ⟨by rw [HF.out.1, HF.out.2]; rfl, HB1.out⟩

/-- A call hands back a sign and the bits of a number, and changes nothing that was there. -/
def RetS (neg : Bool) (x : Nat) (w : World) (e : Ending) (w' : World) : Prop := ∃ v k, e = .returned (.agg #[.bool neg, v]) ∧ HasB w' v x k ∧ Tight x k ∧ Below w.heap.size w w' ∧ NewB w.heap.size v

set_option maxRecDepth 100000 in
set_option maxHeartbeats 2000000 in
theorem rproduct_any (a b : Int) (w : World) (ha : a.natAbs ≤ 4611686018427387904) (hb : b.natAbs ≤ 4611686018427387904) :
    Calls Try.prog 84 #[.int .i64 a, .int .i64 b] w (RetS (decide (a < 0) != decide (b < 0)) (a.natAbs * b.natAbs) w) := by
  have HS1 := Lib.hid (fun W => rsize_any a W (by omega) (by omega))
  have HS2 := Lib.hid (fun W => rsize_any b W (by omega) (by omega))
  have HB1 := Lib.hid (fun W => bits_any a.natAbs W (by omega))
  have HB2 := Lib.hid (fun W => bits_any b.natAbs W (by omega))
  have hTl : ∀ (x : Nat), x ≤ 4611686018427387904 → ∀ k, Tight x k → k ≤ 100 := fun x hx k hT => by have := hT.le (m := 63) (by omega); omega
  have HT1 := Lib.hid (hTl a.natAbs ha)
  have HT2 := Lib.hid (hTl b.natAbs hb)
  have XN := Lib.hid (Box2.new w (.bool false) (.slice none 0 0) 118)
  have W0 := Lib.hid ((Below.refl _ w).alloc (Nat.le_refl _) (.cells #[.bool false, .slice none 0 0] 118))
  clear hTl ha hb
  obtain ⟨s, hs⟩ : ∃ s, decide (a < 0) = s := ⟨_, rfl⟩
  obtain ⟨t, ht⟩ : ∃ t, decide (b < 0) = t := ⟨_, rfl⟩
  rw [hs, ht]
  go_enter Try.func84, Try.ntmps84
  go_wp2_with fail
  refine (HS1.out _).mono ?_
  rintro e w' ⟨rfl, rfl⟩
  go_wp2_with fail
  refine (HB1.out _).mono ?_
  rintro e w1 ⟨v1, k1, rfl, ⟨g1, c1, rfl, hc1, hg1, hI1⟩, hT1, hb1, _⟩
  have HI1 := Lib.hid hI1
  have HK1 := Lib.hid (HT1.out k1 hT1)
  have HTT1 := Lib.hid hT1
  have X1 := Lib.hid (XN.out.keep hb1)
  have W1 := Lib.hid (W0.out.trans (hb1.mono W0.out.size))
  clear hI1 hT1 hb1 hc1
  go_wp2_with fail
  refine (HS2.out _).mono ?_
  rintro e w' ⟨rfl, rfl⟩
  go_wp2_with fail
  refine (HB2.out _).mono ?_
  rintro e w2 ⟨v2, k2, rfl, ⟨g2, c2, rfl, hc2, hg2, hI2⟩, hT2, hb2, _⟩
  have HTM := Lib.hid (times_bits g1 a.natAbs b.natAbs k1 k2 c1 c2 (some ⟨g2, 0, none⟩) w2 (HI1.out.keep hb2) hI2 HTT1.out.1 hT2.1 HK1.out (HT2.out k2 hT2))
  have X2 := Lib.hid (X1.out.keep hb2)
  have W2 := Lib.hid (W1.out.trans (hb2.mono W1.out.size))
  clear hI2 hT2 hb2 hc2 HI1 XN W0 X1 W1
  go_wp2_with fail
  refine HTM.out.mono ?_
  rintro e w3 ⟨v3, k3, rfl, ⟨g3, c3, rfl, hc3, hg3, hI3⟩, hT3, hb3, hn3⟩
  have X3 := Lib.hid (X2.out.keep hb3)
  have W3 := Lib.hid (W2.out.trans (hb3.mono W2.out.size))
  have HI3 := Lib.hid hI3
  have HT3 := Lib.hid hT3
  have HW2 := Lib.hid W2.out.size
  have hg3w : w2.heap.size ≤ g3 := hn3 _ _ _ rfl
  have hx2 := X2.out.lt
  have HNE : Hid (w.heap.size < g3) := Lib.hid (by omega)
  clear hg3w hn3 hx2
  have HN := Lib.hid (X3.out.set (.bool (s != t)) (.slice (some ⟨g3, 0, none⟩) k3 c3))
  clear hI3 hT3 hb3 X2 W2
  have x0 := X3.out.c0
  have x1 := X3.out.c1
  have f0 := X3.out.f0
  have f1 := X3.out.f1
  have hst : (!(s == t)) = (s != t) := rfl
  go_wp2_with fail
  have c0 := HN.out.c0
  have c1 := HN.out.c1
  clear x0 x1 f0 f1
  refine bodyPost_ret (v := .agg #[.bool (s != t), .slice (some ⟨g3, 0, none⟩) k3 c3]) (by simp [results, Try.results84, go_sem, c0, c1]) rfl ?_
  have hlt := HNE.out
  exact ⟨_, k3, rfl, ⟨g3, c3, rfl, hc3, by simpa using hg3, (HI3.out.far (by omega) _).far (by omega) _⟩, HT3.out, below_set2 W3.out (Nat.le_refl _) _ _, .mk (by omega)⟩

end Fr
end Go.Proofs.Ytojkaaglmdfcnaa
