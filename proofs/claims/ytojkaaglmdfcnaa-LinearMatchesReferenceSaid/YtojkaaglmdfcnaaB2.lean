/- The reference's lists of bits: the bits of a number, sums, differences. -/
import Derived.Test.YtojkaaglmdfcnaaB1
import Derived.Deep.AppendLies
namespace Go.Proofs.Ytojkaaglmdfcnaa
open Go.RowKit Sl
namespace Fr
set_option linter.unusedVariables false

theorem infoInt : (Try.prog.info? 3).map (fun i => (i.zero, i.size, i.bytes)) = some (some (.int .i64 0), 1, 8) := by kernel_rfl

/-- A slice, from the head of its block on, that holds the first k bits of n. -/
def HasB (w : World) (v : Value) (n k : Nat) : Prop := ∃ g c, v = .slice (some ⟨g, 0, none⟩) k c ∧ k ≤ c ∧ g < w.heap.size ∧ IsB w (some ⟨g, 0, none⟩) n k
theorem HasB.keep {w w' : World} {v : Value} {n k : Nat} (h : HasB w v n k) (hb : Below w.heap.size w w') : HasB w' v n k := by
  obtain ⟨g, c, e, hc, hg, hI⟩ := h
  exact ⟨g, c, e, hc, Nat.lt_of_lt_of_le hg hb.size, hI.keep hb⟩

/-- A slice's block is not below a number. -/
def NewB (base : Nat) (v : Value) : Prop := ∀ g k c, v = .slice (some ⟨g, 0, none⟩) k c → base ≤ g
theorem NewB.mk {base g k c : Nat} (h : base ≤ g) : NewB base (.slice (some ⟨g, 0, none⟩) k c) := fun g' k' c' e => by
  injection e with e1 e2 e3
  injection e1 with e1
  injection e1 with e1
  omega
theorem NewB.mono {base base' : Nat} {v : Value} (h : NewB base v) (hb : base' ≤ base) : NewB base' v := fun g k c e => Nat.le_trans hb (h g k c e)

/-- A call hands back the bits of n in memory of its own, and changes nothing that was there. -/
def RetB (n : Nat) (w : World) (e : Ending) (w' : World) : Prop := ∃ v k, e = .returned v ∧ HasB w' v n k ∧ Tight n k ∧ Below w.heap.size w w' ∧ NewB w.heap.size v

/-- A row of the call's own that holds the first k bits of n. -/
def OwnB (w : World) (n k : Nat) (v : Value) (wr : World) : Prop := wr.ownsRow w.heap.size 3 1 v k (cellsB n k) ∧ Below w.heap.size w wr ∧ v ≠ .slice none 0 0

theorem row_some {w : World} {base : Nat} {e : TypeId} {v : Value} {n : Nat} {vs : List Value} (h : w.ownsRow base e 1 v n vs) (hv : v ≠ .slice none 0 0) : ∃ g c, v = .slice (some ⟨g, 0, none⟩) n c := by
  rcases h.2 with ⟨rfl, hn⟩ | ⟨g, cap, cur, rfl, _⟩
  · exact absurd rfl hv
  · exact ⟨g, cap, rfl⟩
theorem OwnB.forms {w wr : World} {n k : Nat} {v : Value} (h : OwnB w n k v wr) : ∃ g c, v = .slice (some ⟨g, 0, none⟩) k c ∧ k ≤ c ∧ g < wr.heap.size ∧ IsB wr (some ⟨g, 0, none⟩) n k ∧ (∀ g, v.ownBlock = some g → w.heap.size ≤ g ∧ g < wr.heap.size) := by
  obtain ⟨g, c', e'⟩ := row_some h.1 h.2.2
  obtain ⟨A, c, e, hc, _, hF, hr⟩ := row_forms h.1
  rw [e'] at e
  injection e with e1 e2 e3
  subst e1 e3
  exact ⟨g, c', e', hc, (hr g (by rw [e']; rfl)).2, hF.arr, hr⟩

theorem ownB_start (w : World) (n : Nat) : OwnB w n 0 (.slice (some ⟨w.heap.size, 0, none⟩) 0 0) (w.alloc (.cells #[] 3)) :=
  ⟨by simpa [cellsB, bl] using World.ownsRow_lit (base := w.heap.size) (e := 3) (size := 1) w #[] 0 (Nat.le_refl _) (by unfold maxLen; omega) rfl, (Below.refl _ w).alloc (Nat.le_refl _) _, by simp⟩

def BitsRel (n : Nat) (w : World) (m v : Value) (wr : World) : Prop :=
  ∃ j : Nat, OwnB w n j v wr ∧ m = .int .i64 ((n / 2 ^ j : Nat) : Int) ∧ (j = 0 ∨ 2 ^ (j - 1) ≤ n)

set_option maxRecDepth 100000 in
set_option maxHeartbeats 1000000 in
theorem bits_any (n : Nat) (w : World) (hn : n < 9223372036854775808) :
    Calls Try.prog 89 #[.int .i64 (n : Int)] w (RetB n w) := by
  obtain ⟨i0, hi, hz0, hz1, hz2⟩ := info_parts infoInt
  have HS : Hid (BitsRel n w (.int .i64 (n : Int)) (.slice (some ⟨w.heap.size, 0, none⟩) 0 0) (w.alloc (.cells #[] 3))) := Lib.hid ⟨0, ownB_start w n, by rw [Nat.pow_zero, Nat.div_one], .inl rfl⟩
  have HN := Lib.hid hn
  clear hn
  go_enter Try.func89, Try.ntmps89
  go_wp2
  go_loopw [0, 3] (fun m v wr => BitsRel n w m v wr) (fun m _ _ => (intOf m).toNat)
  case atStart => exact HS.out
  case round =>
    obtain ⟨j, hown, rfl, hj⟩ := hrel
    clear HS
    obtain ⟨g5, c5, rfl, hc5, hg5, hF5, hr5⟩ := hown.forms
    have hbs := hown.2.1.size
    have hj63 : j ≤ 63 := by
      rcases hj with hj | hj
      · omega
      · have h1 : 2 ^ (j - 1) < 2 ^ 63 := Nat.lt_of_le_of_lt hj HN.out
        have := (Nat.pow_lt_pow_iff_right (by decide : 1 < 2)).1 h1
        omega
    by_cases h0 : n / 2 ^ j = 0
    · have hT : Tight n j := ⟨by
        rcases Nat.div_eq_zero_iff.1 h0 with h | h
        · have := Nat.two_pow_pos j; omega
        · exact h, hj⟩
      have HT := Lib.hid hT
      have HB := Lib.hid hown.2.1
      have d1 : decide (0 < ((n / 2 ^ j : Nat) : Int)) = false := by rw [h0]; rfl
      have d2 : decide (0 < n / 2 ^ j) = false := by rw [h0]; rfl
      clear hT h0 hown hj
      generalize n / 2 ^ j = m at *
      go_wp2
      go_ret
      exact ⟨_, j, rfl, ⟨g5, c5, rfl, hc5, hg5, hF5⟩, HT.out, HB.out, .mk (hr5 g5 rfl).1⟩
    · have hle : 2 ^ j ≤ n := by
        rcases Nat.lt_or_ge n (2 ^ j) with h | h
        · exact absurd (Nat.div_eq_of_lt h) h0
        · exact h
      have HL := Lib.hid hle
      have hm : n / 2 ^ j < 9223372036854775808 := Nat.lt_of_le_of_lt (Nat.div_le_self _ _) HN.out
      have e1 : ((n / 2 ^ j : Nat) : Int) % 2 = (bt n j : Int) := by unfold bt; omega
      have e2 : ((n / 2 ^ j : Nat) : Int) / 2 = ((n / 2 ^ (j + 1) : Nat) : Int) := by
        have : n / 2 ^ (j + 1) = n / 2 ^ j / 2 := by rw [Nat.pow_succ, Nat.div_div_eq_div_mul]
        omega
      have e3 : n / 2 ^ (j + 1) < n / 2 ^ j := by
        rw [Nat.pow_succ, ← Nat.div_div_eq_div_mul]
        exact Nat.div_lt_self (Nat.pos_of_ne_zero h0) (by decide)
      have d1 : 0 < ((n / 2 ^ j : Nat) : Int) := by exact_mod_cast Nat.pos_of_ne_zero h0
      have H1 := Lib.hid hown.1
      have H2 := Lib.hid hown.2.1
      have hrow := hown.1
      have HC := Lib.hid (cellsB_succ n j)
      clear hle hj h0 hown
      generalize hm' : n / 2 ^ (j + 1) = m' at *
      have HM' := Lib.hid hm'
      clear hm'
      generalize n / 2 ^ j = m at *
      generalize bt n j = b at *
      have H3 := Lib.hid e3
      clear e3
      go_wp2_with (at_builtin; refine wpList_append_own _ rfl _ _ 116 rfl w.heap.size 3 i0 (.int .i64 0) 1 8 Try.underlying116 hi hz0 hz1 hz2 rfl (by decide) _ _ _ rfl (hrow.alloc _) ⟨wr.heap.size, 0, none⟩ 1 1 [.int .i64 (b : Int)] rfl rfl (cell_one_new _ _ _) (by simp [Value.oneCell']) (by unfold maxLen; omega) (by omega) (by simp; omega) ?_; intro v' w1 hown1 hgrow1 hnil; have HV : Hid (v' ≠ .slice none 0 0) := Lib.hid (fun h => absurd (hnil.1 h).2 (by decide)); clear hnil)
      go_wp2
      go_roundw
      case rel => exact ⟨j + 1, ⟨by rw [HC.out]; exact hown1, (H2.out.alloc hbs _).grown hgrow1 (by simp; omega) (fun g hg => (hr5 g hg).1), HV.out⟩, by rw [HM'.out], .inr (by simpa using HL.out)⟩
      case measure => have := H3.out; simp [intOf]; omega

end Fr
end Go.Proofs.Ytojkaaglmdfcnaa
