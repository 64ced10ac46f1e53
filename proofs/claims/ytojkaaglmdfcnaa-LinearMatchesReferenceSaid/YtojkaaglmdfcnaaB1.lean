/- The reference's lists of bits: one bit, the end trimmed, comparison. -/
import Derived.Test.YtojkaaglmdfcnaaB0
import Derived.Test.YtojkaaglmdfcnaaS1
import Derived.Test.YtojkaaglmdfcnaaRows
import Derived.WalkKit
import Derived.IntWalk
import Derived.WalkLawsBesides
namespace Go.Proofs.Ytojkaaglmdfcnaa
open Go.RowKit Sl
namespace Fr
set_option linter.unusedVariables false

/-- The cells of a list of bits. -/
def cellsB (n k : Nat) : List Value := (bl n k).map (Value.int .i64)
theorem cellsB_length (n k : Nat) : (cellsB n k).length = k := by simp [cellsB, bl_length]
theorem cellsB_succ (n k : Nat) : cellsB n (k + 1) = cellsB n k ++ [.int .i64 (bt n k : Int)] := by simp [cellsB, bl_succ]
theorem cellsB_get {n k j : Nat} (h : j < k) : (cellsB n k)[j]? = some (.int .i64 (bt n j : Int)) := by simp [cellsB, bl_get h]

/-- A slice's first k cells are the bits of n. -/
def IsB (w : World) (A : Option Addr) (n k : Nat) : Prop := Arr w A (cellsB n k)
theorem IsB.keep {w w' : World} {A : Option Addr} {n k : Nat} (h : IsB w A n k) (hb : Below w.heap.size w w') : IsB w' A n k := Arr.keep h hb
theorem IsB.cell {w : World} {A : Option Addr} {n k j : Nat} (h : IsB w A n k) (hj : j < k) : ∃ b o, A = some ⟨b, o, none⟩ ∧ b < w.heap.size ∧ w.cell? ⟨b, o + j, none⟩ = some (.int .i64 (bt n j : Int)) := by
  obtain ⟨b, o, e, hlt, hc⟩ := h (by intro e; have := cellsB_length n k; rw [e] at this; simp at this; omega)
  exact ⟨b, o, e, hlt, hc j _ (cellsB_get hj)⟩
theorem IsB.short {w : World} {A : Option Addr} {n k m : Nat} (h : IsB w A n k) (hm : m ≤ k) : IsB w A n m := fun hne => by
  have hm0 : m ≠ 0 := by intro e; subst e; exact hne (by simp [cellsB, bl])
  obtain ⟨b, o, e, hlt, hc⟩ := h (by intro e; have := cellsB_length n k; rw [e] at this; simp at this; omega)
  refine ⟨b, o, e, hlt, fun j u hu => hc j u ?_⟩
  have hj : j < m := by have := (List.getElem?_eq_some_iff.1 hu).1; rw [cellsB_length] at this; exact this
  rw [cellsB_get hj] at hu
  rw [cellsB_get (by omega), hu]

theorem at_in (A : Option Addr) (n k c i : Nat) (w : World) (hA : IsB w A n k) (hk : k ≤ 1000) (hi : i < k) :
    Calls Try.prog 109 #[.slice A k c, .int .i64 (i : Int)] w fun e w' => e = .returned (.int .i64 (bt n i : Int)) ∧ w = w' := by
  obtain ⟨b, o, rfl, hb, hc⟩ := hA.cell hi
  have h1 : decide ((i : Int) < (k : Int)) = true := by simp; omega
  clear hA
  generalize bt n i = x at *
  go_enter Try.func109, Try.ntmps109
  go_wp2
  go_ret
  exact ⟨rfl, rfl⟩
theorem at_out (A : Option Addr) (k c i : Nat) (w : World) (hk : k ≤ 1000) (hi : k ≤ i) :
    Calls Try.prog 109 #[.slice A k c, .int .i64 (i : Int)] w fun e w' => e = .returned (.int .i64 0) ∧ w = w' := by
  have h1 : decide ((i : Int) < (k : Int)) = false := by simp; omega
  have h2 : decide (i < k) = false := by simp; omega
  go_enter Try.func109, Try.ntmps109
  go_wp2
  go_ret
  exact ⟨rfl, rfl⟩
theorem at_any (A : Option Addr) (n k c i : Nat) (w : World) (hA : IsB w A n k) (hn : n < 2 ^ k) (hk : k ≤ 1000) :
    Calls Try.prog 109 #[.slice A k c, .int .i64 (i : Int)] w fun e w' => e = .returned (.int .i64 (bt n i : Int)) ∧ w = w' := by
  rcases Nat.lt_or_ge i k with h | h
  · exact at_in A n k c i w hA hk h
  · rw [bt_high (Nat.lt_of_lt_of_le hn (Nat.pow_le_pow_right (by decide) h))]
    exact at_out A k c i w hk h

theorem ret_intB {k : IntKind} {a b : Int} (h : a = b) : Ending.returned (.int k a) = .returned (.int k b) := by rw [h]

/-- What trim hands back: the same cells, as many as are wanted. -/
def Trimmed (w : World) (A : Option Addr) (n c : Nat) (e : Ending) (w' : World) : Prop := ∃ k, Tight n k ∧ k ≤ c ∧ e = .returned (.slice A k c) ∧ w = w'
set_option maxHeartbeats 1000000 in
theorem trim_any (A : Option Addr) (n k c : Nat) (w : World) (hA : IsB w A n k) (hn : n < 2 ^ k) (hk : k ≤ 1000) (hc : k ≤ c) :
    Calls Try.prog 105 #[.slice A k c] w (Trimmed w A n c) := by
  have HA := Lib.hid hA
  clear hA
  go_enter Try.func105, Try.ntmps105
  go_wp2
  go_loop [3] (fun m => ∃ j : Nat, j ≤ k ∧ Hid (n < 2 ^ j) ∧ m = .int .i64 (j : Int)) (fun m => (intOf m).toNat)
  case atStart => exact ⟨k, Nat.le_refl _, Lib.hid hn, rfl⟩
  case round =>
    obtain ⟨j, hj, hnj, rfl⟩ := hrel
    by_cases h0 : j = 0
    · have HZ := Lib.hid h0
      have h1 : decide (0 < (j : Int)) = false := by simp; omega
      have h2 : decide (0 < j) = false := by simp; omega
      clear h0
      go_wp2
      go_ret
      exact ⟨j, ⟨hnj.out, .inl HZ.out⟩, by omega, rfl, rfl⟩
    · obtain ⟨i, rfl⟩ : ∃ i, j = i + 1 := ⟨j - 1, by omega⟩
      obtain ⟨b, o, hAe, hb, hcell⟩ := HA.out.cell (j := i) (by omega)
      have ec : ((i + 1 : Nat) : Int) = (i : Int) + 1 := by omega
      have hs : (i : Int) + 1 - 1 = (i : Int) := by omega
      rw [ec]
      by_cases hz : bt n i = 0
      · have hd := Lib.hid (tight_drop hnj.out hz)
        rw [hz] at hcell
        subst hAe
        clear hz
        go_wp2
        go_round
        case rel => exact ⟨i, by omega, hd, rfl⟩
        case measure => simp [intOf]
      · have hd := Lib.hid (tight_stop hnj.out hz)
        have h3 : ((bt n i : Int) == 0) = false := by simp; omega
        subst hAe
        clear hz
        generalize bt n i = x at *
        go_wp2
        go_ret
        exact ⟨i + 1, hd.out, by omega, rfl, rfl⟩

/-- Comparison: -1, 0 or 1. -/
theorem compare_any (A B : Option Addr) (x y k l c d : Nat) (w : World) (hA : IsB w A x k) (hB : IsB w B y l) (hx : x < 2 ^ k) (hy : y < 2 ^ l) (hk : k ≤ 1000) (hl : l ≤ 1000) :
    Calls Try.prog 102 #[.slice A k c, .slice B l d] w fun e w' => e = .returned (.int .i64 (cmpN x y)) ∧ w = w' := by
  have HX := Lib.hid (fun i => at_any A x k c i w hA hx hk)
  have HY := Lib.hid (fun i => at_any B y l d i w hB hy hl)
  have HM : Hid (∀ m, k ≤ m → l ≤ m → x / 2 ^ m = y / 2 ^ m) := Lib.hid (fun m h1 h2 => by
    rw [top_zero (Nat.lt_of_lt_of_le hx (Nat.pow_le_pow_right (by decide) h1)), top_zero (Nat.lt_of_lt_of_le hy (Nat.pow_le_pow_right (by decide) h2))])
  clear hA hB hx hy
  have HC := Lib.hid (fun i (h1 : x / 2 ^ (i + 1) = y / 2 ^ (i + 1)) h2 => cmp_less (x := x) (y := y) (i := i) h1 h2)
  have HS := Lib.hid (fun i (h1 : x / 2 ^ (i + 1) = y / 2 ^ (i + 1)) h2 => cmp_same (x := x) (y := y) (i := i) h1 h2)
  rcases Nat.lt_or_ge k l with h | h
  all_goals
    go_enter Try.func102, Try.ntmps102
    go_wp2_with fail
    go_loop [5] (fun i => ∃ j : Nat, j ≤ 1000 ∧ Hid (x / 2 ^ j = y / 2 ^ j) ∧ i = .int .i64 ((j : Int) - 1)) (fun i => (intOf i + 1).toNat)
    case atStart => first | exact ⟨l, by omega, Lib.hid (HM.out l (by omega) (by omega)), rfl⟩ | exact ⟨k, by omega, Lib.hid (HM.out k (by omega) (by omega)), rfl⟩
    case round =>
      obtain ⟨j, hj, he, rfl⟩ := hrel
      by_cases h0 : j = 0
      · have hz : x = y := by have := he.out; rw [h0, Nat.pow_zero, Nat.div_one, Nat.div_one] at this; exact this
        have HZ : Hid (cmpN x y = 0) := Lib.hid (by rw [hz]; exact cmp_equal y)
        have d1 : decide (0 ≤ (j : Int) - 1) = false := by simp; omega
        have d2 : decide (1 ≤ (j : Int)) = false := by simp; omega
        clear hz h0 he
        go_wp2_with fail
        go_ret
        exact ⟨ret_intB HZ.out.symm, rfl⟩
      · obtain ⟨i, rfl⟩ : ∃ i, j = i + 1 := ⟨j - 1, by omega⟩
        have ec : ((i + 1 : Nat) : Int) - 1 = (i : Int) := by omega
        rw [ec]
        have b1 := bt_lt x i
        have b2 := bt_lt y i
        have HX1 := Lib.hid (HX.out i)
        have HY1 := Lib.hid (HY.out i)
        by_cases hb : bt x i = bt y i
        · have hs := Lib.hid (HS.out i he.out hb)
          have n1 : ((bt x i : Int) == (bt y i : Int)) = true := by rw [hb]; simp
          have n2 : ((bt x i : Int) != (bt y i : Int)) = false := by rw [hb]; simp
          clear hb he h0 HM
          generalize bt x i = p at *
          generalize bt y i = q at *
          go_wp2_with fail
          refine HX1.out.mono ?_
          rintro e w' ⟨rfl, rfl⟩
          go_wp2_with fail
          refine HY1.out.mono ?_
          rintro e w' ⟨rfl, rfl⟩
          go_wp2_with fail
          go_round
          case rel => exact ⟨i, by omega, hs, rfl⟩
          case measure => simp [intOf]
        · have hs := Lib.hid (HC.out i he.out hb)
          have n1 : ((bt x i : Int) == (bt y i : Int)) = false := by simp; omega
          have n2 : ((bt x i : Int) != (bt y i : Int)) = true := by simp; omega
          clear hb he h0 HM
          generalize bt x i = p at *
          generalize bt y i = q at *
          go_wp2_with fail
          refine HX1.out.mono ?_
          rintro e w' ⟨rfl, rfl⟩
          go_wp2_with fail
          refine HY1.out.mono ?_
          rintro e w' ⟨rfl, rfl⟩
          go_wp2_with fail
          refine HX1.out.mono ?_
          rintro e w' ⟨rfl, rfl⟩
          go_wp2_with fail
          refine HY1.out.mono ?_
          rintro e w' ⟨rfl, rfl⟩
          go_wp2_with fail
          go_ret
          exact ⟨ret_intB hs.out, rfl⟩

end Fr
end Go.Proofs.Ytojkaaglmdfcnaa
