/- The reference's lists of bits: sums and differences. -/
import Derived.Test.YtojkaaglmdfcnaaB2
namespace Go.Proofs.Ytojkaaglmdfcnaa
open Go.RowKit Sl
namespace Fr
set_option linter.unusedVariables false

/-- What trim does to a row of the call's own. -/
theorem retB_of {n k c g : Nat} {w wr : World} {e : Ending} {w' : World} (hB : IsB wr (some ⟨g, 0, none⟩) n k) (hg : g < wr.heap.size) (hb : Below w.heap.size w wr) (hk : n < 2 ^ k) (hgw : w.heap.size ≤ g) (h : Trimmed wr (some ⟨g, 0, none⟩) n c e w') : RetB n w e w' := by
  obtain ⟨j, hT, hj, rfl, rfl⟩ := h
  exact ⟨_, j, rfl, ⟨g, c, rfl, hj, hg, hB.short (hT.le hk)⟩, hT, hb, .mk hgw⟩

def PlusRel (x y k l : Nat) (w : World) (v cr i : Value) (wr : World) : Prop :=
  ∃ j : Nat, OwnB w (x + y) j v wr ∧ cr = .int .i64 (carry x y j : Int) ∧ i = .int .i64 (j : Int) ∧ (j ≤ k + 1 ∨ j ≤ l + 1)

set_option maxRecDepth 100000 in
set_option maxHeartbeats 2000000 in
theorem plus_bits (A B : Option Addr) (x y k l c d : Nat) (w : World) (hA : IsB w A x k) (hB : IsB w B y l) (hx : x < 2 ^ k) (hy : y < 2 ^ l) (hk : k ≤ 500) (hl : l ≤ 500) :
    Calls Try.prog 101 #[.slice A k c, .slice B l d] w (RetB (x + y) w) := by
  obtain ⟨i0, hi, hz0, hz1, hz2⟩ := info_parts infoInt
  have HS : Hid (PlusRel x y k l w (.slice (some ⟨w.heap.size, 0, none⟩) 0 0) (.int .i64 0) (.int .i64 0) (w.alloc (.cells #[] 3))) := Lib.hid ⟨0, ownB_start w _, by rw [carry_zero]; rfl, rfl, .inl (by omega)⟩
  have HX := Lib.hid (fun i W (h : Below w.heap.size w W) => at_any A x k c i W (hA.keep h) hx (by omega))
  have HY := Lib.hid (fun i W (h : Below w.heap.size w W) => at_any B y l d i W (hB.keep h) hy (by omega))
  have HP := Lib.hid (fun j (h1 : k < j) (h2 : l < j) => show x + y < 2 ^ j by
    have := plus_lt (m := j - 1) hx hy (by omega) (by omega)
    rwa [show j - 1 + 1 = j by omega] at this)
  clear hA hB hx hy
  go_enter Try.func101, Try.ntmps101
  go_wp2
  go_loopw [5, 6, 7] (fun v cr i wr => PlusRel x y k l w v cr i wr) (fun _ _ i _ => (501 - intOf i).toNat)
  case atStart => exact HS.out
  case round =>
    obtain ⟨j, hown, rfl, rfl, hj⟩ := hrel
    clear HS
    obtain ⟨g5, c5, rfl, hc5, hg5, hF5, hr5⟩ := hown.forms
    have hbs := hown.2.1.size
    have H2 := Lib.hid hown.2.1
    have hrow := hown.1
    by_cases hlt : k < j ∧ l < j
    · have HT := Lib.hid (trim_any (some ⟨g5, 0, none⟩) (x + y) j c5 wr hF5 (HP.out j hlt.1 hlt.2) (by omega) hc5)
      have HL := Lib.hid (HP.out j hlt.1 hlt.2)
      have d1 : decide (j ≤ k) = false := by simp; omega
      have d2 : decide (j ≤ l) = false := by simp; omega
      clear hlt hown hrow hj
      generalize carry x y j = cc at *
      go_wp2_with fail
      refine HT.out.mono ?_
      intro e w' h
      have HR := Lib.hid (retB_of hF5 hg5 H2.out HL.out (hr5 g5 rfl).1 h)
      obtain ⟨q, _, _, rfl, rfl⟩ := h
      go_wp2_with fail
      go_ret
      exact HR.out
    · have hstep := plus_step x y j
      have b1 := bt_lt x j
      have b2 := bt_lt y j
      have b3 := bt_lt (x + y) j
      have b4 := carry_lt x y j
      have b5 := carry_lt x y (j + 1)
      have hj2 : j ≤ 500 := by omega
      have HX1 := Lib.hid (HX.out j wr H2.out)
      have HY1 := Lib.hid (HY.out j wr H2.out)
      have HC := Lib.hid (cellsB_succ (x + y) j)
      have hj1 : j + 1 ≤ k + 1 ∨ j + 1 ≤ l + 1 := by omega
      have HJ := Lib.hid hj1
      have ways : (decide (j ≤ k) = true) ∨ (decide (j ≤ k) = false ∧ decide (j ≤ l) = true) := by simp; omega
      clear hlt hown hj hj1
      generalize bt x j = bx at *
      generalize bt y j = bY at *
      generalize bt (x + y) j = b at *
      generalize carry x y j = cc at *
      generalize hcn : carry x y (j + 1) = cn at *
      have HCN := Lib.hid hcn
      clear hcn
      have e1 : ((bx : Int) + (bY : Int) + (cc : Int)) % 2 = (b : Int) := by omega
      have e2 : ((bx : Int) + (bY : Int) + (cc : Int)) / 2 = (cn : Int) := by omega
      clear hstep
      rcases ways with d1 | ⟨d1, d2⟩
      all_goals
        go_wp2_with fail
        refine HX1.out.mono ?_
        rintro e w' ⟨rfl, rfl⟩
        go_wp2_with fail
        refine HY1.out.mono ?_
        rintro e w' ⟨rfl, rfl⟩
        go_wp2_with (at_builtin; refine wpList_append_own _ rfl _ _ 116 rfl w.heap.size 3 i0 (.int .i64 0) 1 8 Try.underlying116 hi hz0 hz1 hz2 rfl (by decide) _ _ _ rfl (hrow.alloc _) ⟨wr.heap.size, 0, none⟩ 1 1 [.int .i64 (b : Int)] rfl rfl (cell_one_new _ _ _) (by simp [Value.oneCell']) (by unfold maxLen; omega) (by omega) (by simp; omega) ?_; intro v' w1 hown1 hgrow1 hnil; have HV : Hid (v' ≠ .slice none 0 0) := Lib.hid (fun h => absurd (hnil.1 h).2 (by decide)); clear hnil)
        go_wp2
        go_roundw
        case rel => exact ⟨j + 1, ⟨by rw [HC.out]; exact hown1, (H2.out.alloc hbs _).grown hgrow1 (by simp; omega) (fun g hg => (hr5 g hg).1), HV.out⟩, by rw [HCN.out, e2], by go_num, HJ.out⟩
        case measure => simp [intOf]; omega

def MinusRel (x y k : Nat) (w : World) (v cr i : Value) (wr : World) : Prop :=
  ∃ j : Nat, OwnB w (x - y) j v wr ∧ cr = .int .i64 (borrow x y j : Int) ∧ i = .int .i64 (j : Int) ∧ j ≤ k

set_option maxRecDepth 100000 in
set_option maxHeartbeats 2000000 in
theorem minus_bits (A B : Option Addr) (x y k l c d : Nat) (w : World) (hA : IsB w A x k) (hB : IsB w B y l) (hx : x < 2 ^ k) (hy : y < 2 ^ l) (hk : k ≤ 500) (hl : l ≤ 500) (hxy : y ≤ x) :
    Calls Try.prog 103 #[.slice A k c, .slice B l d] w (RetB (x - y) w) := by
  obtain ⟨i0, hi, hz0, hz1, hz2⟩ := info_parts infoInt
  have HS : Hid (MinusRel x y k w (.slice (some ⟨w.heap.size, 0, none⟩) 0 0) (.int .i64 0) (.int .i64 0) (w.alloc (.cells #[] 3))) := Lib.hid ⟨0, ownB_start w _, by rw [borrow_zero]; rfl, rfl, by omega⟩
  have HX := Lib.hid (fun i W (h : Below w.heap.size w W) => at_any A x k c i W (hA.keep h) hx (by omega))
  have HY := Lib.hid (fun i W (h : Below w.heap.size w W) => at_any B y l d i W (hB.keep h) hy (by omega))
  have HP : Hid (x - y < 2 ^ k) := Lib.hid (by omega)
  have HM := Lib.hid (minus_step hxy)
  clear hA hB hx hy hxy
  go_enter Try.func103, Try.ntmps103
  go_wp2
  go_loopw [5, 6, 7] (fun v cr i wr => MinusRel x y k w v cr i wr) (fun _ _ i _ => (501 - intOf i).toNat)
  case atStart => exact HS.out
  case round =>
    obtain ⟨j, hown, rfl, rfl, hj⟩ := hrel
    clear HS
    obtain ⟨g5, c5, rfl, hc5, hg5, hF5, hr5⟩ := hown.forms
    have hbs := hown.2.1.size
    have H2 := Lib.hid hown.2.1
    have hrow := hown.1
    by_cases hlt : j < k
    · have hstep := HM.out j
      have b1 := bt_lt x j
      have b2 := bt_lt y j
      have b3 := bt_lt (x - y) j
      have b4 := borrow_lt x y j
      have b5 := borrow_lt x y (j + 1)
      have hj2 : j < 500 := by omega
      have HX1 := Lib.hid (HX.out j wr H2.out)
      have HY1 := Lib.hid (HY.out j wr H2.out)
      have HC := Lib.hid (cellsB_succ (x - y) j)
      have HJ : Hid (j + 1 ≤ k) := Lib.hid hlt
      have d1 : decide (j < k) = true := by simp; omega
      clear hlt hown hj
      generalize bt x j = bx at *
      generalize bt y j = bY at *
      generalize bt (x - y) j = b at *
      generalize borrow x y j = cc at *
      generalize hcn : borrow x y (j + 1) = cn at *
      have HCN := Lib.hid hcn
      clear hcn
      rcases (by omega : cn = 0 ∨ cn = 1) with rfl | rfl
      · have e1 : (bx : Int) - (bY : Int) - (cc : Int) = (b : Int) := by omega
        have d2 : decide ((b : Int) < 0) = false := by simp
        have HE := Lib.hid e1
        clear hstep e1
        have e1 := HE.out
        go_wp2_with fail
        refine HX1.out.mono ?_
        rintro e w' ⟨rfl, rfl⟩
        go_wp2_with fail
        refine HY1.out.mono ?_
        rintro e w' ⟨rfl, rfl⟩
        go_wp2_with (at_builtin; refine wpList_append_own _ rfl _ _ 116 rfl w.heap.size 3 i0 (.int .i64 0) 1 8 Try.underlying116 hi hz0 hz1 hz2 rfl (by decide) _ _ _ rfl (hrow.alloc _) ⟨wr.heap.size, 0, none⟩ 1 1 [.int .i64 (b : Int)] rfl rfl (cell_one_new _ _ _) (by simp [Value.oneCell']) (by unfold maxLen; omega) (by omega) (by simp; omega) ?_; intro v' w1 hown1 hgrow1 hnil; have HV : Hid (v' ≠ .slice none 0 0) := Lib.hid (fun h => absurd (hnil.1 h).2 (by decide)); clear hnil)
        go_roundw
        case rel => exact ⟨j + 1, ⟨by rw [HC.out]; exact hown1, (H2.out.alloc hbs _).grown hgrow1 (by simp; omega) (fun g hg => (hr5 g hg).1), HV.out⟩, by rw [HCN.out]; rfl, by go_num, HJ.out⟩
        case measure => simp [intOf]; omega
      · have e1 : (bx : Int) - (bY : Int) - (cc : Int) = (b : Int) - 2 := by omega
        have e3 : (b : Int) - 2 + 2 = (b : Int) := by omega
        have d2 : (b : Int) - 2 < 0 := by omega
        have HE := Lib.hid e1
        clear hstep e1
        have e1 := HE.out
        go_wp2_with fail
        refine HX1.out.mono ?_
        rintro e w' ⟨rfl, rfl⟩
        go_wp2_with fail
        refine HY1.out.mono ?_
        rintro e w' ⟨rfl, rfl⟩
        go_wp2_with (at_builtin; refine wpList_append_own _ rfl _ _ 116 rfl w.heap.size 3 i0 (.int .i64 0) 1 8 Try.underlying116 hi hz0 hz1 hz2 rfl (by decide) _ _ _ rfl (hrow.alloc _) ⟨wr.heap.size, 0, none⟩ 1 1 [.int .i64 (b : Int)] rfl rfl (cell_one_new _ _ _) (by simp [Value.oneCell']) (by unfold maxLen; omega) (by omega) (by simp; omega) ?_; intro v' w1 hown1 hgrow1 hnil; have HV : Hid (v' ≠ .slice none 0 0) := Lib.hid (fun h => absurd (hnil.1 h).2 (by decide)); clear hnil)
        go_roundw
        case rel => exact ⟨j + 1, ⟨by rw [HC.out]; exact hown1, (H2.out.alloc hbs _).grown hgrow1 (by simp; omega) (fun g hg => (hr5 g hg).1), HV.out⟩, by rw [HCN.out]; rfl, by go_num, HJ.out⟩
        case measure => simp [intOf]; omega
    · obtain rfl : j = k := by omega
      have HT := Lib.hid (trim_any (some ⟨g5, 0, none⟩) (x - y) j c5 wr hF5 HP.out (by omega) hc5)
      have d1 : decide (j < j) = false := by simp
      clear hlt hown hrow hj
      generalize borrow x y j = cc at *
      go_wp2_with fail
      refine HT.out.mono ?_
      intro e w' h
      have HR := Lib.hid (retB_of hF5 hg5 H2.out HP.out (hr5 g5 rfl).1 h)
      obtain ⟨q, _, _, rfl, rfl⟩ := h
      go_wp2_with fail
      go_ret
      exact HR.out

end Fr
end Go.Proofs.Ytojkaaglmdfcnaa
