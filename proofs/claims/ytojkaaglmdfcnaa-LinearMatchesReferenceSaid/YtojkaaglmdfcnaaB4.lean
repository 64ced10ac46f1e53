/- The reference's lists of bits: products. -/
import Derived.Test.YtojkaaglmdfcnaaB3
namespace Go.Proofs.Ytojkaaglmdfcnaa
open Go.RowKit Sl
namespace Fr
set_option linter.unusedVariables false

theorem IsB.news {w : World} {g n k : Nat} (h : IsB w (some ⟨g, 0, none⟩) n k) : ∀ j u, (cellsB n k)[j]? = some u → w.cell? ((⟨g, 0, none⟩ : Addr).add j) = some u := fun j u hu => by
  obtain ⟨b, o, e, hlt, hc⟩ := h (by intro e; rw [e] at hu; simp at hu)
  simp only [Option.some.injEq, Addr.mk.injEq] at e
  obtain ⟨rfl, rfl, _⟩ := e
  have e0 : (⟨g, 0, none⟩ : Addr).add j = ⟨g, 0 + j, none⟩ := by
    rcases Nat.eq_zero_or_pos j with hj | hj
    · subst hj; rfl
    · simp [Addr.add, Nat.ne_of_gt hj]
  rw [e0]
  exact hc j u hu
theorem cellsB_one (n k : Nat) : ∀ u ∈ cellsB n k, u.oneCell' = true := by
  intro u hu
  obtain ⟨x, _, rfl⟩ := List.mem_map.1 hu
  rfl
theorem cellsB_double (n k : Nat) : [Value.int .i64 0] ++ cellsB n k = cellsB (2 * n) (k + 1) := by simp [cellsB, bl_double]
theorem lit_nil (w : World) : (w.alloc (.cells #[] 3)).ownsRow w.heap.size 3 1 (.slice (some ⟨w.heap.size, 0, none⟩) 0 0) 0 [] := by
  simpa using World.ownsRow_lit (base := w.heap.size) (e := 3) (size := 1) w #[] 0 (Nat.le_refl _) (by unfold maxLen; omega) rfl
theorem lit_zero (w : World) : (w.alloc (.cells #[.int .i64 0] 3)).ownsRow w.heap.size 3 1 (.slice (some ⟨w.heap.size, 0, none⟩) 1 1) 1 [.int .i64 0] := by
  simpa using World.ownsRow_lit (base := w.heap.size) (e := 3) (size := 1) w #[.int .i64 0] 1 (Nat.le_refl _) (by unfold maxLen; omega) rfl

/-- A row that was appended to, as a list of bits. -/
theorem hasB_row {w : World} {base n k : Nat} {v : Value} (h : w.ownsRow base 3 1 v k (cellsB n k)) (hv : v ≠ .slice none 0 0) : HasB w v n k := by
  obtain ⟨g, c', e'⟩ := row_some h hv
  obtain ⟨A, c, e, hc, _, hF, hr⟩ := row_forms h
  rw [e'] at e
  injection e with e1 e2 e3
  subst e1 e3
  exact ⟨g, c', e', hc, (hr g (by rw [e']; rfl)).2, hF.arr⟩

theorem lit_not {B k c : Nat} (h : Value.slice (some ⟨B, 0, none⟩) k c = Value.slice none 0 0) : False := by cases h
theorem own_lit {B k c g : Nat} (h : (Value.slice (some ⟨B, 0, none⟩) k c).ownBlock = some g) : B ≤ g := by
  have : B = g := by simpa [Value.ownBlock] using h
  omega

def TimesRel (x y k l : Nat) (w : World) (v s i : Value) (wr : World) : Prop :=
  ∃ j k1 : Nat, HasB wr v (x * (y % 2 ^ j)) k1 ∧ Tight (x * (y % 2 ^ j)) k1 ∧ HasB wr s (x * 2 ^ j) (k + j) ∧ i = .int .i64 (j : Int) ∧ j ≤ l ∧ Below w.heap.size w wr ∧ NewB w.heap.size v

theorem times_lt {x y k l j : Nat} (hx : x < 2 ^ k) (hj : j ≤ l) : x * (y % 2 ^ j) < 2 ^ (k + l) := by
  have h1 : y % 2 ^ j < 2 ^ j := Nat.mod_lt _ (Nat.two_pow_pos j)
  have h2 : 2 ^ j ≤ 2 ^ l := Nat.pow_le_pow_right (by decide) hj
  rw [Nat.pow_add]
  exact Nat.mul_lt_mul'' hx (by omega)
theorem shifted_lt {x k j : Nat} (hx : x < 2 ^ k) : x * 2 ^ j < 2 ^ (k + j) := by
  rw [Nat.pow_add]
  exact Nat.mul_lt_mul_of_pos_right hx (Nat.two_pow_pos j)

set_option maxRecDepth 100000 in
set_option maxHeartbeats 2000000 in
theorem times_bits (g x y k l c d : Nat) (B : Option Addr) (w : World) (hA : IsB w (some ⟨g, 0, none⟩) x k) (hB : IsB w B y l) (hx : x < 2 ^ k) (hy : y < 2 ^ l) (hk : k ≤ 100) (hl : l ≤ 100) :
    Calls Try.prog 88 #[.slice (some ⟨g, 0, none⟩) k c, .slice B l d] w (RetB (x * y) w) := by
  obtain ⟨i0, hi, hz0, hz1, hz2⟩ := info_parts infoInt
  have W1 := (Below.refl _ w).alloc (Nat.le_refl _) (.cells #[] 3)
  have W2 := W1.alloc W1.size (.cells #[] 3)
  have hnews := ((hA.keep W1).keep ((Below.refl _ (w.alloc (.cells #[] 3))).alloc (Nat.le_refl _) (.cells #[] 3))).news
  have hrow := lit_nil (w.alloc (.cells #[] 3))
  rw [show (w.alloc (.cells #[] 3)).heap.size = w.heap.size + 1 by simp] at hrow
  have H0 := Lib.hid (hasB_row (n := x * (y % 2 ^ 0)) (k := 0) (by simpa [cellsB, bl] using lit_nil w) (by simp))
  have HB := Lib.hid hB
  have HX := Lib.hid hx
  have HY := Lib.hid hy
  have HW2 := Lib.hid W2
  have HW1 := Lib.hid W1
  clear hA hB hx hy W1 W2
  go_enter Try.func88, Try.ntmps88
  go_wp2_with (at_builtin; refine wpList_append_own _ rfl _ _ 116 rfl (w.heap.size + 1) 3 i0 (.int .i64 0) 1 8 Try.underlying116 hi hz0 hz1 hz2 rfl (by decide) _ _ _ rfl hrow ⟨g, 0, none⟩ k c (cellsB x k) rfl (by rw [cellsB_length, Nat.mul_one]) hnews (cellsB_one x k) (by unfold maxLen; omega) (by omega) (by simp) ?_; intro v' w1 hown1 hgrow1 hnil)
  rw [List.nil_append, Nat.zero_add] at hown1
  have hv1 : v' ≠ .slice none 0 0 := fun h => lit_not (hnil.1 h).1
  have hb1 : Below (w.heap.size + 1) (w.alloc (.cells #[] 3)) w1 := ((by simpa using (Below.refl _ (w.alloc (.cells #[] 3))) : Below (w.heap.size + 1) (w.alloc (.cells #[] 3)) (w.alloc (.cells #[] 3))).alloc (by simp) (.cells #[] 3)).grown hgrow1 (by simp) (fun g' hg' => own_lit hg')
  have HR : Hid (TimesRel x y k l w (.slice (some ⟨w.heap.size, 0, none⟩) 0 0) v' (.int .i64 0) w1) := Lib.hid ⟨0, 0, H0.out.keep (by simpa using hb1), by rw [Nat.pow_zero, Nat.mod_one, Nat.mul_zero]; exact tight_zero, by rw [Nat.pow_zero, Nat.mul_one]; exact hasB_row hown1 hv1, rfl, by omega, HW1.out.trans (hb1.mono (by omega)), .mk (Nat.le_refl _)⟩
  clear hown1 hgrow1 hnil hv1 hb1 hnews hrow H0 HW1 HW2
  go_wp2
  go_loopw [5, 6, 7] (fun v s i wr => TimesRel x y k l w v s i wr) (fun _ _ i _ => (101 - intOf i).toNat)
  case atStart => exact HR.out
  case round =>
    obtain ⟨j, k1, ⟨g1, c1, rfl, hc1, hg1, hI1⟩, hT1, ⟨g2, c2, rfl, hc2, hg2, hI2⟩, rfl, hj, hbl, hnew⟩ := hrel
    have HNW := Lib.hid hnew
    clear hnew
    have HJ := Lib.hid hj
    have HBL := Lib.hid hbl
    have HT1 := Lib.hid hT1
    by_cases hlt : j < l
    · obtain ⟨b, o, rfl, hbb, hcell⟩ := (HB.out.keep hbl).cell hlt
      have hbt := bt_lt y j
      have htb := times_bit x y j
      have d1 : decide (j < l) = true := by simp; omega
      have HK1 := Lib.hid (hT1.le (times_lt HX.out hj))
      have HI1 := Lib.hid hI1
      have HI2 := Lib.hid hI2
      have hsh := shifted_lt (j := j) HX.out
      have hshift : 2 * (x * 2 ^ j) = x * 2 ^ (j + 1) := by rw [Nat.pow_succ]; rw [Nat.mul_comm (2 ^ j) 2, Nat.mul_left_comm]
      have HSH := Lib.hid hshift
      have HPL := Lib.hid (fun W (hW : Below wr.heap.size wr W) => plus_bits (some ⟨g1, 0, none⟩) (some ⟨g2, 0, none⟩) _ _ k1 (k + j) c1 c2 W (hI1.keep hW) (hI2.keep hW) hT1.1 hsh (by have := HK1.out; omega) (by omega))
      clear hj hT1 hI1 hI2 hsh hshift hbl
      generalize bt y j = p at *
      rcases (by omega : p = 0 ∨ p = 1) with hp | hp
      · rw [hp, Nat.zero_mul, Nat.add_zero] at htb
        rw [hp] at hcell
        have hcell0 : wr.cell? ⟨b, o + j, none⟩ = some (.int .i64 0) := hcell
        have HTB := Lib.hid htb
        clear htb hp hcell hbt
        have hnews := (HI2.out.keep ((Below.refl _ wr).alloc (Nat.le_refl _) (.cells #[.int .i64 0] 3))).news
        have hrow := lit_zero wr
        go_wp2_with (at_builtin; refine wpList_append_own _ rfl _ _ 116 rfl wr.heap.size 3 i0 (.int .i64 0) 1 8 Try.underlying116 hi hz0 hz1 hz2 rfl (by decide) _ _ _ rfl hrow ⟨g2, 0, none⟩ (k + j) c2 (cellsB (x * 2 ^ j) (k + j)) rfl (by rw [cellsB_length, Nat.mul_one]) hnews (cellsB_one _ _) (by unfold maxLen; omega) (by omega) (by simp) ?_; intro v' w1 hown1 hgrow1 hnil)
        rw [cellsB_double, HSH.out, Nat.add_comm 1] at hown1
        have hv1 : v' ≠ .slice none 0 0 := fun h => lit_not (hnil.1 h).1
        have hb1 : Below wr.heap.size wr w1 := ((Below.refl _ wr).alloc (Nat.le_refl _) (.cells #[.int .i64 0] 3)).grown hgrow1 (by simp) (fun g' hg' => own_lit hg')
        have HH := Lib.hid (hasB_row hown1 hv1)
        have HB1 := Lib.hid hb1
        clear hown1 hgrow1 hnil hv1 hb1 hnews hrow
        go_roundw
        case rel => exact ⟨j + 1, k1, by rw [HTB.out]; exact HasB.keep ⟨g1, c1, rfl, hc1, hg1, HI1.out⟩ HB1.out, by rw [HTB.out]; exact HT1.out, HH.out, by go_num, by omega, HBL.out.trans (HB1.out.mono HBL.out.size), HNW.out⟩
        case measure => simp [intOf]; omega
      · rw [hp, Nat.one_mul] at htb
        rw [hp] at hcell
        have hcell0 : wr.cell? ⟨b, o + j, none⟩ = some (.int .i64 1) := hcell
        have HTB := Lib.hid htb
        clear htb hp hcell hbt
        go_wp2_with fail
        refine (HPL.out _ (Below.refl _ _)).mono ?_
        rintro e W2 ⟨v2, k2, rfl, ⟨g3, c3, rfl, hc3, hg3, hI3⟩, hT3, hb2, hn2⟩
        have HN2 := Lib.hid (hn2.mono HBL.out.size)
        clear hn2
        have HI3 := Lib.hid hI3
        have HT3 := Lib.hid hT3
        have HB2 := Lib.hid hb2
        have hnews := ((HI2.out.keep hb2).keep ((Below.refl _ W2).alloc (Nat.le_refl _) (.cells #[.int .i64 0] 3))).news
        clear hI3 hT3 hb2
        have hrow := lit_zero W2
        go_wp2_with (at_builtin; refine wpList_append_own _ rfl _ _ 116 rfl W2.heap.size 3 i0 (.int .i64 0) 1 8 Try.underlying116 hi hz0 hz1 hz2 rfl (by decide) _ _ _ rfl hrow ⟨g2, 0, none⟩ (k + j) c2 (cellsB (x * 2 ^ j) (k + j)) rfl (by rw [cellsB_length, Nat.mul_one]) hnews (cellsB_one _ _) (by unfold maxLen; omega) (by omega) (by simp) ?_; intro v' w1 hown1 hgrow1 hnil)
        rw [cellsB_double, HSH.out, Nat.add_comm 1] at hown1
        have hv1 : v' ≠ .slice none 0 0 := fun h => lit_not (hnil.1 h).1
        have hb1 : Below W2.heap.size W2 w1 := ((Below.refl _ W2).alloc (Nat.le_refl _) (.cells #[.int .i64 0] 3)).grown hgrow1 (by simp) (fun g' hg' => own_lit hg')
        have HH := Lib.hid (hasB_row hown1 hv1)
        have HB1 := Lib.hid hb1
        clear hown1 hgrow1 hnil hv1 hb1 hnews hrow
        go_roundw
        case rel => exact ⟨j + 1, k2, by rw [HTB.out]; exact HasB.keep ⟨g3, c3, rfl, hc3, hg3, HI3.out⟩ HB1.out, by rw [HTB.out]; exact HT3.out, HH.out, by go_num, by omega, (HBL.out.trans (HB2.out.mono HBL.out.size)).trans (HB1.out.mono (Nat.le_trans HBL.out.size HB2.out.size)), HN2.out⟩
        case measure => simp [intOf]; omega
    · obtain rfl : j = l := by omega
      have HI1 := Lib.hid hI1
      have hm : y % 2 ^ j = y := Nat.mod_eq_of_lt HY.out
      rw [hm] at HT1 HI1
      have d1 : decide (j < j) = false := by simp
      clear hj hT1 hI1 hI2 hbl hlt hm
      go_wp2_with fail
      go_ret
      exact ⟨_, k1, rfl, ⟨g1, c1, rfl, hc1, hg1, HI1.out⟩, HT1.out, HBL.out, HNW.out⟩

end Fr
end Go.Proofs.Ytojkaaglmdfcnaa
