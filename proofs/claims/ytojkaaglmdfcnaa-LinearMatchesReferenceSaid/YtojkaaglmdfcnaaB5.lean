/- The reference's lists of bits: division by a number; numbers read off again. -/
import Derived.Test.YtojkaaglmdfcnaaB4
import Derived.Test.YtojkaaglmdfcnaaL0
namespace Go.Proofs.Ytojkaaglmdfcnaa
open Go.RowKit Sl
namespace Fr
set_option linter.unusedVariables false

/-- The quotient's bits from j on. -/
def divC (q k j : Nat) : List Value := (List.range k).map fun t => if t < j then .int .i64 0 else .int .i64 (bt q t : Int)
theorem divC_length (q k j : Nat) : (divC q k j).length = k := by simp [divC]
theorem divC_start (q k : Nat) : divC q k k = List.replicate k (.int .i64 0) := by
  unfold divC
  rw [List.eq_replicate_iff]
  refine ⟨by simp, fun v hv => ?_⟩
  obtain ⟨t, ht, rfl⟩ := List.mem_map.1 hv
  rw [if_pos (List.mem_range.1 ht)]
theorem divC_end (q k : Nat) : divC q k 0 = cellsB q k := by
  unfold divC cellsB bl
  rw [List.map_map]
  apply List.map_congr_left
  intro t _
  simp
theorem divC_set {q k j : Nat} (hj : j < k) (h : bt q j = 1) : (divC q k (j + 1)).set j (.int .i64 1) = divC q k j := by
  apply List.ext_getElem?
  intro t
  rw [List.getElem?_set]
  by_cases e : j = t
  · subst e
    simp [divC, hj, h]
  · rw [if_neg e]
    rcases Nat.lt_or_ge t k with ht | ht
    · simp only [divC, List.getElem?_map, List.getElem?_range ht, Option.map_some]
      by_cases h1 : t < j
      · rw [if_pos (by omega), if_pos h1]
      · rw [if_neg (by omega), if_neg h1]
    · simp [divC, ht]
theorem divC_same {q k j : Nat} (h : bt q j = 0) : divC q k (j + 1) = divC q k j := by
  unfold divC
  apply List.map_congr_left
  intro t _
  by_cases e : j = t
  · subst e; simp [h]
  · by_cases h1 : t < j
    · rw [if_pos (by omega), if_pos h1]
    · rw [if_neg (by omega), if_neg h1]

/-- A call hands back a quotient's bits and a remainder, and changes nothing that was there. -/
def RetD (x m : Nat) (w : World) (e : Ending) (w' : World) : Prop := ∃ v k, e = .returned (.agg #[v, .int .i64 ((x % m : Nat) : Int)]) ∧ HasB w' v (x / m) k ∧ Tight (x / m) k ∧ Below w.heap.size w w' ∧ NewB w.heap.size v

theorem IsB.far {W : World} {g n k b i : Nat} (h : IsB W (some ⟨g, 0, none⟩) n k) (hb : b ≠ g) (u : Value) : IsB (W.setCell ⟨b, i, none⟩ u) (some ⟨g, 0, none⟩) n k := fun hne => by
  obtain ⟨b', o, e, hlt, hc⟩ := h hne
  simp only [Option.some.injEq, Addr.mk.injEq] at e
  obtain ⟨rfl, rfl, _⟩ := e
  exact ⟨_, _, rfl, by simpa using hlt, fun j v hv => (World.cell?_setCell_other _ _ _ _ (by intro e; exact hb (congrArg Addr.block e))).trans (hc j v hv)⟩

def DivRel (x m k : Nat) (w : World) (r i : Value) (wr : World) : Prop :=
  ∃ j : Nat, j ≤ k ∧ r = .int .i64 ((x / 2 ^ j % m : Nat) : Int) ∧ i = .int .i64 ((j : Int) - 1) ∧
    wr.ownsRow (w.heap.size + 1) 3 1 (.slice (some ⟨w.heap.size + 1, 0, none⟩) k k) k (divC (x / m) k j) ∧ Below (w.heap.size + 1) (w.alloc (.cells #[.slice none 0 0, .int .i64 0] 126)) wr

set_option maxRecDepth 100000 in
set_option maxHeartbeats 2000000 in
theorem divide_bits (A : Option Addr) (x k c m : Nat) (w : World) (hA : IsB w A x k) (hx : x < 2 ^ k) (hk : k ≤ 500) (hm0 : 0 < m) (hm : m ≤ 4611686018427387904) :
    Calls Try.prog 90 #[.slice A k c, .int .i64 (m : Int)] w (RetD x m w) := by
  obtain ⟨i0, hi, hz0, hz1, hz2⟩ := info_parts infoInt
  have HA := Lib.hid hA
  have HX := Lib.hid hx
  have HM := Lib.hid (fun i => divide_step x m i hm0)
  have HR := Lib.hid (fun j => Nat.mod_lt (x / 2 ^ j) hm0)
  have HB0 := Lib.hid ((Below.refl _ w).alloc (Nat.le_refl _) (.cells #[.slice none 0 0, .int .i64 0] 126))
  clear hA hx
  go_enter Try.func90, Try.ntmps90
  go_wp2_with (refine wpList_make_full _ rfl _ _ 116 rfl (w.heap.size + 1) 3 i0 (.int .i64 0) 1 Try.underlying116 hi hz0 hz1 .i64 .i64 _ _ k rfl rfl rfl rfl (by rw [hz2]; omega) (by unfold maxLen; omega) (by simp) ?_; intro w1 hown1 hgrow1)
  have hs1 : (w.alloc (.cells #[.slice none 0 0, .int .i64 0] 126)).heap.size = w.heap.size + 1 := by simp
  rw [hs1, Nat.mul_one, show (Value.int .i64 0).cells = #[.int .i64 0] from rfl, toList_madeCells_one, ← divC_start (x / m) k] at hown1
  have hb1 : Below (w.heap.size + 1) (w.alloc (.cells #[.slice none 0 0, .int .i64 0] 126)) w1 := by
    have := (Below.refl _ (w.alloc (.cells #[.slice none 0 0, .int .i64 0] 126))).grown hgrow1 (Nat.le_refl _) (fun g h => by cases h)
    rwa [hs1] at this
  have HS : Hid (DivRel x m k w (.int .i64 0) (.int .i64 ((k : Int) - 1)) w1) := Lib.hid ⟨k, Nat.le_refl _, by rw [top_zero HX.out, Nat.zero_mod]; rfl, rfl, hown1, hb1⟩
  clear hown1 hgrow1 hb1 hs1
  go_loopw [6, 7] (fun r i wr => DivRel x m k w r i wr) (fun _ i _ => (intOf i + 1).toNat)
  case atStart => exact HS.out
  case round =>
    obtain ⟨j, hj, rfl, rfl, hown, hbl⟩ := hrel
    have HBL := Lib.hid hbl
    have HO := Lib.hid hown
    clear HS
    by_cases h0 : j = 0
    · subst h0
      have d1 : decide (0 ≤ ((0 : Nat) : Int) - 1) = false := by decide
      rw [divC_end] at hown
      have HI := Lib.hid (hasB_row hown (by simp))
      have hF := HI.out
      obtain ⟨g5, c5, e5, hc5, hg5, hF5⟩ := hF
      injection e5 with e51 e52 e53
      injection e51 with e51
      injection e51 with e51
      subst e51 e53
      have HT := Lib.hid (fun W (hW : Below wr.heap.size wr W) => trim_any _ (x / m) k k W (hF5.keep hW) (quotient_lt HX.out) (by omega) (Nat.le_refl _))
      have HF := Lib.hid hF5
      clear hown hbl hF5
      rw [show x / 2 ^ 0 % m = x % m by rw [Nat.pow_zero, Nat.div_one]]
      generalize hrm : x % m = r at *
      have HRM := Lib.hid hrm
      clear hrm
      have HX2 := Lib.hid ((Box2.new w (.slice none 0 0) (.int .i64 0) 126).keep (by simpa using HBL.out))
      go_wp2_with fail
      refine (HT.out _ (Below.refl _ _)).mono ?_
      rintro e w' ⟨k', hT, hk', rfl, rfl⟩
      have x0 := HX2.out.c0
      have x1 := HX2.out.c1
      have f0 := HX2.out.f0
      have f1 := HX2.out.f1
      have HTT := Lib.hid hT
      have HN := Lib.hid (HX2.out.set (.slice (some ⟨w.heap.size + 1, 0, none⟩) k' k) (.int .i64 (r : Int)))
      clear hT
      go_wp2_with fail
      have c0 := HN.out.c0
      have c1 := HN.out.c1
      clear x0 x1 f0 f1
      refine bodyPost_ret (v := .agg #[.slice (some ⟨w.heap.size + 1, 0, none⟩) k' k, .int .i64 (r : Int)]) (by simp [results, Try.results90, go_sem, c0, c1]) rfl ?_
      exact ⟨_, k', by rw [HRM.out], ⟨_, k, rfl, hk', by simpa using hg5, ((HF.out.short (HTT.out.le (quotient_lt HX.out))).far (by omega) _).far (by omega) _⟩, HTT.out, below_set2 (HB0.out.trans (HBL.out.mono (by omega))) (Nat.le_refl _) _ _, .mk (by omega)⟩
    · obtain ⟨t, rfl⟩ : ∃ t, j = t + 1 := ⟨j - 1, by omega⟩
      obtain ⟨b, o, rfl, hbb, hcell⟩ := HA.out.cell (j := t) (by omega)
      have hcell1 : wr.cell? ⟨b, o + t, none⟩ = some (.int .i64 (bt x t : Int)) := (HBL.out.cell (p := ⟨b, o + t, none⟩) (by show b < _; omega)).trans ((World.cell?_alloc_lt _ _ _ (by exact hbb)).trans hcell)
      have hdc : (divC (x / m) k (t + 1))[t]? = some (.int .i64 0) := by simp [divC, show t < k by omega]
      have hqc : wr.cell? ⟨w.heap.size + 1, t, none⟩ = some (.int .i64 0) := (hown.cellAt t (by omega)).trans hdc
      have hqf := hown.frozenAt t
      have ec : ((t + 1 : Nat) : Int) - 1 = (t : Int) := by omega
      rw [ec]
      have hstep := HM.out t
      have hb := bt_lt x t
      have hr := HR.out (t + 1)
      have htk : t < k := by omega
      have H1 := Lib.hid (hown.stored t (.int .i64 1))
      have HJ := Lib.hid hj
      have HC1 := Lib.hid (fun h => divC_set (q := x / m) (k := k) (j := t) htk h)
      have HC0 := Lib.hid (fun h => divC_same (q := x / m) (k := k) (j := t) h)
      clear hcell hbb h0 hown hdc hbl hj
      generalize x / 2 ^ (t + 1) % m = r at *
      generalize bt x t = p at *
      rcases Nat.lt_or_ge (2 * r + p) m with hlt | hge
      · obtain ⟨e1, e2⟩ := hstep.1 hlt
        have d1 : 2 * (r : Int) + (p : Int) < (m : Int) := by omega
        have HE := Lib.hid e1
        have HE2 := Lib.hid e2
        clear hstep e1 e2 hlt
        go_wp2_with fail
        go_roundw
        case rel => exact ⟨t, by omega, by rw [HE.out]; go_num, rfl, by rw [← HC0.out HE2.out]; exact HO.out, HBL.out⟩
        case measure => simp [intOf]
      · obtain ⟨e1, e2⟩ := hstep.2 hge
        have d1 : (m : Int) ≤ 2 * (r : Int) + (p : Int) := by omega
        have HE := Lib.hid e1
        have HE2 := Lib.hid e2
        have HG := Lib.hid hge
        clear hstep e1 e2 hge
        go_wp2_with fail
        go_roundw
        case rel => exact ⟨t, by omega, by rw [HE.out]; have := HG.out; go_num, rfl, by rw [← HC1.out HE2.out]; exact H1.out.1, HBL.out.setCell (by exact Nat.le_refl _) _⟩
        case measure => simp [intOf]

end Fr
end Go.Proofs.Ytojkaaglmdfcnaa
