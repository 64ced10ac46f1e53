/- slices.EqualFunc. -/
import Derived.Test.YtggeepimihhpjaaGreatDoorTI
namespace Go.Proofs.YtggeepimihhpjaaGreatDoor
open Go.RowKit Go.Shelf Go.Lib Sl Fr Lx
namespace Sy
set_option linter.unusedVariables false
set_option linter.unusedSimpArgs false

theorem range_keep {w W : World} {b o : Nat} {cs : List Value} (h : w.rangeAt b o cs) (hb : Below w.heap.size w W) (hl : b < w.heap.size) : W.rangeAt b o cs := fun j v hj => (hb.cell (p := ⟨b, o + j, none⟩) hl).trans (h j v hj)
def EqAt {α : Type} (E : α → α → Bool) (l m : List α) (w : World) (i : Value) (W : World) : Prop := ∃ k : Nat, i = .int .i64 (k : Int) ∧ k ≤ l.length ∧ (∀ (j : Nat) (x y : α), j < k → l[j]? = some x → m[j]? = some y → E x y = true) ∧ Below w.heap.size w W
def Two (w : World) (N : Nat) (A B : Option Addr) (k : Nat) (C : Array Value → Array Value → Prop) : Prop := ∃ b o cs b' o' ds, A = some ⟨b, o, none⟩ ∧ b < w.heap.size ∧ w.rangeAt b (o + k * N) (cs : Array Value).toList ∧ cs.size = N ∧ cs.all (·.oneCell') = true ∧
  B = some ⟨b', o', none⟩ ∧ b' < w.heap.size ∧ w.rangeAt b' (o' + k * N) (ds : Array Value).toList ∧ ds.size = N ∧ ds.all (·.oneCell') = true ∧ C cs ds

set_option maxRecDepth 100000 in
set_option maxHeartbeats 4000000 in
theorem equalFunc_expr {α : Type} (E : α → α → Bool) (l m : List α) (A B : Option Addr) (ca cb : Nat) (w : World) (hm : m.length ≤ 281474976710656)
    (hE : ∀ (k : Nat) (x y : α), l[k]? = some x → m[k]? = some y → Two w 7 A B k fun cs ds => ∀ W, Below w.heap.size w W → Calls Tryz.prog 172 #[.agg cs, .agg ds] W (RetB (E x y) W)) :
    Calls Tryz.prog 180 #[.slice A l.length ca, .slice B m.length cb, .func (.func 172) #[] #[]] w (RetB (eqL E l m) w) := by
  by_cases hlen : l.length = m.length
  · have hn : l.length ≤ 281474976710656 := by rw [hlen]; exact hm
    clear hm
    have HE := Lib.hid hE
    have H0 : Hid (EqAt E l m w (.int .i64 0) w) := Lib.hid ⟨0, rfl, Nat.zero_le _, fun j x y h => absurd h (Nat.not_lt_zero _), Below.refl _ _⟩
    have HL := Lib.hid hlen
    rw [← hlen]
    clear hE hlen
    go_enter Tryz.func180, Tryz.ntmps180
    go_wp2_with fail
    go_loopw [17] (EqAt E l m w) (fun i _ => l.length - (RowKit.intOf i).toNat)
    case atStart => exact H0.out
    case round =>
      obtain ⟨k, rfl, hk, hall, hb⟩ := hrel
      have HA := Lib.hid hall
      have HB := Lib.hid hb
      clear hall hb H0
      by_cases hlt : k < l.length
      · obtain ⟨x, hx⟩ : ∃ x, l[k]? = some x := ⟨l[k], List.getElem?_eq_getElem hlt⟩
        obtain ⟨y, hy⟩ : ∃ y, m[k]? = some y := ⟨m[k]'(by rw [← HL.out]; exact hlt), List.getElem?_eq_getElem _⟩
        obtain ⟨b, o, cs, b', o', ds, rfl, hbl, hra, hsa, hoa, rfl, hbl', hrb, hsb, hob, hC⟩ := HE.out k x y hx hy
        have HX := Lib.hid hx
        have HY := Lib.hid hy
        have ra := range_keep hra HB.out hbl
        have rb := range_keep hrb HB.out hbl'
        have HRA := Lib.hid ra
        have HRB := Lib.hid rb
        have hblr := Nat.lt_of_lt_of_le hbl' HB.out.size
        have ia : (Tryz.prog.info? 63).map (·.size) = some cs.size := by rw [hsa]; kernel_rfl
        have ib : (Tryz.prog.info? 63).map (·.size) = some ds.size := by rw [hsb]; kernel_rfl
        have ia2 : (Tryz.prog.info? 63).map (·.size) = some cs.toList.length := by rw [Array.length_toList]; exact ia
        have ib2 : (Tryz.prog.info? 63).map (·.size) = some ds.toList.length := by rw [Array.length_toList]; exact ib
        have hkm : (k : Int) < (m.length : Int) := by rw [← HL.out]; omega
        clear hra hrb ra rb hx hy hbl hbl'
        cases hxy : E x y with
        | false =>
          rw [hxy] at hC
          have HC := Lib.hid hC
          clear hC
          go_upto_region 5 with fail
          go_upto_region 6 with (first
            | (refine wpList_load_mid rfl 63 _ rfl b (o + k * 7) rfl cs.toList _ HRA.out Tryz.underlying63 rfl ia2 ?_; simp only [Array.toArray_toList])
            | (refine wpList_new_mid alloc_expr rfl rfl rfl rfl _ rfl _ _ rfl cs rfl rfl ia hsa hoa ?_; intro Y1 q1 hq1 mY1 hb1; subst hq1; have hrb1 := range_keep HRB.out hb1 hblr))
          go_upto_region 7 with (first
            | (refine wpList_load_mid rfl 63 _ rfl b' (o' + k * 7) rfl ds.toList _ hrb1 Tryz.underlying63 rfl ib2 ?_; simp only [Array.toArray_toList])
            | (refine wpList_new_any alloc_expr rfl rfl rfl _ _ rfl ds rfl rfl ib hsb hob ?_; intro Y2 q2 hq2 mY2 hb2; subst hq2; have mY12 := mY1.keep hb2; have hbb := hb1.trans (hb2.mono hb1.size)))
          go_wp2_with (first
            | (go_at_call 172; refine (HC.out _ (HB.out.trans (hbb.mono HB.out.size))).mono ?_; rintro e w9 ⟨rfl, hb9⟩)
            | (refine wpList_load_row mY12 rfl _ rfl rfl _ Tryz.underlying63 rfl ia ?_)
            | (refine wpList_load_row mY2 rfl _ rfl rfl _ Tryz.underlying63 rfl ib ?_))
          go_ret
          exact ⟨by rw [eqL_no HX.out HY.out hxy]; rfl, HB.out.trans ((hbb.trans (hb9.mono hbb.size)).mono HB.out.size)⟩
        | true =>
          rw [hxy] at hC
          have HC := Lib.hid hC
          clear hC
          go_upto_region 5 with fail
          go_upto_region 6 with (first
            | (refine wpList_load_mid rfl 63 _ rfl b (o + k * 7) rfl cs.toList _ HRA.out Tryz.underlying63 rfl ia2 ?_; simp only [Array.toArray_toList])
            | (refine wpList_new_mid alloc_expr rfl rfl rfl rfl _ rfl _ _ rfl cs rfl rfl ia hsa hoa ?_; intro Y1 q1 hq1 mY1 hb1; subst hq1; have hrb1 := range_keep HRB.out hb1 hblr))
          go_upto_region 7 with (first
            | (refine wpList_load_mid rfl 63 _ rfl b' (o' + k * 7) rfl ds.toList _ hrb1 Tryz.underlying63 rfl ib2 ?_; simp only [Array.toArray_toList])
            | (refine wpList_new_any alloc_expr rfl rfl rfl _ _ rfl ds rfl rfl ib hsb hob ?_; intro Y2 q2 hq2 mY2 hb2; subst hq2; have mY12 := mY1.keep hb2; have hbb := hb1.trans (hb2.mono hb1.size)))
          go_wp2_with (first
            | (go_at_call 172; refine (HC.out _ (HB.out.trans (hbb.mono HB.out.size))).mono ?_; rintro e w9 ⟨rfl, hb9⟩)
            | (refine wpList_load_row mY12 rfl _ rfl rfl _ Tryz.underlying63 rfl ia ?_)
            | (refine wpList_load_row mY2 rfl _ rfl rfl _ Tryz.underlying63 rfl ib ?_))
          go_roundw
          case rel => exact ⟨k + 1, by go_num, by omega, (fun j x' y' hj h1 h2 => by
            rcases Nat.lt_or_ge j k with h | h
            · exact HA.out j x' y' h h1 h2
            · obtain rfl : j = k := by omega
              rw [HX.out] at h1; rw [HY.out] at h2
              injection h1 with h1; injection h2 with h2
              rw [← h1, ← h2]; exact hxy), HB.out.trans ((hbb.trans (hb9.mono hbb.size)).mono HB.out.size)⟩
          case measure => simp [RowKit.intOf]; omega
      · have hkk : k = l.length := by omega
        have HT : Hid (eqL E l m = true) := Lib.hid (eqL_yes HL.out fun j x y h1 h2 => HA.out j x y (by have := (List.getElem?_eq_some_iff.1 h1).1; omega) h1 h2)
        go_wp2_with fail
        go_ret
        exact ⟨by rw [HT.out]; rfl, HB.out⟩
  · have hne : ¬ ((l.length : Int) = (m.length : Int)) := by omega
    have hne2 : ((l.length : Int) != (m.length : Int)) = true := by simpa using hne
    have hne3 : (l.length != m.length) = true := by simpa using hlen
    have hne4 : (l.length == m.length) = false := by simpa using hlen
    have HF := Lib.hid (eqL_len (E := E) hlen)
    clear hE
    go_enter Tryz.func180, Tryz.ntmps180
    go_wp2_with fail
    go_ret
    exact ⟨by rw [HF.out]; rfl, Below.refl _ _⟩

set_option maxRecDepth 100000 in
set_option maxHeartbeats 4000000 in
theorem equalFunc_item {α : Type} (E : α → α → Bool) (l m : List α) (A B : Option Addr) (ca cb : Nat) (w : World) (hm : m.length ≤ 281474976710656)
    (hE : ∀ (k : Nat) (x y : α), l[k]? = some x → m[k]? = some y → Two w 35 A B k fun cs ds => ∀ W, Below w.heap.size w W → Calls Tryz.prog 158 #[.agg cs, .agg ds] W (RetB (E x y) W)) :
    Calls Tryz.prog 157 #[.slice A l.length ca, .slice B m.length cb, .func (.func 158) #[] #[]] w (RetB (eqL E l m) w) := by
  by_cases hlen : l.length = m.length
  · have hn : l.length ≤ 281474976710656 := by rw [hlen]; exact hm
    clear hm
    have HE := Lib.hid hE
    have H0 : Hid (EqAt E l m w (.int .i64 0) w) := Lib.hid ⟨0, rfl, Nat.zero_le _, fun j x y h => absurd h (Nat.not_lt_zero _), Below.refl _ _⟩
    have HL := Lib.hid hlen
    rw [← hlen]
    clear hE hlen
    go_enter Tryz.func157, Tryz.ntmps157
    go_wp2_with fail
    go_loopw [17] (EqAt E l m w) (fun i _ => l.length - (RowKit.intOf i).toNat)
    case atStart => exact H0.out
    case round =>
      obtain ⟨k, rfl, hk, hall, hb⟩ := hrel
      have HA := Lib.hid hall
      have HB := Lib.hid hb
      clear hall hb H0
      by_cases hlt : k < l.length
      · obtain ⟨x, hx⟩ : ∃ x, l[k]? = some x := ⟨l[k], List.getElem?_eq_getElem hlt⟩
        obtain ⟨y, hy⟩ : ∃ y, m[k]? = some y := ⟨m[k]'(by rw [← HL.out]; exact hlt), List.getElem?_eq_getElem _⟩
        obtain ⟨b, o, cs, b', o', ds, rfl, hbl, hra, hsa, hoa, rfl, hbl', hrb, hsb, hob, hC⟩ := HE.out k x y hx hy
        have HX := Lib.hid hx
        have HY := Lib.hid hy
        have ra := range_keep hra HB.out hbl
        have rb := range_keep hrb HB.out hbl'
        have HRA := Lib.hid ra
        have HRB := Lib.hid rb
        have hblr := Nat.lt_of_lt_of_le hbl' HB.out.size
        have ia : (Tryz.prog.info? 69).map (·.size) = some cs.size := by rw [hsa]; kernel_rfl
        have ib : (Tryz.prog.info? 69).map (·.size) = some ds.size := by rw [hsb]; kernel_rfl
        have ia2 : (Tryz.prog.info? 69).map (·.size) = some cs.toList.length := by rw [Array.length_toList]; exact ia
        have ib2 : (Tryz.prog.info? 69).map (·.size) = some ds.toList.length := by rw [Array.length_toList]; exact ib
        have hkm : (k : Int) < (m.length : Int) := by rw [← HL.out]; omega
        clear hra hrb ra rb hx hy hbl hbl'
        cases hxy : E x y with
        | false =>
          rw [hxy] at hC
          have HC := Lib.hid hC
          clear hC
          go_upto_region 5 with fail
          go_upto_region 6 with (first
            | (refine wpList_load_mid rfl 69 _ rfl b (o + k * 35) rfl cs.toList _ HRA.out Tryz.underlying69 rfl ia2 ?_; simp only [Array.toArray_toList])
            | (refine wpList_new_mid alloc_item rfl rfl rfl rfl _ rfl _ _ rfl cs rfl rfl ia hsa hoa ?_; intro Y1 q1 hq1 mY1 hb1; subst hq1; have hrb1 := range_keep HRB.out hb1 hblr))
          go_upto_region 7 with (first
            | (refine wpList_load_mid rfl 69 _ rfl b' (o' + k * 35) rfl ds.toList _ hrb1 Tryz.underlying69 rfl ib2 ?_; simp only [Array.toArray_toList])
            | (refine wpList_new_any alloc_item rfl rfl rfl _ _ rfl ds rfl rfl ib hsb hob ?_; intro Y2 q2 hq2 mY2 hb2; subst hq2; have mY12 := mY1.keep hb2; have hbb := hb1.trans (hb2.mono hb1.size)))
          go_wp2_with (first
            | (go_at_call 158; refine (HC.out _ (HB.out.trans (hbb.mono HB.out.size))).mono ?_; rintro e w9 ⟨rfl, hb9⟩)
            | (refine wpList_load_row mY12 rfl _ rfl rfl _ Tryz.underlying69 rfl ia ?_)
            | (refine wpList_load_row mY2 rfl _ rfl rfl _ Tryz.underlying69 rfl ib ?_))
          go_ret
          exact ⟨by rw [eqL_no HX.out HY.out hxy]; rfl, HB.out.trans ((hbb.trans (hb9.mono hbb.size)).mono HB.out.size)⟩
        | true =>
          rw [hxy] at hC
          have HC := Lib.hid hC
          clear hC
          go_upto_region 5 with fail
          go_upto_region 6 with (first
            | (refine wpList_load_mid rfl 69 _ rfl b (o + k * 35) rfl cs.toList _ HRA.out Tryz.underlying69 rfl ia2 ?_; simp only [Array.toArray_toList])
            | (refine wpList_new_mid alloc_item rfl rfl rfl rfl _ rfl _ _ rfl cs rfl rfl ia hsa hoa ?_; intro Y1 q1 hq1 mY1 hb1; subst hq1; have hrb1 := range_keep HRB.out hb1 hblr))
          go_upto_region 7 with (first
            | (refine wpList_load_mid rfl 69 _ rfl b' (o' + k * 35) rfl ds.toList _ hrb1 Tryz.underlying69 rfl ib2 ?_; simp only [Array.toArray_toList])
            | (refine wpList_new_any alloc_item rfl rfl rfl _ _ rfl ds rfl rfl ib hsb hob ?_; intro Y2 q2 hq2 mY2 hb2; subst hq2; have mY12 := mY1.keep hb2; have hbb := hb1.trans (hb2.mono hb1.size)))
          go_wp2_with (first
            | (go_at_call 158; refine (HC.out _ (HB.out.trans (hbb.mono HB.out.size))).mono ?_; rintro e w9 ⟨rfl, hb9⟩)
            | (refine wpList_load_row mY12 rfl _ rfl rfl _ Tryz.underlying69 rfl ia ?_)
            | (refine wpList_load_row mY2 rfl _ rfl rfl _ Tryz.underlying69 rfl ib ?_))
          go_roundw
          case rel => exact ⟨k + 1, by go_num, by omega, (fun j x' y' hj h1 h2 => by
            rcases Nat.lt_or_ge j k with h | h
            · exact HA.out j x' y' h h1 h2
            · obtain rfl : j = k := by omega
              rw [HX.out] at h1; rw [HY.out] at h2
              injection h1 with h1; injection h2 with h2
              rw [← h1, ← h2]; exact hxy), HB.out.trans ((hbb.trans (hb9.mono hbb.size)).mono HB.out.size)⟩
          case measure => simp [RowKit.intOf]; omega
      · have hkk : k = l.length := by omega
        have HT : Hid (eqL E l m = true) := Lib.hid (eqL_yes HL.out fun j x y h1 h2 => HA.out j x y (by have := (List.getElem?_eq_some_iff.1 h1).1; omega) h1 h2)
        go_wp2_with fail
        go_ret
        exact ⟨by rw [HT.out]; rfl, HB.out⟩
  · have hne : ¬ ((l.length : Int) = (m.length : Int)) := by omega
    have hne2 : ((l.length : Int) != (m.length : Int)) = true := by simpa using hne
    have hne3 : (l.length != m.length) = true := by simpa using hlen
    have hne4 : (l.length == m.length) = false := by simpa using hlen
    have HF := Lib.hid (eqL_len (E := E) hlen)
    clear hE
    go_enter Tryz.func157, Tryz.ntmps157
    go_wp2_with fail
    go_ret
    exact ⟨by rw [HF.out]; rfl, Below.refl _ _⟩

set_option maxRecDepth 100000 in
set_option maxHeartbeats 4000000 in
theorem equalFunc_mod {α : Type} (E : α → α → Bool) (l m : List α) (A B : Option Addr) (ca cb : Nat) (w : World) (hm : m.length ≤ 281474976710656)
    (hE : ∀ (k : Nat) (x y : α), l[k]? = some x → m[k]? = some y → Two w 4 A B k fun cs ds => ∀ W, Below w.heap.size w W → Calls Tryz.prog 113 #[.agg cs, .agg ds] W (RetB (E x y) W)) :
    Calls Tryz.prog 112 #[.slice A l.length ca, .slice B m.length cb, .func (.func 113) #[] #[]] w (RetB (eqL E l m) w) := by
  by_cases hlen : l.length = m.length
  · have hn : l.length ≤ 281474976710656 := by rw [hlen]; exact hm
    clear hm
    have HE := Lib.hid hE
    have H0 : Hid (EqAt E l m w (.int .i64 0) w) := Lib.hid ⟨0, rfl, Nat.zero_le _, fun j x y h => absurd h (Nat.not_lt_zero _), Below.refl _ _⟩
    have HL := Lib.hid hlen
    rw [← hlen]
    clear hE hlen
    go_enter Tryz.func112, Tryz.ntmps112
    go_wp2_with fail
    go_loopw [17] (EqAt E l m w) (fun i _ => l.length - (RowKit.intOf i).toNat)
    case atStart => exact H0.out
    case round =>
      obtain ⟨k, rfl, hk, hall, hb⟩ := hrel
      have HA := Lib.hid hall
      have HB := Lib.hid hb
      clear hall hb H0
      by_cases hlt : k < l.length
      · obtain ⟨x, hx⟩ : ∃ x, l[k]? = some x := ⟨l[k], List.getElem?_eq_getElem hlt⟩
        obtain ⟨y, hy⟩ : ∃ y, m[k]? = some y := ⟨m[k]'(by rw [← HL.out]; exact hlt), List.getElem?_eq_getElem _⟩
        obtain ⟨b, o, cs, b', o', ds, rfl, hbl, hra, hsa, hoa, rfl, hbl', hrb, hsb, hob, hC⟩ := HE.out k x y hx hy
        have HX := Lib.hid hx
        have HY := Lib.hid hy
        have ra := range_keep hra HB.out hbl
        have rb := range_keep hrb HB.out hbl'
        have HRA := Lib.hid ra
        have HRB := Lib.hid rb
        have hblr := Nat.lt_of_lt_of_le hbl' HB.out.size
        have ia : (Tryz.prog.info? 46).map (·.size) = some cs.size := by rw [hsa]; kernel_rfl
        have ib : (Tryz.prog.info? 46).map (·.size) = some ds.size := by rw [hsb]; kernel_rfl
        have ia2 : (Tryz.prog.info? 46).map (·.size) = some cs.toList.length := by rw [Array.length_toList]; exact ia
        have ib2 : (Tryz.prog.info? 46).map (·.size) = some ds.toList.length := by rw [Array.length_toList]; exact ib
        have hkm : (k : Int) < (m.length : Int) := by rw [← HL.out]; omega
        clear hra hrb ra rb hx hy hbl hbl'
        cases hxy : E x y with
        | false =>
          rw [hxy] at hC
          have HC := Lib.hid hC
          clear hC
          go_upto_region 5 with fail
          go_upto_region 6 with (first
            | (refine wpList_load_mid rfl 46 _ rfl b (o + k * 4) rfl cs.toList _ HRA.out Tryz.underlying46 rfl ia2 ?_; simp only [Array.toArray_toList])
            | (refine wpList_new_mid alloc_module rfl rfl rfl rfl _ rfl _ _ rfl cs rfl rfl ia hsa hoa ?_; intro Y1 q1 hq1 mY1 hb1; subst hq1; have hrb1 := range_keep HRB.out hb1 hblr))
          go_upto_region 7 with (first
            | (refine wpList_load_mid rfl 46 _ rfl b' (o' + k * 4) rfl ds.toList _ hrb1 Tryz.underlying46 rfl ib2 ?_; simp only [Array.toArray_toList])
            | (refine wpList_new_any alloc_module rfl rfl rfl _ _ rfl ds rfl rfl ib hsb hob ?_; intro Y2 q2 hq2 mY2 hb2; subst hq2; have mY12 := mY1.keep hb2; have hbb := hb1.trans (hb2.mono hb1.size)))
          go_wp2_with (first
            | (go_at_call 113; refine (HC.out _ (HB.out.trans (hbb.mono HB.out.size))).mono ?_; rintro e w9 ⟨rfl, hb9⟩)
            | (refine wpList_load_row mY12 rfl _ rfl rfl _ Tryz.underlying46 rfl ia ?_)
            | (refine wpList_load_row mY2 rfl _ rfl rfl _ Tryz.underlying46 rfl ib ?_))
          go_ret
          exact ⟨by rw [eqL_no HX.out HY.out hxy]; rfl, HB.out.trans ((hbb.trans (hb9.mono hbb.size)).mono HB.out.size)⟩
        | true =>
          rw [hxy] at hC
          have HC := Lib.hid hC
          clear hC
          go_upto_region 5 with fail
          go_upto_region 6 with (first
            | (refine wpList_load_mid rfl 46 _ rfl b (o + k * 4) rfl cs.toList _ HRA.out Tryz.underlying46 rfl ia2 ?_; simp only [Array.toArray_toList])
            | (refine wpList_new_mid alloc_module rfl rfl rfl rfl _ rfl _ _ rfl cs rfl rfl ia hsa hoa ?_; intro Y1 q1 hq1 mY1 hb1; subst hq1; have hrb1 := range_keep HRB.out hb1 hblr))
          go_upto_region 7 with (first
            | (refine wpList_load_mid rfl 46 _ rfl b' (o' + k * 4) rfl ds.toList _ hrb1 Tryz.underlying46 rfl ib2 ?_; simp only [Array.toArray_toList])
            | (refine wpList_new_any alloc_module rfl rfl rfl _ _ rfl ds rfl rfl ib hsb hob ?_; intro Y2 q2 hq2 mY2 hb2; subst hq2; have mY12 := mY1.keep hb2; have hbb := hb1.trans (hb2.mono hb1.size)))
          go_wp2_with (first
            | (go_at_call 113; refine (HC.out _ (HB.out.trans (hbb.mono HB.out.size))).mono ?_; rintro e w9 ⟨rfl, hb9⟩)
            | (refine wpList_load_row mY12 rfl _ rfl rfl _ Tryz.underlying46 rfl ia ?_)
            | (refine wpList_load_row mY2 rfl _ rfl rfl _ Tryz.underlying46 rfl ib ?_))
          go_roundw
          case rel => exact ⟨k + 1, by go_num, by omega, (fun j x' y' hj h1 h2 => by
            rcases Nat.lt_or_ge j k with h | h
            · exact HA.out j x' y' h h1 h2
            · obtain rfl : j = k := by omega
              rw [HX.out] at h1; rw [HY.out] at h2
              injection h1 with h1; injection h2 with h2
              rw [← h1, ← h2]; exact hxy), HB.out.trans ((hbb.trans (hb9.mono hbb.size)).mono HB.out.size)⟩
          case measure => simp [RowKit.intOf]; omega
      · have hkk : k = l.length := by omega
        have HT : Hid (eqL E l m = true) := Lib.hid (eqL_yes HL.out fun j x y h1 h2 => HA.out j x y (by have := (List.getElem?_eq_some_iff.1 h1).1; omega) h1 h2)
        go_wp2_with fail
        go_ret
        exact ⟨by rw [HT.out]; rfl, HB.out⟩
  · have hne : ¬ ((l.length : Int) = (m.length : Int)) := by omega
    have hne2 : ((l.length : Int) != (m.length : Int)) = true := by simpa using hne
    have hne3 : (l.length != m.length) = true := by simpa using hlen
    have hne4 : (l.length == m.length) = false := by simpa using hlen
    have HF := Lib.hid (eqL_len (E := E) hlen)
    clear hE
    go_enter Tryz.func112, Tryz.ntmps112
    go_wp2_with fail
    go_ret
    exact ⟨by rw [HF.out]; rfl, Below.refl _ _⟩

end Sy
end Go.Proofs.YtggeepimihhpjaaGreatDoor
