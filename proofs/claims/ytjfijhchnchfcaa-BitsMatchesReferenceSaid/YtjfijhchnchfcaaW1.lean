/- Masks; which numbers are widths, which are values; choices. -/
import Derived.Test.YtjfijhchnchfcaaM1
import Derived.Test.YtjfijhchnchfcaaK3
import Derived.Test.YtjfijhchnchfcaaL7
import Derived.Test.YtjfijhchnchfcaaL8
import Derived.WalkKit
import Derived.WalkSpells
import Derived.WalkLawsBesides
import Derived.WalkSmall
import Derived.Lib.Hide
import Derived.BigQuiet
import Derived.Outline
import Derived.Deep.AppendLies
import Derived.Deep.CutBlock
import Derived.Deep.LoopGhost
import Derived.Lib.ItoaNum
import Derived.Deep.RegionHeld3
import Derived.Deep.DrawnRows
import Derived.Deep.DeepCutAuto
namespace Go.Proofs.Ytjfijhchnchfcaa
open Go.RowKit Sl Fr
namespace Bt
set_option linter.unusedVariables false

theorem ret_bool {a b : Bool} (h : a = b) : Ending.returned (.bool a) = .returned (.bool b) := by rw [h]
theorem ret_num {a b : Int} (h : a = b) : Ending.returned (.int .i64 a) = .returned (.int .i64 b) := by rw [h]
theorem get_lt {α : Type} {l : List α} {j : Nat} {v : α} (h : l[j]? = some v) : j < l.length := (List.getElem?_eq_some_iff.1 h).1
theorem get_ex {α : Type} {l : List α} {j : Nat} (h : j < l.length) : ∃ v, l[j]? = some v := ⟨_, List.getElem?_eq_getElem h⟩
theorem take_snoc {α : Type} {l : List α} {j : Nat} {v : α} (h : l[j]? = some v) : l.take (j + 1) = l.take j ++ [v] := by
  rw [List.take_add_one, h]; rfl
theorem all_no {α : Type} {l : List α} {j : Nat} {v : α} (h : l[j]? = some v) {p : α → Bool} (hp : p v = false) : l.all p = false := by
  rw [List.all_eq_false]
  exact ⟨v, List.mem_of_getElem? h, by simp [hp]⟩

theorem pow_int {k : Nat} (h : k ≤ 62) : 0 < (2 : Int) ^ k ∧ (2 : Int) ^ k ≤ 4611686018427387904 := by
  have h1 : (2 : Nat) ^ k ≤ 2 ^ 62 := pow_le h
  have h2 : 0 < (2 : Nat) ^ k := Nat.two_pow_pos k
  have e : (2 : Int) ^ k = ((2 ^ k : Nat) : Int) := by simp
  rw [e]
  have h3 : (2 : Nat) ^ 62 = 4611686018427387904 := by decide
  omega
theorem mask_any (v : Int) (w : World) : Calls Try.prog 14 #[.int .i64 v] w fun e w' => e = .returned (.int .i64 (mask v)) ∧ w = w' := by
  by_cases h0 : v < 0
  · rw [mask_out (by omega)]
    go_enter Try.func14, Try.ntmps14
    go_wp2
    go_ret
    exact ⟨rfl, rfl⟩
  by_cases h1 : 62 < v
  · rw [mask_out (by omega)]
    go_enter Try.func14, Try.ntmps14
    go_wp2
    go_ret
    exact ⟨rfl, rfl⟩
  obtain ⟨k, rfl⟩ := Int.eq_ofNat_of_zero_le (by omega : 0 ≤ v)
  have hk : k ≤ 62 := by omega
  have HM := Lib.hid (mask_nat hk)
  have hp := pow_int hk
  clear hk
  go_enter Try.func14, Try.ntmps14
  go_wp2
  go_ret
  refine ⟨?_, rfl⟩
  rw [HM.out]
  generalize (2 : Int) ^ k = q at *
  rfl

theorem isWidth_any (v : Int) (w : World) : Calls Try.prog 29 #[.int .i64 v] w fun e w' => e = .returned (.bool (isW v)) ∧ w = w' := by
  by_cases h0 : 1 ≤ v
  · by_cases h1 : v ≤ 8
    · rw [show isW v = true by simp [isW]; omega]
      go_enter Try.func29, Try.ntmps29
      go_wp2
      go_ret
      simp
    · rw [show isW v = false by simp [isW]; omega]
      go_enter Try.func29, Try.ntmps29
      go_wp2
      go_ret
      simp
  · rw [show isW v = false by simp [isW]; omega]
    go_enter Try.func29, Try.ntmps29
    go_wp2
    go_ret
    simp

theorem isValue_any (v n : Int) (w : World) : Calls Try.prog 57 #[.int .i64 v, .int .i64 n] w fun e w' => e = .returned (.bool (isV v n)) ∧ w = w' := by
  have hm := fun w => mask_any n w
  by_cases h0 : 0 ≤ v
  · have hv : isV v n = decide (v ≤ mask n) := by simp [isV, h0]
    rw [hv]
    clear hv
    generalize mask n = m at *
    go_enter Try.func57, Try.ntmps57
    go_wp2_with (go_at_call 14; refine (hm _).mono ?_; rintro e w' ⟨rfl, rfl⟩)
    go_ret
    exact ⟨rfl, rfl⟩
  · rw [show isV v n = false by simp [isV]; omega]
    clear hm
    go_enter Try.func57, Try.ntmps57
    go_wp2
    go_ret
    exact ⟨rfl, rfl⟩

theorem chosen_any (b : Bool) (x y : Int) (w : World) : Calls Try.prog 50 #[.bool b, .int .i64 x, .int .i64 y] w fun e w' => e = .returned (.int .i64 (if b then x else y)) ∧ w = w' := by
  cases b
  · go_enter Try.func50, Try.ntmps50
    go_wp2
    go_ret
    exact ⟨rfl, rfl⟩
  · go_enter Try.func50, Try.ntmps50
    go_wp2
    go_ret
    exact ⟨rfl, rfl⟩
theorem truth_any (b : Bool) (w : World) : Calls Try.prog 35 #[.bool b] w fun e w' => e = .returned (.int .i64 (if b then 1 else 0)) ∧ w = w' := by
  have hm := fun w => chosen_any b 1 0 w
  generalize (if b then (1 : Int) else 0) = m at *
  go_enter Try.func35, Try.ntmps35
  go_wp2_with (go_at_call 50; refine (hm _).mono ?_; rintro e w' ⟨rfl, rfl⟩)
  go_ret
  exact ⟨rfl, rfl⟩

/-- A slice of numbers. -/
def ArrI (w : World) (A : Option Addr) (l : List Int) : Prop := Arr w A (l.map (Value.int .i64))
theorem ArrI.keep {w w' : World} {A : Option Addr} {l : List Int} (h : ArrI w A l) (hb : Below w.heap.size w w') : ArrI w' A l := Arr.keep h hb
theorem ArrI.open {w : World} {A : Option Addr} {l : List Int} (h : ArrI w A l) : ∃ b o, l ≠ [] → A = some ⟨b, o, none⟩ ∧ b < w.heap.size ∧ ∀ (j : Nat) (v : Int), l[j]? = some v → w.cell? ⟨b, o + j, none⟩ = some (.int .i64 v) := by
  by_cases hl : l = []
  · exact ⟨0, 0, fun h' => absurd hl h'⟩
  · obtain ⟨b, o, e, hlt, hc⟩ := h (by simpa using hl)
    exact ⟨b, o, fun _ => ⟨e, hlt, fun j v hv => hc j _ (by rw [List.getElem?_map, hv]; rfl)⟩⟩

theorem areWidths_any (A : Option Addr) (l : List Int) (c : Nat) (w : World) (hA : ArrI w A l) (hlen : l.length ≤ maxLen) :
    Calls Try.prog 28 #[.slice A l.length c] w fun e w' => e = .returned (.bool (l.all isW)) ∧ w = w' := by
  obtain ⟨b, o, hb⟩ := hA.open
  have HB := Lib.hid hb
  clear hb hA
  unfold maxLen at hlen
  go_enter Try.func28, Try.ntmps28
  go_wp2
  go_loop [7] (fun i => ∃ k : Nat, k ≤ l.length ∧ i = .int .i64 k ∧ (l.take k).all isW = true) (fun i => l.length - (intOf i).toNat)
  case atStart => exact ⟨0, Nat.zero_le _, rfl, by simp⟩
  case round =>
    obtain ⟨k, hk, rfl, hall⟩ := hrel
    have HG := Lib.hid hall
    clear hall
    by_cases hlt : k < l.length
    · obtain ⟨v, hv⟩ := get_ex hlt
      obtain ⟨rfl, hbs, hc⟩ := HB.out (by intro h; subst h; simp at hlt)
      have hcv := hc k v hv
      have HE := Lib.hid hv
      clear hc hv HB
      have hm := fun w => isWidth_any v w
      cases hw : isW v
      · rw [hw] at hm
        go_wp2_with (go_at_call 29; refine (hm _).mono ?_; rintro e w' ⟨rfl, rfl⟩)
        go_ret
        refine ⟨?_, rfl⟩
        exact ret_bool (all_no HE.out hw).symm
      · rw [hw] at hm
        go_wp2_with (go_at_call 29; refine (hm _).mono ?_; rintro e w' ⟨rfl, rfl⟩)
        exact ⟨⟨k + 1, by omega, by go_num, by rw [take_snoc HE.out, List.all_append, HG.out]; simp [hw]⟩, by simp [intOf]; omega⟩
    · go_wp2
      go_ret
      refine ⟨?_, rfl⟩
      have := HG.out
      rw [show k = l.length by omega, List.take_length] at this
      exact ret_bool this.symm

theorem areValues_any (A : Option Addr) (l : List Int) (c : Nat) (A' : Option Addr) (ws : List Int) (c' : Nat) (w : World) (hA : ArrI w A l) (hlen : l.length ≤ maxLen) (hA' : ArrI w A' ws) (hlen' : ws.length ≤ maxLen) :
    Calls Try.prog 32 #[.slice A l.length c, .slice A' ws.length c'] w fun e w' => e = .returned (.bool (decide (l.length = ws.length) && (l.zip ws).all fun p => isV p.1 p.2)) ∧ w = w' := by
  unfold maxLen at hlen hlen'
  by_cases hl : l.length = ws.length
  · rw [show (decide (l.length = ws.length) && (l.zip ws).all fun p => isV p.1 p.2) = (l.zip ws).all fun p => isV p.1 p.2 by simp [hl]]
    obtain ⟨b, o, hb⟩ := hA.open
    obtain ⟨b', o', hb'⟩ := hA'.open
    have HB := Lib.hid hb
    have HB' := Lib.hid hb'
    have HL := Lib.hid hl
    clear hb hA hb' hA' hl
    have hz : (l.zip ws).length = l.length := by simp [HL.out]
    rw [← HL.out]
    clear hlen'
    go_enter Try.func32, Try.ntmps32
    go_wp2
    go_loop [14] (fun i => ∃ k : Nat, k ≤ l.length ∧ i = .int .i64 k ∧ ((l.zip ws).take k).all (fun p => isV p.1 p.2) = true) (fun i => l.length - (intOf i).toNat)
    case atStart => exact ⟨0, Nat.zero_le _, rfl, by simp⟩
    case round =>
      obtain ⟨k, hk, rfl, hall⟩ := hrel
      have HG := Lib.hid hall
      have HZ := Lib.hid hz
      clear hall hz
      by_cases hlt : k < l.length
      · obtain ⟨v, hv⟩ := get_ex hlt
        obtain ⟨u, hu⟩ := get_ex (show k < ws.length by rw [← HL.out]; exact hlt)
        obtain ⟨rfl, hbs, hc⟩ := HB.out (by intro h; subst h; simp at hlt)
        obtain ⟨rfl, hbs', hc'⟩ := HB'.out (by intro h; subst h; simp at hu)
        have hcv := hc k v hv
        have hcu := hc' k u hu
        have HE : Hid ((l.zip ws)[k]? = some (v, u)) := Lib.hid (by simp [List.getElem?_zip_eq_some, hv, hu])
        clear hc hv hc' hu HB HB'
        have hm := fun w => isValue_any v u w
        cases hw : isV v u
        · rw [hw] at hm
          go_wp2_with (go_at_call 57; refine (hm _).mono ?_; rintro e w' ⟨rfl, rfl⟩)
          go_ret
          refine ⟨?_, rfl⟩
          exact ret_bool (all_no HE.out (p := fun p => isV p.1 p.2) hw).symm
        · rw [hw] at hm
          go_wp2_with (go_at_call 57; refine (hm _).mono ?_; rintro e w' ⟨rfl, rfl⟩)
          exact ⟨⟨k + 1, by omega, by go_num, by rw [take_snoc HE.out, List.all_append, HG.out]; simp [hw]⟩, by simp [intOf]; omega⟩
      · go_wp2
        go_ret
        refine ⟨?_, rfl⟩
        have := HG.out
        rw [show k = (l.zip ws).length by have := HZ.out; omega, List.take_length] at this
        exact ret_bool this.symm
  · rw [show (decide (l.length = ws.length) && (l.zip ws).all fun p => isV p.1 p.2) = false by simp [hl]]
    go_enter Try.func32, Try.ntmps32
    go_wp2
    go_ret
    exact ⟨rfl, rfl⟩

end Bt
end Go.Proofs.Ytjfijhchnchfcaa
