/- What Valid and isNode return. -/
import Derived.Test.YtmdleoadodcljaaG0
namespace Go.Proofs.Ytmdleoadodcljaa
open Go.RowKit Sl Fr
namespace Gp
set_option linter.unusedVariables false

theorem isNode_any (n v : Int) (w : World) : Calls Try.prog 24 #[.int .i64 n, .int .i64 v] w fun e w' => e = .returned (.bool (decide (0 ≤ v ∧ v < n))) ∧ w' = w := by
  by_cases h0 : 0 ≤ v
  · by_cases h1 : v < n
    · go_enter Try.func24, Try.ntmps24
      go_wp2
      go_ret
      simp [h0, h1]
    · go_enter Try.func24, Try.ntmps24
      go_wp2
      go_ret
      simp [h1]
  · go_enter Try.func24, Try.ntmps24
    go_wp2
    go_ret
    simp; omega

theorem all_no {α : Type} {l : List α} {j : Nat} {v : α} (h : l[j]? = some v) {p : α → Bool} (hp : p v = false) : l.all p = false := by
  rw [List.all_eq_false]
  exact ⟨v, List.mem_of_getElem? h, by simp [hp]⟩
/-- All ends are nodes. -/
def inB (n : Int) (e : Int × Int) : Bool := decide (0 ≤ e.1 ∧ e.1 < n) && decide (0 ≤ e.2 ∧ e.2 < n)
def validB (n : Int) (es : List (Int × Int)) : Bool := decide (0 ≤ n ∧ n ≤ 200 ∧ es.length ≤ 2000) && es.all (inB n)

set_option maxHeartbeats 1000000 in
theorem valid_any (n : Int) (A : Option Addr) (es : List (Int × Int)) (c : Nat) (w : World) (hA : ArrP w A es) :
    Calls Try.prog 6 #[.int .i64 n, .slice A es.length c] w fun e w' => e = .returned (.bool (validB n es)) ∧ Below w.heap.size w w' := by
  by_cases h0 : n < 0
  · go_enter Try.func6, Try.ntmps6
    go_wp2
    go_ret
    exact ⟨by simp [validB]; omega, Below.refl _ _⟩
  by_cases h1 : 200 < n
  · go_enter Try.func6, Try.ntmps6
    go_wp2
    go_ret
    exact ⟨by simp [validB]; omega, Below.refl _ _⟩
  by_cases h2 : 2000 < es.length
  · go_enter Try.func6, Try.ntmps6
    go_wp2
    go_ret
    exact ⟨by simp [validB]; omega, Below.refl _ _⟩
  obtain ⟨b, o, hb⟩ := ArrP.open hA
  have HB := Lib.hid hb
  clear hb hA
  have HV : Hid (validB n es = es.all (inB n)) := Lib.hid (by simp [validB]; omega)
  go_enter Try.func6, Try.ntmps6
  go_wp2
  go_loopw [20] (fun i wr => ∃ k : Nat, k ≤ es.length ∧ i = .int .i64 k ∧ (es.take k).all (inB n) = true ∧ Below w.heap.size w wr) (fun i _ => es.length - (intOf i).toNat)
  case atStart => exact ⟨0, Nat.zero_le _, rfl, by simp, Below.refl _ _⟩
  case round =>
    obtain ⟨k, hk, rfl, hall, hbl⟩ := hrel
    have HG := Lib.hid hall
    clear hall
    by_cases hlt : k < es.length
    · obtain ⟨⟨u, v⟩, huv⟩ := get_ex hlt
      obtain ⟨rfl, hbs, hc⟩ := HB.out (by intro h; subst h; simp at hlt)
      obtain ⟨hu, hv⟩ := hc k u v huv
      have hcu := (hbl.cell (p := ⟨b, o + k * 2, none⟩) hbs).trans hu
      have hcv := (hbl.cell (p := ⟨b, o + k * 2 + 1, none⟩) hbs).trans hv
      have HE := Lib.hid huv
      clear hc hu hv huv HB
      have hbs' := hbl.size
      by_cases hin : 0 ≤ u ∧ u < n
      · have hd : decide (0 ≤ u ∧ u < n) = true := decide_eq_true hin
        by_cases hin2 : 0 ≤ v ∧ v < n
        · have hd2 : decide (0 ≤ v ∧ v < n) = true := decide_eq_true hin2
          go_wp2_with (go_at_call 24; refine (isNode_any _ _ _).mono ?_; rintro e w' ⟨rfl, rfl⟩)
          go_roundw
          case rel => exact ⟨k + 1, by omega, by go_num, by rw [take_snoc HE.out, List.all_append, HG.out]; simp [inB, hin, hin2], hbl.alloc hbs' _⟩
          case measure => simp [intOf]; omega
        · have hd2 : decide (0 ≤ v ∧ v < n) = false := decide_eq_false hin2
          go_wp2_with (go_at_call 24; refine (isNode_any _ _ _).mono ?_; rintro e w' ⟨rfl, rfl⟩)
          go_ret
          refine ⟨?_, hbl.alloc hbs' _⟩
          rw [HV.out]
          have := all_no HE.out (p := inB n) (by simp [inB, hd2])
          simp [this]
      · have hd : decide (0 ≤ u ∧ u < n) = false := decide_eq_false hin
        go_wp2_with (go_at_call 24; refine (isNode_any _ _ _).mono ?_; rintro e w' ⟨rfl, rfl⟩)
        go_ret
        refine ⟨?_, hbl.alloc hbs' _⟩
        rw [HV.out]
        have := all_no HE.out (p := inB n) (by simp [inB, hd])
        simp [this]
    · go_wp2
      go_ret
      refine ⟨?_, hbl⟩
      have := HG.out
      rw [show k = es.length by omega, List.take_length] at this
      exact ret_bool (by rw [HV.out, this])

theorem validB_ok {n : Nat} {es : Dgr.Edges} (ok : Dgr.Ok n es) (hn : n ≤ 200) (hl : es.length ≤ 2000) : validB n (natE es) = true := by
  simp only [validB, natE_length, Bool.and_eq_true, decide_eq_true_eq, List.all_eq_true]
  refine ⟨⟨by omega, by omega, hl⟩, fun x hx => ?_⟩
  simp only [natE, List.mem_map] at hx
  obtain ⟨e, he, rfl⟩ := hx
  have := ok e he
  simp only [inB, Bool.and_eq_true, decide_eq_true_eq]
  omega
theorem valid_ok {n : Nat} {es : Dgr.Edges} (ok : Dgr.Ok n es) (hn : n ≤ 200) (hl : es.length ≤ 2000) (A : Option Addr) (c : Nat) (w : World) (hA : EdgesA w A es) :
    Calls Try.prog 6 #[.int .i64 n, .slice A es.length c] w fun e w' => e = .returned (.bool true) ∧ Below w.heap.size w w' := by
  have := valid_any n A (natE es) c w hA
  rwa [natE_length, validB_ok ok hn hl] at this

end Gp
end Go.Proofs.Ytmdleoadodcljaa
