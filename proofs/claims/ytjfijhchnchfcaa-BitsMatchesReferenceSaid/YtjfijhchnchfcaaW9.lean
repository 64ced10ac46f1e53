/- Join; the reference's Join and Bools. -/
import Derived.Test.YtjfijhchnchfcaaW8
import Derived.Test.YtjfijhchnchfcaaM2
namespace Go.Proofs.Ytjfijhchnchfcaa
open Go.RowKit Sl Fr
namespace Bt
set_option linter.unusedVariables false
set_option linter.unusedSimpArgs false

/-- A slice of bits. -/
def ArrB (w : World) (A : Option Addr) (l : List Bool) : Prop := Arr w A (l.map Value.bool)
theorem ArrB.keep {w w' : World} {A : Option Addr} {l : List Bool} (h : ArrB w A l) (hb : Below w.heap.size w w') : ArrB w' A l := Arr.keep h hb
theorem ArrB.open {w : World} {A : Option Addr} {l : List Bool} (h : ArrB w A l) : ∃ b o, l ≠ [] → A = some ⟨b, o, none⟩ ∧ b < w.heap.size ∧ ∀ (j : Nat) (v : Bool), l[j]? = some v → w.cell? ⟨b, o + j, none⟩ = some (.bool v) := by
  by_cases hl : l = []
  · exact ⟨0, 0, fun h' => absurd hl h'⟩
  · obtain ⟨b, o, e, hlt, hc⟩ := h (by simpa using hl)
    exact ⟨b, o, fun _ => ⟨e, hlt, fun j v hv => hc j _ (by rw [List.getElem?_map, hv]; rfl)⟩⟩

theorem bt_int (b : Bool) : (if b then (1 : Int) else 0) = (bt b : Int) := by cases b <;> rfl
theorem or_step (l : List Bool) (b : Bool) (h : l.length < 62) : bits .or .i64 (jo l : Int) ((bt b : Int) * 2 ^ l.length) = (jo (l ++ [b]) : Int) := by
  have h1 := jo_lt l
  have h2 : 2 ^ l.length ≤ 2 ^ 61 := pow_le (by omega)
  have h3 : (2 : Nat) ^ 61 = 2305843009213693952 := by decide
  have h4 : bt b ≤ 1 := by cases b <;> decide
  have h5 : bt b * 2 ^ l.length ≤ 1 * 2 ^ 61 := Nat.mul_le_mul h4 h2
  have := or_i64 (jo l) (bt b * 2 ^ l.length) (by omega) (by omega)
  rw [jo_or] at this
  rw [← this]
  simp
theorem shl_in (b : Bool) {k : Nat} (h : k < 62) : 0 ≤ (bt b : Int) * 2 ^ k ∧ (bt b : Int) * 2 ^ k ≤ 2305843009213693952 := by
  have h2 : 2 ^ k ≤ 2 ^ 61 := pow_le (by omega)
  have h3 : (2 : Nat) ^ 61 = 2305843009213693952 := by decide
  have h4 : bt b ≤ 1 := by cases b <;> decide
  have h5 : bt b * 2 ^ k ≤ 1 * 2 ^ 61 := Nat.mul_le_mul h4 h2
  have e : (bt b : Int) * 2 ^ k = ((bt b * 2 ^ k : Nat) : Int) := by simp
  rw [e]
  omega

set_option maxHeartbeats 1000000 in
theorem rjoin_any (A : Option Addr) (l : List Bool) (c : Nat) (w : World) (hA : ArrB w A l) (hlen : l.length ≤ maxLen) :
    Calls Try.prog 20 #[.slice A l.length c] w fun e w' => e = .returned (.int .i64 (joi l : Int)) ∧ w = w' := by
  obtain ⟨b, o, hb⟩ := hA.open
  have HB := Lib.hid hb
  clear hb hA
  unfold maxLen at hlen
  go_enter Try.func20, Try.ntmps20
  go_wp2
  go_loop [3, 4] (fun v i => ∃ k : Nat, k ≤ l.length ∧ k ≤ 62 ∧ i = .int .i64 (k : Int) ∧ v = .int .i64 (jo (l.take k) : Int)) (fun _ i => 62 - (intOf i).toNat)
  case atStart => exact ⟨0, Nat.zero_le _, by omega, rfl, rfl⟩
  case round =>
    obtain ⟨k, hk, hk62, rfl, rfl⟩ := hrel
    by_cases hlt : k < l.length
    · by_cases h62 : k < 62
      · obtain ⟨v, hv⟩ := get_ex hlt
        obtain ⟨rfl, hbs, hc⟩ := HB.out (by intro h; subst h; simp at hlt)
        have hcv := hc k v hv
        have HE := Lib.hid hv
        have htl : (l.take k).length = k := by rw [List.length_take]; omega
        have HS : Hid (bits .or .i64 (jo (l.take k) : Int) ((bt v : Int) * 2 ^ k) = (jo (l.take (k + 1)) : Int)) := Lib.hid (by
          have := or_step (l.take k) v (by omega)
          rw [htl, ← take_snoc hv] at this
          exact this)
        have hp := pow_int (show k ≤ 62 by omega)
        have HI := shl_in v h62
        clear hc hv HB htl
        cases v
        · have HQ : Hid (jo (l.take k) = jo (l.take (k + 1))) := Lib.hid (by rw [take_snoc HE.out, jo_snoc]; simp [bt])
          go_wp2
          exact ⟨⟨k + 1, by omega, by omega, by go_num, by rw [HQ.out]⟩, by simp [intOf]; omega⟩
        · have hs := HS.out
          rw [show ((bt true : Nat) : Int) * 2 ^ k = 2 ^ k by simp [bt]] at hs
          generalize hq : (2 : Int) ^ k = q at *
          generalize (jo (l.take k) : Int) = u at *
          generalize hj : (jo (l.take (k + 1)) : Int) = u' at *
          go_wp2
          exact ⟨⟨k + 1, by omega, by omega, by go_num, by rw [hj]⟩, by simp [intOf]; omega⟩
      · obtain rfl : k = 62 := by omega
        go_wp2
        go_ret
        exact ⟨rfl, rfl⟩
    · have e : l.take k = l.take 62 := by rw [List.take_of_length_le (by omega), List.take_of_length_le (by omega)]
      go_wp2
      go_ret
      exact ⟨rfl, rfl⟩

set_option maxHeartbeats 1000000 in
theorem bools_any (A : Option Addr) (l : List Bool) (c : Nat) (A' : Option Addr) (m : List Bool) (c' : Nat) (w : World) (hA : ArrB w A l) (hlen : l.length ≤ maxLen) (hA' : ArrB w A' m) (hlen' : m.length ≤ maxLen) :
    Calls Try.prog 16 #[.slice A l.length c, .slice A' m.length c'] w fun e w' => e = .returned (.bool (decide (l = m))) ∧ Below w.heap.size w w' := by
  unfold maxLen at hlen hlen'
  by_cases hl : l.length = m.length
  · obtain ⟨b, o, hb⟩ := hA.open
    obtain ⟨b', o', hb'⟩ := hA'.open
    have HB := Lib.hid hb
    have HB' := Lib.hid hb'
    have HL := Lib.hid hl
    rw [← hl]
    clear hb hA hb' hA' hl hlen'
    go_enter Try.func16, Try.ntmps16
    go_wp2
    go_loopw [5] (fun i wr => ∃ k : Nat, k ≤ l.length ∧ i = .int .i64 (k : Int) ∧ l.take k = m.take k ∧ Below w.heap.size w wr) (fun i _ => l.length - (intOf i).toNat)
    case atStart => exact ⟨0, Nat.zero_le _, rfl, rfl, Below.refl _ _⟩
    case round =>
      obtain ⟨k, hk, rfl, hall, hbl⟩ := hrel
      have HG := Lib.hid hall
      clear hall
      by_cases hlt : k < l.length
      · obtain ⟨v, hv⟩ := get_ex hlt
        obtain ⟨u, hu⟩ := get_ex (show k < m.length by rw [← HL.out]; exact hlt)
        obtain ⟨rfl, hbs, hc⟩ := HB.out (by intro h; subst h; simp at hlt)
        obtain ⟨rfl, hbs', hc'⟩ := HB'.out (by intro h; subst h; simp at hu)
        have d0 : ∀ p : Later wr, p.val.cell? ⟨b, o + k, none⟩ = some (.bool v) := fun p => ((hbl.trans (p.below.mono hbl.size)).cell (p := ⟨b, o + k, none⟩) hbs).trans (hc k v hv)
        have d1 : ∀ p : Later wr, p.val.cell? ⟨b', o' + k, none⟩ = some (.bool u) := fun p => ((hbl.trans (p.below.mono hbl.size)).cell (p := ⟨b', o' + k, none⟩) hbs').trans (hc' k u hu)
        have HE := Lib.hid hv
        have HF := Lib.hid hu
        have HBL := Lib.hid hbl
        clear hc hv hc' hu HB HB' hbl
        cases v
        · cases u
          · go_upto_region 6 with fail
            refine wp_region_later (by kernel_rfl) (by kernel_rfl) ?_
            repeat (go_big_quiet_step (fail))
            refine wpQuiet_nil ?_
            intro _ hw'
            obtain ⟨z, hw''⟩ := hw'
            subst hw''
            have B2 := Lib.hid (HBL.out.trans (z.below.mono HBL.out.size))
            clear d0 d1
            generalize z.val = W2 at *
            go_wp2_with fail
            go_roundw
            case rel => exact ⟨k + 1, by omega, by go_num, by rw [take_snoc HE.out, take_snoc HF.out, HG.out], B2.out⟩
            case measure => simp [intOf]; omega
          · have hne : Hid (decide (l = m) = false) := Lib.hid (decide_eq_false (fun h => by
              have := HE.out
              rw [h, HF.out] at this
              cases this))
            go_upto_region 6 with fail
            refine wp_region_later (by kernel_rfl) (by kernel_rfl) ?_
            repeat (go_big_quiet_step (fail))
            refine wpQuiet_nil ?_
            intro _ hw'
            obtain ⟨z, hw''⟩ := hw'
            subst hw''
            have B2 := Lib.hid (HBL.out.trans (z.below.mono HBL.out.size))
            clear d0 d1
            generalize z.val = W2 at *
            go_wp2_with fail
            go_ret
            exact ⟨by rw [hne.out]; rfl, B2.out⟩
        · cases u
          · have hne : Hid (decide (l = m) = false) := Lib.hid (decide_eq_false (fun h => by
              have := HE.out
              rw [h, HF.out] at this
              cases this))
            go_upto_region 6 with fail
            refine wp_region_later (by kernel_rfl) (by kernel_rfl) ?_
            repeat (go_big_quiet_step (fail))
            refine wpQuiet_nil ?_
            intro _ hw'
            obtain ⟨z, hw''⟩ := hw'
            subst hw''
            have B2 := Lib.hid (HBL.out.trans (z.below.mono HBL.out.size))
            clear d0 d1
            generalize z.val = W2 at *
            go_wp2_with fail
            go_ret
            exact ⟨by rw [hne.out]; rfl, B2.out⟩
          · go_upto_region 6 with fail
            refine wp_region_later (by kernel_rfl) (by kernel_rfl) ?_
            repeat (go_big_quiet_step (fail))
            refine wpQuiet_nil ?_
            intro _ hw'
            obtain ⟨z, hw''⟩ := hw'
            subst hw''
            have B2 := Lib.hid (HBL.out.trans (z.below.mono HBL.out.size))
            clear d0 d1
            generalize z.val = W2 at *
            go_wp2_with fail
            go_roundw
            case rel => exact ⟨k + 1, by omega, by go_num, by rw [take_snoc HE.out, take_snoc HF.out, HG.out], B2.out⟩
            case measure => simp [intOf]; omega
      · have hd : Hid (decide (l = m) = true) := Lib.hid (decide_eq_true (by
          have := HG.out
          rwa [List.take_of_length_le (by omega), List.take_of_length_le (by rw [← HL.out]; omega)] at this))
        go_wp2
        go_ret
        exact ⟨by rw [hd.out]; rfl, hbl⟩
  · have hne : Hid (decide (l = m) = false) := Lib.hid (decide_eq_false (fun h => hl (by rw [h])))
    have e1 : ((l.length : Int) != (m.length : Int)) = true := by simp; omega
    have e2 : ((l.length : Int) == (m.length : Int)) = false := by simp; omega
    clear hl
    go_enter Try.func16, Try.ntmps16
    go_wp2
    go_ret
    exact ⟨by rw [hne.out]; rfl, Below.refl _ _⟩

set_option maxHeartbeats 1000000 in
theorem join_some (b o : Nat) (l : List Bool) (c : Nat) (w : World) (hc : l.length ≤ c) (hA : l ≠ [] → b < w.heap.size ∧ ∀ (j : Nat) (v : Bool), l[j]? = some v → w.cell? ⟨b, o + j, none⟩ = some (.bool v)) (hlen : c ≤ maxLen) :
    Calls Try.prog 19 #[.slice (some ⟨b, o, none⟩) l.length c] w fun e w' => e = .returned (.int .i64 (joi l : Int)) ∧ w = w' := by
  have HB := Lib.hid hA
  clear hA
  unfold maxLen at hlen
  obtain ⟨m, hm⟩ : ∃ m, m = min l.length 62 := ⟨_, rfl⟩
  have HM : Hid (l.take m = l.take 62) := Lib.hid (by
    by_cases h : l.length ≤ 62
    · rw [List.take_of_length_le (by omega), List.take_of_length_le (by omega)]
    · rw [show m = 62 by omega])
  have hm1 : m ≤ l.length := by omega
  have hm2 : m ≤ 62 := by omega
  rcases (by omega : (m = l.length ∧ l.length ≤ 62) ∨ (m = 62 ∧ 62 < l.length)) with ⟨rfl, hle⟩ | ⟨rfl, hle⟩
  · have hq : ¬ ((l.length : Int) < 0) := by omega
    clear hm
    go_enter Try.func19, Try.ntmps19
    go_wp2
    go_loop [3, 12] (fun v i => ∃ k : Nat, k ≤ l.length ∧ i = .int .i64 (k : Int) ∧ v = .int .i64 (jo (l.take k) : Int)) (fun _ i => l.length - (intOf i).toNat)
    case atStart => exact ⟨0, Nat.zero_le _, rfl, rfl⟩
    case round =>
      obtain ⟨k, hk, rfl, rfl⟩ := hrel
      by_cases hlt : k < l.length
      · obtain ⟨v, hv⟩ := get_ex (show k < l.length by omega)
        obtain ⟨hbs, hcc⟩ := HB.out (by intro h; subst h; simp at hv)
        have hcv := hcc k v hv
        have htl : (l.take k).length = k := by rw [List.length_take]; omega
        have hs : bits .or .i64 (jo (l.take k) : Int) ((bt v : Int) * 2 ^ k) = (jo (l.take (k + 1)) : Int) := by
          have := or_step (l.take k) v (by omega)
          rw [htl, ← take_snoc hv] at this
          exact this
        have hp := pow_int (show k ≤ 62 by omega)
        have hi := shl_in v (show k < 62 by omega)
        have ht := fun w => truth_any v w
        rw [bt_int] at ht
        generalize (bt v : Int) = u at *
        generalize (jo (l.take k) : Int) = y at *
        generalize hj : (jo (l.take (k + 1)) : Int) = y' at *
        clear hcc hv HB htl
        go_wp2_with (go_at_call 35; refine (ht _).mono ?_; rintro e w' ⟨rfl, rfl⟩)
        exact ⟨⟨k + 1, by omega, by go_num, by rw [hj]⟩, by simp [intOf]; omega⟩
      · obtain rfl : k = l.length := by omega
        go_wp2
        go_ret
        exact ⟨ret_num (by rw [joi_small hle]), rfl⟩
  · have hq : ¬ ((l.length : Int) < 0) := by omega
    clear hm
    go_enter Try.func19, Try.ntmps19
    go_wp2
    go_loop [3, 12] (fun v i => ∃ k : Nat, k ≤ 62 ∧ i = .int .i64 (k : Int) ∧ v = .int .i64 (jo (l.take k) : Int)) (fun _ i => 62 - (intOf i).toNat)
    case atStart => exact ⟨0, Nat.zero_le _, rfl, rfl⟩
    case round =>
      obtain ⟨k, hk, rfl, rfl⟩ := hrel
      by_cases hlt : k < 62
      · obtain ⟨v, hv⟩ := get_ex (show k < l.length by omega)
        obtain ⟨hbs, hcc⟩ := HB.out (by intro h; subst h; simp at hv)
        have hcv := hcc k v hv
        have htl : (l.take k).length = k := by rw [List.length_take]; omega
        have hs : bits .or .i64 (jo (l.take k) : Int) ((bt v : Int) * 2 ^ k) = (jo (l.take (k + 1)) : Int) := by
          have := or_step (l.take k) v (by omega)
          rw [htl, ← take_snoc hv] at this
          exact this
        have hp := pow_int (show k ≤ 62 by omega)
        have hi := shl_in v (show k < 62 by omega)
        have ht := fun w => truth_any v w
        rw [bt_int] at ht
        generalize (bt v : Int) = u at *
        generalize (jo (l.take k) : Int) = y at *
        generalize hj : (jo (l.take (k + 1)) : Int) = y' at *
        clear hcc hv HB htl
        go_wp2_with (go_at_call 35; refine (ht _).mono ?_; rintro e w' ⟨rfl, rfl⟩)
        exact ⟨⟨k + 1, by omega, by go_num, by rw [hj]⟩, by simp [intOf]; omega⟩
      · obtain rfl : k = 62 := by omega
        go_wp2
        go_ret
        exact ⟨rfl, rfl⟩

theorem join_none (w : World) :
    Calls Try.prog 19 #[.slice none 0 0] w fun e w' => e = .returned (.int .i64 (joi [] : Int)) ∧ w = w' := by
  go_enter Try.func19, Try.ntmps19
  go_wp2
  go_loop [3, 12] (fun v i => i = .int .i64 0 ∧ v = .int .i64 0) (fun _ i => 0)
  case atStart => exact ⟨rfl, rfl⟩
  case round =>
    obtain ⟨rfl, rfl⟩ := hrel
    go_wp2
    go_ret
    exact ⟨rfl, rfl⟩
theorem join_empty (a : Addr) (c : Nat) (w : World) :
    Calls Try.prog 19 #[.slice (some a) 0 c] w fun e w' => e = .returned (.int .i64 (joi [] : Int)) ∧ w = w' := by
  go_enter Try.func19, Try.ntmps19
  go_wp2
  go_loop [3, 12] (fun v i => i = .int .i64 0 ∧ v = .int .i64 0) (fun _ i => 0)
  case atStart => exact ⟨rfl, rfl⟩
  case round =>
    obtain ⟨rfl, rfl⟩ := hrel
    go_wp2
    go_ret
    exact ⟨rfl, rfl⟩
theorem join_any (A : Option Addr) (l : List Bool) (c : Nat) (w : World) (hA : ArrB w A l) (hnil : A = none → c = 0 ∧ l = []) (hc : l.length ≤ c) (hlen : c ≤ maxLen) :
    Calls Try.prog 19 #[.slice A l.length c] w fun e w' => e = .returned (.int .i64 (joi l : Int)) ∧ w = w' := by
  cases A with
  | none =>
    obtain ⟨rfl, rfl⟩ := hnil rfl
    exact join_none w
  | some a =>
    by_cases hl : l = []
    · subst hl
      exact join_empty a c w
    · obtain ⟨b, o, q⟩ := a
      obtain ⟨b', o', e, hlt, hcc⟩ := hA (by simpa using hl)
      simp only [Option.some.injEq, Addr.mk.injEq] at e
      obtain ⟨rfl, rfl, rfl⟩ := e
      exact join_some b o l c w hc (fun _ => ⟨hlt, fun j v hv => hcc j _ (by rw [List.getElem?_map, hv]; rfl)⟩) hlen

end Bt
end Go.Proofs.Ytjfijhchnchfcaa
