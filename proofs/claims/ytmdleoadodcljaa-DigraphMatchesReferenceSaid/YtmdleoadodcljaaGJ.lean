/- What In, Same, SameLists, Alike and edge return. -/
import Derived.Test.YtmdleoadodcljaaGI
namespace Go.Proofs.Ytmdleoadodcljaa
open Go.RowKit Sl Fr
namespace Gp
set_option linter.unusedVariables false

set_option maxRecDepth 100000 in
set_option maxHeartbeats 1000000 in
theorem in_any (A : Option Addr) (l : List Nat) (c v base : Nat) (w : World) (hA : Row w base A l) (hl : l.length ≤ 1000) (hv : v ≤ 1000) :
    Calls Try.prog 37 #[.slice A l.length c, .int .i64 v] w fun e w' => e = .returned (.bool (l.contains v)) ∧ Below w.heap.size w w' := by
  obtain ⟨b, o, hb⟩ := hA.open
  have HB := Lib.hid hb
  clear hb hA
  go_enter Try.func37, Try.ntmps37
  go_wp2
  go_loopg [5] l.length (fun g i wr => ∃ k : Nat, i = .int .i64 k ∧ k ≤ l.length ∧ g = l.length - k ∧ v ∉ l.take k ∧ Below w.heap.size w wr)
  case atStart => exact ⟨0, rfl, Nat.zero_le _, rfl, by simp, Below.refl _ _⟩
  case round =>
    obtain ⟨k, rfl, hk, rfl, hno, hbl⟩ := hrel
    have HNO := Lib.hid hno
    clear hno
    by_cases hlt : k < l.length
    · obtain ⟨x, hx⟩ := get_ex hlt
      obtain ⟨rfl, _, hbs, hc⟩ := HB.out (by intro h; subst h; simp at hlt)
      have hcx := (hbl.cell (p := ⟨b, o + k, none⟩) hbs).trans (hc k x hx)
      have HX := Lib.hid hx
      clear hc hx HB
      by_cases hxv : x = v
      · have hd : ((x : Int) == (v : Int)) = true := by simp; omega
        have HXV := Lib.hid hxv
        clear hxv
        go_wp2
        go_ret
        refine ⟨?_, hbl⟩
        have : l.contains v = true := by rw [List.contains_iff_mem, ← HXV.out]; exact List.mem_of_getElem? HX.out
        exact ret_bool this.symm
      · have hd : ((x : Int) == (v : Int)) = false := by simp; omega
        have HXV := Lib.hid hxv
        clear hxv
        go_wp2
        go_roundg (l.length - (k + 1))
        case measure => omega
        case rel =>
          refine ⟨k + 1, by go_num, by omega, rfl, fun hm => ?_, hbl⟩
          rw [take_snoc HX.out] at hm
          rcases List.mem_append.1 hm with hm | hm
          · exact HNO.out hm
          · exact HXV.out (by simpa using Eq.symm (by simpa using hm))
    · go_wp2
      go_ret
      refine ⟨?_, hbl⟩
      have hno := HNO.out
      rw [List.take_of_length_le (by omega)] at hno
      have : l.contains v = false := by rw [Bool.eq_false_iff, ne_eq, List.contains_iff_mem]; exact hno
      exact ret_bool this.symm

theorem take_eq {α : Type} {l m : List α} {k : Nat} (h : l.take k = m.take k) {x : α} (hl : l[k]? = some x) (hm : m[k]? = some x) : l.take (k + 1) = m.take (k + 1) := by
  rw [take_snoc hl, take_snoc hm, h]
set_option maxRecDepth 100000 in
set_option maxHeartbeats 1000000 in
theorem same_any (A B : Option Addr) (l m : List Nat) (c d b1 b2 : Nat) (w : World) (hA : Row w b1 A l) (hB : Row w b2 B m) (hl : l.length ≤ 1000) (hm : m.length ≤ 1000) :
    Calls Try.prog 17 #[.slice A l.length c, .slice B m.length d] w fun e w' => e = .returned (.bool (decide (l = m))) ∧ Below w.heap.size w w' := by
  by_cases hlm : l.length = m.length
  case neg =>
    have hd : ((l.length : Int) != (m.length : Int)) = true := by simp; omega
    have HN : Hid (decide (l = m) = false) := Lib.hid (decide_eq_false fun e => hlm (by rw [e]))
    clear hlm
    go_enter Try.func17, Try.ntmps17
    go_wp2
    go_ret
    exact ⟨ret_bool HN.out.symm, Below.refl _ _⟩
  obtain ⟨b, o, hb⟩ := hA.open
  obtain ⟨b', o', hb'⟩ := hB.open
  have HA := Lib.hid hb
  have HB := Lib.hid hb'
  have HLM := Lib.hid hlm
  have hd0 : ((l.length : Int) != (l.length : Int)) = false := by simp
  rw [← hlm]
  clear hb hb' hA hB hlm
  go_enter Try.func17, Try.ntmps17
  go_wp2
  go_loopg [5] l.length (fun g i wr => ∃ k : Nat, i = .int .i64 k ∧ k ≤ l.length ∧ g = l.length - k ∧ l.take k = m.take k ∧ Below w.heap.size w wr)
  case atStart => exact ⟨0, rfl, Nat.zero_le _, rfl, by simp, Below.refl _ _⟩
  case round =>
    obtain ⟨k, rfl, hk, rfl, heq, hbl⟩ := hrel
    have HEQ := Lib.hid heq
    have hbs := hbl.size
    clear heq
    by_cases hlt : k < l.length
    · obtain ⟨x, hx⟩ := get_ex hlt
      obtain ⟨y, hy⟩ := get_ex (l := m) (j := k) (by have := HLM.out; omega)
      obtain ⟨rfl, _, hbs1, hc⟩ := HA.out (by intro h; subst h; simp at hlt)
      obtain ⟨rfl, _, hbs2, hc'⟩ := HB.out (by intro h; subst h; simp at hy)
      have hcx : ∀ p : Later wr, p.val.cell? ⟨b, o + k, none⟩ = some (.int .i64 (x : Int)) := fun p => (p.below.cell (p := ⟨b, o + k, none⟩) (by show b < _; omega)).trans ((hbl.cell (p := ⟨b, o + k, none⟩) hbs1).trans (hc k x hx))
      have hcy : ∀ p : Later wr, p.val.cell? ⟨b', o' + k, none⟩ = some (.int .i64 (y : Int)) := fun p => (p.below.cell (p := ⟨b', o' + k, none⟩) (by show b' < _; omega)).trans ((hbl.cell (p := ⟨b', o' + k, none⟩) hbs2).trans (hc' k y hy))
      have HX := Lib.hid hx
      have HY := Lib.hid hy
      have hk1 : (0 : Int) ≤ (k : Int) := Int.natCast_nonneg _
      clear hc hc' hx hy HA HB
      by_cases hxy : x = y
      · have hd : ((x : Int) != (y : Int)) = false := by simp; omega
        have HXY := Lib.hid hxy
        clear hxy
        go_upto_region 6 with fail
        refine wp_region_later (by kernel_rfl) (by kernel_rfl) ?_
        repeat (go_big_quiet_step (fail))
        refine wpQuiet_nil ?_
        intro _ hw'
        obtain ⟨z, hw''⟩ := hw'
        subst hw''
        have hbz := hbl.trans (z.below.mono hbs)
        go_wp2
        go_roundg (l.length - (k + 1))
        case measure => omega
        case rel => exact ⟨k + 1, by go_num, by omega, rfl, take_eq HEQ.out HX.out (by rw [HXY.out]; exact HY.out), hbz⟩
      · have hd : ((x : Int) != (y : Int)) = true := by simp; omega
        have HXY := Lib.hid hxy
        clear hxy
        go_upto_region 6 with fail
        refine wp_region_later (by kernel_rfl) (by kernel_rfl) ?_
        repeat (go_big_quiet_step (fail))
        refine wpQuiet_nil ?_
        intro _ hw'
        obtain ⟨z, hw''⟩ := hw'
        subst hw''
        have hbz := hbl.trans (z.below.mono hbs)
        go_wp2
        go_ret
        refine ⟨?_, hbz⟩
        have : decide (l = m) = false := decide_eq_false fun e => HXY.out (by have h1 := HX.out; rw [e, HY.out] at h1; exact (Option.some.inj h1).symm)
        exact ret_bool this.symm
    · go_wp2
      go_ret
      refine ⟨?_, hbl⟩
      have heq := HEQ.out
      rw [List.take_of_length_le (by omega), List.take_of_length_le (by have := HLM.out; omega)] at heq
      exact ret_bool (decide_eq_true heq).symm

set_option maxRecDepth 100000 in
set_option maxHeartbeats 1000000 in
theorem samel_any (A B : Option Addr) (l m : List (List Nat)) (c d b1 b2 : Nat) (w : World) (hA : Rows w b1 A l) (hB : Rows w b2 B m) (hl : l.length ≤ 1000) (hm : m.length ≤ 1000) (hl2 : ∀ x ∈ l, x.length ≤ 1000) (hm2 : ∀ x ∈ m, x.length ≤ 1000) :
    Calls Try.prog 20 #[.slice A l.length c, .slice B m.length d] w fun e w' => e = .returned (.bool (decide (l = m))) ∧ Below w.heap.size w w' := by
  by_cases hlm : l.length = m.length
  case neg =>
    have hd : ((l.length : Int) != (m.length : Int)) = true := by simp; omega
    have HN : Hid (decide (l = m) = false) := Lib.hid (decide_eq_false fun e => hlm (by rw [e]))
    clear hlm
    go_enter Try.func20, Try.ntmps20
    go_wp2
    go_ret
    exact ⟨ret_bool HN.out.symm, Below.refl _ _⟩
  obtain ⟨b, o, hb⟩ := hA.open
  obtain ⟨b', o', hb'⟩ := hB.open
  have HA := Lib.hid hb
  have HB := Lib.hid hb'
  have HLM := Lib.hid hlm
  have HL2 := Lib.hid hl2
  have HM2 := Lib.hid hm2
  have hd0 : ((l.length : Int) != (l.length : Int)) = false := by simp
  rw [← hlm]
  clear hb hb' hA hB hlm hl2 hm2
  go_enter Try.func20, Try.ntmps20
  go_wp2
  go_loopg [5] l.length (fun g i wr => ∃ k : Nat, i = .int .i64 k ∧ k ≤ l.length ∧ g = l.length - k ∧ l.take k = m.take k ∧ Below w.heap.size w wr)
  case atStart => exact ⟨0, rfl, Nat.zero_le _, rfl, by simp, Below.refl _ _⟩
  case round =>
    obtain ⟨k, rfl, hk, rfl, heq, hbl⟩ := hrel
    have HEQ := Lib.hid heq
    have hbs := hbl.size
    clear heq
    by_cases hlt : k < l.length
    · obtain ⟨x, hx⟩ := get_ex hlt
      obtain ⟨y, hy⟩ := get_ex (l := m) (j := k) (by have := HLM.out; omega)
      obtain ⟨rfl, _, hbs1, hc⟩ := HA.out (by intro h; subst h; simp at hlt)
      obtain ⟨rfl, _, hbs2, hc'⟩ := HB.out (by intro h; subst h; simp at hy)
      obtain ⟨A2, c2, h1, h2, h3⟩ := hc k x hx
      obtain ⟨B2, d2, g1, g2, g3⟩ := hc' k y hy
      have hcx : ∀ p : Later wr, p.val.cell? ⟨b, o + k, none⟩ = some (.slice A2 x.length c2) := fun p => (p.below.cell (p := ⟨b, o + k, none⟩) (by show b < _; omega)).trans ((hbl.cell (p := ⟨b, o + k, none⟩) hbs1).trans h1)
      have hcy : ∀ p : Later wr, p.val.cell? ⟨b', o' + k, none⟩ = some (.slice B2 y.length d2) := fun p => (p.below.cell (p := ⟨b', o' + k, none⟩) (by show b' < _; omega)).trans ((hbl.cell (p := ⟨b', o' + k, none⟩) hbs2).trans g1)
      have hS : Hid (∀ p : Later wr, Calls Try.prog 17 #[.slice A2 x.length c2, .slice B2 y.length d2] p.val fun e w' => e = .returned (.bool (decide (x = y))) ∧ Below p.val.heap.size p.val w') := Lib.hid fun p =>
        same_any _ _ x y _ _ _ _ _ ((h3.keep hbl).keep p.below) ((g3.keep hbl).keep p.below) (HL2.out x (List.mem_of_getElem? hx)) (HM2.out y (List.mem_of_getElem? hy))
      have HX := Lib.hid hx
      have HY := Lib.hid hy
      have hk1 : (0 : Int) ≤ (k : Int) := Int.natCast_nonneg _
      clear hc hc' hx hy HA HB h1 h2 h3 g1 g2 g3
      by_cases hxy : x = y
      · have hd : decide (x = y) = true := decide_eq_true hxy
        have HXY := Lib.hid hxy
        rw [hd] at hS
        clear hxy
        go_upto_region 6 with fail
        refine wp_region_later (by kernel_rfl) (by kernel_rfl) ?_
        repeat (go_big_quiet_step (((go_at_call 17; with_reducible exact later_of (hS.out _)))))
        refine wpQuiet_nil ?_
        intro _ hw'
        obtain ⟨z, hw''⟩ := hw'
        subst hw''
        have hbz := hbl.trans (z.below.mono hbs)
        go_wp2
        go_roundg (l.length - (k + 1))
        case measure => omega
        case rel => exact ⟨k + 1, by go_num, by omega, rfl, take_eq HEQ.out HX.out (by rw [HXY.out]; exact HY.out), hbz⟩
      · have hd : decide (x = y) = false := decide_eq_false hxy
        have HXY := Lib.hid hxy
        rw [hd] at hS
        clear hxy
        go_upto_region 6 with fail
        refine wp_region_later (by kernel_rfl) (by kernel_rfl) ?_
        repeat (go_big_quiet_step (((go_at_call 17; with_reducible exact later_of (hS.out _)))))
        refine wpQuiet_nil ?_
        intro _ hw'
        obtain ⟨z, hw''⟩ := hw'
        subst hw''
        have hbz := hbl.trans (z.below.mono hbs)
        go_wp2
        go_ret
        refine ⟨?_, hbz⟩
        have : decide (l = m) = false := decide_eq_false fun e => HXY.out (by have h1 := HX.out; rw [e, HY.out] at h1; exact (Option.some.inj h1).symm)
        exact ret_bool this.symm
    · go_wp2
      go_ret
      refine ⟨?_, hbl⟩
      have heq := HEQ.out
      rw [List.take_of_length_le (by omega), List.take_of_length_le (by have := HLM.out; omega)] at heq
      exact ret_bool (decide_eq_true heq).symm

set_option maxRecDepth 100000 in
set_option maxHeartbeats 1000000 in
theorem alike_any (A B : Option Addr) (l m : List Nat) (c d b1 b2 : Nat) (x y : Int) (w : World) (hA : Row w b1 A l) (hB : Row w b2 B m) (hl : l.length ≤ 1000) (hm : m.length ≤ 1000) :
    Calls Try.prog 8 #[.agg #[.slice A l.length c, .int .i64 x], .agg #[.slice B m.length d, .int .i64 y]] w fun e w' => e = .returned (.bool (decide (x = y ∧ l = m))) ∧ Below w.heap.size w w' := by
  have HA := Lib.hid hA
  have HB := Lib.hid hB
  have hbA : Below w.heap.size w ((w.alloc (.cells #[.slice A l.length c, .int .i64 x] 37)).alloc (.cells #[.slice B m.length d, .int .i64 y] 37)) := ((Below.refl _ w).alloc (Nat.le_refl _) _).alloc (by simp) _
  have HBA := Lib.hid hbA
  clear hA hB hbA
  by_cases hxy : x = y
  · have hd : (x == y) = true := by simpa using hxy
    have HXY := Lib.hid hxy
    clear hxy
    go_enter Try.func8, Try.ntmps8
    go_wp2_with (go_at_call 17; refine (same_any _ _ l m _ _ _ _ _ (HA.out.keep HBA.out) (HB.out.keep HBA.out) hl hm).mono ?_; rintro e w1 ⟨rfl, hb1⟩)
    go_ret
    exact ⟨ret_bool (by simp [HXY.out]), HBA.out.trans (hb1.mono (by simp; omega))⟩
  · have hd : (x == y) = false := by simpa using hxy
    have HXY := Lib.hid hxy
    clear hxy
    go_enter Try.func8, Try.ntmps8
    go_wp2
    go_ret
    exact ⟨ret_bool (by simp [HXY.out]), HBA.out⟩

end Gp
end Go.Proofs.Ytmdleoadodcljaa
