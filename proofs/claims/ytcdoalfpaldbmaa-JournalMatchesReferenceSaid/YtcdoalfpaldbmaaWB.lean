/- Lists of bytes, lists of numbers, lists of lists, compared as the reference compares them. -/
import Derived.Test.YtcdoalfpaldbmaaWA
namespace Go.Proofs.Ytcdoalfpaldbmaa
open Go.RowKit Sl Fr Dg
namespace Jn
set_option linter.unusedVariables false

theorem ret_bool {a b : Bool} (h : a = b) : Ending.returned (.bool a) = .returned (.bool b) := by rw [h]
theorem get_ex {α : Type} {l : List α} {j : Nat} (h : j < l.length) : ∃ v, l[j]? = some v := ⟨_, List.getElem?_eq_getElem h⟩
theorem take_snoc {α : Type} {l : List α} {j : Nat} {v : α} (h : l[j]? = some v) : l.take (j + 1) = l.take j ++ [v] := by
  rw [List.take_add_one, h]; rfl
theorem take_eq {α : Type} {l m : List α} {k : Nat} (h : l.take k = m.take k) {x : α} (hl : l[k]? = some x) (hm : m[k]? = some x) : l.take (k + 1) = m.take (k + 1) := by
  rw [take_snoc hl, take_snoc hm, h]
theorem open_gen {w : World} {A : Option Addr} {f : Int → Value} {l : List Int} (h : Arr w A (l.map f)) : ∃ b o, l ≠ [] → A = some ⟨b, o, none⟩ ∧ b < w.heap.size ∧ ∀ j x, l[j]? = some x → w.cell? ⟨b, o + j, none⟩ = some (f x) := by
  by_cases hl : l = []
  · exact ⟨0, 0, fun h => absurd hl h⟩
  · obtain ⟨b, o, e, hlt, hc⟩ := h (by simpa using hl)
    exact ⟨b, o, fun _ => ⟨e, hlt, fun j x hx => hc j _ (by rw [List.getElem?_map, hx]; rfl)⟩⟩
theorem open_u8 {w : World} {A : Option Addr} {l : List Int} (h : Arr w A (u8s l)) : ∃ b o, l ≠ [] → A = some ⟨b, o, none⟩ ∧ b < w.heap.size ∧ ∀ j x, l[j]? = some x → w.cell? ⟨b, o + j, none⟩ = some (.int .u8 x) := open_gen h
theorem open_i64 {w : World} {A : Option Addr} {l : List Int} (h : Arr w A (i64s l)) : ∃ b o, l ≠ [] → A = some ⟨b, o, none⟩ ∧ b < w.heap.size ∧ ∀ j x, l[j]? = some x → w.cell? ⟨b, o + j, none⟩ = some (.int .i64 x) := open_gen h

/-- A slice of slices reads as these lists. -/
def LL (w : World) (A : Option Addr) (rs : List (List Int)) : Prop :=
  rs ≠ [] → ∃ b o, A = some ⟨b, o, none⟩ ∧ b < w.heap.size ∧ ∀ j r, rs[j]? = some r → ∃ A' c, w.cell? ⟨b, o + j, none⟩ = some (.slice A' r.length c) ∧ r.length ≤ c ∧ Arr w A' (i64s r)
theorem LL.keep {w w' : World} {A : Option Addr} {rs : List (List Int)} (h : LL w A rs) (hb : Below w.heap.size w w') : LL w' A rs := fun hne => by
  obtain ⟨b, o, e, hlt, hc⟩ := h hne
  refine ⟨b, o, e, Nat.lt_of_lt_of_le hlt hb.size, fun j r hr => ?_⟩
  obtain ⟨A', c, h1, h2, h3⟩ := hc j r hr
  exact ⟨A', c, (hb.cell (p := ⟨b, o + j, none⟩) hlt).trans h1, h2, h3.keep hb⟩
theorem LL.open_ {w : World} {A : Option Addr} {rs : List (List Int)} (h : LL w A rs) : ∃ b o, rs ≠ [] → A = some ⟨b, o, none⟩ ∧ b < w.heap.size ∧ ∀ j r, rs[j]? = some r → ∃ A' c, w.cell? ⟨b, o + j, none⟩ = some (.slice A' r.length c) ∧ r.length ≤ c ∧ Arr w A' (i64s r) := by
  by_cases hl : rs = []
  · exact ⟨0, 0, fun h => absurd hl h⟩
  · obtain ⟨b, o, h'⟩ := h hl
    exact ⟨b, o, fun _ => h'⟩
theorem LL.take {w : World} {A : Option Addr} {rs : List (List Int)} (h : LL w A rs) (n : Nat) : LL w A (rs.take n) := fun hne => by
  obtain ⟨b, o, e, hlt, hc⟩ := h (by intro e; rw [e] at hne; simp at hne)
  exact ⟨b, o, e, hlt, fun j r hr => hc j r (by rw [List.getElem?_take] at hr; split at hr; exact hr; cases hr)⟩
theorem LL.nil (w : World) (A : Option Addr) : LL w A [] := fun h => absurd rfl h

/-- What Read gives: its records as lists, its rest. -/
def GiveR (w : World) (rs : List (List Int)) (rest : List Int) (e : Ending) (w' : World) : Prop :=
  ∃ A c B d, e = .returned (.tuple #[.slice A rs.length c, .slice B rest.length d, .int .i64 (if rest = [] then 0 else 60)]) ∧ rs.length ≤ c ∧ LL w' A rs ∧ rest.length ≤ d ∧ (B = none → rest = [] ∧ d = 0) ∧ ArrF w' w.heap.size B (u8s rest) ∧ Below w.heap.size w w'
theorem giveR_of {w w' : World} {rs : List (List Int)} {rest : List Int} {e : Ending} (h : GiveRd w rs rest e w') : GiveR w rs rest e w' := by
  obtain ⟨v, xs, B, d, rfl, rfl, h1, h2, h3, h4, h5, h6⟩ := h
  obtain ⟨A, c, rfl, g2, g3, g4, _⟩ := row_forms h1
  refine ⟨A, c, B, d, by rw [List.length_map], by rw [List.length_map]; exact g2, fun hne => ?_, h3, h4, h5, h6⟩
  obtain ⟨b, o, e, _, hlt, hc⟩ := g4 (by simpa using hne)
  refine ⟨b, o, e, hlt, fun j r hr => ?_⟩
  rw [List.getElem?_map, Option.map_eq_some_iff] at hr
  obtain ⟨x, hx, rfl⟩ := hr
  obtain ⟨A', c', q1, q2, q3⟩ := h2 x (List.mem_of_getElem? hx)
  exact ⟨A', c', by rw [← q1]; exact hc j _ (by rw [List.getElem?_map, hx]; rfl), q2, q3.arr⟩

set_option maxRecDepth 100000 in
set_option maxHeartbeats 1000000 in
theorem same_any (A B : Option Addr) (l m : List Int) (c d : Nat) (w : World) (hA : Arr w A (u8s l)) (hB : Arr w B (u8s m)) (hl : l.length ≤ 1000000) (hm : m.length ≤ 1000000) :
    Calls Try.prog 17 #[.slice A l.length c, .slice B m.length d] w fun e w' => e = .returned (.bool (decide (l = m))) ∧ Below w.heap.size w w' := by
  by_cases hlm : l.length = m.length
  case neg =>
    have hd : ((l.length : Int) != (m.length : Int)) = true := by simp; omega
    have HN : Hid (decide (l = m) = false) := Lib.hid (decide_eq_false fun e => hlm (by rw [e]))
    clear hlm
    go_enter Try.func17, Try.ntmps17
    go_wp2
    go_ret
    exact ⟨ret_bool HN.out.symm, Below.refl _ _⟩
  obtain ⟨b, o, hb⟩ := open_u8 hA
  obtain ⟨b', o', hb'⟩ := open_u8 hB
  have HA := Lib.hid hb
  have HB := Lib.hid hb'
  have HLM := Lib.hid hlm
  have hd0 : ((l.length : Int) != (l.length : Int)) = false := by simp
  rw [← hlm]
  clear hb hb' hA hB hlm
  go_enter Try.func17, Try.ntmps17
  go_wp2
  go_loopg [5] l.length (fun g i wr => ∃ k : Nat, i = .int .i64 k ∧ k ≤ l.length ∧ g = l.length - k ∧ l.take k = m.take k ∧ Below w.heap.size w wr)
  case atStart => exact ⟨0, rfl, Nat.zero_le _, rfl, by simp, Below.refl _ _⟩
  case round =>
    obtain ⟨k, rfl, hk, rfl, heq, hbl⟩ := hrel
    have HEQ := Lib.hid heq
    have hbs := hbl.size
    clear heq
    by_cases hlt : k < l.length
    · obtain ⟨x, hx⟩ := get_ex hlt
      obtain ⟨y, hy⟩ := get_ex (l := m) (j := k) (by have := HLM.out; omega)
      obtain ⟨rfl, hbs1, hc⟩ := HA.out (by intro h; subst h; simp at hlt)
      obtain ⟨rfl, hbs2, hc'⟩ := HB.out (by intro h; subst h; simp at hy)
      have hcx : ∀ p : Later wr, p.val.cell? ⟨b, o + k, none⟩ = some (.int .u8 x) := fun p => (p.below.cell (p := ⟨b, o + k, none⟩) (by show b < _; omega)).trans ((hbl.cell (p := ⟨b, o + k, none⟩) hbs1).trans (hc k x hx))
      have hcy : ∀ p : Later wr, p.val.cell? ⟨b', o' + k, none⟩ = some (.int .u8 y) := fun p => (p.below.cell (p := ⟨b', o' + k, none⟩) (by show b' < _; omega)).trans ((hbl.cell (p := ⟨b', o' + k, none⟩) hbs2).trans (hc' k y hy))
      have HX := Lib.hid hx
      have HY := Lib.hid hy
      have hk1 : (0 : Int) ≤ (k : Int) := Int.natCast_nonneg _
      clear hc hc' hx hy HA HB
      by_cases hxy : x = y
      · have hd : (x != y) = false := by simpa using hxy
        have HXY := Lib.hid hxy
        clear hxy
        go_upto_region 6 with fail
        refine wp_region_later (by kernel_rfl) (by kernel_rfl) ?_
        repeat (go_big_quiet_step (fail))
        refine wpQuiet_nil ?_
        intro _ hw'
        obtain ⟨z, hw''⟩ := hw'
        subst hw''
        have hbz := hbl.trans (z.below.mono hbs)
        go_wp2
        go_roundg (l.length - (k + 1))
        case measure => omega
        case rel => exact ⟨k + 1, by go_num, by omega, rfl, take_eq HEQ.out HX.out (by rw [HXY.out]; exact HY.out), hbz⟩
      · have hd : (x != y) = true := by simpa using hxy
        have HXY := Lib.hid hxy
        clear hxy
        go_upto_region 6 with fail
        refine wp_region_later (by kernel_rfl) (by kernel_rfl) ?_
        repeat (go_big_quiet_step (fail))
        refine wpQuiet_nil ?_
        intro _ hw'
        obtain ⟨z, hw''⟩ := hw'
        subst hw''
        have hbz := hbl.trans (z.below.mono hbs)
        go_wp2
        go_ret
        refine ⟨?_, hbz⟩
        have : decide (l = m) = false := decide_eq_false fun e => HXY.out (by have h1 := HX.out; rw [e, HY.out] at h1; exact (Option.some.inj h1).symm)
        exact ret_bool this.symm
    · go_wp2
      go_ret
      refine ⟨?_, hbl⟩
      have heq := HEQ.out
      rw [List.take_of_length_le (by omega), List.take_of_length_le (by have := HLM.out; omega)] at heq
      exact ret_bool (decide_eq_true heq).symm

set_option maxRecDepth 100000 in
set_option maxHeartbeats 1000000 in
theorem ints_any (A B : Option Addr) (l m : List Int) (c d : Nat) (w : World) (hA : Arr w A (i64s l)) (hB : Arr w B (i64s m)) (hl : l.length ≤ 1000000) (hm : m.length ≤ 1000000) :
    Calls Try.prog 29 #[.slice A l.length c, .slice B m.length d] w fun e w' => e = .returned (.bool (decide (l = m))) ∧ Below w.heap.size w w' := by
  by_cases hlm : l.length = m.length
  case neg =>
    have hd : ((l.length : Int) != (m.length : Int)) = true := by simp; omega
    have HN : Hid (decide (l = m) = false) := Lib.hid (decide_eq_false fun e => hlm (by rw [e]))
    clear hlm
    go_enter Try.func29, Try.ntmps29
    go_wp2
    go_ret
    exact ⟨ret_bool HN.out.symm, Below.refl _ _⟩
  obtain ⟨b, o, hb⟩ := open_i64 hA
  obtain ⟨b', o', hb'⟩ := open_i64 hB
  have HA := Lib.hid hb
  have HB := Lib.hid hb'
  have HLM := Lib.hid hlm
  have hd0 : ((l.length : Int) != (l.length : Int)) = false := by simp
  rw [← hlm]
  clear hb hb' hA hB hlm
  go_enter Try.func29, Try.ntmps29
  go_wp2
  go_loopg [5] l.length (fun g i wr => ∃ k : Nat, i = .int .i64 k ∧ k ≤ l.length ∧ g = l.length - k ∧ l.take k = m.take k ∧ Below w.heap.size w wr)
  case atStart => exact ⟨0, rfl, Nat.zero_le _, rfl, by simp, Below.refl _ _⟩
  case round =>
    obtain ⟨k, rfl, hk, rfl, heq, hbl⟩ := hrel
    have HEQ := Lib.hid heq
    have hbs := hbl.size
    clear heq
    by_cases hlt : k < l.length
    · obtain ⟨x, hx⟩ := get_ex hlt
      obtain ⟨y, hy⟩ := get_ex (l := m) (j := k) (by have := HLM.out; omega)
      obtain ⟨rfl, hbs1, hc⟩ := HA.out (by intro h; subst h; simp at hlt)
      obtain ⟨rfl, hbs2, hc'⟩ := HB.out (by intro h; subst h; simp at hy)
      have hcx : ∀ p : Later wr, p.val.cell? ⟨b, o + k, none⟩ = some (.int .i64 x) := fun p => (p.below.cell (p := ⟨b, o + k, none⟩) (by show b < _; omega)).trans ((hbl.cell (p := ⟨b, o + k, none⟩) hbs1).trans (hc k x hx))
      have hcy : ∀ p : Later wr, p.val.cell? ⟨b', o' + k, none⟩ = some (.int .i64 y) := fun p => (p.below.cell (p := ⟨b', o' + k, none⟩) (by show b' < _; omega)).trans ((hbl.cell (p := ⟨b', o' + k, none⟩) hbs2).trans (hc' k y hy))
      have HX := Lib.hid hx
      have HY := Lib.hid hy
      have hk1 : (0 : Int) ≤ (k : Int) := Int.natCast_nonneg _
      clear hc hc' hx hy HA HB
      by_cases hxy : x = y
      · have hd : (x != y) = false := by simpa using hxy
        have HXY := Lib.hid hxy
        clear hxy
        go_upto_region 6 with fail
        refine wp_region_later (by kernel_rfl) (by kernel_rfl) ?_
        repeat (go_big_quiet_step (fail))
        refine wpQuiet_nil ?_
        intro _ hw'
        obtain ⟨z, hw''⟩ := hw'
        subst hw''
        have hbz := hbl.trans (z.below.mono hbs)
        go_wp2
        go_roundg (l.length - (k + 1))
        case measure => omega
        case rel => exact ⟨k + 1, by go_num, by omega, rfl, take_eq HEQ.out HX.out (by rw [HXY.out]; exact HY.out), hbz⟩
      · have hd : (x != y) = true := by simpa using hxy
        have HXY := Lib.hid hxy
        clear hxy
        go_upto_region 6 with fail
        refine wp_region_later (by kernel_rfl) (by kernel_rfl) ?_
        repeat (go_big_quiet_step (fail))
        refine wpQuiet_nil ?_
        intro _ hw'
        obtain ⟨z, hw''⟩ := hw'
        subst hw''
        have hbz := hbl.trans (z.below.mono hbs)
        go_wp2
        go_ret
        refine ⟨?_, hbz⟩
        have : decide (l = m) = false := decide_eq_false fun e => HXY.out (by have h1 := HX.out; rw [e, HY.out] at h1; exact (Option.some.inj h1).symm)
        exact ret_bool this.symm
    · go_wp2
      go_ret
      refine ⟨?_, hbl⟩
      have heq := HEQ.out
      rw [List.take_of_length_le (by omega), List.take_of_length_le (by have := HLM.out; omega)] at heq
      exact ret_bool (decide_eq_true heq).symm

set_option maxRecDepth 100000 in
set_option maxHeartbeats 1000000 in
theorem records_same (A B : Option Addr) (l m : List (List Int)) (c d : Nat) (w : World) (hA : LL w A l) (hB : LL w B m) (hl : l.length ≤ 1000000) (hm : m.length ≤ 1000000) (hl2 : ∀ x ∈ l, x.length ≤ 1000000) (hm2 : ∀ x ∈ m, x.length ≤ 1000000) :
    Calls Try.prog 16 #[.slice A l.length c, .slice B m.length d] w fun e w' => e = .returned (.bool (decide (l = m))) ∧ Below w.heap.size w w' := by
  by_cases hlm : l.length = m.length
  case neg =>
    have hd : ((l.length : Int) != (m.length : Int)) = true := by simp; omega
    have HN : Hid (decide (l = m) = false) := Lib.hid (decide_eq_false fun e => hlm (by rw [e]))
    clear hlm
    go_enter Try.func16, Try.ntmps16
    go_wp2
    go_ret
    exact ⟨ret_bool HN.out.symm, Below.refl _ _⟩
  obtain ⟨b, o, hb⟩ := hA.open_
  obtain ⟨b', o', hb'⟩ := hB.open_
  have HA := Lib.hid hb
  have HB := Lib.hid hb'
  have HLM := Lib.hid hlm
  have HL2 := Lib.hid hl2
  have HM2 := Lib.hid hm2
  have hd0 : ((l.length : Int) != (l.length : Int)) = false := by simp
  rw [← hlm]
  clear hb hb' hA hB hlm hl2 hm2
  go_enter Try.func16, Try.ntmps16
  go_wp2
  go_loopg [5] l.length (fun g i wr => ∃ k : Nat, i = .int .i64 k ∧ k ≤ l.length ∧ g = l.length - k ∧ l.take k = m.take k ∧ Below w.heap.size w wr)
  case atStart => exact ⟨0, rfl, Nat.zero_le _, rfl, by simp, Below.refl _ _⟩
  case round =>
    obtain ⟨k, rfl, hk, rfl, heq, hbl⟩ := hrel
    have HEQ := Lib.hid heq
    have hbs := hbl.size
    clear heq
    by_cases hlt : k < l.length
    · obtain ⟨x, hx⟩ := get_ex hlt
      obtain ⟨y, hy⟩ := get_ex (l := m) (j := k) (by have := HLM.out; omega)
      obtain ⟨rfl, hbs1, hc⟩ := HA.out (by intro h; subst h; simp at hlt)
      obtain ⟨rfl, hbs2, hc'⟩ := HB.out (by intro h; subst h; simp at hy)
      obtain ⟨A2, c2, h1, h2, h3⟩ := hc k x hx
      obtain ⟨B2, d2, g1, g2, g3⟩ := hc' k y hy
      have hcx : ∀ p : Later wr, p.val.cell? ⟨b, o + k, none⟩ = some (.slice A2 x.length c2) := fun p => (p.below.cell (p := ⟨b, o + k, none⟩) (by show b < _; omega)).trans ((hbl.cell (p := ⟨b, o + k, none⟩) hbs1).trans h1)
      have hcy : ∀ p : Later wr, p.val.cell? ⟨b', o' + k, none⟩ = some (.slice B2 y.length d2) := fun p => (p.below.cell (p := ⟨b', o' + k, none⟩) (by show b' < _; omega)).trans ((hbl.cell (p := ⟨b', o' + k, none⟩) hbs2).trans g1)
      have hS : Hid (∀ p : Later wr, Calls Try.prog 29 #[.slice A2 x.length c2, .slice B2 y.length d2] p.val fun e w' => e = .returned (.bool (decide (x = y))) ∧ Below p.val.heap.size p.val w') := Lib.hid fun p =>
        ints_any _ _ x y _ _ _ ((h3.keep hbl).keep p.below) ((g3.keep hbl).keep p.below) (HL2.out x (List.mem_of_getElem? hx)) (HM2.out y (List.mem_of_getElem? hy))
      have HX := Lib.hid hx
      have HY := Lib.hid hy
      have hk1 : (0 : Int) ≤ (k : Int) := Int.natCast_nonneg _
      clear hc hc' hx hy HA HB h1 h2 h3 g1 g2 g3
      by_cases hxy : x = y
      · have hd : decide (x = y) = true := decide_eq_true hxy
        have HXY := Lib.hid hxy
        rw [hd] at hS
        clear hxy
        go_upto_region 6 with fail
        refine wp_region_later (by kernel_rfl) (by kernel_rfl) ?_
        repeat (go_big_quiet_step (((go_at_call 29; with_reducible exact later_of (hS.out _)))))
        refine wpQuiet_nil ?_
        intro _ hw'
        obtain ⟨z, hw''⟩ := hw'
        subst hw''
        have hbz := hbl.trans (z.below.mono hbs)
        go_wp2
        go_roundg (l.length - (k + 1))
        case measure => omega
        case rel => exact ⟨k + 1, by go_num, by omega, rfl, take_eq HEQ.out HX.out (by rw [HXY.out]; exact HY.out), hbz⟩
      · have hd : decide (x = y) = false := decide_eq_false hxy
        have HXY := Lib.hid hxy
        rw [hd] at hS
        clear hxy
        go_upto_region 6 with fail
        refine wp_region_later (by kernel_rfl) (by kernel_rfl) ?_
        repeat (go_big_quiet_step (((go_at_call 29; with_reducible exact later_of (hS.out _)))))
        refine wpQuiet_nil ?_
        intro _ hw'
        obtain ⟨z, hw''⟩ := hw'
        subst hw''
        have hbz := hbl.trans (z.below.mono hbs)
        go_wp2
        go_ret
        refine ⟨?_, hbz⟩
        have : decide (l = m) = false := decide_eq_false fun e => HXY.out (by have h1 := HX.out; rw [e, HY.out] at h1; exact (Option.some.inj h1).symm)
        exact ret_bool this.symm
    · go_wp2
      go_ret
      refine ⟨?_, hbl⟩
      have heq := HEQ.out
      rw [List.take_of_length_le (by omega), List.take_of_length_le (by have := HLM.out; omega)] at heq
      exact ret_bool (decide_eq_true heq).symm

end Jn
end Go.Proofs.Ytcdoalfpaldbmaa
