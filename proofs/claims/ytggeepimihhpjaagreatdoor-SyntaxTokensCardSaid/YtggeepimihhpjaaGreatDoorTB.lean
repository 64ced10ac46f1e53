/- The printer's list, for each of its three closures. -/
import Derived.Test.YtggeepimihhpjaaGreatDoorT9
namespace Go.Proofs.YtggeepimihhpjaaGreatDoor
open Go.RowKit Go.Shelf Go.Lib Sl Fr Lx
namespace Sy
set_option linter.unusedVariables false
set_option linter.unusedSimpArgs false

theorem tailX_app (a b : List (Option By)) : tailX (a ++ b) = catO (tailX a) (tailX b) := by
  induction a with
  | nil => exact (nil_catO _).symm
  | cons x r ih => show catO _ (catO x (tailX (r ++ b))) = catO (catO _ (catO x (tailX r))) _; rw [ih]; simp only [catO_assoc]
theorem comma_take (o : List (Option By)) (k : Nat) : ∃ r, commaX o = catO (commaX (o.take k)) r := by
  cases o with
  | nil => exact ⟨some [], by simp [commaX, catO]⟩
  | cons x o =>
    cases k with
    | zero => exact ⟨commaX (x :: o), (nil_catO _).symm⟩
    | succ k =>
      refine ⟨tailX (o.drop k), ?_⟩
      show catO x (tailX o) = catO (catO x (tailX (o.take k))) _
      rw [catO_assoc, ← tailX_app, List.take_append_drop]
theorem comma_first {o : List (Option By)} {x : Option By} (h : o[0]? = some x) : commaX (o.take (0 + 1)) = x := by
  cases o with
  | nil => cases h
  | cons y o =>
    simp only [List.getElem?_cons_zero, Option.some.injEq] at h
    subst h
    exact commaX_one y
theorem comma_next {o : List (Option By)} {x : Option By} {k : Nat} (h : o[k]? = some x) (hk : k ≠ 0) : commaX (o.take (k + 1)) = catO (commaX (o.take k)) (catO (some [44, 32]) x) := by
  rw [List.take_add_one, h]
  refine commaX_snoc ?_ x
  intro e
  have := congrArg List.length e
  have h2 := (List.getElem?_eq_some_iff.1 h).1
  rw [List.length_take, Nat.min_eq_left (by omega)] at this
  exact hk (by simpa using this)
theorem list_no {o : List (Option By)} {k : Nat} {t : By} (h : wr (catO (some [40]) (commaX (o.take k))) t = none) : wr (listX o) t = none := by
  obtain ⟨r, hr⟩ := comma_take o k
  have : listX o = catO (catO (some [40]) (commaX (o.take k))) (catO r (catO (some [41]) (some []))) := by
    unfold listX
    rw [seqO_cons, seqO_cons, seqO_cons, seqO_nil, hr]
    simp only [catO_assoc]
  rw [this]
  exact wr_no h
theorem list_all (o : List (Option By)) : listX o = catO (catO (some [40]) (commaX o)) (seqO [some [41]]) := by
  unfold listX
  rw [seqO_cons, seqO_cons, catO_assoc]
def PlAt (base qb : Nat) (tb : Option Nat) (t : By) (o : List (Option By)) (w : World) (i : Value) (W : World) : Prop :=
  ∃ (k : Nat) (tk : By) (tbk : Option Nat), i = .int .i64 (k : Int) ∧ k ≤ o.length ∧ wr (catO (some [40]) (commaX (o.take k))) t = some tk ∧ PP W base qb tbk tk ∧ (tbk = tb ∨ ∀ g, tbk = some g → w.heap.size ≤ g) ∧ GP w W qb tb
theorem ht_trans {w W : World} {qb : Nat} {tb tb1 tb2 : Option Nat} (hg : GP w W qb tb) (h1 : tb1 = tb ∨ ∀ g, tb1 = some g → w.heap.size ≤ g) (h2 : tb2 = tb1 ∨ ∀ g, tb2 = some g → W.heap.size ≤ g) : tb2 = tb ∨ ∀ g, tb2 = some g → w.heap.size ≤ g := by
  rcases h2 with h2 | h2
  · rw [h2]; exact h1
  · exact .inr fun g e => Nat.le_trans hg.size (h2 g e)

set_option maxRecDepth 100000 in
set_option maxHeartbeats 4000000 in
theorem plist_file (base qb : Nat) (tb : Option Nat) (t : By) (o : List (Option By)) (a1 a2 : Nat) (w : World) (h : PP w base qb tb t) (hn : o.length ≤ 281474976710656)
    (hF : ∀ (k : Nat) (x : Option By), o[k]? = some x → ∀ (W : World) (tbk : Option Nat) (tk : By), GP w W qb tb → (tbk = tb ∨ ∀ g, tbk = some g → w.heap.size ≤ g) → PP W base qb tbk tk → Calls Tryz.prog 111 #[.int .i64 (k : Int), .pointer (some ⟨a1, 0, none⟩), .pointer (some ⟨a2, 0, none⟩)] W (PG base qb tbk tk x W)) :
    Calls Tryz.prog 110 #[.pointer (some ⟨qb, 0, none⟩), .int .i64 (o.length : Int), .func (.func 111) #[] #[.pointer (some ⟨a1, 0, none⟩), .pointer (some ⟨a2, 0, none⟩)]] w (PG base qb tb t (listX o) w) := by
  have HP := Lib.hid h
  have HF := Lib.hid hF
  have ok1 : ∀ p ∈ [PartT.s [40]], PartOK p := by intro p hp; simp at hp; subst hp; trivial
  have ok2 : ∀ p ∈ [PartT.s [44, 32]], PartOK p := by intro p hp; simp at hp; subst hp; trivial
  have ok3 : ∀ p ∈ [PartT.s [41]], PartOK p := by intro p hp; simp at hp; subst hp; trivial
  have OK1 := Lib.hid ok1
  have OK2 := Lib.hid ok2
  have OK3 := Lib.hid ok3
  clear h hF ok1 ok2 ok3
  cases hw0 : wr (seqO [some [40]]) t with
  | none =>
    have HC := Lib.hid (pg_no (write_new HP.out [.s [40]] #[.iface 9 (.string ⟨#[40]⟩)] ⟨rfl, trivial⟩ OK1.out 1 rfl (by omega) 20) hw0)
    go_enter Tryz.func110, Tryz.ntmps110
    go_wp2_with (go_at_call 109; with_reducible refine HC.out.mono ?_; rintro e w9 ⟨rfl, hg9⟩)
    exact ⟨rfl, PG.of_no (by unfold listX; rw [seqO_cons]; exact wr_no (by rw [← hw0]; rfl)) hg9⟩
  | some t0 =>
  have HC := Lib.hid (pg_ok (write_new HP.out [.s [40]] #[.iface 9 (.string ⟨#[40]⟩)] ⟨rfl, trivial⟩ OK1.out 1 rfl (by omega) 20) hw0)
  have HW0 : Hid (wr (catO (some [40]) (commaX (o.take 0))) t = some t0) := Lib.hid (by rw [← hw0]; rfl)
  clear hw0
  go_enter Tryz.func110, Tryz.ntmps110
  go_wp2_with (go_at_call 109; with_reducible refine HC.out.mono ?_; rintro e w9 ⟨rfl, tb9, hp9, ht9, hg9⟩)
  have H0 : Hid (PlAt base qb tb t o w (.int .i64 0) w9) := Lib.hid ⟨0, t0, tb9, rfl, Nat.zero_le _, HW0.out, hp9, ht9, hg9⟩
  clear hp9 ht9 hg9 HC HW0
  go_loopw [12] (PlAt base qb tb t o w) (fun i _ => o.length - (RowKit.intOf i).toNat)
  case atStart => exact H0.out
  case round =>
    obtain ⟨k, tk, tbk, rfl, hk, hwk, hpk, htk, hgk⟩ := hrel
    have HW := Lib.hid hwk
    have HK := Lib.hid hpk
    have HT := Lib.hid htk
    have HG := Lib.hid hgk
    clear hwk hpk htk hgk H0
    by_cases hlt : k < o.length
    · obtain ⟨x, hx⟩ : ∃ x, o[k]? = some x := ⟨o[k], List.getElem?_eq_getElem hlt⟩
      have HX := Lib.hid hx
      clear hx
      by_cases h0 : k = 0
      · subst h0
        have HN : Hid (commaX (o.take (0 + 1)) = x) := Lib.hid (comma_first HX.out)
        have HW2 : Hid (Sy.wr (some [40]) t = some tk) := Lib.hid (by have q := HW.out; rw [List.take_zero] at q; exact (congrArg (fun z => Sy.wr z t) (catO_nil (some [40])).symm).trans q)
        cases hy : Sy.wr x tk with
        | none =>
          have hc2 := pg_no (HF.out 0 x HX.out wr tbk tk HG.out HT.out HK.out) hy
          rw [show (((0 : Nat) : Int)) = 0 from rfl] at hc2
          have HC2 := Lib.hid hc2
          clear hc2
          go_wp2_with (go_at_call 111; with_reducible refine HC2.out.mono ?_; rintro e w9 ⟨rfl, hg9⟩)
          exact ⟨rfl, PG.of_no (list_no (k := 0 + 1) (by rw [HN.out, wr_ok HW2.out]; exact hy)) (HG.out.trans hg9 HT.out)⟩
        | some t2 =>
          have hc2 := pg_ok (HF.out 0 x HX.out wr tbk tk HG.out HT.out HK.out) hy
          rw [show (((0 : Nat) : Int)) = 0 from rfl] at hc2
          have HC2 := Lib.hid hc2
          clear hc2
          go_wp2_with (go_at_call 111; with_reducible refine HC2.out.mono ?_; rintro e w9 ⟨rfl, tb9, hp9, ht9, hg9⟩)
          go_roundw
          case rel => exact ⟨0 + 1, t2, tb9, by go_num, by omega, by rw [HN.out, wr_ok HW2.out]; exact hy, hp9, ht_trans HG.out HT.out ht9, HG.out.trans hg9 HT.out⟩
          case measure => simp [RowKit.intOf]; omega
      · have HN : Hid (commaX (o.take (k + 1)) = catO (commaX (o.take k)) (catO (some [44, 32]) x)) := Lib.hid (comma_next HX.out h0)
        have hpos : (0 : Int) < (k : Int) := by omega
        cases hy : Sy.wr (seqO [some [44, 32]]) tk with
        | none =>
          have HC := Lib.hid (pg_no (write_new HK.out [.s [44, 32]] #[.iface 9 (.string ⟨#[44, 32]⟩)] ⟨rfl, trivial⟩ OK2.out 1 rfl (by omega) 20) hy)
          have hy2 : Sy.wr (some [44, 32]) tk = none := hy
          go_wp2_with (go_at_call 109; with_reducible refine HC.out.mono ?_; rintro e w9 ⟨rfl, hg9⟩)
          exact ⟨rfl, PG.of_no (list_no (k := k + 1) (by rw [HN.out, ← catO_assoc, wr_ok HW.out]; exact wr_no hy2)) (HG.out.trans hg9 HT.out)⟩
        | some t1 =>
          have HC := Lib.hid (pg_ok (write_new HK.out [.s [44, 32]] #[.iface 9 (.string ⟨#[44, 32]⟩)] ⟨rfl, trivial⟩ OK2.out 1 rfl (by omega) 20) hy)
          have HY : Hid (Sy.wr (some [44, 32]) tk = some t1) := Lib.hid hy
          clear hy
          cases hz : Sy.wr x t1 with
          | none =>
            have HC2 := Lib.hid (fun W tb1 (hg : GP w W qb tb) (ht : tb1 = tb ∨ ∀ g, tb1 = some g → w.heap.size ≤ g) (hp : PP W base qb tb1 t1) => pg_no (HF.out k x HX.out W tb1 t1 hg ht hp) hz)
            go_wp2_with (first
              | (go_at_call 111; with_reducible refine (HC2.out w8 tb8 (HG.out.trans hg8 HT.out) (ht_trans HG.out HT.out ht8) hp8).mono ?_; rintro e w9 ⟨rfl, hg9⟩)
              | (go_at_call 109; with_reducible refine HC.out.mono ?_; rintro e w8 ⟨rfl, tb8, hp8, ht8, hg8⟩))
            exact ⟨rfl, PG.of_no (list_no (k := k + 1) (by rw [HN.out, ← catO_assoc, wr_ok HW.out, wr_ok HY.out]; exact hz)) ((HG.out.trans hg8 HT.out).trans hg9 (ht_trans HG.out HT.out ht8))⟩
          | some t2 =>
            have HC2 := Lib.hid (fun W tb1 (hg : GP w W qb tb) (ht : tb1 = tb ∨ ∀ g, tb1 = some g → w.heap.size ≤ g) (hp : PP W base qb tb1 t1) => pg_ok (HF.out k x HX.out W tb1 t1 hg ht hp) hz)
            go_wp2_with (first
              | (go_at_call 111; with_reducible refine (HC2.out w8 tb8 (HG.out.trans hg8 HT.out) (ht_trans HG.out HT.out ht8) hp8).mono ?_; rintro e w9 ⟨rfl, tb9, hp9, ht9, hg9⟩)
              | (go_at_call 109; with_reducible refine HC.out.mono ?_; rintro e w8 ⟨rfl, tb8, hp8, ht8, hg8⟩))
            go_roundw
            case rel => exact ⟨k + 1, t2, tb9, by go_num, by omega, by rw [HN.out, ← catO_assoc, wr_ok HW.out, wr_ok HY.out]; exact hz, hp9, ht_trans (HG.out.trans hg8 HT.out) (ht_trans HG.out HT.out ht8) ht9, (HG.out.trans hg8 HT.out).trans hg9 (ht_trans HG.out HT.out ht8)⟩
            case measure => simp [RowKit.intOf]; omega
    · have hkk : k = o.length := by omega
      have hwk := HW.out
      rw [hkk, List.take_length] at hwk
      have HWK := Lib.hid hwk
      clear hwk
      cases hy : Sy.wr (seqO [some [41]]) tk with
      | none =>
        have HC := Lib.hid (pg_no (write_new HK.out [.s [41]] #[.iface 9 (.string ⟨#[41]⟩)] ⟨rfl, trivial⟩ OK3.out 1 rfl (by omega) 20) hy)
        go_wp2_with (go_at_call 109; with_reducible refine HC.out.mono ?_; rintro e w9 ⟨rfl, hg9⟩)
        exact ⟨rfl, PG.of_no (by rw [list_all, wr_ok HWK.out]; exact hy) (HG.out.trans hg9 HT.out)⟩
      | some t2 =>
        have HC := Lib.hid (pg_ok (write_new HK.out [.s [41]] #[.iface 9 (.string ⟨#[41]⟩)] ⟨rfl, trivial⟩ OK3.out 1 rfl (by omega) 20) hy)
        go_wp2_with (go_at_call 109; with_reducible refine HC.out.mono ?_; rintro e w9 ⟨rfl, tb9, hp9, ht9, hg9⟩)
        go_end0
        exact PG.of_ok (by rw [list_all, wr_ok HWK.out]; exact hy) (HG.out.trans hg9 HT.out) hp9 (ht_trans HG.out HT.out ht9)

set_option maxRecDepth 100000 in
set_option maxHeartbeats 4000000 in
theorem plist_item1 (base qb : Nat) (tb : Option Nat) (t : By) (o : List (Option By)) (a1 a2 : Nat) (w : World) (h : PP w base qb tb t) (hn : o.length ≤ 281474976710656)
    (hF : ∀ (k : Nat) (x : Option By), o[k]? = some x → ∀ (W : World) (tbk : Option Nat) (tk : By), GP w W qb tb → (tbk = tb ∨ ∀ g, tbk = some g → w.heap.size ≤ g) → PP W base qb tbk tk → Calls Tryz.prog 169 #[.int .i64 (k : Int), .pointer (some ⟨a1, 0, none⟩), .pointer (some ⟨a2, 0, none⟩)] W (PG base qb tbk tk x W)) :
    Calls Tryz.prog 110 #[.pointer (some ⟨qb, 0, none⟩), .int .i64 (o.length : Int), .func (.func 169) #[] #[.pointer (some ⟨a1, 0, none⟩), .pointer (some ⟨a2, 0, none⟩)]] w (PG base qb tb t (listX o) w) := by
  have HP := Lib.hid h
  have HF := Lib.hid hF
  have ok1 : ∀ p ∈ [PartT.s [40]], PartOK p := by intro p hp; simp at hp; subst hp; trivial
  have ok2 : ∀ p ∈ [PartT.s [44, 32]], PartOK p := by intro p hp; simp at hp; subst hp; trivial
  have ok3 : ∀ p ∈ [PartT.s [41]], PartOK p := by intro p hp; simp at hp; subst hp; trivial
  have OK1 := Lib.hid ok1
  have OK2 := Lib.hid ok2
  have OK3 := Lib.hid ok3
  clear h hF ok1 ok2 ok3
  cases hw0 : wr (seqO [some [40]]) t with
  | none =>
    have HC := Lib.hid (pg_no (write_new HP.out [.s [40]] #[.iface 9 (.string ⟨#[40]⟩)] ⟨rfl, trivial⟩ OK1.out 1 rfl (by omega) 20) hw0)
    go_enter Tryz.func110, Tryz.ntmps110
    go_wp2_with (go_at_call 109; with_reducible refine HC.out.mono ?_; rintro e w9 ⟨rfl, hg9⟩)
    exact ⟨rfl, PG.of_no (by unfold listX; rw [seqO_cons]; exact wr_no (by rw [← hw0]; rfl)) hg9⟩
  | some t0 =>
  have HC := Lib.hid (pg_ok (write_new HP.out [.s [40]] #[.iface 9 (.string ⟨#[40]⟩)] ⟨rfl, trivial⟩ OK1.out 1 rfl (by omega) 20) hw0)
  have HW0 : Hid (wr (catO (some [40]) (commaX (o.take 0))) t = some t0) := Lib.hid (by rw [← hw0]; rfl)
  clear hw0
  go_enter Tryz.func110, Tryz.ntmps110
  go_wp2_with (go_at_call 109; with_reducible refine HC.out.mono ?_; rintro e w9 ⟨rfl, tb9, hp9, ht9, hg9⟩)
  have H0 : Hid (PlAt base qb tb t o w (.int .i64 0) w9) := Lib.hid ⟨0, t0, tb9, rfl, Nat.zero_le _, HW0.out, hp9, ht9, hg9⟩
  clear hp9 ht9 hg9 HC HW0
  go_loopw [12] (PlAt base qb tb t o w) (fun i _ => o.length - (RowKit.intOf i).toNat)
  case atStart => exact H0.out
  case round =>
    obtain ⟨k, tk, tbk, rfl, hk, hwk, hpk, htk, hgk⟩ := hrel
    have HW := Lib.hid hwk
    have HK := Lib.hid hpk
    have HT := Lib.hid htk
    have HG := Lib.hid hgk
    clear hwk hpk htk hgk H0
    by_cases hlt : k < o.length
    · obtain ⟨x, hx⟩ : ∃ x, o[k]? = some x := ⟨o[k], List.getElem?_eq_getElem hlt⟩
      have HX := Lib.hid hx
      clear hx
      by_cases h0 : k = 0
      · subst h0
        have HN : Hid (commaX (o.take (0 + 1)) = x) := Lib.hid (comma_first HX.out)
        have HW2 : Hid (Sy.wr (some [40]) t = some tk) := Lib.hid (by have q := HW.out; rw [List.take_zero] at q; exact (congrArg (fun z => Sy.wr z t) (catO_nil (some [40])).symm).trans q)
        cases hy : Sy.wr x tk with
        | none =>
          have hc2 := pg_no (HF.out 0 x HX.out wr tbk tk HG.out HT.out HK.out) hy
          rw [show (((0 : Nat) : Int)) = 0 from rfl] at hc2
          have HC2 := Lib.hid hc2
          clear hc2
          go_wp2_with (go_at_call 169; with_reducible refine HC2.out.mono ?_; rintro e w9 ⟨rfl, hg9⟩)
          exact ⟨rfl, PG.of_no (list_no (k := 0 + 1) (by rw [HN.out, wr_ok HW2.out]; exact hy)) (HG.out.trans hg9 HT.out)⟩
        | some t2 =>
          have hc2 := pg_ok (HF.out 0 x HX.out wr tbk tk HG.out HT.out HK.out) hy
          rw [show (((0 : Nat) : Int)) = 0 from rfl] at hc2
          have HC2 := Lib.hid hc2
          clear hc2
          go_wp2_with (go_at_call 169; with_reducible refine HC2.out.mono ?_; rintro e w9 ⟨rfl, tb9, hp9, ht9, hg9⟩)
          go_roundw
          case rel => exact ⟨0 + 1, t2, tb9, by go_num, by omega, by rw [HN.out, wr_ok HW2.out]; exact hy, hp9, ht_trans HG.out HT.out ht9, HG.out.trans hg9 HT.out⟩
          case measure => simp [RowKit.intOf]; omega
      · have HN : Hid (commaX (o.take (k + 1)) = catO (commaX (o.take k)) (catO (some [44, 32]) x)) := Lib.hid (comma_next HX.out h0)
        have hpos : (0 : Int) < (k : Int) := by omega
        cases hy : Sy.wr (seqO [some [44, 32]]) tk with
        | none =>
          have HC := Lib.hid (pg_no (write_new HK.out [.s [44, 32]] #[.iface 9 (.string ⟨#[44, 32]⟩)] ⟨rfl, trivial⟩ OK2.out 1 rfl (by omega) 20) hy)
          have hy2 : Sy.wr (some [44, 32]) tk = none := hy
          go_wp2_with (go_at_call 109; with_reducible refine HC.out.mono ?_; rintro e w9 ⟨rfl, hg9⟩)
          exact ⟨rfl, PG.of_no (list_no (k := k + 1) (by rw [HN.out, ← catO_assoc, wr_ok HW.out]; exact wr_no hy2)) (HG.out.trans hg9 HT.out)⟩
        | some t1 =>
          have HC := Lib.hid (pg_ok (write_new HK.out [.s [44, 32]] #[.iface 9 (.string ⟨#[44, 32]⟩)] ⟨rfl, trivial⟩ OK2.out 1 rfl (by omega) 20) hy)
          have HY : Hid (Sy.wr (some [44, 32]) tk = some t1) := Lib.hid hy
          clear hy
          cases hz : Sy.wr x t1 with
          | none =>
            have HC2 := Lib.hid (fun W tb1 (hg : GP w W qb tb) (ht : tb1 = tb ∨ ∀ g, tb1 = some g → w.heap.size ≤ g) (hp : PP W base qb tb1 t1) => pg_no (HF.out k x HX.out W tb1 t1 hg ht hp) hz)
            go_wp2_with (first
              | (go_at_call 169; with_reducible refine (HC2.out w8 tb8 (HG.out.trans hg8 HT.out) (ht_trans HG.out HT.out ht8) hp8).mono ?_; rintro e w9 ⟨rfl, hg9⟩)
              | (go_at_call 109; with_reducible refine HC.out.mono ?_; rintro e w8 ⟨rfl, tb8, hp8, ht8, hg8⟩))
            exact ⟨rfl, PG.of_no (list_no (k := k + 1) (by rw [HN.out, ← catO_assoc, wr_ok HW.out, wr_ok HY.out]; exact hz)) ((HG.out.trans hg8 HT.out).trans hg9 (ht_trans HG.out HT.out ht8))⟩
          | some t2 =>
            have HC2 := Lib.hid (fun W tb1 (hg : GP w W qb tb) (ht : tb1 = tb ∨ ∀ g, tb1 = some g → w.heap.size ≤ g) (hp : PP W base qb tb1 t1) => pg_ok (HF.out k x HX.out W tb1 t1 hg ht hp) hz)
            go_wp2_with (first
              | (go_at_call 169; with_reducible refine (HC2.out w8 tb8 (HG.out.trans hg8 HT.out) (ht_trans HG.out HT.out ht8) hp8).mono ?_; rintro e w9 ⟨rfl, tb9, hp9, ht9, hg9⟩)
              | (go_at_call 109; with_reducible refine HC.out.mono ?_; rintro e w8 ⟨rfl, tb8, hp8, ht8, hg8⟩))
            go_roundw
            case rel => exact ⟨k + 1, t2, tb9, by go_num, by omega, by rw [HN.out, ← catO_assoc, wr_ok HW.out, wr_ok HY.out]; exact hz, hp9, ht_trans (HG.out.trans hg8 HT.out) (ht_trans HG.out HT.out ht8) ht9, (HG.out.trans hg8 HT.out).trans hg9 (ht_trans HG.out HT.out ht8)⟩
            case measure => simp [RowKit.intOf]; omega
    · have hkk : k = o.length := by omega
      have hwk := HW.out
      rw [hkk, List.take_length] at hwk
      have HWK := Lib.hid hwk
      clear hwk
      cases hy : Sy.wr (seqO [some [41]]) tk with
      | none =>
        have HC := Lib.hid (pg_no (write_new HK.out [.s [41]] #[.iface 9 (.string ⟨#[41]⟩)] ⟨rfl, trivial⟩ OK3.out 1 rfl (by omega) 20) hy)
        go_wp2_with (go_at_call 109; with_reducible refine HC.out.mono ?_; rintro e w9 ⟨rfl, hg9⟩)
        exact ⟨rfl, PG.of_no (by rw [list_all, wr_ok HWK.out]; exact hy) (HG.out.trans hg9 HT.out)⟩
      | some t2 =>
        have HC := Lib.hid (pg_ok (write_new HK.out [.s [41]] #[.iface 9 (.string ⟨#[41]⟩)] ⟨rfl, trivial⟩ OK3.out 1 rfl (by omega) 20) hy)
        go_wp2_with (go_at_call 109; with_reducible refine HC.out.mono ?_; rintro e w9 ⟨rfl, tb9, hp9, ht9, hg9⟩)
        go_end0
        exact PG.of_ok (by rw [list_all, wr_ok HWK.out]; exact hy) (HG.out.trans hg9 HT.out) hp9 (ht_trans HG.out HT.out ht9)

set_option maxRecDepth 100000 in
set_option maxHeartbeats 4000000 in
theorem plist_item2 (base qb : Nat) (tb : Option Nat) (t : By) (o : List (Option By)) (a1 a2 : Nat) (w : World) (h : PP w base qb tb t) (hn : o.length ≤ 281474976710656)
    (hF : ∀ (k : Nat) (x : Option By), o[k]? = some x → ∀ (W : World) (tbk : Option Nat) (tk : By), GP w W qb tb → (tbk = tb ∨ ∀ g, tbk = some g → w.heap.size ≤ g) → PP W base qb tbk tk → Calls Tryz.prog 170 #[.int .i64 (k : Int), .pointer (some ⟨a1, 0, none⟩), .pointer (some ⟨a2, 0, none⟩)] W (PG base qb tbk tk x W)) :
    Calls Tryz.prog 110 #[.pointer (some ⟨qb, 0, none⟩), .int .i64 (o.length : Int), .func (.func 170) #[] #[.pointer (some ⟨a1, 0, none⟩), .pointer (some ⟨a2, 0, none⟩)]] w (PG base qb tb t (listX o) w) := by
  have HP := Lib.hid h
  have HF := Lib.hid hF
  have ok1 : ∀ p ∈ [PartT.s [40]], PartOK p := by intro p hp; simp at hp; subst hp; trivial
  have ok2 : ∀ p ∈ [PartT.s [44, 32]], PartOK p := by intro p hp; simp at hp; subst hp; trivial
  have ok3 : ∀ p ∈ [PartT.s [41]], PartOK p := by intro p hp; simp at hp; subst hp; trivial
  have OK1 := Lib.hid ok1
  have OK2 := Lib.hid ok2
  have OK3 := Lib.hid ok3
  clear h hF ok1 ok2 ok3
  cases hw0 : wr (seqO [some [40]]) t with
  | none =>
    have HC := Lib.hid (pg_no (write_new HP.out [.s [40]] #[.iface 9 (.string ⟨#[40]⟩)] ⟨rfl, trivial⟩ OK1.out 1 rfl (by omega) 20) hw0)
    go_enter Tryz.func110, Tryz.ntmps110
    go_wp2_with (go_at_call 109; with_reducible refine HC.out.mono ?_; rintro e w9 ⟨rfl, hg9⟩)
    exact ⟨rfl, PG.of_no (by unfold listX; rw [seqO_cons]; exact wr_no (by rw [← hw0]; rfl)) hg9⟩
  | some t0 =>
  have HC := Lib.hid (pg_ok (write_new HP.out [.s [40]] #[.iface 9 (.string ⟨#[40]⟩)] ⟨rfl, trivial⟩ OK1.out 1 rfl (by omega) 20) hw0)
  have HW0 : Hid (wr (catO (some [40]) (commaX (o.take 0))) t = some t0) := Lib.hid (by rw [← hw0]; rfl)
  clear hw0
  go_enter Tryz.func110, Tryz.ntmps110
  go_wp2_with (go_at_call 109; with_reducible refine HC.out.mono ?_; rintro e w9 ⟨rfl, tb9, hp9, ht9, hg9⟩)
  have H0 : Hid (PlAt base qb tb t o w (.int .i64 0) w9) := Lib.hid ⟨0, t0, tb9, rfl, Nat.zero_le _, HW0.out, hp9, ht9, hg9⟩
  clear hp9 ht9 hg9 HC HW0
  go_loopw [12] (PlAt base qb tb t o w) (fun i _ => o.length - (RowKit.intOf i).toNat)
  case atStart => exact H0.out
  case round =>
    obtain ⟨k, tk, tbk, rfl, hk, hwk, hpk, htk, hgk⟩ := hrel
    have HW := Lib.hid hwk
    have HK := Lib.hid hpk
    have HT := Lib.hid htk
    have HG := Lib.hid hgk
    clear hwk hpk htk hgk H0
    by_cases hlt : k < o.length
    · obtain ⟨x, hx⟩ : ∃ x, o[k]? = some x := ⟨o[k], List.getElem?_eq_getElem hlt⟩
      have HX := Lib.hid hx
      clear hx
      by_cases h0 : k = 0
      · subst h0
        have HN : Hid (commaX (o.take (0 + 1)) = x) := Lib.hid (comma_first HX.out)
        have HW2 : Hid (Sy.wr (some [40]) t = some tk) := Lib.hid (by have q := HW.out; rw [List.take_zero] at q; exact (congrArg (fun z => Sy.wr z t) (catO_nil (some [40])).symm).trans q)
        cases hy : Sy.wr x tk with
        | none =>
          have hc2 := pg_no (HF.out 0 x HX.out wr tbk tk HG.out HT.out HK.out) hy
          rw [show (((0 : Nat) : Int)) = 0 from rfl] at hc2
          have HC2 := Lib.hid hc2
          clear hc2
          go_wp2_with (go_at_call 170; with_reducible refine HC2.out.mono ?_; rintro e w9 ⟨rfl, hg9⟩)
          exact ⟨rfl, PG.of_no (list_no (k := 0 + 1) (by rw [HN.out, wr_ok HW2.out]; exact hy)) (HG.out.trans hg9 HT.out)⟩
        | some t2 =>
          have hc2 := pg_ok (HF.out 0 x HX.out wr tbk tk HG.out HT.out HK.out) hy
          rw [show (((0 : Nat) : Int)) = 0 from rfl] at hc2
          have HC2 := Lib.hid hc2
          clear hc2
          go_wp2_with (go_at_call 170; with_reducible refine HC2.out.mono ?_; rintro e w9 ⟨rfl, tb9, hp9, ht9, hg9⟩)
          go_roundw
          case rel => exact ⟨0 + 1, t2, tb9, by go_num, by omega, by rw [HN.out, wr_ok HW2.out]; exact hy, hp9, ht_trans HG.out HT.out ht9, HG.out.trans hg9 HT.out⟩
          case measure => simp [RowKit.intOf]; omega
      · have HN : Hid (commaX (o.take (k + 1)) = catO (commaX (o.take k)) (catO (some [44, 32]) x)) := Lib.hid (comma_next HX.out h0)
        have hpos : (0 : Int) < (k : Int) := by omega
        cases hy : Sy.wr (seqO [some [44, 32]]) tk with
        | none =>
          have HC := Lib.hid (pg_no (write_new HK.out [.s [44, 32]] #[.iface 9 (.string ⟨#[44, 32]⟩)] ⟨rfl, trivial⟩ OK2.out 1 rfl (by omega) 20) hy)
          have hy2 : Sy.wr (some [44, 32]) tk = none := hy
          go_wp2_with (go_at_call 109; with_reducible refine HC.out.mono ?_; rintro e w9 ⟨rfl, hg9⟩)
          exact ⟨rfl, PG.of_no (list_no (k := k + 1) (by rw [HN.out, ← catO_assoc, wr_ok HW.out]; exact wr_no hy2)) (HG.out.trans hg9 HT.out)⟩
        | some t1 =>
          have HC := Lib.hid (pg_ok (write_new HK.out [.s [44, 32]] #[.iface 9 (.string ⟨#[44, 32]⟩)] ⟨rfl, trivial⟩ OK2.out 1 rfl (by omega) 20) hy)
          have HY : Hid (Sy.wr (some [44, 32]) tk = some t1) := Lib.hid hy
          clear hy
          cases hz : Sy.wr x t1 with
          | none =>
            have HC2 := Lib.hid (fun W tb1 (hg : GP w W qb tb) (ht : tb1 = tb ∨ ∀ g, tb1 = some g → w.heap.size ≤ g) (hp : PP W base qb tb1 t1) => pg_no (HF.out k x HX.out W tb1 t1 hg ht hp) hz)
            go_wp2_with (first
              | (go_at_call 170; with_reducible refine (HC2.out w8 tb8 (HG.out.trans hg8 HT.out) (ht_trans HG.out HT.out ht8) hp8).mono ?_; rintro e w9 ⟨rfl, hg9⟩)
              | (go_at_call 109; with_reducible refine HC.out.mono ?_; rintro e w8 ⟨rfl, tb8, hp8, ht8, hg8⟩))
            exact ⟨rfl, PG.of_no (list_no (k := k + 1) (by rw [HN.out, ← catO_assoc, wr_ok HW.out, wr_ok HY.out]; exact hz)) ((HG.out.trans hg8 HT.out).trans hg9 (ht_trans HG.out HT.out ht8))⟩
          | some t2 =>
            have HC2 := Lib.hid (fun W tb1 (hg : GP w W qb tb) (ht : tb1 = tb ∨ ∀ g, tb1 = some g → w.heap.size ≤ g) (hp : PP W base qb tb1 t1) => pg_ok (HF.out k x HX.out W tb1 t1 hg ht hp) hz)
            go_wp2_with (first
              | (go_at_call 170; with_reducible refine (HC2.out w8 tb8 (HG.out.trans hg8 HT.out) (ht_trans HG.out HT.out ht8) hp8).mono ?_; rintro e w9 ⟨rfl, tb9, hp9, ht9, hg9⟩)
              | (go_at_call 109; with_reducible refine HC.out.mono ?_; rintro e w8 ⟨rfl, tb8, hp8, ht8, hg8⟩))
            go_roundw
            case rel => exact ⟨k + 1, t2, tb9, by go_num, by omega, by rw [HN.out, ← catO_assoc, wr_ok HW.out, wr_ok HY.out]; exact hz, hp9, ht_trans (HG.out.trans hg8 HT.out) (ht_trans HG.out HT.out ht8) ht9, (HG.out.trans hg8 HT.out).trans hg9 (ht_trans HG.out HT.out ht8)⟩
            case measure => simp [RowKit.intOf]; omega
    · have hkk : k = o.length := by omega
      have hwk := HW.out
      rw [hkk, List.take_length] at hwk
      have HWK := Lib.hid hwk
      clear hwk
      cases hy : Sy.wr (seqO [some [41]]) tk with
      | none =>
        have HC := Lib.hid (pg_no (write_new HK.out [.s [41]] #[.iface 9 (.string ⟨#[41]⟩)] ⟨rfl, trivial⟩ OK3.out 1 rfl (by omega) 20) hy)
        go_wp2_with (go_at_call 109; with_reducible refine HC.out.mono ?_; rintro e w9 ⟨rfl, hg9⟩)
        exact ⟨rfl, PG.of_no (by rw [list_all, wr_ok HWK.out]; exact hy) (HG.out.trans hg9 HT.out)⟩
      | some t2 =>
        have HC := Lib.hid (pg_ok (write_new HK.out [.s [41]] #[.iface 9 (.string ⟨#[41]⟩)] ⟨rfl, trivial⟩ OK3.out 1 rfl (by omega) 20) hy)
        go_wp2_with (go_at_call 109; with_reducible refine HC.out.mono ?_; rintro e w9 ⟨rfl, tb9, hp9, ht9, hg9⟩)
        go_end0
        exact PG.of_ok (by rw [list_all, wr_ok HWK.out]; exact hy) (HG.out.trans hg9 HT.out) hp9 (ht_trans HG.out HT.out ht9)

end Sy
end Go.Proofs.YtggeepimihhpjaaGreatDoor
