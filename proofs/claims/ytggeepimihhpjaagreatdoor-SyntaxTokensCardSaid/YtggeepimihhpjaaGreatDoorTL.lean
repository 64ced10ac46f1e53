/- Comparisons of strings and small structs; slices.Equal. sameExpr, sameItem, sameModule, sameFile. -/
import Derived.Test.YtggeepimihhpjaaGreatDoorTJ
import Derived.Test.YtggeepimihhpjaaGreatDoorTC
import Derived.Laws.StructEq
import Derived.Test.YtggeepimihhpjaaGreatDoorTD
namespace Go.Proofs.YtggeepimihhpjaaGreatDoor
open Go.RowKit Go.Shelf Go.Lib Sl Fr Lx
namespace Sy
set_option linter.unusedVariables false
set_option linter.unusedSimpArgs false

theorem eq_str (t : TypeId) (a b : By) (P : Program) (W : World) : (binOp .eql t (.string ⟨a.toArray⟩) (.string ⟨b.toArray⟩)).run P W = .ok (.bool (decide (a = b))) W := by
  have h : ((⟨a.toArray⟩ : ByteArray).toList == (⟨b.toArray⟩ : ByteArray).toList) = decide (a = b) := str_eq a ⟨b.toArray⟩
  simp only [binOp, Op.stringOp, h]
  rfl
theorem neq_str (t : TypeId) (a b : By) (P : Program) (W : World) : (binOp .neq t (.string ⟨a.toArray⟩) (.string ⟨b.toArray⟩)).run P W = .ok (.bool (!decide (a = b))) W := by
  have h : ((⟨a.toArray⟩ : ByteArray).toList == (⟨b.toArray⟩ : ByteArray).toList) = decide (a = b) := str_eq a ⟨b.toArray⟩
  simp only [binOp, Op.stringOp, h]
  rfl
theorem in_num (x y : NumT) (W : World) : (Op.equalIn 10000 60 (.agg #[.int .i64 x.n, .string ⟨x.p.toArray⟩]) (.agg #[.int .i64 y.n, .string ⟨y.p.toArray⟩])).run Tryz.prog W = .ok (decide (x = y)) W := by
  have hS : Tryz.prog.underlying 60 = some (.struct (Tryz.prog.fieldsOf 60)) := by kernel_rfl
  have hp : Tryz.prog.stoodInHeld 60 = false := by kernel_rfl
  cases x with | mk x0 x1 =>
  cases y with | mk y0 y1 =>
  have q1 : ((⟨x1.toArray⟩ : ByteArray).toList == (⟨y1.toArray⟩ : ByteArray).toList) = decide (x1 = y1) := str_eq x1 ⟨y1.toArray⟩
  rw [show (10000 : Nat) = 9999 + 1 from rfl, run_equalIn_agg W 9999 _ _ _ hS hp]
  simp only [Program.fieldsOf, Tryz.underlying60]
  go_simp
  by_cases h0 : x0 = y0 <;> by_cases h1 : x1 = y1 <;> simp [h0, h1]
theorem eq_num (x y : NumT) (W : World) : (binOp .eql 60 (.agg #[.int .i64 x.n, .string ⟨x.p.toArray⟩]) (.agg #[.int .i64 y.n, .string ⟨y.p.toArray⟩])).run Tryz.prog W = .ok (.bool (decide (x = y))) W := by
  rw [run_eql_struct, in_num]; rfl
theorem neq_num (x y : NumT) (W : World) : (binOp .neq 60 (.agg #[.int .i64 x.n, .string ⟨x.p.toArray⟩]) (.agg #[.int .i64 y.n, .string ⟨y.p.toArray⟩])).run Tryz.prog W = .ok (.bool (!decide (x = y))) W := by
  rw [run_neq_struct, in_num]; rfl
theorem in_bind (x y : BindT) (W : World) : (Op.equalIn 10000 146 (.agg #[.string ⟨x.port.toArray⟩, .string ⟨x.chan.toArray⟩]) (.agg #[.string ⟨y.port.toArray⟩, .string ⟨y.chan.toArray⟩])).run Tryz.prog W = .ok (decide (x = y)) W := by
  have hS : Tryz.prog.underlying 146 = some (.struct (Tryz.prog.fieldsOf 146)) := by kernel_rfl
  have hp : Tryz.prog.stoodInHeld 146 = false := by kernel_rfl
  cases x with | mk x0 x1 =>
  cases y with | mk y0 y1 =>
  have q0 : ((⟨x0.toArray⟩ : ByteArray).toList == (⟨y0.toArray⟩ : ByteArray).toList) = decide (x0 = y0) := str_eq x0 ⟨y0.toArray⟩
  have q1 : ((⟨x1.toArray⟩ : ByteArray).toList == (⟨y1.toArray⟩ : ByteArray).toList) = decide (x1 = y1) := str_eq x1 ⟨y1.toArray⟩
  rw [show (10000 : Nat) = 9999 + 1 from rfl, run_equalIn_agg W 9999 _ _ _ hS hp]
  simp only [Program.fieldsOf, Tryz.underlying146]
  go_simp
  by_cases h0 : x0 = y0 <;> by_cases h1 : x1 = y1 <;> simp [h0, h1]
theorem eq_bind (x y : BindT) (W : World) : (binOp .eql 146 (.agg #[.string ⟨x.port.toArray⟩, .string ⟨x.chan.toArray⟩]) (.agg #[.string ⟨y.port.toArray⟩, .string ⟨y.chan.toArray⟩])).run Tryz.prog W = .ok (.bool (decide (x = y))) W := by
  rw [run_eql_struct, in_bind]; rfl
theorem neq_bind (x y : BindT) (W : World) : (binOp .neq 146 (.agg #[.string ⟨x.port.toArray⟩, .string ⟨x.chan.toArray⟩]) (.agg #[.string ⟨y.port.toArray⟩, .string ⟨y.chan.toArray⟩])).run Tryz.prog W = .ok (.bool (!decide (x = y))) W := by
  rw [run_neq_struct, in_bind]; rfl
theorem in_rule (x y : RuleT) (W : World) : (Op.equalIn 10000 65 (.agg #[.int .i64 x.kind, .string ⟨x.from_.toArray⟩, .int .i64 x.n]) (.agg #[.int .i64 y.kind, .string ⟨y.from_.toArray⟩, .int .i64 y.n])).run Tryz.prog W = .ok (decide (x = y)) W := by
  have hS : Tryz.prog.underlying 65 = some (.struct (Tryz.prog.fieldsOf 65)) := by kernel_rfl
  have hp : Tryz.prog.stoodInHeld 65 = false := by kernel_rfl
  cases x with | mk x0 x1 x2 =>
  cases y with | mk y0 y1 y2 =>
  have q1 : ((⟨x1.toArray⟩ : ByteArray).toList == (⟨y1.toArray⟩ : ByteArray).toList) = decide (x1 = y1) := str_eq x1 ⟨y1.toArray⟩
  rw [show (10000 : Nat) = 9999 + 1 from rfl, run_equalIn_agg W 9999 _ _ _ hS hp]
  simp only [Program.fieldsOf, Tryz.underlying65]
  go_simp
  by_cases h0 : x0 = y0 <;> by_cases h1 : x1 = y1 <;> by_cases h2 : x2 = y2 <;> simp [h0, h1, h2]
theorem eq_rule (x y : RuleT) (W : World) : (binOp .eql 65 (.agg #[.int .i64 x.kind, .string ⟨x.from_.toArray⟩, .int .i64 x.n]) (.agg #[.int .i64 y.kind, .string ⟨y.from_.toArray⟩, .int .i64 y.n])).run Tryz.prog W = .ok (.bool (decide (x = y))) W := by
  rw [run_eql_struct, in_rule]; rfl
theorem neq_rule (x y : RuleT) (W : World) : (binOp .neq 65 (.agg #[.int .i64 x.kind, .string ⟨x.from_.toArray⟩, .int .i64 x.n]) (.agg #[.int .i64 y.kind, .string ⟨y.from_.toArray⟩, .int .i64 y.n])).run Tryz.prog W = .ok (.bool (!decide (x = y))) W := by
  rw [run_neq_struct, in_rule]; rfl
attribute [local go_sem high] eq_str neq_str eq_num neq_num eq_bind neq_bind eq_rule neq_rule
set_option maxRecDepth 100000 in
set_option maxHeartbeats 4000000 in
theorem equal_strs (l m : List By) (A B : Option Addr) (ca cb : Nat) (w : World) (S S' : Nat → Prop) (hm : m.length ≤ 281474976710656) (hA : FR w S A (strsC l)) (hB : FR w S' B (strsC m)) :
    Calls Tryz.prog 156 #[.slice A l.length ca, .slice B m.length cb] w (RetB (eqL eqD l m) w) := by
  by_cases hlen : l.length = m.length
  · have hn : l.length ≤ 281474976710656 := by rw [hlen]; exact hm
    clear hm
    have HA := Lib.hid hA
    have HB := Lib.hid hB
    have H0 : Hid (EqAt eqD l m w (.int .i64 0) w) := Lib.hid ⟨0, rfl, Nat.zero_le _, fun j x y h => absurd h (Nat.not_lt_zero _), Below.refl _ _⟩
    have HL := Lib.hid hlen
    rw [← hlen]
    clear hA hB hlen
    go_enter Tryz.func156, Tryz.ntmps156
    go_wp2_with fail
    go_loopw [13] (EqAt eqD l m w) (fun i _ => l.length - (RowKit.intOf i).toNat)
    case atStart => exact H0.out
    case round =>
      obtain ⟨k, rfl, hk, hall, hb⟩ := hrel
      have HALL := Lib.hid hall
      have HBL := Lib.hid hb
      clear hall hb H0
      by_cases hlt : k < l.length
      · obtain ⟨x, hx⟩ : ∃ x, l[k]? = some x := ⟨l[k], List.getElem?_eq_getElem hlt⟩
        obtain ⟨y, hy⟩ : ∃ y, m[k]? = some y := ⟨m[k]'(by rw [← HL.out]; exact hlt), List.getElem?_eq_getElem _⟩
        have gA0 : (strsC l)[k]? = some (.string ⟨x.toArray⟩) := by unfold strsC; rw [List.getElem?_map, hx]; rfl
        obtain ⟨bA, oA, rfl, hbA, hcA⟩ := HA.out.get gA0
        have gB0 : (strsC m)[k]? = some (.string ⟨y.toArray⟩) := by unfold strsC; rw [List.getElem?_map, hy]; rfl
        obtain ⟨bB, oB, rfl, hbB, hcB⟩ := HB.out.get gB0
        have HX := Lib.hid hx
        have HY := Lib.hid hy
        have hblA := Nat.lt_of_lt_of_le hbA HBL.out.size
        have hblB := Nat.lt_of_lt_of_le hbB HBL.out.size
        have zA0 : ∀ p : Later wr, p.val.cell? ⟨bA, oA + k, none⟩ = some (.string ⟨x.toArray⟩) := fun p => Later.cell (a := ⟨bA, oA + k, none⟩) ((HBL.out.cell (p := ⟨bA, oA + k, none⟩) hbA).trans (hcA _ _ gA0)) hblA p
        have zB0 : ∀ p : Later wr, p.val.cell? ⟨bB, oB + k, none⟩ = some (.string ⟨y.toArray⟩) := fun p => Later.cell (a := ⟨bB, oB + k, none⟩) ((HBL.out.cell (p := ⟨bB, oB + k, none⟩) hbB).trans (hcB _ _ gB0)) hblB p
        have hi0 : ¬ (k : Int) < 0 := by omega
        have hi1 : (k : Int) < (l.length : Int) := by omega
        clear hx hy hcA hcB hbA hbB gA0 gB0
        cases hxy : decide (x = y) with
        | false =>
          have hxb : (x == y) = false := beq_eq_false_iff_ne.2 (of_decide_eq_false hxy)
          have hxn : ¬ x = y := of_decide_eq_false hxy
          go_upto_region 6 with fail
          refine wp_region_later (by kernel_rfl) (by kernel_rfl) ?_
          repeat (go_big_quiet_step (fail))
          refine wpQuiet_nil ?_
          intro _ hw'
          obtain ⟨q, hw''⟩ := hw'
          subst hw''
          have hbq := q.below
          generalize q.val = W5 at *
          clear zA0 zB0
          try rw [hxy]
          go_wp2_with fail
          go_ret
          exact ⟨by rw [eqL_no HX.out HY.out (by unfold eqD; exact hxy)]; rfl, HBL.out.trans (hbq.mono HBL.out.size)⟩
        | true =>
          have hxb : (x == y) = true := beq_iff_eq.2 (of_decide_eq_true hxy)
          go_upto_region 6 with fail
          refine wp_region_later (by kernel_rfl) (by kernel_rfl) ?_
          repeat (go_big_quiet_step (fail))
          refine wpQuiet_nil ?_
          intro _ hw'
          obtain ⟨q, hw''⟩ := hw'
          subst hw''
          have hbq := q.below
          generalize q.val = W5 at *
          clear zA0 zB0
          try rw [hxy]
          go_wp2_with fail
          go_roundw
          case rel => exact ⟨k + 1, by go_num, by omega, (fun j x' y' hj h1 h2 => by
            rcases Nat.lt_or_ge j k with h | h
            · exact HALL.out j x' y' h h1 h2
            · obtain rfl : j = k := by omega
              rw [HX.out] at h1; rw [HY.out] at h2
              injection h1 with h1; injection h2 with h2
              rw [← h1, ← h2]; unfold eqD; exact hxy), HBL.out.trans (hbq.mono HBL.out.size)⟩
          case measure => simp [RowKit.intOf]; omega
      · have hkk : k = l.length := by omega
        have HT : Hid (eqL eqD l m = true) := Lib.hid (eqL_yes HL.out fun j x y h1 h2 => HALL.out j x y (by have := (List.getElem?_eq_some_iff.1 h1).1; omega) h1 h2)
        go_wp2_with fail
        go_ret
        exact ⟨by rw [HT.out]; rfl, HBL.out⟩
  · have hne : ¬ ((l.length : Int) = (m.length : Int)) := by omega
    have hne2 : ((l.length : Int) != (m.length : Int)) = true := by simpa using hne
    have hne3 : (l.length != m.length) = true := by simpa using hlen
    have hne4 : (l.length == m.length) = false := by simpa using hlen
    have HF := Lib.hid (eqL_len (E := eqD) hlen)
    clear hA hB
    go_enter Tryz.func156, Tryz.ntmps156
    go_wp2_with fail
    go_ret
    exact ⟨by rw [HF.out]; rfl, Below.refl _ _⟩

set_option maxRecDepth 100000 in
set_option maxHeartbeats 4000000 in
theorem equal_nums (l m : List NumT) (A B : Option Addr) (ca cb : Nat) (w : World) (S S' : Nat → Prop) (hm : m.length ≤ 281474976710656) (hA : FR w S A (numsC l)) (hB : FR w S' B (numsC m)) :
    Calls Tryz.prog 173 #[.slice A l.length ca, .slice B m.length cb] w (RetB (eqL eqD l m) w) := by
  by_cases hlen : l.length = m.length
  · have hn : l.length ≤ 281474976710656 := by rw [hlen]; exact hm
    clear hm
    have HA := Lib.hid hA
    have HB := Lib.hid hB
    have H0 : Hid (EqAt eqD l m w (.int .i64 0) w) := Lib.hid ⟨0, rfl, Nat.zero_le _, fun j x y h => absurd h (Nat.not_lt_zero _), Below.refl _ _⟩
    have HL := Lib.hid hlen
    rw [← hlen]
    clear hA hB hlen
    go_enter Tryz.func173, Tryz.ntmps173
    go_wp2_with fail
    go_loopw [13] (EqAt eqD l m w) (fun i _ => l.length - (RowKit.intOf i).toNat)
    case atStart => exact H0.out
    case round =>
      obtain ⟨k, rfl, hk, hall, hb⟩ := hrel
      have HALL := Lib.hid hall
      have HBL := Lib.hid hb
      clear hall hb H0
      by_cases hlt : k < l.length
      · obtain ⟨x, hx⟩ : ∃ x, l[k]? = some x := ⟨l[k], List.getElem?_eq_getElem hlt⟩
        obtain ⟨y, hy⟩ : ∃ y, m[k]? = some y := ⟨m[k]'(by rw [← HL.out]; exact hlt), List.getElem?_eq_getElem _⟩
        obtain ⟨gA0, gA1⟩ := numsC_get hx
        obtain ⟨bA, oA, rfl, hbA, hcA⟩ := HA.out.get gA0
        obtain ⟨gB0, gB1⟩ := numsC_get hy
        obtain ⟨bB, oB, rfl, hbB, hcB⟩ := HB.out.get gB0
        have HX := Lib.hid hx
        have HY := Lib.hid hy
        have hblA := Nat.lt_of_lt_of_le hbA HBL.out.size
        have hblB := Nat.lt_of_lt_of_le hbB HBL.out.size
        have zA0 : ∀ p : Later wr, p.val.cell? ⟨bA, oA + k * 2, none⟩ = some (.int .i64 x.n) := fun p => Later.cell (a := ⟨bA, oA + k * 2, none⟩) ((HBL.out.cell (p := ⟨bA, oA + k * 2, none⟩) hbA).trans (hcA _ _ gA0)) hblA p
        have zA1 : ∀ p : Later wr, p.val.cell? ⟨bA, oA + k * 2 + 1, none⟩ = some (.string ⟨x.p.toArray⟩) := fun p => Later.cell (a := ⟨bA, oA + k * 2 + 1, none⟩) ((HBL.out.cell (p := ⟨bA, oA + k * 2 + 1, none⟩) hbA).trans (by have q := (hcA _ _ gA1); rwa [← Nat.add_assoc] at q)) hblA p
        have zB0 : ∀ p : Later wr, p.val.cell? ⟨bB, oB + k * 2, none⟩ = some (.int .i64 y.n) := fun p => Later.cell (a := ⟨bB, oB + k * 2, none⟩) ((HBL.out.cell (p := ⟨bB, oB + k * 2, none⟩) hbB).trans (hcB _ _ gB0)) hblB p
        have zB1 : ∀ p : Later wr, p.val.cell? ⟨bB, oB + k * 2 + 1, none⟩ = some (.string ⟨y.p.toArray⟩) := fun p => Later.cell (a := ⟨bB, oB + k * 2 + 1, none⟩) ((HBL.out.cell (p := ⟨bB, oB + k * 2 + 1, none⟩) hbB).trans (by have q := (hcB _ _ gB1); rwa [← Nat.add_assoc] at q)) hblB p
        have hi0 : ¬ (k : Int) < 0 := by omega
        have hi1 : (k : Int) < (l.length : Int) := by omega
        clear hx hy hcA hcB hbA hbB gA0 gA1 gB0 gB1
        cases hxy : decide (x = y) with
        | false =>
          have hxb : (x == y) = false := beq_eq_false_iff_ne.2 (of_decide_eq_false hxy)
          have hxn : ¬ x = y := of_decide_eq_false hxy
          go_upto_region 6 with fail
          refine wp_region_later (by kernel_rfl) (by kernel_rfl) ?_
          repeat (go_big_quiet_step (fail))
          refine wpQuiet_nil ?_
          intro _ hw'
          obtain ⟨q, hw''⟩ := hw'
          subst hw''
          have hbq := q.below
          generalize q.val = W5 at *
          clear zA0 zA1 zB0 zB1
          try rw [hxy]
          go_wp2_with fail
          go_ret
          exact ⟨by rw [eqL_no HX.out HY.out (by unfold eqD; exact hxy)]; rfl, HBL.out.trans (hbq.mono HBL.out.size)⟩
        | true =>
          have hxb : (x == y) = true := beq_iff_eq.2 (of_decide_eq_true hxy)
          go_upto_region 6 with fail
          refine wp_region_later (by kernel_rfl) (by kernel_rfl) ?_
          repeat (go_big_quiet_step (fail))
          refine wpQuiet_nil ?_
          intro _ hw'
          obtain ⟨q, hw''⟩ := hw'
          subst hw''
          have hbq := q.below
          generalize q.val = W5 at *
          clear zA0 zA1 zB0 zB1
          try rw [hxy]
          go_wp2_with fail
          go_roundw
          case rel => exact ⟨k + 1, by go_num, by omega, (fun j x' y' hj h1 h2 => by
            rcases Nat.lt_or_ge j k with h | h
            · exact HALL.out j x' y' h h1 h2
            · obtain rfl : j = k := by omega
              rw [HX.out] at h1; rw [HY.out] at h2
              injection h1 with h1; injection h2 with h2
              rw [← h1, ← h2]; unfold eqD; exact hxy), HBL.out.trans (hbq.mono HBL.out.size)⟩
          case measure => simp [RowKit.intOf]; omega
      · have hkk : k = l.length := by omega
        have HT : Hid (eqL eqD l m = true) := Lib.hid (eqL_yes HL.out fun j x y h1 h2 => HALL.out j x y (by have := (List.getElem?_eq_some_iff.1 h1).1; omega) h1 h2)
        go_wp2_with fail
        go_ret
        exact ⟨by rw [HT.out]; rfl, HBL.out⟩
  · have hne : ¬ ((l.length : Int) = (m.length : Int)) := by omega
    have hne2 : ((l.length : Int) != (m.length : Int)) = true := by simpa using hne
    have hne3 : (l.length != m.length) = true := by simpa using hlen
    have hne4 : (l.length == m.length) = false := by simpa using hlen
    have HF := Lib.hid (eqL_len (E := eqD) hlen)
    clear hA hB
    go_enter Tryz.func173, Tryz.ntmps173
    go_wp2_with fail
    go_ret
    exact ⟨by rw [HF.out]; rfl, Below.refl _ _⟩

set_option maxRecDepth 100000 in
set_option maxHeartbeats 4000000 in
theorem equal_binds (l m : List BindT) (A B : Option Addr) (ca cb : Nat) (w : World) (S S' : Nat → Prop) (hm : m.length ≤ 281474976710656) (hA : FR w S A (bindsC l)) (hB : FR w S' B (bindsC m)) :
    Calls Tryz.prog 174 #[.slice A l.length ca, .slice B m.length cb] w (RetB (eqL eqD l m) w) := by
  by_cases hlen : l.length = m.length
  · have hn : l.length ≤ 281474976710656 := by rw [hlen]; exact hm
    clear hm
    have HA := Lib.hid hA
    have HB := Lib.hid hB
    have H0 : Hid (EqAt eqD l m w (.int .i64 0) w) := Lib.hid ⟨0, rfl, Nat.zero_le _, fun j x y h => absurd h (Nat.not_lt_zero _), Below.refl _ _⟩
    have HL := Lib.hid hlen
    rw [← hlen]
    clear hA hB hlen
    go_enter Tryz.func174, Tryz.ntmps174
    go_wp2_with fail
    go_loopw [13] (EqAt eqD l m w) (fun i _ => l.length - (RowKit.intOf i).toNat)
    case atStart => exact H0.out
    case round =>
      obtain ⟨k, rfl, hk, hall, hb⟩ := hrel
      have HALL := Lib.hid hall
      have HBL := Lib.hid hb
      clear hall hb H0
      by_cases hlt : k < l.length
      · obtain ⟨x, hx⟩ : ∃ x, l[k]? = some x := ⟨l[k], List.getElem?_eq_getElem hlt⟩
        obtain ⟨y, hy⟩ : ∃ y, m[k]? = some y := ⟨m[k]'(by rw [← HL.out]; exact hlt), List.getElem?_eq_getElem _⟩
        obtain ⟨gA0, gA1⟩ := bindsC_get hx
        obtain ⟨bA, oA, rfl, hbA, hcA⟩ := HA.out.get gA0
        obtain ⟨gB0, gB1⟩ := bindsC_get hy
        obtain ⟨bB, oB, rfl, hbB, hcB⟩ := HB.out.get gB0
        have HX := Lib.hid hx
        have HY := Lib.hid hy
        have hblA := Nat.lt_of_lt_of_le hbA HBL.out.size
        have hblB := Nat.lt_of_lt_of_le hbB HBL.out.size
        have zA0 : ∀ p : Later wr, p.val.cell? ⟨bA, oA + k * 2, none⟩ = some (.string ⟨x.port.toArray⟩) := fun p => Later.cell (a := ⟨bA, oA + k * 2, none⟩) ((HBL.out.cell (p := ⟨bA, oA + k * 2, none⟩) hbA).trans (hcA _ _ gA0)) hblA p
        have zA1 : ∀ p : Later wr, p.val.cell? ⟨bA, oA + k * 2 + 1, none⟩ = some (.string ⟨x.chan.toArray⟩) := fun p => Later.cell (a := ⟨bA, oA + k * 2 + 1, none⟩) ((HBL.out.cell (p := ⟨bA, oA + k * 2 + 1, none⟩) hbA).trans (by have q := (hcA _ _ gA1); rwa [← Nat.add_assoc] at q)) hblA p
        have zB0 : ∀ p : Later wr, p.val.cell? ⟨bB, oB + k * 2, none⟩ = some (.string ⟨y.port.toArray⟩) := fun p => Later.cell (a := ⟨bB, oB + k * 2, none⟩) ((HBL.out.cell (p := ⟨bB, oB + k * 2, none⟩) hbB).trans (hcB _ _ gB0)) hblB p
        have zB1 : ∀ p : Later wr, p.val.cell? ⟨bB, oB + k * 2 + 1, none⟩ = some (.string ⟨y.chan.toArray⟩) := fun p => Later.cell (a := ⟨bB, oB + k * 2 + 1, none⟩) ((HBL.out.cell (p := ⟨bB, oB + k * 2 + 1, none⟩) hbB).trans (by have q := (hcB _ _ gB1); rwa [← Nat.add_assoc] at q)) hblB p
        have hi0 : ¬ (k : Int) < 0 := by omega
        have hi1 : (k : Int) < (l.length : Int) := by omega
        clear hx hy hcA hcB hbA hbB gA0 gA1 gB0 gB1
        cases hxy : decide (x = y) with
        | false =>
          have hxb : (x == y) = false := beq_eq_false_iff_ne.2 (of_decide_eq_false hxy)
          have hxn : ¬ x = y := of_decide_eq_false hxy
          go_upto_region 6 with fail
          refine wp_region_later (by kernel_rfl) (by kernel_rfl) ?_
          repeat (go_big_quiet_step (fail))
          refine wpQuiet_nil ?_
          intro _ hw'
          obtain ⟨q, hw''⟩ := hw'
          subst hw''
          have hbq := q.below
          generalize q.val = W5 at *
          clear zA0 zA1 zB0 zB1
          try rw [hxy]
          go_wp2_with fail
          go_ret
          exact ⟨by rw [eqL_no HX.out HY.out (by unfold eqD; exact hxy)]; rfl, HBL.out.trans (hbq.mono HBL.out.size)⟩
        | true =>
          have hxb : (x == y) = true := beq_iff_eq.2 (of_decide_eq_true hxy)
          go_upto_region 6 with fail
          refine wp_region_later (by kernel_rfl) (by kernel_rfl) ?_
          repeat (go_big_quiet_step (fail))
          refine wpQuiet_nil ?_
          intro _ hw'
          obtain ⟨q, hw''⟩ := hw'
          subst hw''
          have hbq := q.below
          generalize q.val = W5 at *
          clear zA0 zA1 zB0 zB1
          try rw [hxy]
          go_wp2_with fail
          go_roundw
          case rel => exact ⟨k + 1, by go_num, by omega, (fun j x' y' hj h1 h2 => by
            rcases Nat.lt_or_ge j k with h | h
            · exact HALL.out j x' y' h h1 h2
            · obtain rfl : j = k := by omega
              rw [HX.out] at h1; rw [HY.out] at h2
              injection h1 with h1; injection h2 with h2
              rw [← h1, ← h2]; unfold eqD; exact hxy), HBL.out.trans (hbq.mono HBL.out.size)⟩
          case measure => simp [RowKit.intOf]; omega
      · have hkk : k = l.length := by omega
        have HT : Hid (eqL eqD l m = true) := Lib.hid (eqL_yes HL.out fun j x y h1 h2 => HALL.out j x y (by have := (List.getElem?_eq_some_iff.1 h1).1; omega) h1 h2)
        go_wp2_with fail
        go_ret
        exact ⟨by rw [HT.out]; rfl, HBL.out⟩
  · have hne : ¬ ((l.length : Int) = (m.length : Int)) := by omega
    have hne2 : ((l.length : Int) != (m.length : Int)) = true := by simpa using hne
    have hne3 : (l.length != m.length) = true := by simpa using hlen
    have hne4 : (l.length == m.length) = false := by simpa using hlen
    have HF := Lib.hid (eqL_len (E := eqD) hlen)
    clear hA hB
    go_enter Tryz.func174, Tryz.ntmps174
    go_wp2_with fail
    go_ret
    exact ⟨by rw [HF.out]; rfl, Below.refl _ _⟩

end Sy
end Go.Proofs.YtggeepimihhpjaaGreatDoor

namespace Go.Proofs.YtggeepimihhpjaaGreatDoor
open Go.RowKit Go.Shelf Go.Lib Sl Fr Lx
namespace Sy
set_option linter.unusedVariables false
set_option linter.unusedSimpArgs false
attribute [local go_sem high] eq_str neq_str eq_num neq_num eq_bind neq_bind eq_rule neq_rule

mutual
def SmE : ExprT → Prop
  | .mk op nm k w args => args.length ≤ 281474976710656 ∧ SmA args
def SmA : List ExprT → Prop
  | [] => True
  | e :: r => SmE e ∧ SmA r
end
theorem SmA.get : ∀ {l : List ExprT} {i : Nat} {x : ExprT}, SmA l → l[i]? = some x → SmE x
  | [], _, _, _, h => by cases h
  | e :: r, 0, x, h, hx => by
    unfold SmA at h
    simp only [List.getElem?_cons_zero, Option.some.injEq] at hx
    subst hx; exact h.1
  | e :: r, i + 1, x, h, hx => by
    unfold SmA at h
    exact SmA.get h.2 (i := i) hx
theorem AR.get {w : World} {S : Nat → Prop} {b : Nat} : ∀ {l : List ExprT} {o k : Nat} {x : ExprT}, AR w S b o l → l[k]? = some x → ∃ A c, ER w S x (eC x A c) ∧ w.rangeAt b (o + k * 7) (eC x A c)
  | [], _, _, _, _, h => by cases h
  | e :: r, o, 0, x, h, hx => by
    obtain ⟨A, c, h1, h2, _⟩ := h.head
    simp only [List.getElem?_cons_zero, Option.some.injEq] at hx
    subst hx
    exact ⟨A, c, h1, by rw [Nat.zero_mul, Nat.add_zero]; exact h2⟩
  | e :: r, o, k + 1, x, h, hx => by
    obtain ⟨_, _, _, _, h3⟩ := h.head
    obtain ⟨A, c, h1, h2⟩ := AR.get h3 (k := k) hx
    exact ⟨A, c, h1, by rw [show o + (k + 1) * 7 = o + 7 + k * 7 by omega]; exact h2⟩
def SE (a : ExprT) : Prop := ∀ b : ExprT, SmE b → ∀ (w : World) (S S' : Nat → Prop) (A B : Option Addr) (c d : Nat), ER w S a (eC a A c) → ER w S' b (eC b B d) →
  Calls Tryz.prog 172 #[.agg (eC a A c).toArray, .agg (eC b B d).toArray] w (RetB (eqE a b) w)
theorem eC_inj {a : ExprT} {A A' : Option Addr} {c c' : Nat} (h : eC a A c = eC a A' c') : A = A' ∧ c = c' := by
  have : (.slice A a.args.length c : Value) = .slice A' a.args.length c' := by
    have := congrArg (fun l => l[6]?) h
    simpa [eC] using this
  injection this with h1 h2 h3
  exact ⟨h1, h3⟩
theorem ER.args_at {w : World} {S : Nat → Prop} {a : ExprT} {A : Option Addr} {c : Nat} (h : ER w S a (eC a A c)) {k : Nat} {x : ExprT} (hx : a.args[k]? = some x) : ∃ b o A' c', A = some ⟨b, o, none⟩ ∧ b < w.heap.size ∧ ER w S x (eC x A' c') ∧ w.rangeAt b (o + k * 7) (eC x A' c') := by
  obtain ⟨A1, c1, e, _, h3⟩ := h.out
  obtain ⟨rfl, rfl⟩ := eC_inj e
  obtain ⟨b, o, h4, _, h5, h6⟩ := h3 (by intro e; rw [e] at hx; cases hx)
  obtain ⟨A', c', h7, h8⟩ := h6.get hx
  exact ⟨b, o, A', c', h4, h5, h7, h8⟩

set_option maxRecDepth 100000 in
set_option maxHeartbeats 4000000 in
theorem sE_step (op : Int) (nm : By) (k ww : NumT) (args : List ExprT) (hIH : ∀ (i : Nat) (x : ExprT), args[i]? = some x → SE x) : SE (.mk op nm k ww args) := by
  intro b hsm w S S' A B c d ha hb
  obtain ⟨op', nm', k', ww', args'⟩ := b
  unfold SmE at hsm
  obtain ⟨hsl, hsa⟩ := hsm
  have hq : eqE (.mk op nm k ww args) (.mk op' nm' k' ww' args') = (decide (op = op') && (decide (nm = nm') && (decide (k = k') && (decide (ww = ww') && eqL eqE args args')))) := by rw [eqE.eq_1, eqA_L]
  rw [hq]
  show Calls Tryz.prog 172 #[.agg #[.int .i64 op, .string ⟨nm.toArray⟩, .int .i64 k.n, .string ⟨k.p.toArray⟩, .int .i64 ww.n, .string ⟨ww.p.toArray⟩, .slice A args.length c], .agg #[.int .i64 op', .string ⟨nm'.toArray⟩, .int .i64 k'.n, .string ⟨k'.p.toArray⟩, .int .i64 ww'.n, .string ⟨ww'.p.toArray⟩, .slice B args'.length d]] w _
  have hcall : ∀ W, Below w.heap.size w W → Calls Tryz.prog 180 #[.slice A args.length c, .slice B args'.length d, .func (.func 172) #[] #[]] W (RetB (eqL eqE args args') W) := fun W hbW => by
    refine equalFunc_expr eqE args args' A B c d W hsl fun i x y hx hy => ?_
    obtain ⟨b1, o1, A1, c1, rfl, hl1, he1, hr1⟩ := (ER.grown (grown_below hbW) (fun g e => by cases e) _ _ ha).args_at hx
    obtain ⟨b2, o2, A2, c2, rfl, hl2, he2, hr2⟩ := (ER.grown (grown_below hbW) (fun g e => by cases e) _ _ hb).args_at hy
    exact ⟨b1, o1, (eC x A1 c1).toArray, b2, o2, (eC y A2 c2).toArray, rfl, hl1, hr1, rfl, by simp [eC, Value.oneCell'], rfl, hl2, hr2, rfl, by simp [eC, Value.oneCell'], fun W2 hb2 => hIH i x hx y (hsa.get hy) W2 S S' A1 A2 c1 c2 (ER.grown (grown_below hb2) (fun g e => by cases e) _ _ he1) (ER.grown (grown_below hb2) (fun g e => by cases e) _ _ he2)⟩
  clear ha hb hIH hsa hq
  obtain ⟨mA, mB, bA⟩ := start2X w #[.int .i64 op, .string ⟨nm.toArray⟩, .int .i64 k.n, .string ⟨k.p.toArray⟩, .int .i64 ww.n, .string ⟨ww.p.toArray⟩, .slice A args.length c] #[.int .i64 op', .string ⟨nm'.toArray⟩, .int .i64 k'.n, .string ⟨k'.p.toArray⟩, .int .i64 ww'.n, .string ⟨ww'.p.toArray⟩, .slice B args'.length d] 63 63
  go_enter Tryz.func172, Tryz.ntmps172
  go_upto_region 1 with fail
  generalize hXe : (w.alloc (.cells #[.int .i64 op, .string ⟨nm.toArray⟩, .int .i64 k.n, .string ⟨k.p.toArray⟩, .int .i64 ww.n, .string ⟨ww.p.toArray⟩, .slice A args.length c] 63)).alloc (.cells #[.int .i64 op', .string ⟨nm'.toArray⟩, .int .i64 k'.n, .string ⟨k'.p.toArray⟩, .int .i64 ww'.n, .string ⟨ww'.p.toArray⟩, .slice B args'.length d] 63) = X at *
  clear hXe
  have cA0 := mA.cell (i := 0) rfl
  have cA1 := mA.cell (i := 1) rfl
  have cA2 := mA.cell (i := 2) rfl
  have cA3 := mA.cell (i := 3) rfl
  have cA4 := mA.cell (i := 4) rfl
  have cA5 := mA.cell (i := 5) rfl
  have cA6 := mA.cell (i := 6) rfl
  have cB0 := mB.cell (i := 0) rfl
  have cB1 := mB.cell (i := 1) rfl
  have cB2 := mB.cell (i := 2) rfl
  have cB3 := mB.cell (i := 3) rfl
  have cB4 := mB.cell (i := 4) rfl
  have cB5 := mB.cell (i := 5) rfl
  have cB6 := mB.cell (i := 6) rfl
  have HBX := Lib.hid bA
  clear mA mB
  have HC : Hid (∀ W, Below X.heap.size X W → Calls Tryz.prog 180 #[.slice A args.length c, .slice B args'.length d, .func (.func 172) #[] #[]] W (RetB (eqL eqE args args') W)) := Lib.hid (fun W hbW => hcall W (HBX.out.trans (hbW.mono HBX.out.size)))
  clear hcall bA
  by_cases h1 : op = op'
  · subst h1
    by_cases h2 : nm = nm'
    · subst h2
      by_cases h3 : k = k'
      · subst h3
        by_cases h4 : ww = ww'
        · subst h4
          cases hl : eqL eqE args args' with
          | true =>
            rw [hl] at HC
            go_wp2_with (first
              | (go_at_call 180; refine (HC.out _ (Below.refl _ _)).mono ?_; rintro e v4 ⟨rfl, hc4⟩; have hb4 := hc4))
            go_ret
            exact ⟨by simp_all, HBX.out.trans (hb4.mono HBX.out.size)⟩
          | false =>
            rw [hl] at HC
            go_wp2_with (first
              | (go_at_call 180; refine (HC.out _ (Below.refl _ _)).mono ?_; rintro e v4 ⟨rfl, hc4⟩; have hb4 := hc4))
            go_ret
            exact ⟨by simp_all, HBX.out.trans (hb4.mono HBX.out.size)⟩
        · have h4d : decide (ww = ww') = false := decide_eq_false h4
          go_wp2_with fail
          go_ret
          exact ⟨by simp_all, HBX.out⟩
      · have h3d : decide (k = k') = false := decide_eq_false h3
        go_wp2_with fail
        go_ret
        exact ⟨by simp_all, HBX.out⟩
    · have h2d : decide (nm = nm') = false := decide_eq_false h2
      go_wp2_with fail
      go_ret
      exact ⟨by simp_all, HBX.out⟩
  · have h1d : decide (op = op') = false := decide_eq_false h1
    have h1b : (op == op') = false := by simpa using h1
    go_wp2_with fail
    go_ret
    exact ⟨by simp_all, HBX.out⟩
mutual
theorem sE : ∀ e : ExprT, SE e
  | .mk op nm k w args => sE_step op nm k w args fun i x h => sA args i x h
theorem sA : ∀ (l : List ExprT) (i : Nat) (x : ExprT), l[i]? = some x → SE x
  | [], i, x, h => by cases h
  | e :: r, 0, x, h => by
    simp only [List.getElem?_cons_zero, Option.some.injEq] at h
    subst h
    exact sE e
  | e :: r, i + 1, x, h => sA r i x h
end

end Sy
end Go.Proofs.YtggeepimihhpjaaGreatDoor
