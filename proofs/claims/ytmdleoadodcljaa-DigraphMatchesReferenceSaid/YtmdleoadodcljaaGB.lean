/- What Cycle returns. -/
import Derived.Test.YtmdleoadodcljaaGA
namespace Go.Proofs.Ytmdleoadodcljaa
open Go.RowKit Sl Fr
namespace Gp
set_option linter.unusedVariables false

theorem eql_nil (l c : Nat) (w : World) : (binOp .eql 26 (.slice none l c) (.slice none 0 0)).run Try.prog w = .ok (.bool true) w := by
  simp only [binOp]
  simp [run_equal_slice_nil w 26 3 none l c Try.underlying26]
theorem eql_some (a : Addr) (l c : Nat) (w : World) : (binOp .eql 26 (.slice (some a) l c) (.slice none 0 0)).run Try.prog w = .ok (.bool false) w := by
  simp only [binOp]
  simp [run_equal_slice_nil w 26 3 (some a) l c Try.underlying26]
/-- A list of nodes is given back, or nil and an error. -/
def GiveE (W : World) (b : Option (List Nat)) (err : Int) (e : Ending) (w' : World) : Prop :=
  (match b with
    | none => e = .returned (.tuple #[.slice none 0 0, .int .i64 err])
    | some l => ∃ A c, e = .returned (.tuple #[.slice A l.length c, .int .i64 0]) ∧ l.length ≤ c ∧ Row w' W.heap.size A l) ∧ Below W.heap.size W w'
/-- A slice of nodes or nil. -/
def IsO (w : World) (base : Nat) (v : Value) : Option (List Nat) → Prop
  | none => v = .slice none 0 0
  | some l => ∃ g o c, v = .slice (some ⟨g, o, none⟩) l.length c ∧ l.length ≤ c ∧ Row w base (some ⟨g, o, none⟩) l
theorem IsO.keep {w w' : World} {base : Nat} {v : Value} : ∀ {x : Option (List Nat)}, IsO w base v x → Below w.heap.size w w' → IsO w' base v x
  | none, h, _ => h
  | some l, ⟨g, o, c, h1, h2, h3⟩, hb => ⟨g, o, c, h1, h2, h3.keep hb⟩
def CycAt (n : Nat) (es : Dgr.Edges) (w w3 : World) (q : Nat) (v i : Value) (wr : World) : Prop :=
  ∃ (k : Nat) (x : Option (List Nat)), i = .int .i64 k ∧ k ≤ n ∧ q = n - k ∧ Dgr.Best es k x ∧ IsO wr w.heap.size v x ∧ (∀ l, x = some l → l.length ≤ n) ∧ Below w3.heap.size w3 wr
theorem found_len {n : Nat} {es : Dgr.Edges} (ok : Dgr.Ok n es) {v : Nat} {l : List Nat} (h : Dgr.Found es v (some l)) : l.length ≤ n := by
  obtain ⟨d, hg, hw, hmin⟩ := h
  rw [hg.len]
  have hv : v < n := (Dgr.Way.lt ok hw.way).1
  obtain ⟨y, hy, hw'⟩ := Dgr.Walk.uncons hw
  obtain ⟨e, he, hd⟩ := Dgr.dist_of_walk hw'
  have h1 : y < n := (ok _ hy).2
  have h2 := hd.lt ok h1
  have h3 : ¬ e < d := fun hlt => hmin e hlt (Dgr.Walk.cons hy hd.1)
  omega

theorem cf_call (n N v c : Nat) (A : Option Addr) (es : Dgr.Edges) (f : Nat → Int) (w : World) (hA : Rows w 0 A (sucL n es)) (hC : CellsV w N n (iF f)) (hD : Dgr.DistF n (Dgr.rev es) v f) (ok : Dgr.Ok n es) (hv : v < n) (hn : n ≤ 200) (hel : es.length ≤ 2000) :
    Calls Try.prog 39 #[.slice A n c, .slice (some ⟨N, 0, none⟩) n n, .int .i64 v] w fun e w' => ∃ b val, e = .returned val ∧ Dgr.Found es v b ∧ IsO w' w.heap.size val b ∧ Below w.heap.size w w' :=
  (cf_any n N v c A es f w hA hC hD ok hv hn hel).mono fun e w' ⟨b, h1, h2, h3⟩ => by
    cases b with
    | none => exact ⟨none, _, h2, h1, rfl, h3⟩
    | some l =>
      obtain ⟨g, o, c, h4, h5, h6⟩ := h2
      exact ⟨some l, _, h4, h1, ⟨g, o, c, rfl, h5, h6⟩, h3⟩
theorem IsO.mono {w : World} {base base' : Nat} {v : Value} (hb : base' ≤ base) : ∀ {x : Option (List Nat)}, IsO w base v x → IsO w base' v x
  | none, h => h
  | some l, ⟨g, o, c, h1, h2, h3⟩ => ⟨g, o, c, h1, h2, h3.mono hb⟩

set_option maxRecDepth 100000 in
set_option maxHeartbeats 3200000 in
theorem cyc_any (n : Nat) (A : Option Addr) (es : Dgr.Edges) (c : Nat) (w : World) (hA : EdgesA w A es) (ok : Dgr.Ok n es) (hn : n ≤ 200) (hl : es.length ≤ 2000) :
    Calls Try.prog 27 #[.int .i64 n, .slice A es.length c] w fun e w' => ∃ b, Dgr.CycIs es b ∧ GiveE w b 4 e w' := by
  have HO := Lib.hid ok
  have HA := Lib.hid hA
  have hel2 : (Dgr.rev es).length ≤ 2000 := by simpa [Dgr.rev] using hl
  clear ok hA
  have hq1 := eql_nil 0 0
  have hq2 := eql_some
  go_enter Try.func27, Try.ntmps27
  go_wp2_with (first
    | (go_at_call 6; refine (valid_ok HO.out hn hl _ _ _ HA.out).mono ?_; rintro e w1 ⟨rfl, hb1⟩)
    | (go_at_call 34; refine (suc_call n _ es _ _ (HA.out.keep hb1) HO.out hn hl).mono ?_; rintro e w2 ⟨A2, c2, rfl, hR2, hb2⟩)
    | (go_at_call 35; refine (pre_call n _ es _ _ ((HA.out.keep hb1).keep hb2) HO.out hn hl).mono ?_; rintro e w3 ⟨A3, c3, rfl, hR3, hb3⟩))
  have hb : Below w.heap.size w w3 := (hb1.trans (hb2.mono hb1.size)).trans (hb3.mono (by have := hb1.size; have := hb2.size; omega))
  have HR2 := Lib.hid ((hR2.keep hb3).mono (Nat.zero_le _))
  have HR3 := Lib.hid (hR3.mono (Nat.zero_le _))
  clear hR2 hR3 hb1 hb2 hb3
  have HS : Hid (CycAt n es w w3 n (.slice none 0 0) (.int .i64 ((0 : Nat) : Int)) w3) := Lib.hid ⟨0, none, rfl, Nat.zero_le _, rfl, Dgr.Best.start es, rfl, fun l h => (by cases h), Below.refl _ _⟩
  go_loopg [8, 22] n (fun q v i wr => CycAt n es w w3 q v i wr)
  case atStart => exact HS.out
  case round =>
    obtain ⟨k, x, rfl, hk, rfl, hB, hI, hxl, hbl⟩ := hrel
    clear HS
    have HB := Lib.hid hB
    have HI := Lib.hid hI
    have hbs := hbl.size
    have hbw := hb.size
    clear hB hI
    by_cases hlt : k < n
    · go_upto_region 9 with (first
        | (go_at_call 33; refine (dist_any n k _ _ (Dgr.rev es) _ _ (HR3.out.keep hbl) (preL_adj HO.out) (ok_rev HO.out) hlt hn hel2).mono ?_; rintro e w4 ⟨N, f, rfl, hN, hC, hD, hb4⟩)
        | (go_at_call 39; refine (cf_call n N k _ _ es f _ ((HR2.out.keep hbl).keep hb4) hC hD HO.out hlt hn hl).mono ?_; rintro e w5 ⟨y, val, rfl, hF, hIy, hb5⟩))
      have hb45 : Below wr.heap.size wr w5 := hb4.trans (hb5.mono hb4.size)
      have hb35 := hbl.trans (hb45.mono hbs)
      have HF := Lib.hid hF
      have HIY := Lib.hid (hIy.mono (show w.heap.size ≤ w4.heap.size by have := hb4.size; omega))
      have HIX := Lib.hid (HI.out.keep hb45)
      have hyl : ∀ l, y = some l → l.length ≤ n := fun l hy => by subst hy; exact found_len HO.out hF
      clear hC hD hF hIy hb4 hb5 HI hN hb45
      cases y with
      | none =>
        have hv : val = .slice none 0 0 := HIY.out
        subst hv
        clear HIY
        go_wp2
        go_roundg (n - (k + 1))
        case measure => omega
        case rel => exact ⟨k + 1, x, by go_num, by omega, rfl, HB.out.skip HF.out, HIX.out, hxl, hb35⟩
      | some l =>
        obtain ⟨g1, o1, c1, rfl, hc1, hR1⟩ := HIY.out
        have HR1 := Lib.hid hR1
        have hll := hyl l rfl
        have hl0 := HF.out.length
        clear HIY hR1 hyl
        cases x with
        | none =>
          have hv : u8 = .slice none 0 0 := HIX.out
          subst hv
          clear HIX hxl
          go_wp2
          go_roundg (n - (k + 1))
          case measure => omega
          case rel => exact ⟨k + 1, some l, by go_num, by omega, rfl, HB.out.first HF.out, ⟨g1, o1, c1, rfl, hc1, HR1.out⟩, fun m hm => by cases hm; exact hll, hb35⟩
        | some m =>
          obtain ⟨g2, o2, c2', rfl, hc2, hR2⟩ := HIX.out
          have HRm := Lib.hid hR2
          have hml := hxl m rfl
          clear HIX hR2 hxl
          by_cases hlm : l.length < m.length
          · go_wp2
            go_roundg (n - (k + 1))
            case measure => omega
            case rel => exact ⟨k + 1, some l, by go_num, by omega, rfl, HB.out.better HF.out hlm, ⟨g1, o1, c1, rfl, hc1, HR1.out⟩, fun m' hm => by cases hm; exact hll, hb35⟩
          · go_wp2
            go_roundg (n - (k + 1))
            case measure => omega
            case rel => exact ⟨k + 1, some m, by go_num, by omega, rfl, HB.out.keep HF.out (by omega), ⟨g2, o2, c2', rfl, hc2, HRm.out⟩, fun m' hm => by cases hm; exact hml, hb35⟩
    · have hkn : k = n := by omega
      have hbe := hb.trans (hbl.mono hb.size)
      have HBN := Lib.hid (show Dgr.Best es n x from hkn ▸ HB.out)
      cases x with
      | none =>
        have hv : u8 = .slice none 0 0 := HI.out
        subst hv
        clear HI hkn
        go_wp2
        go_ret2
        exact ⟨none, HBN.out.done HO.out, rfl, hbe⟩
      | some m =>
        obtain ⟨g2, o2, c2', rfl, hc2, hR2⟩ := HI.out
        clear HI hkn
        go_wp2
        go_ret2
        exact ⟨some m, HBN.out.done HO.out, ⟨some ⟨g2, o2, none⟩, c2', rfl, hc2, hR2⟩, hbe⟩

end Gp
end Go.Proofs.Ytmdleoadodcljaa
