/- bad; Same, Alike. -/
import Derived.Test.YtiebhlmjpnhepaaDoorW9
namespace Go.Proofs.YtiebhlmjpnhepaaDoor
open Go.RowKit Sl Fr
namespace Lx
set_option linter.unusedVariables false
set_option linter.unusedSimpArgs false

theorem bad_any (s : ByteArray) (n : Nat) (w : World) (hs : s.size ≤ 281474976710656) (hv : Vars w) (hr : lexR (bys s) = ([], n, 5)) : Calls Tryd.prog 24 #[.string s, .int .i64 (n : Int)] w fun e w' => e = .returned (.bool true) ∧ Below w.heap.size w w' := by
  have HL := Lib.hid (lexed_any s w hs hv)
  rw [hr] at HL
  clear hr hs hv
  go_enter Tryd.func24, Tryd.ntmps24
  go_wp2_with fail
  refine HL.out.mono ?_
  rintro e W1 ⟨A, c, rfl, hc, hn, hA, hb⟩
  have HB := Lib.hid (hb.trans (((Below.refl _ W1).alloc (Nat.le_refl _) (.cells #[.slice A 0 c, .int .i64 (n : Int), .int .i64 5] 29)).mono hb.size))
  clear hc hn hA hb HL
  simp only [List.length_nil]
  have e5 : ((5 : Nat) : Int) = 5 := rfl
  rw [e5]
  clear e5
  go_wp2_with fail
  go_ret
  exact ⟨rfl, HB.out⟩

def sameB (ts us : List Tk) (k : Nat) : Bool := decide (ts.map (shiftT k) = us)
theorem same_len {ts us : List Tk} {k : Nat} (h : ts.length ≠ us.length) : sameB ts us k = false := by
  unfold sameB
  rw [decide_eq_false_iff_not]
  intro h2
  apply h
  rw [← h2, List.length_map]
theorem same_no {ts us : List Tk} {k i : Nat} {t u : Tk} (h : ts[i]? = some t) (h' : us[i]? = some u) (hne : shiftT k t ≠ u) : sameB ts us k = false := by
  unfold sameB
  rw [decide_eq_false_iff_not]
  intro h2
  apply hne
  rw [← h2, List.getElem?_map, h] at h'
  exact Option.some.inj h'
theorem same_step {ts us : List Tk} {k i : Nat} {t u : Tk} (h : ts[i]? = some t) (h' : us[i]? = some u) (he : shiftT k t = u) (hk : (ts.take i).map (shiftT k) = us.take i) : (ts.take (i + 1)).map (shiftT k) = us.take (i + 1) := by
  rw [take_snoc h, take_snoc h', List.map_append, hk, List.map_cons, List.map_nil, he]
theorem shift_eq {k : Nat} {t u : Tk} : shiftT k t = u ↔ t.kind = u.kind ∧ t.text = u.text ∧ t.at_ + k = u.at_ := by
  obtain ⟨a, b, c⟩ := t
  obtain ⟨d, e, f⟩ := u
  unfold shiftT
  simp
theorem str_ne {a b : By} : ((⟨a.toArray⟩ : ByteArray).toList == (⟨b.toArray⟩ : ByteArray).toList) = (a == b) := by
  rw [bys_toList, bys_toList]; rfl

set_option maxRecDepth 100000 in
set_option maxHeartbeats 4000000 in
theorem same_any (A B : Option Addr) (ts us : List Tk) (c d k : Nat) (w : World) (hA : TokA w A ts) (hB : TokA w B us) (hl : ts.length ≤ 100000) (hk : k ≤ 100000) (ht : ∀ t ∈ ts, t.at_ ≤ 100000) :
    Calls Tryd.prog 23 #[.slice A ts.length c, .slice B us.length d, .int .i64 (k : Int)] w fun e w' => e = .returned (.bool (sameB ts us k)) ∧ Below w.heap.size w w' := by
  by_cases hlen : ts.length = us.length
  · obtain ⟨b, o, hb⟩ := hA.open
    obtain ⟨b', o', hb'⟩ := hB.open
    have HA := Lib.hid hb
    have HB := Lib.hid hb'
    have HL := Lib.hid hlen
    have HT := Lib.hid ht
    obtain ⟨R, hR⟩ : ∃ R, sameB ts us k = R := ⟨_, rfl⟩
    have HR := Lib.hid hR
    rw [hR, ← hlen]
    clear hb hb' hA hB hlen ht hR
    have H0 : Hid (Below w.heap.size w w) := Lib.hid (Below.refl _ _)
    go_enter Tryd.func23, Tryd.ntmps23
    go_wp2_with fail
    go_loopw [7] (fun i W => ∃ j : Nat, i = .int .i64 (j : Int) ∧ j ≤ ts.length ∧ (ts.take j).map (shiftT k) = us.take j ∧ Below w.heap.size w W) (fun i _ => ts.length - (intOf i).toNat)
    case atStart => exact ⟨0, rfl, Nat.zero_le _, rfl, H0.out⟩
    case round =>
      obtain ⟨j, rfl, hj, heq, hbl⟩ := hrel
      have HE := Lib.hid heq
      have HBL := Lib.hid hbl
      clear heq hbl H0
      by_cases hlt : j < ts.length
      · obtain ⟨t, ht⟩ := get_ex hlt
        obtain ⟨u, hu⟩ := get_ex (show j < us.length by rw [← HL.out]; exact hlt)
        obtain ⟨rfl, hbs, hc⟩ := HA.out (by intro h; subst h; simp at hlt)
        obtain ⟨rfl, hbs', hc'⟩ := HB.out (by intro h; subst h; simp at hu)
        obtain ⟨g0, g1, g2⟩ := hc j t ht
        obtain ⟨g0', g1', g2'⟩ := hc' j u hu
        have z0 := fun q : Later wr => (q.below.cell (p := ⟨b, o + j * 3, none⟩) (by have := HBL.out.size; exact Nat.lt_of_lt_of_le hbs this)).trans ((HBL.out.cell (p := ⟨b, o + j * 3, none⟩) hbs).trans g0)
        have z1 := fun q : Later wr => (q.below.cell (p := ⟨b, o + j * 3 + 1, none⟩) (by have := HBL.out.size; exact Nat.lt_of_lt_of_le hbs this)).trans ((HBL.out.cell (p := ⟨b, o + j * 3 + 1, none⟩) hbs).trans g1)
        have z2 := fun q : Later wr => (q.below.cell (p := ⟨b, o + j * 3 + 2, none⟩) (by have := HBL.out.size; exact Nat.lt_of_lt_of_le hbs this)).trans ((HBL.out.cell (p := ⟨b, o + j * 3 + 2, none⟩) hbs).trans g2)
        have z0' := fun q : Later wr => (q.below.cell (p := ⟨b', o' + j * 3, none⟩) (by have := HBL.out.size; exact Nat.lt_of_lt_of_le hbs' this)).trans ((HBL.out.cell (p := ⟨b', o' + j * 3, none⟩) hbs').trans g0')
        have z1' := fun q : Later wr => (q.below.cell (p := ⟨b', o' + j * 3 + 1, none⟩) (by have := HBL.out.size; exact Nat.lt_of_lt_of_le hbs' this)).trans ((HBL.out.cell (p := ⟨b', o' + j * 3 + 1, none⟩) hbs').trans g1')
        have z2' := fun q : Later wr => (q.below.cell (p := ⟨b', o' + j * 3 + 2, none⟩) (by have := HBL.out.size; exact Nat.lt_of_lt_of_le hbs' this)).trans ((HBL.out.cell (p := ⟨b', o' + j * 3 + 2, none⟩) hbs').trans g2')
        have hat := HT.out t (List.mem_of_getElem? ht)
        have HN := Lib.hid (fun hne : shiftT k t ≠ u => HR.out.symm.trans (same_no ht hu hne))
        have HS := Lib.hid (fun he : shiftT k t = u => same_step ht hu he HE.out)
        have HQ := Lib.hid (shift_eq (k := k) (t := t) (u := u))
        clear hc hc' g0 g1 g2 g0' g1' g2' ht hu HA HB HE HR
        have hst := str_ne (a := t.text) (b := u.text)
        generalize shiftT k t = v at *
        generalize t.kind = a0 at *
        generalize t.text = a1 at *
        generalize t.at_ = a2 at *
        generalize u.kind = b0 at *
        generalize u.text = b1 at *
        generalize u.at_ = b2 at *
        have hw : IntKind.i64.wrap ((a2 : Int) + (k : Int)) = ((a2 + k : Nat) : Int) := by rw [IntWalk.i64_in _ (by omega)]; simp
        have z3 := HBL.out
        have HBL2 := HBL
        clear z3 HBL
        by_cases h0 : a0 = b0
        · subst h0
          by_cases h1 : a1 = b1
          · subst h1
            by_cases h2 : a2 + k = b2
            · subst h2
              have HV := Lib.hid (HS.out (HQ.out.2 ⟨rfl, rfl, rfl⟩))
              clear HN HS HQ hst
              go_upto_region 6 with fail
              refine wp_region_later (by kernel_rfl) (by kernel_rfl) ?_
              repeat (go_big_quiet_step (fail))
              refine wpQuiet_nil ?_
              intro _ hw'
              obtain ⟨q, hw''⟩ := hw'
              subst hw''
              have HB3 := Lib.hid (HBL2.out.trans (q.below.mono HBL2.out.size))
              clear z0 z1 z2 z0' z1' z2' hw
              go_wp2_with fail
              go_roundw
              case rel => exact ⟨j + 1, by go_num, by omega, HV.out, HB3.out⟩
              case measure => simp [intOf]; omega
            · have e1 : (((a2 + k : Nat) : Int) == (b2 : Int)) = false := by simp; omega
              have e2 : (a2 + k == b2) = false := by simp; omega
              have e3 : (((a2 + k : Nat) : Int) != (b2 : Int)) = true := by simp; omega
              have hRf : R = false := HN.out (fun h => h2 (HQ.out.1 h).2.2)
              subst hRf
              clear HN HS HQ hst h2
              go_upto_region 6 with fail
              refine wp_region_later (by kernel_rfl) (by kernel_rfl) ?_
              repeat (go_big_quiet_step (fail))
              refine wpQuiet_nil ?_
              intro _ hw'
              obtain ⟨q, hw''⟩ := hw'
              subst hw''
              have HB3 := Lib.hid (HBL2.out.trans (q.below.mono HBL2.out.size))
              clear z0 z1 z2 z0' z1' z2' hw
              go_wp2_with fail
              go_ret
              exact ⟨rfl, HB3.out⟩
          · have e2 : (a1 == b1) = false := by simpa using h1
            have e1 := hst.trans e2
            have hRf : R = false := HN.out (fun h => h1 (HQ.out.1 h).2.1)
            subst hRf
            clear HN HS HQ hst h1
            go_upto_region 6 with fail
            refine wp_region_later (by kernel_rfl) (by kernel_rfl) ?_
            repeat (go_big_quiet_step (fail))
            refine wpQuiet_nil ?_
            intro _ hw'
            obtain ⟨q, hw''⟩ := hw'
            subst hw''
            have HB3 := Lib.hid (HBL2.out.trans (q.below.mono HBL2.out.size))
            clear z0 z1 z2 z0' z1' z2' hw
            go_wp2_with fail
            go_ret
            exact ⟨rfl, HB3.out⟩
        · have e1 : ((a0 : Int) == (b0 : Int)) = false := by simp; omega
          have e2 : (a0 == b0) = false := by simp; omega
          have e3 : ((a0 : Int) != (b0 : Int)) = true := by simp; omega
          have hRf : R = false := HN.out (fun h => h0 (HQ.out.1 h).1)
          subst hRf
          clear HN HS HQ hst h0
          go_upto_region 6 with fail
          refine wp_region_later (by kernel_rfl) (by kernel_rfl) ?_
          repeat (go_big_quiet_step (fail))
          refine wpQuiet_nil ?_
          intro _ hw'
          obtain ⟨q, hw''⟩ := hw'
          subst hw''
          have HB3 := Lib.hid (HBL2.out.trans (q.below.mono HBL2.out.size))
          clear z0 z1 z2 z0' z1' z2' hw
          go_wp2_with fail
          go_ret
          exact ⟨rfl, HB3.out⟩
      · have hR2 : R = true := by
          rw [← HR.out]
          unfold sameB
          rw [decide_eq_true_eq]
          have := HE.out
          rwa [show j = ts.length by omega, List.take_length, HL.out, List.take_length] at this
        subst hR2
        clear HA HB HR HE
        go_wp2_with fail
        go_ret
        exact ⟨rfl, HBL.out⟩
  · rw [same_len hlen]
    have e1 : ((ts.length : Int) != (us.length : Int)) = true := by simp; omega
    have e2 : (ts.length != us.length) = true := by simp; omega
    go_enter Tryd.func23, Tryd.ntmps23
    go_wp2_with fail
    go_ret
    exact ⟨rfl, Below.refl _ _⟩

end Lx
end Go.Proofs.YtiebhlmjpnhepaaDoor
