/- The reference's Mask, In, flag, equal, Split. -/
import Derived.Test.YtjfijhchnchfcaaWG
namespace Go.Proofs.Ytjfijhchnchfcaa
open Go.RowKit Sl Fr
namespace Bt
set_option linter.unusedVariables false
set_option linter.unusedSimpArgs false

theorem rmask_any (v : Int) (w : World) : Calls Try.prog 15 #[.int .i64 v] w fun e w' => e = .returned (.int .i64 (mask v)) ∧ w = w' := by
  by_cases h0 : v < 0
  · rw [mask_out (by omega)]
    go_enter Try.func15, Try.ntmps15
    go_wp2
    go_ret
    exact ⟨rfl, rfl⟩
  by_cases h1 : 62 < v
  · rw [mask_out (by omega)]
    go_enter Try.func15, Try.ntmps15
    go_wp2
    go_ret
    exact ⟨rfl, rfl⟩
  obtain ⟨k, rfl⟩ := Int.eq_ofNat_of_zero_le (by omega : 0 ≤ v)
  have hk : k ≤ 62 := by omega
  have HM := Lib.hid (mask_nat hk)
  have hp := pow_int hk
  go_enter Try.func15, Try.ntmps15
  go_wp2
  go_ret
  refine ⟨?_, rfl⟩
  rw [HM.out]
  rfl

theorem rIn_any (v : Int) (w : World) : Calls Try.prog 30 #[.int .i64 v] w fun e w' => e = .returned (.bool (isW v)) ∧ w = w' := by
  by_cases h0 : 1 ≤ v
  · by_cases h1 : v ≤ 8
    · rw [show isW v = true by simp [isW]; omega]
      go_enter Try.func30, Try.ntmps30
      go_wp2
      go_ret
      simp
    · rw [show isW v = false by simp [isW]; omega]
      go_enter Try.func30, Try.ntmps30
      go_wp2
      go_ret
      simp
  · rw [show isW v = false by simp [isW]; omega]
    go_enter Try.func30, Try.ntmps30
    go_wp2
    go_ret
    simp

theorem flag_any (b : Bool) (w : World) : Calls Try.prog 58 #[.bool b] w fun e w' => e = .returned (.int .i64 (if b then 1 else 0)) ∧ w = w' := by
  cases b
  · go_enter Try.func58, Try.ntmps58
    go_wp2
    go_ret
    exact ⟨rfl, rfl⟩
  · go_enter Try.func58, Try.ntmps58
    go_wp2
    go_ret
    exact ⟨rfl, rfl⟩

/-- n widths, the last two of which are equal. -/
def eqW (ws : List Int) (n : Nat) : Bool := decide (ws.length = n) && ws.all isW && (decide (n < 2) || ws[n - 1]? == ws[n - 2]?)
set_option maxHeartbeats 1000000 in
theorem equal_any (A : Option Addr) (c : Nat) (ws : List Int) (n : Nat) (w : World) (hA : ArrI w A ws) (hlen : ws.length ≤ maxLen) (hn : 1 ≤ n ∧ n ≤ 3) :
    Calls Try.prog 31 #[.slice A ws.length c, .int .i64 (n : Int)] w fun e w' => e = .returned (.bool (eqW ws n)) ∧ Below w.heap.size w w' := by
  unfold maxLen at hlen
  by_cases hl : ws.length = n
  · obtain ⟨b, o, hb⟩ := hA.open
    have HB := Lib.hid hb
    have HL := Lib.hid hl
    rw [hl]
    clear hb hA hl hlen
    go_enter Try.func31, Try.ntmps31
    go_wp2
    go_loopw [5] (fun i wr => ∃ k : Nat, k ≤ n ∧ i = .int .i64 (k : Int) ∧ (ws.take k).all isW = true ∧ wr = w) (fun i _ => n - (intOf i).toNat)
    case atStart => exact ⟨0, Nat.zero_le _, rfl, by simp, rfl⟩
    case round =>
      obtain ⟨k, hk, rfl, hall, rfl⟩ := hrel
      have HG := Lib.hid hall
      clear hall
      by_cases hlt : k < n
      · obtain ⟨v, hv⟩ := get_ex (show k < ws.length by rw [HL.out]; exact hlt)
        obtain ⟨rfl, hbs, hc⟩ := HB.out (by intro h; subst h; simp at hv)
        have hcv := hc k v hv
        have HE := Lib.hid hv
        clear hc hv HB
        have hm := fun w => rIn_any v w
        cases hw : isW v
        · rw [hw] at hm
          have hF : Hid (eqW ws n = false) := Lib.hid (by unfold eqW; rw [all_no HE.out hw]; simp)
          go_wp2_with (go_at_call 30; refine (hm _).mono ?_; rintro e w' ⟨rfl, rfl⟩)
          go_ret
          exact ⟨by rw [hF.out]; rfl, Below.refl _ _⟩
        · rw [hw] at hm
          go_wp2_with (go_at_call 30; refine (hm _).mono ?_; rintro e w' ⟨rfl, rfl⟩)
          go_roundw
          case rel => exact ⟨k + 1, by omega, by go_num, by rw [take_snoc HE.out, List.all_append, HG.out]; simp [hw], trivial⟩
          case measure => simp [intOf]; omega
      · have hkn : k = n := by omega
        subst hkn
        have hA2 : ws.all isW = true := by have := HG.out; rwa [List.take_of_length_le (by rw [HL.out]; exact Nat.le_refl _)] at this
        by_cases h2 : k < 2
        · have hF : Hid (eqW ws k = true) := Lib.hid (by unfold eqW; rw [hA2, HL.out]; simp [h2])
          have hi2 : ((k : Int) < 2) := by omega
          clear hA2 hlt
          go_wp2
          refine wp_region_later (by kernel_rfl) (by kernel_rfl) ?_
          repeat (go_big_quiet_step (fail))
          refine wpQuiet_nil ?_
          intro _ hw'
          obtain ⟨z, hw''⟩ := hw'
          subst hw''
          go_wp2
          go_ret
          exact ⟨by rw [hF.out]; rfl, z.below⟩
        · obtain ⟨u, hu⟩ := get_ex (show k - 1 < ws.length by rw [HL.out]; omega)
          obtain ⟨v, hv⟩ := get_ex (show k - 2 < ws.length by rw [HL.out]; omega)
          obtain ⟨rfl, hbs, hc⟩ := HB.out (by intro h; subst h; simp at hu)
          have hF : Hid (eqW ws k = (u == v)) := Lib.hid (by
            unfold eqW
            rw [hA2, HL.out, hu, hv]
            simp [h2])
          have c1 := hc _ u hu
          have c2 := hc _ v hv
          have d1 := fun p : Later wr => (p.below.cell (p := ⟨b, o + (k - 1), none⟩) hbs).trans c1
          have d2 := fun p : Later wr => (p.below.cell (p := ⟨b, o + (k - 2), none⟩) hbs).trans c2
          clear hA2 hlt hc hu hv c1 c2 HB
          rcases (by omega : k = 2 ∨ k = 3) with rfl | rfl
          · have q1 : ∀ p : Later wr, p.val.cell? ⟨b, o + 1, none⟩ = some (.int .i64 u) := d1
            have q2 : ∀ p : Later wr, p.val.cell? ⟨b, o, none⟩ = some (.int .i64 v) := d2
            clear d1 d2
            go_wp2
            refine wp_region_later (by kernel_rfl) (by kernel_rfl) ?_
            repeat (go_big_quiet_step (fail))
            refine wpQuiet_nil ?_
            intro _ hw'
            obtain ⟨z, hw''⟩ := hw'
            subst hw''
            go_wp2
            go_ret
            exact ⟨by rw [hF.out]; rfl, z.below⟩
          · have q1 : ∀ p : Later wr, p.val.cell? ⟨b, o + 2, none⟩ = some (.int .i64 u) := d1
            have q2 : ∀ p : Later wr, p.val.cell? ⟨b, o + 1, none⟩ = some (.int .i64 v) := d2
            clear d1 d2
            go_wp2
            refine wp_region_later (by kernel_rfl) (by kernel_rfl) ?_
            repeat (go_big_quiet_step (fail))
            refine wpQuiet_nil ?_
            intro _ hw'
            obtain ⟨z, hw''⟩ := hw'
            subst hw''
            go_wp2
            go_ret
            exact ⟨by rw [hF.out]; rfl, z.below⟩
  · have hF : Hid (eqW ws n = false) := Lib.hid (by unfold eqW; rw [decide_eq_false hl]; rfl)
    have e1 : ((ws.length : Int) != (n : Int)) = true := by simp; omega
    have e2 : ((ws.length : Int) == (n : Int)) = false := by simp; omega
    clear hl
    go_enter Try.func31, Try.ntmps31
    go_wp2
    go_ret
    exact ⟨by rw [hF.out]; rfl, Below.refl _ _⟩

set_option maxHeartbeats 1000000 in
theorem rsplit_ok (v : Int) (n : Nat) (hn : n ≤ 62) (w : World) : Calls Try.prog 18 #[.int .i64 v, .int .i64 (n : Int)] w (GiveB w (spl v n)) := by
  obtain ⟨i0, hi, hz0, hz1, hz2⟩ := parts_of infoBool
  have hO := own_new w w.heap.size (Nat.le_refl _)
  have hBn := (Below.refl _ w).alloc (Nat.le_refl _) (.cells #[] 4)
  go_enter Try.func18, Try.ntmps18
  go_wp2
  generalize w.alloc (.cells #[] 4) = W0 at *
  go_loopw [5, 6] (fun s i wr => ∃ k : Nat, k ≤ n ∧ i = .int .i64 (k : Int) ∧ OwnB wr w.heap.size s (spl v k) ∧ Below w.heap.size w wr) (fun _ i _ => n - (intOf i).toNat)
  case atStart => exact ⟨0, Nat.zero_le _, rfl, hO, hBn⟩
  case round =>
    clear hO hBn
    obtain ⟨k, hk, rfl, hO, hB⟩ := hrel
    by_cases hlt : k < n
    · have hb := bit_int v k
      have HE := Lib.hid (spl_succ v k)
      have hsl : (spl v k).length ≤ 62 := by rw [spl_length]; omega
      have HO := Lib.hid hO
      have HB := Lib.hid hB
      clear hO hB
      generalize spl v k = T at *
      generalize v / 2 ^ k % 2 = q at *
      have hba := (Below.refl wr.heap.size wr).alloc (Nat.le_refl _) (.cells #[.bool (decide (q = 1))] 4)
      have HOA := Lib.hid (row_keep HO.out hba)
      have HBA := Lib.hid (HB.out.trans (hba.mono HB.out.size))
      clear hba
      by_cases hq : q = 1
      · subst hq
        rw [show decide ((1 : Int) = 1) = true from rfl] at HOA HBA HE
        go_wp2_with (refine wpList_append_own_at _ rfl _ _ 24 rfl w.heap.size 4 i0 (.bool false) 1 1 Try.underlying24 hi hz0 hz1 hz2 rfl (by decide) u5 T.length _ rfl HOA.out ⟨wr.heap.size, 0, none⟩ 1 1 [.bool true] rfl rfl (cell_one_new _ _ _) (by simp [Value.oneCell']) (by unfold maxLen; omega) (by omega) HBA.out.size ?_; intro v' V ho hg hnil hob)
        have hBV := HBA.out.grown hg HBA.out.size (fun g e => row_own HOA.out g e)
        have hO2 := own_snoc ho
        clear ho hg hnil hob
        go_roundw
        case rel => exact ⟨k + 1, by omega, by go_num, by rw [HE.out]; exact hO2, hBV⟩
        case measure => simp [intOf]; omega
      · have hd : decide (q = 1) = false := decide_eq_false hq
        have hq2 : (q == 1) = false := by simpa using hq
        rw [hd] at HOA HBA HE
        clear hq hd
        go_wp2_with (refine wpList_append_own_at _ rfl _ _ 24 rfl w.heap.size 4 i0 (.bool false) 1 1 Try.underlying24 hi hz0 hz1 hz2 rfl (by decide) u5 T.length _ rfl HOA.out ⟨wr.heap.size, 0, none⟩ 1 1 [.bool false] rfl rfl (cell_one_new _ _ _) (by simp [Value.oneCell']) (by unfold maxLen; omega) (by omega) HBA.out.size ?_; intro v' V ho hg hnil hob)
        have hBV := HBA.out.grown hg HBA.out.size (fun g e => row_own HOA.out g e)
        have hO2 := own_snoc ho
        clear ho hg hnil hob
        go_roundw
        case rel => exact ⟨k + 1, by omega, by go_num, by rw [HE.out]; exact hO2, hBV⟩
        case measure => simp [intOf]; omega
    · have hkn : k = n := by omega
      subst hkn
      obtain ⟨A, c, hv, h1, h2, _, h4⟩ := own_slice hO
      obtain ⟨A', c', hv', _, _, h5, _⟩ := row_forms hO
      have HO := Lib.hid hO
      subst hv
      injection hv' with e1 e2 e3
      rw [← e1] at h5
      have hg : GiveB w (spl v k) (.returned (.slice A (spl v k).length c)) wr := ⟨A, c, rfl, h1, h2, h5, h4, hB⟩
      clear hO e1 e2 e3 h1 h2 h4 h5
      have hl := spl_length v k
      go_wp2
      go_ret
      exact hg
theorem rsplit_no (v n : Int) (h : ¬ (0 ≤ n ∧ n ≤ 62)) (w : World) : Calls Try.prog 18 #[.int .i64 v, .int .i64 n] w (GiveB w []) := by
  have hO := own_new w w.heap.size (Nat.le_refl _)
  have hBn := (Below.refl _ w).alloc (Nat.le_refl _) (.cells #[] 4)
  have hg : GiveB w [] (.returned (.slice (some ⟨w.heap.size, 0, none⟩) 0 0)) (w.alloc (.cells #[] 4)) := ⟨_, 0, rfl, Nat.le_refl _, by unfold maxLen; omega, fun h => absurd rfl h, fun h => (by cases h), hBn⟩
  clear hO hBn
  by_cases h0 : n ≤ 0
  · have hd : ¬ ((0 : Int) < n) := by omega
    go_enter Try.func18, Try.ntmps18
    go_wp2
    go_loop [5, 6] (fun s i => i = .int .i64 0 ∧ s = .slice (some ⟨w.heap.size, 0, none⟩) 0 0) (fun _ i => 0)
    case atStart => exact ⟨rfl, rfl⟩
    case round =>
      obtain ⟨rfl, rfl⟩ := hrel
      go_wp2
      go_ret
      exact hg
  · have h1 : 62 < n := by omega
    have hd : (0 : Int) < n := by omega
    have h2 : ¬ (n ≤ 62) := by omega
    go_enter Try.func18, Try.ntmps18
    go_wp2
    go_loop [5, 6] (fun s i => i = .int .i64 0 ∧ s = .slice (some ⟨w.heap.size, 0, none⟩) 0 0) (fun _ i => 0)
    case atStart => exact ⟨rfl, rfl⟩
    case round =>
      obtain ⟨rfl, rfl⟩ := hrel
      go_wp2
      go_ret
      exact hg
theorem rsplit_any (v n : Int) (w : World) : Calls Try.prog 18 #[.int .i64 v, .int .i64 n] w (GiveB w (splI v n)) := by
  unfold splI
  by_cases h : 0 ≤ n ∧ n ≤ 62
  · rw [if_pos h]
    obtain ⟨m, rfl⟩ := Int.eq_ofNat_of_zero_le h.1
    exact rsplit_ok v m (by omega) w
  · rw [if_neg h]
    exact rsplit_no v n h w

end Bt
end Go.Proofs.Ytjfijhchnchfcaa
