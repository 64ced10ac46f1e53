/- What Check returns. -/
import Derived.Test.YtgjmhddekggilaaD1
import Derived.Deep.QuietTactic
import Derived.BigQuiet
namespace Go.Proofs.Ytgjmhddekggilaa
open Go.RowKit
namespace Dg

/-- The error of a check whose arguments are in range. -/
def chkE (n i : Nat) (d : Int) (p : List Int) (root : Int) : Int := if leadT n i d p = some root then 0 else 6

/-- What holds at each round's head. -/
def CheckAt (n i : Nat) (d : Int) (P : List Int) (w : World) (p e j m : Value) (wr : World) : Prop :=
  ∃ (m' k : Nat) (e' : Int) (Q : List Int) (A : Option Addr) (c : Nat), p = .slice A Q.length c ∧ Q.length ≤ c ∧ Arr wr A (Q.map (Value.int .u64)) ∧ e = .int .u64 e' ∧ j = .int .i64 k ∧ m = .int .i64 m' ∧
    1 ≤ m' ∧ m' ≤ n ∧ k < m' ∧ leadT n i d P = leadT m' k e' Q ∧ Below w.heap.size w wr

theorem check_arg (root n i d : Int) (pv : Value) (w : World) (h : n < 1 ∨ 4096 < n ∨ i < 0 ∨ n ≤ i) :
    Calls Try.prog 34 #[.int .u64 root, .int .i64 n, .agg #[.int .i64 i, .int .u64 d], pv] w fun e w' => e = .returned (.int .i64 1) ∧ Below w.heap.size w w' := by
  by_cases h1 : n < 1
  · clear h
    go_enter Try.func34, Try.ntmps34
    go_wp2
    go_ret
    exact ⟨rfl, (Below.refl _ _).alloc (Nat.le_refl _) _⟩
  · by_cases h2 : 4096 < n
    · clear h
      go_enter Try.func34, Try.ntmps34
      go_wp2
      go_ret
      exact ⟨rfl, (Below.refl _ _).alloc (Nat.le_refl _) _⟩
    · by_cases h3 : i < 0
      · clear h
        go_enter Try.func34, Try.ntmps34
        go_wp2
        go_ret
        exact ⟨rfl, (Below.refl _ _).alloc (Nat.le_refl _) _⟩
      · have h4 : n ≤ i := by omega
        clear h
        go_enter Try.func34, Try.ntmps34
        go_wp2
        go_ret
        exact ⟨rfl, (Below.refl _ _).alloc (Nat.le_refl _) _⟩

set_option maxHeartbeats 1000000 in
theorem check_run (root : Int) (n i : Nat) (d : Int) (A : Option Addr) (P : List Int) (c : Nat) (w : World) (hn : n ≤ 4096) (hi : i < n) (hcap : P.length ≤ c) (hA : Arr w A (P.map (Value.int .u64))) :
    Calls Try.prog 34 #[.int .u64 root, .int .i64 n, .agg #[.int .i64 i, .int .u64 d], .slice A P.length c] w fun e w' => e = .returned (.int .i64 (chkE n i d P root)) ∧ Below w.heap.size w w' := by
  have hk1 : decide ((n : Int) < 1) = false := decide_eq_false (by omega)
  have hk2 : decide ((4096 : Int) < n) = false := decide_eq_false (by omega)
  have hk3 : decide ((i : Int) < 0) = false := decide_eq_false (by omega)
  have hk4 : decide (n ≤ i) = false := decide_eq_false (by omega)
  have hB1 : ∀ q, Below w.heap.size w ((w.alloc (.cells #[.int .i64 i, .int .u64 d] 29)).drewN q) := fun q => below_drewN ((Below.refl _ _).alloc (Nat.le_refl _) _) q
  have hA1 : ∀ q, Arr ((w.alloc (.cells #[.int .i64 i, .int .u64 d] 29)).drewN q) A (P.map (Value.int .u64)) := fun q => (hA.alloc _).drewN q
  have H1 := Lib.hid hB1
  have H2 := Lib.hid hA1
  clear hB1 hA1 hA
  go_enter Try.func34, Try.ntmps34
  go_wp2
  go_quiet (fail)
  go_wp2
  go_loopw [3, 9, 10, 11] (fun p e j m wr => CheckAt n i d P w p e j m wr) (fun _ _ _ m _ => (intOf m).toNat)
  case atStart => exact ⟨n, i, d, P, A, c, rfl, hcap, H2.out nq, rfl, rfl, rfl, by omega, Nat.le_refl _, hi, rfl, H1.out nq⟩
  case round =>
    obtain ⟨m, k, e, Q, A1, c1, rfl, hc1, hQ, rfl, rfl, rfl, hm1, hmn, hkm, hl, hb⟩ := hrel
    have HL := Lib.hid hl
    clear hl H1 H2
    have hbs := hb.size
    by_cases hlt : 1 < m
    · have HS := Lib.hid (leadT_step m k e Q hlt)
      by_cases hpn : partnerN k < m
      · have hd : decide (partnerN k < m) = true := decide_eq_true hpn
        cases Q with
        | nil =>
          clear hQ
          go_wp2_with (go_at_call 39; refine (partner_any k m _ (by omega)).mono ?_; rintro e w' ⟨rfl, rfl⟩)
          go_ret
          refine ⟨ret_int ?_, hb⟩
          unfold chkE
          rw [HL.out, HS.out, if_pos hpn]
          rfl
        | cons x Q =>
          obtain ⟨b, o, rfl, hbl, hcs⟩ := hQ.at_ (by simp)
          have hcx := hcs 0 (by simp)
          simp only [List.getElem?_cons_zero, Option.getD_some, Nat.add_zero] at hcx
          have hT := hQ.tail
          have hlen1 : Q.length + 1 ≤ c1 := hc1
          clear hcs hQ hc1
          by_cases hc : c1 = 1
          · have hQ0 : Q = [] := List.eq_nil_of_length_eq_zero (by omega)
            subst hc
            subst hQ0
            go_wp2_with (first
              | (go_at_call 39; refine (partner_any k m _ (by omega)).mono ?_; rintro e w' ⟨rfl, rfl⟩)
              | (go_at_call 40; refine (beside_any e x (decide (partnerN k < k)) _).mono ?_; rintro e w1 ⟨rfl, hb1⟩)
              | (go_at_call 37; refine (width_any m _ (by omega)).mono ?_; rintro e w' ⟨rfl, rfl⟩))
            go_roundw
            case rel => exact ⟨(m + 1) / 2, k / 2, _, [], _, _, rfl, by simp, Arr.nil _ _, rfl, by go_num, by go_num, by omega, by omega, by omega, by rw [HL.out, HS.out, if_pos hpn], hb.trans (hb1.mono hbs)⟩
            case measure => simp only [intOf]; omega
          · go_wp2_with (first
              | (go_at_call 39; refine (partner_any k m _ (by omega)).mono ?_; rintro e w' ⟨rfl, rfl⟩)
              | (go_at_call 40; refine (beside_any e x (decide (partnerN k < k)) _).mono ?_; rintro e w1 ⟨rfl, hb1⟩)
              | (go_at_call 37; refine (width_any m _ (by omega)).mono ?_; rintro e w' ⟨rfl, rfl⟩))
            go_roundw
            case rel => exact ⟨(m + 1) / 2, k / 2, _, Q, _, _, rfl, by omega, hT.keep hb1, rfl, by go_num, by go_num, by omega, by omega, by omega, by rw [HL.out, HS.out, if_pos hpn], hb.trans (hb1.mono hbs)⟩
            case measure => simp only [intOf]; omega
      · have hd : decide (partnerN k < m) = false := decide_eq_false hpn
        go_wp2_with (first
          | (go_at_call 39; refine (partner_any k m _ (by omega)).mono ?_; rintro e w' ⟨rfl, rfl⟩)
          | (go_at_call 37; refine (width_any m _ (by omega)).mono ?_; rintro e w' ⟨rfl, rfl⟩))
        go_roundw
        case rel => exact ⟨(m + 1) / 2, k / 2, e, Q, A1, c1, rfl, hc1, hQ, rfl, by go_num, by go_num, by omega, by omega, by omega, by rw [HL.out, HS.out, if_neg hpn], hb⟩
        case measure => simp only [intOf]; omega
    · have HS := Lib.hid (leadT_one m k e Q (by omega))
      cases Q with
      | nil =>
        by_cases her : e = root
        · subst her
          go_wp2
          go_ret
          refine ⟨ret_int ?_, hb⟩
          unfold chkE
          rw [HL.out, HS.out]
          simp
        · have hne : (e != root) = true := by rw [bne_iff_ne]; exact her
          go_wp2
          go_ret
          refine ⟨ret_int ?_, hb⟩
          unfold chkE
          rw [HL.out, HS.out]
          simp [her]
      | cons x Q =>
        go_wp2
        go_ret
        refine ⟨ret_int ?_, hb⟩
        unfold chkE
        rw [HL.out, HS.out]
        simp

end Dg
end Go.Proofs.Ytgjmhddekggilaa
