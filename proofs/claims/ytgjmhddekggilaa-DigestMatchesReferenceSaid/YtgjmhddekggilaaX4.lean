/- What the reference's Check returns. -/
import Derived.Test.YtgjmhddekggilaaX1
import Derived.Test.YtgjmhddekggilaaD6
namespace Go.Proofs.Ytgjmhddekggilaa
open Go.RowKit Go.BigFrame
namespace Dg

theorem fold_lead : ∀ (f n i : Nat) (d : Int) (p : List Int), n ≤ f → i < n → p.length = (sidesT n i).length → leadT n i d p = some (foldTo d p (sidesT n i) (sidesT n i).length)
  | 0, n, i, d, p, hf, hi, h => by omega
  | f + 1, n, i, d, p, hf, hi, h => by
    by_cases h1 : n ≤ 1
    · rw [sidesT_one n i h1] at h ⊢
      have hp : p = [] := List.eq_nil_of_length_eq_zero (by simpa using h)
      rw [leadT_one n i d p h1, if_pos hp]
      rfl
    · rw [leadT_step n i d p (by omega)]
      rw [sidesT_step n i (by omega)] at h ⊢
      by_cases hp : partnerN i < n
      · rw [if_pos hp]
        have hs : side1 n i = [decide (partnerN i < i)] := by
          unfold side1
          unfold partnerN at hp ⊢
          by_cases he : i % 2 = 1
          · rw [if_pos he, if_neg (by omega), decide_eq_true (by omega)]
          · rw [if_neg he]
            have he0 : i % 2 = 0 := by omega
            rw [if_pos he0] at hp
            rw [if_pos hp, if_pos he0, decide_eq_false (by omega)]
        rw [hs, List.singleton_append] at h ⊢
        cases p with
        | nil => simp at h
        | cons x q =>
          simp only []
          rw [fold_lead f _ _ _ q (by omega) (by omega) (by simpa using h), List.length_cons, foldTo_cons]
      · rw [if_neg hp]
        have hs : side1 n i = [] := by
          obtain ⟨e1, e2⟩ := partner_lt i n hi hp
          unfold side1
          rw [if_neg (by omega), if_neg (by omega)]
        rw [hs, List.nil_append] at h ⊢
        exact fold_lead f _ _ _ p (by omega) (by omega) h

theorem chkE_len (n i : Nat) (d : Int) (p : List Int) (root : Int) (hi : i < n) (h : (sidesT n i).length ≠ p.length) : chkE n i d p root = 6 := by
  unfold chkE
  rw [if_neg]
  intro e
  exact h (lead_fold n n i d p root (Nat.le_refl _) hi e).1.symm
theorem chkE_fold (n i : Nat) (d : Int) (p : List Int) (root : Int) (hi : i < n) (h : (sidesT n i).length = p.length) : chkE n i d p root = if foldTo d p (sidesT n i) p.length = root then 0 else 6 := by
  unfold chkE
  rw [fold_lead n n i d p (Nat.le_refl _) hi h.symm, h]
  by_cases e : foldTo d p (sidesT n i) p.length = root
  · rw [if_pos e, if_pos (by rw [e])]
  · rw [if_neg e, if_neg (fun h => e (Option.some.inj h))]

theorem rcheck_arg (root n i d : Int) (A : Option Addr) (m c : Nat) (w : World) (h : n < 1 ∨ 4096 < n ∨ i < 0 ∨ n ≤ i) :
    Calls Try.prog 25 #[.int .u64 root, .agg #[.int .i64 n, .slice A m c], .agg #[.int .i64 i, .int .u64 d]] w fun e w' => e = .returned (.int .i64 1) ∧ Below w.heap.size w w' := by
  by_cases h1 : n < 1
  · clear h
    go_enter Try.func25, Try.ntmps25
    go_wp2
    go_ret
    exact ⟨rfl, ((Below.refl _ _).alloc (Nat.le_refl _) _).alloc (by simp) _⟩
  · by_cases h2 : 4096 < n
    · clear h
      go_enter Try.func25, Try.ntmps25
      go_wp2
      go_ret
      exact ⟨rfl, ((Below.refl _ _).alloc (Nat.le_refl _) _).alloc (by simp) _⟩
    · by_cases h3 : i < 0
      · clear h
        go_enter Try.func25, Try.ntmps25
        go_wp2
        go_ret
        exact ⟨rfl, ((Below.refl _ _).alloc (Nat.le_refl _) _).alloc (by simp) _⟩
      · have h4 : n ≤ i := by omega
        clear h
        go_enter Try.func25, Try.ntmps25
        go_wp2
        go_ret
        exact ⟨rfl, ((Below.refl _ _).alloc (Nat.le_refl _) _).alloc (by simp) _⟩

theorem up_eq (d p : Int) (left : Bool) (w : World) : Calls Try.prog 27 #[.int .u64 d, .int .u64 p, .bool left] w fun e w' => e = .returned (.int .u64 (besideI d p left)) ∧ w' = w :=
  (up_any d p left w).mono fun _ _ ⟨he, hw⟩ => ⟨he, hw.symm⟩

/-- What lies there at each round's head. -/
def RcAt (P : List Int) (S : List Bool) (c : Nat) (A : Option Addr) (B : Nat) (A1 : Option Addr) (w wr : World) : Prop :=
  wr.cell? ⟨B, 1, none⟩ = some (.slice A P.length c) ∧ Arr wr A (P.map (Value.int .u64)) ∧ Arr wr A1 (S.map Value.bool) ∧ Below w.heap.size w wr

set_option maxRecDepth 100000 in
set_option maxHeartbeats 1000000 in
theorem rcheck_run (root : Int) (n i : Nat) (d : Int) (A : Option Addr) (P : List Int) (c : Nat) (w : World) (hn : n ≤ 4096) (hi : i < n) (hA : Arr w A (P.map (Value.int .u64))) :
    Calls Try.prog 25 #[.int .u64 root, .agg #[.int .i64 n, .slice A P.length c], .agg #[.int .i64 i, .int .u64 d]] w fun e w' => e = .returned (.int .i64 (chkE n i d P root)) ∧ Below w.heap.size w w' := by
  have hk1 : decide ((n : Int) < 1) = false := decide_eq_false (by omega)
  have hk2 : decide ((4096 : Int) < n) = false := decide_eq_false (by omega)
  have hk3 : decide ((i : Int) < 0) = false := decide_eq_false (by omega)
  have hk4 : decide (n ≤ i) = false := decide_eq_false (by omega)
  have HA := Lib.hid hA
  clear hA
  obtain ⟨q, hq⟩ : ∃ q, chkE n i d P root = q := ⟨_, rfl⟩
  rw [hq]
  have HQ := Lib.hid hq
  clear hq
  go_enter Try.func25, Try.ntmps25
  go_wp2_with fail
  refine (sides_any n i _ hn hi).mono ?_
  rintro e w1 ⟨A1, c1, rfl, hF1, hb1⟩
  have f1 : w1.cell? ⟨w.heap.size, 1, none⟩ = some (.slice A P.length c) := (hb1.cell (p := ⟨w.heap.size, 1, none⟩) (by simp; omega)).trans ((World.cell?_alloc_lt _ _ _ (by simp)).trans (World.cell?_alloc_at _ 27 _ 1 rfl))
  have f2 : w1.cell? ⟨w.heap.size + 1, 1, none⟩ = some (.int .u64 d) := (hb1.cell (p := ⟨w.heap.size + 1, 1, none⟩) (by simp)).trans (World.cell?_alloc_at _ 29 _ 1 (by simp))
  have hB1 := (((Below.refl _ w).alloc (Nat.le_refl _) (.cells #[.int .i64 n, .slice A P.length c] 27)).alloc (by simp) (.cells #[.int .i64 i, .int .u64 d] 29)).trans (hb1.mono (by simp; omega))
  have hA1 := HA.out.keep hB1
  have hS1 := hF1.arr
  by_cases hne : (sidesT n i).length = P.length
  · have hch := chkE_fold n i d P root hi hne
    rw [HQ.out] at hch
    have hlS : (sidesT n i).length ≤ 12 := sides_len 12 n i (by omega)
    generalize sidesT n i = S at *
    rw [hne]
    have hRc : RcAt P S c A w.heap.size A1 w w1 := ⟨f1, hA1, hS1, hB1⟩
    have HCH := Lib.hid hch
    have HNE := Lib.hid hne
    clear hch HQ hb1 hF1 hA1 hS1 hB1 HA hk1 hk2 hk3 hk4
    have hz : ((P.length : Int) != P.length) = false := by simp
    go_wp2_with fail
    clear f1 f2 hz
    go_loopw [8, 9] (fun h i wr => ∃ k : Nat, k ≤ P.length ∧ i = .int .i64 k ∧ h = .int .u64 (foldTo d P S k) ∧ RcAt P S c A w.heap.size A1 w wr) (fun _ i _ => P.length - (intOf i).toNat)
    case atStart => exact ⟨0, by omega, rfl, rfl, hRc⟩
    case round =>
      clear hRc
      obtain ⟨k, hk, rfl, rfl, h1, h2, h3, h4⟩ := hrel
      by_cases hlt : k < P.length
      · obtain ⟨b, o, rfl, hbl, hcs⟩ := h2.at_ (by intro h; subst h; simp at hlt)
        obtain ⟨b', o', rfl, hbl', hcs'⟩ := h3 (by intro h; have h5 := HNE.out; simp at h; rw [h] at h5; simp at h5; omega)
        have hcx := hcs k hlt
        have hcy := hcs' k (.bool (S[k]?.getD false)) (by rw [List.getElem?_map, List.getElem?_eq_getElem (by have := HNE.out; omega)]; rfl)
        have hst : Hid (foldTo d P S (k + 1) = besideI (foldTo d P S k) (P[k]?.getD 0) (S[k]?.getD false)) := Lib.hid rfl
        have H2 := Lib.hid h2
        have H3 := Lib.hid h3
        clear hcs hcs' h2 h3
        generalize P[k]?.getD 0 = x at hcx hst
        generalize S[k]?.getD false = s at hcy hst
        go_wp2
        go_quiet ((go_at_call 27; exact Calls.quiet_of_same (up_eq _ _ _ _)))
        go_wp2
        go_roundw
        case rel => exact ⟨k + 1, by omega, by go_num, congrArg (Value.int .u64) hst.out.symm, h1, H2.out.drewN nq, H3.out.drewN nq, below_drewN h4 nq⟩
        case measure => simp [intOf]; omega
      · obtain rfl : k = P.length := by omega
        by_cases her : foldTo d P S P.length = root
        · subst her
          go_wp2
          go_ret
          exact ⟨ret_int (by rw [HCH.out]; simp), h4⟩
        · have hne : (foldTo d P S P.length != root) = true := by rw [bne_iff_ne]; exact her
          go_wp2
          go_ret
          exact ⟨ret_int (by rw [HCH.out, if_neg her]), h4⟩
  · have hch := chkE_len n i d P root hi hne
    rw [HQ.out] at hch
    subst hch
    have hz : (((sidesT n i).length : Int) != P.length) = true := by rw [bne_iff_ne]; omega
    generalize sidesT n i = S at *
    clear hA1 hS1 HA hk1 hk2 hk3 hk4
    go_wp2_with fail
    go_ret
    exact ⟨rfl, hB1⟩

end Dg
end Go.Proofs.Ytgjmhddekggilaa
