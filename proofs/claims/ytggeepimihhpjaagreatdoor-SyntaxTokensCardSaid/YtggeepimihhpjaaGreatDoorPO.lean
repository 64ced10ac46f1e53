/- list: parts in parentheses, each read by a closure (for any closure number: three times). -/
import Derived.Test.YtggeepimihhpjaaGreatDoorPK
namespace Go.Proofs.YtggeepimihhpjaaGreatDoor
open Go.RowKit Go.Shelf Sl Fr Lx
namespace Sy
set_option linter.unusedVariables false
set_option linter.unusedSimpArgs false

def LGives {α : Type} (n pb : Nat) (l : List Tk) (m : PM α) (J : α → World → Prop) (w0 : World) (e : Ending) (w' : World) : Prop :=
  w0.grownBy w' (some pb) ∧ match m l with
    | .ok x r => e = .returned (.tuple #[]) ∧ J x w' ∧ PX n pb r w'
    | .no a => e = .panicked (refV a)
section
variable {α : Type} {n pb : Nat} {l : List Tk} {m : PM α} {J : α → World → Prop} {w0 w' : World} {e : Ending}
theorem LGives.of_ok {r : List Tk} {x : α} (hm : m l = .ok x r) (hg : w0.grownBy w' (some pb)) (hj : J x w') (hx : PX n pb r w') : LGives n pb l m J w0 (.returned (.tuple #[])) w' := by
  unfold LGives; rw [hm]; exact ⟨hg, rfl, hj, hx⟩
theorem LGives.of_no {a : Nat} (hm : m l = .no a) (hg : w0.grownBy w' (some pb)) : LGives n pb l m J w0 (.panicked (refV a)) w' := by
  unfold LGives; rw [hm]; exact ⟨hg, rfl⟩
theorem LGives.ok {r : List Tk} {x : α} (h : LGives n pb l m J w0 e w') (hm : m l = .ok x r) : e = .returned (.tuple #[]) ∧ J x w' ∧ PX n pb r w' ∧ w0.grownBy w' (some pb) := by
  unfold LGives at h; rw [hm] at h; exact ⟨h.2.1, h.2.2.1, h.2.2.2, h.1⟩
theorem LGives.no {a : Nat} (h : LGives n pb l m J w0 e w') (hm : m l = .no a) : e = .panicked (refV a) ∧ w0.grownBy w' (some pb) := by
  unfold LGives at h; rw [hm] at h; exact ⟨h.2, h.1⟩
end
def leftN (W : World) (pb : Nat) : Nat := match W.cell? ⟨pb, 0, none⟩ with
  | some (.slice _ n _) => n
  | _ => 0
theorem PX.left {n pb : Nat} {l : List Tk} {w : World} (h : PX n pb l w) : leftN w pb = l.length := by
  obtain ⟨_, _, tb, o, c, mR, mO, mI, h1, _⟩ := h.ps
  unfold leftN
  rw [h1.c4.1]
theorem PX.le {n pb : Nat} {l : List Tk} {w : World} (h : PX n pb l w) : l.length ≤ 10000 := by
  obtain ⟨_, _, tb, o, c, mR, mO, mI, _, h2, h3, _⟩ := h.ps
  omega
def lstep {α : Type} (part : PM α) (acc : List α) : PM (List α) := do expect s_comma; let y ← part; pure (acc ++ [y])
theorem lstep_keeps {α : Type} {part : PM α} (hk : Keeps part 1) (acc : List α) : Keeps (lstep part acc) 1 := (Keeps.expect (by decide)).bind0 fun _ => hk.z.bind0 fun y => Keeps.pure _
theorem listP_eq {α : Type} (part : PM α) (l : List Tk) : listP part l = (do
    expect s_lpar
    if ← accept s_rpar then pure [] else do
      let x ← part
      loopP s_rpar (lstep part) [x] : PM (List α)) l := rfl
def LiAt {α : Type} (part : PM α) (n pb : Nat) (l0 : List Tk) (J : List α → World → Prop) (w0 W : World) : Prop := ∃ (l : List Tk) (acc : List α), PX n pb l W ∧ J acc W ∧ w0.grownBy W (some pb) ∧ listP part l0 = loopP s_rpar (lstep part) acc l ∧ acc.length + l.length ≤ 10000

set_option maxRecDepth 100000 in
set_option maxHeartbeats 2000000 in
theorem list_module {α : Type} (part : PM α) (hk : Keeps part 1) (n pb a1 a2 : Nat) (w0 : World) (J : List α → World → Prop) (hJ : ∀ acc W W', J acc W → (∃ l, PX n pb l W) → W.grownBy W' (some pb) → J acc W')
    (hP : ∀ l acc W, PX n pb l W → J acc W → w0.grownBy W (some pb) → acc.length ≤ 10000 → Calls Tryz.prog 144 #[.pointer (some ⟨a1, 0, none⟩), .pointer (some ⟨a2, 0, none⟩)] W (LGives n pb l (part >>= fun x => pure (acc ++ [x])) J w0))
    (l : List Tk) (w : World) (hx : PX n pb l w) (hj : J [] w) (hg : w0.grownBy w (some pb)) :
    Calls Tryz.prog 139 #[.pointer (some ⟨pb, 0, none⟩), .func (.func 144) #[] #[.pointer (some ⟨a1, 0, none⟩), .pointer (some ⟨a2, 0, none⟩)]] w (LGives n pb l (listP part) J w0) := by
  have HK := Lib.hid hk
  have HJ := Lib.hid hJ
  have HX := Lib.hid hx
  have HG := Lib.hid hg
  have HJ0 := Lib.hid hj
  have HPN := Lib.hid (fun l acc a (h : part l = .no a) W hx hj hg hb => (hP l acc W hx hj hg hb).mono fun e w' q => q.no (bind_no h))
  have HPO := Lib.hid (fun l acc x r (h : part l = .ok x r) W hx hj hg hb => (hP l acc W hx hj hg hb).mono fun e w' q => q.ok (by rw [bind_ok h, pure_eq]))
  have HM := Lib.hid (listP_eq part l)
  clear hk hJ hP hx hj hg
  go_enter Tryz.func139, Tryz.ntmps139
  cases hm1 : expect s_lpar l with
  | no a =>
    have HMM := Lib.hid (HM.out.trans (bind_no hm1))
    have HC1 := Lib.hid (fun W (hW : PX n pb l W) => rd_no (expect_any n pb l ⟨#[40]⟩ W hW.ps (by decide)) hm1)
    clear hm1
    go_wp2_with (go_at_call 138; with_reducible refine (HC1.out _ HX.out).mono ?_; rintro e w1 ⟨rfl, hg1⟩)
    exact ⟨rfl, LGives.of_no HMM.out (HG.out.trans hg1)⟩
  | ok u1 l1 =>
    have HM1 := Lib.hid (HM.out.trans (bind_ok hm1))
    have HC1 := Lib.hid (fun W (hW : PX n pb l W) => rd_is (g := fun _ : Unit => Value.tuple #[]) (expect_any n pb l ⟨#[40]⟩ W hW.ps (by decide)) hW hm1)
    clear hm1 HM
    by_cases he2 : (nextT l1).text = s_rpar
    · have HM2 := Lib.hid (HM1.out.trans (bind_ok (show accept s_rpar l1 = .ok true l1.tail from if_pos he2)))
      have HC2 := Lib.hid (fun W (hW : PX n pb l1 W) => accept_yes (z := ⟨#[41]⟩) hW (by decide) he2)
      clear HM1
      go_wp2_with (first
        | (go_at_call 145; with_reducible refine (HC2.out _ hx1).mono ?_; rintro e w2 ⟨rfl, hx2, hg2⟩)
        | (go_at_call 138; with_reducible refine (HC1.out _ HX.out).mono ?_; rintro e w1 ⟨rfl, hx1, hg1⟩))
      go_end0
      exact LGives.of_ok HM2.out ((HG.out.trans hg1).trans hg2) (HJ.out _ _ _ (HJ.out _ _ _ HJ0.out ⟨_, HX.out⟩ hg1) ⟨_, hx1⟩ hg2) hx2
    · have HM2 := Lib.hid (HM1.out.trans (bind_ok (show accept s_rpar l1 = .ok false l1 from if_neg he2)))
      have HC2 := Lib.hid (fun W (hW : PX n pb l1 W) => accept_no (z := ⟨#[41]⟩) hW (by decide) he2)
      clear HM1 he2
      cases hm3 : part l1 with
      | no a =>
        have HMM := Lib.hid (HM2.out.trans (bind_no hm3))
        have HC3 := Lib.hid (fun W hx hj hg => HPN.out l1 [] a hm3 W hx hj hg (Nat.zero_le _))
        clear hm3
        go_wp2_with (first
          | (go_at_call 144; with_reducible refine (HC3.out _ hx2 hj2 hq2).mono ?_; rintro e w3 ⟨rfl, hg3⟩)
          | (go_at_call 145; with_reducible refine (HC2.out _ hx1).mono ?_; rintro e w2 ⟨rfl, hx2, hg2⟩; have hj2 := HJ.out _ _ _ hj1 ⟨_, hx1⟩ hg2; have hq2 := (HG.out.trans hg1).trans hg2)
          | (go_at_call 138; with_reducible refine (HC1.out _ HX.out).mono ?_; rintro e w1 ⟨rfl, hx1, hg1⟩; have hj1 := HJ.out _ _ _ HJ0.out ⟨_, HX.out⟩ hg1))
        exact ⟨rfl, LGives.of_no HMM.out hg3⟩
      | ok x3 l3 =>
        have HM3 := Lib.hid (HM2.out.trans (bind_ok hm3))
        have HC3 := Lib.hid (fun W hx hj hg => HPO.out l1 [] x3 l3 hm3 W hx hj hg (Nat.zero_le _))
        have HE3 := Lib.hid hm3
        clear hm3 HM2
        go_wp2_with (first
          | (go_at_call 144; with_reducible refine (HC3.out _ hx2 hj2 hq2).mono ?_; rintro e w3 ⟨rfl, hj3, hx3, hg3⟩)
          | (go_at_call 145; with_reducible refine (HC2.out _ hx1).mono ?_; rintro e w2 ⟨rfl, hx2, hg2⟩; have hj2 := HJ.out _ _ _ hj1 ⟨_, hx1⟩ hg2; have hq2 := (HG.out.trans hg1).trans hg2)
          | (go_at_call 138; with_reducible refine (HC1.out _ HX.out).mono ?_; rintro e w1 ⟨rfl, hx1, hg1⟩; have hj1 := HJ.out _ _ _ HJ0.out ⟨_, HX.out⟩ hg1))
        have HS : Hid (LiAt part n pb l J w0 w3) := Lib.hid ⟨l3, [x3], hx3, hj3, hg3, HM3.out, by have h1 := hx1.le; have h2 := (HK.out.out l1 x3 l3 hx1.ps.lt HE3.out).2.1; simp; omega⟩
        clear HC1 HC2 HC3 hx1 hx2 hx3 hg1 hg2 hg3 hj1 hj2 hj3 hq2 HM3 HE3
        go_loopw [12] (fun _ W => LiAt part n pb l J w0 W) (fun _ W => leftN W pb)
        case atStart => exact HS.out
        case round =>
          obtain ⟨lk, acc, hxk, hjk, hgk, hmk, hbd⟩ := hrel
          have HBD := Lib.hid hbd
          have HLE := Lib.hid hxk.left
          have HLT := Lib.hid hxk.ps.lt
          have HSTEP := Lib.hid (hmk.trans (loopP_step (lstep_keeps HK.out) hxk.ps.lt))
          have HXK := Lib.hid hxk
          have HJK := Lib.hid hjk
          have HGK := Lib.hid hgk
          clear hxk hjk hgk hmk HS hbd
          by_cases he4 : (nextT lk).text = s_rpar
          · have HM4 := Lib.hid (HSTEP.out.trans (if_pos he4))
            have HC4 := Lib.hid (fun W (hW : PX n pb lk W) => accept_yes (z := ⟨#[41]⟩) hW (by decide) he4)
            clear HSTEP he4
            go_wp2_with (go_at_call 145; with_reducible refine (HC4.out _ HXK.out).mono ?_; rintro e w4 ⟨rfl, hx4, hg4⟩)
            go_end0
            exact LGives.of_ok HM4.out (HGK.out.trans hg4) (HJ.out _ _ _ HJK.out ⟨_, HXK.out⟩ hg4) hx4
          · have HM4 := Lib.hid (HSTEP.out.trans (if_neg he4))
            have HC4 := Lib.hid (fun W (hW : PX n pb lk W) => accept_no (z := ⟨#[41]⟩) hW (by decide) he4)
            clear HSTEP he4
            cases hm5 : expect s_comma lk with
            | no a =>
              have HMM := Lib.hid (HM4.out.trans (by rw [show lstep part acc lk = .no a from bind_no hm5]))
              have HC5 := Lib.hid (fun W (hW : PX n pb lk W) => rd_no (expect_any n pb lk ⟨#[44]⟩ W hW.ps (by decide)) hm5)
              clear hm5
              go_wp2_with (first
                | (go_at_call 138; with_reducible refine (HC5.out _ hx4).mono ?_; rintro e w5 ⟨rfl, hg5⟩)
                | (go_at_call 145; with_reducible refine (HC4.out _ HXK.out).mono ?_; rintro e w4 ⟨rfl, hx4, hg4⟩))
              exact ⟨rfl, LGives.of_no HMM.out ((HGK.out.trans hg4).trans hg5)⟩
            | ok u5 l5 =>
              have HC5 := Lib.hid (fun W (hW : PX n pb lk W) => rd_is (g := fun _ : Unit => Value.tuple #[]) (expect_any n pb lk ⟨#[44]⟩ W hW.ps (by decide)) hW hm5)
              cases hm6 : part l5 with
              | no a =>
                have HMM := Lib.hid (HM4.out.trans (by rw [show lstep part acc lk = .no a from (bind_ok hm5).trans (bind_no hm6)]))
                have HC6 := Lib.hid (fun W hx hj hg => HPN.out l5 acc a hm6 W hx hj hg (by have := HBD.out; omega))
                clear hm5 hm6
                go_wp2_with (first
                  | (go_at_call 144; with_reducible refine (HC6.out _ hx5 hj5 hq5).mono ?_; rintro e w6 ⟨rfl, hg6⟩)
                  | (go_at_call 138; with_reducible refine (HC5.out _ hx4).mono ?_; rintro e w5 ⟨rfl, hx5, hg5⟩; have hj5 := HJ.out _ _ _ hj4 ⟨_, hx4⟩ hg5; have hq5 := (HGK.out.trans hg4).trans hg5)
                  | (go_at_call 145; with_reducible refine (HC4.out _ HXK.out).mono ?_; rintro e w4 ⟨rfl, hx4, hg4⟩; have hj4 := HJ.out _ _ _ HJK.out ⟨_, HXK.out⟩ hg4))
                exact ⟨rfl, LGives.of_no HMM.out hg6⟩
              | ok x6 l6 =>
                have hst : lstep part acc lk = .ok (acc ++ [x6]) l6 := (bind_ok hm5).trans (bind_ok hm6)
                have HMM := Lib.hid (HM4.out.trans (by rw [hst]))
                have HLEN := Lib.hid ((lstep_keeps HK.out acc).out lk _ l6 HLT.out hst).2.1
                have HC6 := Lib.hid (fun W hx hj hg => HPO.out l5 acc x6 l6 hm6 W hx hj hg (by have := HBD.out; omega))
                clear hm5 hm6 hst
                go_wp2_with (first
                  | (go_at_call 144; with_reducible refine (HC6.out _ hx5 hj5 hq5).mono ?_; rintro e w6 ⟨rfl, hj6, hx6, hg6⟩)
                  | (go_at_call 138; with_reducible refine (HC5.out _ hx4).mono ?_; rintro e w5 ⟨rfl, hx5, hg5⟩; have hj5 := HJ.out _ _ _ hj4 ⟨_, hx4⟩ hg5; have hq5 := (HGK.out.trans hg4).trans hg5)
                  | (go_at_call 145; with_reducible refine (HC4.out _ HXK.out).mono ?_; rintro e w4 ⟨rfl, hx4, hg4⟩; have hj4 := HJ.out _ _ _ HJK.out ⟨_, HXK.out⟩ hg4))
                have HRE : Hid (LiAt part n pb l J w0 w6) := Lib.hid ⟨l6, acc ++ [x6], hx6, hj6, hg6, HMM.out, by have h1 := HBD.out; have h2 := HLEN.out; rw [List.length_append]; simp; omega⟩
                have HL6 := Lib.hid hx6.left
                go_roundw
                case rel => exact HRE.out
                case measure => have h1 := HLE.out; have h2 := HL6.out; have h3 := HLEN.out; omega

set_option maxRecDepth 100000 in
set_option maxHeartbeats 2000000 in
theorem list_inst1 {α : Type} (part : PM α) (hk : Keeps part 1) (n pb a1 a2 : Nat) (w0 : World) (J : List α → World → Prop) (hJ : ∀ acc W W', J acc W → (∃ l, PX n pb l W) → W.grownBy W' (some pb) → J acc W')
    (hP : ∀ l acc W, PX n pb l W → J acc W → w0.grownBy W (some pb) → acc.length ≤ 10000 → Calls Tryz.prog 140 #[.pointer (some ⟨a1, 0, none⟩), .pointer (some ⟨a2, 0, none⟩)] W (LGives n pb l (part >>= fun x => pure (acc ++ [x])) J w0))
    (l : List Tk) (w : World) (hx : PX n pb l w) (hj : J [] w) (hg : w0.grownBy w (some pb)) :
    Calls Tryz.prog 139 #[.pointer (some ⟨pb, 0, none⟩), .func (.func 140) #[] #[.pointer (some ⟨a1, 0, none⟩), .pointer (some ⟨a2, 0, none⟩)]] w (LGives n pb l (listP part) J w0) := by
  have HK := Lib.hid hk
  have HJ := Lib.hid hJ
  have HX := Lib.hid hx
  have HG := Lib.hid hg
  have HJ0 := Lib.hid hj
  have HPN := Lib.hid (fun l acc a (h : part l = .no a) W hx hj hg hb => (hP l acc W hx hj hg hb).mono fun e w' q => q.no (bind_no h))
  have HPO := Lib.hid (fun l acc x r (h : part l = .ok x r) W hx hj hg hb => (hP l acc W hx hj hg hb).mono fun e w' q => q.ok (by rw [bind_ok h, pure_eq]))
  have HM := Lib.hid (listP_eq part l)
  clear hk hJ hP hx hj hg
  go_enter Tryz.func139, Tryz.ntmps139
  cases hm1 : expect s_lpar l with
  | no a =>
    have HMM := Lib.hid (HM.out.trans (bind_no hm1))
    have HC1 := Lib.hid (fun W (hW : PX n pb l W) => rd_no (expect_any n pb l ⟨#[40]⟩ W hW.ps (by decide)) hm1)
    clear hm1
    go_wp2_with (go_at_call 138; with_reducible refine (HC1.out _ HX.out).mono ?_; rintro e w1 ⟨rfl, hg1⟩)
    exact ⟨rfl, LGives.of_no HMM.out (HG.out.trans hg1)⟩
  | ok u1 l1 =>
    have HM1 := Lib.hid (HM.out.trans (bind_ok hm1))
    have HC1 := Lib.hid (fun W (hW : PX n pb l W) => rd_is (g := fun _ : Unit => Value.tuple #[]) (expect_any n pb l ⟨#[40]⟩ W hW.ps (by decide)) hW hm1)
    clear hm1 HM
    by_cases he2 : (nextT l1).text = s_rpar
    · have HM2 := Lib.hid (HM1.out.trans (bind_ok (show accept s_rpar l1 = .ok true l1.tail from if_pos he2)))
      have HC2 := Lib.hid (fun W (hW : PX n pb l1 W) => accept_yes (z := ⟨#[41]⟩) hW (by decide) he2)
      clear HM1
      go_wp2_with (first
        | (go_at_call 145; with_reducible refine (HC2.out _ hx1).mono ?_; rintro e w2 ⟨rfl, hx2, hg2⟩)
        | (go_at_call 138; with_reducible refine (HC1.out _ HX.out).mono ?_; rintro e w1 ⟨rfl, hx1, hg1⟩))
      go_end0
      exact LGives.of_ok HM2.out ((HG.out.trans hg1).trans hg2) (HJ.out _ _ _ (HJ.out _ _ _ HJ0.out ⟨_, HX.out⟩ hg1) ⟨_, hx1⟩ hg2) hx2
    · have HM2 := Lib.hid (HM1.out.trans (bind_ok (show accept s_rpar l1 = .ok false l1 from if_neg he2)))
      have HC2 := Lib.hid (fun W (hW : PX n pb l1 W) => accept_no (z := ⟨#[41]⟩) hW (by decide) he2)
      clear HM1 he2
      cases hm3 : part l1 with
      | no a =>
        have HMM := Lib.hid (HM2.out.trans (bind_no hm3))
        have HC3 := Lib.hid (fun W hx hj hg => HPN.out l1 [] a hm3 W hx hj hg (Nat.zero_le _))
        clear hm3
        go_wp2_with (first
          | (go_at_call 140; with_reducible refine (HC3.out _ hx2 hj2 hq2).mono ?_; rintro e w3 ⟨rfl, hg3⟩)
          | (go_at_call 145; with_reducible refine (HC2.out _ hx1).mono ?_; rintro e w2 ⟨rfl, hx2, hg2⟩; have hj2 := HJ.out _ _ _ hj1 ⟨_, hx1⟩ hg2; have hq2 := (HG.out.trans hg1).trans hg2)
          | (go_at_call 138; with_reducible refine (HC1.out _ HX.out).mono ?_; rintro e w1 ⟨rfl, hx1, hg1⟩; have hj1 := HJ.out _ _ _ HJ0.out ⟨_, HX.out⟩ hg1))
        exact ⟨rfl, LGives.of_no HMM.out hg3⟩
      | ok x3 l3 =>
        have HM3 := Lib.hid (HM2.out.trans (bind_ok hm3))
        have HC3 := Lib.hid (fun W hx hj hg => HPO.out l1 [] x3 l3 hm3 W hx hj hg (Nat.zero_le _))
        have HE3 := Lib.hid hm3
        clear hm3 HM2
        go_wp2_with (first
          | (go_at_call 140; with_reducible refine (HC3.out _ hx2 hj2 hq2).mono ?_; rintro e w3 ⟨rfl, hj3, hx3, hg3⟩)
          | (go_at_call 145; with_reducible refine (HC2.out _ hx1).mono ?_; rintro e w2 ⟨rfl, hx2, hg2⟩; have hj2 := HJ.out _ _ _ hj1 ⟨_, hx1⟩ hg2; have hq2 := (HG.out.trans hg1).trans hg2)
          | (go_at_call 138; with_reducible refine (HC1.out _ HX.out).mono ?_; rintro e w1 ⟨rfl, hx1, hg1⟩; have hj1 := HJ.out _ _ _ HJ0.out ⟨_, HX.out⟩ hg1))
        have HS : Hid (LiAt part n pb l J w0 w3) := Lib.hid ⟨l3, [x3], hx3, hj3, hg3, HM3.out, by have h1 := hx1.le; have h2 := (HK.out.out l1 x3 l3 hx1.ps.lt HE3.out).2.1; simp; omega⟩
        clear HC1 HC2 HC3 hx1 hx2 hx3 hg1 hg2 hg3 hj1 hj2 hj3 hq2 HM3 HE3
        go_loopw [12] (fun _ W => LiAt part n pb l J w0 W) (fun _ W => leftN W pb)
        case atStart => exact HS.out
        case round =>
          obtain ⟨lk, acc, hxk, hjk, hgk, hmk, hbd⟩ := hrel
          have HBD := Lib.hid hbd
          have HLE := Lib.hid hxk.left
          have HLT := Lib.hid hxk.ps.lt
          have HSTEP := Lib.hid (hmk.trans (loopP_step (lstep_keeps HK.out) hxk.ps.lt))
          have HXK := Lib.hid hxk
          have HJK := Lib.hid hjk
          have HGK := Lib.hid hgk
          clear hxk hjk hgk hmk HS hbd
          by_cases he4 : (nextT lk).text = s_rpar
          · have HM4 := Lib.hid (HSTEP.out.trans (if_pos he4))
            have HC4 := Lib.hid (fun W (hW : PX n pb lk W) => accept_yes (z := ⟨#[41]⟩) hW (by decide) he4)
            clear HSTEP he4
            go_wp2_with (go_at_call 145; with_reducible refine (HC4.out _ HXK.out).mono ?_; rintro e w4 ⟨rfl, hx4, hg4⟩)
            go_end0
            exact LGives.of_ok HM4.out (HGK.out.trans hg4) (HJ.out _ _ _ HJK.out ⟨_, HXK.out⟩ hg4) hx4
          · have HM4 := Lib.hid (HSTEP.out.trans (if_neg he4))
            have HC4 := Lib.hid (fun W (hW : PX n pb lk W) => accept_no (z := ⟨#[41]⟩) hW (by decide) he4)
            clear HSTEP he4
            cases hm5 : expect s_comma lk with
            | no a =>
              have HMM := Lib.hid (HM4.out.trans (by rw [show lstep part acc lk = .no a from bind_no hm5]))
              have HC5 := Lib.hid (fun W (hW : PX n pb lk W) => rd_no (expect_any n pb lk ⟨#[44]⟩ W hW.ps (by decide)) hm5)
              clear hm5
              go_wp2_with (first
                | (go_at_call 138; with_reducible refine (HC5.out _ hx4).mono ?_; rintro e w5 ⟨rfl, hg5⟩)
                | (go_at_call 145; with_reducible refine (HC4.out _ HXK.out).mono ?_; rintro e w4 ⟨rfl, hx4, hg4⟩))
              exact ⟨rfl, LGives.of_no HMM.out ((HGK.out.trans hg4).trans hg5)⟩
            | ok u5 l5 =>
              have HC5 := Lib.hid (fun W (hW : PX n pb lk W) => rd_is (g := fun _ : Unit => Value.tuple #[]) (expect_any n pb lk ⟨#[44]⟩ W hW.ps (by decide)) hW hm5)
              cases hm6 : part l5 with
              | no a =>
                have HMM := Lib.hid (HM4.out.trans (by rw [show lstep part acc lk = .no a from (bind_ok hm5).trans (bind_no hm6)]))
                have HC6 := Lib.hid (fun W hx hj hg => HPN.out l5 acc a hm6 W hx hj hg (by have := HBD.out; omega))
                clear hm5 hm6
                go_wp2_with (first
                  | (go_at_call 140; with_reducible refine (HC6.out _ hx5 hj5 hq5).mono ?_; rintro e w6 ⟨rfl, hg6⟩)
                  | (go_at_call 138; with_reducible refine (HC5.out _ hx4).mono ?_; rintro e w5 ⟨rfl, hx5, hg5⟩; have hj5 := HJ.out _ _ _ hj4 ⟨_, hx4⟩ hg5; have hq5 := (HGK.out.trans hg4).trans hg5)
                  | (go_at_call 145; with_reducible refine (HC4.out _ HXK.out).mono ?_; rintro e w4 ⟨rfl, hx4, hg4⟩; have hj4 := HJ.out _ _ _ HJK.out ⟨_, HXK.out⟩ hg4))
                exact ⟨rfl, LGives.of_no HMM.out hg6⟩
              | ok x6 l6 =>
                have hst : lstep part acc lk = .ok (acc ++ [x6]) l6 := (bind_ok hm5).trans (bind_ok hm6)
                have HMM := Lib.hid (HM4.out.trans (by rw [hst]))
                have HLEN := Lib.hid ((lstep_keeps HK.out acc).out lk _ l6 HLT.out hst).2.1
                have HC6 := Lib.hid (fun W hx hj hg => HPO.out l5 acc x6 l6 hm6 W hx hj hg (by have := HBD.out; omega))
                clear hm5 hm6 hst
                go_wp2_with (first
                  | (go_at_call 140; with_reducible refine (HC6.out _ hx5 hj5 hq5).mono ?_; rintro e w6 ⟨rfl, hj6, hx6, hg6⟩)
                  | (go_at_call 138; with_reducible refine (HC5.out _ hx4).mono ?_; rintro e w5 ⟨rfl, hx5, hg5⟩; have hj5 := HJ.out _ _ _ hj4 ⟨_, hx4⟩ hg5; have hq5 := (HGK.out.trans hg4).trans hg5)
                  | (go_at_call 145; with_reducible refine (HC4.out _ HXK.out).mono ?_; rintro e w4 ⟨rfl, hx4, hg4⟩; have hj4 := HJ.out _ _ _ HJK.out ⟨_, HXK.out⟩ hg4))
                have HRE : Hid (LiAt part n pb l J w0 w6) := Lib.hid ⟨l6, acc ++ [x6], hx6, hj6, hg6, HMM.out, by have h1 := HBD.out; have h2 := HLEN.out; rw [List.length_append]; simp; omega⟩
                have HL6 := Lib.hid hx6.left
                go_roundw
                case rel => exact HRE.out
                case measure => have h1 := HLE.out; have h2 := HL6.out; have h3 := HLEN.out; omega

set_option maxRecDepth 100000 in
set_option maxHeartbeats 2000000 in
theorem list_inst2 {α : Type} (part : PM α) (hk : Keeps part 1) (n pb a1 a2 : Nat) (w0 : World) (J : List α → World → Prop) (hJ : ∀ acc W W', J acc W → (∃ l, PX n pb l W) → W.grownBy W' (some pb) → J acc W')
    (hP : ∀ l acc W, PX n pb l W → J acc W → w0.grownBy W (some pb) → acc.length ≤ 10000 → Calls Tryz.prog 142 #[.pointer (some ⟨a1, 0, none⟩), .pointer (some ⟨a2, 0, none⟩)] W (LGives n pb l (part >>= fun x => pure (acc ++ [x])) J w0))
    (l : List Tk) (w : World) (hx : PX n pb l w) (hj : J [] w) (hg : w0.grownBy w (some pb)) :
    Calls Tryz.prog 139 #[.pointer (some ⟨pb, 0, none⟩), .func (.func 142) #[] #[.pointer (some ⟨a1, 0, none⟩), .pointer (some ⟨a2, 0, none⟩)]] w (LGives n pb l (listP part) J w0) := by
  have HK := Lib.hid hk
  have HJ := Lib.hid hJ
  have HX := Lib.hid hx
  have HG := Lib.hid hg
  have HJ0 := Lib.hid hj
  have HPN := Lib.hid (fun l acc a (h : part l = .no a) W hx hj hg hb => (hP l acc W hx hj hg hb).mono fun e w' q => q.no (bind_no h))
  have HPO := Lib.hid (fun l acc x r (h : part l = .ok x r) W hx hj hg hb => (hP l acc W hx hj hg hb).mono fun e w' q => q.ok (by rw [bind_ok h, pure_eq]))
  have HM := Lib.hid (listP_eq part l)
  clear hk hJ hP hx hj hg
  go_enter Tryz.func139, Tryz.ntmps139
  cases hm1 : expect s_lpar l with
  | no a =>
    have HMM := Lib.hid (HM.out.trans (bind_no hm1))
    have HC1 := Lib.hid (fun W (hW : PX n pb l W) => rd_no (expect_any n pb l ⟨#[40]⟩ W hW.ps (by decide)) hm1)
    clear hm1
    go_wp2_with (go_at_call 138; with_reducible refine (HC1.out _ HX.out).mono ?_; rintro e w1 ⟨rfl, hg1⟩)
    exact ⟨rfl, LGives.of_no HMM.out (HG.out.trans hg1)⟩
  | ok u1 l1 =>
    have HM1 := Lib.hid (HM.out.trans (bind_ok hm1))
    have HC1 := Lib.hid (fun W (hW : PX n pb l W) => rd_is (g := fun _ : Unit => Value.tuple #[]) (expect_any n pb l ⟨#[40]⟩ W hW.ps (by decide)) hW hm1)
    clear hm1 HM
    by_cases he2 : (nextT l1).text = s_rpar
    · have HM2 := Lib.hid (HM1.out.trans (bind_ok (show accept s_rpar l1 = .ok true l1.tail from if_pos he2)))
      have HC2 := Lib.hid (fun W (hW : PX n pb l1 W) => accept_yes (z := ⟨#[41]⟩) hW (by decide) he2)
      clear HM1
      go_wp2_with (first
        | (go_at_call 145; with_reducible refine (HC2.out _ hx1).mono ?_; rintro e w2 ⟨rfl, hx2, hg2⟩)
        | (go_at_call 138; with_reducible refine (HC1.out _ HX.out).mono ?_; rintro e w1 ⟨rfl, hx1, hg1⟩))
      go_end0
      exact LGives.of_ok HM2.out ((HG.out.trans hg1).trans hg2) (HJ.out _ _ _ (HJ.out _ _ _ HJ0.out ⟨_, HX.out⟩ hg1) ⟨_, hx1⟩ hg2) hx2
    · have HM2 := Lib.hid (HM1.out.trans (bind_ok (show accept s_rpar l1 = .ok false l1 from if_neg he2)))
      have HC2 := Lib.hid (fun W (hW : PX n pb l1 W) => accept_no (z := ⟨#[41]⟩) hW (by decide) he2)
      clear HM1 he2
      cases hm3 : part l1 with
      | no a =>
        have HMM := Lib.hid (HM2.out.trans (bind_no hm3))
        have HC3 := Lib.hid (fun W hx hj hg => HPN.out l1 [] a hm3 W hx hj hg (Nat.zero_le _))
        clear hm3
        go_wp2_with (first
          | (go_at_call 142; with_reducible refine (HC3.out _ hx2 hj2 hq2).mono ?_; rintro e w3 ⟨rfl, hg3⟩)
          | (go_at_call 145; with_reducible refine (HC2.out _ hx1).mono ?_; rintro e w2 ⟨rfl, hx2, hg2⟩; have hj2 := HJ.out _ _ _ hj1 ⟨_, hx1⟩ hg2; have hq2 := (HG.out.trans hg1).trans hg2)
          | (go_at_call 138; with_reducible refine (HC1.out _ HX.out).mono ?_; rintro e w1 ⟨rfl, hx1, hg1⟩; have hj1 := HJ.out _ _ _ HJ0.out ⟨_, HX.out⟩ hg1))
        exact ⟨rfl, LGives.of_no HMM.out hg3⟩
      | ok x3 l3 =>
        have HM3 := Lib.hid (HM2.out.trans (bind_ok hm3))
        have HC3 := Lib.hid (fun W hx hj hg => HPO.out l1 [] x3 l3 hm3 W hx hj hg (Nat.zero_le _))
        have HE3 := Lib.hid hm3
        clear hm3 HM2
        go_wp2_with (first
          | (go_at_call 142; with_reducible refine (HC3.out _ hx2 hj2 hq2).mono ?_; rintro e w3 ⟨rfl, hj3, hx3, hg3⟩)
          | (go_at_call 145; with_reducible refine (HC2.out _ hx1).mono ?_; rintro e w2 ⟨rfl, hx2, hg2⟩; have hj2 := HJ.out _ _ _ hj1 ⟨_, hx1⟩ hg2; have hq2 := (HG.out.trans hg1).trans hg2)
          | (go_at_call 138; with_reducible refine (HC1.out _ HX.out).mono ?_; rintro e w1 ⟨rfl, hx1, hg1⟩; have hj1 := HJ.out _ _ _ HJ0.out ⟨_, HX.out⟩ hg1))
        have HS : Hid (LiAt part n pb l J w0 w3) := Lib.hid ⟨l3, [x3], hx3, hj3, hg3, HM3.out, by have h1 := hx1.le; have h2 := (HK.out.out l1 x3 l3 hx1.ps.lt HE3.out).2.1; simp; omega⟩
        clear HC1 HC2 HC3 hx1 hx2 hx3 hg1 hg2 hg3 hj1 hj2 hj3 hq2 HM3 HE3
        go_loopw [12] (fun _ W => LiAt part n pb l J w0 W) (fun _ W => leftN W pb)
        case atStart => exact HS.out
        case round =>
          obtain ⟨lk, acc, hxk, hjk, hgk, hmk, hbd⟩ := hrel
          have HBD := Lib.hid hbd
          have HLE := Lib.hid hxk.left
          have HLT := Lib.hid hxk.ps.lt
          have HSTEP := Lib.hid (hmk.trans (loopP_step (lstep_keeps HK.out) hxk.ps.lt))
          have HXK := Lib.hid hxk
          have HJK := Lib.hid hjk
          have HGK := Lib.hid hgk
          clear hxk hjk hgk hmk HS hbd
          by_cases he4 : (nextT lk).text = s_rpar
          · have HM4 := Lib.hid (HSTEP.out.trans (if_pos he4))
            have HC4 := Lib.hid (fun W (hW : PX n pb lk W) => accept_yes (z := ⟨#[41]⟩) hW (by decide) he4)
            clear HSTEP he4
            go_wp2_with (go_at_call 145; with_reducible refine (HC4.out _ HXK.out).mono ?_; rintro e w4 ⟨rfl, hx4, hg4⟩)
            go_end0
            exact LGives.of_ok HM4.out (HGK.out.trans hg4) (HJ.out _ _ _ HJK.out ⟨_, HXK.out⟩ hg4) hx4
          · have HM4 := Lib.hid (HSTEP.out.trans (if_neg he4))
            have HC4 := Lib.hid (fun W (hW : PX n pb lk W) => accept_no (z := ⟨#[41]⟩) hW (by decide) he4)
            clear HSTEP he4
            cases hm5 : expect s_comma lk with
            | no a =>
              have HMM := Lib.hid (HM4.out.trans (by rw [show lstep part acc lk = .no a from bind_no hm5]))
              have HC5 := Lib.hid (fun W (hW : PX n pb lk W) => rd_no (expect_any n pb lk ⟨#[44]⟩ W hW.ps (by decide)) hm5)
              clear hm5
              go_wp2_with (first
                | (go_at_call 138; with_reducible refine (HC5.out _ hx4).mono ?_; rintro e w5 ⟨rfl, hg5⟩)
                | (go_at_call 145; with_reducible refine (HC4.out _ HXK.out).mono ?_; rintro e w4 ⟨rfl, hx4, hg4⟩))
              exact ⟨rfl, LGives.of_no HMM.out ((HGK.out.trans hg4).trans hg5)⟩
            | ok u5 l5 =>
              have HC5 := Lib.hid (fun W (hW : PX n pb lk W) => rd_is (g := fun _ : Unit => Value.tuple #[]) (expect_any n pb lk ⟨#[44]⟩ W hW.ps (by decide)) hW hm5)
              cases hm6 : part l5 with
              | no a =>
                have HMM := Lib.hid (HM4.out.trans (by rw [show lstep part acc lk = .no a from (bind_ok hm5).trans (bind_no hm6)]))
                have HC6 := Lib.hid (fun W hx hj hg => HPN.out l5 acc a hm6 W hx hj hg (by have := HBD.out; omega))
                clear hm5 hm6
                go_wp2_with (first
                  | (go_at_call 142; with_reducible refine (HC6.out _ hx5 hj5 hq5).mono ?_; rintro e w6 ⟨rfl, hg6⟩)
                  | (go_at_call 138; with_reducible refine (HC5.out _ hx4).mono ?_; rintro e w5 ⟨rfl, hx5, hg5⟩; have hj5 := HJ.out _ _ _ hj4 ⟨_, hx4⟩ hg5; have hq5 := (HGK.out.trans hg4).trans hg5)
                  | (go_at_call 145; with_reducible refine (HC4.out _ HXK.out).mono ?_; rintro e w4 ⟨rfl, hx4, hg4⟩; have hj4 := HJ.out _ _ _ HJK.out ⟨_, HXK.out⟩ hg4))
                exact ⟨rfl, LGives.of_no HMM.out hg6⟩
              | ok x6 l6 =>
                have hst : lstep part acc lk = .ok (acc ++ [x6]) l6 := (bind_ok hm5).trans (bind_ok hm6)
                have HMM := Lib.hid (HM4.out.trans (by rw [hst]))
                have HLEN := Lib.hid ((lstep_keeps HK.out acc).out lk _ l6 HLT.out hst).2.1
                have HC6 := Lib.hid (fun W hx hj hg => HPO.out l5 acc x6 l6 hm6 W hx hj hg (by have := HBD.out; omega))
                clear hm5 hm6 hst
                go_wp2_with (first
                  | (go_at_call 142; with_reducible refine (HC6.out _ hx5 hj5 hq5).mono ?_; rintro e w6 ⟨rfl, hj6, hx6, hg6⟩)
                  | (go_at_call 138; with_reducible refine (HC5.out _ hx4).mono ?_; rintro e w5 ⟨rfl, hx5, hg5⟩; have hj5 := HJ.out _ _ _ hj4 ⟨_, hx4⟩ hg5; have hq5 := (HGK.out.trans hg4).trans hg5)
                  | (go_at_call 145; with_reducible refine (HC4.out _ HXK.out).mono ?_; rintro e w4 ⟨rfl, hx4, hg4⟩; have hj4 := HJ.out _ _ _ HJK.out ⟨_, HXK.out⟩ hg4))
                have HRE : Hid (LiAt part n pb l J w0 w6) := Lib.hid ⟨l6, acc ++ [x6], hx6, hj6, hg6, HMM.out, by have h1 := HBD.out; have h2 := HLEN.out; rw [List.length_append]; simp; omega⟩
                have HL6 := Lib.hid hx6.left
                go_roundw
                case rel => exact HRE.out
                case measure => have h1 := HLE.out; have h2 := HL6.out; have h3 := HLEN.out; omega

end Sy
end Go.Proofs.YtggeepimihhpjaaGreatDoor
