/- Statement DigestBinds: the walk. -/
import Derived.Test.YtgjmhddekggilaaD6
namespace Go.Proofs.Ytgjmhddekggilaa
open Go.RowKit Go.BigFrame
namespace Dg

/-- What holds at each round's head. -/
def BindAt (d x : Int) (P p : List Int) (S : List Bool) (w6 : World) (gv hv ev jv : Value) (wr : World) : Prop :=
  ∃ (k : Nat) (g h : Int) (E : Bool), jv = .int .i64 k ∧ gv = .int .u64 g ∧ hv = .int .u64 h ∧ ev = .bool E ∧ k ≤ P.length ∧ foldTo d P S k = g ∧ foldTo x p S k = h ∧ eqTo d x P p k = E ∧ noneTo d x P p S k ∧ Below w6.heap.size w6 wr

theorem bind_next {d x g h y5 y6 : Int} {P p : List Int} {S : List Bool} {k : Nat} {E s : Bool} (hg : foldTo d P S k = g) (hh : foldTo x p S k = h) (hE : eqTo d x P p k = E) (hn : noneTo d x P p S k) (h5 : P[k]?.getD 0 = y5) (h6 : p[k]?.getD 0 = y6) (hs : S[k]?.getD false = s)
    (hno : ¬ ((g ≠ h ∨ y5 ≠ y6) ∧ besideI g y5 s = besideI h y6 s)) :
    foldTo d P S (k + 1) = besideI g y5 s ∧ foldTo x p S (k + 1) = besideI h y6 s ∧ eqTo d x P p (k + 1) = (E && (y5 == y6)) ∧ noneTo d x P p S (k + 1) := by
  subst hg
  subst hh
  subst hE
  subst h5
  subst h6
  subst hs
  refine ⟨rfl, rfl, rfl, fun m hm => ?_⟩
  by_cases hmk : m < k
  · exact hn m hmk
  · obtain rfl : m = k := by omega
    exact hno

theorem chk_zero {n i : Nat} {d : Int} {p : List Int} {T : Int} (h : chkE n i d p T = 0) : leadT n i d p = some T := by
  unfold chkE at h
  by_cases h' : leadT n i d p = some T
  · exact h'
  · rw [if_neg h'] at h; cases h

theorem sides_n (n i m : Nat) (S : List Bool) (w : World) (hn : n ≤ 4096) (hi : i < n) (hS : Hid (sidesT n i = S)) (hm : S.length = m) : Calls Try.prog 26 #[.int .i64 n, .int .i64 i] w fun e w' => ∃ A c, e = .returned (.slice A m c) ∧ ArrF w' w.heap.size A (S.map Value.bool) ∧ Below w.heap.size w w' := by
  have e := hS.out
  subst e
  subst hm
  exact sides_any n i w hn hi

theorem up_later (d p : Int) (left : Bool) (w : World) : Calls Try.prog 27 #[.int .u64 d, .int .u64 p, .bool left] w fun e w' => e = .returned (.int .u64 (besideI d p left)) ∧ Below w.heap.size w w' :=
  (up_any d p left w).mono fun _ _ ⟨he, hw⟩ => ⟨he, by rw [← hw]; exact Below.refl _ _⟩

theorem Arr.atB {w : World} {A : Option Addr} {S : List Bool} (h : Arr w A (S.map Value.bool)) (hne : S ≠ []) : ∃ b o, A = some ⟨b, o, none⟩ ∧ b < w.heap.size ∧ ∀ j, j < S.length → w.cell? ⟨b, o + j, none⟩ = some (.bool (S[j]?.getD false)) := by
  obtain ⟨b, o, e, hlt, hc⟩ := h (by simpa using hne)
  exact ⟨b, o, e, hlt, fun j hj => hc j _ (by rw [List.getElem?_map, List.getElem?_eq_getElem hj]; rfl)⟩

set_option maxRecDepth 100000 in
set_option maxHeartbeats 4000000 in
theorem binds_walk (A : Option Addr) (len cap : Nat) (l : List Int) (k0 k1 x : Int) (w : World) (hl : RowIs .u64 w A len cap l) (h0 : 0 ≤ k0) (h0' : k0 ≤ 65535) (h1 : 0 ≤ k1) (h1' : k1 ≤ 65535) :
    Calls Try.prog 8 #[.slice A len cap, .agg #[.int .u16 k0, .int .u16 k1], .int .u64 x] w fun e w' => e = .returned (.bool true) ∧ Below w.heap.size w w' := by
  go_enter Try.func8, Try.ntmps8
  go_wp2_with fail
  refine (examples_any _).mono ?_
  rintro e w1 ⟨rfl, hb1⟩
  have hB1 := ((Below.refl _ w).alloc (Nat.le_refl _) (.cells #[.int .u16 k0, .int .u16 k1] 49)).trans (hb1.mono (by simp))
  have f0 : w1.cell? ⟨w.heap.size, 0, none⟩ = some (.int .u16 k0) := (hb1.cell (p := ⟨w.heap.size, 0, none⟩) (by simp)).trans (World.cell?_alloc_at _ 49 _ 0 rfl)
  have f1 : w1.cell? ⟨w.heap.size, 1, none⟩ = some (.int .u16 k1) := (hb1.cell (p := ⟨w.heap.size, 1, none⟩) (by simp)).trans (World.cell?_alloc_at _ 49 _ 1 rfl)
  have hw1 : w.heap.size < w1.heap.size := by have := hb1.size; simp at this; omega
  clear hb1
  go_wp2_with fail
  refine (grown_z A l cap len _ _ hl.hlen (by omega) (by omega) hl.hcap (hl.arr.keep hB1) hl.nil hl.range).mono ?_
  rintro e w2 ⟨zs, A2, c2, rfl, hz, hR, hc2, hF2, hb2⟩
  have hs1 := hB1.size
  have f2 := (hb2.cell (p := ⟨w.heap.size, 1, none⟩) hw1).trans f1
  have hz1 : 1 ≤ zs.length := by omega
  have hz2 : zs.length ≤ 300 := by omega
  have hB2 := hB1.trans (hb2.mono hs1)
  have hlA := (hl.arr.keep hB1).keep hb2
  clear f0 f1 hz hb2 h0 h0' hB1 hs1 hw1
  go_wp2_with fail
  have hm2 := Int.emod_lt_of_pos k1 (b := (zs.length : Int)) (by omega)
  have hm1 := Int.emod_nonneg k1 (b := (zs.length : Int)) (by omega)
  obtain ⟨j, hj⟩ : ∃ j : Nat, k1 % (zs.length : Int) = j := ⟨(k1 % (zs.length : Int)).toNat, (Int.toNat_of_nonneg hm1).symm⟩
  rw [hj] at hm2
  have hjl : j < zs.length := by omega
  simp only [hj]
  clear hj h1 h1' f2 hm1 hm2
  have hlead := lead_path zs.length zs j (Nat.le_refl _) hjl
  have hlen := path_len 9 zs j (by omega)
  obtain ⟨b, o, rfl, hbl, hcs⟩ := hF2.arr.at_ (by intro h; subst h; simp at hz1)
  have hcx := hcs j hjl
  obtain ⟨P, hP⟩ : ∃ P, pathT zs j = P := ⟨_, rfl⟩
  obtain ⟨T, hT⟩ : ∃ T, rootT zs = T := ⟨_, rfl⟩
  generalize zs[j]?.getD 0 = d at *
  rw [hP] at hlead hlen
  rw [hT] at hlead
  have HP := Lib.hid hP
  have HT := Lib.hid hT
  have HL0 := Lib.hid hlead
  have HLd := Lib.hid (lead_fold zs.length zs.length j d P T (Nat.le_refl _) hjl hlead)
  clear hP hT hlead hcs hR
  refine (root_T (some ⟨b, o, none⟩) zs zs.length c2 T w2 rfl HT (by omega) (by omega) hc2 hF2.arr).mono ?_
  rintro e w3 ⟨rfl, hb3⟩
  go_wp2_with fail
  refine (pathOf_P (some ⟨b, o, none⟩) zs zs.length c2 j P w3 rfl HP hjl (by omega) hc2 (hF2.arr.keep hb3)).mono ?_
  rintro e w4 ⟨A5, c5, rfl, hc5, hF5, hb4⟩
  have hs3 := hb3.size
  have hs4 := hb4.size
  have hcx4 := (hb4.cell (p := ⟨b, o + j, none⟩) (by simp; omega)).trans ((hb3.cell (p := ⟨b, o + j, none⟩) hbl).trans hcx)
  have hlA4 := (hlA.keep hb3).keep hb4
  have hA5 := hF5.arr
  have hB4 := (hB2.trans (hb3.mono hB2.size)).trans (hb4.mono (by have := hB2.size; omega))
  have hbl4 : b < w4.heap.size := by omega
  have hlc := hl.hcap
  have HLl := Lib.hid hl.hlen
  have HLn := Lib.hid hl.nil
  clear hb3 hb4 hF2 hF5 hcx hB2 hbl hs3 hs4 hlA hl
  by_cases hmn : len < P.length
  · have HK : Hid (chkE zs.length j x l T = 6) := by
      have h6 : chkE zs.length j x l T = 6 := by
        unfold chkE
        rw [if_neg]
        intro h'
        have e1 := lead_len zs.length zs.length j x l T (Nat.le_refl _) h'
        have e2 := lead_len zs.length zs.length j d P T (Nat.le_refl _) HL0.out
        have e3 := HLl.out
        omega
      exact Lib.hid h6
    clear hcx4
    go_wp2_with fail
    refine (check_E T zs.length j x A l len cap 6 _ HLl.out HK (by omega) hjl hlc (hlA4.alloc _)).mono ?_
    rintro e w6 ⟨rfl, hb6⟩
    have f6 := (hb6.cell (p := ⟨w4.heap.size, 1, none⟩) (by simp)).trans (World.cell?_alloc_at _ 42 _ 1 rfl)
    go_wp2
    go_ret
    exact ⟨rfl, (hB4.alloc hB4.size _).trans (hb6.mono (by have := hB4.size; simp; omega))⟩
  · have hle : P.length ≤ len := by omega
    have hHp : Hid ((l.take P.length).length = P.length) := Lib.hid (by rw [List.length_take, HLl.out]; omega)
    obtain ⟨r, hr⟩ : ∃ r, chkE zs.length j x (l.take P.length) T = r := ⟨_, rfl⟩
    have HCr := Lib.hid hr
    have hAp := hlA4.take P.length
    rw [← List.map_take] at hAp
    generalize l.take P.length = p at *
    clear hmn hlA4 HLl HLn hr
    rcases Nat.lt_or_eq_of_le hle with hlt | heq
    case' inr => subst heq
    case' inl => clear hle
    all_goals
      go_wp2_with fail
      refine (check_E T zs.length j x A p P.length cap r _ hHp.out HCr (by omega) hjl (by omega) (hAp.alloc _)).mono ?_
      rintro e w6 ⟨rfl, hb6⟩
      have f5 := (hb6.cell (p := ⟨w4.heap.size, 0, none⟩) (by simp)).trans (World.cell?_alloc_at _ 42 _ 0 rfl)
      have f6 := (hb6.cell (p := ⟨w4.heap.size, 1, none⟩) (by simp)).trans (World.cell?_alloc_at _ 42 _ 1 rfl)
      have fx := (hb6.cell (p := ⟨b, o + j, none⟩) (by simp; omega)).trans ((World.cell?_alloc_lt w4 (.cells #[.slice A5 P.length c5, .int .i64 0] 42) ⟨b, o + j, none⟩ hbl4).trans hcx4)
      have hP6 := (hA5.alloc (.cells #[.slice A5 P.length c5, .int .i64 0] 42)).keep hb6
      have hp6 := (hAp.alloc (.cells #[.slice A5 P.length c5, .int .i64 0] 42)).keep hb6
      have hB6 := (hB4.alloc hB4.size (.cells #[.slice A5 P.length c5, .int .i64 0] 42)).trans (hb6.mono (by have := hB4.size; simp; omega))
      have hw6 : w4.heap.size < w6.heap.size := by have := hb6.size; simp at this; omega
      clear hb6 hcx4 hA5 hAp hB4
      by_cases hr0 : r = 0
      · subst hr0
        have HLx := Lib.hid (lead_fold zs.length zs.length j x p T (Nat.le_refl _) hjl (chk_zero HCr.out))
        obtain ⟨S, hS⟩ : ∃ S, sidesT zs.length j = S := ⟨_, rfl⟩
        have HS := Lib.hid hS
        have HPl : Hid (S.length = P.length) := Lib.hid (by rw [← hS]; exact HLd.out.1.symm)
        have HGT : Hid (foldTo d P S S.length = T) := Lib.hid (by rw [← hS]; exact HLd.out.2)
        have HHT : Hid (foldTo x p S S.length = T) := Lib.hid (by rw [← hS]; exact HLx.out.2)
        have hbs : b < w6.heap.size := by omega
        clear hS HCr HLd HLx HL0
        go_wp2_with fail
        refine (sides_n zs.length j P.length S w6 (by omega) hjl HS HPl.out).mono ?_
        rintro e w7 ⟨A7, c7, rfl, hF7, hb7⟩
        have hs7 := hb7.size
        have fa := (hb7.cell (p := ⟨w4.heap.size, 0, none⟩) hw6).trans f5
        have fx7 := (hb7.cell (p := ⟨b, o + j, none⟩) hbs).trans fx
        have HP7 := Lib.hid (hP6.keep hb7)
        have Hp7 := Lib.hid (hp6.keep hb7)
        have HS7 := Lib.hid hF7.arr
        have hB7 := hB6.trans (hb7.mono hB6.size)
        have hw7 : w4.heap.size < w7.heap.size := by omega
        clear hb7 hP6 hp6 hF7 hB6 f5 f6 fx hbs hs7 hw6
        go_wp2
        go_loopw [14, 15, 16, 17] (fun gv hv ev jv wr => BindAt d x P p S w7 gv hv ev jv wr) (fun _ _ _ jv _ => P.length - (intOf jv).toNat)
        case atStart => exact ⟨0, d, x, _, rfl, rfl, rfl, rfl, by omega, rfl, rfl, rfl, fun m hm => absurd hm (by omega), Below.refl _ _⟩
        case round =>
          obtain ⟨k, g, h, E, rfl, rfl, rfl, rfl, hk, hg, hh, hE, hno, hbl⟩ := hrel
          have HGk := Lib.hid hg
          have HHk := Lib.hid hh
          have HEk := Lib.hid hE
          have HNk := Lib.hid hno
          clear hg hh hE hno
          have hbls := hbl.size
          by_cases hlt2 : k < P.length
          · obtain ⟨b5, o5, rfl, hb5, hc5s⟩ := HP7.out.at_ (by intro h0; subst h0; simp at hlt2)
            obtain ⟨b6, o6, rfl, hb6, hc6s⟩ := Hp7.out.at_ (by intro h0; have := hHp.out; rw [h0] at this; simp at this; omega)
            obtain ⟨b7, o7, rfl, hb7, hc7s⟩ := HS7.out.atB (by intro h0; have := HPl.out; rw [h0] at this; simp at this; omega)
            have fa1 := (hbl.cell (p := ⟨w4.heap.size, 0, none⟩) hw7).trans fa
            have fp := (hbl.cell (p := ⟨b5, o5 + k, none⟩) hb5).trans (hc5s k hlt2)
            have fq := (hbl.cell (p := ⟨b6, o6 + k, none⟩) hb6).trans (hc6s k (by rw [hHp.out]; exact hlt2))
            have fs := (hbl.cell (p := ⟨b7, o7 + k, none⟩) hb7).trans (hc7s k (by rw [HPl.out]; exact hlt2))
            obtain ⟨y5, hy5⟩ : ∃ y, P[k]?.getD 0 = y := ⟨_, rfl⟩
            obtain ⟨y6, hy6⟩ : ∃ y, p[k]?.getD 0 = y := ⟨_, rfl⟩
            obtain ⟨s, hs⟩ : ∃ s, S[k]?.getD false = s := ⟨_, rfl⟩
            rw [hy5] at fp
            rw [hy6] at fq
            rw [hs] at fs
            have HY5 := Lib.hid hy5
            have HY6 := Lib.hid hy6
            have HSk := Lib.hid hs
            clear hy5 hy6 hs hc5s hc6s hc7s fa
            have la := Later.cell (w := wr) (a := ⟨w4.heap.size, 0, none⟩) fa1 (by simp; omega)
            have lp := Later.cell (w := wr) (a := ⟨b5, o5 + k, none⟩) fp (by simp; omega)
            have lq := Later.cell (w := wr) (a := ⟨b6, o6 + k, none⟩) fq (by simp; omega)
            have ls := Later.cell (w := wr) (a := ⟨b7, o7 + k, none⟩) fs (by simp; omega)
            clear fa1 fp fq fs
            go_wp2
            refine wp_region_later (by kernel_rfl) (by kernel_rfl) ?_
            repeat (go_big_quiet_step ((go_at_call 27; exact later_of (up_later _ _ _ _))))
            refine wpQuiet_nil ?_
            intro _ hw'
            obtain ⟨q, hw''⟩ := hw'
            subst hw''
            have fa2 := la q
            have fp2 := lp q
            have fq2 := lq q
            have hq := q.below
            clear la lp lq ls
            generalize q.val = wr2 at fa2 fp2 fq2 hq ⊢
            have hqs := hq.size
            have la2 := Later.cell (w := wr2) (a := ⟨w4.heap.size, 0, none⟩) fa2 (by simp; omega)
            have lp2 := Later.cell (w := wr2) (a := ⟨b5, o5 + k, none⟩) fp2 (by simp; omega)
            have lq2 := Later.cell (w := wr2) (a := ⟨b6, o6 + k, none⟩) fq2 (by simp; omega)
            clear fa2 fp2 fq2
            by_cases hab : besideI g y5 s = besideI h y6 s
            · have ab : (besideI g y5 s == besideI h y6 s) = true := beq_iff_eq.2 hab
              by_cases hgh : g = h
              · have gb : (g != h) = false := by rw [hgh]; simp
                by_cases hyy : y5 = y6
                · have yb : (y5 != y6) = false := by rw [hyy]; simp
                  have HG1 := Lib.hid hgh
                  have HY1 := Lib.hid hyy
                  clear hgh hyy hab
                  go_wp2
                  refine wp_region_later (by kernel_rfl) (by kernel_rfl) ?_
                  repeat (go_big_quiet_step (fail))
                  refine wpQuiet_nil ?_
                  intro _ hw'
                  obtain ⟨q2, hw''⟩ := hw'
                  subst hw''
                  have fa3 := la2 q2
                  have fp3 := lp2 q2
                  have fq3 := lq2 q2
                  have hq2 := q2.below
                  clear la2 lp2 lq2
                  generalize q2.val = wr3 at fa3 fp3 fq3 hq2 ⊢
                  have hqs2 := hq2.size
                  have N := bind_next HGk.out HHk.out HEk.out HNk.out HY5.out HY6.out HSk.out (fun hc => hc.1.elim (fun h1 => h1 HG1.out) (fun h1 => h1 HY1.out))
                  have HN1 := Lib.hid N
                  clear N
                  have la3 := Later.cell (w := wr3) (a := ⟨w4.heap.size, 0, none⟩) fa3 (by simp; omega)
                  have lp3 := Later.cell (w := wr3) (a := ⟨b5, o5 + k, none⟩) fp3 (by simp; omega)
                  have lq3 := Later.cell (w := wr3) (a := ⟨b6, o6 + k, none⟩) fq3 (by simp; omega)
                  clear fa3 fp3 fq3
                  cases E
                  all_goals
                    go_wp2
                    refine wp_region_later (by kernel_rfl) (by kernel_rfl) ?_
                    repeat (go_big_quiet_step (fail))
                    refine wpQuiet_nil ?_
                    intro _ hw'
                    obtain ⟨q3, hw''⟩ := hw'
                    subst hw''
                    have hq3 := q3.below
                    generalize q3.val = wr4 at hq3 ⊢
                    clear la3 lp3 lq3
                    go_wp2
                    go_roundw
                    case rel => exact ⟨k + 1, _, _, _, by go_num, rfl, rfl, rfl, by omega, HN1.out.1, HN1.out.2.1, by rw [HN1.out.2.2.1]; rfl, HN1.out.2.2.2, hbl.trans ((hq.mono hbls).trans ((hq2.mono (by omega)).trans (hq3.mono (by omega))))⟩
                    case measure => simp [intOf]; omega
                · have yb : (y5 != y6) = true := by rw [bne_iff_ne]; exact hyy
                  clear hgh hyy hab
                  go_wp2
                  refine wp_region_later (by kernel_rfl) (by kernel_rfl) ?_
                  repeat (go_big_quiet_step (fail))
                  refine wpQuiet_nil ?_
                  intro _ hw'
                  obtain ⟨q2, hw''⟩ := hw'
                  subst hw''
                  have hq2 := q2.below
                  generalize q2.val = wr3 at hq2 ⊢
                  go_wp2
                  go_ret
                  exact ⟨rfl, hB7.trans ((hbl.trans ((hq.mono hbls).trans (hq2.mono (by omega)))).mono hB7.size)⟩
              · have gb : (g != h) = true := by rw [bne_iff_ne]; exact hgh
                clear hgh hab
                go_wp2
                refine wp_region_later (by kernel_rfl) (by kernel_rfl) ?_
                repeat (go_big_quiet_step (fail))
                refine wpQuiet_nil ?_
                intro _ hw'
                obtain ⟨q2, hw''⟩ := hw'
                subst hw''
                have hq2 := q2.below
                generalize q2.val = wr3 at hq2 ⊢
                go_wp2
                go_ret
                exact ⟨rfl, hB7.trans ((hbl.trans ((hq.mono hbls).trans (hq2.mono (by omega)))).mono hB7.size)⟩
            · have ab : (besideI g y5 s == besideI h y6 s) = false := beq_eq_false_iff_ne.2 hab
              have HAB := Lib.hid hab
              clear hab
              by_cases hgh : g = h
              · have gb : (g != h) = false := by rw [hgh]; simp
                by_cases hyy : y5 = y6
                · have yb : (y5 != y6) = false := by rw [hyy]; simp
                  clear hgh hyy
                  go_wp2
                  refine wp_region_later (by kernel_rfl) (by kernel_rfl) ?_
                  repeat (go_big_quiet_step (fail))
                  refine wpQuiet_nil ?_
                  intro _ hw'
                  obtain ⟨q2, hw''⟩ := hw'
                  subst hw''
                  have fa3 := la2 q2
                  have fp3 := lp2 q2
                  have fq3 := lq2 q2
                  have hq2 := q2.below
                  clear la2 lp2 lq2
                  generalize q2.val = wr3 at fa3 fp3 fq3 hq2 ⊢
                  have hqs2 := hq2.size
                  have N := bind_next HGk.out HHk.out HEk.out HNk.out HY5.out HY6.out HSk.out (fun hc => HAB.out hc.2)
                  have HN1 := Lib.hid N
                  clear N
                  have la3 := Later.cell (w := wr3) (a := ⟨w4.heap.size, 0, none⟩) fa3 (by simp; omega)
                  have lp3 := Later.cell (w := wr3) (a := ⟨b5, o5 + k, none⟩) fp3 (by simp; omega)
                  have lq3 := Later.cell (w := wr3) (a := ⟨b6, o6 + k, none⟩) fq3 (by simp; omega)
                  clear fa3 fp3 fq3
                  cases E
                  all_goals
                    go_wp2
                    refine wp_region_later (by kernel_rfl) (by kernel_rfl) ?_
                    repeat (go_big_quiet_step (fail))
                    refine wpQuiet_nil ?_
                    intro _ hw'
                    obtain ⟨q3, hw''⟩ := hw'
                    subst hw''
                    have hq3 := q3.below
                    generalize q3.val = wr4 at hq3 ⊢
                    clear la3 lp3 lq3
                    go_wp2
                    go_roundw
                    case rel => exact ⟨k + 1, _, _, _, by go_num, rfl, rfl, rfl, by omega, HN1.out.1, HN1.out.2.1, by rw [HN1.out.2.2.1]; rfl, HN1.out.2.2.2, hbl.trans ((hq.mono hbls).trans ((hq2.mono (by omega)).trans (hq3.mono (by omega))))⟩
                    case measure => simp [intOf]; omega
                · have yb : (y5 != y6) = true := by rw [bne_iff_ne]; exact hyy
                  clear hgh hyy
                  go_wp2
                  refine wp_region_later (by kernel_rfl) (by kernel_rfl) ?_
                  repeat (go_big_quiet_step (fail))
                  refine wpQuiet_nil ?_
                  intro _ hw'
                  obtain ⟨q2, hw''⟩ := hw'
                  subst hw''
                  have fa3 := la2 q2
                  have fp3 := lp2 q2
                  have fq3 := lq2 q2
                  have hq2 := q2.below
                  clear la2 lp2 lq2
                  generalize q2.val = wr3 at fa3 fp3 fq3 hq2 ⊢
                  have hqs2 := hq2.size
                  have N := bind_next HGk.out HHk.out HEk.out HNk.out HY5.out HY6.out HSk.out (fun hc => HAB.out hc.2)
                  have HN1 := Lib.hid N
                  clear N
                  have la3 := Later.cell (w := wr3) (a := ⟨w4.heap.size, 0, none⟩) fa3 (by simp; omega)
                  have lp3 := Later.cell (w := wr3) (a := ⟨b5, o5 + k, none⟩) fp3 (by simp; omega)
                  have lq3 := Later.cell (w := wr3) (a := ⟨b6, o6 + k, none⟩) fq3 (by simp; omega)
                  clear fa3 fp3 fq3
                  cases E
                  all_goals
                    go_wp2
                    refine wp_region_later (by kernel_rfl) (by kernel_rfl) ?_
                    repeat (go_big_quiet_step (fail))
                    refine wpQuiet_nil ?_
                    intro _ hw'
                    obtain ⟨q3, hw''⟩ := hw'
                    subst hw''
                    have hq3 := q3.below
                    generalize q3.val = wr4 at hq3 ⊢
                    clear la3 lp3 lq3
                    go_wp2
                    go_roundw
                    case rel => exact ⟨k + 1, _, _, _, by go_num, rfl, rfl, rfl, by omega, HN1.out.1, HN1.out.2.1, by rw [HN1.out.2.2.1]; rfl, HN1.out.2.2.2, hbl.trans ((hq.mono hbls).trans ((hq2.mono (by omega)).trans (hq3.mono (by omega))))⟩
                    case measure => simp [intOf]; omega
              · have gb : (g != h) = true := by rw [bne_iff_ne]; exact hgh
                clear hgh
                go_wp2
                refine wp_region_later (by kernel_rfl) (by kernel_rfl) ?_
                repeat (go_big_quiet_step (fail))
                refine wpQuiet_nil ?_
                intro _ hw'
                obtain ⟨q2, hw''⟩ := hw'
                subst hw''
                have fa3 := la2 q2
                have fp3 := lp2 q2
                have fq3 := lq2 q2
                have hq2 := q2.below
                clear la2 lp2 lq2
                generalize q2.val = wr3 at fa3 fp3 fq3 hq2 ⊢
                have hqs2 := hq2.size
                have N := bind_next HGk.out HHk.out HEk.out HNk.out HY5.out HY6.out HSk.out (fun hc => HAB.out hc.2)
                have HN1 := Lib.hid N
                clear N
                have la3 := Later.cell (w := wr3) (a := ⟨w4.heap.size, 0, none⟩) fa3 (by simp; omega)
                have lp3 := Later.cell (w := wr3) (a := ⟨b5, o5 + k, none⟩) fp3 (by simp; omega)
                have lq3 := Later.cell (w := wr3) (a := ⟨b6, o6 + k, none⟩) fq3 (by simp; omega)
                clear fa3 fp3 fq3
                cases E
                all_goals
                  go_wp2
                  refine wp_region_later (by kernel_rfl) (by kernel_rfl) ?_
                  repeat (go_big_quiet_step (fail))
                  refine wpQuiet_nil ?_
                  intro _ hw'
                  obtain ⟨q3, hw''⟩ := hw'
                  subst hw''
                  have hq3 := q3.below
                  generalize q3.val = wr4 at hq3 ⊢
                  clear la3 lp3 lq3
                  go_wp2
                  go_roundw
                  case rel => exact ⟨k + 1, _, _, _, by go_num, rfl, rfl, rfl, by omega, HN1.out.1, HN1.out.2.1, by rw [HN1.out.2.2.1]; rfl, HN1.out.2.2.2, hbl.trans ((hq.mono hbls).trans ((hq2.mono (by omega)).trans (hq3.mono (by omega))))⟩
                  case measure => simp [intOf]; omega
          · skip
            obtain rfl : k = P.length := by omega
            have hEt : E = true := by rw [← HEk.out]; exact bind_back d x P p S P.length HNk.out (by have h1 := HGT.out; have h2 := HHT.out; rw [HPl.out] at h1 h2; rw [h1, h2])
            subst hEt
            clear fa fx7
            go_wp2
            go_ret
            exact ⟨rfl, hB7.trans (hbl.mono hB7.size)⟩
      · have hrn : (r != 0) = true := by rw [bne_iff_ne]; exact hr0
        go_wp2
        go_ret
        exact ⟨rfl, hB6⟩

end Dg
end Go.Proofs.Ytgjmhddekggilaa
