/- The reference's Components. -/
import Derived.Test.YtmdleoadodcljaaYC
namespace Go.Proofs.Ytmdleoadodcljaa
open Go.RowKit Sl Fr
namespace Gp
set_option linter.unusedVariables false

/-- What the second loop keeps; W: the world where the lists of reached nodes are done. -/
def RcompAt (n : Nat) (es : Dgr.Edges) (W : World) (q : Nat) (v i : Value) (wr : World) : Prop :=
  ∃ (k : Nat) (hs : List Value), i = .int .i64 k ∧ k ≤ n ∧ q = n - k ∧ ListsB wr (W.heap.size + 1) v (compTo n es k) hs ∧ CellsV wr (W.heap.size + 1) n (bF (inK es k)) ∧ Below W.heap.size W wr
/-- What the third loop keeps; V: the world where it began. -/
def RclsAt (n : Nat) (es : Dgr.Edges) (k : Nat) (W V : World) (q : Nat) (v i : Value) (wr : World) : Prop :=
  ∃ j : Nat, i = .int .i64 j ∧ k ≤ j ∧ j ≤ n ∧ q = n - j ∧ wr.ownsRow V.heap.size 3 1 v (clsTo es k j).length (nv (clsTo es k j)) ∧ AtD V (W.heap.size + 1) wr ∧
    CellsV wr (W.heap.size + 1) n (bF fun x => inK es k x || (clsTo es k j).contains x) ∧ Below W.heap.size W wr

set_option maxRecDepth 100000 in
set_option maxHeartbeats 6400000 in
theorem rcomp_any (n : Nat) (A : Option Addr) (es : Dgr.Edges) (c : Nat) (w : World) (hA : EdgesA w A es) (ok : Dgr.Ok n es) (hn : n ≤ 200) (hl : es.length ≤ 2000) :
    Calls Try.prog 22 #[.int .i64 n, .slice A es.length c] w (GiveR w (Dgr.compL n es)) := by
  obtain ⟨iR, hiR, hzR0, hzR1, hzR2⟩ := parts_of infoRow
  obtain ⟨iI, hiI, hzI0, hzI1, hzI2⟩ := parts_of infoInt
  have hmk := run_make_row' (P := Try.prog) 53 4 (.bool false) 1 Try.underlying53 infoBool rfl .i64 .i64 n (by omega) (by omega)
  have HO := Lib.hid ok
  have HA := Lib.hid hA
  clear ok hA
  have HS1 := Lib.hid (Lists.lit w)
  have HB1 := Lib.hid ((Below.refl _ w).alloc (Nat.le_refl _) (.cells #[] 26))
  go_enter Try.func22, Try.ntmps22
  go_wp2
  go_loopg [5, 6] n (fun q v i wr => ∃ (k : Nat) (hs : List Value), i = .int .i64 k ∧ k ≤ n ∧ q = n - k ∧ Lists wr w.heap.size v (rchTo n es k) hs ∧ Below w.heap.size w wr)
  case atStart => exact ⟨0, [], rfl, Nat.zero_le _, rfl, HS1.out, HB1.out⟩
  case round =>
    obtain ⟨k, hs, rfl, hk, rfl, hL, hbl⟩ := hrel
    clear HS1 HB1
    have HL := Lib.hid hL
    have hlen := rchTo_len n es k
    have hbs := hbl.size
    have hvo := row_own hL.own
    have hvlt := hL.own.lt
    clear hL
    by_cases hlt : k < n
    · have HSUC := Lib.hid (rchTo_succ n es k)
      have hcl : (Dgr.reachL n es k).length ≤ n := those_len n _
      have HRE := Lib.hid (rreach_any n A es c k wr (HA.out.keep hbl) HO.out hn hl hlt)
      clear hmk
      generalize Dgr.reachL n es k = l at *
      go_wp2_with (first
        | (go_at_call 19; refine HRE.out.mono ?_; rintro e w4 ⟨A4, c4, rfl, hc4, hF4, hb4⟩; have hbs4 := hb4.size; have HOW4 := Lib.hid (HL.out.keep hb4).own)
        | (at_builtin; refine wpList_append_lies _ rfl _ _ 44 rfl w.heap.size 26 iR (.slice none 0 0) 1 24 Try.underlying44 hiR hzR0 hzR1 hzR2 rfl (by decide) _ _ _ rfl (HOW4.out.alloc _) ⟨_, 0, none⟩ 1 1 [.slice A4 l.length c4] rfl rfl (cell_one_new _ _ _) (by simp [Value.oneCell']) (by decide) (by unfold maxLen; omega) (by omega) (by simp; omega) _ rfl ?_; intro g' cap' w6 hown6 hgrow6 hor6 hlt6))
      have HL4 := Lib.hid (HL.out.keep hb4)
      have HX4 := Lib.hid (hF4.apart (X := u5.ownBlock) (fun g hg => (hvlt g hg).2) (b0 := w.heap.size) (by omega))
      have hb5 := hbl.trans (hb4.mono hbs)
      have hbs5 := hb5.size
      clear hF4
      go_roundg (n - (k + 1))
      case measure => omega
      case rel =>
        have hbA := (Below.refl _ w4).alloc (Nat.le_refl _) (.cells #[.slice A4 l.length c4] 26)
        have hL6 := (HL4.out.keep hbA).append hc4 (HX4.out.keep hbA) hown6 hgrow6 (hor6.imp id (fun h => by omega))
        refine ⟨k + 1, hs ++ [.slice A4 l.length c4], by go_num, by omega, rfl, ?_, (hb5.alloc hbs5 _).grown hgrow6 (by simp; omega) (fun g' hg' => hvo g' hg')⟩
        rw [HSUC.out]
        rw [hlen] at hL6
        exact hL6
    · obtain rfl : k = n := by omega
      obtain ⟨W, hW⟩ : ∃ W, W = wr := ⟨_, rfl⟩
      subst hW
      obtain ⟨A2, c2, e2, hc2, hR2⟩ := HL.out.rows
      rw [rchTo_len] at e2 hc2
      subst e2
      have HR2 := Lib.hid hR2
      have HS2 : Hid (RcompAt k es W k (.slice (some ⟨W.heap.size, 0, none⟩) 0 0) (.int .i64 ((0 : Nat) : Int)) ((W.alloc (.cells #[] 26)).alloc (.cells (madeCells #[.bool false] k) 4))) := Lib.hid
        ⟨0, [], rfl, Nat.zero_le _, rfl, ListsB.start W _, (by have := CellsV.made (W.alloc (.cells #[] 26)) (.bool false) k 4; rw [World.size_alloc] at this; exact this.congr fun x _ => by rw [bF, show inK es 0 x = false by rw [Bool.eq_false_iff, ne_eq, inK_iff]; rintro ⟨u, hu, _⟩; omega]),
          ((Below.refl _ _).alloc (Nat.le_refl _) _).alloc (by simp) _⟩
      clear HL hR2 hvo hvlt hlen hc2
      go_wp2
      go_loopg [7, 9] k (fun q v i wr => RcompAt k es W q v i wr)
      case atStart => exact HS2.out
      case round =>
        obtain ⟨m, hs2, rfl, hm, rfl, hL, hC, hbq⟩ := hrel
        clear HS2 hmk
        have HL := Lib.hid hL
        have HC := Lib.hid hC
        have hDlt := hC.lt
        have hbs2 := hbq.size
        have hlen2 := compTo_len k es m
        have hvo := row_own hL.own
        have hvlt := hL.lt
        clear hL hC
        by_cases hltm : m < k
        · have hck : wr.cell? ⟨W.heap.size + 1, m, none⟩ = some (.bool (inK es m m)) := HC.out.cell m hltm
          cases hmm : inK es m m with
          | true =>
            rw [hmm] at hck
            have HM := Lib.hid hmm
            clear hmm
            go_wp2
            go_roundg (k - (m + 1))
            case measure => omega
            case rel => exact ⟨m + 1, hs2, by go_num, by omega, rfl, by rw [compTo_no HM.out]; exact HL.out, HC.out.congr fun x _ => by rw [bF, bF, inK_skip HM.out], hbq⟩
          | false =>
            rw [hmm] at hck
            have HM := Lib.hid hmm
            have hcls0 := clsTo_start (es := es) (v := m) (lead_iff.2 hmm)
            obtain ⟨V, hV⟩ : ∃ V, V = wr := ⟨_, rfl⟩
            subst hV
            have HS3 : Hid (RclsAt k es m W V (k - m) (.slice (some ⟨V.heap.size, 0, none⟩) 0 0) (.int .i64 (m : Int)) (V.alloc (.cells #[] 3))) := Lib.hid
              ⟨m, rfl, Nat.le_refl _, by omega, rfl, by
                rw [hcls0]
                exact World.ownsRow_lit (e := 3) (size := 1) (base := V.heap.size) V #[] 0 (Nat.le_refl _) (by unfold maxLen; omega) rfl,
              (AtD.refl _ _).keep ((Below.refl _ _).alloc (Nat.le_refl _) _), by
                rw [hcls0]
                exact (HC.out.keep ((Below.refl _ _).alloc (Nat.le_refl _) _)).congr fun x _ => by simp, hbq.alloc hbs2 _⟩
            clear hmm hcls0 HC
            go_wp2
            clear hck
            go_loopg [10, 11] (k - m) (fun q v i wr => RclsAt k es m W V q v i wr)
            case atStart => exact HS3.out
            case round =>
              obtain ⟨j, rfl, hmj, hj, rfl, hrow, hat, hC, hbr⟩ := hrel
              clear HS3
              have HROW := Lib.hid hrow
              have HAT := Lib.hid hat
              have HC := Lib.hid hC
              have hats := hat.size
              have hclen := clsTo_len es m j
              have hCD := hC.lt
              have hrs := hbr.size
              have hco := row_own hrow
              clear hrow hat hC
              by_cases hltj : j < k
              · obtain ⟨b, o, hbo⟩ := (HR2.out.keep hbr).open
                obtain ⟨rfl, _, hbb, hce⟩ := hbo (by intro h; have := rchTo_len k es k; rw [h] at this; simp at this; omega)
                obtain ⟨A5, c5, h5, hc5, hr5⟩ := hce m _ (rchTo_get hltm)
                obtain ⟨A6, c6, h6, hc6, hr6⟩ := hce j _ (rchTo_get hltj)
                have hl5 : (Dgr.reachL k es m).length ≤ k := those_len k _
                have hl6 : (Dgr.reachL k es j).length ≤ k := those_len k _
                have hi5 := in_any A5 (Dgr.reachL k es m) c5 j 0 wr (hr5.mono (Nat.zero_le _)) (by omega) (by omega)
                have HI6 := Lib.hid (fun X (hX : Below wr.heap.size wr X) => in_any A6 (Dgr.reachL k es j) c6 m 0 X ((hr6.mono (Nat.zero_le _)).keep hX) (by omega) (by omega))
                have HH6 := Lib.hid (fun X (hX : Below wr.heap.size wr X) => (hX.cell (p := ⟨b, o + j, none⟩) hbb).trans h6)
                have HBI := Lib.hid (both_iff (es := es) hltm hltj)
                clear hbo hce hr5 hr6
                generalize (Dgr.reachL k es m).length = n5 at *
                generalize (Dgr.reachL k es j).length = n6 at *
                have h5' := h5
                clear h5 h6
                cases ht5 : (Dgr.reachL k es m).contains j with
                | false =>
                  rw [ht5] at hi5
                  have HNO : Hid (¬ Dgr.Both es m j) := Lib.hid (fun h => by have := (HBI.out.1 h).1; rw [ht5] at this; cases this)
                  clear ht5 HBI HI6 HH6
                  go_wp2_with (go_at_call 37; refine hi5.mono ?_; rintro e w7 ⟨rfl, hb7⟩)
                  go_roundg (k - (j + 1))
                  case measure => omega
                  case rel =>
                    refine ⟨j + 1, by go_num, by omega, by omega, rfl, ?_, HAT.out.keep (hb7.mono hats), ?_, hbr.trans (hb7.mono hrs)⟩
                    · rw [clsTo_no HNO.out]
                      exact row_keep HROW.out hb7
                    · rw [clsTo_no HNO.out]
                      exact HC.out.keep hb7
                | true =>
                  rw [ht5] at hi5
                  cases ht6 : (Dgr.reachL k es j).contains m with
                  | false =>
                    rw [ht6] at HI6
                    have HNO : Hid (¬ Dgr.Both es m j) := Lib.hid (fun h => by have := (HBI.out.1 h).2; rw [ht6] at this; cases this)
                    clear ht5 ht6 HBI
                    go_wp2_with (first | (go_at_call 37; with_reducible refine hi5.mono ?_; rintro e w7 ⟨rfl, hb7⟩; have h6' := HH6.out w7 hb7) | (go_at_call 37; with_reducible refine (HI6.out w7 hb7).mono ?_; rintro e w8 ⟨rfl, hb8⟩))
                    have hb78 := hb7.trans (hb8.mono hb7.size)
                    go_roundg (k - (j + 1))
                    case measure => omega
                    case rel =>
                      refine ⟨j + 1, by go_num, by omega, by omega, rfl, ?_, HAT.out.keep (hb78.mono hats), ?_, hbr.trans (hb78.mono hrs)⟩
                      · rw [clsTo_no HNO.out]
                        exact row_keep HROW.out hb78
                      · rw [clsTo_no HNO.out]
                        exact HC.out.keep hb78
                  | true =>
                    rw [ht6] at HI6
                    have HYES : Hid (Dgr.Both es m j) := Lib.hid (HBI.out.2 ⟨ht5, ht6⟩)
                    clear ht5 ht6 HBI
                    go_upto_region 17 with (first | (go_at_call 37; with_reducible refine hi5.mono ?_; rintro e w7 ⟨rfl, hb7⟩; have h6' := HH6.out w7 hb7) | (go_at_call 37; with_reducible refine (HI6.out w7 hb7).mono ?_; rintro e w8 ⟨rfl, hb8⟩))
                    have hb78 := hb7.trans (hb8.mono hb7.size)
                    clear h6' h5'
                    have HROW8 := Lib.hid (row_keep HROW.out hb78)
                    have HAT8 := Lib.hid (HAT.out.keep (hb78.mono hats))
                    have HC8 := Lib.hid (HC.out.keep hb78)
                    have hb9 := hbr.trans (hb78.mono hrs)
                    have hs8 := hb78.size
                    have hV8 : V.heap.size ≤ w8.heap.size := by omega
                    have HSY := Lib.hid (clsTo_yes HYES.out)
                    go_upto_region 18 with (at_builtin; refine wpList_append_lies _ rfl _ _ 26 rfl V.heap.size 3 iI (.int .i64 0) 1 8 Try.underlying26 hiI hzI0 hzI1 hzI2 rfl (by decide) _ _ _ rfl (HROW8.out.alloc _) ⟨_, 0, none⟩ 1 1 [.int .i64 (j : Int)] rfl rfl (cell_one_new _ _ _) (by simp [Value.oneCell']) (by decide) (by unfold maxLen; omega) (by omega) (by simp; omega) _ rfl ?_; intro g' cap' w10 hown6 hgrow6 hor6 hlt6)
                    have hb10 : Below V.heap.size w8 w10 := ((Below.refl V.heap.size w8).alloc hV8 _).grown hgrow6 (by simp; omega) (fun g hg => hco g hg)
                    have HAT10 := Lib.hid (HAT8.out.keep hb10)
                    have hC10 := (HC8.out.keep ((Below.refl _ w8).alloc (Nat.le_refl _) (.cells #[.int .i64 (j : Int)] 3))).grown hgrow6 (fun e => by have := hco _ e.symm; omega)
                    have hb11 : Below W.heap.size W w10 := (hb9.alloc (by omega) _).grown hgrow6 (by simp; omega) (fun g hg => by have := hco g hg; omega)
                    have HC10 := Lib.hid hC10
                    have HOWN10 := Lib.hid hown6
                    have hcj : w10.cell? ⟨W.heap.size + 1, j, none⟩ = some (.bool (inK es m j || (clsTo es m j).contains j)) := hC10.cell j hltj
                    have hmj := hC10.mark j hltj
                    generalize (inK es m j || (clsTo es m j).contains j) = y at hcj
                    clear hC10 hown6
                    go_wp2
                    go_roundg (k - (j + 1))
                    case measure => omega
                    case rel =>
                      refine ⟨j + 1, by go_num, by omega, by omega, rfl, ?_, HAT10.out.set j _, HC10.out.set hltj ?_ (fun y hy => ?_), hb11.setCell (p := ⟨W.heap.size + 1, j, none⟩) (Nat.le_succ _) _⟩
                      · rw [HSY.out, nv_append, List.length_append]
                        exact ownsRow_setCell_below HOWN10.out (a := ⟨W.heap.size + 1, j, none⟩) hDlt _
                      · rw [bF, HSY.out]
                        simp
                      · rw [bF, bF, HSY.out]
                        simp [hy]
              · have hjk : j = k := by omega
                have HLB := Lib.hid (HL.out.at HAT.out)
                have HT1 := Lib.hid (compTo_yes (n := k) HM.out)
                have HT2 : Hid (∀ x, x < k → inK es (m + 1) x = (inK es m x || (Dgr.classL k es m).contains x)) := Lib.hid fun x hx => inK_take hx
                have hcl9 : (Dgr.classL k es m).length ≤ k := those_len k _
                have hrow := HROW.out
                have hC9 := HC.out
                rw [hjk, clsTo_all] at hrow
                rw [hjk, clsTo_all] at hC9
                obtain ⟨A9, c9, e9, hc9, _, hF9⟩ := Row.own hrow
                generalize Dgr.classL k es m = l at *
                subst e9
                have HC9 := Lib.hid hC9
                have HX9 := Lib.hid (hF9.apart (X := u7.ownBlock) (fun g hg => (hvlt g hg).2) (b0 := W.heap.size + 1 + 1) (by omega))
                have hj9 : ¬ (j : Int) < (k : Int) := by omega
                clear hF9 hrow hC9 HROW HC HAT HL hclen
                go_wp2_with (at_builtin; refine wpList_append_lies _ rfl _ _ 44 rfl (W.heap.size + 1 - 1) 26 iR (.slice none 0 0) 1 24 Try.underlying44 hiR hzR0 hzR1 hzR2 rfl (by decide) _ _ _ rfl (HLB.out.own.alloc _) ⟨_, 0, none⟩ 1 1 [.slice A9 l.length c9] rfl rfl (cell_one_new _ _ _) (by simp [Value.oneCell']) (by decide) (by unfold maxLen; omega) (by omega) (by simp; omega) _ rfl ?_; intro g' cap' w12 hown6 hgrow6 hor6 hlt6)
                go_roundg (k - (m + 1))
                case measure => omega
                case rel =>
                  have hbA := (Below.refl _ wr).alloc (Nat.le_refl _) (.cells #[.slice A9 l.length c9] 26)
                  have hL6 := (HLB.out.keep hbA).append (by simp; omega) hc9 (HX9.out.keep hbA) hown6 hgrow6 (hor6.imp id (fun h => by omega))
                  refine ⟨m + 1, hs2 ++ [.slice A9 l.length c9], by go_num, by omega, rfl, ?_, ?_, (hbr.alloc hrs _).grown hgrow6 (by simp; omega) (fun g' hg' => by have := hvo g' hg'; omega)⟩
                  · rw [HT1.out]
                    exact hL6
                  · refine ((HC9.out.keep hbA).grown hgrow6 (fun e => HLB.out.ne e.symm)).congr fun x hx => ?_
                    rw [bF, bF, HT2.out x hx]
        · have hmk2 : m = k := by omega
          obtain ⟨A9, c9, e9, h1, h2⟩ := HL.out.give
          rw [hmk2, compTo_all] at e9 h1 h2
          subst e9
          have hm9 : ¬ (m : Int) < (k : Int) := by omega
          go_wp2
          go_ret
          exact ⟨A9, c9, rfl, h1, h2.mono (by have := hbl.size; omega), hbl.trans (hbq.mono hbl.size)⟩

end Gp
end Go.Proofs.Ytmdleoadodcljaa
