/- expr. -/
import Derived.Test.YtggeepimihhpjaaGreatDoorT9
namespace Go.Proofs.YtggeepimihhpjaaGreatDoor
open Go.RowKit Go.Shelf Go.Lib Sl Fr Lx
namespace Sy
set_option linter.unusedVariables false
set_option linter.unusedSimpArgs false

def UsesA (op : Int) : Prop := op = 15 ∨ op = 2 ∨ op = 10 ∨ op = 12 ∨ op = 13 ∨ signX op ≠ none
theorem exprX_mk (op : Int) (nm : By) (k w : NumT) (args : List ExprT) : exprX (.mk op nm k w args) = formX op nm k w (exprX (args[0]?.getD expr0)) (exprX (args[1]?.getD expr0)) (exprX (args[2]?.getD expr0)) := by
  rw [exprX.eq_1, argsX_get, argsX_get, argsX_get]

set_option maxRecDepth 100000 in
set_option maxHeartbeats 8000000 in
theorem expr_pr (op : Int) (nm : By) (k ww : NumT) (args : List ExprT) (hP : UsesA op → PrE (args[0]?.getD expr0) ∧ PrE (args[1]?.getD expr0) ∧ PrE (args[2]?.getD expr0)) : PrE (.mk op nm k ww args) := by
  intro hok base qb tb t w A c h her
  rw [exprX_mk]
  unfold OkE at hok
  obtain ⟨hk, hw, hoa⟩ := hok
  have ho0 : OkE (args[0]?.getD expr0) := hoa.get
  have ho1 : OkE (args[1]?.getD expr0) := hoa.get
  have ho2 : OkE (args[2]?.getD expr0) := hoa.get
  obtain ⟨A', c', he', hc, hin⟩ := her.out
  obtain ⟨rfl, rfl⟩ : A = A' ∧ c = c' := by
    have : (.slice A args.length c : Value) = .slice A' args.length c' := by
      have := congrArg (fun l => l[6]?) he'
      simpa [eC, ExprT.args] using this
    injection this with h1 h2 h3
    exact ⟨h1, h3⟩
  replace hin : args ≠ [] → ∃ b o, A = some ⟨b, o, none⟩ ∧ b < base ∧ b < w.heap.size ∧ AR w (fun b => b < base) b o args := hin
  obtain ⟨A0, c0, A1, c1, A2, c2, ⟨cs, hcl, hcs, hc1, hcz⟩, e0, e1, e2⟩ := args3 (A := A) hin
  show Calls Tryz.prog 155 #[.pointer (some ⟨qb, 0, none⟩), .agg #[.int .i64 op, .string ⟨nm.toArray⟩, .int .i64 k.n, .string ⟨k.p.toArray⟩, .int .i64 ww.n, .string ⟨ww.p.toArray⟩, .slice A args.length c]] w _
  clear her he' hin hc hoa
  generalize args[0]?.getD expr0 = a0 at *
  generalize args[1]?.getD expr0 = a1 at *
  generalize args[2]?.getD expr0 = a2 at *
  obtain ⟨nA, hnA⟩ : ∃ n, n = args.length := ⟨_, rfl⟩
  rw [← hnA] at hcl ⊢
  clear hnA
  obtain ⟨mO, bA⟩ := startO w #[.int .i64 op, .string ⟨nm.toArray⟩, .int .i64 k.n, .string ⟨k.p.toArray⟩, .int .i64 ww.n, .string ⟨ww.p.toArray⟩, .slice A nA c] 63
  have hX := h.below bA
  have hgX : GP w _ qb tb := GP.of_below bA
  have hinX : cs ≠ [] → ∃ ad, A = some ad ∧ ad.block < w.heap.size ∧ ∀ j v, cs[j]? = some v → w.cell? (ad.add j) = some v := fun hne => by
    obtain ⟨ad, h1, h2⟩ := hcs hne
    refine ⟨ad, h1, ?_, h2⟩
    obtain ⟨v, hv⟩ : ∃ v, cs[0]? = some v := ⟨cs[0]'(List.length_pos_iff.2 hne), List.getElem?_eq_getElem _⟩
    have := h2 0 v hv
    rcases Nat.lt_or_ge ad.block w.heap.size with q | q
    · exact q
    · exfalso
      simp [World.cell?, Addr.add, Array.getElem?_eq_none q] at this
  go_enter Tryz.func155, Tryz.ntmps155
  go_upto_region 1 with fail
  have gA := bA
  generalize hXe : w.alloc (.cells #[.int .i64 op, .string ⟨nm.toArray⟩, .int .i64 k.n, .string ⟨k.p.toArray⟩, .int .i64 ww.n, .string ⟨ww.p.toArray⟩, .slice A nA c] 63) = X at *
  clear hXe
  have HX := Lib.hid hX
  have HGX := Lib.hid hgX
  have HMO := Lib.hid mO
  have HBA := Lib.hid gA
  have hsX := gA.size
  clear hX hgX mO bA gA
  go_upto_region 2 with fail
  obtain ⟨mL, bL⟩ := startO X #[.int .i64 0, .string ⟨#[]⟩, .int .i64 0, .string ⟨#[]⟩, .int .i64 0, .string ⟨#[]⟩, .slice none 0 0, .int .i64 0, .string ⟨#[]⟩, .int .i64 0, .string ⟨#[]⟩, .int .i64 0, .string ⟨#[]⟩, .slice none 0 0, .int .i64 0, .string ⟨#[]⟩, .int .i64 0, .string ⟨#[]⟩, .int .i64 0, .string ⟨#[]⟩, .slice none 0 0] 221
  generalize hYe : X.alloc (.cells #[.int .i64 0, .string ⟨#[]⟩, .int .i64 0, .string ⟨#[]⟩, .int .i64 0, .string ⟨#[]⟩, .slice none 0 0, .int .i64 0, .string ⟨#[]⟩, .int .i64 0, .string ⟨#[]⟩, .int .i64 0, .string ⟨#[]⟩, .slice none 0 0, .int .i64 0, .string ⟨#[]⟩, .int .i64 0, .string ⟨#[]⟩, .int .i64 0, .string ⟨#[]⟩, .slice none 0 0] 221) = Y at *
  clear hYe
  have hltO := HMO.out.lt
  have mOY := HMO.out.keep bL
  have hltY := mOY.lt
  have cY := mOY.cell (i := 6) rfl
  have z6 : ∀ wz, Below Y.heap.size Y wz → wz.cell? ⟨w.heap.size, 6, none⟩ = some (.slice A nA c) := fun wz hz => (hz.cell (p := ⟨w.heap.size, 6, none⟩) hltY).trans cY
  refine wp_region_flow 3 [.det (.slice ((some ⟨X.heap.size, 0, none⟩)) 3 3), .det (.pointer (some ⟨w.heap.size, 6, none⟩)), .det (.slice A nA c)] (by kernel_rfl) (by kernel_rfl) rfl ?_
  simp only [List.take_succ_cons, List.take_zero, List.drop_succ_cons, List.drop_zero]
  refine flowL_det (fun wz hz hd => stepF_reads (by rfl) ?_) ?_
  · go_simp; try rfl
  simp only [Act.put, List.setIfInBounds_toArray, List.set_cons_zero, List.set_cons_succ]
  refine flowL_det (fun wz hz hd => stepF_reads (by rfl) ?_) ?_
  · go_simp; try rfl
  simp only [Act.put, List.setIfInBounds_toArray, List.set_cons_zero, List.set_cons_succ]
  refine flowL_det (fun wz hz hd => stepF_reads (by rfl) ?_) ?_
  · have q := z6 wz hz; go_simp; try rfl
  simp only [Act.put, List.setIfInBounds_toArray, List.set_cons_zero, List.set_cons_succ]
  intro W3 pp hb3 hF hap
  clear hF hap
  have HL := Lib.hid (mL.keep hb3)
  have HO3 := Lib.hid (mOY.keep hb3)
  have HB3 := Lib.hid (bL.trans (hb3.mono bL.size))
  have HBW := Lib.hid (HBA.out.trans (HB3.out.mono HBA.out.size))
  have HSRC : Hid (cs ≠ [] → ∃ ad, A = some ad ∧ ∀ j v, cs[j]? = some v → W3.cell? (ad.add j) = some v) := Lib.hid (fun hne => by
    obtain ⟨ad, h1, h2, h3⟩ := hinX hne
    refine ⟨ad, h1, fun j v hj => ?_⟩
    rw [← h3 j v hj]
    refine HBW.out.cell ?_
    unfold Addr.add
    split <;> exact h2)
  have HFIT : Hid (0 + cs.length ≤ (#[.int .i64 0, .string ⟨#[]⟩, .int .i64 0, .string ⟨#[]⟩, .int .i64 0, .string ⟨#[]⟩, .slice none 0 0, .int .i64 0, .string ⟨#[]⟩, .int .i64 0, .string ⟨#[]⟩, .int .i64 0, .string ⟨#[]⟩, .slice none 0 0, .int .i64 0, .string ⟨#[]⟩, .int .i64 0, .string ⟨#[]⟩, .int .i64 0, .string ⟨#[]⟩, .slice none 0 0] : Array Value).size) := Lib.hid (by
    show 0 + cs.length ≤ 21
    have := Nat.min_le_right nA 3
    have e : Nat.min nA 3 = min nA 3 := rfl
    omega)
  have HCL := Lib.hid hcl
  have HC1 := Lib.hid hc1
  have HCZ := Lib.hid hcz
  have HCS := Lib.hid hcs
  clear z6 cY mOY mL bL hinX hcl hc1 hcz hcs
  go_upto_region 3 with (refine wpList_copy_rows rfl _ _ 61 61 rfl 63 7 Tryz.underlying61 (by kernel_rfl) X.heap.size 0 3 3 A nA c rfl rfl #[.int .i64 0, .string ⟨#[]⟩, .int .i64 0, .string ⟨#[]⟩, .int .i64 0, .string ⟨#[]⟩, .slice none 0 0, .int .i64 0, .string ⟨#[]⟩, .int .i64 0, .string ⟨#[]⟩, .int .i64 0, .string ⟨#[]⟩, .slice none 0 0, .int .i64 0, .string ⟨#[]⟩, .int .i64 0, .string ⟨#[]⟩, .int .i64 0, .string ⟨#[]⟩, .slice none 0 0] 221 HL.out.h cs HCL.out HSRC.out HFIT.out HC1.out ?_; intro Z mZ gZ)
  have hne : some w.heap.size ≠ some X.heap.size := fun e => by injection e; omega
  have gXZ : X.grownBy Z none := grown_row (grown_below HB3.out) gZ (fun g e => by injection e; omega)
  have HZ := Lib.hid (HX.out.keep gXZ)
  have HGZ := Lib.hid (HGX.out.trans0 (GP.of_none gXZ (qb := qb) (tb := tb)))
  have mO := HO3.out.grown gZ hne
  have mC : BoxO Z X.heap.size #[.int .i64 a0.op, .string ⟨a0.nm.toArray⟩, .int .i64 a0.k.n, .string ⟨a0.k.p.toArray⟩, .int .i64 a0.w.n, .string ⟨a0.w.p.toArray⟩, .slice A0 a0.args.length c0, .int .i64 a1.op, .string ⟨a1.nm.toArray⟩, .int .i64 a1.k.n, .string ⟨a1.k.p.toArray⟩, .int .i64 a1.w.n, .string ⟨a1.w.p.toArray⟩, .slice A1 a1.args.length c1, .int .i64 a2.op, .string ⟨a2.nm.toArray⟩, .int .i64 a2.k.n, .string ⟨a2.k.p.toArray⟩, .int .i64 a2.w.n, .string ⟨a2.w.p.toArray⟩, .slice A2 a2.args.length c2] 221 := by
    have e : (#[.int .i64 0, .string ⟨#[]⟩, .int .i64 0, .string ⟨#[]⟩, .int .i64 0, .string ⟨#[]⟩, .slice none 0 0, .int .i64 0, .string ⟨#[]⟩, .int .i64 0, .string ⟨#[]⟩, .int .i64 0, .string ⟨#[]⟩, .slice none 0 0, .int .i64 0, .string ⟨#[]⟩, .int .i64 0, .string ⟨#[]⟩, .int .i64 0, .string ⟨#[]⟩, .slice none 0 0] : Array Value).toList.take 0 ++ cs ++ (#[.int .i64 0, .string ⟨#[]⟩, .int .i64 0, .string ⟨#[]⟩, .int .i64 0, .string ⟨#[]⟩, .slice none 0 0, .int .i64 0, .string ⟨#[]⟩, .int .i64 0, .string ⟨#[]⟩, .int .i64 0, .string ⟨#[]⟩, .slice none 0 0, .int .i64 0, .string ⟨#[]⟩, .int .i64 0, .string ⟨#[]⟩, .int .i64 0, .string ⟨#[]⟩, .slice none 0 0] : Array Value).toList.drop (0 + cs.length) = (#[.int .i64 a0.op, .string ⟨a0.nm.toArray⟩, .int .i64 a0.k.n, .string ⟨a0.k.p.toArray⟩, .int .i64 a0.w.n, .string ⟨a0.w.p.toArray⟩, .slice A0 a0.args.length c0, .int .i64 a1.op, .string ⟨a1.nm.toArray⟩, .int .i64 a1.k.n, .string ⟨a1.k.p.toArray⟩, .int .i64 a1.w.n, .string ⟨a1.w.p.toArray⟩, .slice A1 a1.args.length c1, .int .i64 a2.op, .string ⟨a2.nm.toArray⟩, .int .i64 a2.k.n, .string ⟨a2.k.p.toArray⟩, .int .i64 a2.w.n, .string ⟨a2.w.p.toArray⟩, .slice A2 a2.args.length c2] : Array Value).toList := by
      rw [Nat.zero_add]
      exact HCZ.out
    have q := mZ
    rw [e] at q
    exact q
  have gwZ : w.grownBy Z none := (grown_below HBA.out).trans gXZ
  have HE0 := Lib.hid (ER.grown gwZ (fun g e => by cases e) _ _ e0)
  have HE1 := Lib.hid (ER.grown gwZ (fun g e => by cases e) _ _ e1)
  have HE2 := Lib.hid (ER.grown gwZ (fun g e => by cases e) _ _ e2)
  have cO0 := mO.cell (i := 0) rfl
  have cO1 := mO.cell (i := 1) rfl
  have cO2 := mO.cell (i := 2) rfl
  have cO3 := mO.cell (i := 3) rfl
  have cO4 := mO.cell (i := 4) rfl
  have cO5 := mO.cell (i := 5) rfl
  have cO6 := mO.cell (i := 6) rfl
  have cL0 := mC.cell (i := 0) rfl
  have cL1 := mC.cell (i := 1) rfl
  have cL2 := mC.cell (i := 2) rfl
  have cL3 := mC.cell (i := 3) rfl
  have cL4 := mC.cell (i := 4) rfl
  have cL5 := mC.cell (i := 5) rfl
  have cL6 := mC.cell (i := 6) rfl
  have cL7 := mC.cell (i := 7) rfl
  have cL8 := mC.cell (i := 8) rfl
  have cL9 := mC.cell (i := 9) rfl
  have cL10 := mC.cell (i := 10) rfl
  have cL11 := mC.cell (i := 11) rfl
  have cL12 := mC.cell (i := 12) rfl
  have cL13 := mC.cell (i := 13) rfl
  have cL14 := mC.cell (i := 14) rfl
  have cL15 := mC.cell (i := 15) rfl
  have cL16 := mC.cell (i := 16) rfl
  have cL17 := mC.cell (i := 17) rfl
  have cL18 := mC.cell (i := 18) rfl
  have cL19 := mC.cell (i := 19) rfl
  have cL20 := mC.cell (i := 20) rfl
  have HMC := Lib.hid mC
  have HMZ := Lib.hid mO
  have HGW := Lib.hid gwZ
  clear mZ gZ gXZ gwZ e0 e1 e2 mC mO HL HO3 HB3 HBW HSRC HFIT HCL HC1 HCZ HCS hb3 pp HX HGX HMO HBA
  by_cases hk1 : op = 1
  · subst hk1
    have HF : Hid (formX 1 nm k ww (exprX a0) (exprX a1) (exprX a2) = seqO [some [91], some (numX k), some [32, 58, 32], some (numX ww), some [93]]) := Lib.hid rfl
    cases hww : wr (seqO [some [91], some (numX k), some [32, 58, 32], some (numX ww), some [93]]) t with
    | none =>
      have HC := Lib.hid (pg_no (write_new HZ.out [.s [91], .n k, .s [32, 58, 32], .n ww, .s [93]] #[.iface 9 (.string ⟨#[91]⟩), .iface 60 (.agg #[.int .i64 k.n, .string ⟨k.p.toArray⟩]), .iface 9 (.string ⟨#[32, 58, 32]⟩), .iface 60 (.agg #[.int .i64 ww.n, .string ⟨ww.p.toArray⟩]), .iface 9 (.string ⟨#[93]⟩)] ⟨rfl, ⟨hk, rfl⟩, rfl, ⟨hw, rfl⟩, rfl, trivial⟩ (by intro p hp; simp only [List.mem_cons, List.not_mem_nil, or_false] at hp; rcases hp with rfl | rfl | rfl | rfl | rfl <;> first | exact trivial | exact num_pr _ | exact hA.1 | exact hA.2.1 | exact hA.2.2) 5 rfl (by omega) 20) hww)
      go_wp2_with (go_at_call 109; with_reducible refine HC.out.mono ?_; rintro e w9 ⟨rfl, hg9⟩)
      exact ⟨rfl, PG.of_no (by rw [HF.out]; exact hww) ((HGZ.out).trans0 hg9)⟩
    | some t2 =>
      have HC := Lib.hid (pg_ok (write_new HZ.out [.s [91], .n k, .s [32, 58, 32], .n ww, .s [93]] #[.iface 9 (.string ⟨#[91]⟩), .iface 60 (.agg #[.int .i64 k.n, .string ⟨k.p.toArray⟩]), .iface 9 (.string ⟨#[32, 58, 32]⟩), .iface 60 (.agg #[.int .i64 ww.n, .string ⟨ww.p.toArray⟩]), .iface 9 (.string ⟨#[93]⟩)] ⟨rfl, ⟨hk, rfl⟩, rfl, ⟨hw, rfl⟩, rfl, trivial⟩ (by intro p hp; simp only [List.mem_cons, List.not_mem_nil, or_false] at hp; rcases hp with rfl | rfl | rfl | rfl | rfl <;> first | exact trivial | exact num_pr _ | exact hA.1 | exact hA.2.1 | exact hA.2.2) 5 rfl (by omega) 20) hww)
      go_wp2_with (go_at_call 109; with_reducible refine HC.out.mono ?_; rintro e w9 ⟨rfl, tb9, hp9, ht9, hg9⟩)
      go_end0
      exact PG.of_ok (by rw [HF.out]; exact hww) ((HGZ.out).trans0 hg9) hp9 (ht9.imp id fun e g eg => Nat.le_trans (HGZ.out).size (e g eg))
  by_cases hk14 : op = 14
  · subst hk14
    have HF : Hid (formX 14 nm k ww (exprX a0) (exprX a1) (exprX a2) = seqO [some nm]) := Lib.hid rfl
    cases hww : wr (seqO [some nm]) t with
    | none =>
      have HC := Lib.hid (pg_no (write_new HZ.out [.s nm] #[.iface 9 (.string ⟨nm.toArray⟩)] ⟨rfl, trivial⟩ (by intro p hp; simp only [List.mem_cons, List.not_mem_nil, or_false] at hp; rcases hp with rfl <;> first | exact trivial | exact num_pr _ | exact hA.1 | exact hA.2.1 | exact hA.2.2) 1 rfl (by omega) 20) hww)
      go_wp2_with (go_at_call 109; with_reducible refine HC.out.mono ?_; rintro e w9 ⟨rfl, hg9⟩)
      exact ⟨rfl, PG.of_no (by rw [HF.out]; exact hww) ((HGZ.out).trans0 hg9)⟩
    | some t2 =>
      have HC := Lib.hid (pg_ok (write_new HZ.out [.s nm] #[.iface 9 (.string ⟨nm.toArray⟩)] ⟨rfl, trivial⟩ (by intro p hp; simp only [List.mem_cons, List.not_mem_nil, or_false] at hp; rcases hp with rfl <;> first | exact trivial | exact num_pr _ | exact hA.1 | exact hA.2.1 | exact hA.2.2) 1 rfl (by omega) 20) hww)
      go_wp2_with (go_at_call 109; with_reducible refine HC.out.mono ?_; rintro e w9 ⟨rfl, tb9, hp9, ht9, hg9⟩)
      go_end0
      exact PG.of_ok (by rw [HF.out]; exact hww) ((HGZ.out).trans0 hg9) hp9 (ht9.imp id fun e g eg => Nat.le_trans (HGZ.out).size (e g eg))
  by_cases hk15 : op = 15
  · subst hk15
    have HF : Hid (formX 15 nm k ww (exprX a0) (exprX a1) (exprX a2) = seqO [some nm, some [91], exprX a0, some [93]]) := Lib.hid rfl
    have hA := hP (by unfold UsesA; simp)
    cases hww : wr (seqO [some nm, some [91], exprX a0, some [93]]) t with
    | none =>
      have HC := Lib.hid (pg_no (write_new HZ.out [.s nm, .s [91], .e a0, .s [93]] #[.iface 9 (.string ⟨nm.toArray⟩), .iface 9 (.string ⟨#[91]⟩), .iface 63 (.agg #[.int .i64 a0.op, .string ⟨a0.nm.toArray⟩, .int .i64 a0.k.n, .string ⟨a0.k.p.toArray⟩, .int .i64 a0.w.n, .string ⟨a0.w.p.toArray⟩, .slice A0 a0.args.length c0]), .iface 9 (.string ⟨#[93]⟩)] ⟨rfl, rfl, ⟨ho0, A0, c0, rfl, HE0.out⟩, rfl, trivial⟩ (by intro p hp; simp only [List.mem_cons, List.not_mem_nil, or_false] at hp; rcases hp with rfl | rfl | rfl | rfl <;> first | exact trivial | exact num_pr _ | exact hA.1 | exact hA.2.1 | exact hA.2.2) 4 rfl (by omega) 20) hww)
      go_wp2_with (go_at_call 109; with_reducible refine HC.out.mono ?_; rintro e w9 ⟨rfl, hg9⟩)
      exact ⟨rfl, PG.of_no (by rw [HF.out]; exact hww) ((HGZ.out).trans0 hg9)⟩
    | some t2 =>
      have HC := Lib.hid (pg_ok (write_new HZ.out [.s nm, .s [91], .e a0, .s [93]] #[.iface 9 (.string ⟨nm.toArray⟩), .iface 9 (.string ⟨#[91]⟩), .iface 63 (.agg #[.int .i64 a0.op, .string ⟨a0.nm.toArray⟩, .int .i64 a0.k.n, .string ⟨a0.k.p.toArray⟩, .int .i64 a0.w.n, .string ⟨a0.w.p.toArray⟩, .slice A0 a0.args.length c0]), .iface 9 (.string ⟨#[93]⟩)] ⟨rfl, rfl, ⟨ho0, A0, c0, rfl, HE0.out⟩, rfl, trivial⟩ (by intro p hp; simp only [List.mem_cons, List.not_mem_nil, or_false] at hp; rcases hp with rfl | rfl | rfl | rfl <;> first | exact trivial | exact num_pr _ | exact hA.1 | exact hA.2.1 | exact hA.2.2) 4 rfl (by omega) 20) hww)
      go_wp2_with (go_at_call 109; with_reducible refine HC.out.mono ?_; rintro e w9 ⟨rfl, tb9, hp9, ht9, hg9⟩)
      go_end0
      exact PG.of_ok (by rw [HF.out]; exact hww) ((HGZ.out).trans0 hg9) hp9 (ht9.imp id fun e g eg => Nat.le_trans (HGZ.out).size (e g eg))
  by_cases hk2 : op = 2
  · subst hk2
    have HF : Hid (formX 2 nm k ww (exprX a0) (exprX a1) (exprX a2) = seqO [some [126], exprX a0]) := Lib.hid rfl
    have hA := hP (by unfold UsesA; simp)
    cases hww : wr (seqO [some [126], exprX a0]) t with
    | none =>
      have HC := Lib.hid (pg_no (write_new HZ.out [.s [126], .e a0] #[.iface 9 (.string ⟨#[126]⟩), .iface 63 (.agg #[.int .i64 a0.op, .string ⟨a0.nm.toArray⟩, .int .i64 a0.k.n, .string ⟨a0.k.p.toArray⟩, .int .i64 a0.w.n, .string ⟨a0.w.p.toArray⟩, .slice A0 a0.args.length c0])] ⟨rfl, ⟨ho0, A0, c0, rfl, HE0.out⟩, trivial⟩ (by intro p hp; simp only [List.mem_cons, List.not_mem_nil, or_false] at hp; rcases hp with rfl | rfl <;> first | exact trivial | exact num_pr _ | exact hA.1 | exact hA.2.1 | exact hA.2.2) 2 rfl (by omega) 20) hww)
      go_wp2_with (go_at_call 109; with_reducible refine HC.out.mono ?_; rintro e w9 ⟨rfl, hg9⟩)
      exact ⟨rfl, PG.of_no (by rw [HF.out]; exact hww) ((HGZ.out).trans0 hg9)⟩
    | some t2 =>
      have HC := Lib.hid (pg_ok (write_new HZ.out [.s [126], .e a0] #[.iface 9 (.string ⟨#[126]⟩), .iface 63 (.agg #[.int .i64 a0.op, .string ⟨a0.nm.toArray⟩, .int .i64 a0.k.n, .string ⟨a0.k.p.toArray⟩, .int .i64 a0.w.n, .string ⟨a0.w.p.toArray⟩, .slice A0 a0.args.length c0])] ⟨rfl, ⟨ho0, A0, c0, rfl, HE0.out⟩, trivial⟩ (by intro p hp; simp only [List.mem_cons, List.not_mem_nil, or_false] at hp; rcases hp with rfl | rfl <;> first | exact trivial | exact num_pr _ | exact hA.1 | exact hA.2.1 | exact hA.2.2) 2 rfl (by omega) 20) hww)
      go_wp2_with (go_at_call 109; with_reducible refine HC.out.mono ?_; rintro e w9 ⟨rfl, tb9, hp9, ht9, hg9⟩)
      go_end0
      exact PG.of_ok (by rw [HF.out]; exact hww) ((HGZ.out).trans0 hg9) hp9 (ht9.imp id fun e g eg => Nat.le_trans (HGZ.out).size (e g eg))
  by_cases hk10 : op = 10
  · subst hk10
    have HF : Hid (formX 10 nm k ww (exprX a0) (exprX a1) (exprX a2) = seqO [some [40], exprX a0, some [32, 63, 32], exprX a1, some [32, 58, 32], exprX a2, some [41]]) := Lib.hid rfl
    have hA := hP (by unfold UsesA; simp)
    cases hww : wr (seqO [some [40], exprX a0, some [32, 63, 32], exprX a1, some [32, 58, 32], exprX a2, some [41]]) t with
    | none =>
      have HC := Lib.hid (pg_no (write_new HZ.out [.s [40], .e a0, .s [32, 63, 32], .e a1, .s [32, 58, 32], .e a2, .s [41]] #[.iface 9 (.string ⟨#[40]⟩), .iface 63 (.agg #[.int .i64 a0.op, .string ⟨a0.nm.toArray⟩, .int .i64 a0.k.n, .string ⟨a0.k.p.toArray⟩, .int .i64 a0.w.n, .string ⟨a0.w.p.toArray⟩, .slice A0 a0.args.length c0]), .iface 9 (.string ⟨#[32, 63, 32]⟩), .iface 63 (.agg #[.int .i64 a1.op, .string ⟨a1.nm.toArray⟩, .int .i64 a1.k.n, .string ⟨a1.k.p.toArray⟩, .int .i64 a1.w.n, .string ⟨a1.w.p.toArray⟩, .slice A1 a1.args.length c1]), .iface 9 (.string ⟨#[32, 58, 32]⟩), .iface 63 (.agg #[.int .i64 a2.op, .string ⟨a2.nm.toArray⟩, .int .i64 a2.k.n, .string ⟨a2.k.p.toArray⟩, .int .i64 a2.w.n, .string ⟨a2.w.p.toArray⟩, .slice A2 a2.args.length c2]), .iface 9 (.string ⟨#[41]⟩)] ⟨rfl, ⟨ho0, A0, c0, rfl, HE0.out⟩, rfl, ⟨ho1, A1, c1, rfl, HE1.out⟩, rfl, ⟨ho2, A2, c2, rfl, HE2.out⟩, rfl, trivial⟩ (by intro p hp; simp only [List.mem_cons, List.not_mem_nil, or_false] at hp; rcases hp with rfl | rfl | rfl | rfl | rfl | rfl | rfl <;> first | exact trivial | exact num_pr _ | exact hA.1 | exact hA.2.1 | exact hA.2.2) 7 rfl (by omega) 20) hww)
      go_wp2_with (go_at_call 109; with_reducible refine HC.out.mono ?_; rintro e w9 ⟨rfl, hg9⟩)
      exact ⟨rfl, PG.of_no (by rw [HF.out]; exact hww) ((HGZ.out).trans0 hg9)⟩
    | some t2 =>
      have HC := Lib.hid (pg_ok (write_new HZ.out [.s [40], .e a0, .s [32, 63, 32], .e a1, .s [32, 58, 32], .e a2, .s [41]] #[.iface 9 (.string ⟨#[40]⟩), .iface 63 (.agg #[.int .i64 a0.op, .string ⟨a0.nm.toArray⟩, .int .i64 a0.k.n, .string ⟨a0.k.p.toArray⟩, .int .i64 a0.w.n, .string ⟨a0.w.p.toArray⟩, .slice A0 a0.args.length c0]), .iface 9 (.string ⟨#[32, 63, 32]⟩), .iface 63 (.agg #[.int .i64 a1.op, .string ⟨a1.nm.toArray⟩, .int .i64 a1.k.n, .string ⟨a1.k.p.toArray⟩, .int .i64 a1.w.n, .string ⟨a1.w.p.toArray⟩, .slice A1 a1.args.length c1]), .iface 9 (.string ⟨#[32, 58, 32]⟩), .iface 63 (.agg #[.int .i64 a2.op, .string ⟨a2.nm.toArray⟩, .int .i64 a2.k.n, .string ⟨a2.k.p.toArray⟩, .int .i64 a2.w.n, .string ⟨a2.w.p.toArray⟩, .slice A2 a2.args.length c2]), .iface 9 (.string ⟨#[41]⟩)] ⟨rfl, ⟨ho0, A0, c0, rfl, HE0.out⟩, rfl, ⟨ho1, A1, c1, rfl, HE1.out⟩, rfl, ⟨ho2, A2, c2, rfl, HE2.out⟩, rfl, trivial⟩ (by intro p hp; simp only [List.mem_cons, List.not_mem_nil, or_false] at hp; rcases hp with rfl | rfl | rfl | rfl | rfl | rfl | rfl <;> first | exact trivial | exact num_pr _ | exact hA.1 | exact hA.2.1 | exact hA.2.2) 7 rfl (by omega) 20) hww)
      go_wp2_with (go_at_call 109; with_reducible refine HC.out.mono ?_; rintro e w9 ⟨rfl, tb9, hp9, ht9, hg9⟩)
      go_end0
      exact PG.of_ok (by rw [HF.out]; exact hww) ((HGZ.out).trans0 hg9) hp9 (ht9.imp id fun e g eg => Nat.le_trans (HGZ.out).size (e g eg))
  by_cases hk12 : op = 12
  · subst hk12
    have HF : Hid (formX 12 nm k ww (exprX a0) (exprX a1) (exprX a2) = seqO [some [123], exprX a0, some [32, 64, 32], some (numX k), some [32, 58, 32], some (numX ww), some [125]]) := Lib.hid rfl
    have hA := hP (by unfold UsesA; simp)
    cases hww : wr (seqO [some [123], exprX a0, some [32, 64, 32], some (numX k), some [32, 58, 32], some (numX ww), some [125]]) t with
    | none =>
      have HC := Lib.hid (pg_no (write_new HZ.out [.s [123], .e a0, .s [32, 64, 32], .n k, .s [32, 58, 32], .n ww, .s [125]] #[.iface 9 (.string ⟨#[123]⟩), .iface 63 (.agg #[.int .i64 a0.op, .string ⟨a0.nm.toArray⟩, .int .i64 a0.k.n, .string ⟨a0.k.p.toArray⟩, .int .i64 a0.w.n, .string ⟨a0.w.p.toArray⟩, .slice A0 a0.args.length c0]), .iface 9 (.string ⟨#[32, 64, 32]⟩), .iface 60 (.agg #[.int .i64 k.n, .string ⟨k.p.toArray⟩]), .iface 9 (.string ⟨#[32, 58, 32]⟩), .iface 60 (.agg #[.int .i64 ww.n, .string ⟨ww.p.toArray⟩]), .iface 9 (.string ⟨#[125]⟩)] ⟨rfl, ⟨ho0, A0, c0, rfl, HE0.out⟩, rfl, ⟨hk, rfl⟩, rfl, ⟨hw, rfl⟩, rfl, trivial⟩ (by intro p hp; simp only [List.mem_cons, List.not_mem_nil, or_false] at hp; rcases hp with rfl | rfl | rfl | rfl | rfl | rfl | rfl <;> first | exact trivial | exact num_pr _ | exact hA.1 | exact hA.2.1 | exact hA.2.2) 7 rfl (by omega) 20) hww)
      go_wp2_with (go_at_call 109; with_reducible refine HC.out.mono ?_; rintro e w9 ⟨rfl, hg9⟩)
      exact ⟨rfl, PG.of_no (by rw [HF.out]; exact hww) ((HGZ.out).trans0 hg9)⟩
    | some t2 =>
      have HC := Lib.hid (pg_ok (write_new HZ.out [.s [123], .e a0, .s [32, 64, 32], .n k, .s [32, 58, 32], .n ww, .s [125]] #[.iface 9 (.string ⟨#[123]⟩), .iface 63 (.agg #[.int .i64 a0.op, .string ⟨a0.nm.toArray⟩, .int .i64 a0.k.n, .string ⟨a0.k.p.toArray⟩, .int .i64 a0.w.n, .string ⟨a0.w.p.toArray⟩, .slice A0 a0.args.length c0]), .iface 9 (.string ⟨#[32, 64, 32]⟩), .iface 60 (.agg #[.int .i64 k.n, .string ⟨k.p.toArray⟩]), .iface 9 (.string ⟨#[32, 58, 32]⟩), .iface 60 (.agg #[.int .i64 ww.n, .string ⟨ww.p.toArray⟩]), .iface 9 (.string ⟨#[125]⟩)] ⟨rfl, ⟨ho0, A0, c0, rfl, HE0.out⟩, rfl, ⟨hk, rfl⟩, rfl, ⟨hw, rfl⟩, rfl, trivial⟩ (by intro p hp; simp only [List.mem_cons, List.not_mem_nil, or_false] at hp; rcases hp with rfl | rfl | rfl | rfl | rfl | rfl | rfl <;> first | exact trivial | exact num_pr _ | exact hA.1 | exact hA.2.1 | exact hA.2.2) 7 rfl (by omega) 20) hww)
      go_wp2_with (go_at_call 109; with_reducible refine HC.out.mono ?_; rintro e w9 ⟨rfl, tb9, hp9, ht9, hg9⟩)
      go_end0
      exact PG.of_ok (by rw [HF.out]; exact hww) ((HGZ.out).trans0 hg9) hp9 (ht9.imp id fun e g eg => Nat.le_trans (HGZ.out).size (e g eg))
  by_cases hk13 : op = 13
  · subst hk13
    have HF : Hid (formX 13 nm k ww (exprX a0) (exprX a1) (exprX a2) = seqO [some [123], exprX a0, some [32, 58, 32], some (numX ww), some [125]]) := Lib.hid rfl
    have hA := hP (by unfold UsesA; simp)
    cases hww : wr (seqO [some [123], exprX a0, some [32, 58, 32], some (numX ww), some [125]]) t with
    | none =>
      have HC := Lib.hid (pg_no (write_new HZ.out [.s [123], .e a0, .s [32, 58, 32], .n ww, .s [125]] #[.iface 9 (.string ⟨#[123]⟩), .iface 63 (.agg #[.int .i64 a0.op, .string ⟨a0.nm.toArray⟩, .int .i64 a0.k.n, .string ⟨a0.k.p.toArray⟩, .int .i64 a0.w.n, .string ⟨a0.w.p.toArray⟩, .slice A0 a0.args.length c0]), .iface 9 (.string ⟨#[32, 58, 32]⟩), .iface 60 (.agg #[.int .i64 ww.n, .string ⟨ww.p.toArray⟩]), .iface 9 (.string ⟨#[125]⟩)] ⟨rfl, ⟨ho0, A0, c0, rfl, HE0.out⟩, rfl, ⟨hw, rfl⟩, rfl, trivial⟩ (by intro p hp; simp only [List.mem_cons, List.not_mem_nil, or_false] at hp; rcases hp with rfl | rfl | rfl | rfl | rfl <;> first | exact trivial | exact num_pr _ | exact hA.1 | exact hA.2.1 | exact hA.2.2) 5 rfl (by omega) 20) hww)
      go_wp2_with (go_at_call 109; with_reducible refine HC.out.mono ?_; rintro e w9 ⟨rfl, hg9⟩)
      exact ⟨rfl, PG.of_no (by rw [HF.out]; exact hww) ((HGZ.out).trans0 hg9)⟩
    | some t2 =>
      have HC := Lib.hid (pg_ok (write_new HZ.out [.s [123], .e a0, .s [32, 58, 32], .n ww, .s [125]] #[.iface 9 (.string ⟨#[123]⟩), .iface 63 (.agg #[.int .i64 a0.op, .string ⟨a0.nm.toArray⟩, .int .i64 a0.k.n, .string ⟨a0.k.p.toArray⟩, .int .i64 a0.w.n, .string ⟨a0.w.p.toArray⟩, .slice A0 a0.args.length c0]), .iface 9 (.string ⟨#[32, 58, 32]⟩), .iface 60 (.agg #[.int .i64 ww.n, .string ⟨ww.p.toArray⟩]), .iface 9 (.string ⟨#[125]⟩)] ⟨rfl, ⟨ho0, A0, c0, rfl, HE0.out⟩, rfl, ⟨hw, rfl⟩, rfl, trivial⟩ (by intro p hp; simp only [List.mem_cons, List.not_mem_nil, or_false] at hp; rcases hp with rfl | rfl | rfl | rfl | rfl <;> first | exact trivial | exact num_pr _ | exact hA.1 | exact hA.2.1 | exact hA.2.2) 5 rfl (by omega) 20) hww)
      go_wp2_with (go_at_call 109; with_reducible refine HC.out.mono ?_; rintro e w9 ⟨rfl, tb9, hp9, ht9, hg9⟩)
      go_end0
      exact PG.of_ok (by rw [HF.out]; exact hww) ((HGZ.out).trans0 hg9) hp9 (ht9.imp id fun e g eg => Nat.le_trans (HGZ.out).size (e g eg))
  have hform : formX op nm k ww (exprX a0) (exprX a1) (exprX a2) = match signX op with
    | none => none
    | some s => seqO [some [40], exprX a0, some [32], some s, some [32], exprX a1, some [41]] := by
    unfold formX
    rw [if_neg hk1, if_neg hk14, if_neg hk15, if_neg hk2, if_neg hk10, if_neg hk12, if_neg hk13]
    cases signX op <;> rfl
  obtain ⟨v, mS, h1, h2, h3, h4, h5, h6, h7, h8, h9⟩ := HZ.out.out
  obtain ⟨sgs, hmi, hfs⟩ := h4
  obtain ⟨cq0, cq1⟩ := h1.c2
  have hlq := h1.lt
  have hlS := hmi.lt
  have HF0 := Lib.hid hform
  have HFS := Lib.hid hfs
  have zq1 := fun p : Later Z => Later.cell cq1 hlq p
  have zO0 := fun p : Later Z => Later.cell cO0 HMZ.out.lt p
  have zlk : ∀ p : Later Z, (Instr.lookup 129 (.map (some mS)) (.int .i64 op) true).run Tryz.prog p.val = .ok (.tuple #[((signX op).map fun v => Value.string ⟨v.toArray⟩).getD (.string ⟨#[]⟩), .bool (signX op).isSome]) p.val := fun p => by
    have q := (hmi.of_block (p.below.block mS hlS)).lookup_ok (P := Tryz.prog) (t := 129) (k := 3) (e := 9) Tryz.underlying129 Tryz.underlying3 op (.string ⟨#[]⟩) (by kernel_rfl)
    rw [hfs] at q
    exact q
  clear hform h1 h2 h3 h5 h6 h7 h8 h9 hmi hfs cq0 cq1 
  cases hsg : signX op with
  | none =>
    have HFN : Hid (formX op nm k ww (exprX a0) (exprX a1) (exprX a2) = none) := Lib.hid (by rw [HF0.out, hsg])
    simp only [hsg, Option.map_none, Option.getD_none, Option.isSome_none] at zlk
    clear hsg HF0 HFS
    go_upto_region 4 with fail
    refine wp_region_later (by kernel_rfl) (by kernel_rfl) ?_
    repeat (go_big_quiet_step (fail))
    refine wpQuiet_nil ?_
    intro _ hw'
    obtain ⟨q, hw''⟩ := hw'
    subst hw''
    have HG := Lib.hid (giveUp_any qb)
    have g5 := HGZ.out.trans0 (GP.of_below q.below (qb := qb) (tb := tb))
    generalize q.val = W5 at *
    clear zlk zq1 zO0
    go_wp2_with (go_at_call 168; with_reducible refine (HG.out _).mono ?_; rintro e w1 ⟨rfl, rfl⟩)
    exact ⟨rfl, PG.of_no (by rw [HFN.out]; rfl) g5⟩
  | some sg =>
    have HF : Hid (formX op nm k ww (exprX a0) (exprX a1) (exprX a2) = seqO [some [40], exprX a0, some [32], some sg, some [32], exprX a1, some [41]]) := Lib.hid (by rw [HF0.out, hsg])
    have hA := hP (by unfold UsesA; rw [hsg]; simp)
    simp only [hsg, Option.map_some, Option.getD_some, Option.isSome_some] at zlk
    clear hsg HF0 HFS
    go_upto_region 4 with fail
    refine wp_region_later (by kernel_rfl) (by kernel_rfl) ?_
    repeat (go_big_quiet_step (fail))
    refine wpQuiet_nil ?_
    intro _ hw'
    obtain ⟨q, hw''⟩ := hw'
    subst hw''
    have H5 := Lib.hid (HZ.out.below q.below)
    have HG5 := Lib.hid (HGZ.out.trans0 (GP.of_below q.below (qb := qb) (tb := tb)))
    have mC5 := HMC.out.keep q.below
    have HE05 := Lib.hid (ER.grown (grown_below q.below) (fun g e => by cases e) _ _ HE0.out)
    have HE15 := Lib.hid (ER.grown (grown_below q.below) (fun g e => by cases e) _ _ HE1.out)
    have dL0 := mC5.cell (i := 0) rfl
    have dL1 := mC5.cell (i := 1) rfl
    have dL2 := mC5.cell (i := 2) rfl
    have dL3 := mC5.cell (i := 3) rfl
    have dL4 := mC5.cell (i := 4) rfl
    have dL5 := mC5.cell (i := 5) rfl
    have dL6 := mC5.cell (i := 6) rfl
    have dL7 := mC5.cell (i := 7) rfl
    have dL8 := mC5.cell (i := 8) rfl
    have dL9 := mC5.cell (i := 9) rfl
    have dL10 := mC5.cell (i := 10) rfl
    have dL11 := mC5.cell (i := 11) rfl
    have dL12 := mC5.cell (i := 12) rfl
    have dL13 := mC5.cell (i := 13) rfl
    clear mC5 zlk zq1 zO0
    generalize q.val = W5 at *
    cases hww : wr (seqO [some [40], exprX a0, some [32], some sg, some [32], exprX a1, some [41]]) t with
    | none =>
      have HC := Lib.hid (pg_no (write_new (w := W5) H5.out [.s [40], .e a0, .s [32], .s sg, .s [32], .e a1, .s [41]] #[.iface 9 (.string ⟨#[40]⟩), .iface 63 (.agg #[.int .i64 a0.op, .string ⟨a0.nm.toArray⟩, .int .i64 a0.k.n, .string ⟨a0.k.p.toArray⟩, .int .i64 a0.w.n, .string ⟨a0.w.p.toArray⟩, .slice A0 a0.args.length c0]), .iface 9 (.string ⟨#[32]⟩), .iface 9 (.string ⟨sg.toArray⟩), .iface 9 (.string ⟨#[32]⟩), .iface 63 (.agg #[.int .i64 a1.op, .string ⟨a1.nm.toArray⟩, .int .i64 a1.k.n, .string ⟨a1.k.p.toArray⟩, .int .i64 a1.w.n, .string ⟨a1.w.p.toArray⟩, .slice A1 a1.args.length c1]), .iface 9 (.string ⟨#[41]⟩)] ⟨rfl, ⟨ho0, A0, c0, rfl, HE05.out⟩, rfl, rfl, rfl, ⟨ho1, A1, c1, rfl, HE15.out⟩, rfl, trivial⟩ (by intro p hp; simp only [List.mem_cons, List.not_mem_nil, or_false] at hp; rcases hp with rfl | rfl | rfl | rfl | rfl | rfl | rfl <;> first | exact trivial | exact num_pr _ | exact hA.1 | exact hA.2.1 | exact hA.2.2) 7 rfl (by omega) 20) hww)
      go_wp2_with (go_at_call 109; with_reducible refine HC.out.mono ?_; rintro e w9 ⟨rfl, hg9⟩)
      exact ⟨rfl, PG.of_no (by rw [HF.out]; exact hww) ((HG5.out).trans0 hg9)⟩
    | some t2 =>
      have HC := Lib.hid (pg_ok (write_new (w := W5) H5.out [.s [40], .e a0, .s [32], .s sg, .s [32], .e a1, .s [41]] #[.iface 9 (.string ⟨#[40]⟩), .iface 63 (.agg #[.int .i64 a0.op, .string ⟨a0.nm.toArray⟩, .int .i64 a0.k.n, .string ⟨a0.k.p.toArray⟩, .int .i64 a0.w.n, .string ⟨a0.w.p.toArray⟩, .slice A0 a0.args.length c0]), .iface 9 (.string ⟨#[32]⟩), .iface 9 (.string ⟨sg.toArray⟩), .iface 9 (.string ⟨#[32]⟩), .iface 63 (.agg #[.int .i64 a1.op, .string ⟨a1.nm.toArray⟩, .int .i64 a1.k.n, .string ⟨a1.k.p.toArray⟩, .int .i64 a1.w.n, .string ⟨a1.w.p.toArray⟩, .slice A1 a1.args.length c1]), .iface 9 (.string ⟨#[41]⟩)] ⟨rfl, ⟨ho0, A0, c0, rfl, HE05.out⟩, rfl, rfl, rfl, ⟨ho1, A1, c1, rfl, HE15.out⟩, rfl, trivial⟩ (by intro p hp; simp only [List.mem_cons, List.not_mem_nil, or_false] at hp; rcases hp with rfl | rfl | rfl | rfl | rfl | rfl | rfl <;> first | exact trivial | exact num_pr _ | exact hA.1 | exact hA.2.1 | exact hA.2.2) 7 rfl (by omega) 20) hww)
      go_wp2_with (go_at_call 109; with_reducible refine HC.out.mono ?_; rintro e w9 ⟨rfl, tb9, hp9, ht9, hg9⟩)
      go_end0
      exact PG.of_ok (by rw [HF.out]; exact hww) ((HG5.out).trans0 hg9) hp9 (ht9.imp id fun e g eg => Nat.le_trans (HG5.out).size (e g eg))

theorem prE0 : PrE expr0 := expr_pr 0 [] num0 num0 [] (fun h => by
  exfalso
  unfold UsesA at h
  rcases h with h | h | h | h | h | h
  · omega
  · omega
  · omega
  · omega
  · omega
  · exact h (by decide))
mutual
theorem prE : ∀ e : ExprT, PrE e
  | .mk op nm k w args => expr_pr op nm k w args fun _ => ⟨prA args 0, prA args 1, prA args 2⟩
theorem prA : ∀ (l : List ExprT) (i : Nat), PrE (l[i]?.getD expr0)
  | [], i => by rw [List.getElem?_nil]; exact prE0
  | e :: r, 0 => prE e
  | e :: r, i + 1 => by rw [List.getElem?_cons_succ]; exact prA r i
end
end Sy
end Go.Proofs.YtggeepimihhpjaaGreatDoor
