/- write. rule, num. -/
import Derived.Test.YtggeepimihhpjaaGreatDoorT5
import Derived.Test.YtggeepimihhpjaaGreatDoorPR
import Derived.Test.YtggeepimihhpjaaGreatDoorLB
namespace Go.Proofs.YtggeepimihhpjaaGreatDoor
open Go.RowKit Go.Shelf Go.Lib Sl Fr Lx
namespace Sy
set_option linter.unusedVariables false
set_option linter.unusedSimpArgs false

theorem alloc_rule {o : Oper} (ho : o.op = .alloc 65) (ev : Operand → Value) (w : World) : (execOp ev o).run Tryz.prog w = .ok (.value (.pointer (some ⟨w.heap.size, 0, none⟩))) (w.alloc (.cells #[.int .i64 0, .string ⟨#[]⟩, .int .i64 0] 65)) := by
  unfold execOp
  rw [ho]
  go_simp
theorem alloc_num {o : Oper} (ho : o.op = .alloc 60) (ev : Operand → Value) (w : World) : (execOp ev o).run Tryz.prog w = .ok (.value (.pointer (some ⟨w.heap.size, 0, none⟩))) (w.alloc (.cells #[.int .i64 0, .string ⟨#[]⟩] 60)) := by
  unfold execOp
  rw [ho]
  go_simp
theorem alloc_expr {o : Oper} (ho : o.op = .alloc 63) (ev : Operand → Value) (w : World) : (execOp ev o).run Tryz.prog w = .ok (.value (.pointer (some ⟨w.heap.size, 0, none⟩))) (w.alloc (.cells #[.int .i64 0, .string ⟨#[]⟩, .int .i64 0, .string ⟨#[]⟩, .int .i64 0, .string ⟨#[]⟩, .slice none 0 0] 63)) := by
  unfold execOp
  rw [ho]
  go_simp
set_option maxRecDepth 100000 in
theorem wpList_new_any {T : TypeId} {z0 : Array Value} (hal : ∀ {o : Oper}, o.op = .alloc T → ∀ (ev : Operand → Value) (w : World), (execOp ev o).run Tryz.prog w = .ok (.value (.pointer (some ⟨w.heap.size, 0, none⟩))) (w.alloc (.cells z0 T)))
    {ops : Array Oper} {rest : List Oper} {o1 o2 : Oper} {a : Act} {w : World} {Q : Exit → Act → World → Prop} (hg1 : o1.guard = none) (hg2 : o2.guard = none) (h1 : o1.op = .alloc T) (x y : Operand) (h2 : o2.op = .store T x y) (c' : Array Value)
    (hx : (a.put o1.dst (.pointer (some ⟨w.heap.size, 0, none⟩))).eval x = .pointer (some ⟨w.heap.size, 0, none⟩)) (hy : (a.put o1.dst (.pointer (some ⟨w.heap.size, 0, none⟩))).eval y = .agg c') (hi : (Tryz.prog.info? T).map (·.size) = some c'.size) (hs : c'.size = z0.size) (ho : c'.all (·.oneCell') = true)
    (h : ∀ W b, b = w.heap.size → BoxO W b c' T → Below w.heap.size w W → wpList Tryz.prog ops Q rest ((a.put o1.dst (.pointer (some ⟨b, 0, none⟩))).put o2.dst undef) W) : wpList Tryz.prog ops Q (o1 :: o2 :: rest) a w :=
  wpList_plain hg1 fun _ hK => by
    unfold Oper.wp
    rw [hal h1]
    refine hK _ _ (wpList_plain hg2 fun _ hK2 => ?_)
    unfold Oper.wp execOp
    simp only [h2, hx, hy, Instr.storeAt, Instr.sureAddr, Sem.run_bind, Sem.run_pure, Result.andThen_ok, run_storeVar_new w T z0 c' hi hs.symm ho]
    exact hK2 _ _ (h _ _ rfl (startO w c' T).1 (startO w c' T).2)
theorem as_ss (v : Value) (w : World) : (Instr.typeAssert (.iface 9 v) 20 9 true).run Tryz.prog w = .ok (.tuple #[v, .bool true]) w := by kernel_rfl
theorem as_is (v : Value) (w : World) : (Instr.typeAssert (.iface 69 v) 20 9 true).run Tryz.prog w = .ok (.tuple #[.string ⟨#[]⟩, .bool false]) w := by kernel_rfl
theorem as_ii (v : Value) (w : World) : (Instr.typeAssert (.iface 69 v) 20 69 true).run Tryz.prog w = .ok (.tuple #[v, .bool true]) w := by kernel_rfl
theorem as_rs (v : Value) (w : World) : (Instr.typeAssert (.iface 65 v) 20 9 true).run Tryz.prog w = .ok (.tuple #[.string ⟨#[]⟩, .bool false]) w := by kernel_rfl
theorem as_ri (v : Value) (w : World) : (Instr.typeAssert (.iface 65 v) 20 69 true).run Tryz.prog w = .ok (.tuple #[.agg #[.int .i64 0, .string ⟨#[]⟩, .int .i64 0, .string ⟨#[]⟩, .int .i64 0, .string ⟨#[]⟩, .int .i64 0, .string ⟨#[]⟩, .int .i64 0, .string ⟨#[]⟩, .int .i64 0, .string ⟨#[]⟩, .int .i64 0, .string ⟨#[]⟩, .slice none 0 0, .int .i64 0, .string ⟨#[]⟩, .int .i64 0, .string ⟨#[]⟩, .int .i64 0, .string ⟨#[]⟩, .slice none 0 0, .int .i64 0, .string ⟨#[]⟩, .int .i64 0, .string ⟨#[]⟩, .int .i64 0, .string ⟨#[]⟩, .slice none 0 0, .int .i64 0, .string ⟨#[]⟩, .int .i64 0, .string ⟨#[]⟩, .slice none 0 0, .slice none 0 0], .bool false]) w := by kernel_rfl
theorem as_rr (v : Value) (w : World) : (Instr.typeAssert (.iface 65 v) 20 65 true).run Tryz.prog w = .ok (.tuple #[v, .bool true]) w := by kernel_rfl
theorem as_ns (v : Value) (w : World) : (Instr.typeAssert (.iface 60 v) 20 9 true).run Tryz.prog w = .ok (.tuple #[.string ⟨#[]⟩, .bool false]) w := by kernel_rfl
theorem as_ni (v : Value) (w : World) : (Instr.typeAssert (.iface 60 v) 20 69 true).run Tryz.prog w = .ok (.tuple #[.agg #[.int .i64 0, .string ⟨#[]⟩, .int .i64 0, .string ⟨#[]⟩, .int .i64 0, .string ⟨#[]⟩, .int .i64 0, .string ⟨#[]⟩, .int .i64 0, .string ⟨#[]⟩, .int .i64 0, .string ⟨#[]⟩, .int .i64 0, .string ⟨#[]⟩, .slice none 0 0, .int .i64 0, .string ⟨#[]⟩, .int .i64 0, .string ⟨#[]⟩, .int .i64 0, .string ⟨#[]⟩, .slice none 0 0, .int .i64 0, .string ⟨#[]⟩, .int .i64 0, .string ⟨#[]⟩, .int .i64 0, .string ⟨#[]⟩, .slice none 0 0, .int .i64 0, .string ⟨#[]⟩, .int .i64 0, .string ⟨#[]⟩, .slice none 0 0, .slice none 0 0], .bool false]) w := by kernel_rfl
theorem as_nr (v : Value) (w : World) : (Instr.typeAssert (.iface 60 v) 20 65 true).run Tryz.prog w = .ok (.tuple #[.agg #[.int .i64 0, .string ⟨#[]⟩, .int .i64 0], .bool false]) w := by kernel_rfl
theorem as_nn (v : Value) (w : World) : (Instr.typeAssert (.iface 60 v) 20 60 true).run Tryz.prog w = .ok (.tuple #[v, .bool true]) w := by kernel_rfl
theorem as_es (v : Value) (w : World) : (Instr.typeAssert (.iface 63 v) 20 9 true).run Tryz.prog w = .ok (.tuple #[.string ⟨#[]⟩, .bool false]) w := by kernel_rfl
theorem as_ei (v : Value) (w : World) : (Instr.typeAssert (.iface 63 v) 20 69 true).run Tryz.prog w = .ok (.tuple #[.agg #[.int .i64 0, .string ⟨#[]⟩, .int .i64 0, .string ⟨#[]⟩, .int .i64 0, .string ⟨#[]⟩, .int .i64 0, .string ⟨#[]⟩, .int .i64 0, .string ⟨#[]⟩, .int .i64 0, .string ⟨#[]⟩, .int .i64 0, .string ⟨#[]⟩, .slice none 0 0, .int .i64 0, .string ⟨#[]⟩, .int .i64 0, .string ⟨#[]⟩, .int .i64 0, .string ⟨#[]⟩, .slice none 0 0, .int .i64 0, .string ⟨#[]⟩, .int .i64 0, .string ⟨#[]⟩, .int .i64 0, .string ⟨#[]⟩, .slice none 0 0, .int .i64 0, .string ⟨#[]⟩, .int .i64 0, .string ⟨#[]⟩, .slice none 0 0, .slice none 0 0], .bool false]) w := by kernel_rfl
theorem as_er (v : Value) (w : World) : (Instr.typeAssert (.iface 63 v) 20 65 true).run Tryz.prog w = .ok (.tuple #[.agg #[.int .i64 0, .string ⟨#[]⟩, .int .i64 0], .bool false]) w := by kernel_rfl
theorem as_en (v : Value) (w : World) : (Instr.typeAssert (.iface 63 v) 20 60 true).run Tryz.prog w = .ok (.tuple #[.agg #[.int .i64 0, .string ⟨#[]⟩], .bool false]) w := by kernel_rfl
theorem as_ee (v : Value) (w : World) : (Instr.typeAssert (.iface 63 v) 20 63 true).run Tryz.prog w = .ok (.tuple #[v, .bool true]) w := by kernel_rfl
attribute [local go_sem high] as_ss as_is as_ii as_rs as_ri as_rr as_ns as_ni as_nr as_nn as_es as_ei as_er as_en as_ee

set_option maxRecDepth 100000 in
set_option maxHeartbeats 4000000 in
theorem write_any (base qb : Nat) (tb : Option Nat) (t : By) (ps : List PartT) (hps : ∀ p ∈ ps, PartOK p) (A : Option Addr) (c : Nat) (w : World) (h : PP w base qb tb t) (hA : ParM w base qb tb A ps) (hn : ps.length ≤ 100) :
    Calls Tryz.prog 109 #[.pointer (some ⟨qb, 0, none⟩), .slice A ps.length c] w (PG base qb tb t (seqO (ps.map partX)) w) := by
  have HPS := Lib.hid hps
  have HA := Lib.hid hA
  have HP := Lib.hid h
  have H0 : Hid (WrAt base qb tb t ps A w (.int .i64 0) w) := Lib.hid ⟨0, t, tb, rfl, Nat.zero_le _, wr_nil h.len, h, .inl rfl, GP.refl _ _ _⟩
  clear h hA hps
  go_enter Tryz.func109, Tryz.ntmps109
  go_wp2_with fail
  go_loopw [13] (WrAt base qb tb t ps A w) (fun i _ => ps.length - (RowKit.intOf i).toNat)
  case atStart => exact H0.out
  case round =>
    obtain ⟨k, tk, tbk, rfl, hk, hwk, hpk, htk, hgk⟩ := hrel
    have HW := Lib.hid hwk
    have HK := Lib.hid hpk
    have HT := Lib.hid htk
    have HG := Lib.hid hgk
    clear hwk hpk htk hgk H0
    by_cases hlt : k < ps.length
    · obtain ⟨p, hp⟩ : ∃ p, ps[k]? = some p := ⟨ps[k], List.getElem?_eq_getElem hlt⟩
      obtain ⟨b, rfl, hb1, hb2, hb3, hcs⟩ := HA.out (by intro e; subst e; simp at hlt)
      obtain ⟨v, hv, hR⟩ := hcs k p hp
      have hpo := HPS.out p (List.mem_of_getElem? hp)
      have cv := (HG.out.cell ⟨b, k, none⟩ hb1 hb2 hb3).trans hv
      have HR := Lib.hid (hR.gp HP.out HG.out)
      have HS := Lib.hid (seq_take hp)
      have HD := Lib.hid (seq_drop hp)
      clear hcs hv hR
      have HSR : Hid (seqO (ps.map partX) = catO (seqO ((ps.take k).map partX)) (seqO ((ps.drop k).map partX))) := Lib.hid seq_rest
      have HM := Lib.hid hp
      clear hp
      cases hwp : Sy.wr (partX p) tk with
      | none =>
        cases p with
        | s x =>
          obtain rfl := HR.out
          have HC := Lib.hid (PG.calls_no (word_any base qb tbk tk x wr HK.out) hwp)
          go_wp2_with (go_at_call 151; with_reducible refine HC.out.mono ?_; rintro e w2 ⟨rfl, hg2⟩)
          exact ⟨rfl, PG.of_no (by rw [HSR.out, wr_ok HW.out, HD.out]; exact wr_no hwp) (HG.out.trans (hg2) HT.out)⟩
        | i x =>
          obtain ⟨hok, cs, rfl, hir⟩ := HR.out
          have HC := Lib.hid (fun W (hb : Below wr.heap.size wr W) => PG.calls_no (hpo hok base qb tbk tk W cs (HK.out.below hb) (hir.grown (grown_below hb) (fun g e => by cases e))) hwp)
          have hsz : cs.size = 35 := hir.size
          have hone : cs.all (·.oneCell') = true := by rw [← Array.all_toList, List.all_eq_true]; exact hir.one
          clear hir
          have hinf : (Tryz.prog.info? 69).map (·.size) = some cs.size := by rw [hsz]; kernel_rfl
          go_wp2_with (first
            | (refine wpList_new_any alloc_item rfl rfl rfl _ _ rfl cs rfl rfl hinf hsz hone ?_; intro Y bY hbY mY hbA; subst hbY)
            | (refine wpList_load_row mY rfl _ rfl rfl _ Tryz.underlying69 rfl hinf ?_)
            | (go_at_call 152; with_reducible refine (HC.out _ hbA).mono ?_; rintro e w2 ⟨rfl, hg2⟩))
          exact ⟨rfl, PG.of_no (by rw [HSR.out, wr_ok HW.out, HD.out]; exact wr_no hwp) (HG.out.trans ((GP.of_below hbA).trans0 hg2) HT.out)⟩
        | r x =>
          obtain ⟨hok, hv⟩ := HR.out
          unfold ruleA at hv
          subst hv
          obtain ⟨cs, hcs⟩ : ∃ cs : Array Value, cs = #[.int .i64 x.kind, .string ⟨x.from_.toArray⟩, .int .i64 x.n] := ⟨_, rfl⟩
          have HC := Lib.hid (fun W (hb : Below wr.heap.size wr W) => PG.calls_no (hpo hok base qb tbk tk W (HK.out.below hb)) hwp)
          unfold ruleA at HC
          rw [← hcs] at HC cv
          have hsz : cs.size = 3 := by rw [hcs]; rfl
          have hone : cs.all (·.oneCell') = true := by rw [hcs]; simp [Value.oneCell']
          clear hcs HR
          have hinf : (Tryz.prog.info? 65).map (·.size) = some cs.size := by rw [hsz]; kernel_rfl
          go_wp2_with (first
            | (refine wpList_new_any alloc_rule rfl rfl rfl _ _ rfl cs rfl rfl hinf hsz hone ?_; intro Y bY hbY mY hbA; subst hbY)
            | (refine wpList_load_row mY rfl _ rfl rfl _ Tryz.underlying65 rfl hinf ?_)
            | (go_at_call 153; with_reducible refine (HC.out _ hbA).mono ?_; rintro e w2 ⟨rfl, hg2⟩))
          exact ⟨rfl, PG.of_no (by rw [HSR.out, wr_ok HW.out, HD.out]; exact wr_no hwp) (HG.out.trans ((GP.of_below hbA).trans0 hg2) HT.out)⟩
        | n x =>
          obtain ⟨hok, hv⟩ := HR.out
          unfold numA at hv
          subst hv
          obtain ⟨cs, hcs⟩ : ∃ cs : Array Value, cs = #[.int .i64 x.n, .string ⟨x.p.toArray⟩] := ⟨_, rfl⟩
          have HC := Lib.hid (fun W (hb : Below wr.heap.size wr W) => PG.calls_no (hpo hok base qb tbk tk W (HK.out.below hb)) hwp)
          unfold numA at HC
          rw [← hcs] at HC cv
          have hsz : cs.size = 2 := by rw [hcs]; rfl
          have hone : cs.all (·.oneCell') = true := by rw [hcs]; simp [Value.oneCell']
          clear hcs HR
          have hinf : (Tryz.prog.info? 60).map (·.size) = some cs.size := by rw [hsz]; kernel_rfl
          go_wp2_with (first
            | (refine wpList_new_any alloc_num rfl rfl rfl _ _ rfl cs rfl rfl hinf hsz hone ?_; intro Y bY hbY mY hbA; subst hbY)
            | (refine wpList_load_row mY rfl _ rfl rfl _ Tryz.underlying60 rfl hinf ?_)
            | (go_at_call 154; with_reducible refine (HC.out _ hbA).mono ?_; rintro e w2 ⟨rfl, hg2⟩))
          exact ⟨rfl, PG.of_no (by rw [HSR.out, wr_ok HW.out, HD.out]; exact wr_no hwp) (HG.out.trans ((GP.of_below hbA).trans0 hg2) HT.out)⟩
        | e x =>
          obtain ⟨hok, A0, c0, hv, her⟩ := HR.out
          subst hv
          obtain ⟨cs, hcs⟩ : ∃ cs : Array Value, cs = (eC x A0 c0).toArray := ⟨_, rfl⟩
          have HC := Lib.hid (fun W (hb : Below wr.heap.size wr W) => PG.calls_no (hpo hok base qb tbk tk W A0 c0 (HK.out.below hb) (ER.grown (grown_below hb) (fun g e => by cases e) _ _ her)) hwp)
          rw [← hcs] at HC cv
          have hsz : cs.size = 7 := by rw [hcs]; rfl
          have hone : cs.all (·.oneCell') = true := by rw [hcs]; simp [eC, Value.oneCell']
          clear hcs HR her
          have hinf : (Tryz.prog.info? 63).map (·.size) = some cs.size := by rw [hsz]; kernel_rfl
          go_wp2_with (first
            | (refine wpList_new_any alloc_expr rfl rfl rfl _ _ rfl cs rfl rfl hinf hsz hone ?_; intro Y bY hbY mY hbA; subst hbY)
            | (refine wpList_load_row mY rfl _ rfl rfl _ Tryz.underlying63 rfl hinf ?_)
            | (go_at_call 155; with_reducible refine (HC.out _ hbA).mono ?_; rintro e w2 ⟨rfl, hg2⟩))
          exact ⟨rfl, PG.of_no (by rw [HSR.out, wr_ok HW.out, HD.out]; exact wr_no hwp) (HG.out.trans ((GP.of_below hbA).trans0 hg2) HT.out)⟩
      | some t2 =>
        cases p with
        | s x =>
          obtain rfl := HR.out
          have HC := Lib.hid (PG.calls_ok (word_any base qb tbk tk x wr HK.out) hwp)
          go_wp2_with (go_at_call 151; with_reducible refine HC.out.mono ?_; rintro e w2 ⟨rfl, tb2, hp2, ht2, hg2⟩)
          go_roundw
          case rel => exact ⟨k + 1, t2, tb2, by go_num, by omega, by rw [HS.out, wr_ok HW.out]; exact hwp, hp2, (by rcases ht2 with e | e; exact e ▸ HT.out; exact .inr fun g eg => Nat.le_trans HG.out.size (e g eg)), HG.out.trans (hg2) HT.out⟩
          case measure => simp [RowKit.intOf]; omega
        | i x =>
          obtain ⟨hok, cs, rfl, hir⟩ := HR.out
          have HC := Lib.hid (fun W (hb : Below wr.heap.size wr W) => PG.calls_ok (hpo hok base qb tbk tk W cs (HK.out.below hb) (hir.grown (grown_below hb) (fun g e => by cases e))) hwp)
          have hsz : cs.size = 35 := hir.size
          have hone : cs.all (·.oneCell') = true := by rw [← Array.all_toList, List.all_eq_true]; exact hir.one
          clear hir
          have hinf : (Tryz.prog.info? 69).map (·.size) = some cs.size := by rw [hsz]; kernel_rfl
          go_wp2_with (first
            | (refine wpList_new_any alloc_item rfl rfl rfl _ _ rfl cs rfl rfl hinf hsz hone ?_; intro Y bY hbY mY hbA; subst hbY)
            | (refine wpList_load_row mY rfl _ rfl rfl _ Tryz.underlying69 rfl hinf ?_)
            | (go_at_call 152; with_reducible refine (HC.out _ hbA).mono ?_; rintro e w2 ⟨rfl, tb2, hp2, ht2, hg2⟩))
          go_roundw
          case rel => exact ⟨k + 1, t2, tb2, by go_num, by omega, by rw [HS.out, wr_ok HW.out]; exact hwp, hp2, (by rcases ht2 with e | e; exact e ▸ HT.out; exact .inr fun g eg => Nat.le_trans HG.out.size (Nat.le_trans hbA.size (e g eg))), HG.out.trans ((GP.of_below hbA).trans0 hg2) HT.out⟩
          case measure => simp [RowKit.intOf]; omega
        | r x =>
          obtain ⟨hok, hv⟩ := HR.out
          unfold ruleA at hv
          subst hv
          obtain ⟨cs, hcs⟩ : ∃ cs : Array Value, cs = #[.int .i64 x.kind, .string ⟨x.from_.toArray⟩, .int .i64 x.n] := ⟨_, rfl⟩
          have HC := Lib.hid (fun W (hb : Below wr.heap.size wr W) => PG.calls_ok (hpo hok base qb tbk tk W (HK.out.below hb)) hwp)
          unfold ruleA at HC
          rw [← hcs] at HC cv
          have hsz : cs.size = 3 := by rw [hcs]; rfl
          have hone : cs.all (·.oneCell') = true := by rw [hcs]; simp [Value.oneCell']
          clear hcs HR
          have hinf : (Tryz.prog.info? 65).map (·.size) = some cs.size := by rw [hsz]; kernel_rfl
          go_wp2_with (first
            | (refine wpList_new_any alloc_rule rfl rfl rfl _ _ rfl cs rfl rfl hinf hsz hone ?_; intro Y bY hbY mY hbA; subst hbY)
            | (refine wpList_load_row mY rfl _ rfl rfl _ Tryz.underlying65 rfl hinf ?_)
            | (go_at_call 153; with_reducible refine (HC.out _ hbA).mono ?_; rintro e w2 ⟨rfl, tb2, hp2, ht2, hg2⟩))
          go_roundw
          case rel => exact ⟨k + 1, t2, tb2, by go_num, by omega, by rw [HS.out, wr_ok HW.out]; exact hwp, hp2, (by rcases ht2 with e | e; exact e ▸ HT.out; exact .inr fun g eg => Nat.le_trans HG.out.size (Nat.le_trans hbA.size (e g eg))), HG.out.trans ((GP.of_below hbA).trans0 hg2) HT.out⟩
          case measure => simp [RowKit.intOf]; omega
        | n x =>
          obtain ⟨hok, hv⟩ := HR.out
          unfold numA at hv
          subst hv
          obtain ⟨cs, hcs⟩ : ∃ cs : Array Value, cs = #[.int .i64 x.n, .string ⟨x.p.toArray⟩] := ⟨_, rfl⟩
          have HC := Lib.hid (fun W (hb : Below wr.heap.size wr W) => PG.calls_ok (hpo hok base qb tbk tk W (HK.out.below hb)) hwp)
          unfold numA at HC
          rw [← hcs] at HC cv
          have hsz : cs.size = 2 := by rw [hcs]; rfl
          have hone : cs.all (·.oneCell') = true := by rw [hcs]; simp [Value.oneCell']
          clear hcs HR
          have hinf : (Tryz.prog.info? 60).map (·.size) = some cs.size := by rw [hsz]; kernel_rfl
          go_wp2_with (first
            | (refine wpList_new_any alloc_num rfl rfl rfl _ _ rfl cs rfl rfl hinf hsz hone ?_; intro Y bY hbY mY hbA; subst hbY)
            | (refine wpList_load_row mY rfl _ rfl rfl _ Tryz.underlying60 rfl hinf ?_)
            | (go_at_call 154; with_reducible refine (HC.out _ hbA).mono ?_; rintro e w2 ⟨rfl, tb2, hp2, ht2, hg2⟩))
          go_roundw
          case rel => exact ⟨k + 1, t2, tb2, by go_num, by omega, by rw [HS.out, wr_ok HW.out]; exact hwp, hp2, (by rcases ht2 with e | e; exact e ▸ HT.out; exact .inr fun g eg => Nat.le_trans HG.out.size (Nat.le_trans hbA.size (e g eg))), HG.out.trans ((GP.of_below hbA).trans0 hg2) HT.out⟩
          case measure => simp [RowKit.intOf]; omega
        | e x =>
          obtain ⟨hok, A0, c0, hv, her⟩ := HR.out
          subst hv
          obtain ⟨cs, hcs⟩ : ∃ cs : Array Value, cs = (eC x A0 c0).toArray := ⟨_, rfl⟩
          have HC := Lib.hid (fun W (hb : Below wr.heap.size wr W) => PG.calls_ok (hpo hok base qb tbk tk W A0 c0 (HK.out.below hb) (ER.grown (grown_below hb) (fun g e => by cases e) _ _ her)) hwp)
          rw [← hcs] at HC cv
          have hsz : cs.size = 7 := by rw [hcs]; rfl
          have hone : cs.all (·.oneCell') = true := by rw [hcs]; simp [eC, Value.oneCell']
          clear hcs HR her
          have hinf : (Tryz.prog.info? 63).map (·.size) = some cs.size := by rw [hsz]; kernel_rfl
          go_wp2_with (first
            | (refine wpList_new_any alloc_expr rfl rfl rfl _ _ rfl cs rfl rfl hinf hsz hone ?_; intro Y bY hbY mY hbA; subst hbY)
            | (refine wpList_load_row mY rfl _ rfl rfl _ Tryz.underlying63 rfl hinf ?_)
            | (go_at_call 155; with_reducible refine (HC.out _ hbA).mono ?_; rintro e w2 ⟨rfl, tb2, hp2, ht2, hg2⟩))
          go_roundw
          case rel => exact ⟨k + 1, t2, tb2, by go_num, by omega, by rw [HS.out, wr_ok HW.out]; exact hwp, hp2, (by rcases ht2 with e | e; exact e ▸ HT.out; exact .inr fun g eg => Nat.le_trans HG.out.size (Nat.le_trans hbA.size (e g eg))), HG.out.trans ((GP.of_below hbA).trans0 hg2) HT.out⟩
          case measure => simp [RowKit.intOf]; omega
    · have hkk : k = ps.length := by omega
      have hw := HW.out
      rw [hkk, List.take_length] at hw
      go_wp2_with fail
      go_end0
      exact PG.of_ok hw HG.out HK.out HT.out

end Sy
end Go.Proofs.YtggeepimihhpjaaGreatDoor

namespace Go.Proofs.YtggeepimihhpjaaGreatDoor
open Go.RowKit Go.Shelf Go.Lib Sl Fr Lx
namespace Sy
set_option linter.unusedVariables false
set_option linter.unusedSimpArgs false

def VL (w : World) (base : Nat) : List PartT → List Value → Prop
  | [], [] => True
  | p :: ps, v :: vs => PaR w base p v ∧ VL w base ps vs
  | _, _ => False
theorem VL.get {w : World} {base : Nat} : ∀ {ps : List PartT} {vs : List Value}, VL w base ps vs → vs.length = ps.length ∧ ∀ (j : Nat) (p : PartT), ps[j]? = some p → ∃ v, vs[j]? = some v ∧ PaR w base p v
  | [], [], h => ⟨rfl, fun j p hj => by simp at hj⟩
  | [], v :: vs, h => h.elim
  | p :: ps, [], h => h.elim
  | p :: ps, v :: vs, h => by
    obtain ⟨h1, h2⟩ := h
    obtain ⟨k1, k2⟩ := VL.get h2
    refine ⟨by simp [k1], fun j q hj => ?_⟩
    cases j with
    | zero =>
      simp only [List.getElem?_cons_zero, Option.some.injEq] at hj
      subst hj
      exact ⟨v, rfl, h1⟩
    | succ j =>
      simp only [List.getElem?_cons_succ] at hj ⊢
      exact k2 j q hj
theorem write_new {w : World} {base qb : Nat} {tb : Option Nat} {t : By} (hp : PP w base qb tb t) (ps : List PartT) (vs : Array Value) (hv : VL w base ps vs.toList) (hok : ∀ p ∈ ps, PartOK p) (n : Nat) (hl : ps.length = n) (hn : n ≤ 100) (T : TypeId) :
    Calls Tryz.prog 109 #[.pointer (some ⟨qb, 0, none⟩), .slice (some ⟨w.heap.size, 0, none⟩) n n] (w.alloc (.cells vs T)) (PG base qb tb t (seqO (ps.map partX)) w) := by
  subst hl
  obtain ⟨h1, h2⟩ := hv.get
  refine (write_any base qb tb t ps hok _ _ _ (hp.alloc _) (ParM.new hp T (by simpa using h1) (fun j p hj => by
    obtain ⟨v, k1, k2⟩ := h2 j p hj
    exact ⟨v, by simpa using k1, k2⟩)) hn).mono fun e w' hg => hg.from (GP.alloc w _ qb tb)
theorem write_at {W0 W3 : World} {base qb : Nat} {tb : Option Nat} {t : By} (hp : PP W0 base qb tb t) (hb : Below W0.heap.size W0 W3) {B : Nat} (hB : W0.heap.size ≤ B) {vs : Array Value} (hx : BoxL W3 B vs) (ps : List PartT) (hv : VL W0 base ps vs.toList) (hok : ∀ p ∈ ps, PartOK p) (n : Nat) (hl : ps.length = n) (hn : n ≤ 100) :
    Calls Tryz.prog 109 #[.pointer (some ⟨qb, 0, none⟩), .slice (some ⟨B, 0, none⟩) n n] W3 (PG base qb tb t (seqO (ps.map partX)) W0) := by
  subst hl
  obtain ⟨h1, h2⟩ := hv.get
  refine (write_any base qb tb t ps hok _ _ _ (hp.below hb) (fun _ => ⟨B, rfl, hx.lt, (by have := hp.lt; omega), (fun e => by have := (hp.ht _ e.symm).2; omega), fun j p hj => by
    obtain ⟨v, k1, k2⟩ := h2 j p hj
    exact ⟨v, hx.get (by simpa using k1), PaR.gp hp (GP.of_below hb) k2⟩⟩) hn).mono fun e w' hg => hg.from (GP.of_below hb)
def partsS (n : Nat) (vs : Array Value) : FSpec := ⟨fun v => ∃ B, v = .slice (some ⟨B, 0, none⟩) n n, fun wi v wm => ∀ B, v = .slice (some ⟨B, 0, none⟩) n n → B = wi.heap.size ∧ BoxL wm B vs⟩
section
variable {w X : World} {base qb : Nat} {tb : Option Nat} {t : By} {f : FuncId} {args : Array Value} {o : Option By}
theorem pg_ok {t' : By} (h : Calls Tryz.prog f args X (PG base qb tb t o w)) (hw : wr o t = some t') :
    Calls Tryz.prog f args X fun e w' => e = .returned (.tuple #[]) ∧ ∃ tb', PP w' base qb tb' t' ∧ (tb' = tb ∨ ∀ g, tb' = some g → w.heap.size ≤ g) ∧ GP w w' qb tb := h.mono fun e w' hg => hg.ok hw
theorem pg_no (h : Calls Tryz.prog f args X (PG base qb tb t o w)) (hw : wr o t = none) :
    Calls Tryz.prog f args X fun e w' => e = .panicked (refV 0) ∧ GP w w' qb tb := h.mono fun e w' hg => hg.no hw
end

set_option maxRecDepth 100000 in
set_option maxHeartbeats 4000000 in
theorem rule_pr (r : RuleT) : PrR r := by
  intro hok base qb tb t w h
  obtain ⟨kd, fr, nn⟩ := r
  unfold ruleA
  replace hok : I64 nn := hok
  dsimp only
  obtain ⟨mO, bA⟩ := startO w #[.int .i64 kd, .string ⟨fr.toArray⟩, .int .i64 nn] 65
  have hX := h.below bA
  have hgX : GP w _ qb tb := GP.of_below bA
  clear h
  go_enter Tryz.func153, Tryz.ntmps153
  go_upto_region 1 with fail
  generalize hXe : w.alloc (.cells #[.int .i64 kd, .string ⟨fr.toArray⟩, .int .i64 nn] 65) = X at *
  clear hXe
  have c0 := mO.cell (i := 0) rfl
  have c1 := mO.cell (i := 1) rfl
  have c2 := mO.cell (i := 2) rfl
  have HX := Lib.hid hX
  have HGX := Lib.hid hgX
  have HMO := Lib.hid mO
  clear hX hgX mO bA
  by_cases hk0 : kd = 0
  · have HF : Hid (ruleX ⟨kd, fr, nn⟩ = seqO [some ([105, 110, 105, 116])]) := Lib.hid (by unfold ruleX; rw [if_pos hk0]; rfl)
    subst hk0
    cases hw : wr (seqO [some ([105, 110, 105, 116])]) t with
    | none =>
      have HC := Lib.hid (pg_no (write_new HX.out [.s [105, 110, 105, 116]] #[.iface 9 (.string ⟨#[105, 110, 105, 116]⟩)] ⟨rfl, trivial⟩ (by intro p hp; simp at hp; subst hp; trivial) 1 rfl (by omega) 20) hw)
      go_wp2_with (go_at_call 109; with_reducible refine HC.out.mono ?_; rintro e w9 ⟨rfl, hg9⟩)
      exact ⟨rfl, PG.of_no (by rw [HF.out]; exact hw) ((HGX.out).trans0 hg9)⟩
    | some t2 =>
      have HC := Lib.hid (pg_ok (write_new HX.out [.s [105, 110, 105, 116]] #[.iface 9 (.string ⟨#[105, 110, 105, 116]⟩)] ⟨rfl, trivial⟩ (by intro p hp; simp at hp; subst hp; trivial) 1 rfl (by omega) 20) hw)
      go_wp2_with (go_at_call 109; with_reducible refine HC.out.mono ?_; rintro e w9 ⟨rfl, tb9, hp9, ht9, hg9⟩)
      go_end0
      exact PG.of_ok (by rw [HF.out]; exact hw) ((HGX.out).trans0 hg9) hp9 (ht9.imp id fun e g eg => Nat.le_trans (HGX.out).size (e g eg))
  by_cases hk1 : kd = 1
  · have HF : Hid (ruleX ⟨kd, fr, nn⟩ = seqO [some ([107, 101, 101, 112])]) := Lib.hid (by unfold ruleX; rw [if_neg hk0]; rw [if_pos hk1]; rfl)
    subst hk1
    cases hw : wr (seqO [some ([107, 101, 101, 112])]) t with
    | none =>
      have HC := Lib.hid (pg_no (write_new HX.out [.s [107, 101, 101, 112]] #[.iface 9 (.string ⟨#[107, 101, 101, 112]⟩)] ⟨rfl, trivial⟩ (by intro p hp; simp at hp; subst hp; trivial) 1 rfl (by omega) 20) hw)
      go_wp2_with (go_at_call 109; with_reducible refine HC.out.mono ?_; rintro e w9 ⟨rfl, hg9⟩)
      exact ⟨rfl, PG.of_no (by rw [HF.out]; exact hw) ((HGX.out).trans0 hg9)⟩
    | some t2 =>
      have HC := Lib.hid (pg_ok (write_new HX.out [.s [107, 101, 101, 112]] #[.iface 9 (.string ⟨#[107, 101, 101, 112]⟩)] ⟨rfl, trivial⟩ (by intro p hp; simp at hp; subst hp; trivial) 1 rfl (by omega) 20) hw)
      go_wp2_with (go_at_call 109; with_reducible refine HC.out.mono ?_; rintro e w9 ⟨rfl, tb9, hp9, ht9, hg9⟩)
      go_end0
      exact PG.of_ok (by rw [HF.out]; exact hw) ((HGX.out).trans0 hg9) hp9 (ht9.imp id fun e g eg => Nat.le_trans (HGX.out).size (e g eg))
  by_cases hk2 : kd = 2
  · have HF : Hid (ruleX ⟨kd, fr, nn⟩ = seqO [some ([99, 111, 112, 121, 32]), some (fr)]) := Lib.hid (by unfold ruleX; rw [if_neg hk0]; rw [if_neg hk1]; rw [if_pos hk2])
    subst hk2
    cases hw : wr (seqO [some ([99, 111, 112, 121, 32]), some (fr)]) t with
    | none =>
      have HC := Lib.hid (pg_no (write_new HX.out [.s [99, 111, 112, 121, 32], .s fr] #[.iface 9 (.string ⟨#[99, 111, 112, 121, 32]⟩), .iface 9 (.string ⟨fr.toArray⟩)] ⟨rfl, rfl, trivial⟩ (by intro p hp; simp at hp; rcases hp with rfl | rfl <;> trivial) 2 rfl (by omega) 20) hw)
      go_wp2_with (go_at_call 109; with_reducible refine HC.out.mono ?_; rintro e w9 ⟨rfl, hg9⟩)
      exact ⟨rfl, PG.of_no (by rw [HF.out]; exact hw) ((HGX.out).trans0 hg9)⟩
    | some t2 =>
      have HC := Lib.hid (pg_ok (write_new HX.out [.s [99, 111, 112, 121, 32], .s fr] #[.iface 9 (.string ⟨#[99, 111, 112, 121, 32]⟩), .iface 9 (.string ⟨fr.toArray⟩)] ⟨rfl, rfl, trivial⟩ (by intro p hp; simp at hp; rcases hp with rfl | rfl <;> trivial) 2 rfl (by omega) 20) hw)
      go_wp2_with (go_at_call 109; with_reducible refine HC.out.mono ?_; rintro e w9 ⟨rfl, tb9, hp9, ht9, hg9⟩)
      go_end0
      exact PG.of_ok (by rw [HF.out]; exact hw) ((HGX.out).trans0 hg9) hp9 (ht9.imp id fun e g eg => Nat.le_trans (HGX.out).size (e g eg))
  by_cases hk3 : kd = 3
  · have HF : Hid (ruleX ⟨kd, fr, nn⟩ = seqO [some [97, 100, 100, 32], some fr, some [32], some (itoa nn)]) := Lib.hid (by unfold ruleX; rw [if_neg hk0, if_neg hk1, if_neg hk2, if_pos hk3])
    subst hk3
    have hltO := HMO.out.lt
    have HI : Hid (∀ wz, Below X.heap.size X wz → _) := Lib.hid (fun wz hz => itoa_any nn wz hok (HX.out.vars.keep hz))
    have z1 : ∀ wz, Below X.heap.size X wz → wz.cell? ⟨w.heap.size, 1, none⟩ = some (.string ⟨fr.toArray⟩) := fun wz hz => (hz.cell (p := ⟨w.heap.size, 1, none⟩) hltO).trans c1
    have z2 : ∀ wz, Below X.heap.size X wz → wz.cell? ⟨w.heap.size, 2, none⟩ = some (.int .i64 nn) := fun wz hz => (hz.cell (p := ⟨w.heap.size, 2, none⟩) hltO).trans c2
    go_upto_region 10 with fail
    refine wp_region_flow 11 [.det (.pointer (some ⟨qb, 0, none⟩)), .det (.iface 9 (.string ⟨#[97, 100, 100, 32]⟩)), .det (.pointer (some ⟨w.heap.size, 1, none⟩)), .det (.string ⟨fr.toArray⟩), .det (.iface 9 (.string ⟨fr.toArray⟩)), .det (.iface 9 (.string ⟨#[32]⟩)), .det (.pointer (some ⟨w.heap.size, 2, none⟩)), .det (.int .i64 nn), .det (.string ⟨(itoa nn).toArray⟩), .det (.iface 9 (.string ⟨(itoa nn).toArray⟩)), partsS 4 #[.iface 9 (.string ⟨#[97, 100, 100, 32]⟩), .iface 9 (.string ⟨fr.toArray⟩), .iface 9 (.string ⟨#[32]⟩), .iface 9 (.string ⟨(itoa nn).toArray⟩)]] (by kernel_rfl) (by kernel_rfl) rfl ?_
    simp only [List.take_succ_cons, List.take_zero, List.drop_succ_cons, List.drop_zero]
    refine flowL_det (fun wz hz hd => stepF_reads (by rfl) ?_) ?_
    · go_simp; try rfl
    simp only [Act.put, List.setIfInBounds_toArray, List.set_cons_zero, List.set_cons_succ]
    refine flowL_det (fun wz hz hd => stepF_reads (by rfl) ?_) ?_
    · go_simp; try rfl
    simp only [Act.put, List.setIfInBounds_toArray, List.set_cons_zero, List.set_cons_succ]
    refine flowL_det (fun wz hz hd => stepF_reads (by rfl) ?_) ?_
    · go_simp; try rfl
    simp only [Act.put, List.setIfInBounds_toArray, List.set_cons_zero, List.set_cons_succ]
    refine flowL_det (fun wz hz hd => stepF_reads (by rfl) ?_) ?_
    · have q := z1 wz hz; go_simp; try rfl
    simp only [Act.put, List.setIfInBounds_toArray, List.set_cons_zero, List.set_cons_succ]
    refine flowL_det (fun wz hz hd => stepF_reads (by rfl) ?_) ?_
    · go_simp; try rfl
    simp only [Act.put, List.setIfInBounds_toArray, List.set_cons_zero, List.set_cons_succ]
    refine flowL_det (fun wz hz hd => stepF_reads (by rfl) ?_) ?_
    · go_simp; try rfl
    simp only [Act.put, List.setIfInBounds_toArray, List.set_cons_zero, List.set_cons_succ]
    refine flowL_det (fun wz hz hd => stepF_reads (by rfl) ?_) ?_
    · go_simp; try rfl
    simp only [Act.put, List.setIfInBounds_toArray, List.set_cons_zero, List.set_cons_succ]
    refine flowL_det (fun wz hz hd => stepF_reads (by rfl) ?_) ?_
    · have q := z2 wz hz; go_simp; try rfl
    simp only [Act.put, List.setIfInBounds_toArray, List.set_cons_zero, List.set_cons_succ]
    refine flowL_det (fun wz hz hd => stepF_walk (by rfl) (fun K hK => ?_)) ?_
    · go_wp2_with fail
      go_at_call 171
      refine (HI.out wz hz).mono ?_
      rintro e w9 ⟨rfl, hb⟩
      exact hK.out _ _ rfl trivial hb
    simp only [Act.put, List.setIfInBounds_toArray, List.set_cons_zero, List.set_cons_succ]
    refine flowL_det (fun wz hz hd => stepF_reads (by rfl) ?_) ?_
    · go_simp; try rfl
    simp only [Act.put, List.setIfInBounds_toArray, List.set_cons_zero, List.set_cons_succ]
    refine flowL_make (⟨_, 0, rfl⟩) (fun wz hz hd => stepF_walk (by rfl) (fun K hK => ?_)) (fun v hv => ?_)
    · go_simp
      refine hK.out _ _ ⟨_, rfl⟩ (fun B e => ?_) ((Below.refl _ _).alloc (Nat.le_refl _) _)
      cases e
      exact ⟨rfl, BoxL.new _ _ _⟩
    obtain ⟨BS, rfl⟩ := hv
    simp only [Act.put, List.setIfInBounds_toArray, List.set_cons_zero, List.set_cons_succ]
    intro W3 pp hb3 hF hap
    obtain ⟨hD, hD1⟩ := hF 10 (by decide)
    obtain ⟨hBS, hBX⟩ := hD.post BS rfl
    have hBX3 := hBX.keep hD.since
    have hBS2 := hD1.size
    rw [← hBS] at hBS2
    clear hF hap hD hD1 hBS hBX
    cases hw : wr (seqO [some [97, 100, 100, 32], some fr, some [32], some (itoa nn)]) t with
    | none =>
      have HC := Lib.hid (pg_no (write_at HX.out hb3 hBS2 hBX3 [.s [97, 100, 100, 32], .s fr, .s [32], .s (itoa nn)] ⟨rfl, rfl, rfl, rfl, trivial⟩ (by intro p hp; simp at hp; rcases hp with rfl | rfl | rfl | rfl <;> trivial) 4 rfl (by omega)) hw)
      go_wp2_with (go_at_call 109; with_reducible refine HC.out.mono ?_; rintro e w9 ⟨rfl, hg9⟩)
      exact ⟨rfl, PG.of_no (by rw [HF.out]; exact hw) ((HGX.out).trans0 hg9)⟩
    | some t2 =>
      have HC := Lib.hid (pg_ok (write_at HX.out hb3 hBS2 hBX3 [.s [97, 100, 100, 32], .s fr, .s [32], .s (itoa nn)] ⟨rfl, rfl, rfl, rfl, trivial⟩ (by intro p hp; simp at hp; rcases hp with rfl | rfl | rfl | rfl <;> trivial) 4 rfl (by omega)) hw)
      go_wp2_with (go_at_call 109; with_reducible refine HC.out.mono ?_; rintro e w9 ⟨rfl, tb9, hp9, ht9, hg9⟩)
      go_end0
      exact PG.of_ok (by rw [HF.out]; exact hw) ((HGX.out).trans0 hg9) hp9 (ht9.imp id fun e g eg => Nat.le_trans (HGX.out).size (e g eg))
  · have HF : Hid (ruleX ⟨kd, fr, nn⟩ = none) := Lib.hid (by unfold ruleX; rw [if_neg hk0, if_neg hk1, if_neg hk2, if_neg hk3])
    have HG := Lib.hid (giveUp_any qb)
    go_wp2_with (go_at_call 168; with_reducible refine (HG.out _).mono ?_; rintro e w1 ⟨rfl, rfl⟩)
    exact ⟨rfl, PG.of_no (by rw [HF.out]; rfl) HGX.out⟩

end Sy
end Go.Proofs.YtggeepimihhpjaaGreatDoor
