/- sameItem, sameModule, sameFile. -/
import Derived.Test.YtggeepimihhpjaaGreatDoorTL
namespace Go.Proofs.YtggeepimihhpjaaGreatDoor
open Go.RowKit Go.Shelf Go.Lib Sl Fr Lx
namespace Sy
set_option linter.unusedVariables false
set_option linter.unusedSimpArgs false
attribute [local go_sem high] eq_str neq_str eq_num neq_num eq_bind neq_bind eq_rule neq_rule

theorem wpList_box_any {P : Program} {ops : Array Oper} {rest : List Oper} {o : Oper} {a : Act} {w : World} {Q : Exit → Act → World → Prop} (hg : o.guard = none) (t : TypeId) (x : Operand) (ho : o.op = .box t x)
    (cells : Array Value) (hx : (a.eval x).cells = cells)
    (h : ∀ W b, b = w.heap.size → BoxO W b cells t → Below w.heap.size w W → wpList P ops Q rest (a.put o.dst (.pointer (some ⟨b, 0, none⟩))) W) : wpList P ops Q (o :: rest) a w := by
  subst hx
  refine wpList_plain hg fun K hK => ?_
  unfold Oper.wp execOp
  simp only [ho, Sem.run_bind, Instr.box, newVar, newRow, run_newObj_alloc, Sem.run_pure, Result.andThen_ok]
  exact hK _ _ (h _ _ rfl (startO w _ t).1 (startO w _ t).2)
def SmI (i : ItemT) : Prop := SmE i.a ∧ SmE i.b ∧ SmE i.c ∧ i.args.length ≤ 281474976710656 ∧ i.ports.length ≤ 281474976710656
set_option maxRecDepth 100000 in
set_option maxHeartbeats 16000000 in
theorem sI (i i' : ItemT) (hsm : SmI i') (w : World) (S S' : Nat → Prop) (cs ds : Array Value) (h : IR w S i cs) (h' : IR w S' i' ds) : Calls Tryz.prog 158 #[.agg cs, .agg ds] w (RetB (eqI i i') w) := by
  obtain ⟨kd, nm, wd, dp, it, ea, eb, ec, rl, o_, args, ports⟩ := i
  obtain ⟨kd', nm', wd', dp', it', ea', eb', ec', rl', o_', args', ports'⟩ := i'
  obtain ⟨s1, s2, s3, s4, s5⟩ := hsm
  obtain ⟨Aa, ca, Ab, cb, Ac, cc, An, cn, Ap, cp, ecs, ra, rb, rc, hn1, hn2, hp1, hp2⟩ := h
  obtain ⟨Aa', ca', Ab', cb', Ac', cc', An', cn', Ap', cp', eds, ra', rb', rc', hn1', hn2', hp1', hp2'⟩ := h'
  unfold iC at ecs eds
  dsimp only at ecs eds
  have Ha : ∀ W, Below w.heap.size w W → Calls Tryz.prog 172 #[.agg #[.int .i64 ea.op, .string ⟨ea.nm.toArray⟩, .int .i64 ea.k.n, .string ⟨ea.k.p.toArray⟩, .int .i64 ea.w.n, .string ⟨ea.w.p.toArray⟩, .slice Aa ea.args.length ca], .agg #[.int .i64 ea'.op, .string ⟨ea'.nm.toArray⟩, .int .i64 ea'.k.n, .string ⟨ea'.k.p.toArray⟩, .int .i64 ea'.w.n, .string ⟨ea'.w.p.toArray⟩, .slice Aa' ea'.args.length ca']] W (RetB (eqE ea ea') W) := fun W hb => sE ea ea' s1 W S S' Aa Aa' ca ca' (ER.grown (grown_below hb) (fun g e => by cases e) _ _ ra) (ER.grown (grown_below hb) (fun g e => by cases e) _ _ ra')
  have Hb : ∀ W, Below w.heap.size w W → Calls Tryz.prog 172 #[.agg #[.int .i64 eb.op, .string ⟨eb.nm.toArray⟩, .int .i64 eb.k.n, .string ⟨eb.k.p.toArray⟩, .int .i64 eb.w.n, .string ⟨eb.w.p.toArray⟩, .slice Ab eb.args.length cb], .agg #[.int .i64 eb'.op, .string ⟨eb'.nm.toArray⟩, .int .i64 eb'.k.n, .string ⟨eb'.k.p.toArray⟩, .int .i64 eb'.w.n, .string ⟨eb'.w.p.toArray⟩, .slice Ab' eb'.args.length cb']] W (RetB (eqE eb eb') W) := fun W hb => sE eb eb' s2 W S S' Ab Ab' cb cb' (ER.grown (grown_below hb) (fun g e => by cases e) _ _ rb) (ER.grown (grown_below hb) (fun g e => by cases e) _ _ rb')
  have Hc : ∀ W, Below w.heap.size w W → Calls Tryz.prog 172 #[.agg #[.int .i64 ec.op, .string ⟨ec.nm.toArray⟩, .int .i64 ec.k.n, .string ⟨ec.k.p.toArray⟩, .int .i64 ec.w.n, .string ⟨ec.w.p.toArray⟩, .slice Ac ec.args.length cc], .agg #[.int .i64 ec'.op, .string ⟨ec'.nm.toArray⟩, .int .i64 ec'.k.n, .string ⟨ec'.k.p.toArray⟩, .int .i64 ec'.w.n, .string ⟨ec'.w.p.toArray⟩, .slice Ac' ec'.args.length cc']] W (RetB (eqE ec ec') W) := fun W hb => sE ec ec' s3 W S S' Ac Ac' cc cc' (ER.grown (grown_below hb) (fun g e => by cases e) _ _ rc) (ER.grown (grown_below hb) (fun g e => by cases e) _ _ rc')
  have Hn : ∀ W, Below w.heap.size w W → Calls Tryz.prog 173 #[.slice An args.length cn, .slice An' args'.length cn'] W (RetB (eqL eqD args args') W) := fun W hb => (equal_nums args args' An An' cn cn' W S S' s4 (hn2.grown (grown_below hb) (fun g e => by cases e)) (hn2'.grown (grown_below hb) (fun g e => by cases e)))
  have Hp : ∀ W, Below w.heap.size w W → Calls Tryz.prog 174 #[.slice Ap ports.length cp, .slice Ap' ports'.length cp'] W (RetB (eqL eqD ports ports') W) := fun W hb => (equal_binds ports ports' Ap Ap' cp cp' W S S' s5 (hp2.grown (grown_below hb) (fun g e => by cases e)) (hp2'.grown (grown_below hb) (fun g e => by cases e)))
  clear ra rb rc hn2 hp2 ra' rb' rc' hn2' hp2' s1 s2 s3 s4 s5 hn1 hn1' hp1 hp1'
  generalize hR : eqI _ _ = R
  have hR' : R = (decide (kd = kd') && (decide (nm = nm') && (decide (o_ = o_') && (decide (rl = rl') && (decide (wd = wd') && (decide (dp = dp') && (decide (it = it') && (eqE ea ea' && (eqE eb eb' && (eqE ec ec' && (eqL eqD args args' && eqL eqD ports ports'))))))))))) := by rw [← hR]; rfl
  clear hR
  have HR := Lib.hid hR'
  clear hR'
  have ECS := Lib.hid ecs
  have EDS := Lib.hid eds
  clear ecs eds
  go_enter Tryz.func158, Tryz.ntmps158
  go_upto_region 1 with (first
    | (refine wpList_box_any rfl 69 _ rfl cs rfl ?_; intro X1 b1 e1 m1 k1; subst e1)
    | (refine wpList_box_any rfl 69 _ rfl ds rfl ?_; intro X b2 e2 m2 k2; subst e2))
  have HBX := Lib.hid (k1.trans (k2.mono k1.size))
  have M1 := m1.keep k2
  have M2 := m2
  rw [ECS.out] at M1
  rw [EDS.out] at M2
  clear m1 m2 k1 k2
  have HM1 := Lib.hid M1
  have HM2 := Lib.hid M2
  clear M1 M2
  have KHa : Hid (∀ W, Below X.heap.size X W → Calls Tryz.prog 172 #[.agg #[.int .i64 ea.op, .string ⟨ea.nm.toArray⟩, .int .i64 ea.k.n, .string ⟨ea.k.p.toArray⟩, .int .i64 ea.w.n, .string ⟨ea.w.p.toArray⟩, .slice Aa ea.args.length ca], .agg #[.int .i64 ea'.op, .string ⟨ea'.nm.toArray⟩, .int .i64 ea'.k.n, .string ⟨ea'.k.p.toArray⟩, .int .i64 ea'.w.n, .string ⟨ea'.w.p.toArray⟩, .slice Aa' ea'.args.length ca']] W (RetB (eqE ea ea') W)) := Lib.hid (fun W hb => Ha W (HBX.out.trans (hb.mono HBX.out.size)))
  have KHb : Hid (∀ W, Below X.heap.size X W → Calls Tryz.prog 172 #[.agg #[.int .i64 eb.op, .string ⟨eb.nm.toArray⟩, .int .i64 eb.k.n, .string ⟨eb.k.p.toArray⟩, .int .i64 eb.w.n, .string ⟨eb.w.p.toArray⟩, .slice Ab eb.args.length cb], .agg #[.int .i64 eb'.op, .string ⟨eb'.nm.toArray⟩, .int .i64 eb'.k.n, .string ⟨eb'.k.p.toArray⟩, .int .i64 eb'.w.n, .string ⟨eb'.w.p.toArray⟩, .slice Ab' eb'.args.length cb']] W (RetB (eqE eb eb') W)) := Lib.hid (fun W hb => Hb W (HBX.out.trans (hb.mono HBX.out.size)))
  have KHc : Hid (∀ W, Below X.heap.size X W → Calls Tryz.prog 172 #[.agg #[.int .i64 ec.op, .string ⟨ec.nm.toArray⟩, .int .i64 ec.k.n, .string ⟨ec.k.p.toArray⟩, .int .i64 ec.w.n, .string ⟨ec.w.p.toArray⟩, .slice Ac ec.args.length cc], .agg #[.int .i64 ec'.op, .string ⟨ec'.nm.toArray⟩, .int .i64 ec'.k.n, .string ⟨ec'.k.p.toArray⟩, .int .i64 ec'.w.n, .string ⟨ec'.w.p.toArray⟩, .slice Ac' ec'.args.length cc']] W (RetB (eqE ec ec') W)) := Lib.hid (fun W hb => Hc W (HBX.out.trans (hb.mono HBX.out.size)))
  have KHn : Hid (∀ W, Below X.heap.size X W → Calls Tryz.prog 173 #[.slice An args.length cn, .slice An' args'.length cn'] W (RetB (eqL eqD args args') W)) := Lib.hid (fun W hb => Hn W (HBX.out.trans (hb.mono HBX.out.size)))
  have KHp : Hid (∀ W, Below X.heap.size X W → Calls Tryz.prog 174 #[.slice Ap ports.length cp, .slice Ap' ports'.length cp'] W (RetB (eqL eqD ports ports') W)) := Lib.hid (fun W hb => Hp W (HBX.out.trans (hb.mono HBX.out.size)))
  clear Ha Hb Hc Hn Hp
  have cA0 := HM1.out.cell (i := 0) rfl
  have cB0 := HM2.out.cell (i := 0) rfl
  by_cases h1 : kd = kd'
  · subst h1
    have cA1 := HM1.out.cell (i := 1) rfl
    have cB1 := HM2.out.cell (i := 1) rfl
    by_cases h2 : nm = nm'
    · subst h2
      have cA32 := HM1.out.cell (i := 32) rfl
      have cB32 := HM2.out.cell (i := 32) rfl
      by_cases h3 : o_ = o_'
      · subst h3
        have cA29 := HM1.out.cell (i := 29) rfl
        have cA30 := HM1.out.cell (i := 30) rfl
        have cA31 := HM1.out.cell (i := 31) rfl
        have cB29 := HM2.out.cell (i := 29) rfl
        have cB30 := HM2.out.cell (i := 30) rfl
        have cB31 := HM2.out.cell (i := 31) rfl
        by_cases h4 : rl = rl'
        · subst h4
          have cA2 := HM1.out.cell (i := 2) rfl
          have cA3 := HM1.out.cell (i := 3) rfl
          have cB2 := HM2.out.cell (i := 2) rfl
          have cB3 := HM2.out.cell (i := 3) rfl
          by_cases h5 : wd = wd'
          · subst h5
            have cA4 := HM1.out.cell (i := 4) rfl
            have cA5 := HM1.out.cell (i := 5) rfl
            have cB4 := HM2.out.cell (i := 4) rfl
            have cB5 := HM2.out.cell (i := 5) rfl
            by_cases h6 : dp = dp'
            · subst h6
              have cA6 := HM1.out.cell (i := 6) rfl
              have cA7 := HM1.out.cell (i := 7) rfl
              have cB6 := HM2.out.cell (i := 6) rfl
              have cB7 := HM2.out.cell (i := 7) rfl
              by_cases h7 : it = it'
              · subst h7
                have cA8 := HM1.out.cell (i := 8) rfl
                have cA9 := HM1.out.cell (i := 9) rfl
                have cA10 := HM1.out.cell (i := 10) rfl
                have cA11 := HM1.out.cell (i := 11) rfl
                have cA12 := HM1.out.cell (i := 12) rfl
                have cA13 := HM1.out.cell (i := 13) rfl
                have cA14 := HM1.out.cell (i := 14) rfl
                have cB8 := HM2.out.cell (i := 8) rfl
                have cB9 := HM2.out.cell (i := 9) rfl
                have cB10 := HM2.out.cell (i := 10) rfl
                have cB11 := HM2.out.cell (i := 11) rfl
                have cB12 := HM2.out.cell (i := 12) rfl
                have cB13 := HM2.out.cell (i := 13) rfl
                have cB14 := HM2.out.cell (i := 14) rfl
                cases ha : eqE ea ea' with
                | true =>
                  rw [ha] at KHa
                  cases hb : eqE eb eb' with
                  | true =>
                    rw [hb] at KHb
                    cases hc : eqE ec ec' with
                    | true =>
                      rw [hc] at KHc
                      cases hn : eqL eqD args args' with
                      | true =>
                        rw [hn] at KHn
                        cases hp : eqL eqD ports ports' with
                        | true =>
                          rw [hp] at KHp
                          have hRv : R = true := by rw [HR.out]; simp_all only [Hid, decide_true, Bool.true_and, Bool.false_and, Bool.and_false, Bool.and_true, Bool.and_self]
                          go_wp2_with (first
                            | (go_at_call 174; refine (KHp.out _ (hb10)).mono ?_; rintro e v11 ⟨rfl, hc11⟩; have hb11 := hb10.trans (hc11.mono hb10.size))
                            | (go_at_call 173; refine (KHn.out _ (hb9)).mono ?_; rintro e v10 ⟨rfl, hc10⟩; have hb10 := hb9.trans (hc10.mono hb9.size); have cA34_11 := (HM1.out.keep hb10).cell (i := 34) rfl; have cB34_11 := (HM2.out.keep hb10).cell (i := 34) rfl)
                            | (go_at_call 172; refine (KHc.out _ (hb8)).mono ?_; rintro e v9 ⟨rfl, hc9⟩; have hb9 := hb8.trans (hc9.mono hb8.size); have cA33_10 := (HM1.out.keep hb9).cell (i := 33) rfl; have cB33_10 := (HM2.out.keep hb9).cell (i := 33) rfl)
                            | (go_at_call 172; refine (KHb.out _ (hb7)).mono ?_; rintro e v8 ⟨rfl, hc8⟩; have hb8 := hb7.trans (hc8.mono hb7.size); have cA22_9 := (HM1.out.keep hb8).cell (i := 22) rfl; have cA23_9 := (HM1.out.keep hb8).cell (i := 23) rfl; have cA24_9 := (HM1.out.keep hb8).cell (i := 24) rfl; have cA25_9 := (HM1.out.keep hb8).cell (i := 25) rfl; have cA26_9 := (HM1.out.keep hb8).cell (i := 26) rfl; have cA27_9 := (HM1.out.keep hb8).cell (i := 27) rfl; have cA28_9 := (HM1.out.keep hb8).cell (i := 28) rfl; have cB22_9 := (HM2.out.keep hb8).cell (i := 22) rfl; have cB23_9 := (HM2.out.keep hb8).cell (i := 23) rfl; have cB24_9 := (HM2.out.keep hb8).cell (i := 24) rfl; have cB25_9 := (HM2.out.keep hb8).cell (i := 25) rfl; have cB26_9 := (HM2.out.keep hb8).cell (i := 26) rfl; have cB27_9 := (HM2.out.keep hb8).cell (i := 27) rfl; have cB28_9 := (HM2.out.keep hb8).cell (i := 28) rfl)
                            | (go_at_call 172; refine (KHa.out _ (Below.refl _ _)).mono ?_; rintro e v7 ⟨rfl, hc7⟩; have hb7 := hc7; have cA15_8 := (HM1.out.keep hb7).cell (i := 15) rfl; have cA16_8 := (HM1.out.keep hb7).cell (i := 16) rfl; have cA17_8 := (HM1.out.keep hb7).cell (i := 17) rfl; have cA18_8 := (HM1.out.keep hb7).cell (i := 18) rfl; have cA19_8 := (HM1.out.keep hb7).cell (i := 19) rfl; have cA20_8 := (HM1.out.keep hb7).cell (i := 20) rfl; have cA21_8 := (HM1.out.keep hb7).cell (i := 21) rfl; have cB15_8 := (HM2.out.keep hb7).cell (i := 15) rfl; have cB16_8 := (HM2.out.keep hb7).cell (i := 16) rfl; have cB17_8 := (HM2.out.keep hb7).cell (i := 17) rfl; have cB18_8 := (HM2.out.keep hb7).cell (i := 18) rfl; have cB19_8 := (HM2.out.keep hb7).cell (i := 19) rfl; have cB20_8 := (HM2.out.keep hb7).cell (i := 20) rfl; have cB21_8 := (HM2.out.keep hb7).cell (i := 21) rfl))
                          go_ret
                          exact ⟨by first | rfl | (rw [hRv]; rfl), HBX.out.trans (hb11.mono HBX.out.size)⟩
                        | false =>
                          rw [hp] at KHp
                          have hRv : R = false := by rw [HR.out]; simp_all only [Hid, decide_true, Bool.true_and, Bool.false_and, Bool.and_false, Bool.and_true, Bool.and_self]
                          go_wp2_with (first
                            | (go_at_call 174; refine (KHp.out _ (hb10)).mono ?_; rintro e v11 ⟨rfl, hc11⟩; have hb11 := hb10.trans (hc11.mono hb10.size))
                            | (go_at_call 173; refine (KHn.out _ (hb9)).mono ?_; rintro e v10 ⟨rfl, hc10⟩; have hb10 := hb9.trans (hc10.mono hb9.size); have cA34_11 := (HM1.out.keep hb10).cell (i := 34) rfl; have cB34_11 := (HM2.out.keep hb10).cell (i := 34) rfl)
                            | (go_at_call 172; refine (KHc.out _ (hb8)).mono ?_; rintro e v9 ⟨rfl, hc9⟩; have hb9 := hb8.trans (hc9.mono hb8.size); have cA33_10 := (HM1.out.keep hb9).cell (i := 33) rfl; have cB33_10 := (HM2.out.keep hb9).cell (i := 33) rfl)
                            | (go_at_call 172; refine (KHb.out _ (hb7)).mono ?_; rintro e v8 ⟨rfl, hc8⟩; have hb8 := hb7.trans (hc8.mono hb7.size); have cA22_9 := (HM1.out.keep hb8).cell (i := 22) rfl; have cA23_9 := (HM1.out.keep hb8).cell (i := 23) rfl; have cA24_9 := (HM1.out.keep hb8).cell (i := 24) rfl; have cA25_9 := (HM1.out.keep hb8).cell (i := 25) rfl; have cA26_9 := (HM1.out.keep hb8).cell (i := 26) rfl; have cA27_9 := (HM1.out.keep hb8).cell (i := 27) rfl; have cA28_9 := (HM1.out.keep hb8).cell (i := 28) rfl; have cB22_9 := (HM2.out.keep hb8).cell (i := 22) rfl; have cB23_9 := (HM2.out.keep hb8).cell (i := 23) rfl; have cB24_9 := (HM2.out.keep hb8).cell (i := 24) rfl; have cB25_9 := (HM2.out.keep hb8).cell (i := 25) rfl; have cB26_9 := (HM2.out.keep hb8).cell (i := 26) rfl; have cB27_9 := (HM2.out.keep hb8).cell (i := 27) rfl; have cB28_9 := (HM2.out.keep hb8).cell (i := 28) rfl)
                            | (go_at_call 172; refine (KHa.out _ (Below.refl _ _)).mono ?_; rintro e v7 ⟨rfl, hc7⟩; have hb7 := hc7; have cA15_8 := (HM1.out.keep hb7).cell (i := 15) rfl; have cA16_8 := (HM1.out.keep hb7).cell (i := 16) rfl; have cA17_8 := (HM1.out.keep hb7).cell (i := 17) rfl; have cA18_8 := (HM1.out.keep hb7).cell (i := 18) rfl; have cA19_8 := (HM1.out.keep hb7).cell (i := 19) rfl; have cA20_8 := (HM1.out.keep hb7).cell (i := 20) rfl; have cA21_8 := (HM1.out.keep hb7).cell (i := 21) rfl; have cB15_8 := (HM2.out.keep hb7).cell (i := 15) rfl; have cB16_8 := (HM2.out.keep hb7).cell (i := 16) rfl; have cB17_8 := (HM2.out.keep hb7).cell (i := 17) rfl; have cB18_8 := (HM2.out.keep hb7).cell (i := 18) rfl; have cB19_8 := (HM2.out.keep hb7).cell (i := 19) rfl; have cB20_8 := (HM2.out.keep hb7).cell (i := 20) rfl; have cB21_8 := (HM2.out.keep hb7).cell (i := 21) rfl))
                          go_ret
                          exact ⟨by first | rfl | (rw [hRv]; rfl), HBX.out.trans (hb11.mono HBX.out.size)⟩
                      | false =>
                        rw [hn] at KHn
                        have hRv : R = false := by rw [HR.out]; simp_all only [Hid, decide_true, Bool.true_and, Bool.false_and, Bool.and_false, Bool.and_true, Bool.and_self]
                        go_wp2_with (first
                          | (go_at_call 173; refine (KHn.out _ (hb9)).mono ?_; rintro e v10 ⟨rfl, hc10⟩; have hb10 := hb9.trans (hc10.mono hb9.size))
                          | (go_at_call 172; refine (KHc.out _ (hb8)).mono ?_; rintro e v9 ⟨rfl, hc9⟩; have hb9 := hb8.trans (hc9.mono hb8.size); have cA33_10 := (HM1.out.keep hb9).cell (i := 33) rfl; have cB33_10 := (HM2.out.keep hb9).cell (i := 33) rfl)
                          | (go_at_call 172; refine (KHb.out _ (hb7)).mono ?_; rintro e v8 ⟨rfl, hc8⟩; have hb8 := hb7.trans (hc8.mono hb7.size); have cA22_9 := (HM1.out.keep hb8).cell (i := 22) rfl; have cA23_9 := (HM1.out.keep hb8).cell (i := 23) rfl; have cA24_9 := (HM1.out.keep hb8).cell (i := 24) rfl; have cA25_9 := (HM1.out.keep hb8).cell (i := 25) rfl; have cA26_9 := (HM1.out.keep hb8).cell (i := 26) rfl; have cA27_9 := (HM1.out.keep hb8).cell (i := 27) rfl; have cA28_9 := (HM1.out.keep hb8).cell (i := 28) rfl; have cB22_9 := (HM2.out.keep hb8).cell (i := 22) rfl; have cB23_9 := (HM2.out.keep hb8).cell (i := 23) rfl; have cB24_9 := (HM2.out.keep hb8).cell (i := 24) rfl; have cB25_9 := (HM2.out.keep hb8).cell (i := 25) rfl; have cB26_9 := (HM2.out.keep hb8).cell (i := 26) rfl; have cB27_9 := (HM2.out.keep hb8).cell (i := 27) rfl; have cB28_9 := (HM2.out.keep hb8).cell (i := 28) rfl)
                          | (go_at_call 172; refine (KHa.out _ (Below.refl _ _)).mono ?_; rintro e v7 ⟨rfl, hc7⟩; have hb7 := hc7; have cA15_8 := (HM1.out.keep hb7).cell (i := 15) rfl; have cA16_8 := (HM1.out.keep hb7).cell (i := 16) rfl; have cA17_8 := (HM1.out.keep hb7).cell (i := 17) rfl; have cA18_8 := (HM1.out.keep hb7).cell (i := 18) rfl; have cA19_8 := (HM1.out.keep hb7).cell (i := 19) rfl; have cA20_8 := (HM1.out.keep hb7).cell (i := 20) rfl; have cA21_8 := (HM1.out.keep hb7).cell (i := 21) rfl; have cB15_8 := (HM2.out.keep hb7).cell (i := 15) rfl; have cB16_8 := (HM2.out.keep hb7).cell (i := 16) rfl; have cB17_8 := (HM2.out.keep hb7).cell (i := 17) rfl; have cB18_8 := (HM2.out.keep hb7).cell (i := 18) rfl; have cB19_8 := (HM2.out.keep hb7).cell (i := 19) rfl; have cB20_8 := (HM2.out.keep hb7).cell (i := 20) rfl; have cB21_8 := (HM2.out.keep hb7).cell (i := 21) rfl))
                        go_ret
                        exact ⟨by first | rfl | (rw [hRv]; rfl), HBX.out.trans (hb10.mono HBX.out.size)⟩
                    | false =>
                      rw [hc] at KHc
                      have hRv : R = false := by rw [HR.out]; simp_all only [Hid, decide_true, Bool.true_and, Bool.false_and, Bool.and_false, Bool.and_true, Bool.and_self]
                      go_wp2_with (first
                        | (go_at_call 172; refine (KHc.out _ (hb8)).mono ?_; rintro e v9 ⟨rfl, hc9⟩; have hb9 := hb8.trans (hc9.mono hb8.size))
                        | (go_at_call 172; refine (KHb.out _ (hb7)).mono ?_; rintro e v8 ⟨rfl, hc8⟩; have hb8 := hb7.trans (hc8.mono hb7.size); have cA22_9 := (HM1.out.keep hb8).cell (i := 22) rfl; have cA23_9 := (HM1.out.keep hb8).cell (i := 23) rfl; have cA24_9 := (HM1.out.keep hb8).cell (i := 24) rfl; have cA25_9 := (HM1.out.keep hb8).cell (i := 25) rfl; have cA26_9 := (HM1.out.keep hb8).cell (i := 26) rfl; have cA27_9 := (HM1.out.keep hb8).cell (i := 27) rfl; have cA28_9 := (HM1.out.keep hb8).cell (i := 28) rfl; have cB22_9 := (HM2.out.keep hb8).cell (i := 22) rfl; have cB23_9 := (HM2.out.keep hb8).cell (i := 23) rfl; have cB24_9 := (HM2.out.keep hb8).cell (i := 24) rfl; have cB25_9 := (HM2.out.keep hb8).cell (i := 25) rfl; have cB26_9 := (HM2.out.keep hb8).cell (i := 26) rfl; have cB27_9 := (HM2.out.keep hb8).cell (i := 27) rfl; have cB28_9 := (HM2.out.keep hb8).cell (i := 28) rfl)
                        | (go_at_call 172; refine (KHa.out _ (Below.refl _ _)).mono ?_; rintro e v7 ⟨rfl, hc7⟩; have hb7 := hc7; have cA15_8 := (HM1.out.keep hb7).cell (i := 15) rfl; have cA16_8 := (HM1.out.keep hb7).cell (i := 16) rfl; have cA17_8 := (HM1.out.keep hb7).cell (i := 17) rfl; have cA18_8 := (HM1.out.keep hb7).cell (i := 18) rfl; have cA19_8 := (HM1.out.keep hb7).cell (i := 19) rfl; have cA20_8 := (HM1.out.keep hb7).cell (i := 20) rfl; have cA21_8 := (HM1.out.keep hb7).cell (i := 21) rfl; have cB15_8 := (HM2.out.keep hb7).cell (i := 15) rfl; have cB16_8 := (HM2.out.keep hb7).cell (i := 16) rfl; have cB17_8 := (HM2.out.keep hb7).cell (i := 17) rfl; have cB18_8 := (HM2.out.keep hb7).cell (i := 18) rfl; have cB19_8 := (HM2.out.keep hb7).cell (i := 19) rfl; have cB20_8 := (HM2.out.keep hb7).cell (i := 20) rfl; have cB21_8 := (HM2.out.keep hb7).cell (i := 21) rfl))
                      go_ret
                      exact ⟨by first | rfl | (rw [hRv]; rfl), HBX.out.trans (hb9.mono HBX.out.size)⟩
                  | false =>
                    rw [hb] at KHb
                    have hRv : R = false := by rw [HR.out]; simp_all only [Hid, decide_true, Bool.true_and, Bool.false_and, Bool.and_false, Bool.and_true, Bool.and_self]
                    go_wp2_with (first
                      | (go_at_call 172; refine (KHb.out _ (hb7)).mono ?_; rintro e v8 ⟨rfl, hc8⟩; have hb8 := hb7.trans (hc8.mono hb7.size))
                      | (go_at_call 172; refine (KHa.out _ (Below.refl _ _)).mono ?_; rintro e v7 ⟨rfl, hc7⟩; have hb7 := hc7; have cA15_8 := (HM1.out.keep hb7).cell (i := 15) rfl; have cA16_8 := (HM1.out.keep hb7).cell (i := 16) rfl; have cA17_8 := (HM1.out.keep hb7).cell (i := 17) rfl; have cA18_8 := (HM1.out.keep hb7).cell (i := 18) rfl; have cA19_8 := (HM1.out.keep hb7).cell (i := 19) rfl; have cA20_8 := (HM1.out.keep hb7).cell (i := 20) rfl; have cA21_8 := (HM1.out.keep hb7).cell (i := 21) rfl; have cB15_8 := (HM2.out.keep hb7).cell (i := 15) rfl; have cB16_8 := (HM2.out.keep hb7).cell (i := 16) rfl; have cB17_8 := (HM2.out.keep hb7).cell (i := 17) rfl; have cB18_8 := (HM2.out.keep hb7).cell (i := 18) rfl; have cB19_8 := (HM2.out.keep hb7).cell (i := 19) rfl; have cB20_8 := (HM2.out.keep hb7).cell (i := 20) rfl; have cB21_8 := (HM2.out.keep hb7).cell (i := 21) rfl))
                    go_ret
                    exact ⟨by first | rfl | (rw [hRv]; rfl), HBX.out.trans (hb8.mono HBX.out.size)⟩
                | false =>
                  rw [ha] at KHa
                  have hRv : R = false := by rw [HR.out]; simp_all only [Hid, decide_true, Bool.true_and, Bool.false_and, Bool.and_false, Bool.and_true, Bool.and_self]
                  go_wp2_with (first
                    | (go_at_call 172; refine (KHa.out _ (Below.refl _ _)).mono ?_; rintro e v7 ⟨rfl, hc7⟩; have hb7 := hc7))
                  go_ret
                  exact ⟨by first | rfl | (rw [hRv]; rfl), HBX.out.trans (hb7.mono HBX.out.size)⟩
              · have h7d : decide (it = it') = false := decide_eq_false h7
                have hRv : R = false := by rw [HR.out]; simp_all only [Hid, decide_true, Bool.true_and, Bool.false_and, Bool.and_false, Bool.and_true, Bool.and_self]
                go_wp2_with fail
                go_ret
                exact ⟨by first | rfl | (rw [hRv]; rfl), HBX.out⟩
            · have h6d : decide (dp = dp') = false := decide_eq_false h6
              have hRv : R = false := by rw [HR.out]; simp_all only [Hid, decide_true, Bool.true_and, Bool.false_and, Bool.and_false, Bool.and_true, Bool.and_self]
              go_wp2_with fail
              go_ret
              exact ⟨by first | rfl | (rw [hRv]; rfl), HBX.out⟩
          · have h5d : decide (wd = wd') = false := decide_eq_false h5
            have hRv : R = false := by rw [HR.out]; simp_all only [Hid, decide_true, Bool.true_and, Bool.false_and, Bool.and_false, Bool.and_true, Bool.and_self]
            go_wp2_with fail
            go_ret
            exact ⟨by first | rfl | (rw [hRv]; rfl), HBX.out⟩
        · have h4d : decide (rl = rl') = false := decide_eq_false h4
          have hRv : R = false := by rw [HR.out]; simp_all only [Hid, decide_true, Bool.true_and, Bool.false_and, Bool.and_false, Bool.and_true, Bool.and_self]
          go_wp2_with fail
          go_ret
          exact ⟨by first | rfl | (rw [hRv]; rfl), HBX.out⟩
      · have h3d : decide (o_ = o_') = false := decide_eq_false h3
        have hRv : R = false := by rw [HR.out]; simp_all only [Hid, decide_true, Bool.true_and, Bool.false_and, Bool.and_false, Bool.and_true, Bool.and_self]
        go_wp2_with fail
        go_ret
        exact ⟨by first | rfl | (rw [hRv]; rfl), HBX.out⟩
    · have h2d : decide (nm = nm') = false := decide_eq_false h2
      have hRv : R = false := by rw [HR.out]; simp_all only [Hid, decide_true, Bool.true_and, Bool.false_and, Bool.and_false, Bool.and_true, Bool.and_self]
      go_wp2_with fail
      go_ret
      exact ⟨by first | rfl | (rw [hRv]; rfl), HBX.out⟩
  · have h1d : decide (kd = kd') = false := decide_eq_false h1
    have h1b : (kd == kd') = false := by simpa using h1
    have hRv : R = false := by rw [HR.out]; simp_all only [Hid, decide_true, Bool.true_and, Bool.false_and, Bool.and_false, Bool.and_true, Bool.and_self]
    go_wp2_with fail
    go_ret
    exact ⟨by first | rfl | (rw [hRv]; rfl), HBX.out⟩
end Sy
end Go.Proofs.YtggeepimihhpjaaGreatDoor
