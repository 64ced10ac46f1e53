/- The reference's SameItem. -/
import Derived.Test.YtggeepimihhpjaaGreatDoorU5
namespace Go.Proofs.YtggeepimihhpjaaGreatDoor
open Go.RowKit Go.Shelf Go.Lib Sl Fr Lx
namespace Sy
set_option linter.unusedVariables false
set_option linter.unusedSimpArgs false
attribute [local go_sem high] eq_str neq_str eq_num neq_num eq_bind neq_bind eq_rule neq_rule

set_option maxRecDepth 100000 in
set_option maxHeartbeats 16000000 in
theorem rIt : RIt := by
  intro i i' hsm w S S' cs ds h h'
  obtain ⟨kd, nm, wd, dp, it, ea, eb, ec, rl, o_, args, ports⟩ := i
  obtain ⟨kd', nm', wd', dp', it', ea', eb', ec', rl', o_', args', ports'⟩ := i'
  obtain ⟨s1, s2, s3, s4, s5⟩ := hsm
  obtain ⟨Aa, ca, Ab, cb, Ac, cc, An, cn, Ap, cp, ecs, ra, rb, rc, hn1, hn2, hp1, hp2⟩ := h
  obtain ⟨Aa', ca', Ab', cb', Ac', cc', An', cn', Ap', cp', eds, ra', rb', rc', hn1', hn2', hp1', hp2'⟩ := h'
  unfold iC at ecs eds
  dsimp only at *
  have Ha : ∀ W, Below w.heap.size w W → Calls Tryz.prog 132 #[.agg #[.int .i64 ea.op, .string ⟨ea.nm.toArray⟩, .int .i64 ea.k.n, .string ⟨ea.k.p.toArray⟩, .int .i64 ea.w.n, .string ⟨ea.w.p.toArray⟩, .slice Aa ea.args.length ca], .agg #[.int .i64 ea'.op, .string ⟨ea'.nm.toArray⟩, .int .i64 ea'.k.n, .string ⟨ea'.k.p.toArray⟩, .int .i64 ea'.w.n, .string ⟨ea'.w.p.toArray⟩, .slice Aa' ea'.args.length ca']] W (RetB (eqE ea ea') W) := fun W hb => rE ea ea' s1 W S S' Aa Aa' ca ca' (ER.grown (grown_below hb) (fun g e => by cases e) _ _ ra) (ER.grown (grown_below hb) (fun g e => by cases e) _ _ ra')
  have Hb : ∀ W, Below w.heap.size w W → Calls Tryz.prog 132 #[.agg #[.int .i64 eb.op, .string ⟨eb.nm.toArray⟩, .int .i64 eb.k.n, .string ⟨eb.k.p.toArray⟩, .int .i64 eb.w.n, .string ⟨eb.w.p.toArray⟩, .slice Ab eb.args.length cb], .agg #[.int .i64 eb'.op, .string ⟨eb'.nm.toArray⟩, .int .i64 eb'.k.n, .string ⟨eb'.k.p.toArray⟩, .int .i64 eb'.w.n, .string ⟨eb'.w.p.toArray⟩, .slice Ab' eb'.args.length cb']] W (RetB (eqE eb eb') W) := fun W hb => rE eb eb' s2 W S S' Ab Ab' cb cb' (ER.grown (grown_below hb) (fun g e => by cases e) _ _ rb) (ER.grown (grown_below hb) (fun g e => by cases e) _ _ rb')
  have Hc : ∀ W, Below w.heap.size w W → Calls Tryz.prog 132 #[.agg #[.int .i64 ec.op, .string ⟨ec.nm.toArray⟩, .int .i64 ec.k.n, .string ⟨ec.k.p.toArray⟩, .int .i64 ec.w.n, .string ⟨ec.w.p.toArray⟩, .slice Ac ec.args.length cc], .agg #[.int .i64 ec'.op, .string ⟨ec'.nm.toArray⟩, .int .i64 ec'.k.n, .string ⟨ec'.k.p.toArray⟩, .int .i64 ec'.w.n, .string ⟨ec'.w.p.toArray⟩, .slice Ac' ec'.args.length cc']] W (RetB (eqE ec ec') W) := fun W hb => rE ec ec' s3 W S S' Ac Ac' cc cc' (ER.grown (grown_below hb) (fun g e => by cases e) _ _ rc) (ER.grown (grown_below hb) (fun g e => by cases e) _ _ rc')
  have HN1 := Lib.hid hn2
  have HN2 := Lib.hid hn2'
  have HP1 := Lib.hid hp2
  have HP2 := Lib.hid hp2'
  have HS4 := Lib.hid s4
  have HS5 := Lib.hid s5
  clear ra rb rc hn2 hp2 ra' rb' rc' hn2' hp2' s1 s2 s3 s4 s5 hn1 hn1' hp1 hp1'
  generalize hR : eqI _ _ = R
  have hR' : R = (decide (kd = kd') && (decide (nm = nm') && (decide (o_ = o_') && (decide (rl = rl') && (decide (wd = wd') && (decide (dp = dp') && (decide (it = it') && (eqE ea ea' && (eqE eb eb' && (eqE ec ec' && (eqL eqD args args' && eqL eqD ports ports'))))))))))) := by rw [← hR]; rfl
  clear hR
  have HR := Lib.hid hR'
  have ECS := Lib.hid ecs
  have EDS := Lib.hid eds
  clear hR' ecs eds
  go_enter Tryz.func84, Tryz.ntmps84
  go_upto_region 1 with (first
    | (refine wpList_box_any rfl 69 _ rfl cs rfl ?_; intro X1 b1 e1 m1 k1; subst e1)
    | (refine wpList_box_any rfl 69 _ rfl ds rfl ?_; intro X b2 e2 m2 k2; subst e2))
  have HBX := Lib.hid (k1.trans (k2.mono k1.size))
  have M1 := m1.keep k2
  have M2 := m2
  rw [ECS.out] at M1
  rw [EDS.out] at M2
  clear m1 m2 k1 k2
  have HM1 := Lib.hid M1
  have HM2 := Lib.hid M2
  clear M1 M2
  have KHa : Hid (∀ W, Below X.heap.size X W → Calls Tryz.prog 132 #[.agg #[.int .i64 ea.op, .string ⟨ea.nm.toArray⟩, .int .i64 ea.k.n, .string ⟨ea.k.p.toArray⟩, .int .i64 ea.w.n, .string ⟨ea.w.p.toArray⟩, .slice Aa ea.args.length ca], .agg #[.int .i64 ea'.op, .string ⟨ea'.nm.toArray⟩, .int .i64 ea'.k.n, .string ⟨ea'.k.p.toArray⟩, .int .i64 ea'.w.n, .string ⟨ea'.w.p.toArray⟩, .slice Aa' ea'.args.length ca']] W (RetB (eqE ea ea') W)) := Lib.hid (fun W hb => Ha W (HBX.out.trans (hb.mono HBX.out.size)))
  have KHb : Hid (∀ W, Below X.heap.size X W → Calls Tryz.prog 132 #[.agg #[.int .i64 eb.op, .string ⟨eb.nm.toArray⟩, .int .i64 eb.k.n, .string ⟨eb.k.p.toArray⟩, .int .i64 eb.w.n, .string ⟨eb.w.p.toArray⟩, .slice Ab eb.args.length cb], .agg #[.int .i64 eb'.op, .string ⟨eb'.nm.toArray⟩, .int .i64 eb'.k.n, .string ⟨eb'.k.p.toArray⟩, .int .i64 eb'.w.n, .string ⟨eb'.w.p.toArray⟩, .slice Ab' eb'.args.length cb']] W (RetB (eqE eb eb') W)) := Lib.hid (fun W hb => Hb W (HBX.out.trans (hb.mono HBX.out.size)))
  have KHc : Hid (∀ W, Below X.heap.size X W → Calls Tryz.prog 132 #[.agg #[.int .i64 ec.op, .string ⟨ec.nm.toArray⟩, .int .i64 ec.k.n, .string ⟨ec.k.p.toArray⟩, .int .i64 ec.w.n, .string ⟨ec.w.p.toArray⟩, .slice Ac ec.args.length cc], .agg #[.int .i64 ec'.op, .string ⟨ec'.nm.toArray⟩, .int .i64 ec'.k.n, .string ⟨ec'.k.p.toArray⟩, .int .i64 ec'.w.n, .string ⟨ec'.w.p.toArray⟩, .slice Ac' ec'.args.length cc']] W (RetB (eqE ec ec') W)) := Lib.hid (fun W hb => Hc W (HBX.out.trans (hb.mono HBX.out.size)))
  clear Ha Hb Hc
  have cA0 := HM1.out.cell (i := 0) rfl
  have cB0 := HM2.out.cell (i := 0) rfl
  by_cases h1 : kd = kd'
  · subst h1
    have cA1 := HM1.out.cell (i := 1) rfl
    have cB1 := HM2.out.cell (i := 1) rfl
    by_cases h2 : nm = nm'
    · subst h2
      have cA2 := HM1.out.cell (i := 2) rfl
      have cA3 := HM1.out.cell (i := 3) rfl
      have cB2 := HM2.out.cell (i := 2) rfl
      have cB3 := HM2.out.cell (i := 3) rfl
      by_cases h3 : wd = wd'
      · subst h3
        have cA4 := HM1.out.cell (i := 4) rfl
        have cA5 := HM1.out.cell (i := 5) rfl
        have cB4 := HM2.out.cell (i := 4) rfl
        have cB5 := HM2.out.cell (i := 5) rfl
        by_cases h4 : dp = dp'
        · subst h4
          have cA6 := HM1.out.cell (i := 6) rfl
          have cA7 := HM1.out.cell (i := 7) rfl
          have cB6 := HM2.out.cell (i := 6) rfl
          have cB7 := HM2.out.cell (i := 7) rfl
          by_cases h5 : it = it'
          · subst h5
            have cA29 := HM1.out.cell (i := 29) rfl
            have cA30 := HM1.out.cell (i := 30) rfl
            have cA31 := HM1.out.cell (i := 31) rfl
            have cB29 := HM2.out.cell (i := 29) rfl
            have cB30 := HM2.out.cell (i := 30) rfl
            have cB31 := HM2.out.cell (i := 31) rfl
            by_cases h6 : rl = rl'
            · subst h6
              have cA32 := HM1.out.cell (i := 32) rfl
              have cB32 := HM2.out.cell (i := 32) rfl
              by_cases h7 : o_ = o_'
              · subst h7
                have cA33 := HM1.out.cell (i := 33) rfl
                have cA34 := HM1.out.cell (i := 34) rfl
                have cB33 := HM2.out.cell (i := 33) rfl
                have cB34 := HM2.out.cell (i := 34) rfl
                by_cases hL1 : args.length = args'.length
                · have HL1 := Lib.hid hL1
                  by_cases hL2 : ports.length = ports'.length
                  · have HL2 := Lib.hid hL2
                    rw [← HL1.out] at cB33
                    rw [← HL2.out] at cB34
                    clear hL1 hL2
                    have n1 : args.length ≤ 281474976710656 := by rw [HL1.out]; exact HS4.out
                    have n2 : ports.length ≤ 281474976710656 := by rw [HL2.out]; exact HS5.out
                    go_wp2_with fail
                    go_loopw [5] (EqAt eqD args args' X) (fun i _ => args.length - (RowKit.intOf i).toNat)
                    case atStart => exact ⟨0, rfl, Nat.zero_le _, fun j x y h => absurd h (Nat.not_lt_zero _), Below.refl _ _⟩
                    case round =>
                      obtain ⟨k, rfl, hk, hall, hb⟩ := hrel
                      have HALL33 := Lib.hid hall
                      have HBL := Lib.hid hb
                      clear hall hb cA0 cA1 cA2 cA3 cA4 cA5 cA6 cA7 cA29 cA30 cA31 cA32 cA33 cA34 cB0 cB1 cB2 cB3 cB4 cB5 cB6 cB7 cB29 cB30 cB31 cB32 cB33 cB34
                      have q1 := HM1.out.keep HBL.out
                      have q2 := HM2.out.keep HBL.out
                      have cA33 := q1.cell (i := 33) rfl
                      have cB33 := q2.cell (i := 33) rfl
                      have cA34 := q1.cell (i := 34) rfl
                      have cB34 := q2.cell (i := 34) rfl
                      rw [← HL1.out] at cB33
                      rw [← HL2.out] at cB34
                      by_cases hlt : k < args.length
                      · obtain ⟨x, hx⟩ : ∃ x, args[k]? = some x := ⟨args[k], List.getElem?_eq_getElem hlt⟩
                        obtain ⟨y, hy⟩ : ∃ y, args'[k]? = some y := ⟨args'[k]'(by rw [← HL1.out]; exact hlt), List.getElem?_eq_getElem _⟩
                        have hbW : Below w.heap.size w wr := HBX.out.trans (HBL.out.mono HBX.out.size)
                        obtain ⟨gA0, gA1⟩ := numsC_get hx
                        obtain ⟨bA, oA, rfl, hbA, hcA⟩ := (HN1.out.grown (grown_below hbW) (fun g e => by cases e)).get gA0
                        obtain ⟨gB0, gB1⟩ := numsC_get hy
                        obtain ⟨bB, oB, rfl, hbB, hcB⟩ := (HN2.out.grown (grown_below hbW) (fun g e => by cases e)).get gB0
                        have HX := Lib.hid hx
                        have HY := Lib.hid hy
                        have lA := q1.lt
                        have lB := q2.lt
                        have zA : ∀ p : Later wr, p.val.cell? ⟨w.heap.size, 33, none⟩ = some (.slice (some ⟨bA, oA, none⟩) args.length cn) := fun p => Later.cell (a := ⟨w.heap.size, 33, none⟩) cA33 lA p
                        have zB : ∀ p : Later wr, p.val.cell? ⟨X1.heap.size, 33, none⟩ = some (.slice (some ⟨bB, oB, none⟩) args.length cn') := fun p => Later.cell (a := ⟨X1.heap.size, 33, none⟩) cB33 lB p
                        have zA0 : ∀ p : Later wr, p.val.cell? ⟨bA, oA + k * 2, none⟩ = some (.int .i64 x.n) := fun p => Later.cell (a := ⟨bA, oA + k * 2, none⟩) (hcA _ _ gA0) hbA p
                        have zA1 : ∀ p : Later wr, p.val.cell? ⟨bA, oA + k * 2 + 1, none⟩ = some (.string ⟨x.p.toArray⟩) := fun p => Later.cell (a := ⟨bA, oA + k * 2 + 1, none⟩) (by have q := (hcA _ _ gA1); rwa [← Nat.add_assoc] at q) hbA p
                        have zB0 : ∀ p : Later wr, p.val.cell? ⟨bB, oB + k * 2, none⟩ = some (.int .i64 y.n) := fun p => Later.cell (a := ⟨bB, oB + k * 2, none⟩) (hcB _ _ gB0) hbB p
                        have zB1 : ∀ p : Later wr, p.val.cell? ⟨bB, oB + k * 2 + 1, none⟩ = some (.string ⟨y.p.toArray⟩) := fun p => Later.cell (a := ⟨bB, oB + k * 2 + 1, none⟩) (by have q := (hcB _ _ gB1); rwa [← Nat.add_assoc] at q) hbB p
                        have hi0 : ¬ (k : Int) < 0 := by omega
                        have hi1 : (k : Int) < (args.length : Int) := by omega
                        clear hx hy hcA hcB gA0 gA1 gB0 gB1 q1 q2
                        cases hxy : decide (x = y) with
                        | false =>
                          have hxb : (x == y) = false := beq_eq_false_iff_ne.2 (of_decide_eq_false hxy)
                          have hxn : ¬ x = y := of_decide_eq_false hxy
                          go_upto_region 8 with fail
                          refine wp_region_later (by kernel_rfl) (by kernel_rfl) ?_
                          repeat (go_big_quiet_step (fail))
                          refine wpQuiet_nil ?_
                          intro _ hw'
                          obtain ⟨q, hw''⟩ := hw'
                          subst hw''
                          have hbq := q.below
                          generalize q.val = W5 at *
                          clear zA zB zA0 zA1 zB0 zB1
                          try rw [hxy]
                          go_wp2_with fail
                          go_ret
                          have hRv : R = false := by rw [HR.out, eqL_no HX.out HY.out (E := eqD) (by unfold eqD; exact hxy)]; simp only [Bool.false_and, Bool.and_false]
                          exact ⟨by first | rfl | (rw [hRv]; rfl), HBX.out.trans ((HBL.out.trans (hbq.mono HBL.out.size)).mono HBX.out.size)⟩
                        | true =>
                          have hxb : (x == y) = true := beq_iff_eq.2 (of_decide_eq_true hxy)
                          go_upto_region 8 with fail
                          refine wp_region_later (by kernel_rfl) (by kernel_rfl) ?_
                          repeat (go_big_quiet_step (fail))
                          refine wpQuiet_nil ?_
                          intro _ hw'
                          obtain ⟨q, hw''⟩ := hw'
                          subst hw''
                          have hbq := q.below
                          generalize q.val = W5 at *
                          clear zA zB zA0 zA1 zB0 zB1
                          try rw [hxy]
                          go_wp2_with fail
                          go_roundw
                          case rel => exact ⟨k + 1, by go_num, by omega, (fun j x' y' hj h1 h2 => by
                            rcases Nat.lt_or_ge j k with h | h
                            · exact HALL33.out j x' y' h h1 h2
                            · obtain rfl : j = k := by omega
                              rw [HX.out] at h1; rw [HY.out] at h2
                              injection h1 with h1; injection h2 with h2
                              rw [← h1, ← h2]; unfold eqD; exact hxy), HBL.out.trans (hbq.mono HBL.out.size)⟩
                          case measure => simp [RowKit.intOf]; omega
                      · have hkk : k = args.length := by omega
                        have HT33 : Hid (eqL eqD args args' = true) := Lib.hid (eqL_yes HL1.out fun j x y h1 h2 => HALL33.out j x y (by have := (List.getElem?_eq_some_iff.1 h1).1; omega) h1 h2)
                        clear q1 q2
                        go_wp2_with fail
                        go_loopw [6] (EqAt eqD ports ports' X) (fun i _ => ports.length - (RowKit.intOf i).toNat)
                        case atStart => exact ⟨0, rfl, Nat.zero_le _, fun j x y h => absurd h (Nat.not_lt_zero _), HBL.out⟩
                        case round =>
                          obtain ⟨k, rfl, hk, hall, hb⟩ := hrel
                          have HALL34 := Lib.hid hall
                          have HBL := Lib.hid hb
                          clear hall hb cA33 cB33 cA34 cB34 hkk
                          have q1 := HM1.out.keep HBL.out
                          have q2 := HM2.out.keep HBL.out
                          have cA33 := q1.cell (i := 33) rfl
                          have cB33 := q2.cell (i := 33) rfl
                          have cA34 := q1.cell (i := 34) rfl
                          have cB34 := q2.cell (i := 34) rfl
                          rw [← HL1.out] at cB33
                          rw [← HL2.out] at cB34
                          by_cases hlt : k < ports.length
                          · obtain ⟨x, hx⟩ : ∃ x, ports[k]? = some x := ⟨ports[k], List.getElem?_eq_getElem hlt⟩
                            obtain ⟨y, hy⟩ : ∃ y, ports'[k]? = some y := ⟨ports'[k]'(by rw [← HL2.out]; exact hlt), List.getElem?_eq_getElem _⟩
                            have hbW : Below w.heap.size w wr := HBX.out.trans (HBL.out.mono HBX.out.size)
                            obtain ⟨gA0, gA1⟩ := bindsC_get hx
                            obtain ⟨bA, oA, rfl, hbA, hcA⟩ := (HP1.out.grown (grown_below hbW) (fun g e => by cases e)).get gA0
                            obtain ⟨gB0, gB1⟩ := bindsC_get hy
                            obtain ⟨bB, oB, rfl, hbB, hcB⟩ := (HP2.out.grown (grown_below hbW) (fun g e => by cases e)).get gB0
                            have HX := Lib.hid hx
                            have HY := Lib.hid hy
                            have lA := q1.lt
                            have lB := q2.lt
                            have zA : ∀ p : Later wr, p.val.cell? ⟨w.heap.size, 34, none⟩ = some (.slice (some ⟨bA, oA, none⟩) ports.length cp) := fun p => Later.cell (a := ⟨w.heap.size, 34, none⟩) cA34 lA p
                            have zB : ∀ p : Later wr, p.val.cell? ⟨X1.heap.size, 34, none⟩ = some (.slice (some ⟨bB, oB, none⟩) ports.length cp') := fun p => Later.cell (a := ⟨X1.heap.size, 34, none⟩) cB34 lB p
                            have zA0 : ∀ p : Later wr, p.val.cell? ⟨bA, oA + k * 2, none⟩ = some (.string ⟨x.port.toArray⟩) := fun p => Later.cell (a := ⟨bA, oA + k * 2, none⟩) (hcA _ _ gA0) hbA p
                            have zA1 : ∀ p : Later wr, p.val.cell? ⟨bA, oA + k * 2 + 1, none⟩ = some (.string ⟨x.chan.toArray⟩) := fun p => Later.cell (a := ⟨bA, oA + k * 2 + 1, none⟩) (by have q := (hcA _ _ gA1); rwa [← Nat.add_assoc] at q) hbA p
                            have zB0 : ∀ p : Later wr, p.val.cell? ⟨bB, oB + k * 2, none⟩ = some (.string ⟨y.port.toArray⟩) := fun p => Later.cell (a := ⟨bB, oB + k * 2, none⟩) (hcB _ _ gB0) hbB p
                            have zB1 : ∀ p : Later wr, p.val.cell? ⟨bB, oB + k * 2 + 1, none⟩ = some (.string ⟨y.chan.toArray⟩) := fun p => Later.cell (a := ⟨bB, oB + k * 2 + 1, none⟩) (by have q := (hcB _ _ gB1); rwa [← Nat.add_assoc] at q) hbB p
                            have hi0 : ¬ (k : Int) < 0 := by omega
                            have hi1 : (k : Int) < (ports.length : Int) := by omega
                            clear hx hy hcA hcB gA0 gA1 gB0 gB1 q1 q2
                            cases hxy : decide (x = y) with
                            | false =>
                              have hxb : (x == y) = false := beq_eq_false_iff_ne.2 (of_decide_eq_false hxy)
                              have hxn : ¬ x = y := of_decide_eq_false hxy
                              go_upto_region 13 with fail
                              refine wp_region_later (by kernel_rfl) (by kernel_rfl) ?_
                              repeat (go_big_quiet_step (fail))
                              refine wpQuiet_nil ?_
                              intro _ hw'
                              obtain ⟨q, hw''⟩ := hw'
                              subst hw''
                              have hbq := q.below
                              generalize q.val = W5 at *
                              clear zA zB zA0 zA1 zB0 zB1
                              try rw [hxy]
                              go_wp2_with fail
                              go_ret
                              have hRv : R = false := by rw [HR.out, eqL_no HX.out HY.out (E := eqD) (by unfold eqD; exact hxy)]; simp only [Bool.false_and, Bool.and_false]
                              exact ⟨by first | rfl | (rw [hRv]; rfl), HBX.out.trans ((HBL.out.trans (hbq.mono HBL.out.size)).mono HBX.out.size)⟩
                            | true =>
                              have hxb : (x == y) = true := beq_iff_eq.2 (of_decide_eq_true hxy)
                              go_upto_region 13 with fail
                              refine wp_region_later (by kernel_rfl) (by kernel_rfl) ?_
                              repeat (go_big_quiet_step (fail))
                              refine wpQuiet_nil ?_
                              intro _ hw'
                              obtain ⟨q, hw''⟩ := hw'
                              subst hw''
                              have hbq := q.below
                              generalize q.val = W5 at *
                              clear zA zB zA0 zA1 zB0 zB1
                              try rw [hxy]
                              go_wp2_with fail
                              go_roundw
                              case rel => exact ⟨k + 1, by go_num, by omega, (fun j x' y' hj h1 h2 => by
                                rcases Nat.lt_or_ge j k with h | h
                                · exact HALL34.out j x' y' h h1 h2
                                · obtain rfl : j = k := by omega
                                  rw [HX.out] at h1; rw [HY.out] at h2
                                  injection h1 with h1; injection h2 with h2
                                  rw [← h1, ← h2]; unfold eqD; exact hxy), HBL.out.trans (hbq.mono HBL.out.size)⟩
                              case measure => simp [RowKit.intOf]; omega
                          · have hkk : k = ports.length := by omega
                            have HT34 : Hid (eqL eqD ports ports' = true) := Lib.hid (eqL_yes HL2.out fun j x y h1 h2 => HALL34.out j x y (by have := (List.getElem?_eq_some_iff.1 h1).1; omega) h1 h2)
                            clear q1 q2
                            have cA8 := (HM1.out.keep HBL.out).cell (i := 8) rfl
                            have cA9 := (HM1.out.keep HBL.out).cell (i := 9) rfl
                            have cA10 := (HM1.out.keep HBL.out).cell (i := 10) rfl
                            have cA11 := (HM1.out.keep HBL.out).cell (i := 11) rfl
                            have cA12 := (HM1.out.keep HBL.out).cell (i := 12) rfl
                            have cA13 := (HM1.out.keep HBL.out).cell (i := 13) rfl
                            have cA14 := (HM1.out.keep HBL.out).cell (i := 14) rfl
                            have cB8 := (HM2.out.keep HBL.out).cell (i := 8) rfl
                            have cB9 := (HM2.out.keep HBL.out).cell (i := 9) rfl
                            have cB10 := (HM2.out.keep HBL.out).cell (i := 10) rfl
                            have cB11 := (HM2.out.keep HBL.out).cell (i := 11) rfl
                            have cB12 := (HM2.out.keep HBL.out).cell (i := 12) rfl
                            have cB13 := (HM2.out.keep HBL.out).cell (i := 13) rfl
                            have cB14 := (HM2.out.keep HBL.out).cell (i := 14) rfl
                            cases ha : eqE ea ea' with
                            | true =>
                              rw [ha] at KHa
                              cases hb : eqE eb eb' with
                              | true =>
                                rw [hb] at KHb
                                cases hc : eqE ec ec' with
                                | true =>
                                  rw [hc] at KHc
                                  have hRv : R = true := by rw [HR.out, HT33.out, HT34.out]; simp only [ha, hb, hc, decide_true, Bool.true_and, Bool.and_true, Bool.false_and, Bool.and_false, Bool.and_self]
                                  go_wp2_with (first
                                    | (go_at_call 132; refine (KHc.out _ hq2).mono ?_; rintro e v2 ⟨rfl, hv2⟩; have hq3 := hq2.trans (hv2.mono hq2.size))
                                    | (go_at_call 132; refine (KHb.out _ hq1).mono ?_; rintro e v1 ⟨rfl, hv1⟩; have hq2 := hq1.trans (hv1.mono hq1.size); have cA22_1 := (HM1.out.keep hq2).cell (i := 22) rfl; have cA23_1 := (HM1.out.keep hq2).cell (i := 23) rfl; have cA24_1 := (HM1.out.keep hq2).cell (i := 24) rfl; have cA25_1 := (HM1.out.keep hq2).cell (i := 25) rfl; have cA26_1 := (HM1.out.keep hq2).cell (i := 26) rfl; have cA27_1 := (HM1.out.keep hq2).cell (i := 27) rfl; have cA28_1 := (HM1.out.keep hq2).cell (i := 28) rfl; have cB22_1 := (HM2.out.keep hq2).cell (i := 22) rfl; have cB23_1 := (HM2.out.keep hq2).cell (i := 23) rfl; have cB24_1 := (HM2.out.keep hq2).cell (i := 24) rfl; have cB25_1 := (HM2.out.keep hq2).cell (i := 25) rfl; have cB26_1 := (HM2.out.keep hq2).cell (i := 26) rfl; have cB27_1 := (HM2.out.keep hq2).cell (i := 27) rfl; have cB28_1 := (HM2.out.keep hq2).cell (i := 28) rfl)
                                    | (go_at_call 132; refine (KHa.out _ HBL.out).mono ?_; rintro e v0 ⟨rfl, hv0⟩; have hq1 := HBL.out.trans (hv0.mono HBL.out.size); have cA15_0 := (HM1.out.keep hq1).cell (i := 15) rfl; have cA16_0 := (HM1.out.keep hq1).cell (i := 16) rfl; have cA17_0 := (HM1.out.keep hq1).cell (i := 17) rfl; have cA18_0 := (HM1.out.keep hq1).cell (i := 18) rfl; have cA19_0 := (HM1.out.keep hq1).cell (i := 19) rfl; have cA20_0 := (HM1.out.keep hq1).cell (i := 20) rfl; have cA21_0 := (HM1.out.keep hq1).cell (i := 21) rfl; have cB15_0 := (HM2.out.keep hq1).cell (i := 15) rfl; have cB16_0 := (HM2.out.keep hq1).cell (i := 16) rfl; have cB17_0 := (HM2.out.keep hq1).cell (i := 17) rfl; have cB18_0 := (HM2.out.keep hq1).cell (i := 18) rfl; have cB19_0 := (HM2.out.keep hq1).cell (i := 19) rfl; have cB20_0 := (HM2.out.keep hq1).cell (i := 20) rfl; have cB21_0 := (HM2.out.keep hq1).cell (i := 21) rfl))
                                  go_ret
                                  exact ⟨by first | rfl | (rw [hRv]; rfl), HBX.out.trans (hq3.mono HBX.out.size)⟩
                                | false =>
                                  rw [hc] at KHc
                                  have hRv : R = false := by rw [HR.out, HT33.out, HT34.out]; simp only [ha, hb, hc, decide_true, Bool.true_and, Bool.and_true, Bool.false_and, Bool.and_false, Bool.and_self]
                                  go_wp2_with (first
                                    | (go_at_call 132; refine (KHc.out _ hq2).mono ?_; rintro e v2 ⟨rfl, hv2⟩; have hq3 := hq2.trans (hv2.mono hq2.size))
                                    | (go_at_call 132; refine (KHb.out _ hq1).mono ?_; rintro e v1 ⟨rfl, hv1⟩; have hq2 := hq1.trans (hv1.mono hq1.size); have cA22_1 := (HM1.out.keep hq2).cell (i := 22) rfl; have cA23_1 := (HM1.out.keep hq2).cell (i := 23) rfl; have cA24_1 := (HM1.out.keep hq2).cell (i := 24) rfl; have cA25_1 := (HM1.out.keep hq2).cell (i := 25) rfl; have cA26_1 := (HM1.out.keep hq2).cell (i := 26) rfl; have cA27_1 := (HM1.out.keep hq2).cell (i := 27) rfl; have cA28_1 := (HM1.out.keep hq2).cell (i := 28) rfl; have cB22_1 := (HM2.out.keep hq2).cell (i := 22) rfl; have cB23_1 := (HM2.out.keep hq2).cell (i := 23) rfl; have cB24_1 := (HM2.out.keep hq2).cell (i := 24) rfl; have cB25_1 := (HM2.out.keep hq2).cell (i := 25) rfl; have cB26_1 := (HM2.out.keep hq2).cell (i := 26) rfl; have cB27_1 := (HM2.out.keep hq2).cell (i := 27) rfl; have cB28_1 := (HM2.out.keep hq2).cell (i := 28) rfl)
                                    | (go_at_call 132; refine (KHa.out _ HBL.out).mono ?_; rintro e v0 ⟨rfl, hv0⟩; have hq1 := HBL.out.trans (hv0.mono HBL.out.size); have cA15_0 := (HM1.out.keep hq1).cell (i := 15) rfl; have cA16_0 := (HM1.out.keep hq1).cell (i := 16) rfl; have cA17_0 := (HM1.out.keep hq1).cell (i := 17) rfl; have cA18_0 := (HM1.out.keep hq1).cell (i := 18) rfl; have cA19_0 := (HM1.out.keep hq1).cell (i := 19) rfl; have cA20_0 := (HM1.out.keep hq1).cell (i := 20) rfl; have cA21_0 := (HM1.out.keep hq1).cell (i := 21) rfl; have cB15_0 := (HM2.out.keep hq1).cell (i := 15) rfl; have cB16_0 := (HM2.out.keep hq1).cell (i := 16) rfl; have cB17_0 := (HM2.out.keep hq1).cell (i := 17) rfl; have cB18_0 := (HM2.out.keep hq1).cell (i := 18) rfl; have cB19_0 := (HM2.out.keep hq1).cell (i := 19) rfl; have cB20_0 := (HM2.out.keep hq1).cell (i := 20) rfl; have cB21_0 := (HM2.out.keep hq1).cell (i := 21) rfl))
                                  go_ret
                                  exact ⟨by first | rfl | (rw [hRv]; rfl), HBX.out.trans (hq3.mono HBX.out.size)⟩
                              | false =>
                                rw [hb] at KHb
                                have hRv : R = false := by rw [HR.out, hb]; simp only [Bool.false_and, Bool.and_false]
                                go_wp2_with (first
                                  | (go_at_call 132; refine (KHb.out _ hq1).mono ?_; rintro e v1 ⟨rfl, hv1⟩; have hq2 := hq1.trans (hv1.mono hq1.size))
                                  | (go_at_call 132; refine (KHa.out _ HBL.out).mono ?_; rintro e v0 ⟨rfl, hv0⟩; have hq1 := HBL.out.trans (hv0.mono HBL.out.size); have cA15_0 := (HM1.out.keep hq1).cell (i := 15) rfl; have cA16_0 := (HM1.out.keep hq1).cell (i := 16) rfl; have cA17_0 := (HM1.out.keep hq1).cell (i := 17) rfl; have cA18_0 := (HM1.out.keep hq1).cell (i := 18) rfl; have cA19_0 := (HM1.out.keep hq1).cell (i := 19) rfl; have cA20_0 := (HM1.out.keep hq1).cell (i := 20) rfl; have cA21_0 := (HM1.out.keep hq1).cell (i := 21) rfl; have cB15_0 := (HM2.out.keep hq1).cell (i := 15) rfl; have cB16_0 := (HM2.out.keep hq1).cell (i := 16) rfl; have cB17_0 := (HM2.out.keep hq1).cell (i := 17) rfl; have cB18_0 := (HM2.out.keep hq1).cell (i := 18) rfl; have cB19_0 := (HM2.out.keep hq1).cell (i := 19) rfl; have cB20_0 := (HM2.out.keep hq1).cell (i := 20) rfl; have cB21_0 := (HM2.out.keep hq1).cell (i := 21) rfl))
                                go_ret
                                exact ⟨by first | rfl | (rw [hRv]; rfl), HBX.out.trans (hq2.mono HBX.out.size)⟩
                            | false =>
                              rw [ha] at KHa
                              have hRv : R = false := by rw [HR.out, ha]; simp only [Bool.false_and, Bool.and_false]
                              go_wp2_with (first
                                | (go_at_call 132; refine (KHa.out _ HBL.out).mono ?_; rintro e v0 ⟨rfl, hv0⟩; have hq1 := HBL.out.trans (hv0.mono HBL.out.size)))
                              go_ret
                              exact ⟨by first | rfl | (rw [hRv]; rfl), HBX.out.trans (hq1.mono HBX.out.size)⟩
                  · skip
                    have hne : ¬ ((ports.length : Int) = (ports'.length : Int)) := by omega
                    have hne2 : ((ports.length : Int) != (ports'.length : Int)) = true := by simpa using hne
                    have hne3 : (ports.length != ports'.length) = true := by simpa using hL2
                    have hne4 : (ports.length == ports'.length) = false := by simpa using hL2
                    have hRv : R = false := by rw [HR.out, eqL_len (E := eqD) hL2]; simp only [Bool.false_and, Bool.and_false]
                    go_wp2_with fail
                    go_ret
                    exact ⟨by first | rfl | (rw [hRv]; rfl), HBX.out⟩
                · skip
                  have hne : ¬ ((args.length : Int) = (args'.length : Int)) := by omega
                  have hne2 : ((args.length : Int) != (args'.length : Int)) = true := by simpa using hne
                  have hne3 : (args.length != args'.length) = true := by simpa using hL1
                  have hne4 : (args.length == args'.length) = false := by simpa using hL1
                  have hRv : R = false := by rw [HR.out, eqL_len (E := eqD) hL1]; simp only [Bool.false_and, Bool.and_false]
                  go_wp2_with fail
                  go_ret
                  exact ⟨by first | rfl | (rw [hRv]; rfl), HBX.out⟩
              · skip
                have h7d : decide (o_ = o_') = false := decide_eq_false h7
                have h7b : (o_ == o_') = false := beq_eq_false_iff_ne.2 h7
                have hRv : R = false := by rw [HR.out, h7d]; simp only [Bool.false_and, Bool.and_false]
                go_wp2_with fail
                go_ret
                exact ⟨by first | rfl | (rw [hRv]; rfl), HBX.out⟩
            · skip
              have h6d : decide (rl = rl') = false := decide_eq_false h6
              have hRv : R = false := by rw [HR.out, h6d]; simp only [Bool.false_and, Bool.and_false]
              go_wp2_with fail
              go_ret
              exact ⟨by first | rfl | (rw [hRv]; rfl), HBX.out⟩
          · skip
            have h5d : decide (it = it') = false := decide_eq_false h5
            have hRv : R = false := by rw [HR.out, h5d]; simp only [Bool.false_and, Bool.and_false]
            go_wp2_with fail
            go_ret
            exact ⟨by first | rfl | (rw [hRv]; rfl), HBX.out⟩
        · skip
          have h4d : decide (dp = dp') = false := decide_eq_false h4
          have hRv : R = false := by rw [HR.out, h4d]; simp only [Bool.false_and, Bool.and_false]
          go_wp2_with fail
          go_ret
          exact ⟨by first | rfl | (rw [hRv]; rfl), HBX.out⟩
      · skip
        have h3d : decide (wd = wd') = false := decide_eq_false h3
        have hRv : R = false := by rw [HR.out, h3d]; simp only [Bool.false_and, Bool.and_false]
        go_wp2_with fail
        go_ret
        exact ⟨by first | rfl | (rw [hRv]; rfl), HBX.out⟩
    · skip
      have h2d : decide (nm = nm') = false := decide_eq_false h2
      have hRv : R = false := by rw [HR.out, h2d]; simp only [Bool.false_and, Bool.and_false]
      go_wp2_with fail
      go_ret
      exact ⟨by first | rfl | (rw [hRv]; rfl), HBX.out⟩
  · skip
    have h1d : decide (kd = kd') = false := decide_eq_false h1
    have h1b : (kd == kd') = false := by simpa using h1
    have h1n : (kd != kd') = true := by simpa using h1
    have hRv : R = false := by rw [HR.out, h1d]; simp only [Bool.false_and, Bool.and_false]
    go_wp2_with fail
    go_ret
    exact ⟨by first | rfl | (rw [hRv]; rfl), HBX.out⟩
end Sy
end Go.Proofs.YtggeepimihhpjaaGreatDoor
