/- DigraphCycles: the walk. -/
import Derived.Test.YtpmmdibidhaggaaH0
namespace Go.Proofs.Ytpmmdibidhaggaa
open Go.RowKit Sl Fr
namespace Gp
set_option linter.unusedVariables false
attribute [local go_sem] field_e


/-- What is known of the cycle's list: no shorter closed walk; a cycle that begins with its least node. -/
structure CycFact (n : Nat) (es : Dgr.Edges) (b : Option (List Nat)) (L : Nat) : Prop where
  len : L ≤ n + 1
  no : ∀ v d, d + 1 < L → ¬ Dgr.Walk es (d + 1) v v
theorem isLeast_len {n : Nat} {es : Dgr.Edges} {l : List Nat} (ok : Dgr.Ok n es) (h : Dgr.IsLeast es l) : l.length ≤ n ∧ ∀ x ∈ l, x < n := by
  have hlt : ∀ x ∈ l, x < n := fun x hx => by
    obtain ⟨i, hi, e⟩ := List.getElem_of_mem hx
    have h1 : l[i]? = some x := by rw [List.getElem?_eq_getElem hi, e]
    have hj : (i + 1) % l.length < l.length := Nat.mod_lt _ h.cyc.pos
    have := h.cyc.edge i x _ h1 (List.getElem?_eq_getElem hj)
    exact (ok _ this).1
  exact ⟨Dgr.nodup_len n l h.cyc.nodup hlt, hlt⟩

set_option maxRecDepth 100000 in
set_option maxHeartbeats 12800000 in
theorem cycles_row (N K : Int) (B : Option Addr) (bs : List Int) (c : Nat) (w : World) (hN : 0 ≤ N ∧ N ≤ 255) (hK : 0 ≤ K ∧ K ≤ 255) (hB : RowIs .u8 w B bs.length c bs) :
    Calls Try.prog 5 #[.agg #[.int .u8 N, .int .u8 K, .slice B bs.length c]] w fun e w' => e = .returned (.bool true) ∧ Below w.heap.size w w' := by
  have hst := start1 w #[.int .u8 N, .int .u8 K, .slice B bs.length c] 24
  have HST := Lib.hid hst
  have HB := Lib.hid hB
  clear hst hB
  go_enter Try.func5, Try.ntmps5
  go_upto_region 6 with (first
    | (go_at_call 10; refine (examples_any _).mono ?_; rintro e w1 ⟨rfl, hb1⟩; obtain ⟨x0, x1, x2⟩ := (HST.out.1.keep hb1).c3; have hbw1 := HST.out.2.trans (hb1.mono HST.out.2.size))
    | (go_at_call 11; refine (made_any N K B bs c _ hN hK ⟨HB.out.hlen, HB.out.hcap, HB.out.arr.keep hbw1, HB.out.nil, HB.out.wf, HB.out.big⟩).mono ?_; rintro e w2 ⟨n, es, A, m, d, rfl, hg, he30, hb2⟩; have hbw2 := hbw1.trans (hb2.mono hbw1.size); have hgl := hg.len; subst hgl; clear x0 x1 x2)
    | (go_at_call 17; refine (cycleL_any n _ es _ _ (hg.arr.keep ((Below.refl _ _).alloc (Nat.le_refl _) _)) hg.ok (by have := hg.n12; omega) (by omega)).mono ?_; rintro e w3 ⟨b, hcyc, A2, m2, c2, ce, rfl, hres, hb3⟩))
  have hn12 := hg.n12
  have hbA := (Below.refl _ w2).alloc (Nat.le_refl _) (.cells #[.int .i64 (n : Int), .slice A es.length d] 31)
  have hst2 := start1 w2 #[.int .i64 (n : Int), .slice A es.length d] 31
  have hst3 := start1 w3 #[.slice A2 m2 c2, .int .i64 ce] 37
  have hbX : Below w.heap.size w (w3.alloc (.cells #[.slice A2 m2 c2, .int .i64 ce] 37)) := (((hbw2.trans (hbA.mono hbw2.size)).trans (hb3.mono (by have := hbw2.size; simp; omega))).alloc (by have := hbw2.size; have := hb3.size; simp at this; omega) _)
  have hGB := (hst2.1.keep hb3).keep hst3.2
  have hEA := (((hg.arr.keep hbA).keep hb3).keep hst3.2)
  have hRes := hres.keep hst3.2
  have hCB := hst3.1
  have HO := Lib.hid hg.ok
  have hlt2 : w2.heap.size < w3.heap.size := by have := hb3.size; simp at this; omega
  have HG := Lib.hid (((hg.keep hbA).keep hb3).keep hst3.2)
  clear hst2 hst3 hres hb3 hg hbA hb2 hbw2 hbw1 hb1 HST HB
  generalize w3.alloc (.cells #[.slice A2 m2 c2, .int .i64 ce] 37) = X at *
  generalize w2.heap.size = gb at *
  generalize w3.heap.size = cb at *
  have HGB := Lib.hid hGB
  have HCB := Lib.hid hCB
  have HEA := Lib.hid hEA
  have hgX := hGB.lt
  have hcX := hCB.lt
  obtain ⟨g0, g1⟩ := hGB.c2
  obtain ⟨e0, e1⟩ := hCB.c2
  -- what the list's length bounds
  obtain ⟨L, l, hLe, hce, hL0, hno, hl2, hrow, hleast, hm12⟩ : ∃ (L : Nat) (l : List Nat), L ≤ n + 1 ∧ (ce = 0 ∧ L = m2 ∧ 0 < m2 ∧ m2 ≤ n ∨ ce = 4 ∧ L = n + 1 ∧ m2 = 0) ∧ 1 ≤ L ∧ (∀ v d, d + 1 < L → ¬ Dgr.Walk es (d + 1) v v) ∧ l.length = m2 ∧ Row X 0 A2 l ∧ (l ≠ [] → Dgr.IsLeast es l) ∧ m2 ≤ 12 := by
    cases b with
    | none =>
      obtain ⟨h1, h2, h3, h4⟩ := hRes.1 rfl
      subst h2
      exact ⟨n + 1, [], Nat.le_refl _, .inr ⟨h4, rfl, rfl⟩, by omega, fun v d _ hw => hcyc v hw.way, rfl, Row.nil _ _ _, fun h => absurd rfl h, by omega⟩
    | some l =>
      obtain ⟨h1, h2, h3, h4⟩ := hRes.2 l rfl
      have hcyc : Dgr.IsLeast es l := hcyc
      have hll := (isLeast_len HO.out hcyc).1
      have hp := hcyc.cyc.pos
      exact ⟨m2, l, by omega, .inl ⟨h4, rfl, by omega, by omega⟩, by omega, fun v d hd => hcyc.walk (by omega), h1.symm, h3.mono (Nat.zero_le _), fun _ => hcyc, by omega⟩
  subst hl2
  obtain ⟨b', o', hrow'⟩ := hrow.open
  have HNO := Lib.hid hno
  have HROW := Lib.hid hrow'
  have HLEAST := Lib.hid hleast
  have hlen0 : (0 : Int) ≤ (l.length : Int) := Int.natCast_nonneg _
  have hmk := run_make_row' (P := Try.prog) 49 4 (.bool false) 1 Try.underlying49 infoBool rfl .i64 .i64 n (by omega) (by omega)
  clear hcyc hRes hno hrow hrow' hleast hGB hCB hEA b
  rcases hce with ⟨rfl, hLm, hc1, hc2⟩ | ⟨rfl, hLm, hc1⟩
  · have hI1 : (1 : Int) ≤ (l.length : Int) := by omega
    have hI2 : (l.length : Int) ≤ (n : Int) := by omega
    subst hLm
    go_wp2
    have hdn : decide (n < l.length) = false := decide_eq_false (by omega)
    have hdl : decide ((l.length : Int) < 1) = false := decide_eq_false (by omega)
    simp only [hdn, hdl, Bool.or_false]
    clear hdn hdl
    go_loopg [7] n (fun g i wr => ∃ v : Nat, i = .int .i64 v ∧ v ≤ n ∧ g = n - v ∧ Below X.heap.size X wr)
    case atStart => exact ⟨0, rfl, Nat.zero_le _, rfl, Below.refl _ _⟩
    case round =>
      obtain ⟨v, rfl, hv, rfl, hbl⟩ := hrel
      have hgw := HGB.out.keep hbl
      obtain ⟨p0, p1⟩ := hgw.c2
      have hbs := hbl.size
      by_cases hlt : v < n
      · have hv1 : (0 : Int) ≤ (v : Int) := Int.natCast_nonneg _
        have hv2 : (v : Int) < (n : Int) := by omega
        have hCM := CellsV.made wr (.bool false) n 4
        have hcy := hCM.cell v hlt
        have hmy := hCM.mark v hlt
        have hlt3 : wr.heap.size < (wr.alloc (.cells (madeCells #[.bool false] n) 4)).heap.size := hCM.lt
        have heq : (wr.alloc (.cells (madeCells #[.bool false] n) 4)).setCell ⟨wr.heap.size, v, none⟩ (.bool true) = wr.alloc (.cells ((madeCells #[.bool false] n).setIfInBounds v (.bool true)) 4) := by simp only [go_sem]
        have HW0 : Hid (CellsV (wr.alloc (.cells ((madeCells #[.bool false] n).setIfInBounds v (.bool true)) 4)) wr.heap.size n (bF (Dgr.walkB es 0 v))) := Lib.hid (heq ▸ hCM.set (G := bF (Dgr.walkB es 0 v)) hlt (by simp [bF, Dgr.walkB]) (fun j hj => by simp [bF, Dgr.walkB, Ne.symm hj]))
        have HBW : Hid (Below X.heap.size X (wr.alloc (.cells ((madeCells #[.bool false] n).setIfInBounds v (.bool true)) 4))) := Lib.hid (heq ▸ (hbl.alloc hbs _).setCell (p := ⟨wr.heap.size, v, none⟩) (by show _ ≤ wr.heap.size; omega) _)
        clear hCM heq
        go_wp2
        go_loopg [8, 9] l.length (fun g s i wr => ∃ k M : Nat, s = .slice (some ⟨M, 0, none⟩) n n ∧ i = .int .i64 ((k : Int) + 1) ∧ k + 1 ≤ l.length ∧ g = l.length - k ∧ CellsV wr M n (bF (Dgr.walkB es k v)) ∧ Below X.heap.size X wr)
        case atStart => exact ⟨0, wr.heap.size, rfl, rfl, hL0, rfl, HW0.out, HBW.out⟩
        case round =>
          obtain ⟨k, M, rfl, rfl, hk, rfl, hCM, hb5⟩ := hrel
          clear HW0 HBW hcy hmy hmk
          have hb5s := hb5.size
          have hGw : Hid (IsG wr n es A es.length d) := Lib.hid (HG.out.keep hb5)
          obtain ⟨q0, q1⟩ := (HGB.out.keep hb5).c2
          by_cases hkl : k + 1 < l.length
          · have hkl2 : (k : Int) + 1 < (l.length : Int) := by omega
            have hfalse : Dgr.walkB es (k + 1) v v = false := by
              cases hq : Dgr.walkB es (k + 1) v v with
              | false => rfl
              | true => exact absurd (Dgr.walkB_iff.1 hq) (HNO.out v k hkl)
            have HCM := Lib.hid hCM
            clear hCM
            go_upto_region 20 with ((go_at_call 30; refine (walk_any n M es.length d A es _ _ hGw.out HCM.out).mono ?_; rintro e w6 ⟨M2, rfl, hM2, hC6, hb6⟩))
            rw [step_walk] at hC6
            have hc6 : w6.cell? ⟨M2, v, none⟩ = some (.bool false) := (hC6.cell v hlt).trans (by rw [bF, hfalse])
            have hm6 := hC6.lt
            have HC6 := Lib.hid hC6
            have hb6' := hb5.trans (hb6.mono hb5s)
            clear hC6
            go_wp2
            go_roundg (l.length - (k + 1))
            case measure => omega
            case rel => exact ⟨k + 1, M2, rfl, by go_num, by omega, rfl, HC6.out, hb6'⟩
          · have hkl2 : ¬ ((k : Int) + 1 < (l.length : Int)) := by omega
            go_wp2
            go_roundg (n - (v + 1))
            case measure => omega
            case rel => exact ⟨v + 1, by go_num, by omega, rfl, hb5⟩
      · clear hmk
        go_wp2
        go_loopg [10] l.length (fun g i wr => ∃ k : Nat, i = .int .i64 k ∧ k ≤ l.length ∧ g = l.length - k ∧ Below X.heap.size X wr)
        case atStart => exact ⟨0, rfl, Nat.zero_le _, rfl, hbl⟩
        case round =>
          clear hgw p0 p1 hbs hbl
          obtain ⟨k, rfl, hk, rfl, hbl⟩ := hrel
          have hbs := hbl.size
          obtain ⟨r0, r1⟩ := (HCB.out.keep hbl).c2
          by_cases hlt2 : k < l.length
          · obtain ⟨x, hx⟩ := get_ex hlt2
            have hne : l ≠ [] := by intro h; subst h; simp at hlt2
            obtain ⟨r, hr⟩ : ∃ r : Nat, r = (k + 1) % l.length := ⟨_, rfl⟩
            have hrl : r < l.length := by rw [hr]; exact Nat.mod_lt _ (by omega)
            obtain ⟨y, hy⟩ := get_ex (l := l) (j := r) hrl
            obtain ⟨x0, hx0⟩ := get_ex (l := l) (j := 0) (by omega)
            obtain ⟨rfl, _, hbb, hc⟩ := HROW.out hne
            have hlst := HLEAST.out hne
            have hedge := hlst.cyc.edge k x y hx (hr ▸ hy)
            have hle := hlst.head hx0 hx
            have hxn : x < n := (HO.out _ hedge).1
            have hyn : y < n := (HO.out _ hedge).2
            have hG1 : ∀ p : Later wr, p.val.cell? ⟨gb, 1, none⟩ = some (.slice A es.length d) := lat hbl hgX g1
            have hG2 : ∀ p : Later wr, p.val.cell? ⟨cb, 0, none⟩ = some (.slice (some ⟨b', o', none⟩) l.length c2) := lat hbl hcX e0
            have hG3 : ∀ p : Later wr, p.val.cell? ⟨b', o' + k, none⟩ = some (.int .i64 (x : Int)) := lat hbl hbb (hc k x hx)
            have hG4 : ∀ p : Later wr, p.val.cell? ⟨b', o' + r, none⟩ = some (.int .i64 (y : Int)) := lat hbl hbb (hc _ y hy)
            have hG5 : ∀ p : Later wr, p.val.cell? ⟨b', o', none⟩ = some (.int .i64 (x0 : Int)) := lat hbl hbb (hc 0 x0 hx0)
            have hd : decide (x < x0) = false := decide_eq_false (by omega)
            have hrem : ((k : Int) + 1).tmod (l.length : Int) = (r : Int) := by rw [hr, show (k : Int) + 1 = ((k + 1 : Nat) : Int) by omega]; exact (Int.ofNat_tmod _ _).symm
            have hr1 : (0 : Int) ≤ (r : Int) := Int.natCast_nonneg _
            have hr2 : (r : Int) < (l.length : Int) := by omega
            clear hr
            have hk1 : (0 : Int) ≤ (k : Int) := Int.natCast_nonneg _
            have hk2 : (k : Int) < (l.length : Int) := by omega
            have hEd : Hid (∀ p : Later wr, Calls Try.prog 29 #[.slice A es.length d, .int .i64 (x : Int), .int .i64 (y : Int)] p.val fun e w' => e = .returned (.bool true) ∧ Below p.val.heap.size p.val w') := Lib.hid fun p => by
              have := edge_any A es d x y p.val ((HEA.out.keep hbl).keep p.below) (by omega) (by omega) (by omega)
              rwa [decide_eq_true hedge] at this
            have HX := Lib.hid hx
            have HND := Lib.hid hlst.cyc.nodup
            have HC := Lib.hid hc
            clear hx hy hx0 hc hlst hedge
            go_upto_region 25 with fail
            refine wp_region_later (by kernel_rfl) (by kernel_rfl) ?_
            repeat (go_big_quiet_step (((go_at_call 29; with_reducible exact later_of (hEd.out _)))))
            refine wpQuiet_nil ?_
            intro _ hw'
            obtain ⟨z, hw''⟩ := hw'
            subst hw''
            have hbz := hbl.trans (z.below.mono hbs)
            clear hG1 hG2 hG3 hG4 hG5 hEd hd hrem hr1 hr2
            go_wp2
            go_loopg [11] k (fun g i wr => ∃ j : Nat, i = .int .i64 j ∧ j ≤ k ∧ g = k - j ∧ Below X.heap.size X wr)
            case atStart => exact ⟨0, rfl, Nat.zero_le _, rfl, hbz⟩
            case round =>
              clear hbz hbl hbs r0 r1
              obtain ⟨j, rfl, hj, rfl, hbl⟩ := hrel
              have hbs := hbl.size
              by_cases hjk : j < k
              · obtain ⟨y2, hy2⟩ := get_ex (l := l) (j := j) (by omega)
                have hne2 : y2 ≠ x := fun e => by
                  subst e
                  have := (List.getElem?_inj (show j < l.length by omega) HND.out).1 (hy2.trans HX.out.symm)
                  omega
                have hd : ((y2 : Int) == (x : Int)) = false := by simp; omega
                have hG2 : ∀ p : Later wr, p.val.cell? ⟨cb, 0, none⟩ = some (.slice (some ⟨b', o', none⟩) l.length c2) := lat hbl hcX e0
                have hG3 : ∀ p : Later wr, p.val.cell? ⟨b', o' + k, none⟩ = some (.int .i64 (x : Int)) := lat hbl hbb (HC.out k x HX.out)
                have hG4 : ∀ p : Later wr, p.val.cell? ⟨b', o' + j, none⟩ = some (.int .i64 (y2 : Int)) := lat hbl hbb (HC.out j y2 hy2)
                have hj1 : (0 : Int) ≤ (j : Int) := Int.natCast_nonneg _
                have hj2 : (j : Int) < (l.length : Int) := by omega
                clear hy2 hne2
                go_upto_region 30 with fail
                refine wp_region_later (by kernel_rfl) (by kernel_rfl) ?_
                repeat (go_big_quiet_step (fail))
                refine wpQuiet_nil ?_
                intro _ hw'
                obtain ⟨z, hw''⟩ := hw'
                subst hw''
                have hbz := hbl.trans (z.below.mono hbs)
                clear hG2 hG3 hG4 hd
                go_wp2
                go_roundg (k - (j + 1))
                case measure => omega
                case rel => exact ⟨j + 1, by go_num, by omega, rfl, hbz⟩
              · go_wp2
                go_roundg (l.length - (k + 1))
                case measure => omega
                case rel => exact ⟨k + 1, by go_num, by omega, rfl, hbl⟩
          · go_wp2
            go_ret
            exact ⟨rfl, hbX.trans (hbl.mono hbX.size)⟩
  · subst hLm
    clear hc1
    go_wp2
    go_loopg [7] n (fun g i wr => ∃ v : Nat, i = .int .i64 v ∧ v ≤ n ∧ g = n - v ∧ Below X.heap.size X wr)
    case atStart => exact ⟨0, rfl, Nat.zero_le _, rfl, Below.refl _ _⟩
    case round =>
      obtain ⟨v, rfl, hv, rfl, hbl⟩ := hrel
      have hgw := HGB.out.keep hbl
      obtain ⟨p0, p1⟩ := hgw.c2
      have hbs := hbl.size
      by_cases hlt : v < n
      · have hv1 : (0 : Int) ≤ (v : Int) := Int.natCast_nonneg _
        have hv2 : (v : Int) < (n : Int) := by omega
        have hCM := CellsV.made wr (.bool false) n 4
        have hcy := hCM.cell v hlt
        have hmy := hCM.mark v hlt
        have hlt3 : wr.heap.size < (wr.alloc (.cells (madeCells #[.bool false] n) 4)).heap.size := hCM.lt
        have heq : (wr.alloc (.cells (madeCells #[.bool false] n) 4)).setCell ⟨wr.heap.size, v, none⟩ (.bool true) = wr.alloc (.cells ((madeCells #[.bool false] n).setIfInBounds v (.bool true)) 4) := by simp only [go_sem]
        have HW0 : Hid (CellsV (wr.alloc (.cells ((madeCells #[.bool false] n).setIfInBounds v (.bool true)) 4)) wr.heap.size n (bF (Dgr.walkB es 0 v))) := Lib.hid (heq ▸ hCM.set (G := bF (Dgr.walkB es 0 v)) hlt (by simp [bF, Dgr.walkB]) (fun j hj => by simp [bF, Dgr.walkB, Ne.symm hj]))
        have HBW : Hid (Below X.heap.size X (wr.alloc (.cells ((madeCells #[.bool false] n).setIfInBounds v (.bool true)) 4))) := Lib.hid (heq ▸ (hbl.alloc hbs _).setCell (p := ⟨wr.heap.size, v, none⟩) (by show _ ≤ wr.heap.size; omega) _)
        clear hCM heq
        go_wp2
        go_loopg [8, 9] (n + 1) (fun g s i wr => ∃ k M : Nat, s = .slice (some ⟨M, 0, none⟩) n n ∧ i = .int .i64 ((k : Int) + 1) ∧ k + 1 ≤ (n + 1) ∧ g = (n + 1) - k ∧ CellsV wr M n (bF (Dgr.walkB es k v)) ∧ Below X.heap.size X wr)
        case atStart => exact ⟨0, wr.heap.size, rfl, rfl, hL0, rfl, HW0.out, HBW.out⟩
        case round =>
          obtain ⟨k, M, rfl, rfl, hk, rfl, hCM, hb5⟩ := hrel
          clear HW0 HBW hcy hmy hmk
          have hb5s := hb5.size
          have hGw : Hid (IsG wr n es A es.length d) := Lib.hid (HG.out.keep hb5)
          obtain ⟨q0, q1⟩ := (HGB.out.keep hb5).c2
          by_cases hkl : k + 1 < (n + 1)
          · have hkl2 : (k : Int) + 1 < ((n : Int) + 1) := by omega
            have hfalse : Dgr.walkB es (k + 1) v v = false := by
              cases hq : Dgr.walkB es (k + 1) v v with
              | false => rfl
              | true => exact absurd (Dgr.walkB_iff.1 hq) (HNO.out v k hkl)
            have HCM := Lib.hid hCM
            clear hCM
            go_upto_region 20 with ((go_at_call 30; refine (walk_any n M es.length d A es _ _ hGw.out HCM.out).mono ?_; rintro e w6 ⟨M2, rfl, hM2, hC6, hb6⟩))
            rw [step_walk] at hC6
            have hc6 : w6.cell? ⟨M2, v, none⟩ = some (.bool false) := (hC6.cell v hlt).trans (by rw [bF, hfalse])
            have hm6 := hC6.lt
            have HC6 := Lib.hid hC6
            have hb6' := hb5.trans (hb6.mono hb5s)
            clear hC6
            go_wp2
            go_roundg ((n + 1) - (k + 1))
            case measure => omega
            case rel => exact ⟨k + 1, M2, rfl, by go_num, by omega, rfl, HC6.out, hb6'⟩
          · have hkl2 : ¬ ((k : Int) + 1 < ((n : Int) + 1)) := by omega
            go_wp2
            go_roundg (n - (v + 1))
            case measure => omega
            case rel => exact ⟨v + 1, by go_num, by omega, rfl, hb5⟩
      · clear hmk
        go_wp2
        go_loopg [10] l.length (fun g i wr => ∃ k : Nat, i = .int .i64 k ∧ k ≤ l.length ∧ g = l.length - k ∧ Below X.heap.size X wr)
        case atStart => exact ⟨0, rfl, Nat.zero_le _, rfl, hbl⟩
        case round =>
          clear hgw p0 p1 hbs hbl
          obtain ⟨k, rfl, hk, rfl, hbl⟩ := hrel
          have hbs := hbl.size
          obtain ⟨r0, r1⟩ := (HCB.out.keep hbl).c2
          by_cases hlt2 : k < l.length
          · obtain ⟨x, hx⟩ := get_ex hlt2
            have hne : l ≠ [] := by intro h; subst h; simp at hlt2
            obtain ⟨r, hr⟩ : ∃ r : Nat, r = (k + 1) % l.length := ⟨_, rfl⟩
            have hrl : r < l.length := by rw [hr]; exact Nat.mod_lt _ (by omega)
            obtain ⟨y, hy⟩ := get_ex (l := l) (j := r) hrl
            obtain ⟨x0, hx0⟩ := get_ex (l := l) (j := 0) (by omega)
            obtain ⟨rfl, _, hbb, hc⟩ := HROW.out hne
            have hlst := HLEAST.out hne
            have hedge := hlst.cyc.edge k x y hx (hr ▸ hy)
            have hle := hlst.head hx0 hx
            have hxn : x < n := (HO.out _ hedge).1
            have hyn : y < n := (HO.out _ hedge).2
            have hG1 : ∀ p : Later wr, p.val.cell? ⟨gb, 1, none⟩ = some (.slice A es.length d) := lat hbl hgX g1
            have hG2 : ∀ p : Later wr, p.val.cell? ⟨cb, 0, none⟩ = some (.slice (some ⟨b', o', none⟩) l.length c2) := lat hbl hcX e0
            have hG3 : ∀ p : Later wr, p.val.cell? ⟨b', o' + k, none⟩ = some (.int .i64 (x : Int)) := lat hbl hbb (hc k x hx)
            have hG4 : ∀ p : Later wr, p.val.cell? ⟨b', o' + r, none⟩ = some (.int .i64 (y : Int)) := lat hbl hbb (hc _ y hy)
            have hG5 : ∀ p : Later wr, p.val.cell? ⟨b', o', none⟩ = some (.int .i64 (x0 : Int)) := lat hbl hbb (hc 0 x0 hx0)
            have hd : decide (x < x0) = false := decide_eq_false (by omega)
            have hrem : ((k : Int) + 1).tmod (l.length : Int) = (r : Int) := by rw [hr, show (k : Int) + 1 = ((k + 1 : Nat) : Int) by omega]; exact (Int.ofNat_tmod _ _).symm
            have hr1 : (0 : Int) ≤ (r : Int) := Int.natCast_nonneg _
            have hr2 : (r : Int) < (l.length : Int) := by omega
            clear hr
            have hk1 : (0 : Int) ≤ (k : Int) := Int.natCast_nonneg _
            have hk2 : (k : Int) < (l.length : Int) := by omega
            have hEd : Hid (∀ p : Later wr, Calls Try.prog 29 #[.slice A es.length d, .int .i64 (x : Int), .int .i64 (y : Int)] p.val fun e w' => e = .returned (.bool true) ∧ Below p.val.heap.size p.val w') := Lib.hid fun p => by
              have := edge_any A es d x y p.val ((HEA.out.keep hbl).keep p.below) (by omega) (by omega) (by omega)
              rwa [decide_eq_true hedge] at this
            have HX := Lib.hid hx
            have HND := Lib.hid hlst.cyc.nodup
            have HC := Lib.hid hc
            clear hx hy hx0 hc hlst hedge
            go_upto_region 25 with fail
            refine wp_region_later (by kernel_rfl) (by kernel_rfl) ?_
            repeat (go_big_quiet_step (((go_at_call 29; with_reducible exact later_of (hEd.out _)))))
            refine wpQuiet_nil ?_
            intro _ hw'
            obtain ⟨z, hw''⟩ := hw'
            subst hw''
            have hbz := hbl.trans (z.below.mono hbs)
            clear hG1 hG2 hG3 hG4 hG5 hEd hd hrem hr1 hr2
            go_wp2
            go_loopg [11] k (fun g i wr => ∃ j : Nat, i = .int .i64 j ∧ j ≤ k ∧ g = k - j ∧ Below X.heap.size X wr)
            case atStart => exact ⟨0, rfl, Nat.zero_le _, rfl, hbz⟩
            case round =>
              clear hbz hbl hbs r0 r1
              obtain ⟨j, rfl, hj, rfl, hbl⟩ := hrel
              have hbs := hbl.size
              by_cases hjk : j < k
              · obtain ⟨y2, hy2⟩ := get_ex (l := l) (j := j) (by omega)
                have hne2 : y2 ≠ x := fun e => by
                  subst e
                  have := (List.getElem?_inj (show j < l.length by omega) HND.out).1 (hy2.trans HX.out.symm)
                  omega
                have hd : ((y2 : Int) == (x : Int)) = false := by simp; omega
                have hG2 : ∀ p : Later wr, p.val.cell? ⟨cb, 0, none⟩ = some (.slice (some ⟨b', o', none⟩) l.length c2) := lat hbl hcX e0
                have hG3 : ∀ p : Later wr, p.val.cell? ⟨b', o' + k, none⟩ = some (.int .i64 (x : Int)) := lat hbl hbb (HC.out k x HX.out)
                have hG4 : ∀ p : Later wr, p.val.cell? ⟨b', o' + j, none⟩ = some (.int .i64 (y2 : Int)) := lat hbl hbb (HC.out j y2 hy2)
                have hj1 : (0 : Int) ≤ (j : Int) := Int.natCast_nonneg _
                have hj2 : (j : Int) < (l.length : Int) := by omega
                clear hy2 hne2
                go_upto_region 30 with fail
                refine wp_region_later (by kernel_rfl) (by kernel_rfl) ?_
                repeat (go_big_quiet_step (fail))
                refine wpQuiet_nil ?_
                intro _ hw'
                obtain ⟨z, hw''⟩ := hw'
                subst hw''
                have hbz := hbl.trans (z.below.mono hbs)
                clear hG2 hG3 hG4 hd
                go_wp2
                go_roundg (k - (j + 1))
                case measure => omega
                case rel => exact ⟨j + 1, by go_num, by omega, rfl, hbz⟩
              · go_wp2
                go_roundg (l.length - (k + 1))
                case measure => omega
                case rel => exact ⟨k + 1, by go_num, by omega, rfl, hbl⟩
          · go_wp2
            go_ret
            exact ⟨rfl, hbX.trans (hbl.mono hbX.size)⟩

end Gp
end Go.Proofs.Ytpmmdibidhaggaa
