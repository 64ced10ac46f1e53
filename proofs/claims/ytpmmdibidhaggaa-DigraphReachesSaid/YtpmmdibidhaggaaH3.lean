/- DigraphReaches: the walk. -/
import Derived.Test.YtpmmdibidhaggaaH0
import Derived.Test.YtpmmdibidhaggaaL9
namespace Go.Proofs.Ytpmmdibidhaggaa
open Go.RowKit Sl Fr
namespace Gp
set_option linter.unusedVariables false
attribute [local go_sem] field_e


def bfr (es : Dgr.Edges) (l : List Nat) (x v k : Nat) : Bool := decide (x = v) || (es.take k).any fun e => e.2 == x && (e.1 != x && l.contains e.1)
theorem bfr_succ {es : Dgr.Edges} {l : List Nat} {x v k p q : Nat} (h : es[k]? = some (p, q)) : bfr es l x v (k + 1) = (bfr es l x v k || (q == x && (p != x && l.contains p))) := by
  rw [bfr, bfr, take_snoc h, List.any_append]; simp [Bool.or_assoc]
theorem bfr_all {es : Dgr.Edges} {n : Nat} (ok : Dgr.Ok n es) {l : List Nat} {x v : Nat} (hl : ∀ y, y ∈ l ↔ y < n ∧ Dgr.Rch es v y) (hx : x ∈ l) {k : Nat} (hk : es.length ≤ k) : bfr es l x v k = true := by
  rw [bfr, List.take_of_length_le hk]
  by_cases hxv : x = v
  · simp [hxv]
  · rcases ((hl x).1 hx).2 with h | h
    · exact absurd h.symm hxv
    · obtain ⟨u, h1, h2, h3⟩ := h.before (fun e => hxv e.symm)
      have hu : u ∈ l := (hl u).2 ⟨(ok _ h3).1, h2⟩
      simp only [Bool.or_eq_true, List.any_eq_true]
      exact .inr ⟨(u, x), h3, by simp [h1, hu]⟩

theorem alloc_past (U : World) (cs : Array Value) (T : TypeId) (o : Nat) (h : cs.size ≤ o) : (U.alloc (.cells cs T)).cell? ⟨U.heap.size, o, none⟩ = none := by
  rw [World.cell?_alloc_at _ _ _ o rfl]
  exact Array.getElem?_eq_none h
theorem edges_box {w : World} {A : Option Addr} {es : Dgr.Edges} {q : Nat} (h : EdgesA w A es) (h1 : w.cell? ⟨q, 1, none⟩ = some (.slice none 0 0)) (hp : ∀ o, 2 ≤ o → w.cell? ⟨q, o, none⟩ = none) (u0 u1 : Value) :
    EdgesA ((w.setCell ⟨q, 0, none⟩ u0).setCell ⟨q, 1, none⟩ u1) A es := fun hne => by
  have hes : es ≠ [] := fun e => by subst e; exact hne rfl
  obtain ⟨b, o, e, hlt, hc⟩ := h hne
  have hbq : b ≠ q := fun e2 => by
    subst e2
    obtain ⟨⟨x, y⟩, hx⟩ := get_ex (l := es) (j := 0) (List.length_pos_iff.2 hes)
    obtain ⟨b2, o2, e2, _, hc2⟩ := ArrP.at h (fun e => hes (by simpa [natE] using e))
    rw [e2] at e
    obtain ⟨rfl, rfl⟩ : b2 = b ∧ o2 = o := by injection e with e; injection e with e3 e4; exact ⟨e3, e4⟩
    obtain ⟨k0, k1⟩ := hc2 0 x y (natE_get hx)
    match o2, k0, k1 with
    | 0, k0, k1 => rw [show 0 + 0 * 2 + 1 = 1 from rfl, h1] at k1; cases k1
    | 1, k0, k1 => rw [show 1 + 0 * 2 = 1 from rfl, h1] at k0; cases k0
    | o + 2, k0, k1 => rw [hp _ (by omega)] at k0; cases k0
  refine ⟨b, o, e, by simpa using hlt, fun j u hj => ?_⟩
  rw [World.cell?_setCell_other _ _ _ _ (fun e => hbq (congrArg Addr.block e).symm), World.cell?_setCell_other _ _ _ _ (fun e => hbq (congrArg Addr.block e).symm)]
  exact hc j u hj

set_option maxRecDepth 100000 in
set_option maxHeartbeats 12800000 in
theorem reaches_row (N K : Int) (B : Option Addr) (bs : List Int) (c : Nat) (w : World) (hN : 0 ≤ N ∧ N ≤ 255) (hK : 0 ≤ K ∧ K ≤ 255) (hB : RowIs .u8 w B bs.length c bs) (z0 z1 z2 : Int) (hz0 : 0 ≤ z0 ∧ z0 ≤ 255) (hz1 : 0 ≤ z1 ∧ z1 ≤ 255) (hz2 : 0 ≤ z2 ∧ z2 ≤ 255) :
    Calls Try.prog 6 #[.agg #[.int .u8 N, .int .u8 K, .slice B bs.length c], .agg #[.int .u8 z0, .int .u8 z1, .int .u8 z2]] w fun e w' => e = .returned (.bool true) ∧ Below w.heap.size w w' := by
  have hst := start2 w #[.int .u8 N, .int .u8 K, .slice B bs.length c] #[.int .u8 z0, .int .u8 z1, .int .u8 z2] 24 52
  have HST := Lib.hid hst
  have HB := Lib.hid hB
  clear hst hB
  go_enter Try.func6, Try.ntmps6
  go_upto_region 5 with (first
    | (go_at_call 10; refine (examples_any _).mono ?_; rintro e w1 ⟨rfl, hb1⟩; obtain ⟨x0, x1, x2⟩ := (HST.out.1.keep hb1).c3; have hbw1 := HST.out.2.2.trans (hb1.mono HST.out.2.2.size); have hzb := HST.out.2.1.keep hb1)
    | (go_at_call 11; refine (made_any N K B bs c _ hN hK ⟨HB.out.hlen, HB.out.hcap, HB.out.arr.keep hbw1, HB.out.nil, HB.out.wf, HB.out.big⟩).mono ?_; rintro e w2 ⟨n, es, A, m, d, rfl, hg, he30, hb2⟩; have hbw2 := hbw1.trans (hb2.mono hbw1.size); have hgl := hg.len; subst hgl; clear x0 x1 x2))
  have hn12 := hg.n12
  have hbA := (Below.refl _ w2).alloc (Nat.le_refl _) (.cells #[.int .i64 (n : Int), .slice A es.length d] 31)
  have hst2 := start1 w2 #[.int .i64 (n : Int), .slice A es.length d] 31
  have hbX : Below w.heap.size w (w2.alloc (.cells #[.int .i64 (n : Int), .slice A es.length d] 31)) := hbw2.trans (hbA.mono hbw2.size)
  have hGB := hst2.1
  have hZB := (hzb.keep hb2).keep hbA
  have hG := hg.keep hbA
  have HO := Lib.hid hg.ok
  clear hst2 hg hbA hb2 hbw2 hbw1 hb1 HST HB hzb
  generalize w2.alloc (.cells #[.int .i64 (n : Int), .slice A es.length d] 31) = X at *
  generalize w2.heap.size = gb at *
  generalize w.heap.size + 1 = zb at *
  obtain ⟨g0, g1⟩ := hGB.c2
  obtain ⟨y0, y1, y2⟩ := hZB.c3
  by_cases hn0 : n = 0
  · subst hn0
    go_wp2
    go_ret
    exact ⟨rfl, hbX⟩
  · have hnn : (n : Int) ≠ 0 := by omega
    obtain ⟨v, hv, hvn⟩ := mod_nat hz0.1 (show z0 ≤ 1000 by omega) (show 0 < n by omega)
    have HG := Lib.hid hG
    have HGB := Lib.hid hGB
    have HZB := Lib.hid hZB
    have HR := Lib.hid (reach_any n A es d v X hG.arr HO.out (by omega) (by omega) hvn)
    clear hG hGB hZB hn0
    go_upto_region 9 with ((go_at_call 24; refine HR.out.mono ?_; rintro e w3 ⟨Al, cl, rfl, hcl, hRl, hb3⟩))
    have hmem : ∀ y, y ∈ Dgr.reachL n es v ↔ y < n ∧ Dgr.Rch es v y := fun y => Dgr.mem_those
    have hinc : (Dgr.reachL n es v).Pairwise (· < ·) := Dgr.those_lt n _
    have hln : (Dgr.reachL n es v).length ≤ n := those_len n _
    have HRL := Lib.hid hRl
    clear hRl HR hv
    generalize Dgr.reachL n es v = l at *
    have hvl : l.contains v = true := by rw [List.contains_iff_mem]; exact (hmem v).2 ⟨hvn, .refl _ _⟩
    have hin := in_any Al l cl v _ w3 HRL.out (by omega) (by omega)
    rw [hvl] at hin
    have HI := Lib.hid hin
    have HMEM := Lib.hid hmem
    have HINC := Lib.hid hinc
    clear hin hvl hmem hinc
    go_wp2_with ((go_at_call 31; refine HI.out.mono ?_; rintro e w4 ⟨rfl, hb4⟩))
    have hb34 := hb3.trans (hb4.mono hb3.size)
    have hbY := hbX.trans (hb34.mono hbX.size)
    have HGY := Lib.hid (HGB.out.keep hb34)
    have HZY := Lib.hid (HZB.out.keep hb34)
    have HG4 := Lib.hid (HG.out.keep hb34)
    have HRY := Lib.hid ((HRL.out.keep hb4).mono (Nat.zero_le _))
    clear HI HRL HGB HZB HG hb34 hb4 hb3 hbX g0 g1 y0 y1 y2
    generalize w4 = Y at *
    obtain ⟨be, oe, heo⟩ := HG4.out.arr.open
    obtain ⟨bl, ol, hlo⟩ := HRY.out.open
    have HE := Lib.hid heo
    have HL := Lib.hid hlo
    have hlen0 : (0 : Int) ≤ (l.length : Int) := Int.natCast_nonneg _
    clear heo hlo
    have hgY := HGY.out.lt
    obtain ⟨g0, g1⟩ := HGY.out.c2
    go_loopg [9] l.length (fun g i wr => ∃ k : Nat, i = .int .i64 k ∧ k ≤ l.length ∧ g = l.length - k ∧ Below Y.heap.size Y wr)
    case atStart => exact ⟨0, rfl, Nat.zero_le _, rfl, Below.refl _ _⟩
    case round =>
      obtain ⟨i, rfl, hi, rfl, hbl⟩ := hrel
      obtain ⟨p0, p1⟩ := (HGY.out.keep hbl).c2
      have hi1 : (0 : Int) ≤ (i : Int) := Int.natCast_nonneg _
      by_cases hlt : i < l.length
      · obtain ⟨x, hx⟩ := get_ex hlt
        obtain ⟨rfl, _, hbb, hcl2⟩ := HL.out (by intro h; subst h; simp at hlt)
        have hcx := (hbl.cell (p := ⟨bl, ol + i, none⟩) hbb).trans (hcl2 i x hx)
        have hxl : x ∈ l := List.mem_of_getElem? hx
        have hxn : x < n := ((HMEM.out x).1 hxl).1
        have hi2 : (i : Int) < (l.length : Int) := by omega
        have HX := Lib.hid hx
        have HXL := Lib.hid hxl
        have HCL := Lib.hid hcl2
        clear hx hxl hcl2 HL
        go_wp2
        go_loopg [10, 11] es.length (fun g s i2 wr => ∃ j : Nat, s = .bool (bfr es l x v j) ∧ i2 = .int .i64 j ∧ j ≤ es.length ∧ g = es.length - j ∧ Below Y.heap.size Y wr)
        case atStart => exact ⟨0, by simp only [bfr, List.take_zero, List.any_nil, Bool.or_false]; rw [Value.bool.injEq, Bool.eq_iff_iff, beq_iff_eq, decide_eq_true_iff]; omega, rfl, Nat.zero_le _, rfl, hbl⟩
        case round =>
          clear hcx p0 p1 hbl
          obtain ⟨j, rfl, rfl, hj, rfl, hbl⟩ := hrel
          have hbs := hbl.size
          obtain ⟨p0, p1⟩ := (HGY.out.keep hbl).c2
          have hj1 : (0 : Int) ≤ (j : Int) := Int.natCast_nonneg _
          by_cases hlt2 : j < es.length
          · obtain ⟨⟨p, q⟩, hpq⟩ := get_ex hlt2
            obtain ⟨rfl, hbe, hce⟩ := HE.out (by intro h; subst h; simp at hlt2)
            obtain ⟨hp, hq⟩ := hce j p q hpq
            have hpn : p < n := (HO.out _ (List.mem_of_getElem? hpq)).1
            have hqn : q < n := (HO.out _ (List.mem_of_getElem? hpq)).2
            have hj2 : (j : Int) < (es.length : Int) := by omega
            have hpe : p = x → l.contains q = true := fun e => by
              rw [List.contains_iff_mem, HMEM.out]
              exact ⟨hqn, ((HMEM.out x).1 HXL.out).2.trans (.inr (.one (e ▸ List.mem_of_getElem? hpq)))⟩
            have HP := Lib.hid hp
            have HQ := Lib.hid hq
            have HXE := Lib.hid hpq
            clear hp hq hpq hce HE
            have hG1 : ∀ p : Later wr, p.val.cell? ⟨gb, 1, none⟩ = some (.slice (some ⟨be, oe, none⟩) es.length d) := lat hbl hgY g1
            have hG2 : ∀ p : Later wr, p.val.cell? ⟨bl, ol + i, none⟩ = some (.int .i64 (x : Int)) := lat hbl hbb (HCL.out i x HX.out)
            have hG3 : ∀ p2 : Later wr, p2.val.cell? ⟨be, oe + j * 2, none⟩ = some (.int .i64 (p : Int)) := lat hbl hbe HP.out
            have hG4 : ∀ p2 : Later wr, p2.val.cell? ⟨be, oe + j * 2 + 1, none⟩ = some (.int .i64 (q : Int)) := lat hbl hbe HQ.out
            by_cases hpx : p = x
            · have hd1 : ((p : Int) == (x : Int)) = true := by simp; omega
              have hpe2 := hpe hpx
              have hIN : Hid (∀ p2 : Later wr, Calls Try.prog 31 #[.slice (some ⟨bl, ol, none⟩) l.length cl, .int .i64 (q : Int)] p2.val fun e w' => e = .returned (.bool true) ∧ Below p2.val.heap.size p2.val w') := Lib.hid fun p2 => by
                have := in_any (some ⟨bl, ol, none⟩) l cl q _ p2.val ((HRY.out.keep hbl).keep p2.below) (by omega) (by omega)
                rwa [hpe2] at this
              clear hpe
              go_upto_region 18 with fail
              refine wp_region_later (by kernel_rfl) (by kernel_rfl) ?_
              repeat (go_big_quiet_step (((go_at_call 31; with_reducible exact later_of (hIN.out _)))))
              refine wpQuiet_nil ?_
              intro _ hw'
              obtain ⟨z, hw''⟩ := hw'
              subst hw''
              have hbz0 := hbl.trans (z.below.mono hbs)
              obtain ⟨Y2, hY2⟩ : ∃ Y2, Y2 = z.val := ⟨_, rfl⟩
              rw [← hY2] at hbz0 ⊢
              clear hIN hpe2 hd1 hY2
              clear hG1 hG2 hG3 hG4 p0 p1
              have hG1 : ∀ p : Later Y2, p.val.cell? ⟨gb, 1, none⟩ = some (.slice (some ⟨be, oe, none⟩) es.length d) := lat hbz0 hgY g1
              have hG2 : ∀ p : Later Y2, p.val.cell? ⟨bl, ol + i, none⟩ = some (.int .i64 (x : Int)) := lat hbz0 hbb (HCL.out i x HX.out)
              have hG3 : ∀ p2 : Later Y2, p2.val.cell? ⟨be, oe + j * 2, none⟩ = some (.int .i64 (p : Int)) := lat hbz0 hbe HP.out
              have hG4 : ∀ p2 : Later Y2, p2.val.cell? ⟨be, oe + j * 2 + 1, none⟩ = some (.int .i64 (q : Int)) := lat hbz0 hbe HQ.out
              cases hbf : bfr es l x v j with
              | true =>
                have HBF := Lib.hid hbf
                go_upto_region 20 with fail
                refine wp_region_later (by kernel_rfl) (by kernel_rfl) ?_
                repeat (go_big_quiet_step (fail))
                refine wpQuiet_nil ?_
                intro _ hw'
                obtain ⟨z, hw''⟩ := hw'
                subst hw''
                have hbz := hbz0.trans (z.below.mono hbz0.size)
                clear hG1 hG2 hG3 hG4
                go_wp2
                go_roundg (es.length - (j + 1))
                case measure => omega
                case rel => exact ⟨j + 1, by rw [bfr_succ HXE.out]; simp [HBF.out], by go_num, by omega, rfl, hbz⟩
              | false =>
                have HBF := Lib.hid hbf
                by_cases hqx : q = x
                · have hd2 : ((q : Int) == (x : Int)) = true := by simp; omega
                  have HQX := Lib.hid hqx
                  clear hqx
                  have hd3 : ((p : Int) != (x : Int)) = false := by simp; omega
                  have HPX := Lib.hid hpx
                  go_upto_region 20 with fail
                  refine wp_region_later (by kernel_rfl) (by kernel_rfl) ?_
                  repeat (go_big_quiet_step (fail))
                  refine wpQuiet_nil ?_
                  intro _ hw'
                  obtain ⟨z, hw''⟩ := hw'
                  subst hw''
                  have hbz := hbz0.trans (z.below.mono hbz0.size)
                  clear hG1 hG2 hG3 hG4 hd2 hd3
                  go_wp2
                  go_roundg (es.length - (j + 1))
                  case measure => omega
                  case rel => exact ⟨j + 1, by rw [bfr_succ HXE.out]; simp [HBF.out, HPX.out], by go_num, by omega, rfl, hbz⟩
                · have hd2 : ((q : Int) == (x : Int)) = false := by simp; omega
                  have HQX := Lib.hid hqx
                  clear hqx
                  go_upto_region 20 with fail
                  refine wp_region_later (by kernel_rfl) (by kernel_rfl) ?_
                  repeat (go_big_quiet_step (fail))
                  refine wpQuiet_nil ?_
                  intro _ hw'
                  obtain ⟨z, hw''⟩ := hw'
                  subst hw''
                  have hbz := hbz0.trans (z.below.mono hbz0.size)
                  clear hG1 hG2 hG3 hG4 hd2
                  go_wp2
                  go_roundg (es.length - (j + 1))
                  case measure => omega
                  case rel => exact ⟨j + 1, by rw [bfr_succ HXE.out]; simp [HBF.out, HQX.out], by go_num, by omega, rfl, hbz⟩
            · have hd1 : ((p : Int) == (x : Int)) = false := by simp; omega
              clear hpe
              go_upto_region 18 with fail
              refine wp_region_later (by kernel_rfl) (by kernel_rfl) ?_
              repeat (go_big_quiet_step (fail))
              refine wpQuiet_nil ?_
              intro _ hw'
              obtain ⟨z, hw''⟩ := hw'
              subst hw''
              have hbz0 := hbl.trans (z.below.mono hbs)
              obtain ⟨Y2, hY2⟩ : ∃ Y2, Y2 = z.val := ⟨_, rfl⟩
              rw [← hY2] at hbz0 ⊢
              clear hd1 hY2
              clear hG1 hG2 hG3 hG4 p0 p1
              have hG1 : ∀ p : Later Y2, p.val.cell? ⟨gb, 1, none⟩ = some (.slice (some ⟨be, oe, none⟩) es.length d) := lat hbz0 hgY g1
              have hG2 : ∀ p : Later Y2, p.val.cell? ⟨bl, ol + i, none⟩ = some (.int .i64 (x : Int)) := lat hbz0 hbb (HCL.out i x HX.out)
              have hG3 : ∀ p2 : Later Y2, p2.val.cell? ⟨be, oe + j * 2, none⟩ = some (.int .i64 (p : Int)) := lat hbz0 hbe HP.out
              have hG4 : ∀ p2 : Later Y2, p2.val.cell? ⟨be, oe + j * 2 + 1, none⟩ = some (.int .i64 (q : Int)) := lat hbz0 hbe HQ.out
              cases hbf : bfr es l x v j with
              | true =>
                have HBF := Lib.hid hbf
                go_upto_region 20 with fail
                refine wp_region_later (by kernel_rfl) (by kernel_rfl) ?_
                repeat (go_big_quiet_step (fail))
                refine wpQuiet_nil ?_
                intro _ hw'
                obtain ⟨z, hw''⟩ := hw'
                subst hw''
                have hbz := hbz0.trans (z.below.mono hbz0.size)
                clear hG1 hG2 hG3 hG4
                go_wp2
                go_roundg (es.length - (j + 1))
                case measure => omega
                case rel => exact ⟨j + 1, by rw [bfr_succ HXE.out]; simp [HBF.out], by go_num, by omega, rfl, hbz⟩
              | false =>
                have HBF := Lib.hid hbf
                by_cases hqx : q = x
                · have hd2 : ((q : Int) == (x : Int)) = true := by simp; omega
                  have HQX := Lib.hid hqx
                  clear hqx
                  have hd3 : ((p : Int) != (x : Int)) = true := by simp; omega
                  have HPX := Lib.hid hpx
                  have hIN : Hid (∀ p2 : Later Y2, Calls Try.prog 31 #[.slice (some ⟨bl, ol, none⟩) l.length cl, .int .i64 (p : Int)] p2.val fun e w' => e = .returned (.bool (l.contains p)) ∧ Below p2.val.heap.size p2.val w') := Lib.hid fun p2 => by
                    have := in_any (some ⟨bl, ol, none⟩) l cl p _ p2.val ((HRY.out.keep hbz0).keep p2.below) (by omega) (by omega)
                    exact this
                  go_upto_region 20 with fail
                  refine wp_region_later (by kernel_rfl) (by kernel_rfl) ?_
                  repeat (go_big_quiet_step (((go_at_call 31; with_reducible exact later_of (hIN.out _)))))
                  refine wpQuiet_nil ?_
                  intro _ hw'
                  obtain ⟨z, hw''⟩ := hw'
                  subst hw''
                  have hbz := hbz0.trans (z.below.mono hbz0.size)
                  clear hG1 hG2 hG3 hG4 hd2 hd3 hIN
                  go_wp2
                  go_roundg (es.length - (j + 1))
                  case measure => omega
                  case rel => exact ⟨j + 1, by rw [bfr_succ HXE.out]; simp [HBF.out, HPX.out, HQX.out], by go_num, by omega, rfl, hbz⟩
                · have hd2 : ((q : Int) == (x : Int)) = false := by simp; omega
                  have HQX := Lib.hid hqx
                  clear hqx
                  go_upto_region 20 with fail
                  refine wp_region_later (by kernel_rfl) (by kernel_rfl) ?_
                  repeat (go_big_quiet_step (fail))
                  refine wpQuiet_nil ?_
                  intro _ hw'
                  obtain ⟨z, hw''⟩ := hw'
                  subst hw''
                  have hbz := hbz0.trans (z.below.mono hbz0.size)
                  clear hG1 hG2 hG3 hG4 hd2
                  go_wp2
                  go_roundg (es.length - (j + 1))
                  case measure => omega
                  case rel => exact ⟨j + 1, by rw [bfr_succ HXE.out]; simp [HBF.out, HQX.out], by go_num, by omega, rfl, hbz⟩
          · have hall : bfr es l x v j = true := bfr_all HO.out HMEM.out HXL.out (by omega)
            rw [hall]
            clear hall HE
            obtain ⟨r1, r2⟩ : (0 : Int) ≤ (x : Int) ∧ (x : Int) < (n : Int) := ⟨by omega, by omega⟩
            have hG2 : ∀ p : Later wr, p.val.cell? ⟨bl, ol + i, none⟩ = some (.int .i64 (x : Int)) := lat hbl hbb (HCL.out i x HX.out)
            have hG0 : ∀ p : Later wr, p.val.cell? ⟨gb, 0, none⟩ = some (.int .i64 (n : Int)) := lat hbl hgY g0
            have hd5 : decide ((x : Int) < 0) = false := decide_eq_false (by omega)
            have hd6 : decide (n ≤ x) = false := decide_eq_false (by omega)
            by_cases hi0 : 0 < i
            · obtain ⟨x', hx'⟩ := get_ex (l := l) (j := i - 1) (by omega)
              have hlt3 : x' < x := by
                have h1 := List.pairwise_iff_getElem.1 HINC.out (i - 1) i (by omega) (by omega) (by omega)
                rw [List.getElem?_eq_getElem (by omega)] at hx'
                have h2 := HX.out
                rw [List.getElem?_eq_getElem (by omega)] at h2
                rw [Option.some.inj hx', Option.some.inj h2] at h1
                exact h1
              have hG3 : ∀ p : Later wr, p.val.cell? ⟨bl, ol + (i - 1), none⟩ = some (.int .i64 (x' : Int)) := lat hbl hbb (HCL.out (i - 1) x' hx')
              have hd3 : decide (0 < i) = true := decide_eq_true hi0
              have hd4 : decide (x ≤ x') = false := decide_eq_false (by omega)
              have hii : (i : Int) - 1 = ((i - 1 : Nat) : Int) := by omega
              have hi3 : ((i - 1 : Nat) : Int) < (l.length : Int) := by omega
              clear hx' hlt3
              go_upto_region 21 with fail
              refine wp_region_later (by kernel_rfl) (by kernel_rfl) ?_
              repeat (go_big_quiet_step (fail))
              refine wpQuiet_nil ?_
              intro _ hw'
              obtain ⟨z, hw''⟩ := hw'
              subst hw''
              have hbz := hbl.trans (z.below.mono hbs)
              clear hG0 hG2 hG3 hd3 hd4 hd5 hd6 hii
              go_wp2
              go_roundg (l.length - (i + 1))
              case measure => omega
              case rel => exact ⟨i + 1, by go_num, by omega, rfl, hbz⟩
            · have hd3 : decide (0 < i) = false := decide_eq_false hi0
              go_upto_region 21 with fail
              refine wp_region_later (by kernel_rfl) (by kernel_rfl) ?_
              repeat (go_big_quiet_step (fail))
              refine wpQuiet_nil ?_
              intro _ hw'
              obtain ⟨z, hw''⟩ := hw'
              subst hw''
              have hbz := hbl.trans (z.below.mono hbs)
              clear hG0 hG2 hd3 hd5 hd6
              go_wp2
              go_roundg (l.length - (i + 1))
              case measure => omega
              case rel => exact ⟨i + 1, by go_num, by omega, rfl, hbz⟩
      · have hlp : 0 < l.length := List.length_pos_of_mem ((HMEM.out v).2 ⟨hvn, .refl _ _⟩)
        obtain ⟨Z, hZ⟩ : ∃ Z, Z = wr := ⟨_, rfl⟩
        subst hZ
        obtain ⟨r, hr, hrl⟩ := mod_nat hz1.1 (show z1 ≤ 1000 by omega) hlp
        obtain ⟨y, hy⟩ := get_ex hrl
        obtain ⟨rfl, _, hbb, hcl2⟩ := HL.out (by intro h; subst h; simp at hlp)
        have hcy := (hbl.cell (p := ⟨bl, ol + r, none⟩) hbb).trans (hcl2 r y hy)
        have hyl : y ∈ l := List.mem_of_getElem? hy
        have hyn : y < n := ((HMEM.out y).1 hyl).1
        have hr1 : (0 : Int) ≤ (r : Int) := Int.natCast_nonneg _
        have hr2 : (r : Int) < (l.length : Int) := by omega
        have hln2 : (l.length : Int) ≠ 0 := by omega
        obtain ⟨zz0, zz1, zz2⟩ := (HZY.out.keep hbl).c3
        have HGZ := Lib.hid (HG4.out.keep hbl)
        have HR := Lib.hid (reach_any n A es d y Z HGZ.out.arr HO.out (by omega) (by omega) hyn)
        have HYL := Lib.hid hyl
        have HCL := Lib.hid hcl2
        clear hy hyl hcl2 HL HE
        go_upto_region 25 with ((go_at_call 24; refine HR.out.mono ?_; rintro e w5 ⟨Am, cm, rfl, hcm, hRm, hb5⟩))
        clear hr hr1 hr2 hln2 hcy hrl
        have hb5' := hbl.trans (hb5.mono hbl.size)
        obtain ⟨p0, p1⟩ := (HGY.out.keep hb5').c2
        obtain ⟨zz0, zz1, zz2⟩ := (HZY.out.keep hb5').c3
        have hmem2 : ∀ x, x ∈ Dgr.reachL n es y → l.contains x = true := fun x hx => by
          rw [List.contains_iff_mem, HMEM.out]
          obtain ⟨h1, h2⟩ := Dgr.mem_those.1 hx
          exact ⟨h1, ((HMEM.out y).1 HYL.out).2.trans h2⟩
        have HM2 := Lib.hid hmem2
        have hmn : (Dgr.reachL n es y).length ≤ n := those_len n _
        have HRM := Lib.hid (hRm.mono (Nat.zero_le _))
        have HG5 := Lib.hid (HG4.out.keep hb5')
        have HRL := Lib.hid (HRY.out.keep hb5')
        have HZ5 := Lib.hid (HZY.out.keep hb5')
        have hgZ : gb < w5.heap.size := Nat.lt_of_lt_of_le hgY hb5'.size
        have hzZ : zb < w5.heap.size := Nat.lt_of_lt_of_le HZY.out.lt hb5'.size
        have hbw5 := hbY.trans (hb5'.mono hbY.size)
        clear HR HRY hRm hb5 hb5' hbl HGY HZY HG4 hbY hmem2 HGZ
        generalize Dgr.reachL n es y = ml at *
        obtain ⟨v2, hv2, hvn2⟩ := mod_nat hz1.1 (show z1 ≤ 1000 by omega) (show 0 < n by omega)
        obtain ⟨u2, hu2, hun2⟩ := mod_nat hz2.1 (show z2 ≤ 1000 by omega) (show 0 < n by omega)
        generalize w5 = U at *
        have hw1 : IntKind.i64.wrap z1 = z1 := IntWalk.i64_in _ (by omega)
        have hw2 : IntKind.i64.wrap z2 = z2 := IntWalk.i64_in _ (by omega)
        have hnz : ¬ n = 0 := by omega
        have hbD : Below U.heap.size U U.drew := (Below.refl _ U).drew
        refine wp_region_till (fun w' => w'.cell? ⟨gb, 0, none⟩ = some (.int .i64 (n : Int)) ∧ w'.cell? ⟨gb, 1, none⟩ = some (.slice A es.length d) ∧ w'.cell? ⟨zb, 1, none⟩ = some (.int .u8 z1) ∧ w'.cell? ⟨zb, 2, none⟩ = some (.int .u8 z2)) 16 (by kernel_rfl) ?_ (fun hHeld => ?_)
        · exact ⟨p0, p1, zz1, zz2⟩
        refine anyTill.reads (i := 0) rfl (by kernel_rfl) (by kernel_rfl) (by kernel_rfl) (by kernel_rfl) (fun _ _ _ h => h) (by rfl) (v := ?_) ?_ (by assumption) ?_
        rotate_left
        · intro wz hz; (try dsimp only at hz); go_split_ands; go_simp; try with_reducible rfl
        simp only [Act.put, List.setIfInBounds_toArray, List.set_cons_zero, List.set_cons_succ]
        refine anyTill.reads (i := 1) rfl (by kernel_rfl) (by kernel_rfl) (by kernel_rfl) (by kernel_rfl) (fun _ _ _ h => h) (by rfl) (v := ?_) ?_ (by assumption) ?_
        rotate_left
        · intro wz hz; (try dsimp only at hz); go_split_ands; go_simp; try with_reducible rfl
        simp only [Act.put, List.setIfInBounds_toArray, List.set_cons_zero, List.set_cons_succ]
        refine anyTill.reads (i := 2) rfl (by kernel_rfl) (by kernel_rfl) (by kernel_rfl) (by kernel_rfl) (fun _ _ _ h => h) (by rfl) (v := ?_) ?_ (by assumption) ?_
        rotate_left
        · intro wz hz; (try dsimp only at hz); go_split_ands; go_simp; try with_reducible rfl
        simp only [Act.put, List.setIfInBounds_toArray, List.set_cons_zero, List.set_cons_succ]
        refine anyTill.reads (i := 3) rfl (by kernel_rfl) (by kernel_rfl) (by kernel_rfl) (by kernel_rfl) (fun _ _ _ h => h) (by rfl) (v := ?_) ?_ (by assumption) ?_
        rotate_left
        · intro wz hz; (try dsimp only at hz); go_split_ands; go_simp; (try simp only [hw1, hw2, if_neg hnz, hv2, hu2]); try with_reducible rfl
        simp only [Act.put, List.setIfInBounds_toArray, List.set_cons_zero, List.set_cons_succ]
        refine anyTill.reads (i := 4) rfl (by kernel_rfl) (by kernel_rfl) (by kernel_rfl) (by kernel_rfl) (fun _ _ _ h => h) (by rfl) (v := ?_) ?_ (by assumption) ?_
        rotate_left
        · intro wz hz; (try dsimp only at hz); go_split_ands; go_simp; try with_reducible rfl
        simp only [Act.put, List.setIfInBounds_toArray, List.set_cons_zero, List.set_cons_succ]
        refine anyTill.reads (i := 5) rfl (by kernel_rfl) (by kernel_rfl) (by kernel_rfl) (by kernel_rfl) (fun _ _ _ h => h) (by rfl) (v := ?_) ?_ (by assumption) ?_
        rotate_left
        · intro wz hz; (try dsimp only at hz); go_split_ands; go_simp; try with_reducible rfl
        simp only [Act.put, List.setIfInBounds_toArray, List.set_cons_zero, List.set_cons_succ]
        refine anyTill.reads (i := 6) rfl (by kernel_rfl) (by kernel_rfl) (by kernel_rfl) (by kernel_rfl) (fun _ _ _ h => h) (by rfl) (v := ?_) ?_ (by assumption) ?_
        rotate_left
        · intro wz hz; (try dsimp only at hz); go_split_ands; go_simp; (try simp only [hw1, hw2, if_neg hnz, hv2, hu2]); try with_reducible rfl
        simp only [Act.put, List.setIfInBounds_toArray, List.set_cons_zero, List.set_cons_succ]
        refine anyTill.reads (i := 7) rfl (by kernel_rfl) (by kernel_rfl) (by kernel_rfl) (by kernel_rfl) (fun _ _ _ h => h) (by rfl) (v := ?_) ?_ (by assumption) ?_
        rotate_left
        · intro wz hz; (try dsimp only at hz); go_split_ands; go_simp; try with_reducible rfl
        simp only [Act.put, List.setIfInBounds_toArray, List.set_cons_zero, List.set_cons_succ]
        refine anyTill.reads (i := 8) rfl (by kernel_rfl) (by kernel_rfl) (by kernel_rfl) (by kernel_rfl) (fun _ _ _ h => h) (by rfl) (v := ?_) ?_ (by assumption) ?_
        rotate_left
        · intro wz hz; (try dsimp only at hz); go_split_ands; go_simp; try with_reducible rfl
        simp only [Act.put, List.setIfInBounds_toArray, List.set_cons_zero, List.set_cons_succ]
        refine anyTill.reads (i := 9) rfl (by kernel_rfl) (by kernel_rfl) (by kernel_rfl) (by kernel_rfl) (fun _ _ _ h => h) (by rfl) (v := ?_) ?_ (by assumption) ?_
        rotate_left
        · intro wz hz; (try dsimp only at hz); go_split_ands; go_simp; (try simp only [hw1, hw2, if_neg hnz, hv2, hu2]); try with_reducible rfl
        simp only [Act.put, List.setIfInBounds_toArray, List.set_cons_zero, List.set_cons_succ]
        refine anyTill.reads (i := 10) rfl (by kernel_rfl) (by kernel_rfl) (by kernel_rfl) (by kernel_rfl) (fun _ _ _ h => h) (by rfl) (v := ?_) ?_ (by assumption) ?_
        rotate_left
        · intro wz hz; (try dsimp only at hz); go_split_ands; go_simp; try with_reducible rfl
        simp only [Act.put, List.setIfInBounds_toArray, List.set_cons_zero, List.set_cons_succ]
        refine anyTill.reads (i := 11) rfl (by kernel_rfl) (by kernel_rfl) (by kernel_rfl) (by kernel_rfl) (fun _ _ _ h => h) (by rfl) (v := ?_) ?_ (by assumption) ?_
        rotate_left
        · intro wz hz; (try dsimp only at hz); go_split_ands; go_simp; try with_reducible rfl
        simp only [Act.put, List.setIfInBounds_toArray, List.set_cons_zero, List.set_cons_succ]
        refine anyTill.reads (i := 12) rfl (by kernel_rfl) (by kernel_rfl) (by kernel_rfl) (by kernel_rfl) (fun _ _ _ h => h) (by rfl) (v := ?_) ?_ (by assumption) ?_
        rotate_left
        · intro wz hz; (try dsimp only at hz); go_split_ands; go_simp; (try simp only [hw1, hw2, if_neg hnz, hv2, hu2]); try with_reducible rfl
        simp only [Act.put, List.setIfInBounds_toArray, List.set_cons_zero, List.set_cons_succ]
        refine anyTill.pair (i := 13) (j := 14) (by kernel_rfl) ?_ ?_
        · refine anyTill.step (i := 13) rfl (by rfl) (fun K hK => ?_)
          go_wp2_with fail
          go_at_call 32
          refine (with_any n es.length d v2 u2 A es _ (HG5.out.keep hbD) hvn2 hun2 (by omega)).mono ?_
          rintro e w6 ⟨A6, m6, c6, rfl, hg6, hb6q⟩
          have hb6 : Below U.heap.size U w6 := hbD.trans (hb6q.mono hbD.size)
          have hm6 := hg6.len
          refine hK.out _ _ (fun _ => ?_) (fun hHeld0 => ?_)
          · exact ⟨(hb6.cell (p := ⟨gb, 0, none⟩) hgZ).trans p0, (hb6.cell (p := ⟨gb, 1, none⟩) hgZ).trans p1, (hb6.cell (p := ⟨zb, 1, none⟩) hzZ).trans zz1, (hb6.cell (p := ⟨zb, 2, none⟩) hzZ).trans zz2⟩
          have hHeld := hHeld0 (by decide)
          clear hHeld0
          clear hK K
          try simp only [Act.put, List.setIfInBounds_toArray, List.set_cons_zero, List.set_cons_succ]
          refine anyTill.alone (i := 14) rfl (by kernel_rfl) (by rfl) (fun K hK => ?_)
          go_simp
          have hb7 : Below U.heap.size U (w6.alloc (.cells #[.int .i64 0, .slice none 0 0] 31)) := hb6.alloc hb6.size _
          refine hK.out _ _ (fun _ => ?_) (fun hHeld0 => ?_)
          · exact ⟨(hb7.cell (p := ⟨gb, 0, none⟩) hgZ).trans p0, (hb7.cell (p := ⟨gb, 1, none⟩) hgZ).trans p1, (hb7.cell (p := ⟨zb, 1, none⟩) hzZ).trans zz1, (hb7.cell (p := ⟨zb, 2, none⟩) hzZ).trans zz2⟩
          have hHeld := hHeld0 (by decide)
          clear hHeld0
          clear hK K
          try simp only [Act.put, List.setIfInBounds_toArray, List.set_cons_zero, List.set_cons_succ]
          refine anyTill.alone (i := 15) rfl (by kernel_rfl) (by rfl) (fun K hK => ?_)
          go_simp
          have hbV : Below U.heap.size U (w6.alloc (.cells #[.int .i64 (n : Int), .slice A6 m6 c6] 31)) := hb6.alloc hb6.size _
          refine hK.out _ _ (fun _ => ?_) (fun hHeld0 => ?_)
          · exact ⟨(hbV.cell (p := ⟨gb, 0, none⟩) hgZ).trans p0, (hbV.cell (p := ⟨gb, 1, none⟩) hgZ).trans p1, (hbV.cell (p := ⟨zb, 1, none⟩) hzZ).trans zz1, (hbV.cell (p := ⟨zb, 2, none⟩) hzZ).trans zz2⟩
          have hHeld := hHeld0 (by decide)
          clear hHeld0
          clear hK K
          try simp only [Act.put, List.setIfInBounds_toArray, List.set_cons_zero, List.set_cons_succ]
          have hHB : BoxL (w6.alloc (.cells #[.int .i64 (n : Int), .slice A6 m6 c6] 31)) w6.heap.size #[.int .i64 (n : Int), .slice A6 m6 c6] := BoxL.new _ _ _
          have hg7 : IsG (w6.alloc (.cells #[.int .i64 (n : Int), .slice A6 m6 c6] 31)) n (es ++ [(v2, u2)]) A6 m6 c6 := hg6.keep ((Below.refl _ w6).alloc (Nat.le_refl _) _)
          clear hg6 hb6q hb6 hb7 hbD
          generalize (w6.alloc (.cells #[.int .i64 (n : Int), .slice A6 m6 c6] 31)) = V at *
          generalize w6.heap.size = hbk at *
          refine anyTill.done (by kernel_rfl) ?_ _
          clear hHeld p0 p1 zz0 zz1 zz2 hv2 hu2 hw1 hw2
          obtain ⟨t0, t1⟩ := hHB.c2
          have hR2 := reach_any n A6 (es ++ [(v2, u2)]) c6 v V hg7.arr hg7.ok (by omega) (by have := hg7.big; omega) hvn
          rw [hm6] at hR2
          have HR2 := Lib.hid hR2
          clear hR2
          have HRM2 := Lib.hid (HRM.out.keep hbV)
          have HRL2 := Lib.hid (HRL.out.keep hbV)
          have hbwV := hbw5.trans (hbV.mono hbw5.size)
          clear hHB hg7 HRM HRL hbV HG5 HZ5 hbw5 hm6
          go_wp2_with ((go_at_call 24; refine HR2.out.mono ?_; rintro e w8 ⟨Ak, ck, rfl, hck, hRk, hb8⟩))
          have hsub : ∀ x, x ∈ l → (Dgr.reachL n (es ++ [(v2, u2)]) v).contains x = true := fun x hx => by
            rw [List.contains_iff_mem]
            obtain ⟨q1, q2⟩ := (HMEM.out x).1 hx
            exact Dgr.mem_those.2 ⟨q1, Dgr.rch_mono (fun e he => List.mem_append.2 (.inl he)) q2⟩
          have hkn : (Dgr.reachL n (es ++ [(v2, u2)]) v).length ≤ n := those_len n _
          have HSUB := Lib.hid hsub
          have HRK := Lib.hid (hRk.mono (Nat.zero_le _))
          have HRM3 := Lib.hid (HRM2.out.keep hb8)
          have HRL3 := Lib.hid (HRL2.out.keep hb8)
          have hbw8 := hbwV.trans (hb8.mono hbwV.size)
          clear hsub hRk HRM2 HRL2 hb8 hbwV HR2 t0 t1
          generalize Dgr.reachL n (es ++ [(v2, u2)]) v = more at *
          generalize w8 = T at *
          obtain ⟨bm, om, hmo⟩ := HRM3.out.open
          have HM4 := Lib.hid hmo
          clear hmo
          go_loopg [16] ml.length (fun g i wr => ∃ k : Nat, i = .int .i64 k ∧ k ≤ ml.length ∧ g = ml.length - k ∧ Below T.heap.size T wr)
          case atStart => exact ⟨0, rfl, Nat.zero_le _, rfl, Below.refl _ _⟩
          case round =>
            obtain ⟨k, rfl, hk, rfl, hbl⟩ := hrel
            by_cases hlt : k < ml.length
            · obtain ⟨x, hx⟩ := get_ex hlt
              obtain ⟨rfl, _, hbb2, hcm2⟩ := HM4.out (by intro h; subst h; simp at hlt)
              have hcx := (hbl.cell (p := ⟨bm, om + k, none⟩) hbb2).trans (hcm2 k x hx)
              have hxc := HM2.out x (List.mem_of_getElem? hx)
              have hxn : x < n := ((HMEM.out x).1 (by rwa [List.contains_iff_mem] at hxc)).1
              have hin := in_any (some ⟨bl, ol, none⟩) l cl x _ wr (HRL3.out.keep hbl) (by omega) (by omega)
              rw [hxc] at hin
              have HI := Lib.hid hin
              have hk1 : (0 : Int) ≤ (k : Int) := Int.natCast_nonneg _
              have hk2 : (k : Int) < (ml.length : Int) := by omega
              clear hx hcm2 hxc hin HM4
              go_wp2_with ((go_at_call 31; refine HI.out.mono ?_; rintro e w9 ⟨rfl, hb9⟩))
              go_roundg (ml.length - (k + 1))
              case measure => omega
              case rel => exact ⟨k + 1, by go_num, by omega, rfl, hbl.trans (hb9.mono hbl.size)⟩
            · clear HM4
              go_wp2
              go_loopg [17] l.length (fun g i wr => ∃ k : Nat, i = .int .i64 k ∧ k ≤ l.length ∧ g = l.length - k ∧ Below T.heap.size T wr)
              case atStart => exact ⟨0, rfl, Nat.zero_le _, rfl, hbl⟩
              case round =>
                clear hbl
                obtain ⟨k, rfl, hk, rfl, hbl⟩ := hrel
                by_cases hlt : k < l.length
                · obtain ⟨x, hx⟩ := get_ex hlt
                  obtain ⟨b9, o9, ho9⟩ := HRL3.out.open
                  obtain ⟨he9, _, hbb9, hcl9⟩ := ho9 (by intro h; subst h; simp at hlt)
                  obtain ⟨rfl, rfl⟩ : bl = b9 ∧ ol = o9 := by injection he9 with e; injection e with e3 e4; exact ⟨e3, e4⟩
                  have hcx := (hbl.cell (p := ⟨bl, ol + k, none⟩) hbb9).trans (hcl9 k x hx)
                  have hxl : x ∈ l := List.mem_of_getElem? hx
                  have hxn : x < n := ((HMEM.out x).1 hxl).1
                  have hin := in_any Ak more ck x _ wr (HRK.out.keep hbl) (by omega) (by omega)
                  rw [HSUB.out x hxl] at hin
                  have HI := Lib.hid hin
                  have hk1 : (0 : Int) ≤ (k : Int) := Int.natCast_nonneg _
                  have hk2 : (k : Int) < (l.length : Int) := by omega
                  clear hx hcl9 hxl hin ho9 he9
                  go_wp2_with ((go_at_call 31; refine HI.out.mono ?_; rintro e w9 ⟨rfl, hb9⟩))
                  go_roundg (l.length - (k + 1))
                  case measure => omega
                  case rel => exact ⟨k + 1, by go_num, by omega, rfl, hbl.trans (hb9.mono hbl.size)⟩
                · go_wp2
                  go_ret
                  exact ⟨rfl, hbw8.trans (hbl.mono hbw8.size)⟩
        · refine anyTill.step (i := 14) rfl (by rfl) (fun K hK => ?_)
          go_simp
          have hbE : Below U.heap.size U (U.alloc (.cells #[.int .i64 0, .slice none 0 0] 31)).drew := ((Below.refl _ U).alloc (Nat.le_refl _) _).drew
          refine hK.out _ _ (fun _ => ?_) (fun hHeld0 => ?_)
          · exact ⟨(hbE.cell (p := ⟨gb, 0, none⟩) hgZ).trans p0, (hbE.cell (p := ⟨gb, 1, none⟩) hgZ).trans p1, (hbE.cell (p := ⟨zb, 1, none⟩) hzZ).trans zz1, (hbE.cell (p := ⟨zb, 2, none⟩) hzZ).trans zz2⟩
          have hHeld := hHeld0 (by decide)
          clear hHeld0
          clear hK K
          try simp only [Act.put, List.setIfInBounds_toArray, List.set_cons_zero, List.set_cons_succ]
          refine anyTill.alone (i := 13) rfl (by kernel_rfl) (by rfl) (fun K hK => ?_)
          go_wp2_with fail
          go_at_call 32
          refine (with_any n es.length d v2 u2 A es _ (HG5.out.keep hbE) hvn2 hun2 (by omega)).mono ?_
          rintro e w6 ⟨A6, m6, c6, rfl, hg6, hb6q⟩
          have hb6 : Below U.heap.size U w6 := hbE.trans (hb6q.mono hbE.size)
          have hm6 := hg6.len
          refine hK.out _ _ (fun _ => ?_) (fun hHeld0 => ?_)
          · exact ⟨(hb6.cell (p := ⟨gb, 0, none⟩) hgZ).trans p0, (hb6.cell (p := ⟨gb, 1, none⟩) hgZ).trans p1, (hb6.cell (p := ⟨zb, 1, none⟩) hzZ).trans zz1, (hb6.cell (p := ⟨zb, 2, none⟩) hzZ).trans zz2⟩
          have hHeld := hHeld0 (by decide)
          clear hHeld0
          clear hK K
          try simp only [Act.put, List.setIfInBounds_toArray, List.set_cons_zero, List.set_cons_succ]
          have hh0 : BoxL (U.alloc (.cells #[.int .i64 0, .slice none 0 0] 31)).drew U.heap.size #[.int .i64 0, .slice none 0 0] := (BoxL.new U _ _).keep ((Below.refl _ _).drew)
          have hh := hh0.keep hb6q
          obtain ⟨k0, k1⟩ := hh.c2
          obtain ⟨k2, k3⟩ := hh.f2
          refine anyTill.alone (i := 15) rfl (by kernel_rfl) (by rfl) (fun K hK => ?_)
          go_simp
          have hbV : Below U.heap.size U ((w6.setCell ⟨U.heap.size, 0, none⟩ (.int .i64 (n : Int))).setCell ⟨U.heap.size, 1, none⟩ (.slice A6 m6 c6)) := (hb6.setCell (p := ⟨U.heap.size, 0, none⟩) (Nat.le_refl _) _).setCell (p := ⟨U.heap.size, 1, none⟩) (Nat.le_refl _) _
          refine hK.out _ _ (fun _ => ?_) (fun hHeld0 => ?_)
          · exact ⟨(hbV.cell (p := ⟨gb, 0, none⟩) hgZ).trans p0, (hbV.cell (p := ⟨gb, 1, none⟩) hgZ).trans p1, (hbV.cell (p := ⟨zb, 1, none⟩) hzZ).trans zz1, (hbV.cell (p := ⟨zb, 2, none⟩) hzZ).trans zz2⟩
          have hHeld := hHeld0 (by decide)
          clear hHeld0
          clear hK K
          try simp only [Act.put, List.setIfInBounds_toArray, List.set_cons_zero, List.set_cons_succ]
          have hHB : BoxL ((w6.setCell ⟨U.heap.size, 0, none⟩ (.int .i64 (n : Int))).setCell ⟨U.heap.size, 1, none⟩ (.slice A6 m6 c6)) U.heap.size #[.int .i64 (n : Int), .slice A6 m6 c6] := hh.s2 _ _
          have hpast : ∀ o, 2 ≤ o → w6.cell? ⟨U.heap.size, o, none⟩ = none := fun o ho => (hb6q.cell (p := ⟨U.heap.size, o, none⟩) (by simp)).trans (alloc_past U _ _ o ho)
          have hg7 : IsG ((w6.setCell ⟨U.heap.size, 0, none⟩ (.int .i64 (n : Int))).setCell ⟨U.heap.size, 1, none⟩ (.slice A6 m6 c6)) n (es ++ [(v2, u2)]) A6 m6 c6 := ⟨hg6.ok, hg6.n12, hg6.len, hg6.le, hg6.big, edges_box hg6.arr k1 hpast _ _, hg6.nil⟩
          clear hg6 hb6q hb6 hbE hbD hh0 hh k0 k1 k2 k3 hpast
          generalize ((w6.setCell ⟨U.heap.size, 0, none⟩ (.int .i64 (n : Int))).setCell ⟨U.heap.size, 1, none⟩ (.slice A6 m6 c6)) = V at *
          refine anyTill.done (by kernel_rfl) ?_ _
          clear hHeld p0 p1 zz0 zz1 zz2 hv2 hu2 hw1 hw2
          obtain ⟨t0, t1⟩ := hHB.c2
          have hR2 := reach_any n A6 (es ++ [(v2, u2)]) c6 v V hg7.arr hg7.ok (by omega) (by have := hg7.big; omega) hvn
          rw [hm6] at hR2
          have HR2 := Lib.hid hR2
          clear hR2
          have HRM2 := Lib.hid (HRM.out.keep hbV)
          have HRL2 := Lib.hid (HRL.out.keep hbV)
          have hbwV := hbw5.trans (hbV.mono hbw5.size)
          clear hHB hg7 HRM HRL hbV HG5 HZ5 hbw5 hm6
          go_wp2_with ((go_at_call 24; refine HR2.out.mono ?_; rintro e w8 ⟨Ak, ck, rfl, hck, hRk, hb8⟩))
          have hsub : ∀ x, x ∈ l → (Dgr.reachL n (es ++ [(v2, u2)]) v).contains x = true := fun x hx => by
            rw [List.contains_iff_mem]
            obtain ⟨q1, q2⟩ := (HMEM.out x).1 hx
            exact Dgr.mem_those.2 ⟨q1, Dgr.rch_mono (fun e he => List.mem_append.2 (.inl he)) q2⟩
          have hkn : (Dgr.reachL n (es ++ [(v2, u2)]) v).length ≤ n := those_len n _
          have HSUB := Lib.hid hsub
          have HRK := Lib.hid (hRk.mono (Nat.zero_le _))
          have HRM3 := Lib.hid (HRM2.out.keep hb8)
          have HRL3 := Lib.hid (HRL2.out.keep hb8)
          have hbw8 := hbwV.trans (hb8.mono hbwV.size)
          clear hsub hRk HRM2 HRL2 hb8 hbwV HR2 t0 t1
          generalize Dgr.reachL n (es ++ [(v2, u2)]) v = more at *
          generalize w8 = T at *
          obtain ⟨bm, om, hmo⟩ := HRM3.out.open
          have HM4 := Lib.hid hmo
          clear hmo
          go_loopg [16] ml.length (fun g i wr => ∃ k : Nat, i = .int .i64 k ∧ k ≤ ml.length ∧ g = ml.length - k ∧ Below T.heap.size T wr)
          case atStart => exact ⟨0, rfl, Nat.zero_le _, rfl, Below.refl _ _⟩
          case round =>
            obtain ⟨k, rfl, hk, rfl, hbl⟩ := hrel
            by_cases hlt : k < ml.length
            · obtain ⟨x, hx⟩ := get_ex hlt
              obtain ⟨rfl, _, hbb2, hcm2⟩ := HM4.out (by intro h; subst h; simp at hlt)
              have hcx := (hbl.cell (p := ⟨bm, om + k, none⟩) hbb2).trans (hcm2 k x hx)
              have hxc := HM2.out x (List.mem_of_getElem? hx)
              have hxn : x < n := ((HMEM.out x).1 (by rwa [List.contains_iff_mem] at hxc)).1
              have hin := in_any (some ⟨bl, ol, none⟩) l cl x _ wr (HRL3.out.keep hbl) (by omega) (by omega)
              rw [hxc] at hin
              have HI := Lib.hid hin
              have hk1 : (0 : Int) ≤ (k : Int) := Int.natCast_nonneg _
              have hk2 : (k : Int) < (ml.length : Int) := by omega
              clear hx hcm2 hxc hin HM4
              go_wp2_with ((go_at_call 31; refine HI.out.mono ?_; rintro e w9 ⟨rfl, hb9⟩))
              go_roundg (ml.length - (k + 1))
              case measure => omega
              case rel => exact ⟨k + 1, by go_num, by omega, rfl, hbl.trans (hb9.mono hbl.size)⟩
            · clear HM4
              go_wp2
              go_loopg [17] l.length (fun g i wr => ∃ k : Nat, i = .int .i64 k ∧ k ≤ l.length ∧ g = l.length - k ∧ Below T.heap.size T wr)
              case atStart => exact ⟨0, rfl, Nat.zero_le _, rfl, hbl⟩
              case round =>
                clear hbl
                obtain ⟨k, rfl, hk, rfl, hbl⟩ := hrel
                by_cases hlt : k < l.length
                · obtain ⟨x, hx⟩ := get_ex hlt
                  obtain ⟨b9, o9, ho9⟩ := HRL3.out.open
                  obtain ⟨he9, _, hbb9, hcl9⟩ := ho9 (by intro h; subst h; simp at hlt)
                  obtain ⟨rfl, rfl⟩ : bl = b9 ∧ ol = o9 := by injection he9 with e; injection e with e3 e4; exact ⟨e3, e4⟩
                  have hcx := (hbl.cell (p := ⟨bl, ol + k, none⟩) hbb9).trans (hcl9 k x hx)
                  have hxl : x ∈ l := List.mem_of_getElem? hx
                  have hxn : x < n := ((HMEM.out x).1 hxl).1
                  have hin := in_any Ak more ck x _ wr (HRK.out.keep hbl) (by omega) (by omega)
                  rw [HSUB.out x hxl] at hin
                  have HI := Lib.hid hin
                  have hk1 : (0 : Int) ≤ (k : Int) := Int.natCast_nonneg _
                  have hk2 : (k : Int) < (l.length : Int) := by omega
                  clear hx hcl9 hxl hin ho9 he9
                  go_wp2_with ((go_at_call 31; refine HI.out.mono ?_; rintro e w9 ⟨rfl, hb9⟩))
                  go_roundg (l.length - (k + 1))
                  case measure => omega
                  case rel => exact ⟨k + 1, by go_num, by omega, rfl, hbl.trans (hb9.mono hbl.size)⟩
                · go_wp2
                  go_ret
                  exact ⟨rfl, hbw8.trans (hbl.mono hbw8.size)⟩

end Gp
end Go.Proofs.Ytpmmdibidhaggaa
