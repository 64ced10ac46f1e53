/- DigraphOrders: the walk. -/
import Derived.Test.YtpmmdibidhaggaaH0
import Derived.Test.YtpmmdibidhaggaaL9
namespace Go.Proofs.Ytpmmdibidhaggaa
open Go.RowKit Sl Fr
namespace Gp
set_option linter.unusedVariables false
attribute [local go_sem] field_e


theorem nv_some {l : List Nat} {j : Nat} {u : Value} (h : (nv l)[j]? = some u) : ∃ x : Nat, l[j]? = some x ∧ Value.int .i64 (x : Int) = u := by
  rw [nv, List.getElem?_map, Option.map_eq_some_iff] at h
  exact h
theorem nv_one {l : List Nat} : ∀ u ∈ nv l, u.oneCell' = true := fun u hu => by
  obtain ⟨x, _, rfl⟩ := List.mem_map.1 hu
  rfl
def swapL (l : List Nat) (a xa xb : Nat) : List Nat := (l.set a xb).set (a + 1) xa
theorem swapL_length (l : List Nat) (a xa xb : Nat) : (swapL l a xa xb).length = l.length := by simp [swapL]
theorem swapL_get {l : List Nat} {a xa xb : Nat} (ha : l[a]? = some xa) (hb : l[a + 1]? = some xb) {j : Nat} (hj : j < l.length) : (swapL l a xa xb)[j]? = l[Dgr.sw a j]? := by
  have h1 := get_lt ha
  have h2 := get_lt hb
  unfold swapL Dgr.sw
  by_cases h0 : j = a
  · subst h0
    rw [if_pos rfl, List.getElem?_set_ne (by omega), List.getElem?_set_self h1, hb]
  · rw [if_neg h0]
    by_cases h3 : j = a + 1
    · subst h3
      rw [if_pos rfl, List.getElem?_set_self (by simpa using h2), ha]
    · rw [if_neg h3, List.getElem?_set_ne (by omega), List.getElem?_set_ne (by omega)]
def blk (es : Dgr.Edges) (l : List Nat) (x i m : Nat) : Bool := ((l.take m).drop i).any fun y => decide ((y, x) ∈ es)
theorem blk_zero (es : Dgr.Edges) (l : List Nat) (x i : Nat) : blk es l x i i = false := by
  rw [blk, List.drop_eq_nil_of_le (by rw [List.length_take]; omega)]; rfl
theorem blk_succ {es : Dgr.Edges} {l : List Nat} {x i m y : Nat} (him : i ≤ m) (h : l[m]? = some y) : blk es l x i (m + 1) = (blk es l x i m || decide ((y, x) ∈ es)) := by
  have hm := get_lt h
  rw [blk, blk, take_snoc h, List.drop_append_of_le_length (by rw [List.length_take]; omega), List.any_append]
  simp

set_option maxRecDepth 100000 in
set_option maxHeartbeats 12800000 in
theorem orders_row (N K : Int) (B : Option Addr) (bs : List Int) (c : Nat) (w : World) (hN : 0 ≤ N ∧ N ≤ 255) (hK : 0 ≤ K ∧ K ≤ 255) (hB : RowIs .u8 w B bs.length c bs) (k0 : Int) (hk0 : 0 ≤ k0 ∧ k0 ≤ 255) :
    Calls Try.prog 4 #[.agg #[.int .u8 N, .int .u8 K, .slice B bs.length c], .int .u8 k0] w fun e w' => e = .returned (.bool true) ∧ Below w.heap.size w w' := by
  have hst := start1 w #[.int .u8 N, .int .u8 K, .slice B bs.length c] 24
  have HST := Lib.hid hst
  have HB := Lib.hid hB
  clear hst hB
  go_enter Try.func4, Try.ntmps4
  go_upto_region 5 with (first
    | (go_at_call 10; refine (examples_any _).mono ?_; rintro e w1 ⟨rfl, hb1⟩; obtain ⟨x0, x1, x2⟩ := (HST.out.1.keep hb1).c3; have hbw1 := HST.out.2.trans (hb1.mono HST.out.2.size))
    | (go_at_call 11; refine (made_any N K B bs c _ hN hK ⟨HB.out.hlen, HB.out.hcap, HB.out.arr.keep hbw1, HB.out.nil, HB.out.wf, HB.out.big⟩).mono ?_; rintro e w2 ⟨n, es, A, m, d, rfl, hg, he30, hb2⟩; have hbw2 := hbw1.trans (hb2.mono hbw1.size); have hgl := hg.len; subst hgl; clear x0 x1 x2))
  have hn12 := hg.n12
  have hbA := (Below.refl _ w2).alloc (Nat.le_refl _) (.cells #[.int .i64 (n : Int), .slice A es.length d] 31)
  have hst2 := start1 w2 #[.int .i64 (n : Int), .slice A es.length d] 31
  have hbV : Below w.heap.size w (w2.alloc (.cells #[.int .i64 (n : Int), .slice A es.length d] 31)) := hbw2.trans (hbA.mono hbw2.size)
  have hGB := hst2.1
  have hG := hg.keep hbA
  have HO := Lib.hid hg.ok
  clear hst2 hg hbA hb2 hbw2 hbw1 hb1 HST HB
  generalize w2.alloc (.cells #[.int .i64 (n : Int), .slice A es.length d] 31) = V at *
  generalize w2.heap.size = gb at *
  obtain ⟨g0, g1⟩ := hGB.c2
  have HORD := Lib.hid (orderL_any n A es d V hG.arr HO.out (by omega) (by omega))
  go_upto_region 6 with ((go_at_call 15; refine HORD.out.mono ?_; rintro e w3 ⟨Ao, mo, co, oe, rfl, hro, hb3⟩))
  have hbA := (Below.refl _ w3).alloc (Nat.le_refl _) (.cells #[.slice Ao mo co, .int .i64 oe] 37)
  have hb3' := hb3.trans (hbA.mono hb3.size)
  have hOB := BoxL.new w3 #[.slice Ao mo co, .int .i64 oe] 37
  have hRO := hro.keep hbA
  have hGB' := hGB.keep hb3'
  have hG' := hG.keep hb3'
  have hbU := hbV.trans (hb3'.mono hbV.size)
  clear hro hb3 hb3' hbA hGB hG hbV g0 g1 HORD
  generalize w3.alloc (.cells #[.slice Ao mo co, .int .i64 oe] 37) = U at *
  generalize w3.heap.size = ob at *
  obtain ⟨g0, g1⟩ := hGB'.c2
  have HCYC := Lib.hid (cycleL_any n A es d U hG'.arr HO.out (by omega) (by omega))
  go_upto_region 7 with ((go_at_call 17; refine HCYC.out.mono ?_; rintro e w4 ⟨b, hcyc, Ac, mc, cc, xc, rfl, hrc, hb4⟩))
  have hbA := (Below.refl _ w4).alloc (Nat.le_refl _) (.cells #[.slice Ac mc cc, .int .i64 xc] 37)
  have hb4' := hb4.trans (hbA.mono hb4.size)
  have hCB := BoxL.new w4 #[.slice Ac mc cc, .int .i64 xc] 37
  have HOB := Lib.hid (hOB.keep hb4')
  have hROX := hRO.keep hb4'
  have HGB := Lib.hid (hGB'.keep hb4')
  have HG := Lib.hid (hG'.keep hb4')
  have hbX := hbU.trans (hb4'.mono hbU.size)
  clear hb4 hb4' hbA hGB' hG' hbU g0 g1 HCYC hOB hRO
  generalize w4.alloc (.cells #[.slice Ac mc cc, .int .i64 xc] 37) = X at *
  generalize w4.heap.size = cb at *
  obtain ⟨g0, g1⟩ := HGB.out.c2
  obtain ⟨o0, o1⟩ := HOB.out.c2
  obtain ⟨c0, c1⟩ := hCB.c2
  cases hof : Dgr.orderF n es with
  | none =>
    obtain ⟨h1, h2, h3, h4⟩ := hROX.1 hof
    subst h4
    obtain rfl : xc = 0 := by
      cases b with
      | none =>
        obtain ⟨l, hl⟩ := (Dgr.orderF_iff HO.out).2 (show Dgr.Acyclic es from hcyc)
        rw [hof] at hl; cases hl
      | some lc => exact (hrc.2 lc rfl).2.2.2
    clear h1 h2 h3 hcyc hrc hROX hCB
    go_wp2
    go_ret
    exact ⟨rfl, hbX⟩
  | some l =>
    obtain ⟨h1, h2, h3, h4⟩ := hROX.2 l hof
    subst h4
    have hac := Dgr.orderF_acyclic HO.out hof
    obtain rfl : xc = 4 := by
      cases b with
      | none => exact (hrc.1 rfl).2.2.2
      | some lc =>
        have hcyc : Dgr.IsLeast es lc := hcyc
        obtain ⟨x, _, hx⟩ := Dgr.IsCyc.way hcyc.cyc
        exact absurd hx (hac x)
    obtain ⟨hord, hln⟩ := Dgr.orderF_some hof
    have htp := Dgr.orderF_topo hof
    subst hln
    subst h1
    have HORD := Lib.hid hord
    have HTP := Lib.hid htp
    have HRW := Lib.hid (h3.mono (Nat.zero_le _))
    obtain ⟨bo, oo, hoo⟩ := HRW.out.open
    have HOO := Lib.hid hoo
    have hlz : (zl l).length = l.length := by simp [zl]
    have hchk : chk l.length es (zl l) = 0 := chk_yes (topoZ_zl.2 htp)
    have hcall := check_any l.length A Ao es (zl l) d co X HG.out.arr HRW.out.arrZ HO.out (by omega) (by omega)
    rw [hchk, hlz] at hcall
    have HC := Lib.hid hcall
    have hgX := HGB.out.lt
    have hoX := HOB.out.lt
    have HCO := Lib.hid h2
    clear hcall hchk hlz hoo htp hord hac h2 h3 hcyc hrc hROX hCB hof
    go_wp2_with (go_at_call 21; refine HC.out.mono ?_; rintro e w5 ⟨rfl, hb5⟩; obtain ⟨g0', g1'⟩ := (HGB.out.keep hb5).c2; obtain ⟨o0', o1'⟩ := (HOB.out.keep hb5).c2)
    go_loopg [9] l.length (fun g i wr => ∃ k : Nat, i = .int .i64 k ∧ k ≤ l.length ∧ g = l.length - k ∧ Below X.heap.size X wr)
    case atStart => exact ⟨0, rfl, Nat.zero_le _, rfl, hb5⟩
    case round =>
      clear g0' g1' o0' o1' hb5 HC c0 c1
      obtain ⟨i, rfl, hi, rfl, hbl⟩ := hrel
      obtain ⟨p0, p1⟩ := (HGB.out.keep hbl).c2
      by_cases hlt : i < l.length
      · obtain ⟨xi, hxi⟩ := get_ex hlt
        obtain ⟨rfl, _, hbb, hcl⟩ := HOO.out (by intro h; subst h; simp at hlt)
        have hi1 : (0 : Int) ≤ (i : Int) := Int.natCast_nonneg _
        have hi2 : (i : Int) < (l.length : Int) := by omega
        have HXI := Lib.hid hxi
        have HCL := Lib.hid hcl
        clear hxi hcl HOO
        go_wp2
        go_loopg [10] (l.length - (i + 1)) (fun g j wr => ∃ k : Nat, j = .int .i64 ((k : Int) + 1) ∧ i ≤ k ∧ k + 1 ≤ l.length ∧ g = l.length - (k + 1) ∧ Below X.heap.size X wr)
        case atStart => exact ⟨i, rfl, Nat.le_refl _, by omega, rfl, hbl⟩
        case round =>
          clear hbl p0 p1
          obtain ⟨k, rfl, hik, hkl, rfl, hbl⟩ := hrel
          obtain ⟨p0, p1⟩ := (HGB.out.keep hbl).c2
          have hbs := hbl.size
          by_cases hkl2 : k + 1 < l.length
          · obtain ⟨xj, hxj⟩ := get_ex hkl2
            have hxin : xi < l.length := HTP.out.lt xi (List.mem_of_getElem? HXI.out)
            have hxjn : xj < l.length := HTP.out.lt xj (List.mem_of_getElem? hxj)
            have hG1 : ∀ p : Later wr, p.val.cell? ⟨ob, 0, none⟩ = some (.slice (some ⟨bo, oo, none⟩) l.length co) := lat hbl hoX o0
            have hG2 : ∀ p : Later wr, p.val.cell? ⟨bo, oo + i, none⟩ = some (.int .i64 (xi : Int)) := lat hbl hbb (HCL.out i xi HXI.out)
            have hG3 : ∀ p : Later wr, p.val.cell? ⟨bo, oo + (k + 1), none⟩ = some (.int .i64 (xj : Int)) := lat hbl hbb (HCL.out (k + 1) xj hxj)
            have hk1 : (0 : Int) ≤ (k : Int) + 1 := by omega
            have hk2 : (k : Int) + 1 < (l.length : Int) := by omega
            have HXJ := Lib.hid hxj
            clear hxj
            by_cases hgt : xi < xj
            · have hd : decide (xi < xj) = true := decide_eq_true hgt
              go_upto_region 19 with fail
              refine wp_region_later (by kernel_rfl) (by kernel_rfl) ?_
              repeat (go_big_quiet_step (fail))
              refine wpQuiet_nil ?_
              intro _ hw'
              obtain ⟨z, hw''⟩ := hw'
              subst hw''
              have hbz := hbl.trans (z.below.mono hbs)
              clear hG1 hG2 hG3 hd
              go_wp2
              go_roundg (l.length - (k + 1 + 1))
              case measure => omega
              case rel =>
                exact ⟨k + 1, by go_num, by omega, by omega, rfl, hbz⟩
            · have hd : decide (xi < xj) = false := decide_eq_false hgt
              go_upto_region 19 with fail
              refine wp_region_later (by kernel_rfl) (by kernel_rfl) ?_
              repeat (go_big_quiet_step (fail))
              refine wpQuiet_nil ?_
              intro _ hw'
              obtain ⟨z, hw''⟩ := hw'
              subst hw''
              have hbz := hbl.trans (z.below.mono hbs)
              have hblk : ∃ m u, i ≤ m ∧ m < l.length ∧ l[m]? = some u ∧ (u, xj) ∈ es := by
                have hne : xj ≠ xi := fun e => by
                  subst e
                  have := (List.getElem?_inj (show i < l.length by omega) HTP.out.nodup).1 (HXI.out.trans HXJ.out.symm)
                  omega
                exact Dgr.order_blocked HORD.out rfl HO.out (show i < k + 1 by omega) HXI.out HXJ.out (by omega)
              have HBLK := Lib.hid hblk
              clear hG1 hG2 hG3 hd hblk
              go_wp2
              go_loopg [11, 12] (l.length - i) (fun g s m wr => ∃ r : Nat, s = .bool (blk es l xj i r) ∧ m = .int .i64 r ∧ i ≤ r ∧ r ≤ l.length ∧ g = l.length - r ∧ Below X.heap.size X wr)
              case atStart => exact ⟨i, by rw [blk_zero], rfl, Nat.le_refl _, by omega, rfl, hbz⟩
              case round =>
                clear hbl p0 p1 hbz hbs
                obtain ⟨r, rfl, rfl, hir, hrl, rfl, hbl⟩ := hrel
                obtain ⟨p0, p1⟩ := (HGB.out.keep hbl).c2
                have hbs := hbl.size
                by_cases hlt3 : r < l.length
                · obtain ⟨y, hy⟩ := get_ex hlt3
                  have hyn : y < l.length := HTP.out.lt y (List.mem_of_getElem? hy)
                  have hG0 : ∀ p : Later wr, p.val.cell? ⟨gb, 1, none⟩ = some (.slice A es.length d) := lat hbl hgX g1
                  have hG1 : ∀ p : Later wr, p.val.cell? ⟨ob, 0, none⟩ = some (.slice (some ⟨bo, oo, none⟩) l.length co) := lat hbl hoX o0
                  have hG2 : ∀ p : Later wr, p.val.cell? ⟨bo, oo + r, none⟩ = some (.int .i64 (y : Int)) := lat hbl hbb (HCL.out r y hy)
                  have hG3 : ∀ p : Later wr, p.val.cell? ⟨bo, oo + (k + 1), none⟩ = some (.int .i64 (xj : Int)) := lat hbl hbb (HCL.out (k + 1) xj HXJ.out)
                  have hr1 : (0 : Int) ≤ (r : Int) := Int.natCast_nonneg _
                  have hr2 : (r : Int) < (l.length : Int) := by omega
                  have hED : Hid (∀ p : Later wr, Calls Try.prog 29 #[.slice A es.length d, .int .i64 (y : Int), .int .i64 (xj : Int)] p.val fun e w' => e = .returned (.bool (decide ((y, xj) ∈ es))) ∧ Below p.val.heap.size p.val w') := Lib.hid fun p =>
                    edge_any A es d y xj p.val ((HG.out.arr.keep hbl).keep p.below) (by omega) (by omega) (by omega)
                  have HY := Lib.hid hy
                  clear hy
                  cases hbk : blk es l xj i r with
                  | true =>
                    have HBK := Lib.hid hbk
                    clear hbk hED
                    go_upto_region 24 with fail
                    refine wp_region_later (by kernel_rfl) (by kernel_rfl) ?_
                    repeat (go_big_quiet_step (fail))
                    refine wpQuiet_nil ?_
                    intro _ hw'
                    obtain ⟨z, hw''⟩ := hw'
                    subst hw''
                    have hbz := hbl.trans (z.below.mono hbs)
                    clear hG0 hG1 hG2 hG3
                    go_wp2
                    go_roundg (l.length - (r + 1))
                    case measure => omega
                    case rel => exact ⟨r + 1, by rw [blk_succ hir HY.out, HBK.out]; rfl, by go_num, by omega, by omega, rfl, hbz⟩
                  | false =>
                    have HBK := Lib.hid hbk
                    clear hbk
                    go_upto_region 24 with fail
                    refine wp_region_later (by kernel_rfl) (by kernel_rfl) ?_
                    repeat (go_big_quiet_step (((go_at_call 29; with_reducible exact later_of (hED.out _)))))
                    refine wpQuiet_nil ?_
                    intro _ hw'
                    obtain ⟨z, hw''⟩ := hw'
                    subst hw''
                    have hbz := hbl.trans (z.below.mono hbs)
                    clear hG0 hG1 hG2 hG3 hED
                    go_wp2
                    go_roundg (l.length - (r + 1))
                    case measure => omega
                    case rel => exact ⟨r + 1, by rw [blk_succ hir HY.out, HBK.out]; rfl, by go_num, by omega, by omega, rfl, hbz⟩
                · have hall : blk es l xj i r = true := by
                    obtain ⟨m, u, h1, h2, h3, h4⟩ := HBLK.out
                    obtain rfl : r = l.length := by omega
                    rw [blk, List.take_of_length_le (Nat.le_refl _), List.any_eq_true]
                    refine ⟨u, ?_, decide_eq_true h4⟩
                    have : (l.drop i)[m - i]? = some u := by rw [List.getElem?_drop, show i + (m - i) = m by omega]; exact h3
                    exact List.mem_of_getElem? this
                  rw [hall]
                  clear hall
                  go_wp2
                  go_roundg (l.length - (k + 1 + 1))
                  case measure => omega
                  case rel => exact ⟨k + 1, by go_num, by omega, by omega, rfl, hbl⟩
          · go_wp2
            go_roundg (l.length - (i + 1))
            case measure => omega
            case rel => exact ⟨i + 1, by go_num, by omega, rfl, hbl⟩
      · have hbs := hbl.size
        by_cases hn2 : l.length < 2
        · have hd : decide ((l.length : Int) < 2) = true := decide_eq_true (by omega)
          clear HOO
          go_wp2
          go_ret
          exact ⟨rfl, hbX.trans (hbl.mono hbX.size)⟩
        · have hd : decide ((l.length : Int) < 2) = false := decide_eq_false (by omega)
          obtain ⟨Z, hZ⟩ : ∃ Z, Z = wr := ⟨_, rfl⟩
          subst hZ
          obtain ⟨q0, q1⟩ := (HOB.out.keep hbl).c2
          obtain ⟨rfl, _, hbb, hcl⟩ := HOO.out (by intro h; subst h; simp at hn2)
          have hbbZ : bo < Z.heap.size := Nat.lt_of_lt_of_le hbb hbs
          have hclZ : ∀ j x : Nat, l[j]? = some x → Z.cell? ⟨bo, oo + j, none⟩ = some (.int .i64 (x : Int)) := fun j x hx => (hbl.cell (p := ⟨bo, oo + j, none⟩) hbb).trans (hcl j x hx)
          have hbwZ := hbX.trans (hbl.mono hbX.size)
          have HGBZ := Lib.hid (HGB.out.keep hbl)
          have HOBZ := Lib.hid (HOB.out.keep hbl)
          have HEZ := Lib.hid (HG.out.arr.keep hbl)
          have hobZ := HOBZ.out.lt
          have hgbZ := HGBZ.out.lt
          have HCZ := Lib.hid hclZ
          obtain ⟨i0, hi0, hz0, hz1, hz2⟩ := parts_of infoInt
          obtain ⟨at_, hat, hatn⟩ := mod_nat hk0.1 (show k0 ≤ 1000 by omega) (show 0 < l.length - 1 by omega)
          rw [show ((l.length - 1 : Nat) : Int) = (l.length : Int) - 1 by omega] at hat
          have hnz : ¬ ((l.length : Int) - 1 = 0) := by omega
          have hown0 := World.ownsRow_lit (e := 3) (size := 1) Z #[] 0 (Nat.le_refl _) (by unfold maxLen; omega) rfl
          have HOWN := Lib.hid hown0
          clear hown0 hcl hclZ HOO HOB HGB HG HRW hbl g0 g1 o0 o1 hbX
          go_upto_region 31 with (at_builtin; refine wpList_append_lies _ rfl _ _ 26 rfl Z.heap.size 3 i0 (.int .i64 0) 1 8 Try.underlying26 hi0 hz0 hz1 hz2 rfl (by decide) _ _ _ rfl HOWN.out ⟨bo, oo, none⟩ l.length co (nv l) rfl (by simp [nv]) (fun j u hu => by rw [Addr.add_lit]; obtain ⟨x, hx, rfl⟩ := nv_some hu; exact ((Below.refl _ Z).alloc (Nat.le_refl _) _).cell (p := ⟨bo, oo + j, none⟩) hbbZ |>.trans (HCZ.out j x hx)) nv_one (by omega) (by unfold maxLen; omega) (by omega) (by simp) _ rfl ?_; intro g' cap' w6 hown6 hgrow6 hor6 hlt6)
          obtain ⟨g2, cap2, heq2, hbx, hg2⟩ := row_box hown6 (by omega)
          obtain ⟨rfl, rfl⟩ : g' = g2 ∧ cap' = cap2 := by injection heq2 with e1 e2 e3; injection e1 with e1; injection e1 with e1; exact ⟨e1, e3⟩
          obtain ⟨xa, hxa⟩ := get_ex (l := l) (j := at_) (by omega)
          obtain ⟨xb, hxb⟩ := get_ex (l := l) (j := at_ + 1) (by omega)
          obtain ⟨ca, fa⟩ := hbx.cells at_ (.int .i64 (xa : Int)) (by simpa using nv_get hxa)
          obtain ⟨cb2, fb⟩ := hbx.cells (at_ + 1) (.int .i64 (xb : Int)) (by simpa using nv_get hxb)
          have ha1 : (0 : Int) ≤ (at_ : Int) := Int.natCast_nonneg _
          have ha2 : (at_ : Int) < (l.length : Int) := by omega
          have ha3 : (at_ : Int) + 1 < (l.length : Int) := by omega
          clear hat hnz heq2
          go_region
          have hw7 : Below Z.heap.size Z w6 := ((Below.refl _ Z).alloc (Nat.le_refl _) (.cells #[] 3)).grown hgrow6 (by simp) (fun g9 hg9 => by cases hg9; exact Nat.le_refl _)
          have hb7 : Below Z.heap.size Z ((w6.setCell ⟨g', at_, none⟩ (.int .i64 (xb : Int))).setCell ⟨g', at_ + 1, none⟩ (.int .i64 (xa : Int))).drew := ((hw7.setCell (p := ⟨g', at_, none⟩) hg2 _).setCell (p := ⟨g', at_ + 1, none⟩) hg2 _).drew
          have hrow7 : ∀ j y : Nat, (swapL l at_ xa xb)[j]? = some y → ((w6.setCell ⟨g', at_, none⟩ (.int .i64 (xb : Int))).setCell ⟨g', at_ + 1, none⟩ (.int .i64 (xa : Int))).drew.cell? ⟨g', j, none⟩ = some (.int .i64 (y : Int)) := fun j y hy => by
            show ((w6.setCell ⟨g', at_, none⟩ (.int .i64 (xb : Int))).setCell ⟨g', at_ + 1, none⟩ (.int .i64 (xa : Int))).cell? ⟨g', j, none⟩ = some (.int .i64 (y : Int))
            have hjl := get_lt hy
            rw [swapL_length] at hjl
            rw [swapL_get hxa hxb hjl] at hy
            unfold Dgr.sw at hy
            by_cases hj1 : j = at_ + 1
            · subst hj1
              rw [if_neg (by omega), if_pos rfl, hxa] at hy
              cases hy
              exact World.cell?_setCell_same _ _ _ ((World.cell?_setCell_other _ _ _ _ (by simp)).trans cb2)
            · rw [World.cell?_setCell_other _ _ _ _ (fun e => by injection e with e1 e2; omega)]
              by_cases hj0 : j = at_
              · subst hj0
                rw [if_pos rfl, hxb] at hy
                cases hy
                exact World.cell?_setCell_same _ _ _ ca
              · rw [if_neg hj0, if_neg hj1] at hy
                rw [World.cell?_setCell_other _ _ _ _ (fun e => by injection e with e1 e2; omega)]
                exact (hbx.cells j (.int .i64 (y : Int)) (by simpa using nv_get hy)).1
          have hlt7 : g' < ((w6.setCell ⟨g', at_, none⟩ (.int .i64 (xb : Int))).setCell ⟨g', at_ + 1, none⟩ (.int .i64 (xa : Int))).drew.heap.size := by have := hbx.lt; simpa using this
          clear hbx ca cb2 fa fb hown6 hgrow6 hor6 hlt6 hw7
          generalize ((w6.setCell ⟨g', at_, none⟩ (.int .i64 (xb : Int))).setCell ⟨g', at_ + 1, none⟩ (.int .i64 (xa : Int))).drew = W7 at *
          have hz7 : ArrZ W7 (some ⟨g', 0, none⟩) (zl (swapL l at_ xa xb)) := Row.arrZ (base := 0) (fun _ => ⟨g', 0, rfl, Nat.zero_le _, hlt7, fun j u hu => by
            obtain ⟨y, hy, rfl⟩ := nv_some hu
            rw [Nat.zero_add]; exact hrow7 j y hy⟩)
          have hf7 := hb7
          have g1' : W7.cell? ⟨gb, 1, none⟩ = some (.slice A es.length d) := (hb7.cell (p := ⟨gb, 1, none⟩) hgbZ).trans HGBZ.out.c2.2
          have g0' : W7.cell? ⟨gb, 0, none⟩ = some (.int .i64 (l.length : Int)) := (hb7.cell (p := ⟨gb, 0, none⟩) hgbZ).trans HGBZ.out.c2.1
          have o0' : W7.cell? ⟨ob, 0, none⟩ = some (.slice (some ⟨bo, oo, none⟩) l.length co) := (hb7.cell (p := ⟨ob, 0, none⟩) hobZ).trans q0
          have hG0 : ∀ p : Later W7, p.val.cell? ⟨gb, 0, none⟩ = some (.int .i64 (l.length : Int)) := fun p => (p.below.cell (p := ⟨gb, 0, none⟩) (Nat.lt_of_lt_of_le hgbZ hb7.size)).trans g0'
          have hG1 : ∀ p : Later W7, p.val.cell? ⟨gb, 1, none⟩ = some (.slice A es.length d) := fun p => (p.below.cell (p := ⟨gb, 1, none⟩) (Nat.lt_of_lt_of_le hgbZ hb7.size)).trans g1'
          have hG2 : ∀ p : Later W7, p.val.cell? ⟨ob, 0, none⟩ = some (.slice (some ⟨bo, oo, none⟩) l.length co) := fun p => (p.below.cell (p := ⟨ob, 0, none⟩) (Nat.lt_of_lt_of_le hobZ hb7.size)).trans o0'
          have hG3 : ∀ p : Later W7, p.val.cell? ⟨bo, oo + at_, none⟩ = some (.int .i64 (xa : Int)) := fun p => ((hb7.trans (p.below.mono hb7.size)).cell (p := ⟨bo, oo + at_, none⟩) hbbZ).trans (HCZ.out at_ xa hxa)
          have hG4 : ∀ p : Later W7, p.val.cell? ⟨bo, oo + (at_ + 1), none⟩ = some (.int .i64 (xb : Int)) := fun p => ((hb7.trans (p.below.mono hb7.size)).cell (p := ⟨bo, oo + (at_ + 1), none⟩) hbbZ).trans (HCZ.out (at_ + 1) xb hxb)
          have hxan : xa < l.length := HTP.out.lt xa (List.mem_of_getElem? hxa)
          have hxbn : xb < l.length := HTP.out.lt xb (List.mem_of_getElem? hxb)
          have hE7 := HEZ.out.keep hb7
          have hED : Hid (∀ p : Later W7, Calls Try.prog 29 #[.slice A es.length d, .int .i64 (xa : Int), .int .i64 (xb : Int)] p.val fun e w' => e = .returned (.bool (decide ((xa, xb) ∈ es))) ∧ Below p.val.heap.size p.val w') := Lib.hid fun p =>
            edge_any A es d xa xb p.val (hE7.keep p.below) (by omega) (by omega) (by omega)
          have hz1 : (zl (swapL l at_ xa xb)).length = l.length := by simp [zl, swapL_length]
          have hC1 : Hid (∀ p : Later W7, Calls Try.prog 21 #[.int .i64 l.length, .slice A es.length d, .slice (some ⟨g', 0, none⟩) l.length cap'] p.val fun e w' => e = .returned (.int .i64 (chk l.length es (zl (swapL l at_ xa xb)))) ∧ Below p.val.heap.size p.val w') := Lib.hid fun p => by
            have := check_any l.length A (some ⟨g', 0, none⟩) es (zl (swapL l at_ xa xb)) d cap' p.val (hE7.keep p.below) (hz7.keep p.below) HO.out (by omega) (by omega)
            rwa [hz1] at this
          have hz2 : (zl (l.drop 1)).length = l.length - 1 := by simp [zl]
          have hrd : ArrZ W7 (some ⟨bo, oo + 1, none⟩) (zl (l.drop 1)) := Row.arrZ (base := 0) (fun _ => ⟨bo, oo + 1, rfl, Nat.zero_le _, Nat.lt_of_lt_of_le hbbZ hb7.size, fun j u hu => by
            obtain ⟨y, hy, rfl⟩ := nv_some hu
            rw [List.getElem?_drop] at hy
            have := (hb7.cell (p := ⟨bo, oo + (1 + j), none⟩) hbbZ).trans (HCZ.out (1 + j) y hy)
            rwa [← Nat.add_assoc] at this⟩)
          have hck2 : chk l.length es (zl (l.drop 1)) = 6 := chk_no (fun h => by have := (topoZ_zl.1 h).len; simp at this; omega)
          have hC2 : Hid (∀ p : Later W7, Calls Try.prog 21 #[.int .i64 l.length, .slice A es.length d, .slice (some ⟨bo, oo + 1, none⟩) (l.length - 1) (co - 1)] p.val fun e w' => e = .returned (.int .i64 6) ∧ Below p.val.heap.size p.val w') := Lib.hid fun p => by
            have := check_any l.length A (some ⟨bo, oo + 1, none⟩) es (zl (l.drop 1)) d (co - 1) p.val (hE7.keep p.below) (hrd.keep p.below) HO.out (by omega) (by omega)
            rwa [hz2, hck2] at this
          obtain ⟨off2, ho2, hsl⟩ := slice_one bo oo (l.length - 1) co (by have := HCO.out; omega)
          rw [Nat.sub_add_cancel (show 1 ≤ l.length by omega), ho2 (by have := HCO.out; omega)] at hsl
          have htopo := Dgr.topo_swap HTP.out (show at_ + 1 < l.length by omega) hxa hxb (swapL_length l at_ xa xb) (fun i hi => swapL_get hxa hxb hi)
          have hbw7 := hbwZ.trans (hb7.mono hbwZ.size)
          have HT2 := Lib.hid htopo
          clear htopo hE7 hz1 hz2 hrd hck2 hz7 hrow7 hf7 g0' g1' o0' ho2 hxa hxb q0 q1
          by_cases he : (xa, xb) ∈ es
          · have hck1 : chk l.length es (zl (swapL l at_ xa xb)) = 6 := chk_no (fun h => HT2.out.1 (topoZ_zl.1 h) he)
            rw [hck1] at hC1
            rw [decide_eq_true he] at hED
            clear hck1
            go_upto_region 32 with fail
            refine wp_region_later (by kernel_rfl) (by kernel_rfl) ?_
            repeat (go_big_quiet_step (((first | (go_at_call 29; with_reducible exact later_of (hED.out _)) | (go_at_call 21; first | with_reducible exact later_of (hC1.out _) | with_reducible exact later_of (hC2.out _))))))
            refine wpQuiet_nil ?_
            intro _ hw'
            obtain ⟨z, hw''⟩ := hw'
            subst hw''
            have hbz := hbw7.trans (z.below.mono hbw7.size)
            clear hG0 hG1 hG2 hG3 hG4 hC1 hC2 hED hsl
            go_wp2
            go_ret
            exact ⟨rfl, hbz⟩
          · have hck1 : chk l.length es (zl (swapL l at_ xa xb)) = 0 := chk_yes (topoZ_zl.2 (HT2.out.2 he))
            rw [hck1] at hC1
            rw [decide_eq_false he] at hED
            clear hck1
            go_upto_region 32 with fail
            refine wp_region_later (by kernel_rfl) (by kernel_rfl) ?_
            repeat (go_big_quiet_step (((first | (go_at_call 29; with_reducible exact later_of (hED.out _)) | (go_at_call 21; first | with_reducible exact later_of (hC1.out _) | with_reducible exact later_of (hC2.out _))))))
            refine wpQuiet_nil ?_
            intro _ hw'
            obtain ⟨z, hw''⟩ := hw'
            subst hw''
            have hbz := hbw7.trans (z.below.mono hbw7.size)
            clear hG0 hG1 hG2 hG3 hG4 hC1 hC2 hED hsl
            go_wp2
            go_ret
            exact ⟨rfl, hbz⟩

end Gp
end Go.Proofs.Ytpmmdibidhaggaa
