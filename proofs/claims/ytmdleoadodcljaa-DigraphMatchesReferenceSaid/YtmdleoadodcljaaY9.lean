/- The reference's DepthIn. -/
import Derived.Test.YtmdleoadodcljaaY2
namespace Go.Proofs.Ytmdleoadodcljaa
open Go.RowKit Sl Fr
namespace Gp
set_option linter.unusedVariables false

def RdAt (n : Nat) (es : Dgr.Edges) (l : List Nat) (V : World) (g : Nat) (i : Value) (wr : World) : Prop :=
  ∃ (k : Nat) (f : Nat → Nat), i = .int .i64 k ∧ k ≤ n ∧ g = n - k ∧ Dgr.DOut es l k f ∧ (∀ v, f v ≤ k) ∧ CellsV wr V.heap.size n (nF f) ∧ Below V.heap.size V wr
def RdIn (n : Nat) (es : Dgr.Edges) (k x : Nat) (f0 : Nat → Nat) (V : World) (g : Nat) (i : Value) (wr : World) : Prop :=
  ∃ (j : Nat) (f : Nat → Nat), i = .int .i64 j ∧ j ≤ es.length ∧ g = es.length - j ∧ Dgr.DIn x f0 (es.take j) f ∧ (∀ v, v ≠ x → f v ≤ k) ∧ f x ≤ k + 1 ∧ CellsV wr V.heap.size n (nF f) ∧ Below V.heap.size V wr

set_option maxRecDepth 100000 in
set_option maxHeartbeats 6400000 in
theorem rdepth_any (n : Nat) (A : Option Addr) (es : Dgr.Edges) (c : Nat) (w : World) (hA : EdgesA w A es) (ok : Dgr.Ok n es) (hn : n ≤ 200) (hl : es.length ≤ 2000) :
    Calls Try.prog 14 #[.int .i64 n, .slice A es.length c] w fun e w' => ∃ b, DepIs n es b ∧ GiveL w b 50 e w' := by
  have hmk := run_make_row' (P := Try.prog) 26 3 (.int .i64 0) 8 Try.underlying26 infoInt rfl .i64 .i64 n (by omega) (by omega)
  have hst := start1 w #[.slice none 0 0, .int .i64 0] 37
  have hsz : (w.alloc (.cells #[.slice none 0 0, .int .i64 0] 37)).heap.size = w.heap.size + 1 := World.size_alloc _ _
  go_enter Try.func14, Try.ntmps14
  go_upto_region 1 with fail
  generalize w.alloc (.cells #[.slice none 0 0, .int .i64 0] 37) = X at *
  obtain ⟨hNB, hbX⟩ := hst
  have hcall := rorder_any n A es c X (hA.keep hbX) ok hn hl
  have HSZ := Lib.hid hsz
  have HA := Lib.hid (hA.keep hbX)
  have HO := Lib.hid ok
  have HNB := Lib.hid hNB
  have HBX := Lib.hid hbX
  have HMK := Lib.hid hmk
  clear hsz hA ok hNB hmk hbX
  go_upto_region 2 with (go_at_call 10; refine hcall.mono ?_; rintro e w1 ⟨A2, m2, c2, x, rfl, hr, hb1⟩)
  have hV1 := BoxL.new w1 #[.slice A2 m2 c2, .int .i64 x] 37
  have hVw1 := (Below.refl _ w1).alloc (Nat.le_refl _) (.cells #[.slice A2 m2 c2, .int .i64 x] 37)
  clear hcall
  generalize w1.alloc (.cells #[.slice A2 m2 c2, .int .i64 x] 37) = V at *
  have hXV : Below X.heap.size X V := hb1.trans (hVw1.mono hb1.size)
  have hwV : Below w.heap.size w V := HBX.out.trans (hXV.mono HBX.out.size)
  have hr2 := (hr.keep hVw1).mono HBX.out.size
  have hNV := HNB.out.keep hXV
  have HV1 := Lib.hid hV1
  have HNV := Lib.hid hNV
  have HAV := Lib.hid (HA.out.keep hXV)
  have HWV := Lib.hid hwV
  obtain ⟨v0, v1⟩ := hV1.c2
  obtain ⟨k0, k1⟩ := hNV.c2
  obtain ⟨f0, f1⟩ := hNV.f2
  clear hr hb1 hV1 hNV hVw1 hXV hwV
  cases hof : Dgr.orderF n es with
  | none =>
    obtain ⟨rfl, rfl, rfl, rfl⟩ := hr2.1 hof
    have HOF := Lib.hid hof
    have hs := Lib.hid (HNV.out.s2 (.slice none 0 0) (.int .i64 50))
    have HBB := Lib.hid (below_s2 HWV.out (Nat.le_refl _) (.slice none 0 0) (.int .i64 50))
    clear hof hr2
    go_wp2
    generalize (V.setCell ⟨w.heap.size, 0, none⟩ (.slice none 0 0)).setCell ⟨w.heap.size, 1, none⟩ (.int .i64 50) = R at *
    obtain ⟨s0, s1⟩ := hs.out.c2
    refine bodyPost_ret (v := .agg #[.slice none 0 0, .int .i64 50]) (by simp [results, Try.results14, go_sem, s0, s1]) rfl ?_
    exact ⟨none, HOF.out, none, 0, 0, 50, rfl, ⟨fun _ => ⟨rfl, rfl, rfl, rfl⟩, fun l hl => by cases hl⟩, HBB.out⟩
  | some l =>
    obtain ⟨hm, hlc, hrow, rfl⟩ := hr2.2 l hof
    have HOF := Lib.hid hof
    have htp := Dgr.orderF_topo hof
    have HT := Lib.hid htp
    have hln := htp.len
    obtain ⟨b1, o1, hq1⟩ := hrow.open
    have HQ1 := Lib.hid hq1
    obtain ⟨ab, ao, ha⟩ := HAV.out.open
    have HE := Lib.hid ha
    obtain rfl : m2 = n := by omega
    have hmk := HMK.out
    have HC0 : Hid (CellsV (V.alloc (.cells (madeCells #[.int .i64 0] m2) 3)) V.heap.size m2 (nF fun _ => 0)) := Lib.hid (CellsV.made V _ m2 _)
    have HLN := Lib.hid hln
    clear hof htp hr2 hrow hq1 ha hm hlc HA HMK hln
    go_upto_region 5 with fail
    clear hmk v0 v1 k0 k1 f0 f1
    go_wp2
    go_loopg [7] m2 (fun g i wr => RdAt m2 es l V g i wr)
    case atStart => exact ⟨0, fun _ => 0, rfl, Nat.zero_le _, rfl, Dgr.DOut.start (fun _ _ => rfl), fun _ => Nat.le_refl _, HC0.out, (Below.refl _ _).alloc (Nat.le_refl _) _⟩
    case round =>
      obtain ⟨k, f0, rfl, hk, rfl, hP, hfk, hC, hbl⟩ := hrel
      clear HC0
      have HP := Lib.hid hP
      have HC := Lib.hid hC
      have HFK := Lib.hid hfk
      clear hP hC hfk
      have hMlt := HC.out.lt
      have hVs := HV1.out
      obtain ⟨v0, v1⟩ := (hVs.keep hbl).c2
      clear hVs
      by_cases hlt : k < m2
      · obtain ⟨x, hx⟩ := get_ex (l := l) (j := k) (by have := HLN.out; omega)
        obtain ⟨rfl, _, hbs1, hc⟩ := HQ1.out (by intro h; subst h; simp at hx)
        have hcx := (hbl.cell (p := ⟨b1, o1 + k, none⟩) hbs1).trans (hc k x hx)
        have hxn : x < m2 := HT.out.lt x (List.mem_of_getElem? hx)
        have HX := Lib.hid hx
        have hx1 : (0 : Int) ≤ (x : Int) := Int.natCast_nonneg _
        have hx2 : (x : Int) < (m2 : Int) := by omega
        have hfx0 : f0 x = 0 := HP.out.todo k x (Nat.le_refl _) hx
        have HS : Hid (RdIn m2 es k x f0 V es.length (.int .i64 ((0 : Nat) : Int)) wr) := Lib.hid ⟨0, f0, rfl, Nat.zero_le _, rfl, Dgr.DIn.start hfx0, fun v _ => HFK.out v, by omega, HC.out, hbl⟩
        clear hc hx HC hfx0
        go_wp2
        go_loopg [9] es.length (fun g i wr => RdIn m2 es k x f0 V g i wr)
        case atStart => exact HS.out
        case round =>
          obtain ⟨j, f, rfl, hj, rfl, hP, hfo, hfx, hC, hbl⟩ := hrel
          clear HS hcx v0 v1
          have HI := Lib.hid hP
          have HC := Lib.hid hC
          have HFO := Lib.hid hfo
          clear hP hC hfo
          by_cases hlt2 : j < es.length
          · obtain ⟨⟨a, y⟩, hay⟩ := get_ex hlt2
            obtain ⟨rfl, hblt, hc⟩ := HE.out (by intro h; subst h; simp at hlt2)
            obtain ⟨ha, hy⟩ := hc j a y hay
            have hca := (hbl.cell (p := ⟨ab, ao + j * 2, none⟩) hblt).trans ha
            have hcy := (hbl.cell (p := ⟨ab, ao + j * 2 + 1, none⟩) hblt).trans hy
            have hmem := List.mem_of_getElem? hay
            have han : a < m2 := (HO.out _ hmem).1
            have HAY := Lib.hid hay
            have ha1 : (0 : Int) ≤ (a : Int) := Int.natCast_nonneg _
            have ha2 : (a : Int) < (m2 : Int) := by omega
            by_cases hyx : y = x
            case neg =>
              have hd : ((y : Int) == (x : Int)) = false := by rw [beq_eq_false_iff_ne]; omega
              have HI2 : Hid (Dgr.DIn x f0 (es.take (j + 1)) f) := Lib.hid (by rw [take_snoc HAY.out]; exact HI.out.skip hyx)
              clear hc ha hy hay hmem hyx HE
              go_wp2
              go_roundg (es.length - (j + 1))
              case measure => omega
              case rel => exact ⟨j + 1, f, by go_num, by omega, rfl, HI2.out, HFO.out, hfx, HC.out, hbl⟩
            subst hyx
            have hax : a ≠ y := fun e => by
              subst e
              have := HT.out.edge k k a a HX.out HX.out hmem
              omega
            have hfa : f a ≤ k := HFO.out a hax
            have hcm : wr.cell? ⟨V.heap.size, y, none⟩ = some (.int .i64 (f y : Int)) := HC.out.cell y hxn
            have hcma : wr.cell? ⟨V.heap.size, a, none⟩ = some (.int .i64 (f a : Int)) := HC.out.cell a han
            have hmy := HC.out.mark y hxn
            clear hc ha hy hay hmem HE
            go_upto_region 13 with fail
            refine wp_region_till (fun w' => w'.cell? ⟨V.heap.size, y, none⟩ = some (.int .i64 (f y : Int)) ∧ w'.cell? ⟨V.heap.size, a, none⟩ = some (.int .i64 (f a : Int)) ∧ w'.cell? ⟨ab, ao + j * 2, none⟩ = some (.int .i64 (a : Int))) 16 (by kernel_rfl) ?_ (fun hHeld => ?_)
            · exact ⟨hcm, hcma, hca⟩
            refine anyTill.reads (i := 0) rfl (by kernel_rfl) (by kernel_rfl) (by kernel_rfl) (by kernel_rfl) (fun _ _ _ h => h) (by rfl) (v := ?_) ?_ (by assumption) ?_
            rotate_left
            · intro wz hz; (try dsimp only at hz); go_split_ands; go_simp; try with_reducible rfl
            simp only [Act.put, List.setIfInBounds_toArray, List.set_cons_zero, List.set_cons_succ]
            refine anyTill.reads (i := 1) rfl (by kernel_rfl) (by kernel_rfl) (by kernel_rfl) (by kernel_rfl) (fun _ _ _ h => h) (by rfl) (v := ?_) ?_ (by assumption) ?_
            rotate_left
            · intro wz hz; (try dsimp only at hz); go_split_ands; go_simp; try with_reducible rfl
            simp only [Act.put, List.setIfInBounds_toArray, List.set_cons_zero, List.set_cons_succ]
            refine anyTill.reads (i := 2) rfl (by kernel_rfl) (by kernel_rfl) (by kernel_rfl) (by kernel_rfl) (fun _ _ _ h => h) (by rfl) (v := ?_) ?_ (by assumption) ?_
            rotate_left
            · intro wz hz; (try dsimp only at hz); go_split_ands; go_simp; try with_reducible rfl
            simp only [Act.put, List.setIfInBounds_toArray, List.set_cons_zero, List.set_cons_succ]
            refine anyTill.reads (i := 3) rfl (by kernel_rfl) (by kernel_rfl) (by kernel_rfl) (by kernel_rfl) (fun _ _ _ h => h) (by rfl) (v := ?_) ?_ (by assumption) ?_
            rotate_left
            · intro wz hz; (try dsimp only at hz); go_split_ands; go_simp; try with_reducible rfl
            simp only [Act.put, List.setIfInBounds_toArray, List.set_cons_zero, List.set_cons_succ]
            refine anyTill.reads (i := 4) rfl (by kernel_rfl) (by kernel_rfl) (by kernel_rfl) (by kernel_rfl) (fun _ _ _ h => h) (by rfl) (v := ?_) ?_ (by assumption) ?_
            rotate_left
            · intro wz hz; (try dsimp only at hz); go_split_ands; go_simp; try with_reducible rfl
            simp only [Act.put, List.setIfInBounds_toArray, List.set_cons_zero, List.set_cons_succ]
            refine anyTill.reads (i := 5) rfl (by kernel_rfl) (by kernel_rfl) (by kernel_rfl) (by kernel_rfl) (fun _ _ _ h => h) (by rfl) (v := ?_) ?_ (by assumption) ?_
            rotate_left
            · intro wz hz; (try dsimp only at hz); go_split_ands; go_simp; try with_reducible rfl
            simp only [Act.put, List.setIfInBounds_toArray, List.set_cons_zero, List.set_cons_succ]
            refine anyTill.reads (i := 6) rfl (by kernel_rfl) (by kernel_rfl) (by kernel_rfl) (by kernel_rfl) (fun _ _ _ h => h) (by rfl) (v := ?_) ?_ (by assumption) ?_
            rotate_left
            · intro wz hz; (try dsimp only at hz); go_split_ands; go_simp; try with_reducible rfl
            simp only [Act.put, List.setIfInBounds_toArray, List.set_cons_zero, List.set_cons_succ]
            refine anyTill.reads (i := 7) rfl (by kernel_rfl) (by kernel_rfl) (by kernel_rfl) (by kernel_rfl) (fun _ _ _ h => h) (by rfl) (v := ?_) ?_ (by assumption) ?_
            rotate_left
            · intro wz hz; (try dsimp only at hz); go_split_ands; go_simp; try with_reducible rfl
            simp only [Act.put, List.setIfInBounds_toArray, List.set_cons_zero, List.set_cons_succ]
            refine anyTill.reads (i := 8) rfl (by kernel_rfl) (by kernel_rfl) (by kernel_rfl) (by kernel_rfl) (fun _ _ _ h => h) (by rfl) (v := ?_) ?_ (by assumption) ?_
            rotate_left
            · intro wz hz; (try dsimp only at hz); go_split_ands; go_simp; try with_reducible rfl
            simp only [Act.put, List.setIfInBounds_toArray, List.set_cons_zero, List.set_cons_succ]
            refine anyTill.reads (i := 9) rfl (by kernel_rfl) (by kernel_rfl) (by kernel_rfl) (by kernel_rfl) (fun _ _ _ h => h) (by rfl) (v := ?_) ?_ (by assumption) ?_
            rotate_left
            · intro wz hz; (try dsimp only at hz); go_split_ands; go_simp; try with_reducible rfl
            simp only [Act.put, List.setIfInBounds_toArray, List.set_cons_zero, List.set_cons_succ]
            refine anyTill.reads (i := 10) rfl (by kernel_rfl) (by kernel_rfl) (by kernel_rfl) (by kernel_rfl) (fun _ _ _ h => h) (by rfl) (v := ?_) ?_ (by assumption) ?_
            rotate_left
            · intro wz hz; (try dsimp only at hz); go_split_ands; go_simp; try with_reducible rfl
            simp only [Act.put, List.setIfInBounds_toArray, List.set_cons_zero, List.set_cons_succ]
            refine anyTill.reads (i := 11) rfl (by kernel_rfl) (by kernel_rfl) (by kernel_rfl) (by kernel_rfl) (fun _ _ _ h => h) (by rfl) (v := ?_) ?_ (by assumption) ?_
            rotate_left
            · intro wz hz; (try dsimp only at hz); go_split_ands; go_simp; try with_reducible rfl
            simp only [Act.put, List.setIfInBounds_toArray, List.set_cons_zero, List.set_cons_succ]
            refine anyTill.reads (i := 12) rfl (by kernel_rfl) (by kernel_rfl) (by kernel_rfl) (by kernel_rfl) (fun _ _ _ h => h) (by rfl) (v := ?_) ?_ (by assumption) ?_
            rotate_left
            · intro wz hz; (try dsimp only at hz); go_split_ands; go_simp; try with_reducible rfl
            simp only [Act.put, List.setIfInBounds_toArray, List.set_cons_zero, List.set_cons_succ]
            refine anyTill.reads (i := 13) rfl (by kernel_rfl) (by kernel_rfl) (by kernel_rfl) (by kernel_rfl) (fun _ _ _ h => h) (by rfl) (v := ?_) ?_ (by assumption) ?_
            rotate_left
            · intro wz hz; (try dsimp only at hz); go_split_ands; go_simp; try with_reducible rfl
            simp only [Act.put, List.setIfInBounds_toArray, List.set_cons_zero, List.set_cons_succ]
            refine anyTill.reads (i := 14) rfl (by kernel_rfl) (by kernel_rfl) (by kernel_rfl) (by kernel_rfl) (fun _ _ _ h => h) (by rfl) (v := ?_) ?_ (by assumption) ?_
            rotate_left
            · intro wz hz; (try dsimp only at hz); go_split_ands; go_simp; try with_reducible rfl
            simp only [Act.put, List.setIfInBounds_toArray, List.set_cons_zero, List.set_cons_succ]
            refine anyTill.reads (i := 15) rfl (by kernel_rfl) (by kernel_rfl) (by kernel_rfl) (by kernel_rfl) (fun _ _ _ h => h) (by rfl) (v := ?_) ?_ (by assumption) ?_
            rotate_left
            · intro wz hz; (try dsimp only at hz); go_split_ands; go_simp; try with_reducible rfl
            simp only [Act.put, List.setIfInBounds_toArray, List.set_cons_zero, List.set_cons_succ]
            refine anyTill.alone (i := 16) rfl (by kernel_rfl) (by rfl) (fun K hK => ?_)
            go_simp
            refine hK.out _ _ (fun h => absurd h (by decide)) (fun hHeld => ?_)
            clear hK K
            try simp only [Act.put, List.setIfInBounds_toArray, List.set_cons_zero, List.set_cons_succ]
            refine anyTill.alone (i := 17) rfl (by kernel_rfl) (by rfl) (fun K hK => ?_)
            go_simp
            refine hK.out _ _ (fun h => absurd h (by decide)) (fun hHeld => ?_)
            clear hK K
            try simp only [Act.put, List.setIfInBounds_toArray, List.set_cons_zero, List.set_cons_succ]
            refine anyTill.done (by kernel_rfl) ?_ _
            have hwr : IntKind.i64.wrap ((f a : Int) + 1) = (f a : Int) + 1 := IntWalk.i64_in _ (by omega)
            have e : (if (f y : Int) < IntKind.i64.wrap ((f a : Int) + 1) then IntKind.i64.wrap ((f a : Int) + 1) else (f y : Int)) = ((max (f y) (f a + 1) : Nat) : Int) := by
              rw [hwr]
              split <;> omega
            rw [e]
            have hbz : Below V.heap.size V (wr.setCell ⟨V.heap.size, y, none⟩ (.int .i64 ((max (f y) (f a + 1) : Nat) : Int))).drew := (hbl.setCell (p := ⟨V.heap.size, y, none⟩) (Nat.le_refl _) _).drew
            have HCz : Hid (CellsV (wr.setCell ⟨V.heap.size, y, none⟩ (.int .i64 ((max (f y) (f a + 1) : Nat) : Int))).drew V.heap.size m2 (nF (up f y (max (f y) (f a + 1))))) := Lib.hid
              ((HC.out.set hxn (v := .int .i64 ((max (f y) (f a + 1) : Nat) : Int)) (G := nF (up f y (max (f y) (f a + 1)))) (by simp [nF, up_same]) (fun j hj => by simp [nF, up_ne _ _ hj])).keep ((Below.refl _ _).drew))
            have HI2 : Hid (Dgr.DIn y f0 (es.take (j + 1)) (up f y (max (f y) (f a + 1)))) := Lib.hid (by rw [take_snoc HAY.out]; exact HI.out.take hax (up_same _ _ _) (fun w hw => up_ne _ _ hw))
            have HFO2 : Hid (∀ v, v ≠ y → up f y (max (f y) (f a + 1)) v ≤ k) := Lib.hid fun v hv => by rw [up_ne _ _ hv]; exact HFO.out v hv
            have hfx2 : up f y (max (f y) (f a + 1)) y ≤ k + 1 := by rw [up_same]; omega
            have HFX2 := Lib.hid hfx2
            clear hHeld hwr e hfx2
            go_wp2
            go_roundg (es.length - (j + 1))
            case measure => omega
            case rel => exact ⟨j + 1, up f y (max (f y) (f a + 1)), by go_num, by omega, rfl, HI2.out, HFO2.out, HFX2.out, HCz.out, hbz⟩
          · have HP2 : Hid (Dgr.DOut es l (k + 1) f) := Lib.hid (HP.out.step HT.out HO.out HX.out (by have := HI.out; rwa [List.take_of_length_le (by omega)] at this))
            clear HE
            go_wp2
            go_roundg (m2 - (k + 1))
            case measure => omega
            case rel => exact ⟨k + 1, f, by go_num, by omega, rfl, HP2.out, fun v => by
              by_cases hv : v = x
              · subst hv; exact hfx
              · have := HFO.out v hv; omega, HC.out, hbl⟩
      · obtain rfl : k = m2 := by omega
        have hNw := HNV.out.keep hbl
        obtain ⟨g0, g1⟩ := hNw.f2
        obtain ⟨k0, k1⟩ := hNw.c2
        have hs := Lib.hid (hNw.s2 (.slice (some ⟨V.heap.size, 0, none⟩) k k) (.int .i64 0))
        have hbw : Below w.heap.size w wr := HWV.out.trans (hbl.mono HWV.out.size)
        have HBB := Lib.hid (below_s2 hbw (Nat.le_refl _) (.slice (some ⟨V.heap.size, 0, none⟩) k k) (.int .i64 0))
        have hlt0 : w.heap.size < V.heap.size := HNV.out.lt
        have hlen : k = ((List.range k).map f0).length := by rw [List.length_map, List.length_range]
        have hrowV : Row wr (w.heap.size + 1) (some ⟨V.heap.size, 0, none⟩) ((List.range k).map f0) := HC.out.row (by omega) (by omega) fun i v hi => by
          rw [List.getElem?_map, Option.map_eq_some_iff] at hi
          obtain ⟨a, h1, rfl⟩ := hi
          have hik : i < k := by have := get_lt h1; simpa using this
          rw [List.getElem?_range hik] at h1
          cases h1
          rfl
        have HR := Lib.hid (((hrowV.setB (p := ⟨w.heap.size, 0, none⟩) (Nat.lt_succ_self _) (.slice (some ⟨V.heap.size, 0, none⟩) k k)).setB (p := ⟨w.heap.size, 1, none⟩) (Nat.lt_succ_self _) (.int .i64 0)).mono (Nat.le_succ _))
        have HLEN := Lib.hid hlen
        clear HQ1 hNw hrowV hlen HE
        go_wp2
        generalize (wr.setCell ⟨w.heap.size, 0, none⟩ (.slice (some ⟨V.heap.size, 0, none⟩) k k)).setCell ⟨w.heap.size, 1, none⟩ (.int .i64 0) = R at *
        obtain ⟨s0, s1⟩ := hs.out.c2
        refine bodyPost_ret (v := .agg #[.slice (some ⟨V.heap.size, 0, none⟩) k k, .int .i64 0]) (by simp [results, Try.results14, go_sem, s0, s1]) rfl ?_
        exact ⟨some ((List.range k).map f0), ⟨f0, l, HP.out.depth HT.out HO.out, HOF.out, rfl⟩, _, _, _, _, rfl, ⟨fun h => (by cases h), fun m hm => (by cases hm; exact ⟨HLEN.out, Nat.le_of_eq HLEN.out.symm, HR.out, rfl⟩)⟩, HBB.out⟩

end Gp
end Go.Proofs.Ytmdleoadodcljaa
