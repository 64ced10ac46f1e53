/- DigraphCloses: the walk. -/
import Derived.Test.YtpmmdibidhaggaaH0
import Derived.Test.YtpmmdibidhaggaaL9
namespace Go.Proofs.Ytpmmdibidhaggaa
open Go.RowKit Sl Fr
namespace Gp
set_option linter.unusedVariables false
attribute [local go_sem] field_e


theorem field_l (A : Option Addr) (k c : Nat) (x : Int) (w : World) : (Instr.field 37 (.agg #[.slice A k c, .int .i64 x]) 0).run Try.prog w = .ok (.slice A k c) w := by kernel_rfl
attribute [local go_sem] field_l
theorem comp_len (n : Nat) (es : Dgr.Edges) : (Dgr.compL n es).length ≤ n := by rw [Dgr.compL, List.length_map]; exact those_len n _
theorem comp_each (n : Nat) (es : Dgr.Edges) (x : List Nat) (h : x ∈ Dgr.compL n es) : x.length ≤ n := by
  obtain ⟨v, _, rfl⟩ := List.mem_map.1 h
  exact those_len n _
theorem cycle_lens {es : Dgr.Edges} {b b' : Option (List Nat)} (h : Dgr.CycIs es b) (h' : Dgr.CycIs (Dgr.rev es) b') {w w' : World} {base base' : Nat} {A A' : Option Addr} {m m' c c' : Nat} {x x' : Int} (r : ResE w base b 4 A m c x) (r' : ResE w' base' b' 4 A' m' c' x') : m = m' := by
  cases b with
  | none =>
    cases b' with
    | none => rw [(r.1 rfl).2.1, (r'.1 rfl).2.1]
    | some l => obtain ⟨x, _, hx⟩ := Dgr.IsCyc.way (Dgr.IsLeast.cyc h'); exact absurd hx (Dgr.acyclic_rev.2 h x)
  | some l =>
    cases b' with
    | none => obtain ⟨x, _, hx⟩ := Dgr.IsCyc.way (Dgr.IsLeast.cyc h); exact absurd hx (Dgr.acyclic_rev.1 h' x)
    | some l' => rw [(r.2 l rfl).1, (r'.2 l' rfl).1]; exact Dgr.IsLeast.len_rev h h'

theorem rev_none {n : Nat} {es : Dgr.Edges} (ok : Dgr.Ok n es) (okr : Dgr.Ok n (Dgr.rev es)) (hof : Dgr.orderF n es = none) {w : World} {b : Nat} {A : Option Addr} {m c : Nat} {x : Int} (h : ResE w b (Dgr.orderF n (Dgr.rev es)) 50 A m c x) : x = 50 := by
  cases hr : Dgr.orderF n (Dgr.rev es) with
  | none => exact (h.1 hr).2.2.2
  | some l =>
    obtain ⟨l2, h2⟩ := (Dgr.orderF_iff ok).2 (Dgr.acyclic_rev.1 (Dgr.orderF_acyclic okr hr))
    rw [hof] at h2
    cases h2
theorem isLeast_len4 {n : Nat} {es : Dgr.Edges} {l : List Nat} (ok : Dgr.Ok n es) (h : Dgr.IsLeast es l) : l.length ≤ n ∧ ∀ x ∈ l, x < n := by
  have hlt : ∀ x ∈ l, x < n := fun x hx => by
    obtain ⟨i, hi, e⟩ := List.getElem_of_mem hx
    have h1 : l[i]? = some x := by rw [List.getElem?_eq_getElem hi, e]
    have hj : (i + 1) % l.length < l.length := Nat.mod_lt _ h.cyc.pos
    have := h.cyc.edge i x _ h1 (List.getElem?_eq_getElem hj)
    exact (ok _ this).1
  exact ⟨Dgr.nodup_len n l h.cyc.nodup hlt, hlt⟩
theorem order_no {n : Nat} {es : Dgr.Edges} (hna : ¬ Dgr.Acyclic es) (ok : Dgr.Ok n es) {w : World} {b : Nat} {A : Option Addr} {m c : Nat} {x : Int} (h : ResE w b (Dgr.orderF n es) 50 A m c x) : x = 50 := by
  cases hr : Dgr.orderF n es with
  | none => exact (h.1 hr).2.2.2
  | some l => exact absurd (Dgr.orderF_acyclic ok hr) hna
theorem order_yes {n : Nat} {es : Dgr.Edges} (ha : Dgr.Acyclic es) (ok : Dgr.Ok n es) {w : World} {b : Nat} {A : Option Addr} {m c : Nat} {x : Int} (h : ResE w b (Dgr.orderF n es) 50 A m c x) : x = 0 := by
  obtain ⟨l, hl⟩ := (Dgr.orderF_iff ok).2 ha
  exact (h.2 l hl).2.2.2
theorem rev_some {n : Nat} {es : Dgr.Edges} {l : List Nat} (ok : Dgr.Ok n es) (okr : Dgr.Ok n (Dgr.rev es)) (hof : Dgr.orderF n es = some l) {w : World} {b : Nat} {A : Option Addr} {m c : Nat} {x : Int} (h : ResE w b (Dgr.orderF n (Dgr.rev es)) 50 A m c x) : x = 0 := by
  obtain ⟨l2, h2⟩ := (Dgr.orderF_iff okr).2 (Dgr.acyclic_rev.2 (Dgr.orderF_acyclic ok hof))
  exact (h.2 l2 h2).2.2.2

set_option maxRecDepth 100000 in
set_option maxHeartbeats 12800000 in
theorem closes_row (N K : Int) (B : Option Addr) (bs : List Int) (c : Nat) (w : World) (hN : 0 ≤ N ∧ N ≤ 255) (hK : 0 ≤ K ∧ K ≤ 255) (hB : RowIs .u8 w B bs.length c bs) (z0 z1 : Int) (hz0 : 0 ≤ z0 ∧ z0 ≤ 255) (hz1 : 0 ≤ z1 ∧ z1 ≤ 255) :
    Calls Try.prog 9 #[.agg #[.int .u8 N, .int .u8 K, .slice B bs.length c], .agg #[.int .u8 z0, .int .u8 z1]] w fun e w' => e = .returned (.bool true) ∧ Below w.heap.size w w' := by
  have hst := start2 w #[.int .u8 N, .int .u8 K, .slice B bs.length c] #[.int .u8 z0, .int .u8 z1] 24 58
  have HST := Lib.hid hst
  have HB := Lib.hid hB
  clear hst hB
  go_enter Try.func9, Try.ntmps9
  go_upto_region 5 with (first
    | (go_at_call 10; refine (examples_any _).mono ?_; rintro e w1 ⟨rfl, hb1⟩; obtain ⟨x0, x1, x2⟩ := (HST.out.1.keep hb1).c3; have hbw1 := HST.out.2.2.trans (hb1.mono HST.out.2.2.size); have hzb := HST.out.2.1.keep hb1)
    | (go_at_call 11; refine (made_any N K B bs c _ hN hK ⟨HB.out.hlen, HB.out.hcap, HB.out.arr.keep hbw1, HB.out.nil, HB.out.wf, HB.out.big⟩).mono ?_; rintro e w2 ⟨n, es, A, m, d, rfl, hg, he30, hb2⟩; have hbw2 := hbw1.trans (hb2.mono hbw1.size); have hgl := hg.len; subst hgl; clear x0 x1 x2))
  have hn12 := hg.n12
  have hbA := (Below.refl _ w2).alloc (Nat.le_refl _) (.cells #[.int .i64 (n : Int), .slice A es.length d] 31)
  have hst2 := start1 w2 #[.int .i64 (n : Int), .slice A es.length d] 31
  have hbX : Below w.heap.size w (w2.alloc (.cells #[.int .i64 (n : Int), .slice A es.length d] 31)) := hbw2.trans (hbA.mono hbw2.size)
  have hGB := hst2.1
  have hZB := (hzb.keep hb2).keep hbA
  have hG := hg.keep hbA
  have HO := Lib.hid hg.ok
  clear hst2 hg hbA hb2 hbw2 hbw1 hb1 HST HB hzb
  generalize w2.alloc (.cells #[.int .i64 (n : Int), .slice A es.length d] 31) = V at *
  generalize w2.heap.size = gb at *
  generalize w.heap.size + 1 = zb at *
  obtain ⟨g0, g1⟩ := hGB.c2
  have HRV := Lib.hid (rev_any n es.length d A es V hG)
  go_upto_region 6 with ((go_at_call 33; refine HRV.out.mono ?_; rintro e w3 ⟨Ar, mr, cr, rfl, hgr, hb3⟩))
  have hbA := (Below.refl _ w3).alloc (Nat.le_refl _) (.cells #[.int .i64 (n : Int), .slice Ar mr cr] 31)
  have hRB := BoxL.new w3 #[.int .i64 (n : Int), .slice Ar mr cr] 31
  have hb35 := hb3.trans (hbA.mono hb3.size)
  have HGB := Lib.hid (hGB.keep hb35)
  have HZB := Lib.hid (hZB.keep hb35)
  have HG := Lib.hid (hG.keep hb35)
  have HGr := Lib.hid (hgr.keep hbA)
  have HRB := Lib.hid hRB
  have hbX := hbX.trans (hb35.mono hbX.size)
  have HMR := Lib.hid hgr.len
  clear g0 g1 HRV hGB hZB hG hgr hRB hb35 hb3 hbA
  generalize w3.alloc (.cells #[.int .i64 (n : Int), .slice Ar mr cr] 31) = X at *
  generalize w3.heap.size = rb at *
  have hgX := HGB.out.lt
  have hrX := HRB.out.lt
  obtain ⟨g0, g1⟩ := HGB.out.c2
  obtain ⟨r0, r1⟩ := HRB.out.c2
  have hbD : Below X.heap.size X X.drew := (Below.refl _ X).drew
  refine wp_region_till (fun w' => w'.cell? ⟨gb, 0, none⟩ = some (.int .i64 (n : Int)) ∧ w'.cell? ⟨gb, 1, none⟩ = some (.slice A es.length d) ∧ w'.cell? ⟨rb, 0, none⟩ = some (.int .i64 (n : Int)) ∧ w'.cell? ⟨rb, 1, none⟩ = some (.slice Ar mr cr)) 23 (by kernel_rfl) ?_ (fun hHeld => ?_)
  · exact ⟨g0, g1, r0, r1⟩
  refine anyTill.reads (i := 0) rfl (by kernel_rfl) (by kernel_rfl) (by kernel_rfl) (by kernel_rfl) (fun _ _ _ h => h) (by rfl) (v := ?_) ?_ (by assumption) ?_
  rotate_left
  · intro wz hz; (try dsimp only at hz); go_split_ands; go_simp; try with_reducible rfl
  simp only [Act.put, List.setIfInBounds_toArray, List.set_cons_zero, List.set_cons_succ]
  refine anyTill.reads (i := 1) rfl (by kernel_rfl) (by kernel_rfl) (by kernel_rfl) (by kernel_rfl) (fun _ _ _ h => h) (by rfl) (v := ?_) ?_ (by assumption) ?_
  rotate_left
  · intro wz hz; (try dsimp only at hz); go_split_ands; go_simp; try with_reducible rfl
  simp only [Act.put, List.setIfInBounds_toArray, List.set_cons_zero, List.set_cons_succ]
  refine anyTill.reads (i := 2) rfl (by kernel_rfl) (by kernel_rfl) (by kernel_rfl) (by kernel_rfl) (fun _ _ _ h => h) (by rfl) (v := ?_) ?_ (by assumption) ?_
  rotate_left
  · intro wz hz; (try dsimp only at hz); go_split_ands; go_simp; try with_reducible rfl
  simp only [Act.put, List.setIfInBounds_toArray, List.set_cons_zero, List.set_cons_succ]
  refine anyTill.reads (i := 3) rfl (by kernel_rfl) (by kernel_rfl) (by kernel_rfl) (by kernel_rfl) (fun _ _ _ h => h) (by rfl) (v := ?_) ?_ (by assumption) ?_
  rotate_left
  · intro wz hz; (try dsimp only at hz); go_split_ands; go_simp; try with_reducible rfl
  simp only [Act.put, List.setIfInBounds_toArray, List.set_cons_zero, List.set_cons_succ]
  refine anyTill.reads (i := 5) rfl (by kernel_rfl) (by kernel_rfl) (by kernel_rfl) (by kernel_rfl) (fun _ _ _ h => h) (by rfl) (v := ?_) ?_ (by assumption) ?_
  rotate_left
  · intro wz hz; (try dsimp only at hz); go_split_ands; go_simp; try with_reducible rfl
  simp only [Act.put, List.setIfInBounds_toArray, List.set_cons_zero, List.set_cons_succ]
  refine anyTill.reads (i := 6) rfl (by kernel_rfl) (by kernel_rfl) (by kernel_rfl) (by kernel_rfl) (fun _ _ _ h => h) (by rfl) (v := ?_) ?_ (by assumption) ?_
  rotate_left
  · intro wz hz; (try dsimp only at hz); go_split_ands; go_simp; try with_reducible rfl
  simp only [Act.put, List.setIfInBounds_toArray, List.set_cons_zero, List.set_cons_succ]
  refine anyTill.reads (i := 7) rfl (by kernel_rfl) (by kernel_rfl) (by kernel_rfl) (by kernel_rfl) (fun _ _ _ h => h) (by rfl) (v := ?_) ?_ (by assumption) ?_
  rotate_left
  · intro wz hz; (try dsimp only at hz); go_split_ands; go_simp; try with_reducible rfl
  simp only [Act.put, List.setIfInBounds_toArray, List.set_cons_zero, List.set_cons_succ]
  refine anyTill.reads (i := 8) rfl (by kernel_rfl) (by kernel_rfl) (by kernel_rfl) (by kernel_rfl) (fun _ _ _ h => h) (by rfl) (v := ?_) ?_ (by assumption) ?_
  rotate_left
  · intro wz hz; (try dsimp only at hz); go_split_ands; go_simp; try with_reducible rfl
  simp only [Act.put, List.setIfInBounds_toArray, List.set_cons_zero, List.set_cons_succ]
  refine anyTill.alone (i := 4) rfl (by kernel_rfl) (by rfl) (fun K hK => ?_)
  go_wp2_with fail
  go_at_call 27
  refine (comp_any n A es d _ (HG.out.keep hbD).arr HO.out (by omega) (by omega)).mono ?_
  rintro e w4 ⟨A4, c4, rfl, hc4, hR4, hb4q⟩
  have hb4 : Below X.heap.size X w4 := hbD.trans (hb4q.mono hbD.size)
  refine hK.out _ _ (fun _ => ?_) (fun hHeld0 => ?_)
  · exact ⟨(hb4.cell (p := ⟨gb, 0, none⟩) hgX).trans g0, (hb4.cell (p := ⟨gb, 1, none⟩) hgX).trans g1, (hb4.cell (p := ⟨rb, 0, none⟩) hrX).trans r0, (hb4.cell (p := ⟨rb, 1, none⟩) hrX).trans r1⟩
  have hHeld := hHeld0 (by decide)
  clear hHeld0
  clear hK K
  try simp only [Act.put, List.setIfInBounds_toArray, List.set_cons_zero, List.set_cons_succ]
  refine anyTill.alone (i := 9) rfl (by kernel_rfl) (by rfl) (fun K hK => ?_)
  have hcr := comp_any n Ar (Dgr.rev es) cr _ (HGr.out.keep hb4).arr HGr.out.ok (by omega) (by rw [rev_len]; omega)
  rw [HMR.out, Dgr.comp_rev] at hcr
  have HCR := Lib.hid hcr
  clear hcr
  go_wp2_with fail
  go_at_call 27
  refine (HCR.out).mono ?_
  rintro e w5 ⟨A5, c5, rfl, hc5, hR5, hb5q⟩
  have hb5 : Below X.heap.size X w5 := hb4.trans (hb5q.mono hb4.size)
  clear HCR
  refine hK.out _ _ (fun _ => ?_) (fun hHeld0 => ?_)
  · exact ⟨(hb5.cell (p := ⟨gb, 0, none⟩) hgX).trans g0, (hb5.cell (p := ⟨gb, 1, none⟩) hgX).trans g1, (hb5.cell (p := ⟨rb, 0, none⟩) hrX).trans r0, (hb5.cell (p := ⟨rb, 1, none⟩) hrX).trans r1⟩
  have hHeld := hHeld0 (by decide)
  clear hHeld0
  clear hK K
  try simp only [Act.put, List.setIfInBounds_toArray, List.set_cons_zero, List.set_cons_succ]
  refine anyTill.alone (i := 10) rfl (by kernel_rfl) (by rfl) (fun K hK => ?_)
  have hsl := samel_any A4 A5 (Dgr.compL n es) (Dgr.compL n es) c4 c5 _ _ w5 (hR4.keep hb5q) hR5 (Nat.le_trans (comp_len n es) (by omega)) (Nat.le_trans (comp_len n es) (by omega)) (fun x hx => Nat.le_trans (comp_each n es x hx) (by omega)) (fun x hx => Nat.le_trans (comp_each n es x hx) (by omega))
  rw [decide_eq_true (show Dgr.compL n es = Dgr.compL n es from rfl)] at hsl
  have HSL := Lib.hid hsl
  clear hsl
  go_wp2_with fail
  go_at_call 26
  refine (HSL.out).mono ?_
  rintro e w6 ⟨rfl, hb6q⟩
  have hb6 : Below X.heap.size X w6 := hb5.trans (hb6q.mono hb5.size)
  clear HSL hR4 hR5 hb4q hb5q
  refine hK.out _ _ (fun _ => ?_) (fun hHeld0 => ?_)
  · exact ⟨(hb6.cell (p := ⟨gb, 0, none⟩) hgX).trans g0, (hb6.cell (p := ⟨gb, 1, none⟩) hgX).trans g1, (hb6.cell (p := ⟨rb, 0, none⟩) hrX).trans r0, (hb6.cell (p := ⟨rb, 1, none⟩) hrX).trans r1⟩
  have hHeld := hHeld0 (by decide)
  clear hHeld0
  clear hK K
  try simp only [Act.put, List.setIfInBounds_toArray, List.set_cons_zero, List.set_cons_succ]
  refine anyTill.reads (i := 11) rfl (by kernel_rfl) (by kernel_rfl) (by kernel_rfl) (by kernel_rfl) (fun _ _ _ h => h) (by rfl) (v := ?_) ?_ (by assumption) ?_
  rotate_left
  · intro wz hz; (try dsimp only at hz); go_split_ands; go_simp; try with_reducible rfl
  simp only [Act.put, List.setIfInBounds_toArray, List.set_cons_zero, List.set_cons_succ]
  refine anyTill.reads (i := 12) rfl (by kernel_rfl) (by kernel_rfl) (by kernel_rfl) (by kernel_rfl) (fun _ _ _ h => h) (by rfl) (v := ?_) ?_ (by assumption) ?_
  rotate_left
  · intro wz hz; (try dsimp only at hz); go_split_ands; go_simp; try with_reducible rfl
  simp only [Act.put, List.setIfInBounds_toArray, List.set_cons_zero, List.set_cons_succ]
  refine anyTill.reads (i := 13) rfl (by kernel_rfl) (by kernel_rfl) (by kernel_rfl) (by kernel_rfl) (fun _ _ _ h => h) (by rfl) (v := ?_) ?_ (by assumption) ?_
  rotate_left
  · intro wz hz; (try dsimp only at hz); go_split_ands; go_simp; try with_reducible rfl
  simp only [Act.put, List.setIfInBounds_toArray, List.set_cons_zero, List.set_cons_succ]
  refine anyTill.reads (i := 17) rfl (by kernel_rfl) (by kernel_rfl) (by kernel_rfl) (by kernel_rfl) (fun _ _ _ h => h) (by rfl) (v := ?_) ?_ (by assumption) ?_
  rotate_left
  · intro wz hz; (try dsimp only at hz); go_split_ands; go_simp; try with_reducible rfl
  simp only [Act.put, List.setIfInBounds_toArray, List.set_cons_zero, List.set_cons_succ]
  refine anyTill.alone (i := 14) rfl (by kernel_rfl) (by rfl) (fun K hK => ?_)
  go_wp2_with fail
  go_at_call 17
  refine (cycleL_any n A es d w6 (HG.out.keep hb6).arr HO.out (by omega) (by omega)).mono ?_
  rintro e w7 ⟨b1, hy1, A7, m7, c7, x7, rfl, hr7, hb7q⟩
  have hb7 : Below X.heap.size X w7 := hb6.trans (hb7q.mono hb6.size)
  refine hK.out _ _ (fun _ => ?_) (fun hHeld0 => ?_)
  · exact ⟨(hb7.cell (p := ⟨gb, 0, none⟩) hgX).trans g0, (hb7.cell (p := ⟨gb, 1, none⟩) hgX).trans g1, (hb7.cell (p := ⟨rb, 0, none⟩) hrX).trans r0, (hb7.cell (p := ⟨rb, 1, none⟩) hrX).trans r1⟩
  have hHeld := hHeld0 (by decide)
  clear hHeld0
  clear hK K
  try simp only [Act.put, List.setIfInBounds_toArray, List.set_cons_zero, List.set_cons_succ]
  refine anyTill.reads (i := 15) rfl (by kernel_rfl) (by kernel_rfl) (by kernel_rfl) (by kernel_rfl) (fun _ _ _ h => h) (by rfl) (v := ?_) ?_ (by assumption) ?_
  rotate_left
  · intro wz hz; (try dsimp only at hz); go_split_ands; go_simp; try with_reducible rfl
  simp only [Act.put, List.setIfInBounds_toArray, List.set_cons_zero, List.set_cons_succ]
  refine anyTill.reads (i := 16) rfl (by kernel_rfl) (by kernel_rfl) (by kernel_rfl) (by kernel_rfl) (fun _ _ _ h => h) (by rfl) (v := ?_) ?_ (by assumption) ?_
  rotate_left
  · intro wz hz; (try dsimp only at hz); go_split_ands; go_simp; try with_reducible rfl
  simp only [Act.put, List.setIfInBounds_toArray, List.set_cons_zero, List.set_cons_succ]
  refine anyTill.alone (i := 18) rfl (by kernel_rfl) (by rfl) (fun K hK => ?_)
  have hcr := cycleL_any n Ar (Dgr.rev es) cr w7 (HGr.out.keep hb7).arr HGr.out.ok (by omega) (by rw [rev_len]; omega)
  rw [HMR.out] at hcr
  have HCR := Lib.hid hcr
  clear hcr
  go_wp2_with fail
  go_at_call 17
  refine (HCR.out).mono ?_
  rintro e w8 ⟨b2, hy2, A8, m8, c8, x8, rfl, hr8, hb8q⟩
  have hb8 : Below X.heap.size X w8 := hb7.trans (hb8q.mono hb7.size)
  obtain rfl : m7 = m8 := cycle_lens hy1 hy2 hr7 hr8
  clear HCR
  refine hK.out _ _ (fun _ => ?_) (fun hHeld0 => ?_)
  · exact ⟨(hb8.cell (p := ⟨gb, 0, none⟩) hgX).trans g0, (hb8.cell (p := ⟨gb, 1, none⟩) hgX).trans g1, (hb8.cell (p := ⟨rb, 0, none⟩) hrX).trans r0, (hb8.cell (p := ⟨rb, 1, none⟩) hrX).trans r1⟩
  have hHeld := hHeld0 (by decide)
  clear hHeld0
  clear hK K
  try simp only [Act.put, List.setIfInBounds_toArray, List.set_cons_zero, List.set_cons_succ]
  refine anyTill.reads (i := 19) rfl (by kernel_rfl) (by kernel_rfl) (by kernel_rfl) (by kernel_rfl) (fun _ _ _ h => h) (by rfl) (v := ?_) ?_ (by assumption) ?_
  rotate_left
  · intro wz hz; (try dsimp only at hz); go_split_ands; go_simp; try with_reducible rfl
  simp only [Act.put, List.setIfInBounds_toArray, List.set_cons_zero, List.set_cons_succ]
  refine anyTill.reads (i := 20) rfl (by kernel_rfl) (by kernel_rfl) (by kernel_rfl) (by kernel_rfl) (fun _ _ _ h => h) (by rfl) (v := ?_) ?_ (by assumption) ?_
  rotate_left
  · intro wz hz; (try dsimp only at hz); go_split_ands; go_simp; try with_reducible rfl
  simp only [Act.put, List.setIfInBounds_toArray, List.set_cons_zero, List.set_cons_succ]
  refine anyTill.reads (i := 21) rfl (by kernel_rfl) (by kernel_rfl) (by kernel_rfl) (by kernel_rfl) (fun _ _ _ h => h) (by rfl) (v := ?_) ?_ (by assumption) ?_
  rotate_left
  · intro wz hz; (try dsimp only at hz); go_split_ands; go_simp; try with_reducible rfl
  simp only [Act.put, List.setIfInBounds_toArray, List.set_cons_zero, List.set_cons_succ]
  refine anyTill.reads (i := 22) rfl (by kernel_rfl) (by kernel_rfl) (by kernel_rfl) (by kernel_rfl) (fun _ _ _ h => h) (by rfl) (v := ?_) ?_ (by assumption) ?_
  rotate_left
  · intro wz hz; (try dsimp only at hz); go_split_ands; go_simp; try with_reducible rfl
  simp only [Act.put, List.setIfInBounds_toArray, List.set_cons_zero, List.set_cons_succ]
  refine anyTill.done (by kernel_rfl) ?_ _
  have hbY := hbX.trans (hb8.mono hbX.size)
  have HGBY := Lib.hid (HGB.out.keep hb8)
  have HRBY := Lib.hid (HRB.out.keep hb8)
  have HZBY := Lib.hid (HZB.out.keep hb8)
  have HGY := Lib.hid (HG.out.keep hb8)
  have HGrY := Lib.hid (HGr.out.keep hb8)
  clear hHeld hr7 hr8 hy1 hy2 hb8 hb8q hb7 hb7q hb6 hb6q hb5 hb4 hbD hc4 hc5 HGB HRB HZB HG HGr hbX g0 g1 r0 r1 hgX hrX
  generalize w8 = Y at *
  obtain ⟨g0, g1⟩ := HGBY.out.c2
  have HORD := Lib.hid (orderL_any n A es d Y HGY.out.arr HO.out (by omega) (by omega))
  go_upto_region 9 with ((go_at_call 15; refine HORD.out.mono ?_; rintro e w9 ⟨Ao, mo, co, oe, rfl, hro, hb9⟩))
  have hbA := (Below.refl _ w9).alloc (Nat.le_refl _) (.cells #[.slice Ao mo co, .int .i64 oe] 37)
  have hb9' := hb9.trans (hbA.mono hb9.size)
  have HOB := Lib.hid (BoxL.new w9 #[.slice Ao mo co, .int .i64 oe] 37)
  have HRO := Lib.hid (hro.keep hbA)
  have hbP := hbY.trans (hb9'.mono hbY.size)
  have HGBP := Lib.hid (HGBY.out.keep hb9')
  have HRBP := Lib.hid (HRBY.out.keep hb9')
  have HZBP := Lib.hid (HZBY.out.keep hb9')
  have HGP := Lib.hid (HGY.out.keep hb9')
  have HGrP := Lib.hid (HGrY.out.keep hb9')
  clear hro hb9 hb9' hbA HGBY HRBY HZBY HGY HGrY hbY g0 g1 HORD
  generalize w9.alloc (.cells #[.slice Ao mo co, .int .i64 oe] 37) = P at *
  generalize w9.heap.size = ob at *
  have hoP := HOB.out.lt
  have hrP := HRBP.out.lt
  have hgP := HGBP.out.lt
  obtain ⟨g0, g1⟩ := HGBP.out.c2
  obtain ⟨r0, r1⟩ := HRBP.out.c2
  obtain ⟨o0, o1⟩ := HOB.out.c2
  cases hof : Dgr.orderF n es with
  | none =>
    obtain ⟨h1, h2, h3, h4⟩ := HRO.out.1 hof
    subst h4
    clear h1 h2 h3
    have hbD : Below P.heap.size P P.drew := (Below.refl _ P).drew
    go_upto_region 10 with fail
    refine wp_region_till (fun w' => w'.cell? ⟨ob, 1, none⟩ = some (.int .i64 50) ∧ w'.cell? ⟨rb, 0, none⟩ = some (.int .i64 (n : Int)) ∧ w'.cell? ⟨rb, 1, none⟩ = some (.slice Ar mr cr)) 12 (by kernel_rfl) ?_ (fun hHeld => ?_)
    · exact ⟨o1, r0, r1⟩
    refine anyTill.reads (i := 0) rfl (by kernel_rfl) (by kernel_rfl) (by kernel_rfl) (by kernel_rfl) (fun _ _ _ h => h) (by rfl) (v := ?_) ?_ (by assumption) ?_
    rotate_left
    · intro wz hz; (try dsimp only at hz); go_split_ands; go_simp; try with_reducible rfl
    simp only [Act.put, List.setIfInBounds_toArray, List.set_cons_zero, List.set_cons_succ]
    refine anyTill.reads (i := 1) rfl (by kernel_rfl) (by kernel_rfl) (by kernel_rfl) (by kernel_rfl) (fun _ _ _ h => h) (by rfl) (v := ?_) ?_ (by assumption) ?_
    rotate_left
    · intro wz hz; (try dsimp only at hz); go_split_ands; go_simp; try with_reducible rfl
    simp only [Act.put, List.setIfInBounds_toArray, List.set_cons_zero, List.set_cons_succ]
    refine anyTill.reads (i := 2) rfl (by kernel_rfl) (by kernel_rfl) (by kernel_rfl) (by kernel_rfl) (fun _ _ _ h => h) (by rfl) (v := ?_) ?_ (by assumption) ?_
    rotate_left
    · intro wz hz; (try dsimp only at hz); go_split_ands; go_simp; try with_reducible rfl
    simp only [Act.put, List.setIfInBounds_toArray, List.set_cons_zero, List.set_cons_succ]
    refine anyTill.reads (i := 3) rfl (by kernel_rfl) (by kernel_rfl) (by kernel_rfl) (by kernel_rfl) (fun _ _ _ h => h) (by rfl) (v := ?_) ?_ (by assumption) ?_
    rotate_left
    · intro wz hz; (try dsimp only at hz); go_split_ands; go_simp; try with_reducible rfl
    simp only [Act.put, List.setIfInBounds_toArray, List.set_cons_zero, List.set_cons_succ]
    refine anyTill.reads (i := 4) rfl (by kernel_rfl) (by kernel_rfl) (by kernel_rfl) (by kernel_rfl) (fun _ _ _ h => h) (by rfl) (v := ?_) ?_ (by assumption) ?_
    rotate_left
    · intro wz hz; (try dsimp only at hz); go_split_ands; go_simp; try with_reducible rfl
    simp only [Act.put, List.setIfInBounds_toArray, List.set_cons_zero, List.set_cons_succ]
    refine anyTill.reads (i := 5) rfl (by kernel_rfl) (by kernel_rfl) (by kernel_rfl) (by kernel_rfl) (fun _ _ _ h => h) (by rfl) (v := ?_) ?_ (by assumption) ?_
    rotate_left
    · intro wz hz; (try dsimp only at hz); go_split_ands; go_simp; try with_reducible rfl
    simp only [Act.put, List.setIfInBounds_toArray, List.set_cons_zero, List.set_cons_succ]
    refine anyTill.alone (i := 6) rfl (by kernel_rfl) (by rfl) (fun K hK => ?_)
    have hcr := orderL_any n Ar (Dgr.rev es) cr P.drew (HGrP.out.keep hbD).arr HGrP.out.ok (by omega) (by rw [rev_len]; omega)
    rw [HMR.out] at hcr
    have HCR := Lib.hid hcr
    clear hcr
    go_wp2_with fail
    go_at_call 15
    refine (HCR.out).mono ?_
    rintro e w10 ⟨A10, m10, c10, x10, rfl, hr10, hb10q⟩
    have hb10 : Below P.heap.size P w10 := hbD.trans (hb10q.mono hbD.size)
    obtain rfl : x10 = 50 := rev_none HO.out HGrP.out.ok hof hr10
    clear HCR hr10
    refine hK.out _ _ (fun _ => ?_) (fun hHeld0 => ?_)
    · exact ⟨(hb10.cell (p := ⟨ob, 1, none⟩) hoP).trans o1, (hb10.cell (p := ⟨rb, 0, none⟩) hrP).trans r0, (hb10.cell (p := ⟨rb, 1, none⟩) hrP).trans r1⟩
    have hHeld := hHeld0 (by decide)
    clear hHeld0
    clear hK K
    try simp only [Act.put, List.setIfInBounds_toArray, List.set_cons_zero, List.set_cons_succ]
    refine anyTill.reads (i := 7) rfl (by kernel_rfl) (by kernel_rfl) (by kernel_rfl) (by kernel_rfl) (fun _ _ _ h => h) (by rfl) (v := ?_) ?_ (by assumption) ?_
    rotate_left
    · intro wz hz; (try dsimp only at hz); go_split_ands; go_simp; try with_reducible rfl
    simp only [Act.put, List.setIfInBounds_toArray, List.set_cons_zero, List.set_cons_succ]
    refine anyTill.reads (i := 8) rfl (by kernel_rfl) (by kernel_rfl) (by kernel_rfl) (by kernel_rfl) (fun _ _ _ h => h) (by rfl) (v := ?_) ?_ (by assumption) ?_
    rotate_left
    · intro wz hz; (try dsimp only at hz); go_split_ands; go_simp; try with_reducible rfl
    simp only [Act.put, List.setIfInBounds_toArray, List.set_cons_zero, List.set_cons_succ]
    refine anyTill.reads (i := 9) rfl (by kernel_rfl) (by kernel_rfl) (by kernel_rfl) (by kernel_rfl) (fun _ _ _ h => h) (by rfl) (v := ?_) ?_ (by assumption) ?_
    rotate_left
    · intro wz hz; (try dsimp only at hz); go_split_ands; go_simp; try with_reducible rfl
    simp only [Act.put, List.setIfInBounds_toArray, List.set_cons_zero, List.set_cons_succ]
    refine anyTill.reads (i := 10) rfl (by kernel_rfl) (by kernel_rfl) (by kernel_rfl) (by kernel_rfl) (fun _ _ _ h => h) (by rfl) (v := ?_) ?_ (by assumption) ?_
    rotate_left
    · intro wz hz; (try dsimp only at hz); go_split_ands; go_simp; try with_reducible rfl
    simp only [Act.put, List.setIfInBounds_toArray, List.set_cons_zero, List.set_cons_succ]
    refine anyTill.reads (i := 11) rfl (by kernel_rfl) (by kernel_rfl) (by kernel_rfl) (by kernel_rfl) (fun _ _ _ h => h) (by rfl) (v := ?_) ?_ (by assumption) ?_
    rotate_left
    · intro wz hz; (try dsimp only at hz); go_split_ands; go_simp; try with_reducible rfl
    simp only [Act.put, List.setIfInBounds_toArray, List.set_cons_zero, List.set_cons_succ]
    refine anyTill.done (by kernel_rfl) ?_ _
    have hbw10 := hbP.trans (hb10.mono hbP.size)
    clear hHeld
    go_wp2
    go_ret
    exact ⟨rfl, hbw10⟩
  | some l =>
    obtain ⟨h1, h2, h3, h4⟩ := HRO.out.2 l hof
    subst h4
    have hac := Dgr.orderF_acyclic HO.out hof
    have HAC := Lib.hid hac
    by_cases hn0 : n = 0
    · subst hn0
      clear h1 h2 h3 hac
      have hbD : Below P.heap.size P P.drew := (Below.refl _ P).drew
      go_upto_region 10 with fail
      refine wp_region_till (fun w' => w'.cell? ⟨ob, 1, none⟩ = some (.int .i64 0) ∧ w'.cell? ⟨rb, 0, none⟩ = some (.int .i64 ((0 : Nat) : Int)) ∧ w'.cell? ⟨rb, 1, none⟩ = some (.slice Ar mr cr)) 12 (by kernel_rfl) ?_ (fun hHeld => ?_)
      · exact ⟨o1, r0, r1⟩
      refine anyTill.reads (i := 0) rfl (by kernel_rfl) (by kernel_rfl) (by kernel_rfl) (by kernel_rfl) (fun _ _ _ h => h) (by rfl) (v := ?_) ?_ (by assumption) ?_
      rotate_left
      · intro wz hz; (try dsimp only at hz); go_split_ands; go_simp; try with_reducible rfl
      simp only [Act.put, List.setIfInBounds_toArray, List.set_cons_zero, List.set_cons_succ]
      refine anyTill.reads (i := 1) rfl (by kernel_rfl) (by kernel_rfl) (by kernel_rfl) (by kernel_rfl) (fun _ _ _ h => h) (by rfl) (v := ?_) ?_ (by assumption) ?_
      rotate_left
      · intro wz hz; (try dsimp only at hz); go_split_ands; go_simp; try with_reducible rfl
      simp only [Act.put, List.setIfInBounds_toArray, List.set_cons_zero, List.set_cons_succ]
      refine anyTill.reads (i := 2) rfl (by kernel_rfl) (by kernel_rfl) (by kernel_rfl) (by kernel_rfl) (fun _ _ _ h => h) (by rfl) (v := ?_) ?_ (by assumption) ?_
      rotate_left
      · intro wz hz; (try dsimp only at hz); go_split_ands; go_simp; try with_reducible rfl
      simp only [Act.put, List.setIfInBounds_toArray, List.set_cons_zero, List.set_cons_succ]
      refine anyTill.reads (i := 3) rfl (by kernel_rfl) (by kernel_rfl) (by kernel_rfl) (by kernel_rfl) (fun _ _ _ h => h) (by rfl) (v := ?_) ?_ (by assumption) ?_
      rotate_left
      · intro wz hz; (try dsimp only at hz); go_split_ands; go_simp; try with_reducible rfl
      simp only [Act.put, List.setIfInBounds_toArray, List.set_cons_zero, List.set_cons_succ]
      refine anyTill.reads (i := 4) rfl (by kernel_rfl) (by kernel_rfl) (by kernel_rfl) (by kernel_rfl) (fun _ _ _ h => h) (by rfl) (v := ?_) ?_ (by assumption) ?_
      rotate_left
      · intro wz hz; (try dsimp only at hz); go_split_ands; go_simp; try with_reducible rfl
      simp only [Act.put, List.setIfInBounds_toArray, List.set_cons_zero, List.set_cons_succ]
      refine anyTill.reads (i := 5) rfl (by kernel_rfl) (by kernel_rfl) (by kernel_rfl) (by kernel_rfl) (fun _ _ _ h => h) (by rfl) (v := ?_) ?_ (by assumption) ?_
      rotate_left
      · intro wz hz; (try dsimp only at hz); go_split_ands; go_simp; try with_reducible rfl
      simp only [Act.put, List.setIfInBounds_toArray, List.set_cons_zero, List.set_cons_succ]
      refine anyTill.alone (i := 6) rfl (by kernel_rfl) (by rfl) (fun K hK => ?_)
      have hcr := orderL_any 0 Ar (Dgr.rev es) cr P.drew (HGrP.out.keep hbD).arr HGrP.out.ok (by omega) (by rw [rev_len]; omega)
      rw [HMR.out] at hcr
      have HCR := Lib.hid hcr
      clear hcr
      go_wp2_with fail
      go_at_call 15
      refine (HCR.out).mono ?_
      rintro e w10 ⟨A10, m10, c10, x10, rfl, hr10, hb10q⟩
      have hb10 : Below P.heap.size P w10 := hbD.trans (hb10q.mono hbD.size)
      obtain rfl : x10 = 0 := rev_some HO.out HGrP.out.ok hof hr10
      clear HCR hr10
      refine hK.out _ _ (fun _ => ?_) (fun hHeld0 => ?_)
      · exact ⟨(hb10.cell (p := ⟨ob, 1, none⟩) hoP).trans o1, (hb10.cell (p := ⟨rb, 0, none⟩) hrP).trans r0, (hb10.cell (p := ⟨rb, 1, none⟩) hrP).trans r1⟩
      have hHeld := hHeld0 (by decide)
      clear hHeld0
      clear hK K
      try simp only [Act.put, List.setIfInBounds_toArray, List.set_cons_zero, List.set_cons_succ]
      refine anyTill.reads (i := 7) rfl (by kernel_rfl) (by kernel_rfl) (by kernel_rfl) (by kernel_rfl) (fun _ _ _ h => h) (by rfl) (v := ?_) ?_ (by assumption) ?_
      rotate_left
      · intro wz hz; (try dsimp only at hz); go_split_ands; go_simp; try with_reducible rfl
      simp only [Act.put, List.setIfInBounds_toArray, List.set_cons_zero, List.set_cons_succ]
      refine anyTill.reads (i := 8) rfl (by kernel_rfl) (by kernel_rfl) (by kernel_rfl) (by kernel_rfl) (fun _ _ _ h => h) (by rfl) (v := ?_) ?_ (by assumption) ?_
      rotate_left
      · intro wz hz; (try dsimp only at hz); go_split_ands; go_simp; try with_reducible rfl
      simp only [Act.put, List.setIfInBounds_toArray, List.set_cons_zero, List.set_cons_succ]
      refine anyTill.reads (i := 9) rfl (by kernel_rfl) (by kernel_rfl) (by kernel_rfl) (by kernel_rfl) (fun _ _ _ h => h) (by rfl) (v := ?_) ?_ (by assumption) ?_
      rotate_left
      · intro wz hz; (try dsimp only at hz); go_split_ands; go_simp; try with_reducible rfl
      simp only [Act.put, List.setIfInBounds_toArray, List.set_cons_zero, List.set_cons_succ]
      refine anyTill.reads (i := 10) rfl (by kernel_rfl) (by kernel_rfl) (by kernel_rfl) (by kernel_rfl) (fun _ _ _ h => h) (by rfl) (v := ?_) ?_ (by assumption) ?_
      rotate_left
      · intro wz hz; (try dsimp only at hz); go_split_ands; go_simp; try with_reducible rfl
      simp only [Act.put, List.setIfInBounds_toArray, List.set_cons_zero, List.set_cons_succ]
      refine anyTill.reads (i := 11) rfl (by kernel_rfl) (by kernel_rfl) (by kernel_rfl) (by kernel_rfl) (fun _ _ _ h => h) (by rfl) (v := ?_) ?_ (by assumption) ?_
      rotate_left
      · intro wz hz; (try dsimp only at hz); go_split_ands; go_simp; try with_reducible rfl
      simp only [Act.put, List.setIfInBounds_toArray, List.set_cons_zero, List.set_cons_succ]
      refine anyTill.done (by kernel_rfl) ?_ _
      have hbw10 := hbP.trans (hb10.mono hbP.size)
      clear hHeld
      go_wp2
      go_ret
      exact ⟨rfl, hbw10⟩
    · have hnz : ¬ n = 0 := hn0
      have hnb : ((n : Int) == 0) = false := by simp; omega
      have htp := Dgr.orderF_topo hof
      have hln := htp.len
      subst h1
      have HTP := Lib.hid htp
      have hl12 : l.length ≤ 12 := by omega
      have HLN := Lib.hid hln
      clear hln
      obtain ⟨bo, oo, hoo⟩ := h3.open
      have HOO := Lib.hid hoo
      obtain ⟨i0, hi0, hzz0, hzz1, hzz2⟩ := parts_of infoInt
      clear htp hoo h2 h3 hac HRO r0 r1
      go_wp2
      have hS0 : Hid ((P.alloc (.cells #[] 3)).ownsRow P.heap.size 3 1 (.slice (some ⟨P.heap.size, 0, none⟩) 0 0) 0 (nv []) ∧ Below P.heap.size P (P.alloc (.cells #[] 3))) := Lib.hid
        ⟨World.ownsRow_lit (e := 3) (size := 1) P #[] 0 (Nat.le_refl _) (by unfold maxLen; omega) rfl, (Below.refl _ P).alloc (Nat.le_refl _) _⟩
      go_loopg [9, 10] l.length (fun g s i wr => ∃ r : Nat, i = .int .i64 ((r : Int) - 1) ∧ r ≤ l.length ∧ g = r ∧ wr.ownsRow P.heap.size 3 1 s (l.length - r) (nv (l.reverse.take (l.length - r))) ∧ Below P.heap.size P wr)
      case atStart => exact ⟨l.length, rfl, Nat.le_refl _, rfl, by rw [Nat.sub_self]; exact hS0.out.1, hS0.out.2⟩
      case round =>
        obtain ⟨r, rfl, hr, hgr, hrow, hbl⟩ := hrel
        clear hS0 g0 g1 o0 o1
        have hown := row_own hrow
        have HROW := Lib.hid hrow
        have hbs := hbl.size
        obtain ⟨o0, o1⟩ := (HOB.out.keep hbl).c2
        clear hrow
        match r, hr, hgr, HROW with
        | j + 1, hr, hgr, HROW =>
          rw [show (((j + 1 : Nat) : Int) - 1) = (j : Int) by omega]
          obtain ⟨x, hx⟩ := get_ex (l := l) (j := j) (by omega)
          obtain ⟨rfl, _, hbb, hc⟩ := HOO.out (by intro h; rw [h] at hr; simp at hr)
          have hcx := (hbl.cell (p := ⟨bo, oo + j, none⟩) hbb).trans (hc j x hx)
          have hj1 : (0 : Int) ≤ (j : Int) := Int.natCast_nonneg _
          have hj2 : (j : Int) < (l.length : Int) := by omega
          have hxr : l.reverse[l.length - (j + 1)]? = some x := by
            rw [List.getElem?_reverse (by omega), ← hx]
            congr 1
            omega
          have HX := Lib.hid hxr
          clear hx hc hxr HOO
          go_wp2_with (at_builtin; refine wpList_append_lies _ rfl _ _ 26 rfl P.heap.size 3 i0 (.int .i64 0) 1 8 Try.underlying26 hi0 hzz0 hzz1 hzz2 rfl (by decide) _ _ _ rfl (HROW.out.alloc _) ⟨wr.heap.size, 0, none⟩ 1 1 [.int .i64 (x : Int)] rfl rfl (cell_one_new _ _ _) (by simp [Value.oneCell']) (by decide) (by unfold maxLen; omega) (by omega) (by simp; omega) _ rfl ?_; intro g cap' w1 hown1 hgrow1 hor1 hlt1)
          go_roundg j
          case measure => omega
          case rel => exact ⟨j, by go_num, by omega, rfl, by rw [show l.length - j = l.length - (j + 1) + 1 by omega, take_snoc HX.out, nv_append]; exact hown1, (hbl.alloc hbs _).grown hgrow1 (by simp; omega) (fun g' hg' => hown g' hg')⟩
        | 0, hr, hgr, HROW =>
          have hrow := HROW.out
          rw [Nat.sub_zero, List.take_of_length_le (by rw [List.length_reverse]; exact Nat.le_refl _)] at hrow
          obtain ⟨A6, c6, rfl, hc6, hl6, hR6⟩ := Row.own hrow
          have hlz : (zl l.reverse).length = l.length := by simp [zl]
          have hchk : chk n (Dgr.rev es) (zl l.reverse) = 0 := chk_yes (topoZ_zl.2 (Dgr.topo_rev HTP.out))
          have hcall := check_any n Ar A6 (Dgr.rev es) (zl l.reverse) cr c6 wr (HGrP.out.keep hbl).arr hR6.arrZ HGrP.out.ok (by omega) (by rw [rev_len]; omega)
          rw [hchk, hlz, HMR.out] at hcall
          have HC := Lib.hid hcall
          clear hcall hchk hlz hrow HROW hR6 hl6 hc6 HOO
          obtain ⟨r0, r1⟩ := (HRBP.out.keep hbl).c2
          obtain ⟨v, hv, hvn⟩ := mod_nat hz0.1 (show z0 ≤ 1000 by omega) (show 0 < n by omega)
          obtain ⟨u, hu, hun⟩ := mod_nat hz1.1 (show z1 ≤ 1000 by omega) (show 0 < n by omega)
          go_upto_region 18 with (go_at_call 21; refine HC.out.mono ?_; rintro e w12 ⟨rfl, hb12⟩)
          have hb12' := hbl.trans (hb12.mono hbs)
          obtain ⟨zz0, zz1⟩ := (HZBP.out.keep hb12').c2
          obtain ⟨g0, g1⟩ := (HGBP.out.keep hb12').c2
          have HGT := Lib.hid (HGP.out.keep hb12')
          have HGBT := Lib.hid (HGBP.out.keep hb12')
          have hbT := hbP.trans (hb12'.mono hbP.size)
          clear hbl hbs hb12 hb12' HZBP HGBP HGP HGrP HRBP HOB HC r0 r1 o0 o1 hbP hoP hrP hgP hown
          generalize w12 = T at *
          go_upto_region 20 with fail
          clear hv hu zz0 zz1
          have HWI := Lib.hid (with_any n es.length d v u A es T HGT.out hvn hun (by omega))
          go_upto_region 21 with (go_at_call 32; refine HWI.out.mono ?_; rintro e w13 ⟨Ah, mh, ch, rfl, hgh, hb13⟩)
          have hbA := (Below.refl _ w13).alloc (Nat.le_refl _) (.cells #[.int .i64 (n : Int), .slice Ah mh ch] 31)
          have HHB := Lib.hid (BoxL.new w13 #[.int .i64 (n : Int), .slice Ah mh ch] 31)
          have hb13' := hb13.trans (hbA.mono hb13.size)
          have HGH := Lib.hid (hgh.keep hbA)
          have HGE := Lib.hid (HGT.out.keep hb13')
          have HGBE := Lib.hid (HGBT.out.keep hb13')
          have hbE := hbT.trans (hb13'.mono hbT.size)
          have hmh := hgh.len
          clear hgh hb13 hbA hb13' HWI HGT HGBT hbT g0 g1
          generalize w13.alloc (.cells #[.int .i64 (n : Int), .slice Ah mh ch] 31) = E at *
          generalize w13.heap.size = hb at *
          obtain ⟨g0, g1⟩ := HGBE.out.c2
          have HRE := Lib.hid (reach_any n A es d u E HGE.out.arr HO.out (by omega) (by omega) hun)
          have hrl : (Dgr.reachL n es u).length ≤ n := those_len n _
          by_cases hcl : Dgr.Rch es u v
          · have hcont : (Dgr.reachL n es u).contains v = true := by rw [List.contains_iff_mem]; exact Dgr.mem_those.2 ⟨hvn, hcl⟩
            have HCO := Lib.hid hcont
            have HCL := Lib.hid hcl
            clear hcont hcl
            go_upto_region 22 with (first
              | (go_at_call 24; refine HRE.out.mono ?_; rintro e w14 ⟨A14, c14, rfl, hc14, hR14, hb14⟩; have hin := in_any A14 (Dgr.reachL n es u) c14 v _ w14 hR14 (by omega) (by omega); rw [HCO.out] at hin; have HIN := Lib.hid hin; clear hin)
              | (go_at_call 31; refine HIN.out.mono ?_; rintro e w15 ⟨rfl, hb15⟩))
            have hbF := hb14.trans (hb15.mono hb14.size)
            have HHF := Lib.hid (HHB.out.keep hbF)
            have HGF := Lib.hid (HGH.out.keep hbF)
            have hbwF := hbE.trans (hbF.mono hbE.size)
            clear hbF hb14 hb15 hR14 HHB HGH HIN HRE g0 g1 HGBE HGE
            generalize w15 = F at *
            obtain ⟨h0, h1⟩ := HHF.out.c2
            have hcy := cycleL_any n Ah (es ++ [(v, u)]) ch F HGF.out.arr HGF.out.ok (by omega) (by have := HGF.out.big; omega)
            rw [hmh] at hcy
            have HCY := Lib.hid hcy
            clear hcy
            go_upto_region 23 with (go_at_call 17; refine HCY.out.mono ?_; rintro e w16 ⟨b, hcyc, Ac, mc, cc, xc, rfl, hrc, hb16⟩)
            have hbA := (Below.refl _ w16).alloc (Nat.le_refl _) (.cells #[.slice Ac mc cc, .int .i64 xc] 37)
            have HCB := Lib.hid (BoxL.new w16 #[.slice Ac mc cc, .int .i64 xc] 37)
            have hb16' := hb16.trans (hbA.mono hb16.size)
            have HRC := Lib.hid (hrc.keep hbA)
            have HHK := Lib.hid (HHF.out.keep hb16')
            have HGK := Lib.hid (HGF.out.keep hb16')
            have hbwK := hbwF.trans (hb16'.mono hbwF.size)
            clear hrc hb16 hb16' hbA HHF HGF hbwF h0 h1 HCY
            generalize w16.alloc (.cells #[.slice Ac mc cc, .int .i64 xc] 37) = G at *
            generalize w16.heap.size = cb at *
            obtain ⟨h0, h1⟩ := HHK.out.c2
            obtain ⟨e0, e1⟩ := HCB.out.c2
            have hor := orderL_any n Ah (es ++ [(v, u)]) ch G HGK.out.arr HGK.out.ok (by omega) (by have := HGK.out.big; omega)
            rw [hmh] at hor
            have HOR := Lib.hid hor
            clear hor
            have hnac : ¬ Dgr.Acyclic (es ++ [(v, u)]) := fun h => (Dgr.acyclic_add HAC.out).1 h HCL.out
            cases b with
            | none => exact absurd hcyc hnac
            | some lc =>
              obtain ⟨k1, k2, k3, k4⟩ := HRC.out.2 lc rfl
              have hcyc : Dgr.IsLeast (es ++ [(v, u)]) lc := hcyc
              obtain ⟨hvl, hul⟩ := Dgr.cyc_add HAC.out hcyc.cyc
              have hlc := (isLeast_len4 HGK.out.ok hcyc).1
              subst k4 k1
              have HK3 := Lib.hid k3
              have HVU := Lib.hid (⟨hvl, hul⟩ : v ∈ lc ∧ u ∈ lc)
              have HNA := Lib.hid hnac
              clear hcyc k2 k3 hvl hul hnac HRC
              go_upto_region 25 with (go_at_call 15; refine HOR.out.mono ?_; rintro e w17 ⟨A17, m17, c17, x17, rfl, hr17, hb17⟩; obtain rfl : x17 = 50 := order_no HNA.out HGK.out.ok hr17; obtain ⟨e0', e1'⟩ := (HCB.out.keep hb17).c2)
              have hi1 := in_any Ac lc cc v _ w17 (HK3.out.keep hb17) (by omega) (by omega)
              rw [List.contains_iff_mem.2 HVU.out.1] at hi1
              have HI1 := Lib.hid hi1
              clear hi1 hr17
              go_wp2_with (first
                | (go_at_call 31; with_reducible refine HI1.out.mono ?_; rintro e w18 ⟨rfl, hb18⟩; obtain ⟨e0'', e1''⟩ := ((HCB.out.keep hb17).keep hb18).c2)
                | (go_at_call 31; have hi2 := in_any Ac lc cc u _ _ ((HK3.out.keep hb17).keep hb18) (by omega) (by omega); rw [List.contains_iff_mem.2 HVU.out.2] at hi2; with_reducible refine hi2.mono ?_; rintro e w19 ⟨rfl, hb19⟩))
              go_ret
              exact ⟨rfl, hbwK.trans (((hb17.trans (hb18.mono hb17.size)).trans (hb19.mono (hb17.trans (hb18.mono hb17.size)).size)).mono hbwK.size)⟩
          · have hcont : (Dgr.reachL n es u).contains v = false := by
              rw [Bool.eq_false_iff, ne_eq, List.contains_iff_mem]
              exact fun h => hcl (Dgr.mem_those.1 h).2
            have HCO := Lib.hid hcont
            have HCL := Lib.hid hcl
            clear hcont hcl
            go_upto_region 22 with (first
              | (go_at_call 24; refine HRE.out.mono ?_; rintro e w14 ⟨A14, c14, rfl, hc14, hR14, hb14⟩; have hin := in_any A14 (Dgr.reachL n es u) c14 v _ w14 hR14 (by omega) (by omega); rw [HCO.out] at hin; have HIN := Lib.hid hin; clear hin)
              | (go_at_call 31; refine HIN.out.mono ?_; rintro e w15 ⟨rfl, hb15⟩))
            have hbF := hb14.trans (hb15.mono hb14.size)
            have HHF := Lib.hid (HHB.out.keep hbF)
            have HGF := Lib.hid (HGH.out.keep hbF)
            have hbwF := hbE.trans (hbF.mono hbE.size)
            clear hbF hb14 hb15 hR14 HHB HGH HIN HRE g0 g1 HGBE HGE
            generalize w15 = F at *
            obtain ⟨h0, h1⟩ := HHF.out.c2
            have hcy := cycleL_any n Ah (es ++ [(v, u)]) ch F HGF.out.arr HGF.out.ok (by omega) (by have := HGF.out.big; omega)
            rw [hmh] at hcy
            have HCY := Lib.hid hcy
            clear hcy
            go_upto_region 23 with (go_at_call 17; refine HCY.out.mono ?_; rintro e w16 ⟨b, hcyc, Ac, mc, cc, xc, rfl, hrc, hb16⟩)
            have hbA := (Below.refl _ w16).alloc (Nat.le_refl _) (.cells #[.slice Ac mc cc, .int .i64 xc] 37)
            have HCB := Lib.hid (BoxL.new w16 #[.slice Ac mc cc, .int .i64 xc] 37)
            have hb16' := hb16.trans (hbA.mono hb16.size)
            have HRC := Lib.hid (hrc.keep hbA)
            have HHK := Lib.hid (HHF.out.keep hb16')
            have HGK := Lib.hid (HGF.out.keep hb16')
            have hbwK := hbwF.trans (hb16'.mono hbwF.size)
            clear hrc hb16 hb16' hbA HHF HGF hbwF h0 h1 HCY
            generalize w16.alloc (.cells #[.slice Ac mc cc, .int .i64 xc] 37) = G at *
            generalize w16.heap.size = cb at *
            obtain ⟨h0, h1⟩ := HHK.out.c2
            obtain ⟨e0, e1⟩ := HCB.out.c2
            have hor := orderL_any n Ah (es ++ [(v, u)]) ch G HGK.out.arr HGK.out.ok (by omega) (by have := HGK.out.big; omega)
            rw [hmh] at hor
            have HOR := Lib.hid hor
            clear hor
            have hac2 : Dgr.Acyclic (es ++ [(v, u)]) := (Dgr.acyclic_add HAC.out).2 HCL.out
            cases b with
            | some lc =>
              have hcyc : Dgr.IsLeast (es ++ [(v, u)]) lc := hcyc
              obtain ⟨x, _, hx⟩ := Dgr.IsCyc.way hcyc.cyc
              exact absurd hx (hac2 x)
            | none =>
              obtain ⟨k1, k2, k3, k4⟩ := HRC.out.1 rfl
              subst k4
              have HA2 := Lib.hid hac2
              clear hcyc hac2 HRC
              go_wp2_with (go_at_call 15; refine HOR.out.mono ?_; rintro e w17 ⟨A17, m17, c17, x17, rfl, hr17, hb17⟩; obtain rfl : x17 = 0 := order_yes HA2.out HGK.out.ok hr17; obtain ⟨e0', e1'⟩ := (HCB.out.keep hb17).c2)
              go_ret
              exact ⟨rfl, hbwK.trans (hb17.mono hbwK.size)⟩

end Gp
end Go.Proofs.Ytpmmdibidhaggaa
