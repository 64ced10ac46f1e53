/- DigraphDepths: the walk. -/
import Derived.Test.YtpmmdibidhaggaaH0
import Derived.Test.YtpmmdibidhaggaaL9
namespace Go.Proofs.Ytpmmdibidhaggaa
open Go.RowKit Sl Fr
namespace Gp
set_option linter.unusedVariables false
attribute [local go_sem] field_e


def most (f : Nat → Nat) (v : Nat) (l : Dgr.Edges) (m : Nat) : Prop := (∀ u, (u, v) ∈ l → f u + 1 ≤ m) ∧ (m = 0 ∨ ∃ u, (u, v) ∈ l ∧ m = f u + 1)
theorem byDepth_len (n : Nat) (f : Nat → Nat) : ∀ k : Nat, (Dgr.byDepth n f k).length ≤ k * n
  | 0 => by simp [Dgr.byDepth]
  | k + 1 => by
    rw [Dgr.byDepth, List.length_append, Nat.succ_mul]
    have := byDepth_len n f k
    have h2 := List.length_filter_le (fun v => f v == k) (List.range n)
    rw [List.length_range] at h2
    omega
def sortF (n : Nat) (f : Nat → Nat) (k v : Nat) : List Nat := Dgr.byDepth n f k ++ (List.range v).filter fun x => f x == k
theorem sortF_len {n k v : Nat} (f : Nat → Nat) (hn : n ≤ 12) (hk : k ≤ 12) (hv : v ≤ 12) : (sortF n f k v).length ≤ 200 := by
  have h1 := byDepth_len n f k
  have h2 := List.length_filter_le (fun x => f x == k) (List.range v)
  have h3 := Nat.mul_le_mul hk hn
  rw [List.length_range] at h2
  rw [sortF, List.length_append]
  omega
theorem sortF_yes {n k v : Nat} {f : Nat → Nat} (h : f v = k) : sortF n f k (v + 1) = sortF n f k v ++ [v] := by simp [sortF, List.range_succ, List.filter_append, h]
theorem sortF_no {n k v : Nat} {f : Nat → Nat} (h : f v ≠ k) : sortF n f k (v + 1) = sortF n f k v := by simp [sortF, List.range_succ, List.filter_append, h]
theorem sortF_zero (n k : Nat) (f : Nat → Nat) : sortF n f k 0 = Dgr.byDepth n f k := by simp [sortF]
theorem sortF_all (n k : Nat) (f : Nat → Nat) : sortF n f k n = Dgr.byDepth n f (k + 1) := rfl

set_option maxRecDepth 100000 in
set_option maxHeartbeats 12800000 in
theorem depths_row (N K : Int) (B : Option Addr) (bs : List Int) (c : Nat) (w : World) (hN : 0 ≤ N ∧ N ≤ 255) (hK : 0 ≤ K ∧ K ≤ 255) (hB : RowIs .u8 w B bs.length c bs) :
    Calls Try.prog 7 #[.agg #[.int .u8 N, .int .u8 K, .slice B bs.length c]] w fun e w' => e = .returned (.bool true) ∧ Below w.heap.size w w' := by
  obtain ⟨i0, hi0, hz0, hz1, hz2⟩ := parts_of infoInt
  have hst := start1 w #[.int .u8 N, .int .u8 K, .slice B bs.length c] 24
  have HST := Lib.hid hst
  have HB := Lib.hid hB
  clear hst hB
  go_enter Try.func7, Try.ntmps7
  go_upto_region 6 with (first
    | (go_at_call 10; refine (examples_any _).mono ?_; rintro e w1 ⟨rfl, hb1⟩; obtain ⟨x0, x1, x2⟩ := (HST.out.1.keep hb1).c3; have hbw1 := HST.out.2.trans (hb1.mono HST.out.2.size))
    | (go_at_call 11; refine (made_any N K B bs c _ hN hK ⟨HB.out.hlen, HB.out.hcap, HB.out.arr.keep hbw1, HB.out.nil, HB.out.wf, HB.out.big⟩).mono ?_; rintro e w2 ⟨n, es, A, m, d, rfl, hg, he30, hb2⟩; have hbw2 := hbw1.trans (hb2.mono hbw1.size); have hgl := hg.len; subst hgl; clear x0 x1 x2)
    | (go_at_call 19; refine (depthL_any n _ es _ _ (hg.arr.keep ((Below.refl _ _).alloc (Nat.le_refl _) _)) hg.ok (by have := hg.n12; omega) (by omega)).mono ?_; rintro e w3 ⟨b, hdep, A2, m2, c2, ce, rfl, hres, hb3⟩))
  have hn12 := hg.n12
  have hbA := (Below.refl _ w2).alloc (Nat.le_refl _) (.cells #[.int .i64 (n : Int), .slice A es.length d] 31)
  have hst2 := start1 w2 #[.int .i64 (n : Int), .slice A es.length d] 31
  have hst3 := start1 w3 #[.slice A2 m2 c2, .int .i64 ce] 37
  have hbX : Below w.heap.size w (w3.alloc (.cells #[.slice A2 m2 c2, .int .i64 ce] 37)) := (((hbw2.trans (hbA.mono hbw2.size)).trans (hb3.mono (by have := hbw2.size; simp; omega))).alloc (by have := hbw2.size; have := hb3.size; simp at this; omega) _)
  have hGB := (hst2.1.keep hb3).keep hst3.2
  have hEA := (((hg.arr.keep hbA).keep hb3).keep hst3.2)
  have hRes := hres.keep hst3.2
  have hDB := hst3.1
  have HO := Lib.hid hg.ok
  have hlt2 : w2.heap.size < w3.heap.size := by have := hb3.size; simp at this; omega
  clear hst2 hst3 hres hb3 hg hbA hb2 hbw2 hbw1 hb1 HST HB
  generalize w3.alloc (.cells #[.slice A2 m2 c2, .int .i64 ce] 37) = X at *
  generalize w2.heap.size = gb at *
  generalize w3.heap.size = db at *
  have HGB := Lib.hid hGB
  have HDB := Lib.hid hDB
  have HEA := Lib.hid hEA
  have hgX := hGB.lt
  have hdX := hDB.lt
  have HORD := Lib.hid (orderL_any n A es d X.drew (hEA.keep ((Below.refl _ X).drew)) HO.out (by omega) (by omega))
  obtain ⟨g0, g1⟩ := hGB.c2
  obtain ⟨e0, e1⟩ := hDB.c2
  cases b with
  | none =>
    obtain ⟨h1, h2, h3, h4⟩ := hRes.1 rfl
    subst h2 h4
    have hof : Dgr.orderF n es = none := hdep
    rw [hof] at HORD
    clear hdep hRes hGB hDB hEA h1 h3
    refine wp_region_till (fun w' => w'.cell? ⟨gb, 0, none⟩ = some (.int .i64 (n : Int)) ∧ w'.cell? ⟨gb, 1, none⟩ = some (.slice A es.length d) ∧ w'.cell? ⟨db, 1, none⟩ = some (.int .i64 50)) 18 (by kernel_rfl) ?_ (fun hHeld => ?_)
    · exact ⟨g0, g1, e1⟩
    refine anyTill.reads (i := 0) rfl (by kernel_rfl) (by kernel_rfl) (by kernel_rfl) (by kernel_rfl) (fun _ _ _ h => h) (by rfl) (v := ?_) ?_ (by assumption) ?_
    rotate_left
    · intro wz hz; (try dsimp only at hz); go_split_ands; go_simp; try with_reducible rfl
    simp only [Act.put, List.setIfInBounds_toArray, List.set_cons_zero, List.set_cons_succ]
    refine anyTill.reads (i := 1) rfl (by kernel_rfl) (by kernel_rfl) (by kernel_rfl) (by kernel_rfl) (fun _ _ _ h => h) (by rfl) (v := ?_) ?_ (by assumption) ?_
    rotate_left
    · intro wz hz; (try dsimp only at hz); go_split_ands; go_simp; try with_reducible rfl
    simp only [Act.put, List.setIfInBounds_toArray, List.set_cons_zero, List.set_cons_succ]
    refine anyTill.reads (i := 2) rfl (by kernel_rfl) (by kernel_rfl) (by kernel_rfl) (by kernel_rfl) (fun _ _ _ h => h) (by rfl) (v := ?_) ?_ (by assumption) ?_
    rotate_left
    · intro wz hz; (try dsimp only at hz); go_split_ands; go_simp; try with_reducible rfl
    simp only [Act.put, List.setIfInBounds_toArray, List.set_cons_zero, List.set_cons_succ]
    refine anyTill.reads (i := 3) rfl (by kernel_rfl) (by kernel_rfl) (by kernel_rfl) (by kernel_rfl) (fun _ _ _ h => h) (by rfl) (v := ?_) ?_ (by assumption) ?_
    rotate_left
    · intro wz hz; (try dsimp only at hz); go_split_ands; go_simp; try with_reducible rfl
    simp only [Act.put, List.setIfInBounds_toArray, List.set_cons_zero, List.set_cons_succ]
    refine anyTill.alone (i := 4) rfl (by kernel_rfl) (by rfl) (fun K hK => ?_)
    go_wp2_with fail
    go_at_call 15
    refine HORD.out.mono ?_
    rintro e w4 ⟨A4, m4, c4, x4, rfl, hr4, hb4q⟩
    have hb4 : Below X.heap.size X w4 := (Below.refl _ X).drew.trans (hb4q.mono (by simp))
    have hx4 : x4 = 50 := (hr4.1 rfl).2.2.2
    subst hx4
    clear hb4q
    refine hK.out _ _ (fun _ => ?_) (fun hHeld0 => ?_)
    · exact ⟨(hb4.cell (p := ⟨gb, 0, none⟩) hgX).trans g0, (hb4.cell (p := ⟨gb, 1, none⟩) hgX).trans g1, (hb4.cell (p := ⟨db, 1, none⟩) hdX).trans e1⟩
    have hHeld := hHeld0 (by decide)
    clear hHeld0
    clear hK K
    try simp only [Act.put, List.setIfInBounds_toArray, List.set_cons_zero, List.set_cons_succ]
    refine anyTill.reads (i := 5) rfl (by kernel_rfl) (by kernel_rfl) (by kernel_rfl) (by kernel_rfl) (fun _ _ _ h => h) (by rfl) (v := ?_) ?_ (by assumption) ?_
    rotate_left
    · intro wz hz; (try dsimp only at hz); go_split_ands; go_simp; try with_reducible rfl
    simp only [Act.put, List.setIfInBounds_toArray, List.set_cons_zero, List.set_cons_succ]
    refine anyTill.reads (i := 6) rfl (by kernel_rfl) (by kernel_rfl) (by kernel_rfl) (by kernel_rfl) (fun _ _ _ h => h) (by rfl) (v := ?_) ?_ (by assumption) ?_
    rotate_left
    · intro wz hz; (try dsimp only at hz); go_split_ands; go_simp; try with_reducible rfl
    simp only [Act.put, List.setIfInBounds_toArray, List.set_cons_zero, List.set_cons_succ]
    refine anyTill.reads (i := 7) rfl (by kernel_rfl) (by kernel_rfl) (by kernel_rfl) (by kernel_rfl) (fun _ _ _ h => h) (by rfl) (v := ?_) ?_ (by assumption) ?_
    rotate_left
    · intro wz hz; (try dsimp only at hz); go_split_ands; go_simp; try with_reducible rfl
    simp only [Act.put, List.setIfInBounds_toArray, List.set_cons_zero, List.set_cons_succ]
    refine anyTill.reads (i := 8) rfl (by kernel_rfl) (by kernel_rfl) (by kernel_rfl) (by kernel_rfl) (fun _ _ _ h => h) (by rfl) (v := ?_) ?_ (by assumption) ?_
    rotate_left
    · intro wz hz; (try dsimp only at hz); go_split_ands; go_simp; try with_reducible rfl
    simp only [Act.put, List.setIfInBounds_toArray, List.set_cons_zero, List.set_cons_succ]
    refine anyTill.reads (i := 9) rfl (by kernel_rfl) (by kernel_rfl) (by kernel_rfl) (by kernel_rfl) (fun _ _ _ h => h) (by rfl) (v := ?_) ?_ (by assumption) ?_
    rotate_left
    · intro wz hz; (try dsimp only at hz); go_split_ands; go_simp; try with_reducible rfl
    simp only [Act.put, List.setIfInBounds_toArray, List.set_cons_zero, List.set_cons_succ]
    refine anyTill.reads (i := 10) rfl (by kernel_rfl) (by kernel_rfl) (by kernel_rfl) (by kernel_rfl) (fun _ _ _ h => h) (by rfl) (v := ?_) ?_ (by assumption) ?_
    rotate_left
    · intro wz hz; (try dsimp only at hz); go_split_ands; go_simp; try with_reducible rfl
    simp only [Act.put, List.setIfInBounds_toArray, List.set_cons_zero, List.set_cons_succ]
    refine anyTill.reads (i := 11) rfl (by kernel_rfl) (by kernel_rfl) (by kernel_rfl) (by kernel_rfl) (fun _ _ _ h => h) (by rfl) (v := ?_) ?_ (by assumption) ?_
    rotate_left
    · intro wz hz; (try dsimp only at hz); go_split_ands; go_simp; try with_reducible rfl
    simp only [Act.put, List.setIfInBounds_toArray, List.set_cons_zero, List.set_cons_succ]
    refine anyTill.reads (i := 12) rfl (by kernel_rfl) (by kernel_rfl) (by kernel_rfl) (by kernel_rfl) (fun _ _ _ h => h) (by rfl) (v := ?_) ?_ (by assumption) ?_
    rotate_left
    · intro wz hz; (try dsimp only at hz); go_split_ands; go_simp; try with_reducible rfl
    simp only [Act.put, List.setIfInBounds_toArray, List.set_cons_zero, List.set_cons_succ]
    refine anyTill.reads (i := 13) rfl (by kernel_rfl) (by kernel_rfl) (by kernel_rfl) (by kernel_rfl) (fun _ _ _ h => h) (by rfl) (v := ?_) ?_ (by assumption) ?_
    rotate_left
    · intro wz hz; (try dsimp only at hz); go_split_ands; go_simp; try with_reducible rfl
    simp only [Act.put, List.setIfInBounds_toArray, List.set_cons_zero, List.set_cons_succ]
    refine anyTill.reads (i := 14) rfl (by kernel_rfl) (by kernel_rfl) (by kernel_rfl) (by kernel_rfl) (fun _ _ _ h => h) (by rfl) (v := ?_) ?_ (by assumption) ?_
    rotate_left
    · intro wz hz; (try dsimp only at hz); go_split_ands; go_simp; try with_reducible rfl
    simp only [Act.put, List.setIfInBounds_toArray, List.set_cons_zero, List.set_cons_succ]
    refine anyTill.reads (i := 15) rfl (by kernel_rfl) (by kernel_rfl) (by kernel_rfl) (by kernel_rfl) (fun _ _ _ h => h) (by rfl) (v := ?_) ?_ (by assumption) ?_
    rotate_left
    · intro wz hz; (try dsimp only at hz); go_split_ands; go_simp; try with_reducible rfl
    simp only [Act.put, List.setIfInBounds_toArray, List.set_cons_zero, List.set_cons_succ]
    refine anyTill.reads (i := 16) rfl (by kernel_rfl) (by kernel_rfl) (by kernel_rfl) (by kernel_rfl) (fun _ _ _ h => h) (by rfl) (v := ?_) ?_ (by assumption) ?_
    rotate_left
    · intro wz hz; (try dsimp only at hz); go_split_ands; go_simp; try with_reducible rfl
    simp only [Act.put, List.setIfInBounds_toArray, List.set_cons_zero, List.set_cons_succ]
    refine anyTill.reads (i := 17) rfl (by kernel_rfl) (by kernel_rfl) (by kernel_rfl) (by kernel_rfl) (fun _ _ _ h => h) (by rfl) (v := ?_) ?_ (by assumption) ?_
    rotate_left
    · intro wz hz; (try dsimp only at hz); go_split_ands; go_simp; try with_reducible rfl
    simp only [Act.put, List.setIfInBounds_toArray, List.set_cons_zero, List.set_cons_succ]
    refine anyTill.done (by kernel_rfl) ?_ _
    clear hHeld HORD hr4
    have e1' := (hb4.cell (p := ⟨db, 1, none⟩) hdX).trans e1
    go_wp2
    go_ret
    exact ⟨rfl, hbX.trans (hb4.mono hbX.size)⟩
  | some dl =>
    obtain ⟨h1, h2, h3, h4⟩ := hRes.2 dl rfl
    obtain ⟨f, l, hdp, hof, hdl⟩ := hdep
    subst h4
    rw [hof] at HORD
    have HRW := Lib.hid h3
    clear hRes hGB hDB hEA h3
    refine wp_region_till (fun w' => w'.cell? ⟨gb, 0, none⟩ = some (.int .i64 (n : Int)) ∧ w'.cell? ⟨gb, 1, none⟩ = some (.slice A es.length d) ∧ w'.cell? ⟨db, 1, none⟩ = some (.int .i64 0)) 18 (by kernel_rfl) ?_ (fun hHeld => ?_)
    · exact ⟨g0, g1, e1⟩
    refine anyTill.reads (i := 0) rfl (by kernel_rfl) (by kernel_rfl) (by kernel_rfl) (by kernel_rfl) (fun _ _ _ h => h) (by rfl) (v := ?_) ?_ (by assumption) ?_
    rotate_left
    · intro wz hz; (try dsimp only at hz); go_split_ands; go_simp; try with_reducible rfl
    simp only [Act.put, List.setIfInBounds_toArray, List.set_cons_zero, List.set_cons_succ]
    refine anyTill.reads (i := 1) rfl (by kernel_rfl) (by kernel_rfl) (by kernel_rfl) (by kernel_rfl) (fun _ _ _ h => h) (by rfl) (v := ?_) ?_ (by assumption) ?_
    rotate_left
    · intro wz hz; (try dsimp only at hz); go_split_ands; go_simp; try with_reducible rfl
    simp only [Act.put, List.setIfInBounds_toArray, List.set_cons_zero, List.set_cons_succ]
    refine anyTill.reads (i := 2) rfl (by kernel_rfl) (by kernel_rfl) (by kernel_rfl) (by kernel_rfl) (fun _ _ _ h => h) (by rfl) (v := ?_) ?_ (by assumption) ?_
    rotate_left
    · intro wz hz; (try dsimp only at hz); go_split_ands; go_simp; try with_reducible rfl
    simp only [Act.put, List.setIfInBounds_toArray, List.set_cons_zero, List.set_cons_succ]
    refine anyTill.reads (i := 3) rfl (by kernel_rfl) (by kernel_rfl) (by kernel_rfl) (by kernel_rfl) (fun _ _ _ h => h) (by rfl) (v := ?_) ?_ (by assumption) ?_
    rotate_left
    · intro wz hz; (try dsimp only at hz); go_split_ands; go_simp; try with_reducible rfl
    simp only [Act.put, List.setIfInBounds_toArray, List.set_cons_zero, List.set_cons_succ]
    refine anyTill.alone (i := 4) rfl (by kernel_rfl) (by rfl) (fun K hK => ?_)
    go_wp2_with fail
    go_at_call 15
    refine HORD.out.mono ?_
    rintro e w4 ⟨A4, m4, c4, x4, rfl, hr4, hb4q⟩
    have hb4 : Below X.heap.size X w4 := (Below.refl _ X).drew.trans (hb4q.mono (by simp))
    have hx4 : x4 = 0 := (hr4.2 l rfl).2.2.2
    subst hx4
    clear hb4q
    refine hK.out _ _ (fun _ => ?_) (fun hHeld0 => ?_)
    · exact ⟨(hb4.cell (p := ⟨gb, 0, none⟩) hgX).trans g0, (hb4.cell (p := ⟨gb, 1, none⟩) hgX).trans g1, (hb4.cell (p := ⟨db, 1, none⟩) hdX).trans e1⟩
    have hHeld := hHeld0 (by decide)
    clear hHeld0
    clear hK K
    try simp only [Act.put, List.setIfInBounds_toArray, List.set_cons_zero, List.set_cons_succ]
    refine anyTill.reads (i := 5) rfl (by kernel_rfl) (by kernel_rfl) (by kernel_rfl) (by kernel_rfl) (fun _ _ _ h => h) (by rfl) (v := ?_) ?_ (by assumption) ?_
    rotate_left
    · intro wz hz; (try dsimp only at hz); go_split_ands; go_simp; try with_reducible rfl
    simp only [Act.put, List.setIfInBounds_toArray, List.set_cons_zero, List.set_cons_succ]
    refine anyTill.reads (i := 6) rfl (by kernel_rfl) (by kernel_rfl) (by kernel_rfl) (by kernel_rfl) (fun _ _ _ h => h) (by rfl) (v := ?_) ?_ (by assumption) ?_
    rotate_left
    · intro wz hz; (try dsimp only at hz); go_split_ands; go_simp; try with_reducible rfl
    simp only [Act.put, List.setIfInBounds_toArray, List.set_cons_zero, List.set_cons_succ]
    refine anyTill.reads (i := 7) rfl (by kernel_rfl) (by kernel_rfl) (by kernel_rfl) (by kernel_rfl) (fun _ _ _ h => h) (by rfl) (v := ?_) ?_ (by assumption) ?_
    rotate_left
    · intro wz hz; (try dsimp only at hz); go_split_ands; go_simp; try with_reducible rfl
    simp only [Act.put, List.setIfInBounds_toArray, List.set_cons_zero, List.set_cons_succ]
    refine anyTill.reads (i := 8) rfl (by kernel_rfl) (by kernel_rfl) (by kernel_rfl) (by kernel_rfl) (fun _ _ _ h => h) (by rfl) (v := ?_) ?_ (by assumption) ?_
    rotate_left
    · intro wz hz; (try dsimp only at hz); go_split_ands; go_simp; try with_reducible rfl
    simp only [Act.put, List.setIfInBounds_toArray, List.set_cons_zero, List.set_cons_succ]
    refine anyTill.reads (i := 9) rfl (by kernel_rfl) (by kernel_rfl) (by kernel_rfl) (by kernel_rfl) (fun _ _ _ h => h) (by rfl) (v := ?_) ?_ (by assumption) ?_
    rotate_left
    · intro wz hz; (try dsimp only at hz); go_split_ands; go_simp; try with_reducible rfl
    simp only [Act.put, List.setIfInBounds_toArray, List.set_cons_zero, List.set_cons_succ]
    refine anyTill.reads (i := 10) rfl (by kernel_rfl) (by kernel_rfl) (by kernel_rfl) (by kernel_rfl) (fun _ _ _ h => h) (by rfl) (v := ?_) ?_ (by assumption) ?_
    rotate_left
    · intro wz hz; (try dsimp only at hz); go_split_ands; go_simp; try with_reducible rfl
    simp only [Act.put, List.setIfInBounds_toArray, List.set_cons_zero, List.set_cons_succ]
    refine anyTill.reads (i := 11) rfl (by kernel_rfl) (by kernel_rfl) (by kernel_rfl) (by kernel_rfl) (fun _ _ _ h => h) (by rfl) (v := ?_) ?_ (by assumption) ?_
    rotate_left
    · intro wz hz; (try dsimp only at hz); go_split_ands; go_simp; try with_reducible rfl
    simp only [Act.put, List.setIfInBounds_toArray, List.set_cons_zero, List.set_cons_succ]
    refine anyTill.reads (i := 12) rfl (by kernel_rfl) (by kernel_rfl) (by kernel_rfl) (by kernel_rfl) (fun _ _ _ h => h) (by rfl) (v := ?_) ?_ (by assumption) ?_
    rotate_left
    · intro wz hz; (try dsimp only at hz); go_split_ands; go_simp; try with_reducible rfl
    simp only [Act.put, List.setIfInBounds_toArray, List.set_cons_zero, List.set_cons_succ]
    refine anyTill.idle (i := 13) rfl (by kernel_rfl) (by kernel_rfl) (by kernel_rfl) (by kernel_rfl) (fun _ _ _ h => h) (by rfl) (by assumption) ?_
    simp only [Act.put, List.setIfInBounds_toArray, List.set_cons_zero, List.set_cons_succ]
    refine anyTill.idle (i := 14) rfl (by kernel_rfl) (by kernel_rfl) (by kernel_rfl) (by kernel_rfl) (fun _ _ _ h => h) (by rfl) (by assumption) ?_
    simp only [Act.put, List.setIfInBounds_toArray, List.set_cons_zero, List.set_cons_succ]
    refine anyTill.idle (i := 15) rfl (by kernel_rfl) (by kernel_rfl) (by kernel_rfl) (by kernel_rfl) (fun _ _ _ h => h) (by rfl) (by assumption) ?_
    simp only [Act.put, List.setIfInBounds_toArray, List.set_cons_zero, List.set_cons_succ]
    refine anyTill.reads (i := 16) rfl (by kernel_rfl) (by kernel_rfl) (by kernel_rfl) (by kernel_rfl) (fun _ _ _ h => h) (by rfl) (v := ?_) ?_ (by assumption) ?_
    rotate_left
    · intro wz hz; (try dsimp only at hz); go_split_ands; go_simp; try with_reducible rfl
    simp only [Act.put, List.setIfInBounds_toArray, List.set_cons_zero, List.set_cons_succ]
    refine anyTill.reads (i := 17) rfl (by kernel_rfl) (by kernel_rfl) (by kernel_rfl) (by kernel_rfl) (fun _ _ _ h => h) (by rfl) (v := ?_) ?_ (by assumption) ?_
    rotate_left
    · intro wz hz; (try dsimp only at hz); go_split_ands; go_simp; try with_reducible rfl
    simp only [Act.put, List.setIfInBounds_toArray, List.set_cons_zero, List.set_cons_succ]
    refine anyTill.done (by kernel_rfl) ?_ _
    have hbw4 : Below w.heap.size w w4 := hbX.trans (hb4.mono hbX.size)
    have hgX4 : gb < w4.heap.size := Nat.lt_of_lt_of_le hgX hb4.size
    have hdX4 : db < w4.heap.size := Nat.lt_of_lt_of_le hdX hb4.size
    obtain ⟨bd, od, hdr⟩ := (HRW.out.keep hb4).open
    have HD := Lib.hid hdr
    obtain ⟨g0', g1'⟩ := (HGB.out.keep hb4).c2
    obtain ⟨e0', e1'⟩ := (HDB.out.keep hb4).c2
    have HGB4 := Lib.hid (HGB.out.keep hb4)
    have HDB4 := Lib.hid (HDB.out.keep hb4)
    have HEA4 := Lib.hid (HEA.out.keep hb4)
    have htp := Dgr.orderF_topo hof
    have hfn : ∀ v, v < n → f v < n := fun v hv => hdp.lt (Dgr.orderF_some hof).1 htp.len HO.out hv
    have HDP := Lib.hid hdp
    have HFN := Lib.hid hfn
    have hm2n : m2 = n := by rw [h1, hdl]; simp
    subst hm2n
    have HDL := Lib.hid hdl
    clear hHeld HORD hr4 hdp hfn hdr htp hdl h1 HGB HDB HEA HRW hof g0 g1 e0 e1 hgX hdX hb4 hbX h2
    generalize w4 = Y at *
    go_wp2
    have hS0 : Hid ((Y.alloc (.cells #[] 3)).ownsRow Y.heap.size 3 1 (.slice (some ⟨Y.heap.size, 0, none⟩) 0 0) (Dgr.byDepth m2 f 0).length (nv (Dgr.byDepth m2 f 0)) ∧ Below Y.heap.size Y (Y.alloc (.cells #[] 3))) := Lib.hid
      ⟨World.ownsRow_lit (e := 3) (size := 1) Y #[] 0 (Nat.le_refl _) (by unfold maxLen; omega) rfl, (Below.refl _ Y).alloc (Nat.le_refl _) _⟩
    go_loopg [6, 7] m2 (fun g s i wr => ∃ k : Nat, i = .int .i64 k ∧ k ≤ m2 ∧ g = m2 - k ∧ wr.ownsRow Y.heap.size 3 1 s (Dgr.byDepth m2 f k).length (nv (Dgr.byDepth m2 f k)) ∧ Below Y.heap.size Y wr)
    case atStart => exact ⟨0, rfl, Nat.zero_le _, rfl, hS0.out.1, hS0.out.2⟩
    case round =>
      obtain ⟨k, rfl, hk, rfl, hrow, hbl⟩ := hrel
      clear hS0
      have HROW := Lib.hid hrow
      obtain ⟨p0, p1⟩ := (HGB4.out.keep hbl).c2
      clear hrow
      by_cases hlt : k < m2
      · have hk12 : k ≤ 12 := by omega
        go_wp2
        go_loopg [6, 8] m2 (fun g s i wr => ∃ v : Nat, i = .int .i64 v ∧ v ≤ m2 ∧ g = m2 - v ∧ wr.ownsRow Y.heap.size 3 1 s (sortF m2 f k v).length (nv (sortF m2 f k v)) ∧ Below Y.heap.size Y wr)
        case atStart => exact ⟨0, rfl, Nat.zero_le _, rfl, by rw [sortF_zero]; exact HROW.out, hbl⟩
        case round =>
          clear HROW p0 p1 hbl
          obtain ⟨v, rfl, hv, rfl, hrow, hbl⟩ := hrel
          have hown := row_own hrow
          have hlen := sortF_len f hn12 hk12 (show v ≤ 12 by omega)
          have HROW := Lib.hid hrow
          obtain ⟨p0, p1⟩ := (HGB4.out.keep hbl).c2
          obtain ⟨q0, q1⟩ := (HDB4.out.keep hbl).c2
          have hbs := hbl.size
          clear hrow
          by_cases hlt2 : v < m2
          · have hdv : dl[v]? = some (f v) := by rw [HDL.out, List.getElem?_map, List.getElem?_range hlt2]; rfl
            obtain ⟨rfl, _, hbb, hc⟩ := HD.out (by intro h; rw [h] at hdv; simp at hdv)
            have hcv := (hbl.cell (p := ⟨bd, od + v, none⟩) hbb).trans (hc v _ hdv)
            have hv1 : (0 : Int) ≤ (v : Int) := Int.natCast_nonneg _
            have hv2 : (v : Int) < (m2 : Int) := by omega
            clear hdv hc HD
            by_cases hf : f v = k
            · have hd : ((f v : Int) == (k : Int)) = true := by simp; omega
              have HF := Lib.hid hf
              clear hf
              go_wp2_with (at_builtin; refine wpList_append_lies _ rfl _ _ 26 rfl Y.heap.size 3 i0 (.int .i64 0) 1 8 Try.underlying26 hi0 hz0 hz1 hz2 rfl (by decide) _ _ _ rfl (HROW.out.alloc _) ⟨wr.heap.size, 0, none⟩ 1 1 [.int .i64 (v : Int)] rfl rfl (cell_one_new _ _ _) (by simp [Value.oneCell']) (by decide) (by unfold maxLen; omega) (by omega) (by simp; omega) _ rfl ?_; intro g cap' w1 hown1 hgrow1 hor1 hlt1)
              go_roundg (m2 - (v + 1))
              case measure => omega
              case rel => exact ⟨v + 1, by go_num, by omega, rfl, by rw [sortF_yes HF.out, nv_append, List.length_append]; exact hown1, (hbl.alloc hbs _).grown hgrow1 (by simp; omega) (fun g' hg' => hown g' hg')⟩
            · have hd : ((f v : Int) == (k : Int)) = false := by simp; omega
              have HF := Lib.hid hf
              clear hf
              go_wp2
              go_roundg (m2 - (v + 1))
              case measure => omega
              case rel => exact ⟨v + 1, by go_num, by omega, rfl, by rw [sortF_no HF.out]; exact HROW.out, hbl⟩
          · clear HD
            go_wp2
            go_roundg (m2 - (k + 1))
            case measure => omega
            case rel =>
              refine ⟨k + 1, by go_num, by omega, rfl, ?_, hbl⟩
              obtain rfl : v = m2 := by omega
              exact HROW.out
      · go_wp2
        obtain rfl : k = m2 := by omega
        obtain ⟨A6, c6, rfl, hc6, hl6, hR6⟩ := Row.own HROW.out
        obtain ⟨Z, hZ⟩ : ∃ Z, Z = wr := ⟨_, rfl⟩
        subst hZ
        have hEZ := HEA4.out.keep hbl
        obtain ⟨be, oe, heo⟩ := hEZ.open
        have HE := Lib.hid heo
        have HEZ := Lib.hid hEZ
        have HR6 := Lib.hid hR6
        have HGZ := Lib.hid (HGB4.out.keep hbl)
        have HDZ := Lib.hid (HDB4.out.keep hbl)
        have HDR : Hid (∀ v, v < k → A2 = some ⟨bd, od, none⟩ ∧ bd < Z.heap.size ∧ Z.cell? ⟨bd, od + v, none⟩ = some (.int .i64 (f v : Int))) := Lib.hid fun v hv => by
          have hdv : dl[v]? = some (f v) := by rw [HDL.out, List.getElem?_map, List.getElem?_range hv]; rfl
          obtain ⟨rfl, _, hbb, hc⟩ := HD.out (by intro h; rw [h] at hdv; simp at hdv)
          exact ⟨rfl, Nat.lt_of_lt_of_le hbb hbl.size, (hbl.cell (p := ⟨bd, od + v, none⟩) hbb).trans (hc v _ hdv)⟩
        have hbwZ := hbw4.trans (hbl.mono hbw4.size)
        clear HROW hbl heo hEZ hR6 HD HDL p0 p1 hbw4
        go_loopg [9] k (fun g i wr => ∃ v : Nat, i = .int .i64 v ∧ v ≤ k ∧ g = k - v ∧ Below Z.heap.size Z wr)
        case atStart => exact ⟨0, rfl, Nat.zero_le _, rfl, Below.refl _ _⟩
        case round =>
          obtain ⟨v, rfl, hv, rfl, hbl⟩ := hrel
          obtain ⟨p0, p1⟩ := (HGZ.out.keep hbl).c2
          by_cases hlt : v < k
          · go_wp2
            go_loopg [10, 11] es.length (fun g s i wr => ∃ j m : Nat, s = .int .i64 m ∧ i = .int .i64 j ∧ j ≤ es.length ∧ g = es.length - j ∧ most f v (es.take j) m ∧ Below Z.heap.size Z wr)
            case atStart => exact ⟨0, 0, rfl, rfl, Nat.zero_le _, rfl, ⟨fun u hu => by simp at hu, .inl rfl⟩, hbl⟩
            case round =>
              clear p0 p1 hbl
              obtain ⟨j, m, rfl, rfl, hj, rfl, hmost, hbl⟩ := hrel
              have hbs := hbl.size
              obtain ⟨p0, p1⟩ := (HGZ.out.keep hbl).c2
              obtain ⟨q0, q1⟩ := (HDZ.out.keep hbl).c2
              have HM := Lib.hid hmost
              clear hmost
              by_cases hlt2 : j < es.length
              · obtain ⟨⟨p, q⟩, hpq⟩ := get_ex hlt2
                obtain ⟨rfl, hbe, hce⟩ := HE.out (by intro h; subst h; simp at hlt2)
                obtain ⟨hp, hq⟩ := hce j p q hpq
                have hcp := (hbl.cell (p := ⟨be, oe + j * 2, none⟩) hbe).trans hp
                have hcq := (hbl.cell (p := ⟨be, oe + j * 2 + 1, none⟩) hbe).trans hq
                have hpn : p < k := (HO.out _ (List.mem_of_getElem? hpq)).1
                obtain ⟨rfl, hbb, hcd⟩ := HDR.out p hpn
                have hcf := (hbl.cell (p := ⟨bd, od + p, none⟩) hbb).trans hcd
                have hfp := HFN.out p hpn
                have hp1 : (0 : Int) ≤ (p : Int) := Int.natCast_nonneg _
                have hp2 : (p : Int) < (k : Int) := by omega
                have hj1 : (0 : Int) ≤ (j : Int) := Int.natCast_nonneg _
                have HX := Lib.hid hpq
                clear hpq hp hq hce hcd HDR HE
                by_cases hqv : q = v
                · have hd : ((q : Int) == (v : Int)) = true := by simp; omega
                  subst hqv
                  go_upto_region 29 with fail
                  refine wp_region_till (fun w' => w'.cell? ⟨gb, 1, none⟩ = some (.slice (some ⟨be, oe, none⟩) es.length d) ∧ w'.cell? ⟨db, 0, none⟩ = some (.slice (some ⟨bd, od, none⟩) k c2) ∧ w'.cell? ⟨be, oe + j * 2, none⟩ = some (.int .i64 (p : Int)) ∧ w'.cell? ⟨bd, od + p, none⟩ = some (.int .i64 (f p : Int))) 14 (by kernel_rfl) ?_ (fun hHeld => ?_)
                  · exact ⟨p1, q0, hcp, hcf⟩
                  refine anyTill.reads (i := 0) rfl (by kernel_rfl) (by kernel_rfl) (by kernel_rfl) (by kernel_rfl) (fun _ _ _ h => h) (by rfl) (v := ?_) ?_ (by assumption) ?_
                  rotate_left
                  · intro wz hz; (try dsimp only at hz); go_split_ands; go_simp; try with_reducible rfl
                  simp only [Act.put, List.setIfInBounds_toArray, List.set_cons_zero, List.set_cons_succ]
                  refine anyTill.reads (i := 1) rfl (by kernel_rfl) (by kernel_rfl) (by kernel_rfl) (by kernel_rfl) (fun _ _ _ h => h) (by rfl) (v := ?_) ?_ (by assumption) ?_
                  rotate_left
                  · intro wz hz; (try dsimp only at hz); go_split_ands; go_simp; try with_reducible rfl
                  simp only [Act.put, List.setIfInBounds_toArray, List.set_cons_zero, List.set_cons_succ]
                  refine anyTill.reads (i := 2) rfl (by kernel_rfl) (by kernel_rfl) (by kernel_rfl) (by kernel_rfl) (fun _ _ _ h => h) (by rfl) (v := ?_) ?_ (by assumption) ?_
                  rotate_left
                  · intro wz hz; (try dsimp only at hz); go_split_ands; go_simp; try with_reducible rfl
                  simp only [Act.put, List.setIfInBounds_toArray, List.set_cons_zero, List.set_cons_succ]
                  refine anyTill.reads (i := 3) rfl (by kernel_rfl) (by kernel_rfl) (by kernel_rfl) (by kernel_rfl) (fun _ _ _ h => h) (by rfl) (v := ?_) ?_ (by assumption) ?_
                  rotate_left
                  · intro wz hz; (try dsimp only at hz); go_split_ands; go_simp; try with_reducible rfl
                  simp only [Act.put, List.setIfInBounds_toArray, List.set_cons_zero, List.set_cons_succ]
                  refine anyTill.reads (i := 4) rfl (by kernel_rfl) (by kernel_rfl) (by kernel_rfl) (by kernel_rfl) (fun _ _ _ h => h) (by rfl) (v := ?_) ?_ (by assumption) ?_
                  rotate_left
                  · intro wz hz; (try dsimp only at hz); go_split_ands; go_simp; try with_reducible rfl
                  simp only [Act.put, List.setIfInBounds_toArray, List.set_cons_zero, List.set_cons_succ]
                  refine anyTill.reads (i := 5) rfl (by kernel_rfl) (by kernel_rfl) (by kernel_rfl) (by kernel_rfl) (fun _ _ _ h => h) (by rfl) (v := ?_) ?_ (by assumption) ?_
                  rotate_left
                  · intro wz hz; (try dsimp only at hz); go_split_ands; go_simp; try with_reducible rfl
                  simp only [Act.put, List.setIfInBounds_toArray, List.set_cons_zero, List.set_cons_succ]
                  refine anyTill.reads (i := 6) rfl (by kernel_rfl) (by kernel_rfl) (by kernel_rfl) (by kernel_rfl) (fun _ _ _ h => h) (by rfl) (v := ?_) ?_ (by assumption) ?_
                  rotate_left
                  · intro wz hz; (try dsimp only at hz); go_split_ands; go_simp; try with_reducible rfl
                  simp only [Act.put, List.setIfInBounds_toArray, List.set_cons_zero, List.set_cons_succ]
                  refine anyTill.reads (i := 7) rfl (by kernel_rfl) (by kernel_rfl) (by kernel_rfl) (by kernel_rfl) (fun _ _ _ h => h) (by rfl) (v := ?_) ?_ (by assumption) ?_
                  rotate_left
                  · intro wz hz; (try dsimp only at hz); go_split_ands; go_simp; try with_reducible rfl
                  simp only [Act.put, List.setIfInBounds_toArray, List.set_cons_zero, List.set_cons_succ]
                  refine anyTill.reads (i := 8) rfl (by kernel_rfl) (by kernel_rfl) (by kernel_rfl) (by kernel_rfl) (fun _ _ _ h => h) (by rfl) (v := ?_) ?_ (by assumption) ?_
                  rotate_left
                  · intro wz hz; (try dsimp only at hz); go_split_ands; go_simp; try with_reducible rfl
                  simp only [Act.put, List.setIfInBounds_toArray, List.set_cons_zero, List.set_cons_succ]
                  refine anyTill.reads (i := 9) rfl (by kernel_rfl) (by kernel_rfl) (by kernel_rfl) (by kernel_rfl) (fun _ _ _ h => h) (by rfl) (v := ?_) ?_ (by assumption) ?_
                  rotate_left
                  · intro wz hz; (try dsimp only at hz); go_split_ands; go_simp; try with_reducible rfl
                  simp only [Act.put, List.setIfInBounds_toArray, List.set_cons_zero, List.set_cons_succ]
                  refine anyTill.reads (i := 10) rfl (by kernel_rfl) (by kernel_rfl) (by kernel_rfl) (by kernel_rfl) (fun _ _ _ h => h) (by rfl) (v := ?_) ?_ (by assumption) ?_
                  rotate_left
                  · intro wz hz; (try dsimp only at hz); go_split_ands; go_simp; try with_reducible rfl
                  simp only [Act.put, List.setIfInBounds_toArray, List.set_cons_zero, List.set_cons_succ]
                  refine anyTill.reads (i := 11) rfl (by kernel_rfl) (by kernel_rfl) (by kernel_rfl) (by kernel_rfl) (fun _ _ _ h => h) (by rfl) (v := ?_) ?_ (by assumption) ?_
                  rotate_left
                  · intro wz hz; (try dsimp only at hz); go_split_ands; go_simp; try with_reducible rfl
                  simp only [Act.put, List.setIfInBounds_toArray, List.set_cons_zero, List.set_cons_succ]
                  refine anyTill.alone (i := 12) rfl (by kernel_rfl) (by rfl) (fun K hK => ?_)
                  go_simp
                  refine hK.out _ _ (fun _ => ?_) (fun hHeld0 => ?_)
                  · exact ⟨p1, q0, hcp, hcf⟩
                  have hHeld := hHeld0 (by decide)
                  clear hHeld0
                  clear hK K
                  try simp only [Act.put, List.setIfInBounds_toArray, List.set_cons_zero, List.set_cons_succ]
                  refine anyTill.reads (i := 13) rfl (by kernel_rfl) (by kernel_rfl) (by kernel_rfl) (by kernel_rfl) (fun _ _ _ h => h) (by rfl) (v := ?_) ?_ (by assumption) ?_
                  rotate_left
                  · intro wz hz; (try dsimp only at hz); go_split_ands; go_simp; try with_reducible rfl
                  simp only [Act.put, List.setIfInBounds_toArray, List.set_cons_zero, List.set_cons_succ]
                  refine anyTill.done (by kernel_rfl) ?_ _
                  have hwr : IntKind.i64.wrap ((f p : Int) + 1) = (f p : Int) + 1 := IntWalk.i64_in _ (by omega)
                  have e : (if (m : Int) < IntKind.i64.wrap ((f p : Int) + 1) then IntKind.i64.wrap ((f p : Int) + 1) else (m : Int)) = ((max m (f p + 1) : Nat) : Int) := by
                    rw [hwr]
                    split <;> omega
                  rw [e]
                  clear hHeld hwr e
                  have hbz : Below Z.heap.size Z wr.drew := hbl.drew
                  go_wp2
                  go_roundg (es.length - (j + 1))
                  case measure => omega
                  case rel =>
                    refine ⟨j + 1, max m (f p + 1), rfl, by go_num, by omega, rfl, ⟨fun u hu => ?_, ?_⟩, hbz⟩
                    · rw [take_snoc HX.out] at hu
                      rcases List.mem_append.1 hu with hu | hu
                      · have := HM.out.1 u hu; omega
                      · simp only [List.mem_singleton, Prod.mk.injEq] at hu
                        rw [hu.1]; omega
                    · rw [take_snoc HX.out]
                      rcases Nat.le_total m (f p + 1) with h | h
                      · exact .inr ⟨p, by simp, by omega⟩
                      · rcases HM.out.2 with h2 | ⟨u, hu, h2⟩
                        · omega
                        · exact .inr ⟨u, List.mem_append.2 (.inl hu), by omega⟩
                · have hd : ((q : Int) == (v : Int)) = false := by simp; omega
                  have HQ := Lib.hid hqv
                  clear hqv
                  go_wp2
                  go_roundg (es.length - (j + 1))
                  case measure => omega
                  case rel =>
                    refine ⟨j + 1, m, rfl, by go_num, by omega, rfl, ⟨fun u hu => ?_, HM.out.2.imp id fun ⟨u, hu, e⟩ => ⟨u, ?_, e⟩⟩, hbl⟩
                    · rw [take_snoc HX.out] at hu
                      rcases List.mem_append.1 hu with hu | hu
                      · exact HM.out.1 u hu
                      · simp only [List.mem_singleton, Prod.mk.injEq] at hu
                        exact absurd hu.2.symm HQ.out
                    · rw [take_snoc HX.out]; exact List.mem_append.2 (.inl hu)
              · obtain ⟨rfl, hbb, hcd⟩ := HDR.out v hlt
                have hcf := (hbl.cell (p := ⟨bd, od + v, none⟩) hbb).trans hcd
                have hfm : f v = m := by
                  have h := HM.out
                  rw [List.take_of_length_le (by omega)] at h
                  have h1 := HDP.out.from_ v hlt
                  rcases h1 with h1 | ⟨u, hu, h1⟩ <;> rcases h.2 with h2 | ⟨u2, hu2, h2⟩
                  · omega
                  · have := HDP.out.le _ _ hu2; omega
                  · have := h.1 u hu; omega
                  · have := h.1 u hu; have := HDP.out.le _ _ hu2; omega
                have hd : ((f v : Int) != (m : Int)) = false := by simp; omega
                have hv1 : (0 : Int) ≤ (v : Int) := Int.natCast_nonneg _
                have hv2 : (v : Int) < (k : Int) := by omega
                clear hfm hcd HDR HE
                go_wp2
                go_roundg (k - (v + 1))
                case measure => omega
                case rel => exact ⟨v + 1, by go_num, by omega, rfl, hbl⟩
          · clear HE HDR
            have hlz : (Dgr.byDepth k f k).length = (zl (Dgr.byDepth k f k)).length := by simp [zl]
            have hchk : chk k es (zl (Dgr.byDepth k f k)) = 0 := chk_yes (topoZ_zl.2 (Dgr.byDepth_topo HDP.out (fun v hv => HFN.out v hv) HO.out))
            have hcall := check_any k A A6 es (zl (Dgr.byDepth k f k)) d c6 wr (HEZ.out.keep hbl) ((HR6.out.keep hbl).arrZ) HO.out (by omega) (by omega)
            rw [hchk, ← hlz] at hcall
            have HC := Lib.hid hcall
            clear hcall hchk hlz
            go_wp2_with (go_at_call 21; refine HC.out.mono ?_; rintro e w9 ⟨rfl, hb9⟩)
            go_ret
            exact ⟨rfl, hbwZ.trans ((hbl.trans (hb9.mono hbl.size)).mono hbwZ.size)⟩

end Gp
end Go.Proofs.Ytpmmdibidhaggaa
