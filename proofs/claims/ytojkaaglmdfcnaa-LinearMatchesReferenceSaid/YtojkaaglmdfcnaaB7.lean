/- The reference's signed numbers: sums. -/
import Derived.Test.YtojkaaglmdfcnaaB6
import Derived.Deep.RegionHeld3
namespace Go.Proofs.Ytojkaaglmdfcnaa
open Go.RowKit Sl
namespace Fr
set_option linter.unusedVariables false

set_option maxRecDepth 100000 in
set_option maxHeartbeats 2000000 in
theorem rsum_same (n : Bool) (x y g1 k1 c1 g2 k2 c2 : Nat) (w : World) (h1 : g1 < w.heap.size) (h2 : g2 < w.heap.size) (hI1 : IsB w (some ⟨g1, 0, none⟩) x k1) (hI2 : IsB w (some ⟨g2, 0, none⟩) y k2) (hx : Tight x k1) (hy : Tight y k2) (hk1 : k1 ≤ 500) (hk2 : k2 ≤ 500) :
    Calls Try.prog 85 #[.agg #[.bool n, .slice (some ⟨g1, 0, none⟩) k1 c1], .agg #[.bool n, .slice (some ⟨g2, 0, none⟩) k2 c2]] w (RetS n (x + y) w) := by
  have HP := Lib.hid (fun W (hW : Below w.heap.size w W) => plus_bits (some ⟨g1, 0, none⟩) (some ⟨g2, 0, none⟩) x y k1 k2 c1 c2 W (hI1.keep hW) (hI2.keep hW) hx.1 hy.1 hk1 hk2)
  have HC := Lib.hid (fun W (hW : Below w.heap.size w W) => compare_any (some ⟨g1, 0, none⟩) (some ⟨g2, 0, none⟩) x y k1 k2 c1 c2 W (hI1.keep hW) (hI2.keep hW) hx.1 hy.1 (by omega) (by omega))
  have hnn : (n == n) = true := by simp
  have A0 := Args.start w (.bool n) (.slice (some ⟨g1, 0, none⟩) k1 c1) (.bool n) (.slice (some ⟨g2, 0, none⟩) k2 c2) (.bool false) (.slice none 0 0) 118 118 118
  clear hI1 hI2 hx hy
  have a0 := A0.a.c0
  have a1 := A0.a.c1
  have b0 := A0.b.c0
  have b1 := A0.b.c1
  go_enter Try.func85, Try.ntmps85
  go_wp2_with fail
  generalize ((w.alloc (.cells #[.bool n, .slice (some ⟨g1, 0, none⟩) k1 c1] 118)).alloc (.cells #[.bool n, .slice (some ⟨g2, 0, none⟩) k2 c2] 118)).alloc (.cells #[.bool false, .slice none 0 0] 118) = W0 at *
  have HA := Lib.hid A0
  clear A0
  go_region_held3 (fun w' => w'.cell? ⟨w.heap.size, 0, none⟩ = some (.bool n) ∧ w'.cell? ⟨w.heap.size, 1, none⟩ = some (.slice (some ⟨g1, 0, none⟩) k1 c1) ∧ w'.cell? ⟨w.heap.size + 1, 1, none⟩ = some (.slice (some ⟨g2, 0, none⟩) k2 c2))
    (first | (have A1 := HA.out.keep ((Below.refl _ _).drew.trans hb5); exact ⟨A1.a.c0, A1.a.c1, A1.b.c1⟩) | (have A1 := HA.out.keep ((Below.refl _ _).drew.trans hb5); exact ⟨((A1.a.far (by omega) _).far (by omega) _).c0, ((A1.a.far (by omega) _).far (by omega) _).c1, ((A1.b.far (by omega) _).far (by omega) _).c1⟩) | go_keep)
    ((go_at_call 101; refine (HP.out _ (by first | exact HA.out.below | exact HA.out.below.drew)).mono ?_; rintro e w1 ⟨v, k, rfl, ⟨g, c, rfl, hc, hg, hI⟩, hT, hb5, hnw⟩; have A1 := HA.out.keep ((Below.refl _ _).drew.trans hb5); have r0 := A1.r.c0; have r1 := A1.r.c1; have q0 := A1.r.f0; have q1 := A1.r.f1; have HI := Lib.hid hI; have HT := Lib.hid hT; clear hI hT))
  have HN := Lib.hid (A1.r.set (.bool n) (.slice (some ⟨g, 0, none⟩) k c))
  have HA1 := Lib.hid A1
  have hgw : W0.heap.size ≤ g := hnw _ _ _ rfl
  have hr := HA.out.r.lt
  have HG := Lib.hid (show w.heap.size + 1 + 1 < g by omega)
  clear r0 r1 q0 q1 A1 hnw hgw hr
  go_wp2_with fail
  have c0 := HN.out.c0
  have c1 := HN.out.c1
  refine bodyPost_ret (v := .agg #[.bool n, .slice (some ⟨g, 0, none⟩) k c]) (by simp [results, Try.results85, go_sem, c0, c1]) rfl ?_
  have hlt := HG.out
  exact ⟨_, k, rfl, ⟨g, c, rfl, hc, by simpa using hg, (HI.out.far (by omega) _).far (by omega) _⟩, HT.out, below_set2 HA1.out.below (by omega) _ _, .mk (by omega)⟩

set_option maxRecDepth 100000 in
set_option maxHeartbeats 2000000 in
theorem rsum_ge (n m : Bool) (x y g1 k1 c1 g2 k2 c2 : Nat) (w : World) (h1 : g1 < w.heap.size) (h2 : g2 < w.heap.size) (hI1 : IsB w (some ⟨g1, 0, none⟩) x k1) (hI2 : IsB w (some ⟨g2, 0, none⟩) y k2) (hx : Tight x k1) (hy : Tight y k2) (hk1 : k1 ≤ 500) (hk2 : k2 ≤ 500) (hnm : (n == m) = false) (hxy : y ≤ x) :
    Calls Try.prog 85 #[.agg #[.bool n, .slice (some ⟨g1, 0, none⟩) k1 c1], .agg #[.bool m, .slice (some ⟨g2, 0, none⟩) k2 c2]] w (RetS n (x - y) w) := by
  have HP := Lib.hid (fun W (hW : Below w.heap.size w W) => minus_bits (some ⟨g1, 0, none⟩) (some ⟨g2, 0, none⟩) x y k1 k2 c1 c2 W (hI1.keep hW) (hI2.keep hW) hx.1 hy.1 hk1 hk2 hxy)
  have HC := Lib.hid (fun W (hW : Below w.heap.size w W) => compare_any (some ⟨g1, 0, none⟩) (some ⟨g2, 0, none⟩) x y k1 k2 c1 c2 W (hI1.keep hW) (hI2.keep hW) hx.1 hy.1 (by omega) (by omega))
  have hcm : 0 ≤ cmpN x y := by unfold cmpN; split <;> (try split) <;> omega
  have A0 := Args.start w (.bool n) (.slice (some ⟨g1, 0, none⟩) k1 c1) (.bool m) (.slice (some ⟨g2, 0, none⟩) k2 c2) (.bool false) (.slice none 0 0) 118 118 118
  clear hI1 hI2 hx hy
  have a0 := A0.a.c0
  have a1 := A0.a.c1
  have b0 := A0.b.c0
  have b1 := A0.b.c1
  go_enter Try.func85, Try.ntmps85
  go_wp2_with fail
  generalize ((w.alloc (.cells #[.bool n, .slice (some ⟨g1, 0, none⟩) k1 c1] 118)).alloc (.cells #[.bool m, .slice (some ⟨g2, 0, none⟩) k2 c2] 118)).alloc (.cells #[.bool false, .slice none 0 0] 118) = W0 at *
  have HA := Lib.hid A0
  clear A0
  refine (HC.out _ HA.out.below).mono ?_
  rintro e w' ⟨rfl, rfl⟩
  generalize cmpN x y = cm at *
  go_wp2_with fail
  go_region_held3 (fun w' => w'.cell? ⟨w.heap.size, 0, none⟩ = some (.bool n) ∧ w'.cell? ⟨w.heap.size, 1, none⟩ = some (.slice (some ⟨g1, 0, none⟩) k1 c1) ∧ w'.cell? ⟨w.heap.size + 1, 1, none⟩ = some (.slice (some ⟨g2, 0, none⟩) k2 c2))
    (first | (have A1 := HA.out.keep ((Below.refl _ _).drew.trans hb5); exact ⟨A1.a.c0, A1.a.c1, A1.b.c1⟩) | (have A1 := HA.out.keep ((Below.refl _ _).drew.trans hb5); exact ⟨((A1.a.far (by omega) _).far (by omega) _).c0, ((A1.a.far (by omega) _).far (by omega) _).c1, ((A1.b.far (by omega) _).far (by omega) _).c1⟩) | go_keep)
    ((go_at_call 103; refine (HP.out _ (by first | exact HA.out.below | exact HA.out.below.drew)).mono ?_; rintro e w1 ⟨v, k, rfl, ⟨g, c, rfl, hc, hg, hI⟩, hT, hb5, hnw⟩; have A1 := HA.out.keep ((Below.refl _ _).drew.trans hb5); have r0 := A1.r.c0; have r1 := A1.r.c1; have q0 := A1.r.f0; have q1 := A1.r.f1; have HI := Lib.hid hI; have HT := Lib.hid hT; clear hI hT))
  have HN := Lib.hid (A1.r.set (.bool n) (.slice (some ⟨g, 0, none⟩) k c))
  have HA1 := Lib.hid A1
  have hgw : W0.heap.size ≤ g := hnw _ _ _ rfl
  have hr := HA.out.r.lt
  have HG := Lib.hid (show w.heap.size + 1 + 1 < g by omega)
  clear r0 r1 q0 q1 A1 hnw hgw hr
  go_wp2_with fail
  have c0 := HN.out.c0
  have c1 := HN.out.c1
  refine bodyPost_ret (v := .agg #[.bool n, .slice (some ⟨g, 0, none⟩) k c]) (by simp [results, Try.results85, go_sem, c0, c1]) rfl ?_
  have hlt := HG.out
  exact ⟨_, k, rfl, ⟨g, c, rfl, hc, by simpa using hg, (HI.out.far (by omega) _).far (by omega) _⟩, HT.out, below_set2 HA1.out.below (by omega) _ _, .mk (by omega)⟩

set_option maxRecDepth 100000 in
set_option maxHeartbeats 2000000 in
theorem rsum_lt (n m : Bool) (x y g1 k1 c1 g2 k2 c2 : Nat) (w : World) (h1 : g1 < w.heap.size) (h2 : g2 < w.heap.size) (hI1 : IsB w (some ⟨g1, 0, none⟩) x k1) (hI2 : IsB w (some ⟨g2, 0, none⟩) y k2) (hx : Tight x k1) (hy : Tight y k2) (hk1 : k1 ≤ 500) (hk2 : k2 ≤ 500) (hnm : (n == m) = false) (hxy : x < y) :
    Calls Try.prog 85 #[.agg #[.bool n, .slice (some ⟨g1, 0, none⟩) k1 c1], .agg #[.bool m, .slice (some ⟨g2, 0, none⟩) k2 c2]] w (RetS m (y - x) w) := by
  have HP := Lib.hid (fun W (hW : Below w.heap.size w W) => minus_bits (some ⟨g2, 0, none⟩) (some ⟨g1, 0, none⟩) y x k2 k1 c2 c1 W (hI2.keep hW) (hI1.keep hW) hy.1 hx.1 hk2 hk1 (by omega))
  have HC := Lib.hid (fun W (hW : Below w.heap.size w W) => compare_any (some ⟨g1, 0, none⟩) (some ⟨g2, 0, none⟩) x y k1 k2 c1 c2 W (hI1.keep hW) (hI2.keep hW) hx.1 hy.1 (by omega) (by omega))
  have hcm : cmpN x y < 0 := by unfold cmpN; rw [if_pos hxy]; decide
  have A0 := Args.start w (.bool n) (.slice (some ⟨g1, 0, none⟩) k1 c1) (.bool m) (.slice (some ⟨g2, 0, none⟩) k2 c2) (.bool false) (.slice none 0 0) 118 118 118
  clear hI1 hI2 hx hy
  have a0 := A0.a.c0
  have a1 := A0.a.c1
  have b0 := A0.b.c0
  have b1 := A0.b.c1
  go_enter Try.func85, Try.ntmps85
  go_wp2_with fail
  generalize ((w.alloc (.cells #[.bool n, .slice (some ⟨g1, 0, none⟩) k1 c1] 118)).alloc (.cells #[.bool m, .slice (some ⟨g2, 0, none⟩) k2 c2] 118)).alloc (.cells #[.bool false, .slice none 0 0] 118) = W0 at *
  have HA := Lib.hid A0
  clear A0
  refine (HC.out _ HA.out.below).mono ?_
  rintro e w' ⟨rfl, rfl⟩
  generalize cmpN x y = cm at *
  go_wp2_with fail
  go_region_held3 (fun w' => w'.cell? ⟨w.heap.size + 1, 0, none⟩ = some (.bool m) ∧ w'.cell? ⟨w.heap.size + 1, 1, none⟩ = some (.slice (some ⟨g2, 0, none⟩) k2 c2) ∧ w'.cell? ⟨w.heap.size, 1, none⟩ = some (.slice (some ⟨g1, 0, none⟩) k1 c1))
    (first | (have A1 := HA.out.keep ((Below.refl _ _).drew.trans hb5); exact ⟨A1.b.c0, A1.b.c1, A1.a.c1⟩) | (have A1 := HA.out.keep ((Below.refl _ _).drew.trans hb5); exact ⟨((A1.b.far (by omega) _).far (by omega) _).c0, ((A1.b.far (by omega) _).far (by omega) _).c1, ((A1.a.far (by omega) _).far (by omega) _).c1⟩) | go_keep)
    ((go_at_call 103; refine (HP.out _ (by first | exact HA.out.below | exact HA.out.below.drew)).mono ?_; rintro e w1 ⟨v, k, rfl, ⟨g, c, rfl, hc, hg, hI⟩, hT, hb5, hnw⟩; have A1 := HA.out.keep ((Below.refl _ _).drew.trans hb5); have r0 := A1.r.c0; have r1 := A1.r.c1; have q0 := A1.r.f0; have q1 := A1.r.f1; have HI := Lib.hid hI; have HT := Lib.hid hT; clear hI hT))
  have HN := Lib.hid (A1.r.set (.bool m) (.slice (some ⟨g, 0, none⟩) k c))
  have HA1 := Lib.hid A1
  have hgw : W0.heap.size ≤ g := hnw _ _ _ rfl
  have hr := HA.out.r.lt
  have HG := Lib.hid (show w.heap.size + 1 + 1 < g by omega)
  clear r0 r1 q0 q1 A1 hnw hgw hr
  go_wp2_with fail
  have c0 := HN.out.c0
  have c1 := HN.out.c1
  refine bodyPost_ret (v := .agg #[.bool m, .slice (some ⟨g, 0, none⟩) k c]) (by simp [results, Try.results85, go_sem, c0, c1]) rfl ?_
  have hlt := HG.out
  exact ⟨_, k, rfl, ⟨g, c, rfl, hc, by simpa using hg, (HI.out.far (by omega) _).far (by omega) _⟩, HT.out, below_set2 HA1.out.below (by omega) _ _, .mk (by omega)⟩

/-- The sign and the size of a sum. -/
def sumN (n m : Bool) (x y : Nat) : Bool := if n == m then n else if y ≤ x then n else m
def sumX (n m : Bool) (x y : Nat) : Nat := if n == m then x + y else if y ≤ x then x - y else y - x
theorem rsum_any (n m : Bool) (x y : Nat) (v u : Value) (k1 k2 : Nat) (w : World) (h1 : HasB w v x k1) (h2 : HasB w u y k2) (hx : Tight x k1) (hy : Tight y k2) (hk1 : k1 ≤ 500) (hk2 : k2 ≤ 500) :
    Calls Try.prog 85 #[.agg #[.bool n, v], .agg #[.bool m, u]] w (RetS (sumN n m x y) (sumX n m x y) w) := by
  obtain ⟨g1, c1, rfl, _, hg1, hI1⟩ := h1
  obtain ⟨g2, c2, rfl, _, hg2, hI2⟩ := h2
  unfold sumN sumX
  cases h : n == m with
  | true =>
    obtain rfl : n = m := by simpa using h
    rw [if_pos rfl, if_pos rfl]
    exact rsum_same n x y g1 k1 c1 g2 k2 c2 w hg1 hg2 hI1 hI2 hx hy hk1 hk2
  | false =>
    simp only [Bool.false_eq_true, if_false]
    by_cases hxy : y ≤ x
    · rw [if_pos hxy, if_pos hxy]
      exact rsum_ge n m x y g1 k1 c1 g2 k2 c2 w hg1 hg2 hI1 hI2 hx hy hk1 hk2 h hxy
    · rw [if_neg hxy, if_neg hxy]
      exact rsum_lt n m x y g1 k1 c1 g2 k2 c2 w hg1 hg2 hI1 hI2 hx hy hk1 hk2 h (by omega)

end Fr
end Go.Proofs.Ytojkaaglmdfcnaa
