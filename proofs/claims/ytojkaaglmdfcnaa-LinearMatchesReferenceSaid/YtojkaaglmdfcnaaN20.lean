/- The reference's corners and ranges; the law's own fractions. -/
import Derived.Test.YtojkaaglmdfcnaaN17
import Derived.Deep.DeepCutAuto
namespace Go.Proofs.Ytojkaaglmdfcnaa
open Go.RowKit Go.Shelf
namespace Fr
set_option linter.unusedVariables false
set_option linter.unusedSimpArgs false


/-- What the two lists of corner are, wherever they lie. -/
def CorCut (w : World) (a2 a3 a4 a5 a6 a7 b0 b1 b2 b3 b4 b5 b6 b7 b8 b9 b10 b11 : Int) (u v : Value) (wx : World) : Prop :=
  ∃ g h : Nat, u = .slice (some ⟨g, 0, none⟩) 3 3 ∧ v = .slice (some ⟨h, 0, none⟩) 3 3 ∧ BoxL wx g #[.int .i64 a2, .int .i64 a3, .int .i64 a4, .int .i64 a5, .int .i64 a6, .int .i64 a7] ∧ BoxL wx h #[.int .i64 b0, .int .i64 b1, .int .i64 b2, .int .i64 b3, .int .i64 b4, .int .i64 b5, .int .i64 b6, .int .i64 b7, .int .i64 b8, .int .i64 b9, .int .i64 b10, .int .i64 b11] ∧ BoxL wx (w.heap.size + 1 + 1) #[.int .i64 0, .int .i64 0, .int .i64 0, .int .i64 0, .int .i64 0, .int .i64 0] ∧ Below w.heap.size w wx ∧ w.heap.size + 1 + 1 < g ∧ w.heap.size + 1 + 1 < h ∧ g ≠ h
theorem CorCut.mk1 {w W0 : World} {a2 a3 a4 a5 a6 a7 b0 b1 b2 b3 b4 b5 b6 b7 b8 b9 b10 b11 : Int} (B : Below w.heap.size w W0) (m : BoxL W0 (w.heap.size + 1 + 1) #[.int .i64 0, .int .i64 0, .int .i64 0, .int .i64 0, .int .i64 0, .int .i64 0]) (h1 : w.heap.size + 1 + 1 < W0.heap.size) (T U : TypeId) :
    CorCut w a2 a3 a4 a5 a6 a7 b0 b1 b2 b3 b4 b5 b6 b7 b8 b9 b10 b11 (.slice (some ⟨W0.heap.size, 0, none⟩) 3 3) (.slice (some ⟨W0.heap.size + 1, 0, none⟩) 3 3) ((W0.alloc (.cells #[.int .i64 a2, .int .i64 a3, .int .i64 a4, .int .i64 a5, .int .i64 a6, .int .i64 a7] T)).alloc (.cells #[.int .i64 b0, .int .i64 b1, .int .i64 b2, .int .i64 b3, .int .i64 b4, .int .i64 b5, .int .i64 b6, .int .i64 b7, .int .i64 b8, .int .i64 b9, .int .i64 b10, .int .i64 b11] U)).drew := by
  obtain ⟨n0, n1, hb⟩ := start2 W0 (#[.int .i64 a2, .int .i64 a3, .int .i64 a4, .int .i64 a5, .int .i64 a6, .int .i64 a7]) (#[.int .i64 b0, .int .i64 b1, .int .i64 b2, .int .i64 b3, .int .i64 b4, .int .i64 b5, .int .i64 b6, .int .i64 b7, .int .i64 b8, .int .i64 b9, .int .i64 b10, .int .i64 b11]) T U
  have hd := (Below.refl ((W0.alloc (.cells #[.int .i64 a2, .int .i64 a3, .int .i64 a4, .int .i64 a5, .int .i64 a6, .int .i64 a7] T)).alloc (.cells #[.int .i64 b0, .int .i64 b1, .int .i64 b2, .int .i64 b3, .int .i64 b4, .int .i64 b5, .int .i64 b6, .int .i64 b7, .int .i64 b8, .int .i64 b9, .int .i64 b10, .int .i64 b11] U)).heap.size ((W0.alloc (.cells #[.int .i64 a2, .int .i64 a3, .int .i64 a4, .int .i64 a5, .int .i64 a6, .int .i64 a7] T)).alloc (.cells #[.int .i64 b0, .int .i64 b1, .int .i64 b2, .int .i64 b3, .int .i64 b4, .int .i64 b5, .int .i64 b6, .int .i64 b7, .int .i64 b8, .int .i64 b9, .int .i64 b10, .int .i64 b11] U))).drew
  exact ⟨_, _, rfl, rfl, n0.keep hd, n1.keep hd, (m.keep hb).keep hd, (B.trans (hb.mono B.size)).drew, h1, by omega, by omega⟩
theorem CorCut.mk2 {w W0 : World} {a2 a3 a4 a5 a6 a7 b0 b1 b2 b3 b4 b5 b6 b7 b8 b9 b10 b11 : Int} (B : Below w.heap.size w W0) (m : BoxL W0 (w.heap.size + 1 + 1) #[.int .i64 0, .int .i64 0, .int .i64 0, .int .i64 0, .int .i64 0, .int .i64 0]) (h1 : w.heap.size + 1 + 1 < W0.heap.size) (T U : TypeId) :
    CorCut w a2 a3 a4 a5 a6 a7 b0 b1 b2 b3 b4 b5 b6 b7 b8 b9 b10 b11 (.slice (some ⟨W0.heap.size + 1, 0, none⟩) 3 3) (.slice (some ⟨W0.heap.size, 0, none⟩) 3 3) ((W0.alloc (.cells #[.int .i64 b0, .int .i64 b1, .int .i64 b2, .int .i64 b3, .int .i64 b4, .int .i64 b5, .int .i64 b6, .int .i64 b7, .int .i64 b8, .int .i64 b9, .int .i64 b10, .int .i64 b11] U)).alloc (.cells #[.int .i64 a2, .int .i64 a3, .int .i64 a4, .int .i64 a5, .int .i64 a6, .int .i64 a7] T)).drew := by
  obtain ⟨n0, n1, hb⟩ := start2 W0 (#[.int .i64 b0, .int .i64 b1, .int .i64 b2, .int .i64 b3, .int .i64 b4, .int .i64 b5, .int .i64 b6, .int .i64 b7, .int .i64 b8, .int .i64 b9, .int .i64 b10, .int .i64 b11]) (#[.int .i64 a2, .int .i64 a3, .int .i64 a4, .int .i64 a5, .int .i64 a6, .int .i64 a7]) U T
  have hd := (Below.refl ((W0.alloc (.cells #[.int .i64 b0, .int .i64 b1, .int .i64 b2, .int .i64 b3, .int .i64 b4, .int .i64 b5, .int .i64 b6, .int .i64 b7, .int .i64 b8, .int .i64 b9, .int .i64 b10, .int .i64 b11] U)).alloc (.cells #[.int .i64 a2, .int .i64 a3, .int .i64 a4, .int .i64 a5, .int .i64 a6, .int .i64 a7] T)).heap.size ((W0.alloc (.cells #[.int .i64 b0, .int .i64 b1, .int .i64 b2, .int .i64 b3, .int .i64 b4, .int .i64 b5, .int .i64 b6, .int .i64 b7, .int .i64 b8, .int .i64 b9, .int .i64 b10, .int .i64 b11] U)).alloc (.cells #[.int .i64 a2, .int .i64 a3, .int .i64 a4, .int .i64 a5, .int .i64 a6, .int .i64 a7] T))).drew
  exact ⟨_, _, rfl, rfl, n1.keep hd, n0.keep hd, (m.keep hb).keep hd, (B.trans (hb.mono B.size)).drew, by omega, h1, by omega⟩

/-- What holds at the head of the loop of corner. -/
def CornerAt (w : World) (c i ob : Nat) (a2 a3 a4 a5 a6 a7 b0 b1 b2 b3 b4 b5 b6 b7 b8 b9 b10 b11 : Int) (vals : Nat → Array Value) (u : Value) (wr : World) : Prop :=
  ∃ k : Nat, u = .int .i64 k ∧ k ≤ 3 ∧ BoxL wr c #[.int .i64 a2, .int .i64 a3, .int .i64 a4, .int .i64 a5, .int .i64 a6, .int .i64 a7] ∧ BoxL wr i #[.int .i64 b0, .int .i64 b1, .int .i64 b2, .int .i64 b3, .int .i64 b4, .int .i64 b5, .int .i64 b6, .int .i64 b7, .int .i64 b8, .int .i64 b9, .int .i64 b10, .int .i64 b11] ∧ BoxL wr (w.heap.size + 1 + 1) #[.int .i64 0, .int .i64 0, .int .i64 0, .int .i64 0, .int .i64 0, .int .i64 0] ∧ BoxL wr ob (vals k) ∧ Below w.heap.size w wr ∧ w.heap.size + 1 + 1 < c ∧ w.heap.size + 1 + 1 < i ∧ c < ob ∧ i < ob
def corC (p0 p1 p2 p3 p4 p5 : Int) : Nat → Array Value
  | 0 => #[.int .i64 0, .int .i64 0, .int .i64 0, .int .i64 0, .int .i64 0, .int .i64 0]
  | 1 => #[.int .i64 p0, .int .i64 p1, .int .i64 0, .int .i64 0, .int .i64 0, .int .i64 0]
  | 2 => #[.int .i64 p0, .int .i64 p1, .int .i64 p2, .int .i64 p3, .int .i64 0, .int .i64 0]
  | _ => #[.int .i64 p0, .int .i64 p1, .int .i64 p2, .int .i64 p3, .int .i64 p4, .int .i64 p5]

set_option maxRecDepth 100000 in
set_option maxHeartbeats 2000000 in
theorem rcorner_ {l : LQ} {b : BQ} {a0 a1 a2 a3 a4 a5 a6 a7 b0 b1 b2 b3 b4 b5 b6 b7 b8 b9 b10 b11 p0 p1 p2 p3 p4 p5 : Int} (hl : IsL l a0 a1 a2 a3 a4 a5 a6 a7) (hb : IsBx b b0 b1 b2 b3 b4 b5 b6 b7 b8 b9 b10 b11) (g : Bool) (hr : IsP (l.corner b g) p0 p1 p2 p3 p4 p5) : Does 63 #[.agg #[.int .i64 a0, .int .i64 a1, .int .i64 a2, .int .i64 a3, .int .i64 a4, .int .i64 a5, .int .i64 a6, .int .i64 a7], .agg #[.int .i64 b0, .int .i64 b1, .int .i64 b2, .int .i64 b3, .int .i64 b4, .int .i64 b5, .int .i64 b6, .int .i64 b7, .int .i64 b8, .int .i64 b9, .int .i64 b10, .int .i64 b11], .bool g] (.agg #[.int .i64 p0, .int .i64 p1, .int .i64 p2, .int .i64 p3, .int .i64 p4, .int .i64 p5]) := by
  intro w
  have hc0 : (decide (a2 < 0) = g ∧ p0 = b0 ∧ p1 = b1) ∨ (decide (a2 < 0) = !g ∧ p0 = b2 ∧ p1 = b3) := by
    have hn := isF_neg0 hl.t
    have h := hr.x
    simp only [LQ.corner, cq] at h
    rw [hn]
    by_cases hd : decide (l.t < 0) = g
    · rw [if_pos (by rw [hd]; simp)] at h; exact .inl ⟨hd, isF_same h hb.t.lo⟩
    · rw [if_neg (by simpa using hd)] at h; exact .inr ⟨by revert hd; cases g <;> cases decide (l.t < 0) <;> simp, isF_same h hb.t.hi⟩
  have HC0 := Lib.hid hc0
  have hc1 : (decide (a4 < 0) = g ∧ p2 = b4 ∧ p3 = b5) ∨ (decide (a4 < 0) = !g ∧ p2 = b6 ∧ p3 = b7) := by
    have hn := isF_neg0 hl.v
    have h := hr.y
    simp only [LQ.corner, cq] at h
    rw [hn]
    by_cases hd : decide (l.v < 0) = g
    · rw [if_pos (by rw [hd]; simp)] at h; exact .inl ⟨hd, isF_same h hb.v.lo⟩
    · rw [if_neg (by simpa using hd)] at h; exact .inr ⟨by revert hd; cases g <;> cases decide (l.v < 0) <;> simp, isF_same h hb.v.hi⟩
  have HC1 := Lib.hid hc1
  have hc2 : (decide (a6 < 0) = g ∧ p4 = b8 ∧ p5 = b9) ∨ (decide (a6 < 0) = !g ∧ p4 = b10 ∧ p5 = b11) := by
    have hn := isF_neg0 hl.a
    have h := hr.z
    simp only [LQ.corner, cq] at h
    rw [hn]
    by_cases hd : decide (l.a < 0) = g
    · rw [if_pos (by rw [hd]; simp)] at h; exact .inl ⟨hd, isF_same h hb.a.lo⟩
    · rw [if_neg (by simpa using hd)] at h; exact .inr ⟨by revert hd; cases g <;> cases decide (l.a < 0) <;> simp, isF_same h hb.a.hi⟩
  have HC2 := Lib.hid hc2
  clear hl hb hr hc0 hc1 hc2
  go_enter Try.func63, Try.ntmps63
  go_upto_region 1 with fail
  have hst := start3 w (#[.int .i64 a0, .int .i64 a1, .int .i64 a2, .int .i64 a3, .int .i64 a4, .int .i64 a5, .int .i64 a6, .int .i64 a7]) (#[.int .i64 b0, .int .i64 b1, .int .i64 b2, .int .i64 b3, .int .i64 b4, .int .i64 b5, .int .i64 b6, .int .i64 b7, .int .i64 b8, .int .i64 b9, .int .i64 b10, .int .i64 b11]) (#[.int .i64 0, .int .i64 0, .int .i64 0, .int .i64 0, .int .i64 0, .int .i64 0]) 25 29 31
  generalize (((w.alloc (.cells #[.int .i64 a0, .int .i64 a1, .int .i64 a2, .int .i64 a3, .int .i64 a4, .int .i64 a5, .int .i64 a6, .int .i64 a7] 25)).alloc (.cells #[.int .i64 b0, .int .i64 b1, .int .i64 b2, .int .i64 b3, .int .i64 b4, .int .i64 b5, .int .i64 b6, .int .i64 b7, .int .i64 b8, .int .i64 b9, .int .i64 b10, .int .i64 b11] 29)).alloc (.cells #[.int .i64 0, .int .i64 0, .int .i64 0, .int .i64 0, .int .i64 0, .int .i64 0] 31)) = Wx5 at *
  obtain ⟨mx1, mx2, mx3, Bx4⟩ := hst
  have ltx6 := mx1.lt
  have ltx7 := mx2.lt
  have ltx8 := mx3.lt
  obtain ⟨c_l0, c_l1, c_l2, c_l3, c_l4, c_l5, c_l6, c_l7⟩ := mx1.c8
  obtain ⟨c_b0, c_b1, c_b2, c_b3, c_b4, c_b5, c_b6, c_b7, c_b8, c_b9, c_b10, c_b11⟩ := mx2.c12
  go_cut [7, 8] (fun u v wx => CorCut w a2 a3 a4 a5 a6 a7 b0 b1 b2 b3 b4 b5 b6 b7 b8 b9 b10 b11 u v wx)
  case first =>
    go_region
    all_goals
      go_wp2_with fail
      go_meet
      first | exact CorCut.mk1 Bx4 mx3 ltx8 _ _ | exact CorCut.mk2 Bx4 mx3 ltx8 _ _
  case rest =>
    obtain ⟨x, y, rfl, rfl, mx, my, mr, B1, h1, h2, h3⟩ := hcut
    clear c_l0 c_l1 c_l2 c_l3 c_l4 c_l5 c_l6 c_l7
    clear c_b0 c_b1 c_b2 c_b3 c_b4 c_b5 c_b6 c_b7 c_b8 c_b9 c_b10 c_b11
    clear mx1 mx2 mx3 Bx4
    have ltx9 := mx.lt
    have ltx10 := my.lt
    have ltx11 := mr.lt
    go_upto_region 3 with fail
    have mx12 := BoxL.new wc #[.int .i64 0, .int .i64 0, .int .i64 0, .int .i64 0, .int .i64 0, .int .i64 0] 31
    have hbx13 := (Below.refl wc.heap.size wc).alloc (Nat.le_refl _) (.cells #[.int .i64 0, .int .i64 0, .int .i64 0, .int .i64 0, .int .i64 0, .int .i64 0] 31)
    have ltx15 := mx.lt
    have ltx16 := my.lt
    have ltx17 := mr.lt
    have mx18 := mx.keep hbx13
    have mx19 := my.keep hbx13
    have mx20 := mr.keep hbx13
    have Bx21 := B1.trans (hbx13.mono B1.size)
    have szx22 := hbx13.size
    clear mx my mr B1 hbx13
    generalize wc.alloc (.cells #[.int .i64 0, .int .i64 0, .int .i64 0, .int .i64 0, .int .i64 0, .int .i64 0] 31) = Wx14 at *
    have ltx23 := mx12.lt
    go_upto_region 4 with fail
    have HS : Hid (CornerAt w x y (wc.heap.size) a2 a3 a4 a5 a6 a7 b0 b1 b2 b3 b4 b5 b6 b7 b8 b9 b10 b11 (corC p0 p1 p2 p3 p4 p5) (.int .i64 0) Wx14) := Lib.hid ⟨0, rfl, by omega, mx18, mx19, mx20, mx12, Bx21, by omega, by omega, by omega, by omega⟩
    clear mx18 mx19 mx20 mx12 Bx21
    go_loopw [10] (fun i wr => CornerAt w x y (wc.heap.size) a2 a3 a4 a5 a6 a7 b0 b1 b2 b3 b4 b5 b6 b7 b8 b9 b10 b11 (corC p0 p1 p2 p3 p4 p5) i wr) (fun i _ => 3 - (intOf i).toNat)
    case atStart => exact HS.out
    case round =>
      obtain ⟨k, rfl, hk, m0, m1, m2, m3, B0, e0, e1, e2, e3⟩ := hrel
      clear HS
      obtain rfl | rfl | rfl | rfl : k = 0 ∨ k = 1 ∨ k = 2 ∨ k = 3 := by omega
      · have m4 : BoxL wr (wc.heap.size) #[.int .i64 0, .int .i64 0, .int .i64 0, .int .i64 0, .int .i64 0, .int .i64 0] := m3
        clear m3
        have ltx24 := m0.lt
        have ltx25 := m1.lt
        have ltx26 := m2.lt
        have ltx27 := m4.lt
        rcases HC0.out with ⟨hd, rfl, rfl⟩ | ⟨hd, rfl, rfl⟩
        · have hx : (decide (a2 < 0) == g) = true := by rw [hd]; simp
          obtain ⟨c_c0, c_c1, c_c2, c_c3, c_c4, c_c5⟩ := m0.c6
          obtain ⟨c_i0, c_i1, c_i2, c_i3, c_i4, c_i5, c_i6, c_i7, c_i8, c_i9, c_i10, c_i11⟩ := m1.c12
          obtain ⟨c_o0, c_o1, c_o2, c_o3, c_o4, c_o5⟩ := m4.c6
          obtain ⟨fo0, fo1, fo2, fo3, fo4, fo5⟩ := m4.f6
          clear hd
          go_wp2_with fail
          go_roundw
          case rel =>
            exact ⟨1, rfl, by omega, m0.setFar (b := (wc.heap.size)) (by omega) [.int .i64 p0, .int .i64 p1] 0, m1.setFar (b := (wc.heap.size)) (by omega) [.int .i64 p0, .int .i64 p1] 0, m2.setFar (b := (wc.heap.size)) (by omega) [.int .i64 p0, .int .i64 p1] 0, m4.setPart [.int .i64 p0, .int .i64 p1] 0 (by simp), below_setAll (b := (wc.heap.size)) (by omega) [.int .i64 p0, .int .i64 p1] _ 0 B0, e0, e1, e2, e3⟩
          case measure => simp [intOf]
        · have hx : (decide (a2 < 0) == g) = false := by rw [hd]; simp
          obtain ⟨c_c0, c_c1, c_c2, c_c3, c_c4, c_c5⟩ := m0.c6
          obtain ⟨c_i0, c_i1, c_i2, c_i3, c_i4, c_i5, c_i6, c_i7, c_i8, c_i9, c_i10, c_i11⟩ := m1.c12
          obtain ⟨c_o0, c_o1, c_o2, c_o3, c_o4, c_o5⟩ := m4.c6
          obtain ⟨fo0, fo1, fo2, fo3, fo4, fo5⟩ := m4.f6
          clear hd
          go_wp2_with fail
          go_roundw
          case rel =>
            exact ⟨1, rfl, by omega, m0.setFar (b := (wc.heap.size)) (by omega) [.int .i64 p0, .int .i64 p1] 0, m1.setFar (b := (wc.heap.size)) (by omega) [.int .i64 p0, .int .i64 p1] 0, m2.setFar (b := (wc.heap.size)) (by omega) [.int .i64 p0, .int .i64 p1] 0, m4.setPart [.int .i64 p0, .int .i64 p1] 0 (by simp), below_setAll (b := (wc.heap.size)) (by omega) [.int .i64 p0, .int .i64 p1] _ 0 B0, e0, e1, e2, e3⟩
          case measure => simp [intOf]
      · have m4 : BoxL wr (wc.heap.size) #[.int .i64 p0, .int .i64 p1, .int .i64 0, .int .i64 0, .int .i64 0, .int .i64 0] := m3
        clear m3
        have ltx28 := m0.lt
        have ltx29 := m1.lt
        have ltx30 := m2.lt
        have ltx31 := m4.lt
        rcases HC1.out with ⟨hd, rfl, rfl⟩ | ⟨hd, rfl, rfl⟩
        · have hx : (decide (a4 < 0) == g) = true := by rw [hd]; simp
          obtain ⟨c_c0, c_c1, c_c2, c_c3, c_c4, c_c5⟩ := m0.c6
          obtain ⟨c_i0, c_i1, c_i2, c_i3, c_i4, c_i5, c_i6, c_i7, c_i8, c_i9, c_i10, c_i11⟩ := m1.c12
          obtain ⟨c_o0, c_o1, c_o2, c_o3, c_o4, c_o5⟩ := m4.c6
          obtain ⟨fo0, fo1, fo2, fo3, fo4, fo5⟩ := m4.f6
          clear hd
          go_wp2_with fail
          go_roundw
          case rel =>
            exact ⟨2, rfl, by omega, m0.setFar (b := (wc.heap.size)) (by omega) [.int .i64 p2, .int .i64 p3] 2, m1.setFar (b := (wc.heap.size)) (by omega) [.int .i64 p2, .int .i64 p3] 2, m2.setFar (b := (wc.heap.size)) (by omega) [.int .i64 p2, .int .i64 p3] 2, m4.setPart [.int .i64 p2, .int .i64 p3] 2 (by simp), below_setAll (b := (wc.heap.size)) (by omega) [.int .i64 p2, .int .i64 p3] _ 2 B0, e0, e1, e2, e3⟩
          case measure => simp [intOf]
        · have hx : (decide (a4 < 0) == g) = false := by rw [hd]; simp
          obtain ⟨c_c0, c_c1, c_c2, c_c3, c_c4, c_c5⟩ := m0.c6
          obtain ⟨c_i0, c_i1, c_i2, c_i3, c_i4, c_i5, c_i6, c_i7, c_i8, c_i9, c_i10, c_i11⟩ := m1.c12
          obtain ⟨c_o0, c_o1, c_o2, c_o3, c_o4, c_o5⟩ := m4.c6
          obtain ⟨fo0, fo1, fo2, fo3, fo4, fo5⟩ := m4.f6
          clear hd
          go_wp2_with fail
          go_roundw
          case rel =>
            exact ⟨2, rfl, by omega, m0.setFar (b := (wc.heap.size)) (by omega) [.int .i64 p2, .int .i64 p3] 2, m1.setFar (b := (wc.heap.size)) (by omega) [.int .i64 p2, .int .i64 p3] 2, m2.setFar (b := (wc.heap.size)) (by omega) [.int .i64 p2, .int .i64 p3] 2, m4.setPart [.int .i64 p2, .int .i64 p3] 2 (by simp), below_setAll (b := (wc.heap.size)) (by omega) [.int .i64 p2, .int .i64 p3] _ 2 B0, e0, e1, e2, e3⟩
          case measure => simp [intOf]
      · have m4 : BoxL wr (wc.heap.size) #[.int .i64 p0, .int .i64 p1, .int .i64 p2, .int .i64 p3, .int .i64 0, .int .i64 0] := m3
        clear m3
        have ltx32 := m0.lt
        have ltx33 := m1.lt
        have ltx34 := m2.lt
        have ltx35 := m4.lt
        rcases HC2.out with ⟨hd, rfl, rfl⟩ | ⟨hd, rfl, rfl⟩
        · have hx : (decide (a6 < 0) == g) = true := by rw [hd]; simp
          obtain ⟨c_c0, c_c1, c_c2, c_c3, c_c4, c_c5⟩ := m0.c6
          obtain ⟨c_i0, c_i1, c_i2, c_i3, c_i4, c_i5, c_i6, c_i7, c_i8, c_i9, c_i10, c_i11⟩ := m1.c12
          obtain ⟨c_o0, c_o1, c_o2, c_o3, c_o4, c_o5⟩ := m4.c6
          obtain ⟨fo0, fo1, fo2, fo3, fo4, fo5⟩ := m4.f6
          clear hd
          go_wp2_with fail
          go_roundw
          case rel =>
            exact ⟨3, rfl, by omega, m0.setFar (b := (wc.heap.size)) (by omega) [.int .i64 p4, .int .i64 p5] 4, m1.setFar (b := (wc.heap.size)) (by omega) [.int .i64 p4, .int .i64 p5] 4, m2.setFar (b := (wc.heap.size)) (by omega) [.int .i64 p4, .int .i64 p5] 4, m4.setPart [.int .i64 p4, .int .i64 p5] 4 (by simp), below_setAll (b := (wc.heap.size)) (by omega) [.int .i64 p4, .int .i64 p5] _ 4 B0, e0, e1, e2, e3⟩
          case measure => simp [intOf]
        · have hx : (decide (a6 < 0) == g) = false := by rw [hd]; simp
          obtain ⟨c_c0, c_c1, c_c2, c_c3, c_c4, c_c5⟩ := m0.c6
          obtain ⟨c_i0, c_i1, c_i2, c_i3, c_i4, c_i5, c_i6, c_i7, c_i8, c_i9, c_i10, c_i11⟩ := m1.c12
          obtain ⟨c_o0, c_o1, c_o2, c_o3, c_o4, c_o5⟩ := m4.c6
          obtain ⟨fo0, fo1, fo2, fo3, fo4, fo5⟩ := m4.f6
          clear hd
          go_wp2_with fail
          go_roundw
          case rel =>
            exact ⟨3, rfl, by omega, m0.setFar (b := (wc.heap.size)) (by omega) [.int .i64 p4, .int .i64 p5] 4, m1.setFar (b := (wc.heap.size)) (by omega) [.int .i64 p4, .int .i64 p5] 4, m2.setFar (b := (wc.heap.size)) (by omega) [.int .i64 p4, .int .i64 p5] 4, m4.setPart [.int .i64 p4, .int .i64 p5] 4 (by simp), below_setAll (b := (wc.heap.size)) (by omega) [.int .i64 p4, .int .i64 p5] _ 4 B0, e0, e1, e2, e3⟩
          case measure => simp [intOf]
      · have m4 : BoxL wr (wc.heap.size) #[.int .i64 p0, .int .i64 p1, .int .i64 p2, .int .i64 p3, .int .i64 p4, .int .i64 p5] := m3
        clear m3
        have ltx36 := m0.lt
        have ltx37 := m1.lt
        have ltx38 := m2.lt
        have ltx39 := m4.lt
        obtain ⟨c_o0, c_o1, c_o2, c_o3, c_o4, c_o5⟩ := m4.c6
        obtain ⟨c_r0, c_r1, c_r2, c_r3, c_r4, c_r5⟩ := m2.c6
        obtain ⟨f_r0, f_r1, f_r2, f_r3, f_r4, f_r5⟩ := m2.f6
        go_wp2_with fail
        have hRx40 := m2.s6 (.int .i64 p0) (.int .i64 p1) (.int .i64 p2) (.int .i64 p3) (.int .i64 p4) (.int .i64 p5)
        obtain ⟨s0, s1, s2, s3, s4, s5⟩ := hRx40.c6
        exact bodyPost_ret (v := .agg #[.int .i64 p0, .int .i64 p1, .int .i64 p2, .int .i64 p3, .int .i64 p4, .int .i64 p5]) (by simp [results, Try.results63, go_sem, s0, s1, s2, s3, s4, s5]) rfl ⟨rfl, below_s6 B0 (by omega) _ _ _ _ _ _⟩

set_option maxRecDepth 100000 in
set_option maxHeartbeats 2000000 in
theorem rrange_ {l : LQ} {b : BQ} {a0 a1 a2 a3 a4 a5 a6 a7 b0 b1 b2 b3 b4 b5 b6 b7 b8 b9 b10 b11 r0 r1 r2 r3 e : Int} (hl : IsL l a0 a1 a2 a3 a4 a5 a6 a7) (hb : IsBx b b0 b1 b2 b3 b4 b5 b6 b7 b8 b9 b10 b11) (hr : ResI (l.range b) r0 r1 r2 r3 e) : Does 25 #[.agg #[.int .i64 a0, .int .i64 a1, .int .i64 a2, .int .i64 a3, .int .i64 a4, .int .i64 a5, .int .i64 a6, .int .i64 a7], .agg #[.int .i64 b0, .int .i64 b1, .int .i64 b2, .int .i64 b3, .int .i64 b4, .int .i64 b5, .int .i64 b6, .int .i64 b7, .int .i64 b8, .int .i64 b9, .int .i64 b10, .int .i64 b11]] (.agg #[.int .i64 r0, .int .i64 r1, .int .i64 r2, .int .i64 r3, .int .i64 e]) := by
  intro w
  obtain ⟨p0, p1, p2, p3, p4, p5, hp⟩ := corner_isP (l := l) (g := false) hb
  have Cx := Lib.hid (rcorner_ hl hb false hp)
  obtain ⟨x0, x1, xe, hxx, hyx⟩ := resF_ways (l.at (l.corner b false)) (fun r h => at_fit hl.k.fit h)
  have Ax := Lib.hid (rat_ hl hp hxx)
  obtain ⟨q0, q1, q2, q3, q4, q5, hq⟩ := corner_isP (l := l) (g := true) hb
  have Cy := Lib.hid (rcorner_ hl hb true hq)
  obtain ⟨y0, y1, ye, hxy, hyy⟩ := resF_ways (l.at (l.corner b true)) (fun r h => at_fit hl.k.fit h)
  have Ay := Lib.hid (rat_ hl hq hxy)
  have HW := Lib.hid (show ResI ((l.at (l.corner b false)).bind fun x => (l.at (l.corner b true)).bind fun y => some ⟨x, y⟩) r0 r1 r2 r3 e from hr)
  have HX := Lib.hid hyx
  have HY := Lib.hid hyy
  clear hl hb hr hp hq hxx hxy hyx hyy
  generalize l.at (l.corner b false) = ox at *
  generalize l.at (l.corner b true) = oy at *
  go_enter Try.func25, Try.ntmps25
  go_upto_region 1 with fail
  have hst := start3 w (#[.int .i64 a0, .int .i64 a1, .int .i64 a2, .int .i64 a3, .int .i64 a4, .int .i64 a5, .int .i64 a6, .int .i64 a7]) (#[.int .i64 b0, .int .i64 b1, .int .i64 b2, .int .i64 b3, .int .i64 b4, .int .i64 b5, .int .i64 b6, .int .i64 b7, .int .i64 b8, .int .i64 b9, .int .i64 b10, .int .i64 b11]) (#[.int .i64 0, .int .i64 0, .int .i64 0, .int .i64 0, .int .i64 0]) 25 29 54
  generalize (((w.alloc (.cells #[.int .i64 a0, .int .i64 a1, .int .i64 a2, .int .i64 a3, .int .i64 a4, .int .i64 a5, .int .i64 a6, .int .i64 a7] 25)).alloc (.cells #[.int .i64 b0, .int .i64 b1, .int .i64 b2, .int .i64 b3, .int .i64 b4, .int .i64 b5, .int .i64 b6, .int .i64 b7, .int .i64 b8, .int .i64 b9, .int .i64 b10, .int .i64 b11] 29)).alloc (.cells #[.int .i64 0, .int .i64 0, .int .i64 0, .int .i64 0, .int .i64 0] 54)) = Wx5 at *
  obtain ⟨mx1, mx2, mx3, Bx4⟩ := hst
  have ltx6 := mx1.lt
  have ltx7 := mx2.lt
  have ltx8 := mx3.lt
  have ltx9 := mx1.lt
  have ltx10 := mx2.lt
  have ltx11 := mx3.lt
  refine wp_region_free2 (agf := ?frx12) 12 10 11 zrR zrR (by kernel_rfl) [] (by kernel_rfl) (fun d _ _ _ _ h => by cases d <;> exact h) (by decide) (by rfl) (by rfl) (by rfl) (by rfl) ?frx121 ?frx122
  case frx121 =>
    intro W hW
    obtain ⟨c_l0, c_l1, c_l2, c_l3, c_l4, c_l5, c_l6, c_l7⟩ := mx1.l8 hW
    obtain ⟨c_b0, c_b1, c_b2, c_b3, c_b4, c_b5, c_b6, c_b7, c_b8, c_b9, c_b10, c_b11⟩ := mx2.l12 hW
    simp only [List.take_succ_cons, List.take_zero, ghostL, List.contains_cons, List.contains_nil, Nat.reduceAdd, Nat.reduceBEq, Bool.or_false, Bool.or_true, Bool.true_or, Bool.false_or, Bool.false_eq_true, if_false, if_true, ghostO]
    repeat (go_big_quiet_step (((first | (go_at_call 63; first | with_reducible exact later_of ((Cx.out.at _)) | with_reducible exact later_of ((Cy.out.at _))) | (go_at_call 23; first | with_reducible exact later_of ((Ax.out.at _)) | with_reducible exact later_of ((Ay.out.at _)))))))
    refine wpQuiet_nil ?_
    rfl
  case frx122 =>
    intro bx15 bx16 Wx13 hbx14 mx17 mx18 gx19 gx20 nex21
    simp only [List.drop_succ_cons, List.drop_zero, Act.put, List.setIfInBounds_toArray, List.set_cons_succ, List.set_cons_zero]
    have mx22 := mx1.keep hbx14
    have mx23 := mx2.keep hbx14
    have mx24 := mx3.keep hbx14
    have Bx25 := Bx4.trans (hbx14.mono Bx4.size)
    have szx26 := hbx14.size
    clear mx1 mx2 mx3 Bx4 hbx14
    have ltx27 := mx17.lt
    have ltx28 := mx18.lt
    obtain ⟨c_lo0, c_lo1, c_lo2⟩ := mx17.c3
    obtain ⟨f_lo0, f_lo1, f_lo2⟩ := mx17.f3
    obtain ⟨c_hi0, c_hi1, c_hi2⟩ := mx18.c3
    obtain ⟨f_hi0, f_hi1, f_hi2⟩ := mx18.f3
    go_upto_region 2 with fail
    clear c_lo0 c_lo1 c_lo2 f_lo0 f_lo1 f_lo2
    clear c_hi0 c_hi1 c_hi2 f_hi0 f_hi1 f_hi2
    have mx30 := mx17.s3 (.int .i64 x0) (.int .i64 x1) (.int .i64 xe)
    have mx31 := mx22.z3 (b := bx15) (by omega) (.int .i64 x0) (.int .i64 x1) (.int .i64 xe)
    have mx32 := mx23.z3 (b := bx15) (by omega) (.int .i64 x0) (.int .i64 x1) (.int .i64 xe)
    have mx33 := mx24.z3 (b := bx15) (by omega) (.int .i64 x0) (.int .i64 x1) (.int .i64 xe)
    have mx34 := mx18.z3 (b := bx15) (by omega) (.int .i64 x0) (.int .i64 x1) (.int .i64 xe)
    have Bx35 := below_s3 (b := bx15) Bx25 (by omega) (.int .i64 x0) (.int .i64 x1) (.int .i64 xe)
    have ltx36 := mx30.lt
    generalize (((Wx13.setCell ⟨bx15, 0, none⟩ (.int .i64 x0)).setCell ⟨bx15, 1, none⟩ (.int .i64 x1)).setCell ⟨bx15, 2, none⟩ (.int .i64 xe)) = Wx29 at *
    clear mx17 mx22 mx23 mx24 mx18 Bx25
    have mx38 := mx34.s3 (.int .i64 y0) (.int .i64 y1) (.int .i64 ye)
    have mx39 := mx31.z3 (b := bx16) (by omega) (.int .i64 y0) (.int .i64 y1) (.int .i64 ye)
    have mx40 := mx32.z3 (b := bx16) (by omega) (.int .i64 y0) (.int .i64 y1) (.int .i64 ye)
    have mx41 := mx33.z3 (b := bx16) (by omega) (.int .i64 y0) (.int .i64 y1) (.int .i64 ye)
    have mx42 := mx30.z3 (b := bx16) (by omega) (.int .i64 y0) (.int .i64 y1) (.int .i64 ye)
    have Bx43 := below_s3 (b := bx16) Bx35 (by omega) (.int .i64 y0) (.int .i64 y1) (.int .i64 ye)
    have ltx44 := mx38.lt
    generalize (((Wx29.setCell ⟨bx16, 0, none⟩ (.int .i64 y0)).setCell ⟨bx16, 1, none⟩ (.int .i64 y1)).setCell ⟨bx16, 2, none⟩ (.int .i64 ye)) = Wx37 at *
    clear mx34 mx31 mx32 mx33 mx30 Bx35
    rcases HX.out with ⟨qx, ex, fx, rfl⟩ | ⟨ex, rfl, rfl, rfl⟩
    rotate_left
    · have hw := HW.out
      rw [ex] at hw
      obtain ⟨rfl, rfl, rfl, rfl, rfl⟩ := resI_none hw rfl
      clear hw ex HW HX
      obtain ⟨c_lo0, c_lo1, c_lo2⟩ := mx42.c3
      obtain ⟨c_hi0, c_hi1, c_hi2⟩ := mx38.c3
      obtain ⟨c_r0, c_r1, c_r2, c_r3, c_r4⟩ := mx41.c5
      obtain ⟨f_r0, f_r1, f_r2, f_r3, f_r4⟩ := mx41.f5
      go_wp2_with fail
      have hRx45 := mx41.s5 (.int .i64 0) (.int .i64 0) (.int .i64 0) (.int .i64 0) (.int .i64 2)
      obtain ⟨s0, s1, s2, s3, s4⟩ := hRx45.c5
      exact bodyPost_ret (v := .agg #[.int .i64 0, .int .i64 0, .int .i64 0, .int .i64 0, .int .i64 2]) (by simp [results, Try.results25, go_sem, s0, s1, s2, s3, s4]) rfl ⟨rfl, below_s5 Bx43 (by omega) _ _ _ _ _⟩
    · rcases HY.out with ⟨qy, ey, fy, rfl⟩ | ⟨ey, rfl, rfl, rfl⟩
      rotate_left
      · have hw := HW.out
        rw [ex, ey] at hw
        obtain ⟨rfl, rfl, rfl, rfl, rfl⟩ := resI_none hw rfl
        clear hw ex ey fx HW HX HY
        obtain ⟨c_lo0, c_lo1, c_lo2⟩ := mx42.c3
        obtain ⟨c_hi0, c_hi1, c_hi2⟩ := mx38.c3
        obtain ⟨c_r0, c_r1, c_r2, c_r3, c_r4⟩ := mx41.c5
        obtain ⟨f_r0, f_r1, f_r2, f_r3, f_r4⟩ := mx41.f5
        go_wp2_with fail
        have hRx46 := mx41.s5 (.int .i64 0) (.int .i64 0) (.int .i64 0) (.int .i64 0) (.int .i64 2)
        obtain ⟨s0, s1, s2, s3, s4⟩ := hRx46.c5
        exact bodyPost_ret (v := .agg #[.int .i64 0, .int .i64 0, .int .i64 0, .int .i64 0, .int .i64 2]) (by simp [results, Try.results25, go_sem, s0, s1, s2, s3, s4]) rfl ⟨rfl, below_s5 Bx43 (by omega) _ _ _ _ _⟩
      · have hw := HW.out
        rw [ex, ey] at hw
        obtain ⟨rfl, rfl, rfl, rfl, rfl⟩ := resI_val hw rfl fx fy
        clear hw ex ey fx fy HW HX HY
        obtain ⟨c_lo0, c_lo1, c_lo2⟩ := mx42.c3
        obtain ⟨c_hi0, c_hi1, c_hi2⟩ := mx38.c3
        obtain ⟨c_r0, c_r1, c_r2, c_r3, c_r4⟩ := mx41.c5
        obtain ⟨f_r0, f_r1, f_r2, f_r3, f_r4⟩ := mx41.f5
        go_wp2_with fail
        have hRx47 := mx41.s5 (.int .i64 r0) (.int .i64 r1) (.int .i64 r2) (.int .i64 r3) (.int .i64 0)
        obtain ⟨s0, s1, s2, s3, s4⟩ := hRx47.c5
        exact bodyPost_ret (v := .agg #[.int .i64 r0, .int .i64 r1, .int .i64 r2, .int .i64 r3, .int .i64 0]) (by simp [results, Try.results25, go_sem, s0, s1, s2, s3, s4]) rfl ⟨rfl, below_s5 Bx43 (by omega) _ _ _ _ _⟩

set_option maxRecDepth 100000 in
set_option maxHeartbeats 2000000 in
theorem lfrac_0 {n0 n1 n2 n3 n4 n5 n6 n7 n8 n9 n10 n11 n12 n13 n14 n15 n16 n17 n18 n19 n20 n21 n22 n23 x y : Int} (h : Does 43 #[.int .i64 n0, .int .i64 n1] (.agg #[.int .i64 x, .int .i64 y])) : Does 16 #[.agg #[.int .i64 n0, .int .i64 n1, .int .i64 n2, .int .i64 n3, .int .i64 n4, .int .i64 n5, .int .i64 n6, .int .i64 n7, .int .i64 n8, .int .i64 n9, .int .i64 n10, .int .i64 n11, .int .i64 n12, .int .i64 n13, .int .i64 n14, .int .i64 n15, .int .i64 n16, .int .i64 n17, .int .i64 n18, .int .i64 n19, .int .i64 n20, .int .i64 n21, .int .i64 n22, .int .i64 n23], .int .i64 0] (.agg #[.int .i64 x, .int .i64 y]) := by
  intro w
  have H := Lib.hid h
  clear h
  go_enter Try.func16, Try.ntmps16
  go_upto_region 1 with fail
  have hst := start2 w (#[.int .i64 n0, .int .i64 n1, .int .i64 n2, .int .i64 n3, .int .i64 n4, .int .i64 n5, .int .i64 n6, .int .i64 n7, .int .i64 n8, .int .i64 n9, .int .i64 n10, .int .i64 n11, .int .i64 n12, .int .i64 n13, .int .i64 n14, .int .i64 n15, .int .i64 n16, .int .i64 n17, .int .i64 n18, .int .i64 n19, .int .i64 n20, .int .i64 n21, .int .i64 n22, .int .i64 n23]) (#[.int .i64 0, .int .i64 0]) 30 23
  generalize ((w.alloc (.cells #[.int .i64 n0, .int .i64 n1, .int .i64 n2, .int .i64 n3, .int .i64 n4, .int .i64 n5, .int .i64 n6, .int .i64 n7, .int .i64 n8, .int .i64 n9, .int .i64 n10, .int .i64 n11, .int .i64 n12, .int .i64 n13, .int .i64 n14, .int .i64 n15, .int .i64 n16, .int .i64 n17, .int .i64 n18, .int .i64 n19, .int .i64 n20, .int .i64 n21, .int .i64 n22, .int .i64 n23] 30)).alloc (.cells #[.int .i64 0, .int .i64 0] 23)) = Wx4 at *
  obtain ⟨mx1, mx2, Bx3⟩ := hst
  have ltx5 := mx1.lt
  have ltx6 := mx2.lt
  obtain ⟨c_n0, c_n1, c_n2, c_n3, c_n4, c_n5, c_n6, c_n7, c_n8, c_n9, c_n10, c_n11, c_n12, c_n13, c_n14, c_n15, c_n16, c_n17, c_n18, c_n19, c_n20, c_n21, c_n22, c_n23⟩ := mx1.l24 (Below.refl _ _)
  refine wp_region_later_tail 10 (by kernel_rfl) (by kernel_rfl) ?_
  simp only [List.take_succ_cons, List.take_zero, List.drop_succ_cons, List.drop_zero]
  repeat (go_big_quiet_step (((go_at_call 43; with_reducible exact later_of ((H.out.at _))))))
  refine wpQuiet_nil ?_
  intro _ hw'
  obtain ⟨zx7, hw''⟩ := hw'
  subst hw''
  clear c_n0 c_n1 c_n2 c_n3 c_n4 c_n5 c_n6 c_n7 c_n8 c_n9 c_n10 c_n11 c_n12 c_n13 c_n14 c_n15 c_n16 c_n17 c_n18 c_n19 c_n20 c_n21 c_n22 c_n23
  have hbx8 := zx7.below
  have mx9 := mx1.keep hbx8
  have mx10 := mx2.keep hbx8
  have Bx11 := Bx3.trans (hbx8.mono Bx3.size)
  have szx12 := hbx8.size
  clear mx1 mx2 Bx3 hbx8
  obtain ⟨c_r0, c_r1⟩ := mx10.c2
  obtain ⟨f_r0, f_r1⟩ := mx10.f2
  go_wp2_with fail
  have hRx13 := mx10.s2 (.int .i64 x) (.int .i64 y)
  obtain ⟨s0, s1⟩ := hRx13.c2
  exact bodyPost_ret (v := .agg #[.int .i64 x, .int .i64 y]) (by simp [results, Try.results16, go_sem, s0, s1]) rfl ⟨rfl, below_s2 Bx11 (by omega) _ _⟩

set_option maxRecDepth 100000 in
set_option maxHeartbeats 2000000 in
theorem lfrac_2 {n0 n1 n2 n3 n4 n5 n6 n7 n8 n9 n10 n11 n12 n13 n14 n15 n16 n17 n18 n19 n20 n21 n22 n23 x y : Int} (h : Does 43 #[.int .i64 n2, .int .i64 n3] (.agg #[.int .i64 x, .int .i64 y])) : Does 16 #[.agg #[.int .i64 n0, .int .i64 n1, .int .i64 n2, .int .i64 n3, .int .i64 n4, .int .i64 n5, .int .i64 n6, .int .i64 n7, .int .i64 n8, .int .i64 n9, .int .i64 n10, .int .i64 n11, .int .i64 n12, .int .i64 n13, .int .i64 n14, .int .i64 n15, .int .i64 n16, .int .i64 n17, .int .i64 n18, .int .i64 n19, .int .i64 n20, .int .i64 n21, .int .i64 n22, .int .i64 n23], .int .i64 2] (.agg #[.int .i64 x, .int .i64 y]) := by
  intro w
  have H := Lib.hid h
  clear h
  go_enter Try.func16, Try.ntmps16
  go_upto_region 1 with fail
  have hst := start2 w (#[.int .i64 n0, .int .i64 n1, .int .i64 n2, .int .i64 n3, .int .i64 n4, .int .i64 n5, .int .i64 n6, .int .i64 n7, .int .i64 n8, .int .i64 n9, .int .i64 n10, .int .i64 n11, .int .i64 n12, .int .i64 n13, .int .i64 n14, .int .i64 n15, .int .i64 n16, .int .i64 n17, .int .i64 n18, .int .i64 n19, .int .i64 n20, .int .i64 n21, .int .i64 n22, .int .i64 n23]) (#[.int .i64 0, .int .i64 0]) 30 23
  generalize ((w.alloc (.cells #[.int .i64 n0, .int .i64 n1, .int .i64 n2, .int .i64 n3, .int .i64 n4, .int .i64 n5, .int .i64 n6, .int .i64 n7, .int .i64 n8, .int .i64 n9, .int .i64 n10, .int .i64 n11, .int .i64 n12, .int .i64 n13, .int .i64 n14, .int .i64 n15, .int .i64 n16, .int .i64 n17, .int .i64 n18, .int .i64 n19, .int .i64 n20, .int .i64 n21, .int .i64 n22, .int .i64 n23] 30)).alloc (.cells #[.int .i64 0, .int .i64 0] 23)) = Wx4 at *
  obtain ⟨mx1, mx2, Bx3⟩ := hst
  have ltx5 := mx1.lt
  have ltx6 := mx2.lt
  obtain ⟨c_n0, c_n1, c_n2, c_n3, c_n4, c_n5, c_n6, c_n7, c_n8, c_n9, c_n10, c_n11, c_n12, c_n13, c_n14, c_n15, c_n16, c_n17, c_n18, c_n19, c_n20, c_n21, c_n22, c_n23⟩ := mx1.l24 (Below.refl _ _)
  refine wp_region_later_tail 10 (by kernel_rfl) (by kernel_rfl) ?_
  simp only [List.take_succ_cons, List.take_zero, List.drop_succ_cons, List.drop_zero]
  repeat (go_big_quiet_step (((go_at_call 43; with_reducible exact later_of ((H.out.at _))))))
  refine wpQuiet_nil ?_
  intro _ hw'
  obtain ⟨zx7, hw''⟩ := hw'
  subst hw''
  clear c_n0 c_n1 c_n2 c_n3 c_n4 c_n5 c_n6 c_n7 c_n8 c_n9 c_n10 c_n11 c_n12 c_n13 c_n14 c_n15 c_n16 c_n17 c_n18 c_n19 c_n20 c_n21 c_n22 c_n23
  have hbx8 := zx7.below
  have mx9 := mx1.keep hbx8
  have mx10 := mx2.keep hbx8
  have Bx11 := Bx3.trans (hbx8.mono Bx3.size)
  have szx12 := hbx8.size
  clear mx1 mx2 Bx3 hbx8
  obtain ⟨c_r0, c_r1⟩ := mx10.c2
  obtain ⟨f_r0, f_r1⟩ := mx10.f2
  go_wp2_with fail
  have hRx13 := mx10.s2 (.int .i64 x) (.int .i64 y)
  obtain ⟨s0, s1⟩ := hRx13.c2
  exact bodyPost_ret (v := .agg #[.int .i64 x, .int .i64 y]) (by simp [results, Try.results16, go_sem, s0, s1]) rfl ⟨rfl, below_s2 Bx11 (by omega) _ _⟩

set_option maxRecDepth 100000 in
set_option maxHeartbeats 2000000 in
theorem lfrac_4 {n0 n1 n2 n3 n4 n5 n6 n7 n8 n9 n10 n11 n12 n13 n14 n15 n16 n17 n18 n19 n20 n21 n22 n23 x y : Int} (h : Does 43 #[.int .i64 n4, .int .i64 n5] (.agg #[.int .i64 x, .int .i64 y])) : Does 16 #[.agg #[.int .i64 n0, .int .i64 n1, .int .i64 n2, .int .i64 n3, .int .i64 n4, .int .i64 n5, .int .i64 n6, .int .i64 n7, .int .i64 n8, .int .i64 n9, .int .i64 n10, .int .i64 n11, .int .i64 n12, .int .i64 n13, .int .i64 n14, .int .i64 n15, .int .i64 n16, .int .i64 n17, .int .i64 n18, .int .i64 n19, .int .i64 n20, .int .i64 n21, .int .i64 n22, .int .i64 n23], .int .i64 4] (.agg #[.int .i64 x, .int .i64 y]) := by
  intro w
  have H := Lib.hid h
  clear h
  go_enter Try.func16, Try.ntmps16
  go_upto_region 1 with fail
  have hst := start2 w (#[.int .i64 n0, .int .i64 n1, .int .i64 n2, .int .i64 n3, .int .i64 n4, .int .i64 n5, .int .i64 n6, .int .i64 n7, .int .i64 n8, .int .i64 n9, .int .i64 n10, .int .i64 n11, .int .i64 n12, .int .i64 n13, .int .i64 n14, .int .i64 n15, .int .i64 n16, .int .i64 n17, .int .i64 n18, .int .i64 n19, .int .i64 n20, .int .i64 n21, .int .i64 n22, .int .i64 n23]) (#[.int .i64 0, .int .i64 0]) 30 23
  generalize ((w.alloc (.cells #[.int .i64 n0, .int .i64 n1, .int .i64 n2, .int .i64 n3, .int .i64 n4, .int .i64 n5, .int .i64 n6, .int .i64 n7, .int .i64 n8, .int .i64 n9, .int .i64 n10, .int .i64 n11, .int .i64 n12, .int .i64 n13, .int .i64 n14, .int .i64 n15, .int .i64 n16, .int .i64 n17, .int .i64 n18, .int .i64 n19, .int .i64 n20, .int .i64 n21, .int .i64 n22, .int .i64 n23] 30)).alloc (.cells #[.int .i64 0, .int .i64 0] 23)) = Wx4 at *
  obtain ⟨mx1, mx2, Bx3⟩ := hst
  have ltx5 := mx1.lt
  have ltx6 := mx2.lt
  obtain ⟨c_n0, c_n1, c_n2, c_n3, c_n4, c_n5, c_n6, c_n7, c_n8, c_n9, c_n10, c_n11, c_n12, c_n13, c_n14, c_n15, c_n16, c_n17, c_n18, c_n19, c_n20, c_n21, c_n22, c_n23⟩ := mx1.l24 (Below.refl _ _)
  refine wp_region_later_tail 10 (by kernel_rfl) (by kernel_rfl) ?_
  simp only [List.take_succ_cons, List.take_zero, List.drop_succ_cons, List.drop_zero]
  repeat (go_big_quiet_step (((go_at_call 43; with_reducible exact later_of ((H.out.at _))))))
  refine wpQuiet_nil ?_
  intro _ hw'
  obtain ⟨zx7, hw''⟩ := hw'
  subst hw''
  clear c_n0 c_n1 c_n2 c_n3 c_n4 c_n5 c_n6 c_n7 c_n8 c_n9 c_n10 c_n11 c_n12 c_n13 c_n14 c_n15 c_n16 c_n17 c_n18 c_n19 c_n20 c_n21 c_n22 c_n23
  have hbx8 := zx7.below
  have mx9 := mx1.keep hbx8
  have mx10 := mx2.keep hbx8
  have Bx11 := Bx3.trans (hbx8.mono Bx3.size)
  have szx12 := hbx8.size
  clear mx1 mx2 Bx3 hbx8
  obtain ⟨c_r0, c_r1⟩ := mx10.c2
  obtain ⟨f_r0, f_r1⟩ := mx10.f2
  go_wp2_with fail
  have hRx13 := mx10.s2 (.int .i64 x) (.int .i64 y)
  obtain ⟨s0, s1⟩ := hRx13.c2
  exact bodyPost_ret (v := .agg #[.int .i64 x, .int .i64 y]) (by simp [results, Try.results16, go_sem, s0, s1]) rfl ⟨rfl, below_s2 Bx11 (by omega) _ _⟩

set_option maxRecDepth 100000 in
set_option maxHeartbeats 2000000 in
theorem lfrac_6 {n0 n1 n2 n3 n4 n5 n6 n7 n8 n9 n10 n11 n12 n13 n14 n15 n16 n17 n18 n19 n20 n21 n22 n23 x y : Int} (h : Does 43 #[.int .i64 n6, .int .i64 n7] (.agg #[.int .i64 x, .int .i64 y])) : Does 16 #[.agg #[.int .i64 n0, .int .i64 n1, .int .i64 n2, .int .i64 n3, .int .i64 n4, .int .i64 n5, .int .i64 n6, .int .i64 n7, .int .i64 n8, .int .i64 n9, .int .i64 n10, .int .i64 n11, .int .i64 n12, .int .i64 n13, .int .i64 n14, .int .i64 n15, .int .i64 n16, .int .i64 n17, .int .i64 n18, .int .i64 n19, .int .i64 n20, .int .i64 n21, .int .i64 n22, .int .i64 n23], .int .i64 6] (.agg #[.int .i64 x, .int .i64 y]) := by
  intro w
  have H := Lib.hid h
  clear h
  go_enter Try.func16, Try.ntmps16
  go_upto_region 1 with fail
  have hst := start2 w (#[.int .i64 n0, .int .i64 n1, .int .i64 n2, .int .i64 n3, .int .i64 n4, .int .i64 n5, .int .i64 n6, .int .i64 n7, .int .i64 n8, .int .i64 n9, .int .i64 n10, .int .i64 n11, .int .i64 n12, .int .i64 n13, .int .i64 n14, .int .i64 n15, .int .i64 n16, .int .i64 n17, .int .i64 n18, .int .i64 n19, .int .i64 n20, .int .i64 n21, .int .i64 n22, .int .i64 n23]) (#[.int .i64 0, .int .i64 0]) 30 23
  generalize ((w.alloc (.cells #[.int .i64 n0, .int .i64 n1, .int .i64 n2, .int .i64 n3, .int .i64 n4, .int .i64 n5, .int .i64 n6, .int .i64 n7, .int .i64 n8, .int .i64 n9, .int .i64 n10, .int .i64 n11, .int .i64 n12, .int .i64 n13, .int .i64 n14, .int .i64 n15, .int .i64 n16, .int .i64 n17, .int .i64 n18, .int .i64 n19, .int .i64 n20, .int .i64 n21, .int .i64 n22, .int .i64 n23] 30)).alloc (.cells #[.int .i64 0, .int .i64 0] 23)) = Wx4 at *
  obtain ⟨mx1, mx2, Bx3⟩ := hst
  have ltx5 := mx1.lt
  have ltx6 := mx2.lt
  obtain ⟨c_n0, c_n1, c_n2, c_n3, c_n4, c_n5, c_n6, c_n7, c_n8, c_n9, c_n10, c_n11, c_n12, c_n13, c_n14, c_n15, c_n16, c_n17, c_n18, c_n19, c_n20, c_n21, c_n22, c_n23⟩ := mx1.l24 (Below.refl _ _)
  refine wp_region_later_tail 10 (by kernel_rfl) (by kernel_rfl) ?_
  simp only [List.take_succ_cons, List.take_zero, List.drop_succ_cons, List.drop_zero]
  repeat (go_big_quiet_step (((go_at_call 43; with_reducible exact later_of ((H.out.at _))))))
  refine wpQuiet_nil ?_
  intro _ hw'
  obtain ⟨zx7, hw''⟩ := hw'
  subst hw''
  clear c_n0 c_n1 c_n2 c_n3 c_n4 c_n5 c_n6 c_n7 c_n8 c_n9 c_n10 c_n11 c_n12 c_n13 c_n14 c_n15 c_n16 c_n17 c_n18 c_n19 c_n20 c_n21 c_n22 c_n23
  have hbx8 := zx7.below
  have mx9 := mx1.keep hbx8
  have mx10 := mx2.keep hbx8
  have Bx11 := Bx3.trans (hbx8.mono Bx3.size)
  have szx12 := hbx8.size
  clear mx1 mx2 Bx3 hbx8
  obtain ⟨c_r0, c_r1⟩ := mx10.c2
  obtain ⟨f_r0, f_r1⟩ := mx10.f2
  go_wp2_with fail
  have hRx13 := mx10.s2 (.int .i64 x) (.int .i64 y)
  obtain ⟨s0, s1⟩ := hRx13.c2
  exact bodyPost_ret (v := .agg #[.int .i64 x, .int .i64 y]) (by simp [results, Try.results16, go_sem, s0, s1]) rfl ⟨rfl, below_s2 Bx11 (by omega) _ _⟩

set_option maxRecDepth 100000 in
set_option maxHeartbeats 2000000 in
theorem lfrac_8 {n0 n1 n2 n3 n4 n5 n6 n7 n8 n9 n10 n11 n12 n13 n14 n15 n16 n17 n18 n19 n20 n21 n22 n23 x y : Int} (h : Does 43 #[.int .i64 n8, .int .i64 n9] (.agg #[.int .i64 x, .int .i64 y])) : Does 16 #[.agg #[.int .i64 n0, .int .i64 n1, .int .i64 n2, .int .i64 n3, .int .i64 n4, .int .i64 n5, .int .i64 n6, .int .i64 n7, .int .i64 n8, .int .i64 n9, .int .i64 n10, .int .i64 n11, .int .i64 n12, .int .i64 n13, .int .i64 n14, .int .i64 n15, .int .i64 n16, .int .i64 n17, .int .i64 n18, .int .i64 n19, .int .i64 n20, .int .i64 n21, .int .i64 n22, .int .i64 n23], .int .i64 8] (.agg #[.int .i64 x, .int .i64 y]) := by
  intro w
  have H := Lib.hid h
  clear h
  go_enter Try.func16, Try.ntmps16
  go_upto_region 1 with fail
  have hst := start2 w (#[.int .i64 n0, .int .i64 n1, .int .i64 n2, .int .i64 n3, .int .i64 n4, .int .i64 n5, .int .i64 n6, .int .i64 n7, .int .i64 n8, .int .i64 n9, .int .i64 n10, .int .i64 n11, .int .i64 n12, .int .i64 n13, .int .i64 n14, .int .i64 n15, .int .i64 n16, .int .i64 n17, .int .i64 n18, .int .i64 n19, .int .i64 n20, .int .i64 n21, .int .i64 n22, .int .i64 n23]) (#[.int .i64 0, .int .i64 0]) 30 23
  generalize ((w.alloc (.cells #[.int .i64 n0, .int .i64 n1, .int .i64 n2, .int .i64 n3, .int .i64 n4, .int .i64 n5, .int .i64 n6, .int .i64 n7, .int .i64 n8, .int .i64 n9, .int .i64 n10, .int .i64 n11, .int .i64 n12, .int .i64 n13, .int .i64 n14, .int .i64 n15, .int .i64 n16, .int .i64 n17, .int .i64 n18, .int .i64 n19, .int .i64 n20, .int .i64 n21, .int .i64 n22, .int .i64 n23] 30)).alloc (.cells #[.int .i64 0, .int .i64 0] 23)) = Wx4 at *
  obtain ⟨mx1, mx2, Bx3⟩ := hst
  have ltx5 := mx1.lt
  have ltx6 := mx2.lt
  obtain ⟨c_n0, c_n1, c_n2, c_n3, c_n4, c_n5, c_n6, c_n7, c_n8, c_n9, c_n10, c_n11, c_n12, c_n13, c_n14, c_n15, c_n16, c_n17, c_n18, c_n19, c_n20, c_n21, c_n22, c_n23⟩ := mx1.l24 (Below.refl _ _)
  refine wp_region_later_tail 10 (by kernel_rfl) (by kernel_rfl) ?_
  simp only [List.take_succ_cons, List.take_zero, List.drop_succ_cons, List.drop_zero]
  repeat (go_big_quiet_step (((go_at_call 43; with_reducible exact later_of ((H.out.at _))))))
  refine wpQuiet_nil ?_
  intro _ hw'
  obtain ⟨zx7, hw''⟩ := hw'
  subst hw''
  clear c_n0 c_n1 c_n2 c_n3 c_n4 c_n5 c_n6 c_n7 c_n8 c_n9 c_n10 c_n11 c_n12 c_n13 c_n14 c_n15 c_n16 c_n17 c_n18 c_n19 c_n20 c_n21 c_n22 c_n23
  have hbx8 := zx7.below
  have mx9 := mx1.keep hbx8
  have mx10 := mx2.keep hbx8
  have Bx11 := Bx3.trans (hbx8.mono Bx3.size)
  have szx12 := hbx8.size
  clear mx1 mx2 Bx3 hbx8
  obtain ⟨c_r0, c_r1⟩ := mx10.c2
  obtain ⟨f_r0, f_r1⟩ := mx10.f2
  go_wp2_with fail
  have hRx13 := mx10.s2 (.int .i64 x) (.int .i64 y)
  obtain ⟨s0, s1⟩ := hRx13.c2
  exact bodyPost_ret (v := .agg #[.int .i64 x, .int .i64 y]) (by simp [results, Try.results16, go_sem, s0, s1]) rfl ⟨rfl, below_s2 Bx11 (by omega) _ _⟩

set_option maxRecDepth 100000 in
set_option maxHeartbeats 2000000 in
theorem lfrac_10 {n0 n1 n2 n3 n4 n5 n6 n7 n8 n9 n10 n11 n12 n13 n14 n15 n16 n17 n18 n19 n20 n21 n22 n23 x y : Int} (h : Does 43 #[.int .i64 n10, .int .i64 n11] (.agg #[.int .i64 x, .int .i64 y])) : Does 16 #[.agg #[.int .i64 n0, .int .i64 n1, .int .i64 n2, .int .i64 n3, .int .i64 n4, .int .i64 n5, .int .i64 n6, .int .i64 n7, .int .i64 n8, .int .i64 n9, .int .i64 n10, .int .i64 n11, .int .i64 n12, .int .i64 n13, .int .i64 n14, .int .i64 n15, .int .i64 n16, .int .i64 n17, .int .i64 n18, .int .i64 n19, .int .i64 n20, .int .i64 n21, .int .i64 n22, .int .i64 n23], .int .i64 10] (.agg #[.int .i64 x, .int .i64 y]) := by
  intro w
  have H := Lib.hid h
  clear h
  go_enter Try.func16, Try.ntmps16
  go_upto_region 1 with fail
  have hst := start2 w (#[.int .i64 n0, .int .i64 n1, .int .i64 n2, .int .i64 n3, .int .i64 n4, .int .i64 n5, .int .i64 n6, .int .i64 n7, .int .i64 n8, .int .i64 n9, .int .i64 n10, .int .i64 n11, .int .i64 n12, .int .i64 n13, .int .i64 n14, .int .i64 n15, .int .i64 n16, .int .i64 n17, .int .i64 n18, .int .i64 n19, .int .i64 n20, .int .i64 n21, .int .i64 n22, .int .i64 n23]) (#[.int .i64 0, .int .i64 0]) 30 23
  generalize ((w.alloc (.cells #[.int .i64 n0, .int .i64 n1, .int .i64 n2, .int .i64 n3, .int .i64 n4, .int .i64 n5, .int .i64 n6, .int .i64 n7, .int .i64 n8, .int .i64 n9, .int .i64 n10, .int .i64 n11, .int .i64 n12, .int .i64 n13, .int .i64 n14, .int .i64 n15, .int .i64 n16, .int .i64 n17, .int .i64 n18, .int .i64 n19, .int .i64 n20, .int .i64 n21, .int .i64 n22, .int .i64 n23] 30)).alloc (.cells #[.int .i64 0, .int .i64 0] 23)) = Wx4 at *
  obtain ⟨mx1, mx2, Bx3⟩ := hst
  have ltx5 := mx1.lt
  have ltx6 := mx2.lt
  obtain ⟨c_n0, c_n1, c_n2, c_n3, c_n4, c_n5, c_n6, c_n7, c_n8, c_n9, c_n10, c_n11, c_n12, c_n13, c_n14, c_n15, c_n16, c_n17, c_n18, c_n19, c_n20, c_n21, c_n22, c_n23⟩ := mx1.l24 (Below.refl _ _)
  refine wp_region_later_tail 10 (by kernel_rfl) (by kernel_rfl) ?_
  simp only [List.take_succ_cons, List.take_zero, List.drop_succ_cons, List.drop_zero]
  repeat (go_big_quiet_step (((go_at_call 43; with_reducible exact later_of ((H.out.at _))))))
  refine wpQuiet_nil ?_
  intro _ hw'
  obtain ⟨zx7, hw''⟩ := hw'
  subst hw''
  clear c_n0 c_n1 c_n2 c_n3 c_n4 c_n5 c_n6 c_n7 c_n8 c_n9 c_n10 c_n11 c_n12 c_n13 c_n14 c_n15 c_n16 c_n17 c_n18 c_n19 c_n20 c_n21 c_n22 c_n23
  have hbx8 := zx7.below
  have mx9 := mx1.keep hbx8
  have mx10 := mx2.keep hbx8
  have Bx11 := Bx3.trans (hbx8.mono Bx3.size)
  have szx12 := hbx8.size
  clear mx1 mx2 Bx3 hbx8
  obtain ⟨c_r0, c_r1⟩ := mx10.c2
  obtain ⟨f_r0, f_r1⟩ := mx10.f2
  go_wp2_with fail
  have hRx13 := mx10.s2 (.int .i64 x) (.int .i64 y)
  obtain ⟨s0, s1⟩ := hRx13.c2
  exact bodyPost_ret (v := .agg #[.int .i64 x, .int .i64 y]) (by simp [results, Try.results16, go_sem, s0, s1]) rfl ⟨rfl, below_s2 Bx11 (by omega) _ _⟩

set_option maxRecDepth 100000 in
set_option maxHeartbeats 2000000 in
theorem lfrac_12 {n0 n1 n2 n3 n4 n5 n6 n7 n8 n9 n10 n11 n12 n13 n14 n15 n16 n17 n18 n19 n20 n21 n22 n23 x y : Int} (h : Does 43 #[.int .i64 n12, .int .i64 n13] (.agg #[.int .i64 x, .int .i64 y])) : Does 16 #[.agg #[.int .i64 n0, .int .i64 n1, .int .i64 n2, .int .i64 n3, .int .i64 n4, .int .i64 n5, .int .i64 n6, .int .i64 n7, .int .i64 n8, .int .i64 n9, .int .i64 n10, .int .i64 n11, .int .i64 n12, .int .i64 n13, .int .i64 n14, .int .i64 n15, .int .i64 n16, .int .i64 n17, .int .i64 n18, .int .i64 n19, .int .i64 n20, .int .i64 n21, .int .i64 n22, .int .i64 n23], .int .i64 12] (.agg #[.int .i64 x, .int .i64 y]) := by
  intro w
  have H := Lib.hid h
  clear h
  go_enter Try.func16, Try.ntmps16
  go_upto_region 1 with fail
  have hst := start2 w (#[.int .i64 n0, .int .i64 n1, .int .i64 n2, .int .i64 n3, .int .i64 n4, .int .i64 n5, .int .i64 n6, .int .i64 n7, .int .i64 n8, .int .i64 n9, .int .i64 n10, .int .i64 n11, .int .i64 n12, .int .i64 n13, .int .i64 n14, .int .i64 n15, .int .i64 n16, .int .i64 n17, .int .i64 n18, .int .i64 n19, .int .i64 n20, .int .i64 n21, .int .i64 n22, .int .i64 n23]) (#[.int .i64 0, .int .i64 0]) 30 23
  generalize ((w.alloc (.cells #[.int .i64 n0, .int .i64 n1, .int .i64 n2, .int .i64 n3, .int .i64 n4, .int .i64 n5, .int .i64 n6, .int .i64 n7, .int .i64 n8, .int .i64 n9, .int .i64 n10, .int .i64 n11, .int .i64 n12, .int .i64 n13, .int .i64 n14, .int .i64 n15, .int .i64 n16, .int .i64 n17, .int .i64 n18, .int .i64 n19, .int .i64 n20, .int .i64 n21, .int .i64 n22, .int .i64 n23] 30)).alloc (.cells #[.int .i64 0, .int .i64 0] 23)) = Wx4 at *
  obtain ⟨mx1, mx2, Bx3⟩ := hst
  have ltx5 := mx1.lt
  have ltx6 := mx2.lt
  obtain ⟨c_n0, c_n1, c_n2, c_n3, c_n4, c_n5, c_n6, c_n7, c_n8, c_n9, c_n10, c_n11, c_n12, c_n13, c_n14, c_n15, c_n16, c_n17, c_n18, c_n19, c_n20, c_n21, c_n22, c_n23⟩ := mx1.l24 (Below.refl _ _)
  refine wp_region_later_tail 10 (by kernel_rfl) (by kernel_rfl) ?_
  simp only [List.take_succ_cons, List.take_zero, List.drop_succ_cons, List.drop_zero]
  repeat (go_big_quiet_step (((go_at_call 43; with_reducible exact later_of ((H.out.at _))))))
  refine wpQuiet_nil ?_
  intro _ hw'
  obtain ⟨zx7, hw''⟩ := hw'
  subst hw''
  clear c_n0 c_n1 c_n2 c_n3 c_n4 c_n5 c_n6 c_n7 c_n8 c_n9 c_n10 c_n11 c_n12 c_n13 c_n14 c_n15 c_n16 c_n17 c_n18 c_n19 c_n20 c_n21 c_n22 c_n23
  have hbx8 := zx7.below
  have mx9 := mx1.keep hbx8
  have mx10 := mx2.keep hbx8
  have Bx11 := Bx3.trans (hbx8.mono Bx3.size)
  have szx12 := hbx8.size
  clear mx1 mx2 Bx3 hbx8
  obtain ⟨c_r0, c_r1⟩ := mx10.c2
  obtain ⟨f_r0, f_r1⟩ := mx10.f2
  go_wp2_with fail
  have hRx13 := mx10.s2 (.int .i64 x) (.int .i64 y)
  obtain ⟨s0, s1⟩ := hRx13.c2
  exact bodyPost_ret (v := .agg #[.int .i64 x, .int .i64 y]) (by simp [results, Try.results16, go_sem, s0, s1]) rfl ⟨rfl, below_s2 Bx11 (by omega) _ _⟩

set_option maxRecDepth 100000 in
set_option maxHeartbeats 2000000 in
theorem lfrac_14 {n0 n1 n2 n3 n4 n5 n6 n7 n8 n9 n10 n11 n12 n13 n14 n15 n16 n17 n18 n19 n20 n21 n22 n23 x y : Int} (h : Does 43 #[.int .i64 n14, .int .i64 n15] (.agg #[.int .i64 x, .int .i64 y])) : Does 16 #[.agg #[.int .i64 n0, .int .i64 n1, .int .i64 n2, .int .i64 n3, .int .i64 n4, .int .i64 n5, .int .i64 n6, .int .i64 n7, .int .i64 n8, .int .i64 n9, .int .i64 n10, .int .i64 n11, .int .i64 n12, .int .i64 n13, .int .i64 n14, .int .i64 n15, .int .i64 n16, .int .i64 n17, .int .i64 n18, .int .i64 n19, .int .i64 n20, .int .i64 n21, .int .i64 n22, .int .i64 n23], .int .i64 14] (.agg #[.int .i64 x, .int .i64 y]) := by
  intro w
  have H := Lib.hid h
  clear h
  go_enter Try.func16, Try.ntmps16
  go_upto_region 1 with fail
  have hst := start2 w (#[.int .i64 n0, .int .i64 n1, .int .i64 n2, .int .i64 n3, .int .i64 n4, .int .i64 n5, .int .i64 n6, .int .i64 n7, .int .i64 n8, .int .i64 n9, .int .i64 n10, .int .i64 n11, .int .i64 n12, .int .i64 n13, .int .i64 n14, .int .i64 n15, .int .i64 n16, .int .i64 n17, .int .i64 n18, .int .i64 n19, .int .i64 n20, .int .i64 n21, .int .i64 n22, .int .i64 n23]) (#[.int .i64 0, .int .i64 0]) 30 23
  generalize ((w.alloc (.cells #[.int .i64 n0, .int .i64 n1, .int .i64 n2, .int .i64 n3, .int .i64 n4, .int .i64 n5, .int .i64 n6, .int .i64 n7, .int .i64 n8, .int .i64 n9, .int .i64 n10, .int .i64 n11, .int .i64 n12, .int .i64 n13, .int .i64 n14, .int .i64 n15, .int .i64 n16, .int .i64 n17, .int .i64 n18, .int .i64 n19, .int .i64 n20, .int .i64 n21, .int .i64 n22, .int .i64 n23] 30)).alloc (.cells #[.int .i64 0, .int .i64 0] 23)) = Wx4 at *
  obtain ⟨mx1, mx2, Bx3⟩ := hst
  have ltx5 := mx1.lt
  have ltx6 := mx2.lt
  obtain ⟨c_n0, c_n1, c_n2, c_n3, c_n4, c_n5, c_n6, c_n7, c_n8, c_n9, c_n10, c_n11, c_n12, c_n13, c_n14, c_n15, c_n16, c_n17, c_n18, c_n19, c_n20, c_n21, c_n22, c_n23⟩ := mx1.l24 (Below.refl _ _)
  refine wp_region_later_tail 10 (by kernel_rfl) (by kernel_rfl) ?_
  simp only [List.take_succ_cons, List.take_zero, List.drop_succ_cons, List.drop_zero]
  repeat (go_big_quiet_step (((go_at_call 43; with_reducible exact later_of ((H.out.at _))))))
  refine wpQuiet_nil ?_
  intro _ hw'
  obtain ⟨zx7, hw''⟩ := hw'
  subst hw''
  clear c_n0 c_n1 c_n2 c_n3 c_n4 c_n5 c_n6 c_n7 c_n8 c_n9 c_n10 c_n11 c_n12 c_n13 c_n14 c_n15 c_n16 c_n17 c_n18 c_n19 c_n20 c_n21 c_n22 c_n23
  have hbx8 := zx7.below
  have mx9 := mx1.keep hbx8
  have mx10 := mx2.keep hbx8
  have Bx11 := Bx3.trans (hbx8.mono Bx3.size)
  have szx12 := hbx8.size
  clear mx1 mx2 Bx3 hbx8
  obtain ⟨c_r0, c_r1⟩ := mx10.c2
  obtain ⟨f_r0, f_r1⟩ := mx10.f2
  go_wp2_with fail
  have hRx13 := mx10.s2 (.int .i64 x) (.int .i64 y)
  obtain ⟨s0, s1⟩ := hRx13.c2
  exact bodyPost_ret (v := .agg #[.int .i64 x, .int .i64 y]) (by simp [results, Try.results16, go_sem, s0, s1]) rfl ⟨rfl, below_s2 Bx11 (by omega) _ _⟩

set_option maxRecDepth 100000 in
set_option maxHeartbeats 2000000 in
theorem lfrac_16 {n0 n1 n2 n3 n4 n5 n6 n7 n8 n9 n10 n11 n12 n13 n14 n15 n16 n17 n18 n19 n20 n21 n22 n23 x y : Int} (h : Does 43 #[.int .i64 n16, .int .i64 n17] (.agg #[.int .i64 x, .int .i64 y])) : Does 16 #[.agg #[.int .i64 n0, .int .i64 n1, .int .i64 n2, .int .i64 n3, .int .i64 n4, .int .i64 n5, .int .i64 n6, .int .i64 n7, .int .i64 n8, .int .i64 n9, .int .i64 n10, .int .i64 n11, .int .i64 n12, .int .i64 n13, .int .i64 n14, .int .i64 n15, .int .i64 n16, .int .i64 n17, .int .i64 n18, .int .i64 n19, .int .i64 n20, .int .i64 n21, .int .i64 n22, .int .i64 n23], .int .i64 16] (.agg #[.int .i64 x, .int .i64 y]) := by
  intro w
  have H := Lib.hid h
  clear h
  go_enter Try.func16, Try.ntmps16
  go_upto_region 1 with fail
  have hst := start2 w (#[.int .i64 n0, .int .i64 n1, .int .i64 n2, .int .i64 n3, .int .i64 n4, .int .i64 n5, .int .i64 n6, .int .i64 n7, .int .i64 n8, .int .i64 n9, .int .i64 n10, .int .i64 n11, .int .i64 n12, .int .i64 n13, .int .i64 n14, .int .i64 n15, .int .i64 n16, .int .i64 n17, .int .i64 n18, .int .i64 n19, .int .i64 n20, .int .i64 n21, .int .i64 n22, .int .i64 n23]) (#[.int .i64 0, .int .i64 0]) 30 23
  generalize ((w.alloc (.cells #[.int .i64 n0, .int .i64 n1, .int .i64 n2, .int .i64 n3, .int .i64 n4, .int .i64 n5, .int .i64 n6, .int .i64 n7, .int .i64 n8, .int .i64 n9, .int .i64 n10, .int .i64 n11, .int .i64 n12, .int .i64 n13, .int .i64 n14, .int .i64 n15, .int .i64 n16, .int .i64 n17, .int .i64 n18, .int .i64 n19, .int .i64 n20, .int .i64 n21, .int .i64 n22, .int .i64 n23] 30)).alloc (.cells #[.int .i64 0, .int .i64 0] 23)) = Wx4 at *
  obtain ⟨mx1, mx2, Bx3⟩ := hst
  have ltx5 := mx1.lt
  have ltx6 := mx2.lt
  obtain ⟨c_n0, c_n1, c_n2, c_n3, c_n4, c_n5, c_n6, c_n7, c_n8, c_n9, c_n10, c_n11, c_n12, c_n13, c_n14, c_n15, c_n16, c_n17, c_n18, c_n19, c_n20, c_n21, c_n22, c_n23⟩ := mx1.l24 (Below.refl _ _)
  refine wp_region_later_tail 10 (by kernel_rfl) (by kernel_rfl) ?_
  simp only [List.take_succ_cons, List.take_zero, List.drop_succ_cons, List.drop_zero]
  repeat (go_big_quiet_step (((go_at_call 43; with_reducible exact later_of ((H.out.at _))))))
  refine wpQuiet_nil ?_
  intro _ hw'
  obtain ⟨zx7, hw''⟩ := hw'
  subst hw''
  clear c_n0 c_n1 c_n2 c_n3 c_n4 c_n5 c_n6 c_n7 c_n8 c_n9 c_n10 c_n11 c_n12 c_n13 c_n14 c_n15 c_n16 c_n17 c_n18 c_n19 c_n20 c_n21 c_n22 c_n23
  have hbx8 := zx7.below
  have mx9 := mx1.keep hbx8
  have mx10 := mx2.keep hbx8
  have Bx11 := Bx3.trans (hbx8.mono Bx3.size)
  have szx12 := hbx8.size
  clear mx1 mx2 Bx3 hbx8
  obtain ⟨c_r0, c_r1⟩ := mx10.c2
  obtain ⟨f_r0, f_r1⟩ := mx10.f2
  go_wp2_with fail
  have hRx13 := mx10.s2 (.int .i64 x) (.int .i64 y)
  obtain ⟨s0, s1⟩ := hRx13.c2
  exact bodyPost_ret (v := .agg #[.int .i64 x, .int .i64 y]) (by simp [results, Try.results16, go_sem, s0, s1]) rfl ⟨rfl, below_s2 Bx11 (by omega) _ _⟩

set_option maxRecDepth 100000 in
set_option maxHeartbeats 2000000 in
theorem lfrac_18 {n0 n1 n2 n3 n4 n5 n6 n7 n8 n9 n10 n11 n12 n13 n14 n15 n16 n17 n18 n19 n20 n21 n22 n23 x y : Int} (h : Does 43 #[.int .i64 n18, .int .i64 n19] (.agg #[.int .i64 x, .int .i64 y])) : Does 16 #[.agg #[.int .i64 n0, .int .i64 n1, .int .i64 n2, .int .i64 n3, .int .i64 n4, .int .i64 n5, .int .i64 n6, .int .i64 n7, .int .i64 n8, .int .i64 n9, .int .i64 n10, .int .i64 n11, .int .i64 n12, .int .i64 n13, .int .i64 n14, .int .i64 n15, .int .i64 n16, .int .i64 n17, .int .i64 n18, .int .i64 n19, .int .i64 n20, .int .i64 n21, .int .i64 n22, .int .i64 n23], .int .i64 18] (.agg #[.int .i64 x, .int .i64 y]) := by
  intro w
  have H := Lib.hid h
  clear h
  go_enter Try.func16, Try.ntmps16
  go_upto_region 1 with fail
  have hst := start2 w (#[.int .i64 n0, .int .i64 n1, .int .i64 n2, .int .i64 n3, .int .i64 n4, .int .i64 n5, .int .i64 n6, .int .i64 n7, .int .i64 n8, .int .i64 n9, .int .i64 n10, .int .i64 n11, .int .i64 n12, .int .i64 n13, .int .i64 n14, .int .i64 n15, .int .i64 n16, .int .i64 n17, .int .i64 n18, .int .i64 n19, .int .i64 n20, .int .i64 n21, .int .i64 n22, .int .i64 n23]) (#[.int .i64 0, .int .i64 0]) 30 23
  generalize ((w.alloc (.cells #[.int .i64 n0, .int .i64 n1, .int .i64 n2, .int .i64 n3, .int .i64 n4, .int .i64 n5, .int .i64 n6, .int .i64 n7, .int .i64 n8, .int .i64 n9, .int .i64 n10, .int .i64 n11, .int .i64 n12, .int .i64 n13, .int .i64 n14, .int .i64 n15, .int .i64 n16, .int .i64 n17, .int .i64 n18, .int .i64 n19, .int .i64 n20, .int .i64 n21, .int .i64 n22, .int .i64 n23] 30)).alloc (.cells #[.int .i64 0, .int .i64 0] 23)) = Wx4 at *
  obtain ⟨mx1, mx2, Bx3⟩ := hst
  have ltx5 := mx1.lt
  have ltx6 := mx2.lt
  obtain ⟨c_n0, c_n1, c_n2, c_n3, c_n4, c_n5, c_n6, c_n7, c_n8, c_n9, c_n10, c_n11, c_n12, c_n13, c_n14, c_n15, c_n16, c_n17, c_n18, c_n19, c_n20, c_n21, c_n22, c_n23⟩ := mx1.l24 (Below.refl _ _)
  refine wp_region_later_tail 10 (by kernel_rfl) (by kernel_rfl) ?_
  simp only [List.take_succ_cons, List.take_zero, List.drop_succ_cons, List.drop_zero]
  repeat (go_big_quiet_step (((go_at_call 43; with_reducible exact later_of ((H.out.at _))))))
  refine wpQuiet_nil ?_
  intro _ hw'
  obtain ⟨zx7, hw''⟩ := hw'
  subst hw''
  clear c_n0 c_n1 c_n2 c_n3 c_n4 c_n5 c_n6 c_n7 c_n8 c_n9 c_n10 c_n11 c_n12 c_n13 c_n14 c_n15 c_n16 c_n17 c_n18 c_n19 c_n20 c_n21 c_n22 c_n23
  have hbx8 := zx7.below
  have mx9 := mx1.keep hbx8
  have mx10 := mx2.keep hbx8
  have Bx11 := Bx3.trans (hbx8.mono Bx3.size)
  have szx12 := hbx8.size
  clear mx1 mx2 Bx3 hbx8
  obtain ⟨c_r0, c_r1⟩ := mx10.c2
  obtain ⟨f_r0, f_r1⟩ := mx10.f2
  go_wp2_with fail
  have hRx13 := mx10.s2 (.int .i64 x) (.int .i64 y)
  obtain ⟨s0, s1⟩ := hRx13.c2
  exact bodyPost_ret (v := .agg #[.int .i64 x, .int .i64 y]) (by simp [results, Try.results16, go_sem, s0, s1]) rfl ⟨rfl, below_s2 Bx11 (by omega) _ _⟩

set_option maxRecDepth 100000 in
set_option maxHeartbeats 2000000 in
theorem lfrac_20 {n0 n1 n2 n3 n4 n5 n6 n7 n8 n9 n10 n11 n12 n13 n14 n15 n16 n17 n18 n19 n20 n21 n22 n23 x y : Int} (h : Does 43 #[.int .i64 n20, .int .i64 n21] (.agg #[.int .i64 x, .int .i64 y])) : Does 16 #[.agg #[.int .i64 n0, .int .i64 n1, .int .i64 n2, .int .i64 n3, .int .i64 n4, .int .i64 n5, .int .i64 n6, .int .i64 n7, .int .i64 n8, .int .i64 n9, .int .i64 n10, .int .i64 n11, .int .i64 n12, .int .i64 n13, .int .i64 n14, .int .i64 n15, .int .i64 n16, .int .i64 n17, .int .i64 n18, .int .i64 n19, .int .i64 n20, .int .i64 n21, .int .i64 n22, .int .i64 n23], .int .i64 20] (.agg #[.int .i64 x, .int .i64 y]) := by
  intro w
  have H := Lib.hid h
  clear h
  go_enter Try.func16, Try.ntmps16
  go_upto_region 1 with fail
  have hst := start2 w (#[.int .i64 n0, .int .i64 n1, .int .i64 n2, .int .i64 n3, .int .i64 n4, .int .i64 n5, .int .i64 n6, .int .i64 n7, .int .i64 n8, .int .i64 n9, .int .i64 n10, .int .i64 n11, .int .i64 n12, .int .i64 n13, .int .i64 n14, .int .i64 n15, .int .i64 n16, .int .i64 n17, .int .i64 n18, .int .i64 n19, .int .i64 n20, .int .i64 n21, .int .i64 n22, .int .i64 n23]) (#[.int .i64 0, .int .i64 0]) 30 23
  generalize ((w.alloc (.cells #[.int .i64 n0, .int .i64 n1, .int .i64 n2, .int .i64 n3, .int .i64 n4, .int .i64 n5, .int .i64 n6, .int .i64 n7, .int .i64 n8, .int .i64 n9, .int .i64 n10, .int .i64 n11, .int .i64 n12, .int .i64 n13, .int .i64 n14, .int .i64 n15, .int .i64 n16, .int .i64 n17, .int .i64 n18, .int .i64 n19, .int .i64 n20, .int .i64 n21, .int .i64 n22, .int .i64 n23] 30)).alloc (.cells #[.int .i64 0, .int .i64 0] 23)) = Wx4 at *
  obtain ⟨mx1, mx2, Bx3⟩ := hst
  have ltx5 := mx1.lt
  have ltx6 := mx2.lt
  obtain ⟨c_n0, c_n1, c_n2, c_n3, c_n4, c_n5, c_n6, c_n7, c_n8, c_n9, c_n10, c_n11, c_n12, c_n13, c_n14, c_n15, c_n16, c_n17, c_n18, c_n19, c_n20, c_n21, c_n22, c_n23⟩ := mx1.l24 (Below.refl _ _)
  refine wp_region_later_tail 10 (by kernel_rfl) (by kernel_rfl) ?_
  simp only [List.take_succ_cons, List.take_zero, List.drop_succ_cons, List.drop_zero]
  repeat (go_big_quiet_step (((go_at_call 43; with_reducible exact later_of ((H.out.at _))))))
  refine wpQuiet_nil ?_
  intro _ hw'
  obtain ⟨zx7, hw''⟩ := hw'
  subst hw''
  clear c_n0 c_n1 c_n2 c_n3 c_n4 c_n5 c_n6 c_n7 c_n8 c_n9 c_n10 c_n11 c_n12 c_n13 c_n14 c_n15 c_n16 c_n17 c_n18 c_n19 c_n20 c_n21 c_n22 c_n23
  have hbx8 := zx7.below
  have mx9 := mx1.keep hbx8
  have mx10 := mx2.keep hbx8
  have Bx11 := Bx3.trans (hbx8.mono Bx3.size)
  have szx12 := hbx8.size
  clear mx1 mx2 Bx3 hbx8
  obtain ⟨c_r0, c_r1⟩ := mx10.c2
  obtain ⟨f_r0, f_r1⟩ := mx10.f2
  go_wp2_with fail
  have hRx13 := mx10.s2 (.int .i64 x) (.int .i64 y)
  obtain ⟨s0, s1⟩ := hRx13.c2
  exact bodyPost_ret (v := .agg #[.int .i64 x, .int .i64 y]) (by simp [results, Try.results16, go_sem, s0, s1]) rfl ⟨rfl, below_s2 Bx11 (by omega) _ _⟩

set_option maxRecDepth 100000 in
set_option maxHeartbeats 2000000 in
theorem lfrac_22 {n0 n1 n2 n3 n4 n5 n6 n7 n8 n9 n10 n11 n12 n13 n14 n15 n16 n17 n18 n19 n20 n21 n22 n23 x y : Int} (h : Does 43 #[.int .i64 n22, .int .i64 n23] (.agg #[.int .i64 x, .int .i64 y])) : Does 16 #[.agg #[.int .i64 n0, .int .i64 n1, .int .i64 n2, .int .i64 n3, .int .i64 n4, .int .i64 n5, .int .i64 n6, .int .i64 n7, .int .i64 n8, .int .i64 n9, .int .i64 n10, .int .i64 n11, .int .i64 n12, .int .i64 n13, .int .i64 n14, .int .i64 n15, .int .i64 n16, .int .i64 n17, .int .i64 n18, .int .i64 n19, .int .i64 n20, .int .i64 n21, .int .i64 n22, .int .i64 n23], .int .i64 22] (.agg #[.int .i64 x, .int .i64 y]) := by
  intro w
  have H := Lib.hid h
  clear h
  go_enter Try.func16, Try.ntmps16
  go_upto_region 1 with fail
  have hst := start2 w (#[.int .i64 n0, .int .i64 n1, .int .i64 n2, .int .i64 n3, .int .i64 n4, .int .i64 n5, .int .i64 n6, .int .i64 n7, .int .i64 n8, .int .i64 n9, .int .i64 n10, .int .i64 n11, .int .i64 n12, .int .i64 n13, .int .i64 n14, .int .i64 n15, .int .i64 n16, .int .i64 n17, .int .i64 n18, .int .i64 n19, .int .i64 n20, .int .i64 n21, .int .i64 n22, .int .i64 n23]) (#[.int .i64 0, .int .i64 0]) 30 23
  generalize ((w.alloc (.cells #[.int .i64 n0, .int .i64 n1, .int .i64 n2, .int .i64 n3, .int .i64 n4, .int .i64 n5, .int .i64 n6, .int .i64 n7, .int .i64 n8, .int .i64 n9, .int .i64 n10, .int .i64 n11, .int .i64 n12, .int .i64 n13, .int .i64 n14, .int .i64 n15, .int .i64 n16, .int .i64 n17, .int .i64 n18, .int .i64 n19, .int .i64 n20, .int .i64 n21, .int .i64 n22, .int .i64 n23] 30)).alloc (.cells #[.int .i64 0, .int .i64 0] 23)) = Wx4 at *
  obtain ⟨mx1, mx2, Bx3⟩ := hst
  have ltx5 := mx1.lt
  have ltx6 := mx2.lt
  obtain ⟨c_n0, c_n1, c_n2, c_n3, c_n4, c_n5, c_n6, c_n7, c_n8, c_n9, c_n10, c_n11, c_n12, c_n13, c_n14, c_n15, c_n16, c_n17, c_n18, c_n19, c_n20, c_n21, c_n22, c_n23⟩ := mx1.l24 (Below.refl _ _)
  refine wp_region_later_tail 10 (by kernel_rfl) (by kernel_rfl) ?_
  simp only [List.take_succ_cons, List.take_zero, List.drop_succ_cons, List.drop_zero]
  repeat (go_big_quiet_step (((go_at_call 43; with_reducible exact later_of ((H.out.at _))))))
  refine wpQuiet_nil ?_
  intro _ hw'
  obtain ⟨zx7, hw''⟩ := hw'
  subst hw''
  clear c_n0 c_n1 c_n2 c_n3 c_n4 c_n5 c_n6 c_n7 c_n8 c_n9 c_n10 c_n11 c_n12 c_n13 c_n14 c_n15 c_n16 c_n17 c_n18 c_n19 c_n20 c_n21 c_n22 c_n23
  have hbx8 := zx7.below
  have mx9 := mx1.keep hbx8
  have mx10 := mx2.keep hbx8
  have Bx11 := Bx3.trans (hbx8.mono Bx3.size)
  have szx12 := hbx8.size
  clear mx1 mx2 Bx3 hbx8
  obtain ⟨c_r0, c_r1⟩ := mx10.c2
  obtain ⟨f_r0, f_r1⟩ := mx10.f2
  go_wp2_with fail
  have hRx13 := mx10.s2 (.int .i64 x) (.int .i64 y)
  obtain ⟨s0, s1⟩ := hRx13.c2
  exact bodyPost_ret (v := .agg #[.int .i64 x, .int .i64 y]) (by simp [results, Try.results16, go_sem, s0, s1]) rfl ⟨rfl, below_s2 Bx11 (by omega) _ _⟩

set_option maxRecDepth 100000 in
set_option maxHeartbeats 2000000 in
theorem lfrac_1 {n0 n1 n2 n3 n4 n5 n6 n7 n8 n9 n10 n11 n12 n13 n14 n15 n16 n17 n18 n19 n20 n21 n22 n23 x y : Int} (h : Does 43 #[.int .i64 n1, .int .i64 n2] (.agg #[.int .i64 x, .int .i64 y])) : Does 16 #[.agg #[.int .i64 n0, .int .i64 n1, .int .i64 n2, .int .i64 n3, .int .i64 n4, .int .i64 n5, .int .i64 n6, .int .i64 n7, .int .i64 n8, .int .i64 n9, .int .i64 n10, .int .i64 n11, .int .i64 n12, .int .i64 n13, .int .i64 n14, .int .i64 n15, .int .i64 n16, .int .i64 n17, .int .i64 n18, .int .i64 n19, .int .i64 n20, .int .i64 n21, .int .i64 n22, .int .i64 n23], .int .i64 1] (.agg #[.int .i64 x, .int .i64 y]) := by
  intro w
  have H := Lib.hid h
  clear h
  go_enter Try.func16, Try.ntmps16
  go_upto_region 1 with fail
  have hst := start2 w (#[.int .i64 n0, .int .i64 n1, .int .i64 n2, .int .i64 n3, .int .i64 n4, .int .i64 n5, .int .i64 n6, .int .i64 n7, .int .i64 n8, .int .i64 n9, .int .i64 n10, .int .i64 n11, .int .i64 n12, .int .i64 n13, .int .i64 n14, .int .i64 n15, .int .i64 n16, .int .i64 n17, .int .i64 n18, .int .i64 n19, .int .i64 n20, .int .i64 n21, .int .i64 n22, .int .i64 n23]) (#[.int .i64 0, .int .i64 0]) 30 23
  generalize ((w.alloc (.cells #[.int .i64 n0, .int .i64 n1, .int .i64 n2, .int .i64 n3, .int .i64 n4, .int .i64 n5, .int .i64 n6, .int .i64 n7, .int .i64 n8, .int .i64 n9, .int .i64 n10, .int .i64 n11, .int .i64 n12, .int .i64 n13, .int .i64 n14, .int .i64 n15, .int .i64 n16, .int .i64 n17, .int .i64 n18, .int .i64 n19, .int .i64 n20, .int .i64 n21, .int .i64 n22, .int .i64 n23] 30)).alloc (.cells #[.int .i64 0, .int .i64 0] 23)) = Wx4 at *
  obtain ⟨mx1, mx2, Bx3⟩ := hst
  have ltx5 := mx1.lt
  have ltx6 := mx2.lt
  obtain ⟨c_n0, c_n1, c_n2, c_n3, c_n4, c_n5, c_n6, c_n7, c_n8, c_n9, c_n10, c_n11, c_n12, c_n13, c_n14, c_n15, c_n16, c_n17, c_n18, c_n19, c_n20, c_n21, c_n22, c_n23⟩ := mx1.l24 (Below.refl _ _)
  refine wp_region_later_tail 10 (by kernel_rfl) (by kernel_rfl) ?_
  simp only [List.take_succ_cons, List.take_zero, List.drop_succ_cons, List.drop_zero]
  repeat (go_big_quiet_step (((go_at_call 43; with_reducible exact later_of ((H.out.at _))))))
  refine wpQuiet_nil ?_
  intro _ hw'
  obtain ⟨zx7, hw''⟩ := hw'
  subst hw''
  clear c_n0 c_n1 c_n2 c_n3 c_n4 c_n5 c_n6 c_n7 c_n8 c_n9 c_n10 c_n11 c_n12 c_n13 c_n14 c_n15 c_n16 c_n17 c_n18 c_n19 c_n20 c_n21 c_n22 c_n23
  have hbx8 := zx7.below
  have mx9 := mx1.keep hbx8
  have mx10 := mx2.keep hbx8
  have Bx11 := Bx3.trans (hbx8.mono Bx3.size)
  have szx12 := hbx8.size
  clear mx1 mx2 Bx3 hbx8
  obtain ⟨c_r0, c_r1⟩ := mx10.c2
  obtain ⟨f_r0, f_r1⟩ := mx10.f2
  go_wp2_with fail
  have hRx13 := mx10.s2 (.int .i64 x) (.int .i64 y)
  obtain ⟨s0, s1⟩ := hRx13.c2
  exact bodyPost_ret (v := .agg #[.int .i64 x, .int .i64 y]) (by simp [results, Try.results16, go_sem, s0, s1]) rfl ⟨rfl, below_s2 Bx11 (by omega) _ _⟩


end Fr
end Go.Proofs.Ytojkaaglmdfcnaa