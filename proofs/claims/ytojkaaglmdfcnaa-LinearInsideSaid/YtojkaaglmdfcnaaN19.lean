/- LinearInside: a part of a box; the walk. -/
import Derived.Test.YtojkaaglmdfcnaaN16
import Derived.Test.YtojkaaglmdfcnaaL6
import Derived.Deep.AppendLies
namespace Go.Proofs.Ytojkaaglmdfcnaa
open Go.RowKit Go.Shelf
namespace Fr
set_option linter.unusedVariables false
set_option linter.unusedSimpArgs false


theorem zrP : Zr Try.prog 31 #[.int .i64 0, .int .i64 0, .int .i64 0, .int .i64 0, .int .i64 0, .int .i64 0] := fun w => by simp [Instr.alloc, go_sem]
theorem BoxL.grown {w w' : World} {b : Nat} {zs : Array Value} {row : Option Nat} (h : BoxL w b zs) (hg : w.grownBy w' row) (hne : some b ≠ row) : BoxL w' b zs :=
  ⟨Nat.lt_of_lt_of_le h.lt hg.size, fun i v hv => ⟨(World.cell?_of_block (hg.block b h.lt hne)).trans (h.cells i v hv).1, (World.frozen?_of_block (hg.block b h.lt hne)).trans (h.cells i v hv).2⟩⟩
theorem row_keep {w w' : World} {base : Nat} {e : TypeId} {size : Nat} {v : Value} {n : Nat} {vs : List Value} (h : w.ownsRow base e size v n vs) (hb : Below w.heap.size w w') : w'.ownsRow base e size v n vs := by
  refine ⟨h.1, ?_⟩
  rcases h.2 with h2 | ⟨g, cap, cur, h1, h2, h3, h4⟩
  · exact .inl h2
  · exact .inr ⟨g, cap, cur, h1, h2, (hb.block g (Array.getElem?_eq_some_iff.1 h3).1).trans h3, h4⟩
theorem row_own {w : World} {base : Nat} {e : TypeId} {size : Nat} {v : Value} {n : Nat} {vs : List Value} (h : w.ownsRow base e size v n vs) : ∀ g, v.ownBlock = some g → base ≤ g := by
  rcases h.2 with ⟨rfl, _⟩ | ⟨g, cap, cur, rfl, h2, _⟩
  · intro g hg; cases hg
  · intro g' hg; cases hg; exact h2
/-- An owned row that is not empty: its block reads as a list of cells. -/
theorem row_box {w : World} {base : Nat} {e : TypeId} {size : Nat} {v : Value} {n : Nat} {vs : List Value} (h : w.ownsRow base e size v n vs) (hn : 0 < n) : ∃ g cap, v = .slice (some ⟨g, 0, none⟩) n cap ∧ BoxL w g vs.toArray ∧ base ≤ g := by
  rcases h.2 with ⟨_, h0⟩ | ⟨g, cap, cur, h1, h2, h3, h4, h5, h6, h7⟩
  · omega
  · refine ⟨g, cap, h1, ⟨(Array.getElem?_eq_some_iff.1 h3).1, fun i v hv => ?_⟩, h2⟩
    have hv' : vs[i]? = some v := by simpa using hv
    rw [← h7, List.getElem?_take] at hv'
    split at hv'
    · refine ⟨?_, by simp [World.frozen?, h3]⟩
      simpa [World.cell?, h3] using hv'
    · cases hv'
theorem infoI : (Try.prog.info? 27).map (fun i => (i.zero, i.size, i.bytes)) = some (some (.agg #[.int .i64 0, .int .i64 0, .int .i64 0, .int .i64 0]), 4, 32) := by kernel_rfl
theorem parts_of {o : Option TypeInfo} {z : Value} {s b : Nat} (h : o.map (fun i => (i.zero, i.size, i.bytes)) = some (some z, s, b)) : ∃ i, o = some i ∧ i.zero = some z ∧ i.size = s ∧ i.bytes = b := by
  cases o with
  | none => cases h
  | some i => simp only [Option.map_some, Option.some.injEq, Prod.mk.injEq] at h; exact ⟨i, rfl, h.1, h.2.1, h.2.2⟩
def hullP (q r : Rat) : IQ := ⟨rmin q r, rmax q r⟩
def partQ (p q : PQ) : BQ := ⟨hullP p.x q.x, hullP p.y q.y, hullP p.z q.z⟩
theorem hullP_in {i : IQ} {q r : Rat} (h1 : i.lo ≤ q ∧ q ≤ i.hi) (h2 : i.lo ≤ r ∧ r ≤ i.hi) : i.lo ≤ (hullP q r).lo ∧ (hullP q r).hi ≤ i.hi := by
  unfold hullP rmin rmax
  simp only
  constructor <;> split <;> grind
/-- What holds at the head of the loop of Part. -/
def PartAt (w : World) (pb qb base : Nat) (p0 p1 p2 p3 p4 p5 q0 q1 q2 q3 q4 q5 : Int) (vals : List Value) (v i : Value) (wr : World) : Prop :=
  ∃ k : Nat, i = .int .i64 k ∧ k ≤ 3 ∧ wr.ownsRow base 27 4 v k (vals.take (4 * k)) ∧ BoxL wr pb #[.int .i64 p0, .int .i64 p1, .int .i64 p2, .int .i64 p3, .int .i64 p4, .int .i64 p5] ∧ BoxL wr qb #[.int .i64 q0, .int .i64 q1, .int .i64 q2, .int .i64 q3, .int .i64 q4, .int .i64 q5] ∧ BoxL wr (w.heap.size + 1 + 1) #[.int .i64 0, .int .i64 0, .int .i64 0, .int .i64 0, .int .i64 0, .int .i64 0, .int .i64 0, .int .i64 0, .int .i64 0, .int .i64 0, .int .i64 0, .int .i64 0] ∧ Below w.heap.size w wr ∧ w.heap.size + 1 + 1 < base ∧ pb < base ∧ qb < base ∧ base < wr.heap.size

set_option maxRecDepth 100000 in
set_option maxHeartbeats 2000000 in
theorem part_ {p q : PQ} {b0 b1 b2 b3 b4 b5 b6 b7 b8 b9 b10 b11 p0 p1 p2 p3 p4 p5 q0 q1 q2 q3 q4 q5 c0 c1 c2 c3 c4 c5 c6 c7 c8 c9 c10 c11 : Int} (k0 k1 k2 k3 k4 k5 : Int) (TP : Does 40 #[.agg #[.int .i64 b0, .int .i64 b1, .int .i64 b2, .int .i64 b3, .int .i64 b4, .int .i64 b5, .int .i64 b6, .int .i64 b7, .int .i64 b8, .int .i64 b9, .int .i64 b10, .int .i64 b11], .agg #[.int .u8 k0, .int .u8 k1, .int .u8 k2]] (.agg #[.int .i64 p0, .int .i64 p1, .int .i64 p2, .int .i64 p3, .int .i64 p4, .int .i64 p5])) (TQ : Does 40 #[.agg #[.int .i64 b0, .int .i64 b1, .int .i64 b2, .int .i64 b3, .int .i64 b4, .int .i64 b5, .int .i64 b6, .int .i64 b7, .int .i64 b8, .int .i64 b9, .int .i64 b10, .int .i64 b11], .agg #[.int .u8 k3, .int .u8 k4, .int .u8 k5]] (.agg #[.int .i64 q0, .int .i64 q1, .int .i64 q2, .int .i64 q3, .int .i64 q4, .int .i64 q5])) (hp : IsP p p0 p1 p2 p3 p4 p5) (hq : IsP q q0 q1 q2 q3 q4 q5) (hr : IsBx (partQ p q) c0 c1 c2 c3 c4 c5 c6 c7 c8 c9 c10 c11) : Does 46 #[.agg #[.int .i64 b0, .int .i64 b1, .int .i64 b2, .int .i64 b3, .int .i64 b4, .int .i64 b5, .int .i64 b6, .int .i64 b7, .int .i64 b8, .int .i64 b9, .int .i64 b10, .int .i64 b11], .agg #[.int .u8 k0, .int .u8 k1, .int .u8 k2, .int .u8 k3, .int .u8 k4, .int .u8 k5]] (.agg #[.int .i64 c0, .int .i64 c1, .int .i64 c2, .int .i64 c3, .int .i64 c4, .int .i64 c5, .int .i64 c6, .int .i64 c7, .int .i64 c8, .int .i64 c9, .int .i64 c10, .int .i64 c11]) := by
  intro w
  have MN0 := Lib.hid (frmin hp.x hq.x hr.t.lo)
  have MX0 := Lib.hid (frmax hp.x hq.x hr.t.hi)
  have MN1 := Lib.hid (frmin hp.y hq.y hr.v.lo)
  have MX1 := Lib.hid (frmax hp.y hq.y hr.v.hi)
  have MN2 := Lib.hid (frmin hp.z hq.z hr.a.lo)
  have MX2 := Lib.hid (frmax hp.z hq.z hr.a.hi)
  have TP := Lib.hid TP
  have TQ := Lib.hid TQ
  clear hp hq hr
  obtain ⟨i0, hi0, hz0, hz1, hz2⟩ := parts_of infoI
  go_enter Try.func46, Try.ntmps46
  go_upto_region 1 with fail
  have hst := start3 w (#[.int .i64 b0, .int .i64 b1, .int .i64 b2, .int .i64 b3, .int .i64 b4, .int .i64 b5, .int .i64 b6, .int .i64 b7, .int .i64 b8, .int .i64 b9, .int .i64 b10, .int .i64 b11]) (#[.int .u8 k0, .int .u8 k1, .int .u8 k2, .int .u8 k3, .int .u8 k4, .int .u8 k5]) (#[.int .i64 0, .int .i64 0, .int .i64 0, .int .i64 0, .int .i64 0, .int .i64 0, .int .i64 0, .int .i64 0, .int .i64 0, .int .i64 0, .int .i64 0, .int .i64 0]) 29 76 29
  generalize (((w.alloc (.cells #[.int .i64 b0, .int .i64 b1, .int .i64 b2, .int .i64 b3, .int .i64 b4, .int .i64 b5, .int .i64 b6, .int .i64 b7, .int .i64 b8, .int .i64 b9, .int .i64 b10, .int .i64 b11] 29)).alloc (.cells #[.int .u8 k0, .int .u8 k1, .int .u8 k2, .int .u8 k3, .int .u8 k4, .int .u8 k5] 76)).alloc (.cells #[.int .i64 0, .int .i64 0, .int .i64 0, .int .i64 0, .int .i64 0, .int .i64 0, .int .i64 0, .int .i64 0, .int .i64 0, .int .i64 0, .int .i64 0, .int .i64 0] 29)) = Wx5 at *
  obtain ⟨mx1, mx2, mx3, Bx4⟩ := hst
  have ltx6 := mx1.lt
  have ltx7 := mx2.lt
  have ltx8 := mx3.lt
  have ltx9 := mx1.lt
  have ltx10 := mx2.lt
  have ltx11 := mx3.lt
  refine wp_region_free2 (agf := ?frx12) 20 18 19 zrP zrP (by kernel_rfl) [] (by kernel_rfl) (fun d _ _ _ _ h => by cases d <;> exact h) (by decide) (by rfl) (by rfl) (by rfl) (by rfl) ?frx121 ?frx122
  case frx121 =>
    intro W hW
    obtain ⟨c_b0, c_b1, c_b2, c_b3, c_b4, c_b5, c_b6, c_b7, c_b8, c_b9, c_b10, c_b11⟩ := mx1.l12 hW
    obtain ⟨c_k0, c_k1, c_k2, c_k3, c_k4, c_k5⟩ := mx2.l6 hW
    simp only [List.take_succ_cons, List.take_zero, ghostL, List.contains_cons, List.contains_nil, Nat.reduceAdd, Nat.reduceBEq, Bool.or_false, Bool.or_true, Bool.true_or, Bool.false_or, Bool.false_eq_true, if_false, if_true, ghostO]
    repeat (go_big_quiet_step (((go_at_call 40; first | with_reducible exact later_of ((TP.out.at _)) | with_reducible exact later_of ((TQ.out.at _))))))
    refine wpQuiet_nil ?_
    rfl
  case frx122 =>
    intro bx15 bx16 Wx13 hbx14 mx17 mx18 gx19 gx20 nex21
    simp only [List.drop_succ_cons, List.drop_zero, Act.put, List.setIfInBounds_toArray, List.set_cons_succ, List.set_cons_zero]
    have mx22 := mx1.keep hbx14
    have mx23 := mx2.keep hbx14
    have mx24 := mx3.keep hbx14
    have Bx25 := Bx4.trans (hbx14.mono Bx4.size)
    have szx26 := hbx14.size
    clear mx1 mx2 mx3 Bx4 hbx14
    have ltx27 := mx17.lt
    have ltx28 := mx18.lt
    obtain ⟨c_p0, c_p1, c_p2, c_p3, c_p4, c_p5⟩ := mx17.c6
    obtain ⟨f_p0, f_p1, f_p2, f_p3, f_p4, f_p5⟩ := mx17.f6
    obtain ⟨c_q0, c_q1, c_q2, c_q3, c_q4, c_q5⟩ := mx18.c6
    obtain ⟨f_q0, f_q1, f_q2, f_q3, f_q4, f_q5⟩ := mx18.f6
    go_upto_region 2 with fail
    clear c_p0 c_p1 c_p2 c_p3 c_p4 c_p5 f_p0 f_p1 f_p2 f_p3 f_p4 f_p5
    clear c_q0 c_q1 c_q2 c_q3 c_q4 c_q5 f_q0 f_q1 f_q2 f_q3 f_q4 f_q5
    have mx30 := mx17.s6 (.int .i64 p0) (.int .i64 p1) (.int .i64 p2) (.int .i64 p3) (.int .i64 p4) (.int .i64 p5)
    have mx31 := mx22.z6 (b := bx15) (by omega) (.int .i64 p0) (.int .i64 p1) (.int .i64 p2) (.int .i64 p3) (.int .i64 p4) (.int .i64 p5)
    have mx32 := mx23.z6 (b := bx15) (by omega) (.int .i64 p0) (.int .i64 p1) (.int .i64 p2) (.int .i64 p3) (.int .i64 p4) (.int .i64 p5)
    have mx33 := mx24.z6 (b := bx15) (by omega) (.int .i64 p0) (.int .i64 p1) (.int .i64 p2) (.int .i64 p3) (.int .i64 p4) (.int .i64 p5)
    have mx34 := mx18.z6 (b := bx15) (by omega) (.int .i64 p0) (.int .i64 p1) (.int .i64 p2) (.int .i64 p3) (.int .i64 p4) (.int .i64 p5)
    have Bx35 := below_s6 (b := bx15) Bx25 (by omega) (.int .i64 p0) (.int .i64 p1) (.int .i64 p2) (.int .i64 p3) (.int .i64 p4) (.int .i64 p5)
    have ltx36 := mx30.lt
    generalize ((((((Wx13.setCell ⟨bx15, 0, none⟩ (.int .i64 p0)).setCell ⟨bx15, 1, none⟩ (.int .i64 p1)).setCell ⟨bx15, 2, none⟩ (.int .i64 p2)).setCell ⟨bx15, 3, none⟩ (.int .i64 p3)).setCell ⟨bx15, 4, none⟩ (.int .i64 p4)).setCell ⟨bx15, 5, none⟩ (.int .i64 p5)) = Wx29 at *
    clear mx17 mx22 mx23 mx24 mx18 Bx25
    have mx38 := mx34.s6 (.int .i64 q0) (.int .i64 q1) (.int .i64 q2) (.int .i64 q3) (.int .i64 q4) (.int .i64 q5)
    have mx39 := mx31.z6 (b := bx16) (by omega) (.int .i64 q0) (.int .i64 q1) (.int .i64 q2) (.int .i64 q3) (.int .i64 q4) (.int .i64 q5)
    have mx40 := mx32.z6 (b := bx16) (by omega) (.int .i64 q0) (.int .i64 q1) (.int .i64 q2) (.int .i64 q3) (.int .i64 q4) (.int .i64 q5)
    have mx41 := mx33.z6 (b := bx16) (by omega) (.int .i64 q0) (.int .i64 q1) (.int .i64 q2) (.int .i64 q3) (.int .i64 q4) (.int .i64 q5)
    have mx42 := mx30.z6 (b := bx16) (by omega) (.int .i64 q0) (.int .i64 q1) (.int .i64 q2) (.int .i64 q3) (.int .i64 q4) (.int .i64 q5)
    have Bx43 := below_s6 (b := bx16) Bx35 (by omega) (.int .i64 q0) (.int .i64 q1) (.int .i64 q2) (.int .i64 q3) (.int .i64 q4) (.int .i64 q5)
    have ltx44 := mx38.lt
    generalize ((((((Wx29.setCell ⟨bx16, 0, none⟩ (.int .i64 q0)).setCell ⟨bx16, 1, none⟩ (.int .i64 q1)).setCell ⟨bx16, 2, none⟩ (.int .i64 q2)).setCell ⟨bx16, 3, none⟩ (.int .i64 q3)).setCell ⟨bx16, 4, none⟩ (.int .i64 q4)).setCell ⟨bx16, 5, none⟩ (.int .i64 q5)) = Wx37 at *
    clear mx34 mx31 mx32 mx33 mx30 Bx35
    have ltx45 := mx39.lt
    have ltx46 := mx40.lt
    have ltx47 := mx41.lt
    have ltx48 := mx42.lt
    have ltx49 := mx38.lt
    have HO := Lib.hid (World.ownsRow_lit (base := Wx37.heap.size) (e := 27) (size := 4) Wx37 #[] 0 (Nat.le_refl _) (by unfold maxLen; omega) rfl)
    have hbx50 := (Below.refl Wx37.heap.size Wx37).alloc (Nat.le_refl _) (.cells #[] 27)
    have hsz : Wx37.heap.size < (Wx37.alloc (.cells #[] 27)).heap.size := by simp
    have mx52 := mx39.keep hbx50
    have mx53 := mx40.keep hbx50
    have mx54 := mx41.keep hbx50
    have mx55 := mx42.keep hbx50
    have mx56 := mx38.keep hbx50
    have Bx57 := Bx43.trans (hbx50.mono Bx43.size)
    have szx58 := hbx50.size
    clear mx39 mx40 mx41 mx42 mx38 Bx43 hbx50
    go_upto_region 4 with fail
    have HS : Hid (PartAt w (bx15) (bx16) Wx37.heap.size p0 p1 p2 p3 p4 p5 q0 q1 q2 q3 q4 q5 [.int .i64 c0, .int .i64 c1, .int .i64 c2, .int .i64 c3, .int .i64 c4, .int .i64 c5, .int .i64 c6, .int .i64 c7, .int .i64 c8, .int .i64 c9, .int .i64 c10, .int .i64 c11] (.slice (some ⟨Wx37.heap.size, 0, none⟩) 0 0) (.int .i64 0) (Wx37.alloc (.cells #[] 27))) := Lib.hid ⟨0, rfl, by omega, HO.out, mx55, mx56, mx54, Bx57, by omega, by omega, by omega, hsz⟩
    clear HO hsz mx52 mx53 mx54 mx55 mx56 Bx57
    go_loopw [7, 8] (fun v i wr => PartAt w (bx15) (bx16) Wx37.heap.size p0 p1 p2 p3 p4 p5 q0 q1 q2 q3 q4 q5 [.int .i64 c0, .int .i64 c1, .int .i64 c2, .int .i64 c3, .int .i64 c4, .int .i64 c5, .int .i64 c6, .int .i64 c7, .int .i64 c8, .int .i64 c9, .int .i64 c10, .int .i64 c11] v i wr) (fun _ i _ => 3 - (intOf i).toNat)
    case atStart => exact HS.out
    case round =>
      obtain ⟨k, rfl, hk, hrow, m0, m1, m2, B0, e0, e1, e2, e3⟩ := hrel
      clear HS
      obtain rfl | rfl | rfl | rfl : k = 0 ∨ k = 1 ∨ k = 2 ∨ k = 3 := by omega
      · have HROW := Lib.hid hrow
        have HOWN := Lib.hid (row_own hrow)
        clear hrow
        have ltx59 := m0.lt
        have ltx60 := m1.lt
        have ltx61 := m2.lt
        go_upto_region 6 with fail
        have ltx62 := m0.lt
        have ltx63 := m1.lt
        have ltx64 := m2.lt
        refine More.wp_region_free0 (agf := ?frx65) 16 (by kernel_rfl) [0] (by kernel_rfl) (fun d _ _ _ _ h => by cases d <;> exact h) ?frx651 ?frx652
        case frx651 =>
          intro W hW
          obtain ⟨c_p0, c_p1, c_p2, c_p3, c_p4, c_p5⟩ := m0.l6 hW
          obtain ⟨c_q0, c_q1, c_q2, c_q3, c_q4, c_q5⟩ := m1.l6 hW
          simp only [List.take_succ_cons, List.take_zero, ghostL, List.contains_cons, List.contains_nil, Nat.reduceAdd, Nat.reduceBEq, Bool.or_false, Bool.or_true, Bool.true_or, Bool.false_or, Bool.false_eq_true, if_false, if_true, ghostO]
          repeat (go_big_quiet_step (((first | (go_at_call 54; with_reducible exact later_of ((MN0.out.at _))) | (go_at_call 55; with_reducible exact later_of ((MX0.out.at _)))))))
          refine wpQuiet_nil ?_
          rfl
        case frx652 =>
          intro Wx66 hbx67
          simp only [List.drop_succ_cons, List.drop_zero, Act.put, List.setIfInBounds_toArray, List.set_cons_succ, List.set_cons_zero]
          have HROW2 := Lib.hid (row_keep HROW.out hbx67)
          clear HROW
          have mx68 := m0.keep hbx67
          have mx69 := m1.keep hbx67
          have mx70 := m2.keep hbx67
          have Bx71 := B0.trans (hbx67.mono B0.size)
          have szx72 := hbx67.size
          clear m0 m1 m2 B0 hbx67
          have ltx73 := mx68.lt
          have ltx74 := mx69.lt
          have ltx75 := mx70.lt
          go_wp2_with (at_builtin; refine wpList_append_own _ rfl _ _ 113 rfl Wx37.heap.size 27 i0 (.agg #[.int .i64 0, .int .i64 0, .int .i64 0, .int .i64 0]) 4 32 Try.underlying113 hi0 hz0 hz1 hz2 rfl (by decide) _ _ _ rfl (row_keep HROW2.out ((Below.refl _ _).alloc (Nat.le_refl _) _)) ⟨Wx66.heap.size, 0, none⟩ 1 1 [.int .i64 c0, .int .i64 c1, .int .i64 c2, .int .i64 c3] rfl rfl (World.news_of_block (cs := #[.int .i64 c0, .int .i64 c1, .int .i64 c2, .int .i64 c3]) (t := 27) (fr := (0, 0)) (heap_alloc_new Wx66 _)) (by simp [Value.oneCell']) (by unfold maxLen; omega) (by omega) (by simp; omega) ?_; intro v2 w1 hown1 hgrow1 _)
          go_roundw
          case rel =>
            have hsz := hgrow1.size
            simp only [World.size_alloc] at hsz
            exact ⟨1, rfl, by omega, hown1, ((mx68.keep ((Below.refl _ Wx66).alloc (Nat.le_refl _) (.cells #[.int .i64 c0, .int .i64 c1, .int .i64 c2, .int .i64 c3] 27))).grown hgrow1 (fun h => by have := HOWN.out _ h.symm; omega)), ((mx69.keep ((Below.refl _ Wx66).alloc (Nat.le_refl _) (.cells #[.int .i64 c0, .int .i64 c1, .int .i64 c2, .int .i64 c3] 27))).grown hgrow1 (fun h => by have := HOWN.out _ h.symm; omega)), ((mx70.keep ((Below.refl _ Wx66).alloc (Nat.le_refl _) (.cells #[.int .i64 c0, .int .i64 c1, .int .i64 c2, .int .i64 c3] 27))).grown hgrow1 (fun h => by have := HOWN.out _ h.symm; omega)), (Bx71.alloc (by omega) _).grown hgrow1 (by simp; omega) (fun g hg => by have := HOWN.out g hg; omega), e0, e1, e2, by omega⟩
          case measure => simp [intOf]
      · have HROW := Lib.hid hrow
        have HOWN := Lib.hid (row_own hrow)
        clear hrow
        have ltx76 := m0.lt
        have ltx77 := m1.lt
        have ltx78 := m2.lt
        go_upto_region 6 with fail
        have ltx79 := m0.lt
        have ltx80 := m1.lt
        have ltx81 := m2.lt
        refine More.wp_region_free0 (agf := ?frx82) 16 (by kernel_rfl) [0] (by kernel_rfl) (fun d _ _ _ _ h => by cases d <;> exact h) ?frx821 ?frx822
        case frx821 =>
          intro W hW
          obtain ⟨c_p0, c_p1, c_p2, c_p3, c_p4, c_p5⟩ := m0.l6 hW
          obtain ⟨c_q0, c_q1, c_q2, c_q3, c_q4, c_q5⟩ := m1.l6 hW
          simp only [List.take_succ_cons, List.take_zero, ghostL, List.contains_cons, List.contains_nil, Nat.reduceAdd, Nat.reduceBEq, Bool.or_false, Bool.or_true, Bool.true_or, Bool.false_or, Bool.false_eq_true, if_false, if_true, ghostO]
          repeat (go_big_quiet_step (((first | (go_at_call 54; with_reducible exact later_of ((MN1.out.at _))) | (go_at_call 55; with_reducible exact later_of ((MX1.out.at _)))))))
          refine wpQuiet_nil ?_
          rfl
        case frx822 =>
          intro Wx83 hbx84
          simp only [List.drop_succ_cons, List.drop_zero, Act.put, List.setIfInBounds_toArray, List.set_cons_succ, List.set_cons_zero]
          have HROW2 := Lib.hid (row_keep HROW.out hbx84)
          clear HROW
          have mx85 := m0.keep hbx84
          have mx86 := m1.keep hbx84
          have mx87 := m2.keep hbx84
          have Bx88 := B0.trans (hbx84.mono B0.size)
          have szx89 := hbx84.size
          clear m0 m1 m2 B0 hbx84
          have ltx90 := mx85.lt
          have ltx91 := mx86.lt
          have ltx92 := mx87.lt
          go_wp2_with (at_builtin; refine wpList_append_own _ rfl _ _ 113 rfl Wx37.heap.size 27 i0 (.agg #[.int .i64 0, .int .i64 0, .int .i64 0, .int .i64 0]) 4 32 Try.underlying113 hi0 hz0 hz1 hz2 rfl (by decide) _ _ _ rfl (row_keep HROW2.out ((Below.refl _ _).alloc (Nat.le_refl _) _)) ⟨Wx83.heap.size, 0, none⟩ 1 1 [.int .i64 c4, .int .i64 c5, .int .i64 c6, .int .i64 c7] rfl rfl (World.news_of_block (cs := #[.int .i64 c4, .int .i64 c5, .int .i64 c6, .int .i64 c7]) (t := 27) (fr := (0, 0)) (heap_alloc_new Wx83 _)) (by simp [Value.oneCell']) (by unfold maxLen; omega) (by omega) (by simp; omega) ?_; intro v2 w1 hown1 hgrow1 _)
          go_roundw
          case rel =>
            have hsz := hgrow1.size
            simp only [World.size_alloc] at hsz
            exact ⟨2, rfl, by omega, hown1, ((mx85.keep ((Below.refl _ Wx83).alloc (Nat.le_refl _) (.cells #[.int .i64 c4, .int .i64 c5, .int .i64 c6, .int .i64 c7] 27))).grown hgrow1 (fun h => by have := HOWN.out _ h.symm; omega)), ((mx86.keep ((Below.refl _ Wx83).alloc (Nat.le_refl _) (.cells #[.int .i64 c4, .int .i64 c5, .int .i64 c6, .int .i64 c7] 27))).grown hgrow1 (fun h => by have := HOWN.out _ h.symm; omega)), ((mx87.keep ((Below.refl _ Wx83).alloc (Nat.le_refl _) (.cells #[.int .i64 c4, .int .i64 c5, .int .i64 c6, .int .i64 c7] 27))).grown hgrow1 (fun h => by have := HOWN.out _ h.symm; omega)), (Bx88.alloc (by omega) _).grown hgrow1 (by simp; omega) (fun g hg => by have := HOWN.out g hg; omega), e0, e1, e2, by omega⟩
          case measure => simp [intOf]
      · have HROW := Lib.hid hrow
        have HOWN := Lib.hid (row_own hrow)
        clear hrow
        have ltx93 := m0.lt
        have ltx94 := m1.lt
        have ltx95 := m2.lt
        go_upto_region 6 with fail
        have ltx96 := m0.lt
        have ltx97 := m1.lt
        have ltx98 := m2.lt
        refine More.wp_region_free0 (agf := ?frx99) 16 (by kernel_rfl) [0] (by kernel_rfl) (fun d _ _ _ _ h => by cases d <;> exact h) ?frx991 ?frx992
        case frx991 =>
          intro W hW
          obtain ⟨c_p0, c_p1, c_p2, c_p3, c_p4, c_p5⟩ := m0.l6 hW
          obtain ⟨c_q0, c_q1, c_q2, c_q3, c_q4, c_q5⟩ := m1.l6 hW
          simp only [List.take_succ_cons, List.take_zero, ghostL, List.contains_cons, List.contains_nil, Nat.reduceAdd, Nat.reduceBEq, Bool.or_false, Bool.or_true, Bool.true_or, Bool.false_or, Bool.false_eq_true, if_false, if_true, ghostO]
          repeat (go_big_quiet_step (((first | (go_at_call 54; with_reducible exact later_of ((MN2.out.at _))) | (go_at_call 55; with_reducible exact later_of ((MX2.out.at _)))))))
          refine wpQuiet_nil ?_
          rfl
        case frx992 =>
          intro Wx100 hbx101
          simp only [List.drop_succ_cons, List.drop_zero, Act.put, List.setIfInBounds_toArray, List.set_cons_succ, List.set_cons_zero]
          have HROW2 := Lib.hid (row_keep HROW.out hbx101)
          clear HROW
          have mx102 := m0.keep hbx101
          have mx103 := m1.keep hbx101
          have mx104 := m2.keep hbx101
          have Bx105 := B0.trans (hbx101.mono B0.size)
          have szx106 := hbx101.size
          clear m0 m1 m2 B0 hbx101
          have ltx107 := mx102.lt
          have ltx108 := mx103.lt
          have ltx109 := mx104.lt
          go_wp2_with (at_builtin; refine wpList_append_own _ rfl _ _ 113 rfl Wx37.heap.size 27 i0 (.agg #[.int .i64 0, .int .i64 0, .int .i64 0, .int .i64 0]) 4 32 Try.underlying113 hi0 hz0 hz1 hz2 rfl (by decide) _ _ _ rfl (row_keep HROW2.out ((Below.refl _ _).alloc (Nat.le_refl _) _)) ⟨Wx100.heap.size, 0, none⟩ 1 1 [.int .i64 c8, .int .i64 c9, .int .i64 c10, .int .i64 c11] rfl rfl (World.news_of_block (cs := #[.int .i64 c8, .int .i64 c9, .int .i64 c10, .int .i64 c11]) (t := 27) (fr := (0, 0)) (heap_alloc_new Wx100 _)) (by simp [Value.oneCell']) (by unfold maxLen; omega) (by omega) (by simp; omega) ?_; intro v2 w1 hown1 hgrow1 _)
          go_roundw
          case rel =>
            have hsz := hgrow1.size
            simp only [World.size_alloc] at hsz
            exact ⟨3, rfl, by omega, hown1, ((mx102.keep ((Below.refl _ Wx100).alloc (Nat.le_refl _) (.cells #[.int .i64 c8, .int .i64 c9, .int .i64 c10, .int .i64 c11] 27))).grown hgrow1 (fun h => by have := HOWN.out _ h.symm; omega)), ((mx103.keep ((Below.refl _ Wx100).alloc (Nat.le_refl _) (.cells #[.int .i64 c8, .int .i64 c9, .int .i64 c10, .int .i64 c11] 27))).grown hgrow1 (fun h => by have := HOWN.out _ h.symm; omega)), ((mx104.keep ((Below.refl _ Wx100).alloc (Nat.le_refl _) (.cells #[.int .i64 c8, .int .i64 c9, .int .i64 c10, .int .i64 c11] 27))).grown hgrow1 (fun h => by have := HOWN.out _ h.symm; omega)), (Bx105.alloc (by omega) _).grown hgrow1 (by simp; omega) (fun g hg => by have := HOWN.out g hg; omega), e0, e1, e2, by omega⟩
          case measure => simp [intOf]
      · obtain ⟨g, cap, rfl, mi, hg⟩ := row_box hrow (by omega)
        have mi2 : BoxL wr g #[.int .i64 c0, .int .i64 c1, .int .i64 c2, .int .i64 c3, .int .i64 c4, .int .i64 c5, .int .i64 c6, .int .i64 c7, .int .i64 c8, .int .i64 c9, .int .i64 c10, .int .i64 c11] := mi
        clear mi hrow
        go_upto_region 7 with fail
        obtain ⟨c_i0, c_i1, c_i2, c_i3, c_i4, c_i5, c_i6, c_i7, c_i8, c_i9, c_i10, c_i11⟩ := mi2.l12 (Below.refl _ _)
        refine wp_region_later_tail 10 (by kernel_rfl) (by kernel_rfl) ?_
        simp only [List.take_succ_cons, List.take_zero, List.drop_succ_cons, List.drop_zero]
        repeat (go_big_quiet_step (fail))
        refine wpQuiet_nil ?_
        intro _ hw'
        obtain ⟨zx110, hw''⟩ := hw'
        subst hw''
        clear c_i0 c_i1 c_i2 c_i3 c_i4 c_i5 c_i6 c_i7 c_i8 c_i9 c_i10 c_i11
        have hbx111 := zx110.below
        have mx112 := m0.keep hbx111
        have mx113 := m1.keep hbx111
        have mx114 := m2.keep hbx111
        have mx115 := mi2.keep hbx111
        have Bx116 := B0.trans (hbx111.mono B0.size)
        have szx117 := hbx111.size
        clear m0 m1 m2 mi2 B0 hbx111
        obtain ⟨c_r0, c_r1, c_r2, c_r3, c_r4, c_r5, c_r6, c_r7, c_r8, c_r9, c_r10, c_r11⟩ := mx114.c12
        obtain ⟨f_r0, f_r1, f_r2, f_r3, f_r4, f_r5, f_r6, f_r7, f_r8, f_r9, f_r10, f_r11⟩ := mx114.f12
        go_wp2_with fail
        have hRx118 := mx114.s12 (.int .i64 c0) (.int .i64 c1) (.int .i64 c2) (.int .i64 c3) (.int .i64 c4) (.int .i64 c5) (.int .i64 c6) (.int .i64 c7) (.int .i64 c8) (.int .i64 c9) (.int .i64 c10) (.int .i64 c11)
        obtain ⟨s0, s1, s2, s3, s4, s5, s6, s7, s8, s9, s10, s11⟩ := hRx118.c12
        exact bodyPost_ret (v := .agg #[.int .i64 c0, .int .i64 c1, .int .i64 c2, .int .i64 c3, .int .i64 c4, .int .i64 c5, .int .i64 c6, .int .i64 c7, .int .i64 c8, .int .i64 c9, .int .i64 c10, .int .i64 c11]) (by simp [results, Try.results46, go_sem, s0, s1, s2, s3, s4, s5, s6, s7, s8, s9, s10, s11]) rfl ⟨rfl, below_s12 Bx116 (by omega) _ _ _ _ _ _ _ _ _ _ _ _⟩

/-- Two boxes are the same. -/
def eqBox (c0 c1 c2 c3 c4 c5 c6 c7 c8 c9 c10 c11 b0 b1 b2 b3 b4 b5 b6 b7 b8 b9 b10 b11 : Int) : Bool := decide (c0 = b0) && decide (c1 = b1) && decide (c2 = b2) && decide (c3 = b3) && decide (c4 = b4) && decide (c5 = b5) && decide (c6 = b6) && decide (c7 = b7) && decide (c8 = b8) && decide (c9 = b9) && decide (c10 = b10) && decide (c11 = b11)
set_option maxHeartbeats 2000000 in
theorem eql_box (c0 c1 c2 c3 c4 c5 c6 c7 c8 c9 c10 c11 b0 b1 b2 b3 b4 b5 b6 b7 b8 b9 b10 b11 : Int) (W : World) : (binOp .eql 29 (.agg #[.int .i64 c0, .int .i64 c1, .int .i64 c2, .int .i64 c3, .int .i64 c4, .int .i64 c5, .int .i64 c6, .int .i64 c7, .int .i64 c8, .int .i64 c9, .int .i64 c10, .int .i64 c11]) (.agg #[.int .i64 b0, .int .i64 b1, .int .i64 b2, .int .i64 b3, .int .i64 b4, .int .i64 b5, .int .i64 b6, .int .i64 b7, .int .i64 b8, .int .i64 b9, .int .i64 b10, .int .i64 b11])).run Try.prog W = .ok (.bool (eqBox c0 c1 c2 c3 c4 c5 c6 c7 c8 c9 c10 c11 b0 b1 b2 b3 b4 b5 b6 b7 b8 b9 b10 b11)) W := by
  by_cases h0 : c0 = b0
  rotate_left
  · simp [eqBox, go_sem, h0]
  subst h0
  by_cases h1 : c1 = b1
  rotate_left
  · simp [eqBox, go_sem, h1]
  subst h1
  by_cases h2 : c2 = b2
  rotate_left
  · simp [eqBox, go_sem, h2]
  subst h2
  by_cases h3 : c3 = b3
  rotate_left
  · simp [eqBox, go_sem, h3]
  subst h3
  by_cases h4 : c4 = b4
  rotate_left
  · simp [eqBox, go_sem, h4]
  subst h4
  by_cases h5 : c5 = b5
  rotate_left
  · simp [eqBox, go_sem, h5]
  subst h5
  by_cases h6 : c6 = b6
  rotate_left
  · simp [eqBox, go_sem, h6]
  subst h6
  by_cases h7 : c7 = b7
  rotate_left
  · simp [eqBox, go_sem, h7]
  subst h7
  by_cases h8 : c8 = b8
  rotate_left
  · simp [eqBox, go_sem, h8]
  subst h8
  by_cases h9 : c9 = b9
  rotate_left
  · simp [eqBox, go_sem, h9]
  subst h9
  by_cases h10 : c10 = b10
  rotate_left
  · simp [eqBox, go_sem, h10]
  subst h10
  by_cases h11 : c11 = b11
  rotate_left
  · simp [eqBox, go_sem, h11]
  subst h11
  simp [eqBox, go_sem]
attribute [local go_sem high] eql_box
theorem eqBox_same (b0 b1 b2 b3 b4 b5 b6 b7 b8 b9 b10 b11 : Int) : eqBox b0 b1 b2 b3 b4 b5 b6 b7 b8 b9 b10 b11 b0 b1 b2 b3 b4 b5 b6 b7 b8 b9 b10 b11 = true := by
  unfold eqBox
  simp only [decide_true, Bool.and_self]
theorem eqBox_true {c0 c1 c2 c3 c4 c5 c6 c7 c8 c9 c10 c11 b0 b1 b2 b3 b4 b5 b6 b7 b8 b9 b10 b11 : Int} (h : eqBox c0 c1 c2 c3 c4 c5 c6 c7 c8 c9 c10 c11 b0 b1 b2 b3 b4 b5 b6 b7 b8 b9 b10 b11 = true) : c0 = b0 ∧ c1 = b1 ∧ c2 = b2 ∧ c3 = b3 ∧ c4 = b4 ∧ c5 = b5 ∧ c6 = b6 ∧ c7 = b7 ∧ c8 = b8 ∧ c9 = b9 ∧ c10 = b10 ∧ c11 = b11 := by
  unfold eqBox at h
  simp only [Bool.and_eq_true, decide_eq_true_eq, and_assoc] at h
  exact h
theorem part_gr {p q : PQ} {D M : Nat} (h : p.Gr D M) (h' : q.Gr D M) : (partQ p q).Gr D M := ⟨⟨gr_min h.1 h'.1, gr_max h.1 h'.1⟩, ⟨gr_min h.2.1 h'.2.1, gr_max h.2.1 h'.2.1⟩, ⟨gr_min h.2.2 h'.2.2, gr_max h.2.2 h'.2.2⟩⟩
theorem part_ok (p q : PQ) : (partQ p q).Ok := ⟨rmin_max _ _, rmin_max _ _, rmin_max _ _⟩
theorem part_in {b : BQ} {p q : PQ} (h : b.Has p) (h' : b.Has q) : (partQ p q).inB b = true := by
  have a := hullP_in h.1 h'.1
  have c := hullP_in h.2.1 h'.2.1
  have d := hullP_in h.2.2 h'.2.2
  unfold BQ.inB
  rw [Bool.and_eq_true, Bool.and_eq_true]
  have ok := part_ok p q
  exact ⟨⟨(inB_iff (partQ p q).t b.t ok.1).2 a, (inB_iff (partQ p q).v b.v ok.2.1).2 c⟩, (inB_iff (partQ p q).a b.a ok.2.2).2 d⟩
theorem box_anti {b c : BQ} (hb : b.Ok) (hc : c.Ok) (h : b.inB c = true) (h' : c.inB b = true) : b = c := by
  unfold BQ.inB at h h'
  rw [Bool.and_eq_true, Bool.and_eq_true] at h h'
  have a1 := (inB_iff _ _ hb.1).1 h.1.1
  have a2 := (inB_iff _ _ hb.2.1).1 h.1.2
  have a3 := (inB_iff _ _ hb.2.2).1 h.2
  have c1 := (inB_iff _ _ hc.1).1 h'.1.1
  have c2 := (inB_iff _ _ hc.2.1).1 h'.1.2
  have c3 := (inB_iff _ _ hc.2.2).1 h'.2
  obtain ⟨⟨x0, x1⟩, ⟨x2, x3⟩, ⟨x4, x5⟩⟩ := b
  obtain ⟨⟨y0, y1⟩, ⟨y2, y3⟩, ⟨y4, y5⟩⟩ := c
  simp only at *
  obtain rfl : x0 = y0 := by grind
  obtain rfl : x1 = y1 := by grind
  obtain rfl : x2 = y2 := by grind
  obtain rfl : x3 = y3 := by grind
  obtain rfl : x4 = y4 := by grind
  obtain rfl : x5 = y5 := by grind
  rfl
theorem isBx_same {b : BQ} {c0 c1 c2 c3 c4 c5 c6 c7 c8 c9 c10 c11 b0 b1 b2 b3 b4 b5 b6 b7 b8 b9 b10 b11 : Int} (h : IsBx b c0 c1 c2 c3 c4 c5 c6 c7 c8 c9 c10 c11) (h' : IsBx b b0 b1 b2 b3 b4 b5 b6 b7 b8 b9 b10 b11) : eqBox c0 c1 c2 c3 c4 c5 c6 c7 c8 c9 c10 c11 b0 b1 b2 b3 b4 b5 b6 b7 b8 b9 b10 b11 = true := by
  obtain ⟨rfl, rfl⟩ := isF_same h.t.lo h'.t.lo
  obtain ⟨rfl, rfl⟩ := isF_same h.t.hi h'.t.hi
  obtain ⟨rfl, rfl⟩ := isF_same h.v.lo h'.v.lo
  obtain ⟨rfl, rfl⟩ := isF_same h.v.hi h'.v.hi
  obtain ⟨rfl, rfl⟩ := isF_same h.a.lo h'.a.lo
  obtain ⟨rfl, rfl⟩ := isF_same h.a.hi h'.a.hi
  exact eqBox_same ..
theorem isBx_eq {b c : BQ} {b0 b1 b2 b3 b4 b5 b6 b7 b8 b9 b10 b11 : Int} (h : IsBx b b0 b1 b2 b3 b4 b5 b6 b7 b8 b9 b10 b11) (h' : IsBx c b0 b1 b2 b3 b4 b5 b6 b7 b8 b9 b10 b11) : b = c := by
  obtain ⟨⟨x0, x1⟩, ⟨x2, x3⟩, ⟨x4, x5⟩⟩ := b
  obtain ⟨⟨y0, y1⟩, ⟨y2, y3⟩, ⟨y4, y5⟩⟩ := c
  have e0 := h.t.lo.eq.symm.trans h'.t.lo.eq
  have e1 := h.t.hi.eq.symm.trans h'.t.hi.eq
  have e2 := h.v.lo.eq.symm.trans h'.v.lo.eq
  have e3 := h.v.hi.eq.symm.trans h'.v.hi.eq
  have e4 := h.a.lo.eq.symm.trans h'.a.lo.eq
  have e5 := h.a.hi.eq.symm.trans h'.a.hi.eq
  simp only at e0 e1 e2 e3 e4 e5
  subst e0 e1 e2 e3 e4 e5
  rfl
theorem inB_self {b : BQ} (hb : b.Ok) : b.inB b = true := by
  unfold BQ.inB
  rw [Bool.and_eq_true, Bool.and_eq_true]
  exact ⟨⟨(inB_iff _ _ hb.1).2 ⟨by grind, by grind⟩, (inB_iff _ _ hb.2.1).2 ⟨by grind, by grind⟩⟩, (inB_iff _ _ hb.2.2).2 ⟨by grind, by grind⟩⟩

theorem has_mono {b c : BQ} {p : PQ} (hc : c.Ok) (h : c.inB b = true) (hp : c.Has p) : b.Has p := by
  unfold BQ.inB at h
  rw [Bool.and_eq_true, Bool.and_eq_true] at h
  have a1 := (inB_iff _ _ hc.1).1 h.1.1
  have a2 := (inB_iff _ _ hc.2.1).1 h.1.2
  have a3 := (inB_iff _ _ hc.2.2).1 h.2
  obtain ⟨⟨h1, h2⟩, ⟨h3, h4⟩, ⟨h5, h6⟩⟩ := hp
  exact ⟨⟨by grind, by grind⟩, ⟨by grind, by grind⟩, ⟨by grind, by grind⟩⟩

set_option maxRecDepth 100000 in
set_option maxHeartbeats 2000000 in
theorem inside_walk {w : World} {A : Option Addr} {n c : Nat} {l : List Int} (hA : Sl.Arr w A (l.map fun x => .int .u8 x)) (hn : l.length = n) (hl : Bytes l) (hs : n < 9223372036854775808) {B : Option Addr} {m d : Nat} {t : List Int} (hB : Sl.Arr w B (t.map fun x => .int .u8 x)) (hm : t.length = m) (ht : Bytes t) (hr : m < 9223372036854775808) (k0 k1 k2 k3 k4 k5 : Nat) (g0 : k0 ≤ 255) (g1 : k1 ≤ 255) (g2 : k2 ≤ 255) (g3 : k3 ≤ 255) (g4 : k4 ≤ 255) (g5 : k5 ≤ 255) : DoesIn w 7 #[.slice A n c, .slice B m d, .agg #[.int .u8 (k0 : Int), .int .u8 (k1 : Int), .int .u8 (k2 : Int), .int .u8 (k3 : Int), .int .u8 (k4 : Int), .int .u8 (k5 : Int)]] (.bool true) := by
  obtain ⟨a0, a1, a2, a3, a4, a5, a6, a7, il⟩ := isL_of (linQ_gr l) (by decide) (by decide) (by decide)
  obtain ⟨b0, b1, b2, b3, b4, b5, b6, b7, b8, b9, b10, b11, ib⟩ := isBx_of (boxQ_gr t) (by decide) (by decide) (by decide)
  have TL := Lib.hid (rlinear_ (c := c) hA hn hl hs il)
  have TB := Lib.hid (rbox_ (c := d) hB hm ht hr ib)
  have gl := linQ_gr l
  have gb := boxQ_gr t
  have ok := boxQ_ok t
  generalize linQ l = x at *
  generalize boxQ t = b at *
  clear hA hn hl hs hB hm ht hr
  have gp := ptQ_gr gb k0 k1 k2
  have gq := ptQ_gr gb k3 k4 k5
  have bp := ptQ_in ok k0 k1 k2
  have bq := ptQ_in ok k3 k4 k5
  obtain ⟨p0, p1, p2, p3, p4, p5, hp⟩ := isP_of gp (by decide) (by decide) (by decide)
  obtain ⟨q0, q1, q2, q3, q4, q5, hq⟩ := isP_of gq (by decide) (by decide) (by decide)
  have TP := point_ ib (short_of gb.1) (short_of gb.2.1) (short_of gb.2.2) k0 k1 k2 g0 g1 g2 hp
  have TQ := point_ ib (short_of gb.1) (short_of gb.2.1) (short_of gb.2.2) k3 k4 k5 g3 g4 g5 hq
  have gc := part_gr gp gq
  have oc := part_ok (ptQ b k0 k1 k2) (ptQ b k3 k4 k5)
  have inn := part_in bp bq
  obtain ⟨c0, c1, c2, c3, c4, c5, c6, c7, c8, c9, c10, c11, ic⟩ := isBx_of gc (by decide) (by decide) (by decide)
  have TC := Lib.hid (part_ (k0 : Int) (k1 : Int) (k2 : Int) (k3 : Int) (k4 : Int) (k5 : Int) TP TQ hp hq ic)
  clear TP TQ hp hq gp gq bp bq
  generalize partQ (ptQ b k0 k1 k2) (ptQ b k3 k4 k5) = cb at *
  obtain ⟨r0, r1, r2, r3, jr, er, o1, p1, q1⟩ := range_facts (M := 1200) (by decide) gl gb ok
  have RR := Lib.hid (lranged il ib (.inl ⟨_, er, jr, rfl⟩))
  have VR := Lib.hid ((rvalidInterval (i64_f jr.lo).1 (i64_f jr.lo).2 (i64_f jr.hi).1 (i64_f jr.hi).2).eq (congrArg Value.bool o1))
  obtain ⟨u0, u1, ju⟩ := isF_of _ (at_small gl (gr_corner gc x false) (by decide) (by decide) (by decide) (by decide)).2.2
  obtain ⟨u2, u3, jv⟩ := isF_of _ (at_small gl (gr_corner gc x true) (by decide) (by decide) (by decide) (by decide)).2.2
  have es := range_small gl gc (by decide) (by decide) (by decide) (by decide)
  have js : IsI ⟨x.val (x.corner cb false), x.val (x.corner cb true)⟩ u0 u1 u2 u3 := ⟨ju, jv⟩
  have les : x.val (x.corner cb false) ≤ x.val (x.corner cb true) := (val_in (corner_has oc x true) x).1
  have RS := Lib.hid (lranged il ic (.inl ⟨_, es, js, rfl⟩))
  have VS := Lib.hid ((rvalidInterval (i64_f js.lo).1 (i64_f js.lo).2 (i64_f js.hi).1 (i64_f js.hi).2).eq (congrArg Value.bool (okB_le js les)))
  have has : ∀ g, b.Has (x.corner cb g) := fun g => has_mono oc inn (corner_has oc x g)
  have v1 := val_in (has false) x
  have v2 := val_in (has true) x
  have WS := Lib.hid ((within js jr).eq (congrArg Value.bool ((inB_iff _ _ les).2 ⟨v1.1, v2.2⟩)))
  have IC := Lib.hid ((inside ic ib).eq (congrArg Value.bool inn))
  have ID := inside ib ic
  have heq : b.inB cb = eqBox c0 c1 c2 c3 c4 c5 c6 c7 c8 c9 c10 c11 b0 b1 b2 b3 b4 b5 b6 b7 b8 b9 b10 b11 := by
    cases hh : eqBox c0 c1 c2 c3 c4 c5 c6 c7 c8 c9 c10 c11 b0 b1 b2 b3 b4 b5 b6 b7 b8 b9 b10 b11 with
    | true =>
      obtain ⟨rfl, rfl, rfl, rfl, rfl, rfl, rfl, rfl, rfl, rfl, rfl, rfl⟩ := eqBox_true hh
      rw [isBx_eq ib ic] at *; exact inB_self oc
    | false =>
      cases hi : b.inB cb with
      | false => rfl
      | true =>
        have e := box_anti ok oc hi inn
        subst e
        rw [isBx_same ic ib] at hh; cases hh
  rw [heq] at ID
  have ID := Lib.hid ID
  have EX := Lib.hid examples_
  clear gl gb ok gc oc inn ic il ib jr er o1 p1 q1 ju jv es js les has v1 v2 heq g0 g1 g2 g3 g4 g5
  generalize heb : eqBox c0 c1 c2 c3 c4 c5 c6 c7 c8 c9 c10 c11 b0 b1 b2 b3 b4 b5 b6 b7 b8 b9 b10 b11 = eb at *
  intro W0 HB0
  have TL := Lib.hid (TL.out.mono HB0)
  have TB := Lib.hid (TB.out.mono HB0)
  clear HB0
  go_enter Try.func7, Try.ntmps7
  go_upto_region 1 with fail
  have hst := start1 W0 (#[.int .u8 (k0 : Int), .int .u8 (k1 : Int), .int .u8 (k2 : Int), .int .u8 (k3 : Int), .int .u8 (k4 : Int), .int .u8 (k5 : Int)]) 76
  generalize (W0.alloc (.cells #[.int .u8 (k0 : Int), .int .u8 (k1 : Int), .int .u8 (k2 : Int), .int .u8 (k3 : Int), .int .u8 (k4 : Int), .int .u8 (k5 : Int)] 76)) = Wx3 at *
  obtain ⟨mx1, Bx2⟩ := hst
  have ltx4 := mx1.lt
  go_wp2_with fail
  refine (EX.out.at _).mono ?_
  rintro o Wx5 ⟨rfl, hbx6⟩
  have mx7 := mx1.keep hbx6
  have Bx8 := Bx2.trans (hbx6.mono Bx2.size)
  have szx9 := hbx6.size
  clear mx1 Bx2 hbx6
  go_upto_region 4 with fail
  refine wp_region_plain_tail 4 ?_
  simp only [List.take_succ_cons, List.take_zero, List.drop_succ_cons, List.drop_zero]
  have Gx11 := Lib.hid (fun p => DoesIn.later TL.out Bx8 p)
  have Gx12 := Lib.hid (fun p => DoesIn.later TB.out Bx8 p)
  repeat (go_big_quiet_step (((first | (go_at_call 17; with_reducible exact later_of ((Gx11.out _))) | (go_at_call 19; with_reducible exact later_of ((Gx12.out _)))))))
  refine wpQuiet_nil ?_
  intro _ hw'
  obtain ⟨zx10, hw''⟩ := hw'
  subst hw''
  clear Gx11 Gx12
  have hbx13 := zx10.below
  have mx14 := mx7.keep hbx13
  have Bx15 := Bx8.trans (hbx13.mono Bx8.size)
  have szx16 := hbx13.size
  clear mx7 Bx8 hbx13
  go_upto_region 5 with fail
  have ltx21 := mx14.lt
  obtain ⟨mx19, mx20, hbx18⟩ := start2 zx10.val (#[.int .i64 a0, .int .i64 a1, .int .i64 a2, .int .i64 a3, .int .i64 a4, .int .i64 a5, .int .i64 a6, .int .i64 a7]) (#[.int .i64 b0, .int .i64 b1, .int .i64 b2, .int .i64 b3, .int .i64 b4, .int .i64 b5, .int .i64 b6, .int .i64 b7, .int .i64 b8, .int .i64 b9, .int .i64 b10, .int .i64 b11]) 25 29
  have mx22 := mx14.keep hbx18
  have Bx23 := Bx15.trans (hbx18.mono Bx15.size)
  have szx24 := hbx18.size
  clear mx14 Bx15 hbx18
  generalize ((zx10.val.alloc (.cells #[.int .i64 a0, .int .i64 a1, .int .i64 a2, .int .i64 a3, .int .i64 a4, .int .i64 a5, .int .i64 a6, .int .i64 a7] 25)).alloc (.cells #[.int .i64 b0, .int .i64 b1, .int .i64 b2, .int .i64 b3, .int .i64 b4, .int .i64 b5, .int .i64 b6, .int .i64 b7, .int .i64 b8, .int .i64 b9, .int .i64 b10, .int .i64 b11] 29)) = Wx17 at *
  have ltx25 := mx19.lt
  have ltx26 := mx20.lt
  obtain ⟨c_d0, c_d1, c_d2, c_d3, c_d4, c_d5, c_d6, c_d7, c_d8, c_d9, c_d10, c_d11⟩ := mx20.l12 (Below.refl _ _)
  obtain ⟨c_k0, c_k1, c_k2, c_k3, c_k4, c_k5⟩ := mx22.l6 (Below.refl _ _)
  refine wp_region_plain_tail 3 ?_
  simp only [List.take_succ_cons, List.take_zero, List.drop_succ_cons, List.drop_zero]
  repeat (go_big_quiet_step (((go_at_call 46; with_reducible exact later_of ((TC.out.at _))))))
  refine wpQuiet_nil ?_
  intro _ hw'
  obtain ⟨zx27, hw''⟩ := hw'
  subst hw''
  clear c_d0 c_d1 c_d2 c_d3 c_d4 c_d5 c_d6 c_d7 c_d8 c_d9 c_d10 c_d11
  clear c_k0 c_k1 c_k2 c_k3 c_k4 c_k5
  have hbx28 := zx27.below
  have mx29 := mx22.keep hbx28
  have mx30 := mx19.keep hbx28
  have mx31 := mx20.keep hbx28
  have Bx32 := Bx23.trans (hbx28.mono Bx23.size)
  have szx33 := hbx28.size
  clear mx22 mx19 mx20 Bx23 hbx28
  go_upto_region 6 with fail
  have mx34 := BoxL.new zx27.val #[.int .i64 c0, .int .i64 c1, .int .i64 c2, .int .i64 c3, .int .i64 c4, .int .i64 c5, .int .i64 c6, .int .i64 c7, .int .i64 c8, .int .i64 c9, .int .i64 c10, .int .i64 c11] 29
  have hbx35 := (Below.refl zx27.val.heap.size zx27.val).alloc (Nat.le_refl _) (.cells #[.int .i64 c0, .int .i64 c1, .int .i64 c2, .int .i64 c3, .int .i64 c4, .int .i64 c5, .int .i64 c6, .int .i64 c7, .int .i64 c8, .int .i64 c9, .int .i64 c10, .int .i64 c11] 29)
  have ltx37 := mx29.lt
  have ltx38 := mx30.lt
  have ltx39 := mx31.lt
  have mx40 := mx29.keep hbx35
  have mx41 := mx30.keep hbx35
  have mx42 := mx31.keep hbx35
  have Bx43 := Bx32.trans (hbx35.mono Bx32.size)
  have szx44 := hbx35.size
  clear mx29 mx30 mx31 Bx32 hbx35
  generalize zx27.val.alloc (.cells #[.int .i64 c0, .int .i64 c1, .int .i64 c2, .int .i64 c3, .int .i64 c4, .int .i64 c5, .int .i64 c6, .int .i64 c7, .int .i64 c8, .int .i64 c9, .int .i64 c10, .int .i64 c11] 29) = Wx36 at *
  have ltx45 := mx34.lt
  have ltx46 := mx40.lt
  have ltx47 := mx41.lt
  have ltx48 := mx42.lt
  have ltx49 := mx34.lt
  refine wp_region_free2 (agf := ?frx50) 8 6 7 zrG zrG (by kernel_rfl) [] (by kernel_rfl) (fun d _ _ _ _ h => by cases d <;> exact h) (by decide) (by rfl) (by rfl) (by rfl) (by rfl) ?frx501 ?frx502
  case frx501 =>
    intro W hW
    obtain ⟨c_l0, c_l1, c_l2, c_l3, c_l4, c_l5, c_l6, c_l7⟩ := mx41.l8 hW
    obtain ⟨c_d0, c_d1, c_d2, c_d3, c_d4, c_d5, c_d6, c_d7, c_d8, c_d9, c_d10, c_d11⟩ := mx42.l12 hW
    obtain ⟨c_c0, c_c1, c_c2, c_c3, c_c4, c_c5, c_c6, c_c7, c_c8, c_c9, c_c10, c_c11⟩ := mx34.l12 hW
    simp only [List.take_succ_cons, List.take_zero, ghostL, List.contains_cons, List.contains_nil, Nat.reduceAdd, Nat.reduceBEq, Bool.or_false, Bool.or_true, Bool.true_or, Bool.false_or, Bool.false_eq_true, if_false, if_true, ghostO]
    repeat (go_big_quiet_step (((go_at_call 24; first | with_reducible exact later_of ((RR.out.at _)) | with_reducible exact later_of ((RS.out.at _))))))
    refine wpQuiet_nil ?_
    rfl
  case frx502 =>
    intro bx53 bx54 Wx51 hbx52 mx55 mx56 gx57 gx58 nex59
    simp only [List.drop_succ_cons, List.drop_zero, Act.put, List.setIfInBounds_toArray, List.set_cons_succ, List.set_cons_zero]
    have mx60 := mx40.keep hbx52
    have mx61 := mx41.keep hbx52
    have mx62 := mx42.keep hbx52
    have mx63 := mx34.keep hbx52
    have Bx64 := Bx43.trans (hbx52.mono Bx43.size)
    have szx65 := hbx52.size
    clear mx40 mx41 mx42 mx34 Bx43 hbx52
    have ltx66 := mx55.lt
    have ltx67 := mx56.lt
    obtain ⟨c_r0, c_r1, c_r2, c_r3, c_r4⟩ := mx55.c5
    obtain ⟨f_r0, f_r1, f_r2, f_r3, f_r4⟩ := mx55.f5
    obtain ⟨c_s0, c_s1, c_s2, c_s3, c_s4⟩ := mx56.c5
    obtain ⟨f_s0, f_s1, f_s2, f_s3, f_s4⟩ := mx56.f5
    go_upto_region 7 with fail
    clear c_r0 c_r1 c_r2 c_r3 c_r4 f_r0 f_r1 f_r2 f_r3 f_r4
    clear c_s0 c_s1 c_s2 c_s3 c_s4 f_s0 f_s1 f_s2 f_s3 f_s4
    have mx69 := mx55.s5 (.int .i64 r0) (.int .i64 r1) (.int .i64 r2) (.int .i64 r3) (.int .i64 0)
    have mx70 := mx60.z5 (b := bx53) (by omega) (.int .i64 r0) (.int .i64 r1) (.int .i64 r2) (.int .i64 r3) (.int .i64 0)
    have mx71 := mx61.z5 (b := bx53) (by omega) (.int .i64 r0) (.int .i64 r1) (.int .i64 r2) (.int .i64 r3) (.int .i64 0)
    have mx72 := mx62.z5 (b := bx53) (by omega) (.int .i64 r0) (.int .i64 r1) (.int .i64 r2) (.int .i64 r3) (.int .i64 0)
    have mx73 := mx63.z5 (b := bx53) (by omega) (.int .i64 r0) (.int .i64 r1) (.int .i64 r2) (.int .i64 r3) (.int .i64 0)
    have mx74 := mx56.z5 (b := bx53) (by omega) (.int .i64 r0) (.int .i64 r1) (.int .i64 r2) (.int .i64 r3) (.int .i64 0)
    have Bx75 := below_s5 (b := bx53) Bx64 (by omega) (.int .i64 r0) (.int .i64 r1) (.int .i64 r2) (.int .i64 r3) (.int .i64 0)
    have ltx76 := mx69.lt
    generalize (((((Wx51.setCell ⟨bx53, 0, none⟩ (.int .i64 r0)).setCell ⟨bx53, 1, none⟩ (.int .i64 r1)).setCell ⟨bx53, 2, none⟩ (.int .i64 r2)).setCell ⟨bx53, 3, none⟩ (.int .i64 r3)).setCell ⟨bx53, 4, none⟩ (.int .i64 0)) = Wx68 at *
    clear mx55 mx60 mx61 mx62 mx63 mx56 Bx64
    have mx78 := mx74.s5 (.int .i64 u0) (.int .i64 u1) (.int .i64 u2) (.int .i64 u3) (.int .i64 0)
    have mx79 := mx70.z5 (b := bx54) (by omega) (.int .i64 u0) (.int .i64 u1) (.int .i64 u2) (.int .i64 u3) (.int .i64 0)
    have mx80 := mx71.z5 (b := bx54) (by omega) (.int .i64 u0) (.int .i64 u1) (.int .i64 u2) (.int .i64 u3) (.int .i64 0)
    have mx81 := mx72.z5 (b := bx54) (by omega) (.int .i64 u0) (.int .i64 u1) (.int .i64 u2) (.int .i64 u3) (.int .i64 0)
    have mx82 := mx73.z5 (b := bx54) (by omega) (.int .i64 u0) (.int .i64 u1) (.int .i64 u2) (.int .i64 u3) (.int .i64 0)
    have mx83 := mx69.z5 (b := bx54) (by omega) (.int .i64 u0) (.int .i64 u1) (.int .i64 u2) (.int .i64 u3) (.int .i64 0)
    have Bx84 := below_s5 (b := bx54) Bx75 (by omega) (.int .i64 u0) (.int .i64 u1) (.int .i64 u2) (.int .i64 u3) (.int .i64 0)
    have ltx85 := mx78.lt
    generalize (((((Wx68.setCell ⟨bx54, 0, none⟩ (.int .i64 u0)).setCell ⟨bx54, 1, none⟩ (.int .i64 u1)).setCell ⟨bx54, 2, none⟩ (.int .i64 u2)).setCell ⟨bx54, 3, none⟩ (.int .i64 u3)).setCell ⟨bx54, 4, none⟩ (.int .i64 0)) = Wx77 at *
    clear mx74 mx70 mx71 mx72 mx73 mx69 Bx75
    obtain ⟨c_r0, c_r1, c_r2, c_r3, c_r4⟩ := mx83.l5 (Below.refl _ _)
    obtain ⟨c_s0, c_s1, c_s2, c_s3, c_s4⟩ := mx78.l5 (Below.refl _ _)
    refine wp_region_plain ?_
    repeat (go_big_quiet_step (((go_at_call 15; first | with_reducible exact later_of ((VR.out.at _)) | with_reducible exact later_of ((VS.out.at _))))))
    refine wpQuiet_nil ?_
    intro _ hw'
    obtain ⟨zx86, hw''⟩ := hw'
    subst hw''
    clear c_r0 c_r1 c_r2 c_r3 c_r4
    clear c_s0 c_s1 c_s2 c_s3 c_s4
    have hbx87 := zx86.below
    have mx88 := mx79.keep hbx87
    have mx89 := mx80.keep hbx87
    have mx90 := mx81.keep hbx87
    have mx91 := mx82.keep hbx87
    have mx92 := mx83.keep hbx87
    have mx93 := mx78.keep hbx87
    have Bx94 := Bx84.trans (hbx87.mono Bx84.size)
    have szx95 := hbx87.size
    clear mx79 mx80 mx81 mx82 mx83 mx78 Bx84 hbx87
    go_upto_region 9 with fail
    obtain ⟨c_c0, c_c1, c_c2, c_c3, c_c4, c_c5, c_c6, c_c7, c_c8, c_c9, c_c10, c_c11⟩ := mx91.l12 (Below.refl _ _)
    obtain ⟨c_d0, c_d1, c_d2, c_d3, c_d4, c_d5, c_d6, c_d7, c_d8, c_d9, c_d10, c_d11⟩ := mx90.l12 (Below.refl _ _)
    obtain ⟨c_r0, c_r1, c_r2, c_r3, c_r4⟩ := mx92.l5 (Below.refl _ _)
    obtain ⟨c_s0, c_s1, c_s2, c_s3, c_s4⟩ := mx93.l5 (Below.refl _ _)
    refine wp_region_later (by kernel_rfl) (by kernel_rfl) ?_
    repeat (go_big_quiet_step (((first | (go_at_call 38; first | with_reducible exact later_of ((IC.out.at _)) | with_reducible exact later_of ((ID.out.at _))) | (go_at_call 36; with_reducible exact later_of ((WS.out.at _)))))))
    refine wpQuiet_nil ?_
    intro _ hw'
    obtain ⟨zx96, hw''⟩ := hw'
    subst hw''
    clear c_c0 c_c1 c_c2 c_c3 c_c4 c_c5 c_c6 c_c7 c_c8 c_c9 c_c10 c_c11
    clear c_d0 c_d1 c_d2 c_d3 c_d4 c_d5 c_d6 c_d7 c_d8 c_d9 c_d10 c_d11
    clear c_r0 c_r1 c_r2 c_r3 c_r4
    clear c_s0 c_s1 c_s2 c_s3 c_s4
    have hbx97 := zx96.below
    have mx98 := mx88.keep hbx97
    have mx99 := mx89.keep hbx97
    have mx100 := mx90.keep hbx97
    have mx101 := mx91.keep hbx97
    have mx102 := mx92.keep hbx97
    have mx103 := mx93.keep hbx97
    have Bx104 := Bx94.trans (hbx97.mono Bx94.size)
    have szx105 := hbx97.size
    clear mx88 mx89 mx90 mx91 mx92 mx93 Bx94 hbx97
    go_wp2_with fail
    go_ret
    exact ⟨rfl, Bx104⟩

theorem inside_row {w : World} {A : Option Addr} {n c : Nat} {l : List Int} (hA : Sl.Arr w A (l.map fun x => .int .u8 x)) (hn : l.length = n) (hl : Bytes l) (hs : n < 9223372036854775808) {B : Option Addr} {m d : Nat} {t : List Int} (hB : Sl.Arr w B (t.map fun x => .int .u8 x)) (hm : t.length = m) (ht : Bytes t) (hr : m < 9223372036854775808) {x0 x1 x2 x3 x4 x5 : Int} (h0 : 0 ≤ x0 ∧ x0 ≤ 255) (h1 : 0 ≤ x1 ∧ x1 ≤ 255) (h2 : 0 ≤ x2 ∧ x2 ≤ 255) (h3 : 0 ≤ x3 ∧ x3 ≤ 255) (h4 : 0 ≤ x4 ∧ x4 ≤ 255) (h5 : 0 ≤ x5 ∧ x5 ≤ 255) : DoesIn w 7 #[.slice A n c, .slice B m d, .agg #[.int .u8 x0, .int .u8 x1, .int .u8 x2, .int .u8 x3, .int .u8 x4, .int .u8 x5]] (.bool true) := by
  obtain ⟨k0, rfl⟩ : ∃ k : Nat, x0 = k := ⟨x0.toNat, by omega⟩
  obtain ⟨k1, rfl⟩ : ∃ k : Nat, x1 = k := ⟨x1.toNat, by omega⟩
  obtain ⟨k2, rfl⟩ : ∃ k : Nat, x2 = k := ⟨x2.toNat, by omega⟩
  obtain ⟨k3, rfl⟩ : ∃ k : Nat, x3 = k := ⟨x3.toNat, by omega⟩
  obtain ⟨k4, rfl⟩ : ∃ k : Nat, x4 = k := ⟨x4.toNat, by omega⟩
  obtain ⟨k5, rfl⟩ : ∃ k : Nat, x5 = k := ⟨x5.toNat, by omega⟩
  exact inside_walk hA hn hl hs hB hm ht hr k0 k1 k2 k3 k4 k5 (by omega) (by omega) (by omega) (by omega) (by omega) (by omega)

end Fr
end Go.Proofs.Ytojkaaglmdfcnaa
