/- What the reference's generator of fractions returns, as a function of its two numbers. -/
import Derived.Test.YtojkaaglmdfcnaaN3
import Derived.Test.YtojkaaglmdfcnaaG3
namespace Go.Proofs.Ytojkaaglmdfcnaa
open Go.RowKit Go.Shelf
namespace Fr
set_option linter.unusedVariables false

/-- Halved until it fits; f bounds how often. -/
def mfin : Nat → Int → Int → Int × Int
  | 0, _, _ => (0, 1)
  | f + 1, n, d => if mE n d = 0 then (mN n d, mD n d) else mfin f (n.tdiv 2) (halfD d)
theorem mfin_isF : ∀ (f : Nat) (n d : Int), ∃ q, IsF q (mfin f n d).1 (mfin f n d).2
  | 0, n, d => ⟨0, isF_0⟩
  | f + 1, n, d => by
    unfold mfin
    by_cases h : mE n d = 0
    · rw [if_pos h]; exact ⟨_, isF_of_mE h⟩
    · rw [if_neg h]; exact mfin_isF f _ _

def MadeDet (w : World) (B : Nat) (X Y : Int) (u v : Value) (wr : World) : Prop :=
  ∃ (n d : Int) (f : Nat), u = .int .i64 n ∧ v = .int .i64 d ∧ I64 n ∧ I64 d ∧ muI n d < f ∧ mfin f n d = (X, Y) ∧ Box3 wr B (.int .i64 (mN n d)) (.int .i64 (mD n d)) (.int .i64 (mE n d)) ∧ Box2 wr w.heap.size (.int .i64 0) (.int .i64 0) ∧ Below w.heap.size w wr ∧ w.heap.size < B

set_option maxHeartbeats 1000000 in
theorem made_det (n d : Int) (h1 : I64 n) (h2 : I64 d) (X Y : Int) (hXY : mfin (muI n d + 1) n d = (X, Y)) : Does 43 #[.int .i64 n, .int .i64 d] (.agg #[.int .i64 X, .int .i64 Y]) := by
  intro w
  have HM := Lib.hid (fun (n d : Int) (h1 : I64 n) (h2 : I64 d) (W : World) => makeIn_any n d W h1 h2)
  have H1 := Lib.hid h1
  have H2 := Lib.hid h2
  have HX := Lib.hid hXY
  clear h1 h2 hXY
  go_enter Try.func43, Try.ntmps43
  go_wp2_with fail
  have r0 := Box2.new w (.int .i64 0) (.int .i64 0) 23
  have B0 := (Below.refl w.heap.size w).alloc (Nat.le_refl _) (.cells #[.int .i64 0, .int .i64 0] 23)
  refine (HM.out n d H1.out H2.out _).mono ?_
  rintro o w1 ⟨rfl, hb⟩
  have r1 := (r0.keep hb).alloc (.cells #[.int .i64 (mN n d), .int .i64 (mD n d), .int .i64 (mE n d)] 51)
  have B1 := (B0.trans (hb.mono B0.size)).alloc (B0.trans (hb.mono B0.size)).size (.cells #[.int .i64 (mN n d), .int .i64 (mD n d), .int .i64 (mE n d)] 51)
  have m1 := Box3.new w1 (.int .i64 (mN n d)) (.int .i64 (mD n d)) (.int .i64 (mE n d)) 51
  have hlt : w.heap.size < w1.heap.size := by have := hb.size; simp at this; omega
  clear r0 B0 hb
  have HS : Hid (MadeDet w w1.heap.size X Y (.int .i64 n) (.int .i64 d) (w1.alloc (.cells #[.int .i64 (mN n d), .int .i64 (mD n d), .int .i64 (mE n d)] 51))) := Lib.hid ⟨n, d, _, rfl, rfl, H1.out, H2.out, Nat.lt_succ_self _, HX.out, m1, r1, B1, hlt⟩
  clear r1 B1 m1 hlt HX
  go_wp2_with fail
  go_loopw [0, 1] (fun u v wr => MadeDet w w1.heap.size X Y u v wr) (fun u v _ => muI (intOf u) (intOf v))
  case atStart => exact HS.out
  case round =>
    obtain ⟨n, d, f, rfl, rfl, h1, h2, hf, hXY, m0, r0, B0, hlt⟩ := hrel
    have H1 := Lib.hid h1
    have H2 := Lib.hid h2
    have c0 := m0.c0
    have c1 := m0.c1
    have c2 := m0.c2
    clear h1 h2
    obtain ⟨f, rfl⟩ : ∃ g, f = g + 1 := ⟨f - 1, by omega⟩
    unfold mfin at hXY
    by_cases hE : mE n d = 0
    · rw [if_pos hE] at hXY
      obtain ⟨rfl, rfl⟩ : mN n d = X ∧ mD n d = Y := by cases hXY; exact ⟨rfl, rfl⟩
      have hE' : (mE n d == 0) = true := by simpa using hE
      have a0 := r0.c0
      have a1 := r0.c1
      have f0 := r0.f0
      have f1 := r0.f1
      clear hE hXY
      go_wp2_with fail
      have r1 := r0.set (.int .i64 (mN n d)) (.int .i64 (mD n d))
      have s0 := r1.c0
      have s1 := r1.c1
      refine bodyPost_ret (v := .agg #[.int .i64 (mN n d), .int .i64 (mD n d)]) (by simp [results, Try.results43, go_sem, s0, s1]) rfl ⟨rfl, below_set2 B0 (Nat.le_refl _) _ _⟩
    · rw [if_neg hE] at hXY
      have hE' : (mE n d == 0) = false := by simpa using hE
      have HF : Hid (muI (n.tdiv 2) (halfD d) < f ∧ mfin f (n.tdiv 2) (halfD d) = (X, Y)) := Lib.hid ⟨by have := mu_less hE; omega, hXY⟩
      have HMU := Lib.hid (mu_less hE)
      clear hXY hf
      have hn2 : IntKind.i64.wrap (n.tdiv 2) = n.tdiv 2 := IntWalk.i64_in _ (by have := half_i64 H1.out; unfold I64 at this; omega)
      have hd2 : IntKind.i64.wrap (d.tdiv 2) = d.tdiv 2 := IntWalk.i64_in _ (by have := half_i64 H2.out; unfold I64 at this; omega)
      have HN := Lib.hid (half_i64 H1.out)
      have HD := Lib.hid (halfD_i64 H2.out)
      obtain ⟨x, hx⟩ : ∃ x, n.tdiv 2 = x := ⟨_, rfl⟩
      obtain ⟨y, hy⟩ : ∃ y, d.tdiv 2 = y := ⟨_, rfl⟩
      rw [hx] at hn2 HMU HN HF
      unfold halfD at HD HMU HF
      rw [hy] at hd2 HD HMU HF
      have hx' : IntKind.i64.wrap (n.tdiv 2) = x := by rw [hx]; exact hn2
      have hy' : IntKind.i64.wrap (d.tdiv 2) = y := by rw [hy]; exact hd2
      clear hE hx hy hn2 hd2
      by_cases hz : y = 0
      · rw [if_pos hz] at HD HMU HF
        subst hz
        go_wp2_with fail
        refine (HM.out x 1 HN.out HD.out _).mono ?_
        rintro o w2 ⟨rfl, hb⟩
        have m1 := m0.keep hb
        have r1 := r0.keep hb
        have B1 := B0.trans (hb.mono B0.size)
        clear c0 c1 c2 m0 r0 B0 hb
        have c0 := m1.c0
        have c1 := m1.c1
        have c2 := m1.c2
        have f0 := m1.f0
        have f1 := m1.f1
        have f2 := m1.f2
        go_wp2_with fail
        go_roundw
        case rel => exact ⟨x, 1, f, rfl, rfl, HN.out, HD.out, HF.out.1, HF.out.2, m1.set _ _ _, (((r1.far (by omega) _).far (by omega) _).far (by omega) _), below_set3 B1 (by omega) _ _ _, hlt⟩
        case measure => simpa only [intOf] using HMU.out
      · have hzb : (y == 0) = false := by simpa using hz
        rw [if_neg hz] at HD HMU HF
        clear hz
        go_wp2_with fail
        refine (HM.out x y HN.out HD.out _).mono ?_
        rintro o w2 ⟨rfl, hb⟩
        have m1 := m0.keep hb
        have r1 := r0.keep hb
        have B1 := B0.trans (hb.mono B0.size)
        clear c0 c1 c2 m0 r0 B0 hb
        have c0 := m1.c0
        have c1 := m1.c1
        have c2 := m1.c2
        have f0 := m1.f0
        have f1 := m1.f1
        have f2 := m1.f2
        go_wp2_with fail
        go_roundw
        case rel => exact ⟨x, y, f, rfl, rfl, HN.out, HD.out, HF.out.1, HF.out.2, m1.set _ _ _, (((r1.far (by omega) _).far (by omega) _).far (by omega) _), below_set3 B1 (by omega) _ _ _, hlt⟩
        case measure => simpa only [intOf] using HMU.out

/-- Two numbers whose quotient fits. -/
theorem fmade {n d x y : Int} (h1 : I64 n) (h2 : I64 d) (hd : d ≠ 0) (h : IsF (Rat.divInt n d) x y) : Does 43 #[.int .i64 n, .int .i64 d] (.agg #[.int .i64 x, .int .i64 y]) := by
  refine made_det n d h1 h2 x y ?_
  have hE : mE n d = 0 := by unfold mE; rw [if_neg hd, rE_fit h.fit]
  unfold mfin
  rw [if_pos hE]
  unfold mN mD
  rw [if_neg hd, if_neg hd, rN_of h, rD_of h]
/-- Any two numbers. -/
theorem fmade_any {n d : Int} (h1 : I64 n) (h2 : I64 d) : ∃ q x y, IsF q x y ∧ Does 43 #[.int .i64 n, .int .i64 d] (.agg #[.int .i64 x, .int .i64 y]) := by
  obtain ⟨q, hq⟩ := mfin_isF (muI n d + 1) n d
  exact ⟨q, _, _, hq, made_det n d h1 h2 _ _ rfl⟩

end Fr
end Go.Proofs.Ytojkaaglmdfcnaa
