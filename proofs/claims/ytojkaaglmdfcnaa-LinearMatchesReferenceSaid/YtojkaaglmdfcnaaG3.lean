/- What the reference's generator of fractions returns: some fraction that fits. -/
import Derived.Test.YtojkaaglmdfcnaaG2
namespace Go.Proofs.Ytojkaaglmdfcnaa
open Go.RowKit Go.Shelf
namespace Fr
set_option linter.unusedVariables false

/-- A call hands back a fraction that fits. -/
def RetF (w : World) (o : Ending) (w' : World) : Prop := ∃ (q : Rat) (n d : Int), IsF q n d ∧ o = .returned (.agg #[.int .i64 n, .int .i64 d]) ∧ Below w.heap.size w w'

def muI (n d : Int) : Nat := 2 * n.natAbs + d.natAbs + if d = 0 then 2 else 0

/-- The next denominator. -/
def halfD (d : Int) : Int := if d.tdiv 2 = 0 then 1 else d.tdiv 2

theorem natAbs_half (x : Int) : (x.tdiv 2).natAbs = x.natAbs / 2 := by rw [Int.natAbs_tdiv]; rfl

theorem mu_less {n d : Int} (h : mE n d ≠ 0) : muI (n.tdiv 2) (halfD d) < muI n d := by
  have e1 := natAbs_half n
  have e2 := natAbs_half d
  unfold muI halfD
  by_cases h0 : d = 0
  · subst h0
    have hz : (0 : Int).tdiv 2 = 0 := rfl
    rw [if_pos hz, if_pos rfl, if_neg (by decide)]
    omega
  · rw [if_neg h0]
    by_cases hz : d.tdiv 2 = 0
    · rw [if_pos hz, if_neg (by decide)]
      have hd1 : d.natAbs = 1 := by rw [hz] at e2; simp at e2; omega
      have hbig : 4611686018427387904 < n.natAbs := by
        rcases Nat.lt_or_ge 4611686018427387904 n.natAbs with h' | h'
        · exact h'
        · exact absurd (mk_ok (n := n) (d := d) (x := n) (y := d) h0 h0 rfl (by rw [hd1]; exact Nat.coprime_one_right _) h' (by omega)).2.2 h
      omega
    · rw [if_neg hz, if_neg hz]
      have : (d.tdiv 2).natAbs ≠ 0 := by omega
      omega

theorem half_i64 {x : Int} (h : I64 x) : I64 (x.tdiv 2) := by
  have := natAbs_half x
  unfold I64 at *
  omega
theorem halfD_i64 {x : Int} (h : I64 x) : I64 (halfD x) := by
  unfold halfD
  split
  · unfold I64; omega
  · exact half_i64 h

theorem isF_of_mE {n d : Int} (h : mE n d = 0) : IsF (Rat.divInt n d) (mN n d) (mD n d) := by
  unfold mE at h
  by_cases h0 : d = 0
  · rw [if_pos h0] at h; cases h
  · rw [if_neg h0] at h
    by_cases hF : Fit (Rat.divInt n d)
    · unfold mN mD
      rw [if_neg h0, if_neg h0]
      exact isF_res hF
    · rw [rE_big hF] at h; cases h

/-- What holds at the head of the loop. -/
def MadeAt (w : World) (B : Nat) (u v : Value) (wr : World) : Prop :=
  ∃ n d : Int, u = .int .i64 n ∧ v = .int .i64 d ∧ I64 n ∧ I64 d ∧ Box3 wr B (.int .i64 (mN n d)) (.int .i64 (mD n d)) (.int .i64 (mE n d)) ∧ Box2 wr w.heap.size (.int .i64 0) (.int .i64 0) ∧ Below w.heap.size w wr ∧ w.heap.size < B

set_option maxHeartbeats 1000000 in
theorem made_any (n d : Int) (w : World) (h1 : I64 n) (h2 : I64 d) :
    Calls Try.prog 43 #[.int .i64 n, .int .i64 d] w (RetF w) := by
  have HM := Lib.hid (fun (n d : Int) (h1 : I64 n) (h2 : I64 d) (W : World) => makeIn_any n d W h1 h2)
  have H1 := Lib.hid h1
  have H2 := Lib.hid h2
  clear h1 h2
  go_enter Try.func43, Try.ntmps43
  go_wp2_with fail
  have r0 := Box2.new w (.int .i64 0) (.int .i64 0) 23
  have B0 := (Below.refl w.heap.size w).alloc (Nat.le_refl _) (.cells #[.int .i64 0, .int .i64 0] 23)
  refine (HM.out n d H1.out H2.out _).mono ?_
  rintro o w1 ⟨rfl, hb⟩
  have r1 := (r0.keep hb).alloc (.cells #[.int .i64 (mN n d), .int .i64 (mD n d), .int .i64 (mE n d)] 51)
  have B1 := (B0.trans (hb.mono B0.size)).alloc (B0.trans (hb.mono B0.size)).size (.cells #[.int .i64 (mN n d), .int .i64 (mD n d), .int .i64 (mE n d)] 51)
  have m1 := Box3.new w1 (.int .i64 (mN n d)) (.int .i64 (mD n d)) (.int .i64 (mE n d)) 51
  have hlt : w.heap.size < w1.heap.size := by have := hb.size; simp at this; omega
  clear r0 B0 hb
  have HS : Hid (MadeAt w w1.heap.size (.int .i64 n) (.int .i64 d) (w1.alloc (.cells #[.int .i64 (mN n d), .int .i64 (mD n d), .int .i64 (mE n d)] 51))) := Lib.hid ⟨n, d, rfl, rfl, H1.out, H2.out, m1, r1, B1, hlt⟩
  clear r1 B1 m1 hlt
  go_wp2_with fail
  go_loopw [0, 1] (fun u v wr => MadeAt w w1.heap.size u v wr) (fun u v _ => muI (intOf u) (intOf v))
  case atStart => exact HS.out
  case round =>
    obtain ⟨n, d, rfl, rfl, h1, h2, m0, r0, B0, hlt⟩ := hrel
    have H1 := Lib.hid h1
    have H2 := Lib.hid h2
    have c0 := m0.c0
    have c1 := m0.c1
    have c2 := m0.c2
    clear h1 h2
    by_cases hE : mE n d = 0
    · have HF := Lib.hid (isF_of_mE hE)
      have hE' : (mE n d == 0) = true := by simpa using hE
      have a0 := r0.c0
      have a1 := r0.c1
      have f0 := r0.f0
      have f1 := r0.f1
      clear hE
      go_wp2_with fail
      have r1 := r0.set (.int .i64 (mN n d)) (.int .i64 (mD n d))
      have s0 := r1.c0
      have s1 := r1.c1
      refine bodyPost_ret (v := .agg #[.int .i64 (mN n d), .int .i64 (mD n d)]) (by simp [results, Try.results43, go_sem, s0, s1]) rfl ⟨_, _, _, HF.out, rfl, below_set2 B0 (Nat.le_refl _) _ _⟩
    · have hE' : (mE n d == 0) = false := by simpa using hE
      have HMU := Lib.hid (mu_less hE)
      have hn2 : IntKind.i64.wrap (n.tdiv 2) = n.tdiv 2 := IntWalk.i64_in _ (by have := half_i64 H1.out; unfold I64 at this; omega)
      have hd2 : IntKind.i64.wrap (d.tdiv 2) = d.tdiv 2 := IntWalk.i64_in _ (by have := half_i64 H2.out; unfold I64 at this; omega)
      have HN := Lib.hid (half_i64 H1.out)
      have HD := Lib.hid (halfD_i64 H2.out)
      obtain ⟨x, hx⟩ : ∃ x, n.tdiv 2 = x := ⟨_, rfl⟩
      obtain ⟨y, hy⟩ : ∃ y, d.tdiv 2 = y := ⟨_, rfl⟩
      rw [hx] at hn2 HMU HN
      unfold halfD at HD HMU
      rw [hy] at hd2 HD HMU
      have hx' : IntKind.i64.wrap (n.tdiv 2) = x := by rw [hx]; exact hn2
      have hy' : IntKind.i64.wrap (d.tdiv 2) = y := by rw [hy]; exact hd2
      clear hE hx hy hn2 hd2
      by_cases hz : y = 0
      · rw [if_pos hz] at HD HMU
        subst hz
        go_wp2_with fail
        refine (HM.out x 1 HN.out HD.out _).mono ?_
        rintro o w2 ⟨rfl, hb⟩
        have m1 := m0.keep hb
        have r1 := r0.keep hb
        have B1 := B0.trans (hb.mono B0.size)
        clear c0 c1 c2 m0 r0 B0 hb
        have c0 := m1.c0
        have c1 := m1.c1
        have c2 := m1.c2
        have f0 := m1.f0
        have f1 := m1.f1
        have f2 := m1.f2
        go_wp2_with fail
        go_roundw
        case rel => exact ⟨x, 1, rfl, rfl, HN.out, HD.out, m1.set _ _ _, (((r1.far (by omega) _).far (by omega) _).far (by omega) _), below_set3 B1 (by omega) _ _ _, hlt⟩
        case measure => simpa only [intOf] using HMU.out
      · have hzb : (y == 0) = false := by simpa using hz
        rw [if_neg hz] at HD HMU
        clear hz
        go_wp2_with fail
        refine (HM.out x y HN.out HD.out _).mono ?_
        rintro o w2 ⟨rfl, hb⟩
        have m1 := m0.keep hb
        have r1 := r0.keep hb
        have B1 := B0.trans (hb.mono B0.size)
        clear c0 c1 c2 m0 r0 B0 hb
        have c0 := m1.c0
        have c1 := m1.c1
        have c2 := m1.c2
        have f0 := m1.f0
        have f1 := m1.f1
        have f2 := m1.f2
        go_wp2_with fail
        go_roundw
        case rel => exact ⟨x, y, rfl, rfl, HN.out, HD.out, m1.set _ _ _, (((r1.far (by omega) _).far (by omega) _).far (by omega) _), below_set3 B1 (by omega) _ _ _, hlt⟩
        case measure => simpa only [intOf] using HMU.out

end Fr
end Go.Proofs.Ytojkaaglmdfcnaa
