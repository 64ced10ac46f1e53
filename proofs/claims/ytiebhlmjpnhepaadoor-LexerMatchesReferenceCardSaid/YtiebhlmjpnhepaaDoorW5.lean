/- The first piece; Kind; Line. -/
import Derived.Test.YtiebhlmjpnhepaaDoorW4
namespace Go.Proofs.YtiebhlmjpnhepaaDoor
open Go.RowKit Sl Fr
namespace Lx
set_option linter.unusedVariables false

theorem signP_pos {l : By} : (signP l).2 = 0 → signP l = (0, 0) := by
  unfold signP
  split
  · rename_i h; intro h2; exact absurd h2 h
  · intro _; rfl
theorem wordP_le (l : By) : (wordP l).2 ≤ l.length := by
  unfold wordP
  split
  · exact span_le _ _
  · exact Nat.zero_le _
theorem signP_le (l : By) : (signP l).2 ≤ l.length := by
  unfold signP
  split
  · exact sgn_le _
  · exact Nat.zero_le _
theorem sp1_le (l : By) : sp1 l ≤ l.length := by
  unfold sp1
  split <;> exact span_le _ _
theorem fn_ix0 (w : World) : (Instr.index 59 (.agg #[.func (.func 36) #[] #[], .func (.func 37) #[] #[], .func (.func 38) #[] #[]]) (.int .i64 0)).run Tryd.prog w = .ok (.func (.func 36) #[] #[]) w := by kernel_rfl
theorem fn_ix1 (w : World) : (Instr.index 59 (.agg #[.func (.func 36) #[] #[], .func (.func 37) #[] #[], .func (.func 38) #[] #[]]) (.int .i64 1)).run Tryd.prog w = .ok (.func (.func 37) #[] #[]) w := by kernel_rfl
theorem fn_ix2 (w : World) : (Instr.index 59 (.agg #[.func (.func 36) #[] #[], .func (.func 37) #[] #[], .func (.func 38) #[] #[]]) (.int .i64 2)).run Tryd.prog w = .ok (.func (.func 38) #[] #[]) w := by kernel_rfl
def FstAt (s : ByteArray) (w : World) (i : Value) (W : World) : Prop :=
  ((i = .int .i64 0) ∨ (i = .int .i64 1 ∧ sp1 (bys s) = 0) ∨ (i = .int .i64 2 ∧ sp1 (bys s) = 0 ∧ (wordP (bys s)).2 = 0) ∨ (i = .int .i64 3 ∧ sp1 (bys s) = 0 ∧ (wordP (bys s)).2 = 0 ∧ (signP (bys s)).2 = 0)) ∧
    BoxL W w.heap.size #[.int .i64 0, .int .i64 0] ∧ Below w.heap.size w W
set_option maxHeartbeats 2000000 in
theorem first_any (s : ByteArray) (w : World) (hs : s.size ≤ 281474976710656) (hv : Vars w) : Calls Tryd.prog 31 #[.string s] w (GiveP (fstP (bys s)) w) := by
  have HV := Lib.hid hv
  have hS := Lib.hid hs
  have hz := bys_len s
  have l1 := sp1_le (bys s)
  have l2 := wordP_le (bys s)
  have l3 := signP_le (bys s)
  rw [hz] at l1 l2 l3
  have HF : Hid ((sp1 (bys s) ≠ 0 → fstP (bys s) = (0, sp1 (bys s))) ∧ (sp1 (bys s) = 0 → (wordP (bys s)).2 ≠ 0 → fstP (bys s) = wordP (bys s)) ∧ (sp1 (bys s) = 0 → (wordP (bys s)).2 = 0 → fstP (bys s) = signP (bys s))) := Lib.hid (by
    refine ⟨fun h => by unfold fstP; rw [if_pos h], fun h h2 => by unfold fstP; rw [if_neg (by omega), if_pos h2], fun h h2 => by unfold fstP; rw [if_neg (by omega), if_neg (by omega)]⟩)
  obtain ⟨m0, B0⟩ := start1 w #[.int .i64 0, .int .i64 0] 52
  have HM := Lib.hid m0
  have HB := Lib.hid B0
  have HZ := Lib.hid hz
  clear hv hs hz m0 B0
  have HS : Hid (∀ W : World, Calls Tryd.prog 36 #[.string s] W (GiveP (0, sp1 (bys s)) W)) := Lib.hid (fun W => space_any s W hS.out)
  have HW : Hid (∀ W : World, Calls Tryd.prog 37 #[.string s] W (GiveP (wordP (bys s)) W)) := Lib.hid (fun W => word_any s W hS.out)
  have HG : Hid (∀ W : World, Below w.heap.size w W → Calls Tryd.prog 38 #[.string s] W (GiveP (signP (bys s)) W)) := Lib.hid (fun W hb => sign_any s W (HV.out.keep hb))
  have HZ3 : Hid ((signP (bys s)).2 = 0 → signP (bys s) = (0, 0)) := Lib.hid signP_pos
  go_enter Tryd.func31, Tryd.ntmps31
  go_wp2
  go_loopw [7] (FstAt s w) (fun i _ => (3 - intOf i).toNat)
  case atStart => exact ⟨.inl rfl, HM.out, HB.out⟩
  case round =>
    obtain ⟨hi, hm, hb0⟩ := hrel
    clear HM HB
    rcases hi with rfl | ⟨rfl, h1⟩ | ⟨rfl, h1, h2⟩ | ⟨rfl, h1, h2, h3⟩
    · obtain ⟨p, hp⟩ : ∃ p : Nat × Nat, p = (0, sp1 (bys s)) := ⟨_, rfl⟩
      have HC := HS.out wr
      rw [← hp] at HC
      have hle : p.2 ≤ s.size := by rw [hp]; exact l1
      have HP := Lib.hid hp
      have hM := Lib.hid hm
      have hB := Lib.hid hb0
      clear hp l1 l2 l3 hm hb0
      have HCC := Lib.hid HC
      clear HC
      have hX := fun W => fn_ix0 W
      by_cases hn : p.2 = 0
      · as_aux_lemma =>
        have HN := Lib.hid hn
        go_wp2_with fail
        refine HCC.out.mono ?_
        rintro e W1 ⟨rfl, hb⟩
        rw [hn]
        have hb2 := (Below.refl _ W1).alloc (Nat.le_refl _) (.cells #[.int .i64 (p.1 : Int), .int .i64 ((0 : Nat) : Int)] 52)
        have m2 := Lib.hid ((hM.out.keep hb).keep hb2)
        have B1 := hB.out.trans (hb.mono hB.out.size)
        have B2 := Lib.hid (B1.trans (hb2.mono B1.size))
        clear hn hb hb2 B1 HCC hle
        have h00 : ((0 : Nat) : Int) = 0 := rfl
        rw [h00] at m2 B2 ⊢
        clear h00
        go_wp2_with fail
        exact ⟨⟨.inr (.inl ⟨rfl, by have := HN.out; rw [HP.out] at this; exact this⟩), m2.out, B2.out⟩, by decide⟩
      · as_aux_lemma =>
        have HN : Hid (sp1 (bys s) ≠ 0) := Lib.hid (by have := hn; rw [HP.out] at this; exact this)
        have hpos : 0 < p.2 := by omega
        clear hn
        obtain ⟨a, n⟩ := p
        go_wp2_with fail
        refine HCC.out.mono ?_
        rintro e W1 ⟨rfl, hb⟩
        have hb2 := (Below.refl _ W1).alloc (Nat.le_refl _) (.cells #[.int .i64 (a : Int), .int .i64 (n : Int)] 52)
        have m2 := (hM.out.keep hb).keep hb2
        have B1 := hB.out.trans (hb.mono hB.out.size)
        have B2 := Lib.hid (B1.trans (hb2.mono B1.size))
        obtain ⟨c0, c1⟩ := m2.c2
        obtain ⟨f0, f1⟩ := m2.f2
        have M2 := Lib.hid m2
        clear hb hb2 B1 HCC hle m2
        have hpos3 : 0 < n := hpos
        have hpos2 : (0 : Int) < (n : Int) := by omega
        clear hpos
        go_wp2_with fail
        have q := M2.out.s2 (.int .i64 (a : Int)) (.int .i64 (n : Int))
        obtain ⟨s0, s1⟩ := q.c2
        exact bodyPost_ret (v := .agg #[.int .i64 (a : Int), .int .i64 (n : Int)]) (by simp [results, Tryd.results31, go_sem, s0, s1]) rfl ⟨by rw [HF.out.1 HN.out, ← HP.out], below_s2 B2.out (Nat.le_refl _) _ _⟩
    · have K1 := Lib.hid h1
      clear h1
      obtain ⟨p, hp⟩ : ∃ p : Nat × Nat, p = wordP (bys s) := ⟨_, rfl⟩
      have HC := HW.out wr
      rw [← hp] at HC
      have hle : p.2 ≤ s.size := by rw [hp]; exact l2
      have HP := Lib.hid hp
      have hM := Lib.hid hm
      have hB := Lib.hid hb0
      clear hp l1 l2 l3 hm hb0
      have HCC := Lib.hid HC
      clear HC
      have hX := fun W => fn_ix1 W
      by_cases hn : p.2 = 0
      · as_aux_lemma =>
        have HN := Lib.hid hn
        go_wp2_with fail
        refine HCC.out.mono ?_
        rintro e W1 ⟨rfl, hb⟩
        rw [hn]
        have hb2 := (Below.refl _ W1).alloc (Nat.le_refl _) (.cells #[.int .i64 (p.1 : Int), .int .i64 ((0 : Nat) : Int)] 52)
        have m2 := Lib.hid ((hM.out.keep hb).keep hb2)
        have B1 := hB.out.trans (hb.mono hB.out.size)
        have B2 := Lib.hid (B1.trans (hb2.mono B1.size))
        clear hn hb hb2 B1 HCC hle
        have h00 : ((0 : Nat) : Int) = 0 := rfl
        rw [h00] at m2 B2 ⊢
        clear h00
        go_wp2_with fail
        exact ⟨⟨.inr (.inr (.inl ⟨rfl, K1.out, by have := HN.out; rw [HP.out] at this; exact this⟩)), m2.out, B2.out⟩, by decide⟩
      · as_aux_lemma =>
        have HN : Hid ((wordP (bys s)).2 ≠ 0) := Lib.hid (by have := hn; rw [HP.out] at this; exact this)
        have hpos : 0 < p.2 := by omega
        clear hn
        obtain ⟨a, n⟩ := p
        go_wp2_with fail
        refine HCC.out.mono ?_
        rintro e W1 ⟨rfl, hb⟩
        have hb2 := (Below.refl _ W1).alloc (Nat.le_refl _) (.cells #[.int .i64 (a : Int), .int .i64 (n : Int)] 52)
        have m2 := (hM.out.keep hb).keep hb2
        have B1 := hB.out.trans (hb.mono hB.out.size)
        have B2 := Lib.hid (B1.trans (hb2.mono B1.size))
        obtain ⟨c0, c1⟩ := m2.c2
        obtain ⟨f0, f1⟩ := m2.f2
        have M2 := Lib.hid m2
        clear hb hb2 B1 HCC hle m2
        have hpos3 : 0 < n := hpos
        have hpos2 : (0 : Int) < (n : Int) := by omega
        clear hpos
        go_wp2_with fail
        have q := M2.out.s2 (.int .i64 (a : Int)) (.int .i64 (n : Int))
        obtain ⟨s0, s1⟩ := q.c2
        exact bodyPost_ret (v := .agg #[.int .i64 (a : Int), .int .i64 (n : Int)]) (by simp [results, Tryd.results31, go_sem, s0, s1]) rfl ⟨by rw [HF.out.2.1 K1.out HN.out, ← HP.out], below_s2 B2.out (Nat.le_refl _) _ _⟩
    · have K1 := Lib.hid h1
      have K2 := Lib.hid h2
      clear h1 h2
      obtain ⟨p, hp⟩ : ∃ p : Nat × Nat, p = signP (bys s) := ⟨_, rfl⟩
      have HC := HG.out wr hb0
      rw [← hp] at HC
      have hle : p.2 ≤ s.size := by rw [hp]; exact l3
      have HP := Lib.hid hp
      have hM := Lib.hid hm
      have hB := Lib.hid hb0
      clear hp l1 l2 l3 hm hb0
      have HCC := Lib.hid HC
      clear HC
      have hX := fun W => fn_ix2 W
      by_cases hn : p.2 = 0
      · as_aux_lemma =>
        have HN := Lib.hid hn
        go_wp2_with fail
        refine HCC.out.mono ?_
        rintro e W1 ⟨rfl, hb⟩
        rw [hn]
        have hb2 := (Below.refl _ W1).alloc (Nat.le_refl _) (.cells #[.int .i64 (p.1 : Int), .int .i64 ((0 : Nat) : Int)] 52)
        have m2 := Lib.hid ((hM.out.keep hb).keep hb2)
        have B1 := hB.out.trans (hb.mono hB.out.size)
        have B2 := Lib.hid (B1.trans (hb2.mono B1.size))
        clear hn hb hb2 B1 HCC hle
        have h00 : ((0 : Nat) : Int) = 0 := rfl
        rw [h00] at m2 B2 ⊢
        clear h00
        go_wp2_with fail
        exact ⟨⟨.inr (.inr (.inr ⟨rfl, K1.out, K2.out, by have := HN.out; rw [HP.out] at this; exact this⟩)), m2.out, B2.out⟩, by decide⟩
      · as_aux_lemma =>
        have HN : Hid ((signP (bys s)).2 ≠ 0) := Lib.hid (by have := hn; rw [HP.out] at this; exact this)
        have hpos : 0 < p.2 := by omega
        clear hn
        obtain ⟨a, n⟩ := p
        go_wp2_with fail
        refine HCC.out.mono ?_
        rintro e W1 ⟨rfl, hb⟩
        have hb2 := (Below.refl _ W1).alloc (Nat.le_refl _) (.cells #[.int .i64 (a : Int), .int .i64 (n : Int)] 52)
        have m2 := (hM.out.keep hb).keep hb2
        have B1 := hB.out.trans (hb.mono hB.out.size)
        have B2 := Lib.hid (B1.trans (hb2.mono B1.size))
        obtain ⟨c0, c1⟩ := m2.c2
        obtain ⟨f0, f1⟩ := m2.f2
        have M2 := Lib.hid m2
        clear hb hb2 B1 HCC hle m2
        have hpos3 : 0 < n := hpos
        have hpos2 : (0 : Int) < (n : Int) := by omega
        clear hpos
        go_wp2_with fail
        have q := M2.out.s2 (.int .i64 (a : Int)) (.int .i64 (n : Int))
        obtain ⟨s0, s1⟩ := q.c2
        exact bodyPost_ret (v := .agg #[.int .i64 (a : Int), .int .i64 (n : Int)]) (by simp [results, Tryd.results31, go_sem, s0, s1]) rfl ⟨by rw [HF.out.2.2 K1.out K2.out, ← HP.out], below_s2 B2.out (Nat.le_refl _) _ _⟩
    · have K1 := Lib.hid h1
      have K2 := Lib.hid h2
      have K3 := Lib.hid h3
      have hM := Lib.hid hm
      have hB := Lib.hid hb0
      obtain ⟨c0, c1⟩ := hm.c2
      obtain ⟨f0, f1⟩ := hm.f2
      clear h1 h2 h3 hm hb0 l1 l2 l3
      go_wp2_with fail
      have q := hM.out.s2 (.int .i64 0) (.int .i64 0)
      obtain ⟨s0, s1⟩ := q.c2
      exact bodyPost_ret (v := .agg #[.int .i64 0, .int .i64 0]) (by simp [results, Tryd.results31, go_sem, s0, s1]) rfl ⟨by rw [HF.out.2.2 K1.out K2.out, HZ3.out K3.out]; rfl, below_s2 hB.out (Nat.le_refl _) _ _⟩

end Lx
end Go.Proofs.YtiebhlmjpnhepaaDoor
