/- The first piece; Kind; Line. Kind; Line. Slices of tokens; Lex. -/
import Derived.Test.YtggeepimihhpjaaGreatDoorW4
namespace Go.Proofs.YtggeepimihhpjaaGreatDoor
open Go.RowKit Sl Fr
namespace Lx
set_option linter.unusedVariables false
set_option maxRecDepth 100000

theorem signP_pos {l : By} : (signP l).2 = 0 → signP l = (0, 0) := by
  unfold signP
  split
  · rename_i h; intro h2; exact absurd h2 h
  · intro _; rfl
theorem wordP_le (l : By) : (wordP l).2 ≤ l.length := by
  unfold wordP
  split
  · exact span_le _ _
  · exact Nat.zero_le _
theorem signP_le (l : By) : (signP l).2 ≤ l.length := by
  unfold signP
  split
  · exact sgn_le _
  · exact Nat.zero_le _
theorem sp1_le (l : By) : sp1 l ≤ l.length := by
  unfold sp1
  split <;> exact span_le _ _
theorem fn_ix0 (w : World) : (Instr.index 159 (.agg #[.func (.func 80) #[] #[], .func (.func 81) #[] #[], .func (.func 82) #[] #[]]) (.int .i64 0)).run Tryz.prog w = .ok (.func (.func 80) #[] #[]) w := by kernel_rfl
theorem fn_ix1 (w : World) : (Instr.index 159 (.agg #[.func (.func 80) #[] #[], .func (.func 81) #[] #[], .func (.func 82) #[] #[]]) (.int .i64 1)).run Tryz.prog w = .ok (.func (.func 81) #[] #[]) w := by kernel_rfl
theorem fn_ix2 (w : World) : (Instr.index 159 (.agg #[.func (.func 80) #[] #[], .func (.func 81) #[] #[], .func (.func 82) #[] #[]]) (.int .i64 2)).run Tryz.prog w = .ok (.func (.func 82) #[] #[]) w := by kernel_rfl
def FstAt (s : ByteArray) (w : World) (i : Value) (W : World) : Prop :=
  ((i = .int .i64 0) ∨ (i = .int .i64 1 ∧ sp1 (bys s) = 0) ∨ (i = .int .i64 2 ∧ sp1 (bys s) = 0 ∧ (wordP (bys s)).2 = 0) ∨ (i = .int .i64 3 ∧ sp1 (bys s) = 0 ∧ (wordP (bys s)).2 = 0 ∧ (signP (bys s)).2 = 0)) ∧
    BoxL W w.heap.size #[.int .i64 0, .int .i64 0] ∧ Below w.heap.size w W
set_option maxHeartbeats 2000000 in
theorem first_any (s : ByteArray) (w : World) (hs : s.size ≤ 281474976710656) (hv : Vars w) : Calls Tryz.prog 45 #[.string s] w (GiveP (fstP (bys s)) w) := by
  have HV := Lib.hid hv
  have hS := Lib.hid hs
  have hz := bys_len s
  have l1 := sp1_le (bys s)
  have l2 := wordP_le (bys s)
  have l3 := signP_le (bys s)
  rw [hz] at l1 l2 l3
  have HF : Hid ((sp1 (bys s) ≠ 0 → fstP (bys s) = (0, sp1 (bys s))) ∧ (sp1 (bys s) = 0 → (wordP (bys s)).2 ≠ 0 → fstP (bys s) = wordP (bys s)) ∧ (sp1 (bys s) = 0 → (wordP (bys s)).2 = 0 → fstP (bys s) = signP (bys s))) := Lib.hid (by
    refine ⟨fun h => by unfold fstP; rw [if_pos h], fun h h2 => by unfold fstP; rw [if_neg (by omega), if_pos h2], fun h h2 => by unfold fstP; rw [if_neg (by omega), if_neg (by omega)]⟩)
  obtain ⟨m0, B0⟩ := start1 w #[.int .i64 0, .int .i64 0] 105
  have HM := Lib.hid m0
  have HB := Lib.hid B0
  have HZ := Lib.hid hz
  clear hv hs hz m0 B0
  have HS : Hid (∀ W : World, Calls Tryz.prog 80 #[.string s] W (GiveP (0, sp1 (bys s)) W)) := Lib.hid (fun W => space_any s W hS.out)
  have HW : Hid (∀ W : World, Calls Tryz.prog 81 #[.string s] W (GiveP (wordP (bys s)) W)) := Lib.hid (fun W => word_any s W hS.out)
  have HG : Hid (∀ W : World, Below w.heap.size w W → Calls Tryz.prog 82 #[.string s] W (GiveP (signP (bys s)) W)) := Lib.hid (fun W hb => sign_any s W (HV.out.keep hb))
  have HZ3 : Hid ((signP (bys s)).2 = 0 → signP (bys s) = (0, 0)) := Lib.hid signP_pos
  go_enter Tryz.func45, Tryz.ntmps45
  go_wp2
  go_loopw [7] (FstAt s w) (fun i _ => (3 - intOf i).toNat)
  case atStart => exact ⟨.inl rfl, HM.out, HB.out⟩
  case round =>
    obtain ⟨hi, hm, hb0⟩ := hrel
    clear HM HB
    rcases hi with rfl | ⟨rfl, h1⟩ | ⟨rfl, h1, h2⟩ | ⟨rfl, h1, h2, h3⟩
    · obtain ⟨p, hp⟩ : ∃ p : Nat × Nat, p = (0, sp1 (bys s)) := ⟨_, rfl⟩
      have HC := HS.out wr
      rw [← hp] at HC
      have hle : p.2 ≤ s.size := by rw [hp]; exact l1
      have HP := Lib.hid hp
      have hM := Lib.hid hm
      have hB := Lib.hid hb0
      clear hp l1 l2 l3 hm hb0
      have HCC := Lib.hid HC
      clear HC
      have hX := fun W => fn_ix0 W
      by_cases hn : p.2 = 0
      · as_aux_lemma =>
        have HN := Lib.hid hn
        go_wp2_with fail
        refine HCC.out.mono ?_
        rintro e W1 ⟨rfl, hb⟩
        rw [hn]
        have hb2 := (Below.refl _ W1).alloc (Nat.le_refl _) (.cells #[.int .i64 (p.1 : Int), .int .i64 ((0 : Nat) : Int)] 105)
        have m2 := Lib.hid ((hM.out.keep hb).keep hb2)
        have B1 := hB.out.trans (hb.mono hB.out.size)
        have B2 := Lib.hid (B1.trans (hb2.mono B1.size))
        clear hn hb hb2 B1 HCC hle
        have h00 : ((0 : Nat) : Int) = 0 := rfl
        rw [h00] at m2 B2 ⊢
        clear h00
        go_wp2_with fail
        exact ⟨⟨.inr (.inl ⟨rfl, by have := HN.out; rw [HP.out] at this; exact this⟩), m2.out, B2.out⟩, by decide⟩
      · as_aux_lemma =>
        have HN : Hid (sp1 (bys s) ≠ 0) := Lib.hid (by have := hn; rw [HP.out] at this; exact this)
        have hpos : 0 < p.2 := by omega
        clear hn
        obtain ⟨a, n⟩ := p
        go_wp2_with fail
        refine HCC.out.mono ?_
        rintro e W1 ⟨rfl, hb⟩
        have hb2 := (Below.refl _ W1).alloc (Nat.le_refl _) (.cells #[.int .i64 (a : Int), .int .i64 (n : Int)] 105)
        have m2 := (hM.out.keep hb).keep hb2
        have B1 := hB.out.trans (hb.mono hB.out.size)
        have B2 := Lib.hid (B1.trans (hb2.mono B1.size))
        obtain ⟨c0, c1⟩ := m2.c2
        obtain ⟨f0, f1⟩ := m2.f2
        have M2 := Lib.hid m2
        clear hb hb2 B1 HCC hle m2
        have hpos3 : 0 < n := hpos
        have hpos2 : (0 : Int) < (n : Int) := by omega
        clear hpos
        go_wp2_with fail
        have q := M2.out.s2 (.int .i64 (a : Int)) (.int .i64 (n : Int))
        obtain ⟨s0, s1⟩ := q.c2
        exact bodyPost_ret (v := .agg #[.int .i64 (a : Int), .int .i64 (n : Int)]) (by simp [results, Tryz.results45, go_sem, s0, s1]) rfl ⟨by rw [HF.out.1 HN.out, ← HP.out], below_s2 B2.out (Nat.le_refl _) _ _⟩
    · have K1 := Lib.hid h1
      clear h1
      obtain ⟨p, hp⟩ : ∃ p : Nat × Nat, p = wordP (bys s) := ⟨_, rfl⟩
      have HC := HW.out wr
      rw [← hp] at HC
      have hle : p.2 ≤ s.size := by rw [hp]; exact l2
      have HP := Lib.hid hp
      have hM := Lib.hid hm
      have hB := Lib.hid hb0
      clear hp l1 l2 l3 hm hb0
      have HCC := Lib.hid HC
      clear HC
      have hX := fun W => fn_ix1 W
      by_cases hn : p.2 = 0
      · as_aux_lemma =>
        have HN := Lib.hid hn
        go_wp2_with fail
        refine HCC.out.mono ?_
        rintro e W1 ⟨rfl, hb⟩
        rw [hn]
        have hb2 := (Below.refl _ W1).alloc (Nat.le_refl _) (.cells #[.int .i64 (p.1 : Int), .int .i64 ((0 : Nat) : Int)] 105)
        have m2 := Lib.hid ((hM.out.keep hb).keep hb2)
        have B1 := hB.out.trans (hb.mono hB.out.size)
        have B2 := Lib.hid (B1.trans (hb2.mono B1.size))
        clear hn hb hb2 B1 HCC hle
        have h00 : ((0 : Nat) : Int) = 0 := rfl
        rw [h00] at m2 B2 ⊢
        clear h00
        go_wp2_with fail
        exact ⟨⟨.inr (.inr (.inl ⟨rfl, K1.out, by have := HN.out; rw [HP.out] at this; exact this⟩)), m2.out, B2.out⟩, by decide⟩
      · as_aux_lemma =>
        have HN : Hid ((wordP (bys s)).2 ≠ 0) := Lib.hid (by have := hn; rw [HP.out] at this; exact this)
        have hpos : 0 < p.2 := by omega
        clear hn
        obtain ⟨a, n⟩ := p
        go_wp2_with fail
        refine HCC.out.mono ?_
        rintro e W1 ⟨rfl, hb⟩
        have hb2 := (Below.refl _ W1).alloc (Nat.le_refl _) (.cells #[.int .i64 (a : Int), .int .i64 (n : Int)] 105)
        have m2 := (hM.out.keep hb).keep hb2
        have B1 := hB.out.trans (hb.mono hB.out.size)
        have B2 := Lib.hid (B1.trans (hb2.mono B1.size))
        obtain ⟨c0, c1⟩ := m2.c2
        obtain ⟨f0, f1⟩ := m2.f2
        have M2 := Lib.hid m2
        clear hb hb2 B1 HCC hle m2
        have hpos3 : 0 < n := hpos
        have hpos2 : (0 : Int) < (n : Int) := by omega
        clear hpos
        go_wp2_with fail
        have q := M2.out.s2 (.int .i64 (a : Int)) (.int .i64 (n : Int))
        obtain ⟨s0, s1⟩ := q.c2
        exact bodyPost_ret (v := .agg #[.int .i64 (a : Int), .int .i64 (n : Int)]) (by simp [results, Tryz.results45, go_sem, s0, s1]) rfl ⟨by rw [HF.out.2.1 K1.out HN.out, ← HP.out], below_s2 B2.out (Nat.le_refl _) _ _⟩
    · have K1 := Lib.hid h1
      have K2 := Lib.hid h2
      clear h1 h2
      obtain ⟨p, hp⟩ : ∃ p : Nat × Nat, p = signP (bys s) := ⟨_, rfl⟩
      have HC := HG.out wr hb0
      rw [← hp] at HC
      have hle : p.2 ≤ s.size := by rw [hp]; exact l3
      have HP := Lib.hid hp
      have hM := Lib.hid hm
      have hB := Lib.hid hb0
      clear hp l1 l2 l3 hm hb0
      have HCC := Lib.hid HC
      clear HC
      have hX := fun W => fn_ix2 W
      by_cases hn : p.2 = 0
      · as_aux_lemma =>
        have HN := Lib.hid hn
        go_wp2_with fail
        refine HCC.out.mono ?_
        rintro e W1 ⟨rfl, hb⟩
        rw [hn]
        have hb2 := (Below.refl _ W1).alloc (Nat.le_refl _) (.cells #[.int .i64 (p.1 : Int), .int .i64 ((0 : Nat) : Int)] 105)
        have m2 := Lib.hid ((hM.out.keep hb).keep hb2)
        have B1 := hB.out.trans (hb.mono hB.out.size)
        have B2 := Lib.hid (B1.trans (hb2.mono B1.size))
        clear hn hb hb2 B1 HCC hle
        have h00 : ((0 : Nat) : Int) = 0 := rfl
        rw [h00] at m2 B2 ⊢
        clear h00
        go_wp2_with fail
        exact ⟨⟨.inr (.inr (.inr ⟨rfl, K1.out, K2.out, by have := HN.out; rw [HP.out] at this; exact this⟩)), m2.out, B2.out⟩, by decide⟩
      · as_aux_lemma =>
        have HN : Hid ((signP (bys s)).2 ≠ 0) := Lib.hid (by have := hn; rw [HP.out] at this; exact this)
        have hpos : 0 < p.2 := by omega
        clear hn
        obtain ⟨a, n⟩ := p
        go_wp2_with fail
        refine HCC.out.mono ?_
        rintro e W1 ⟨rfl, hb⟩
        have hb2 := (Below.refl _ W1).alloc (Nat.le_refl _) (.cells #[.int .i64 (a : Int), .int .i64 (n : Int)] 105)
        have m2 := (hM.out.keep hb).keep hb2
        have B1 := hB.out.trans (hb.mono hB.out.size)
        have B2 := Lib.hid (B1.trans (hb2.mono B1.size))
        obtain ⟨c0, c1⟩ := m2.c2
        obtain ⟨f0, f1⟩ := m2.f2
        have M2 := Lib.hid m2
        clear hb hb2 B1 HCC hle m2
        have hpos3 : 0 < n := hpos
        have hpos2 : (0 : Int) < (n : Int) := by omega
        clear hpos
        go_wp2_with fail
        have q := M2.out.s2 (.int .i64 (a : Int)) (.int .i64 (n : Int))
        obtain ⟨s0, s1⟩ := q.c2
        exact bodyPost_ret (v := .agg #[.int .i64 (a : Int), .int .i64 (n : Int)]) (by simp [results, Tryz.results45, go_sem, s0, s1]) rfl ⟨by rw [HF.out.2.2 K1.out K2.out, ← HP.out], below_s2 B2.out (Nat.le_refl _) _ _⟩
    · have K1 := Lib.hid h1
      have K2 := Lib.hid h2
      have K3 := Lib.hid h3
      have hM := Lib.hid hm
      have hB := Lib.hid hb0
      obtain ⟨c0, c1⟩ := hm.c2
      obtain ⟨f0, f1⟩ := hm.f2
      clear h1 h2 h3 hm hb0 l1 l2 l3
      go_wp2_with fail
      have q := hM.out.s2 (.int .i64 0) (.int .i64 0)
      obtain ⟨s0, s1⟩ := q.c2
      exact bodyPost_ret (v := .agg #[.int .i64 0, .int .i64 0]) (by simp [results, Tryz.results45, go_sem, s0, s1]) rfl ⟨by rw [HF.out.2.2 K1.out K2.out, HZ3.out K3.out]; rfl, below_s2 hB.out (Nat.le_refl _) _ _⟩

end Lx
end Go.Proofs.YtggeepimihhpjaaGreatDoor

namespace Go.Proofs.YtggeepimihhpjaaGreatDoor
open Go.RowKit Sl Fr
namespace Lx
set_option linter.unusedVariables false
set_option maxRecDepth 100000

end Lx
end Go.Proofs.YtggeepimihhpjaaGreatDoor

namespace Go.Proofs.YtggeepimihhpjaaGreatDoor
open Go.RowKit Sl Fr
namespace Lx
set_option linter.unusedVariables false
set_option maxRecDepth 100000
set_option linter.unusedSimpArgs false

def tkV (t : Tk) : List Value := [.int .i64 (t.kind : Int), .string ⟨t.text.toArray⟩, .int .i64 (t.at_ : Int)]
def tkVs (ts : List Tk) : List Value := ts.flatMap tkV
theorem tkVs_append (a b : List Tk) : tkVs (a ++ b) = tkVs a ++ tkVs b := by simp [tkVs]
theorem tkVs_one (t : Tk) : tkVs [t] = tkV t := by simp [tkVs]
theorem tkVs_cons (t : Tk) (r : List Tk) : tkVs (t :: r) = tkV t ++ tkVs r := rfl
theorem tkVs_length (ts : List Tk) : (tkVs ts).length = ts.length * 3 := by
  induction ts with
  | nil => rfl
  | cons t r ih => rw [tkVs_cons, List.length_append, ih, List.length_cons]; simp [tkV]; omega
theorem tkVs_get {ts : List Tk} {i : Nat} {t : Tk} (h : ts[i]? = some t) : (tkVs ts)[i * 3]? = some (.int .i64 (t.kind : Int)) ∧ (tkVs ts)[i * 3 + 1]? = some (.string ⟨t.text.toArray⟩) ∧ (tkVs ts)[i * 3 + 2]? = some (.int .i64 (t.at_ : Int)) := by
  induction ts generalizing i with
  | nil => simp at h
  | cons u r ih =>
    rw [tkVs_cons]
    cases i with
    | zero =>
      simp at h
      subst h
      simp [tkV]
    | succ i =>
      obtain ⟨h1, h2, h3⟩ := ih (i := i) (by simpa using h)
      have hl : (tkV u).length = 3 := rfl
      refine ⟨?_, ?_, ?_⟩
      · rw [List.getElem?_append_right (by rw [hl]; omega), hl, show (i + 1) * 3 - 3 = i * 3 by omega]; exact h1
      · rw [List.getElem?_append_right (by rw [hl]; omega), hl, show (i + 1) * 3 + 1 - 3 = i * 3 + 1 by omega]; exact h2
      · rw [List.getElem?_append_right (by rw [hl]; omega), hl, show (i + 1) * 3 + 2 - 3 = i * 3 + 2 by omega]; exact h3
def TokA (w : World) (A : Option Addr) (ts : List Tk) : Prop := Arr w A (tkVs ts)
theorem TokA.keep {w w' : World} {A : Option Addr} {ts : List Tk} (h : TokA w A ts) (hb : Below w.heap.size w w') : TokA w' A ts := Arr.keep h hb
theorem TokA.open {w : World} {A : Option Addr} {ts : List Tk} (h : TokA w A ts) : ∃ b o, ts ≠ [] → A = some ⟨b, o, none⟩ ∧ b < w.heap.size ∧ ∀ (i : Nat) (t : Tk), ts[i]? = some t → w.cell? ⟨b, o + i * 3, none⟩ = some (.int .i64 (t.kind : Int)) ∧ w.cell? ⟨b, o + i * 3 + 1, none⟩ = some (.string ⟨t.text.toArray⟩) ∧ w.cell? ⟨b, o + i * 3 + 2, none⟩ = some (.int .i64 (t.at_ : Int)) := by
  by_cases hl : ts = []
  · exact ⟨0, 0, fun h' => absurd hl h'⟩
  · obtain ⟨b, o, e, hlt, hc⟩ := h (by
      intro h0
      have := congrArg List.length h0
      rw [tkVs_length] at this
      apply hl
      exact List.eq_nil_of_length_eq_zero (by rw [List.length_nil] at this; omega))
    refine ⟨b, o, fun _ => ⟨e, hlt, fun i t ht => ?_⟩⟩
    obtain ⟨h1, h2, h3⟩ := tkVs_get ht
    exact ⟨hc _ _ h1, by rw [Nat.add_assoc]; exact hc _ _ h2, by rw [Nat.add_assoc]; exact hc _ _ h3⟩
def TokF (w : World) (base : Nat) (A : Option Addr) (ts : List Tk) : Prop := ArrF w base A (tkVs ts)
theorem TokF.arr {w : World} {base : Nat} {A : Option Addr} {ts : List Tk} (h : TokF w base A ts) : TokA w A ts := ArrF.arr h
theorem TokF.nil (w : World) (base : Nat) (A : Option Addr) : TokF w base A [] := fun h => absurd rfl h
theorem tok_forms {w : World} {base : Nat} {e : TypeId} {v : Value} {ts : List Tk} (h : w.ownsRow base e 3 v ts.length (tkVs ts)) :
    ∃ A c, v = .slice A ts.length c ∧ ts.length ≤ c ∧ (A = none → ts = [] ∧ c = 0) ∧ ArrF w base A (tkVs ts) := by
  rcases h.2 with ⟨rfl, hn⟩ | ⟨g, cap, cur, hv, hb, hg, hnc, hcur⟩
  · have hts : ts = [] := List.eq_nil_of_length_eq_zero hn
    subst hts
    exact ⟨none, 0, rfl, Nat.le_refl _, fun _ => ⟨rfl, rfl⟩, fun h' => absurd rfl h'⟩
  · refine ⟨some ⟨g, 0, none⟩, cap, hv, hnc, fun h' => (by cases h'), ?_⟩
    by_cases h0 : 0 < ts.length
    · obtain ⟨g', cap', hv', hbox, hb'⟩ := row_box h h0
      rw [hv] at hv'
      have hgg : g = g' := by injection hv' with e1; injection e1 with e1; injection e1
      subst hgg
      intro _
      exact ⟨g, 0, rfl, hb', hbox.lt, fun j u hu => by rw [Nat.zero_add]; exact (hbox.cells j u (by simpa using hu)).1⟩
    · have hts : ts = [] := List.eq_nil_of_length_eq_zero (by omega)
      subst hts
      exact fun h' => absurd rfl h'
theorem infoTok : (Tryz.prog.info? 49).map (fun i => (i.zero, i.size, i.bytes)) = some (some (.agg #[.int .i64 0, .string ⟨#[]⟩, .int .i64 0]), 3, 32) := by kernel_rfl

def endT (n : Nat) : Tk := ⟨4, [], n⟩
def lexR (l : By) : List Tk × Nat × Nat := if 8000 < l.length then ([], 0, 2) else match (lex 0 l).2 with
  | none => ((lex 0 l).1 ++ [endT l.length], 0, 0)
  | some e => ([], e, 5)
theorem lexR_big {l : By} (h : 8000 < l.length) : lexR l = ([], 0, 2) := if_pos h
theorem lexR_ok {l : By} (h : l.length ≤ 8000) (h2 : (lex 0 l).2 = none) : lexR l = ((lex 0 l).1 ++ [endT l.length], 0, 0) := by
  unfold lexR
  rw [if_neg (by omega), h2]
theorem lexR_bad {l : By} (h : l.length ≤ 8000) {e : Nat} (h2 : (lex 0 l).2 = some e) : lexR l = ([], e, 5) := by
  unfold lexR
  rw [if_neg (by omega), h2]
def GiveX (r : List Tk × Nat × Nat) (w : World) (e : Ending) (w' : World) : Prop := ∃ A c, e = .returned (.tuple #[.slice A r.1.length c, .int .i64 (r.2.1 : Int), .int .i64 (r.2.2 : Int)]) ∧ r.1.length ≤ c ∧ (A = none → r.1 = [] ∧ c = 0) ∧ TokF w' w.heap.size A r.1 ∧ Below w.heap.size w w'
def LexAt (s : ByteArray) (w : World) (tv i : Value) (W : World) : Prop := ∃ (k : Nat) (ts : List Tk), i = .int .i64 (k : Int) ∧ k ≤ s.size ∧ ts.length ≤ k ∧ W.ownsRow w.heap.size 49 3 tv ts.length (tkVs ts) ∧
  lex 0 (bys s) = (ts ++ (lex k ((bys s).drop k)).1, (lex k ((bys s).drop k)).2) ∧ Below w.heap.size w W
theorem bys_from (s : ByteArray) (k : Nat) : bys (s.extract k s.size) = (bys s).drop k := by
  rw [bys_extract, List.take_of_length_le (by rw [bys_len]; exact Nat.le_refl _)]
theorem bys_mid {s : ByteArray} {k n : Nat} : s.extract k (k + n) = ⟨(((bys s).drop k).take n).toArray⟩ := by
  apply bys_ext
  rw [bys_extract]
  show _ = (((bys s).drop k).take n).toArray.toList
  rw [List.drop_take]
  simp

set_option maxRecDepth 100000 in
set_option maxHeartbeats 4000000 in
theorem lex_any (s : ByteArray) (w : World) (hs : s.size ≤ 281474976710656) (hv : Vars w) : Calls Tryz.prog 26 #[.string s] w (GiveX (lexR (bys s)) w) := by
  by_cases hbig : 8000 < s.size
  · rw [lexR_big (by rw [bys_len]; exact hbig)]
    go_enter Tryz.func26, Tryz.ntmps26
    go_wp2_with fail
    go_ret3
    exact ⟨none, 0, rfl, Nat.le_refl _, fun _ => ⟨rfl, rfl⟩, TokF.nil _ _ _, Below.refl _ _⟩
  have hsz : s.size ≤ 8000 := by omega
  obtain ⟨i0, hi0, hz0, hz1, hz2⟩ := Fr.parts_of infoTok
  have HI := Lib.hid (And.intro hi0 (And.intro hz0 (And.intro hz1 hz2)))
  have HV := Lib.hid hv
  have HL := Lib.hid (bys_len s)
  clear hv hs hi0 hz0 hz1 hz2
  have H0 : Hid (LexAt s w (.slice none 0 0) (.int .i64 0) w) := Lib.hid ⟨0, [], rfl, Nat.zero_le _, Nat.le_refl _, World.ownsRow_nil _ _ _ _, by rw [List.drop_zero]; rfl, Below.refl _ _⟩
  go_enter Tryz.func26, Tryz.ntmps26
  go_wp2_with fail
  go_loopw [5, 6] (LexAt s w) (fun _ i _ => s.size - (intOf i).toNat)
  case atStart => exact H0.out
  case round =>
    obtain ⟨k, ts, rfl, hk, hts, hrow, hlex, hbl⟩ := hrel
    have HX := Lib.hid hlex
    have HR := Lib.hid hrow
    have HB := Lib.hid hbl
    clear hlex hrow hbl H0
    by_cases hlt : k < s.size
    · have hne : (bys s).drop k ≠ [] := by
        intro h0
        have := congrArg List.length h0
        rw [List.length_drop, HL.out] at this
        simp at this
        omega
      have HC := Lib.hid (fst_lex hne k)
      have hle := fst_le ((bys s).drop k)
      rw [List.length_drop, HL.out] at hle
      have HF : Hid (Calls Tryz.prog 45 #[.string (s.extract k s.size)] wr (GiveP (fstP ((bys s).drop k)) wr)) := Lib.hid (by
        have := first_any (s.extract k s.size) wr (by rw [ByteArray.size_extract]; omega) (HV.out.keep HB.out)
        rwa [bys_from] at this)
      have HM : Hid (∀ n, s.extract k (k + n) = ⟨(((bys s).drop k).take n).toArray⟩) := Lib.hid (fun n => bys_mid)
      generalize fstP ((bys s).drop k) = p at *
      obtain ⟨a, n⟩ := p
      have hkn : k + n ≤ s.size := by have h : n ≤ s.size - k := hle; omega
      clear hle
      have i1 : (0 : Int) ≤ (k : Int) := by omega
      have i2 : (k : Int) ≤ (s.size : Int) := by omega
      rcases HC.out with ⟨h1, h2, h3⟩ | ⟨h1, h2, h3⟩ | ⟨h1, h2, _, h3⟩
      · injection h2 with h2 h2'
        subst h2 h2'
        have HQ : Hid (lexR (bys s) = ([], k, 5)) := Lib.hid (by
          have := HX.out
          rw [h3] at this
          exact lexR_bad (by rw [HL.out]; exact hsz) (by rw [this]))
        clear HC HM h1 h3 HI
        go_wp2_with fail
        refine HF.out.mono ?_
        rintro e W1 ⟨rfl, hb⟩
        have hb2 := Lib.hid ((HB.out.trans (hb.mono HB.out.size)).trans (((Below.refl _ W1).alloc (Nat.le_refl _) (.cells #[.int .i64 0, .int .i64 0] 105)).mono (HB.out.trans (hb.mono HB.out.size)).size))
        clear hb HF HR HB HX
        go_wp2_with fail
        go_ret3
        rw [HQ.out]
        exact ⟨none, 0, rfl, Nat.le_refl _, fun _ => ⟨rfl, rfl⟩, TokF.nil _ _ _, hb2.out⟩
      · have h2 : a = 0 := h2
        have h1 : 0 < n := Nat.pos_of_ne_zero h1
        subst h2
        have HY : Hid (lex 0 (bys s) = (ts ++ (lex (k + n) ((bys s).drop (k + n))).1, (lex (k + n) ((bys s).drop (k + n))).2)) := Lib.hid (by
          have := HX.out
          rw [h3, List.drop_drop] at this
          exact this)
        have e1 : ((n : Int) == 0) = false := by simp; omega
        have e2 : (n == 0) = false := by simp; omega
        clear HC HM h3 HI HX
        go_wp2_with fail
        refine HF.out.mono ?_
        rintro e W1 ⟨rfl, hb⟩
        have B1 := HB.out.trans (hb.mono HB.out.size)
        have bA := (Below.refl _ W1).alloc (Nat.le_refl _) (.cells #[.int .i64 0, .int .i64 (n : Int)] 105)
        have hb2 := Lib.hid (B1.trans (bA.mono B1.size))
        have hr2 := Lib.hid (row_keep (row_keep HR.out hb) bA)
        clear hb HF HR HB B1 bA
        go_wp2_with fail
        go_roundw
        case rel => exact ⟨k + n, ts, by go_num, hkn, by omega, hr2.out, HY.out, hb2.out⟩
        case measure => simp [intOf]; omega
      · have h1 : 0 < n := Nat.pos_of_ne_zero h1
        have h2 : a ≠ 0 := h2
        have HY : Hid (lex 0 (bys s) = ((ts ++ [⟨a, ((bys s).drop k).take n, k⟩]) ++ (lex (k + n) ((bys s).drop (k + n))).1, (lex (k + n) ((bys s).drop (k + n))).2)) := Lib.hid (by
          have := HX.out
          rw [h3, List.drop_drop] at this
          rw [this]
          simp)
        have e1 : ((n : Int) == 0) = false := by simp; omega
        have e2 : (n == 0) = false := by simp; omega
        have e3 : ((a : Int) == 0) = false := by simp; omega
        have e4 : (a == 0) = false := by simp; omega
        have e5 : ((a : Int) != 0) = true := by simp; omega
        clear HC h3 HX
        go_wp2_with fail
        refine HF.out.mono ?_
        rintro e W1 ⟨rfl, hb⟩
        have B1 := HB.out.trans (hb.mono HB.out.size)
        obtain ⟨m0, bA⟩ := start1 W1 #[.int .i64 (a : Int), .int .i64 (n : Int)] 105
        have B2 := B1.trans (bA.mono B1.size)
        have HNE := Lib.hid (fun g hg => ((row_keep HR.out hb).lt g hg).2)
        have hr2 := row_keep (row_keep HR.out hb) bA
        clear hb HF HR HB B1 bA
        go_upto_region 10 with fail
        generalize (W1.alloc (.cells #[.int .i64 (a : Int), .int .i64 (n : Int)] 105)) = X at *
        generalize W1.heap.size = pb at *
        have hpl := m0.lt
        have HR2 := Lib.hid hr2
        have HOWN := Lib.hid (row_own hr2)
        have HB2 := Lib.hid B2
        clear hr2 B2
        obtain ⟨c, hc⟩ : ∃ c : Nat, c = k + n := ⟨_, rfl⟩
        have hw : IntKind.i64.wrap ((k : Int) + (n : Int)) = (c : Int) := by rw [hc]; exact IntWalk.i64_in _ (by omega)
        have hkc : k ≤ c := by omega
        have hcs : c ≤ s.size := by omega
        have i3 : (k : Int) ≤ (c : Int) := by omega
        have i4 : (c : Int) ≤ (s.size : Int) := by omega
        have HCC := Lib.hid hc
        clear hc
        refine wp_region_free0 (agf := ?fra) 12 (by kernel_rfl) [0] (by kernel_rfl) (fun d _ _ _ _ h => by cases d <;> exact h) ?fra1 ?fra2
        case fra1 =>
          intro W hW
          obtain ⟨d0, d1⟩ := m0.l2 hW
          simp only [List.take_succ_cons, List.take_zero, ghostL, List.contains_cons, List.contains_nil, Nat.reduceAdd, Nat.reduceBEq, Bool.or_false, Bool.or_true, Bool.true_or, Bool.false_or, Bool.false_eq_true, if_false, if_true, ghostO]
          repeat (go_big_quiet_step (fail))
          refine wpQuiet_nil ?_
          rfl
        case fra2 =>
          intro W2 hb2
          simp only [List.drop_succ_cons, List.drop_zero, Act.put, List.setIfInBounds_toArray, List.set_cons_succ, List.set_cons_zero]
          obtain ⟨hi0, hz0, hz1, hz2⟩ := HI.out
          have m1 := m0.keep hb2
          have B3 := HB2.out.trans (hb2.mono HB2.out.size)
          have B4 := (Below.refl _ W2).alloc (Nat.le_refl _) (.cells #[.int .i64 (a : Int), .string (s.extract k c), .int .i64 (k : Int)] 49)
          have m2 := m1.keep B4
          have HR3 := Lib.hid (row_keep (row_keep HR2.out hb2) B4)
          have hsX := hb2.size
          have hsw := HB2.out.size
          clear hb2 m0 m1
          go_upto_region 11 with (at_builtin; refine wpList_append_own _ rfl _ _ 35 rfl w.heap.size 49 i0 (.agg #[.int .i64 0, .string ⟨#[]⟩, .int .i64 0]) 3 32 Tryz.underlying35 hi0 hz0 hz1 hz2 rfl (by decide) _ _ _ rfl HR3.out ⟨W2.heap.size, 0, none⟩ 1 1 [.int .i64 (a : Int), .string (s.extract k c), .int .i64 (k : Int)] rfl rfl (World.news_of_block (cs := #[.int .i64 (a : Int), .string (s.extract k c), .int .i64 (k : Int)]) (t := 49) (fr := (0, 0)) (heap_alloc_new W2 _)) (by simp [Value.oneCell']) (by unfold maxLen; omega) (by omega) (by simp; omega) ?_; intro v2 w1 hown1 hgrow1 hat1)
          have B5 := ((B3.trans (B4.mono B3.size)).grown hgrow1 (by simp; omega) (fun g hg => HOWN.out g hg))
          have m3 := m2.grown hgrow1 (fun h => by have := HNE.out _ h.symm; omega)
          obtain ⟨d0, d1⟩ := m3.c2
          have hown : Hid (w1.ownsRow w.heap.size 49 3 v2 (ts ++ [Tk.mk a (((bys s).drop k).take n) k]).length (tkVs (ts ++ [Tk.mk a (((bys s).drop k).take n) k]))) := Lib.hid (by
            rw [tkVs_append, tkVs_one, List.length_append]
            have e : s.extract k c = ⟨(((bys s).drop k).take n).toArray⟩ := by rw [HCC.out]; exact HM.out n
            rw [e] at hown1
            exact hown1)
          have HB5 := Lib.hid B5
          clear hown1 hgrow1 hat1 m3 m2 B3 B4 B5 hi0 hz0 hz1 hz2
          go_wp2_with fail
          go_roundw
          case rel => exact ⟨k + n, _, by first | rfl | go_num | (rw [HCC.out]), hkn, by rw [List.length_append]; simp; omega, hown.out, HY.out, HB5.out⟩
          case measure => (have hcc := HCC.out); simp [intOf]; omega
    · have hkk : k = s.size := by omega
      have HQ : Hid (lexR (bys s) = (ts ++ [endT s.size], 0, 0)) := Lib.hid (by
        have := HX.out
        rw [List.drop_of_length_le (by rw [HL.out]; omega), lex_nil, List.append_nil] at this
        have h2 := lexR_ok (l := bys s) (by rw [HL.out]; exact hsz) (by rw [this])
        rw [h2, this, HL.out])
      clear HX
      obtain ⟨hi0, hz0, hz1, hz2⟩ := HI.out
      have B4 := (Below.refl _ wr).alloc (Nat.le_refl _) (.cells #[.int .i64 4, .string ⟨#[]⟩, .int .i64 (s.size : Int)] 49)
      have HR3 := Lib.hid (row_keep HR.out B4)
      have HOWN := Lib.hid (row_own HR.out)
      have B5 := Lib.hid (HB.out.trans (B4.mono HB.out.size))
      have hsw := HB.out.size
      clear B4 hkk
      go_wp2_with (at_builtin; refine wpList_append_own _ rfl _ _ 35 rfl w.heap.size 49 i0 (.agg #[.int .i64 0, .string ⟨#[]⟩, .int .i64 0]) 3 32 Tryz.underlying35 hi0 hz0 hz1 hz2 rfl (by decide) _ _ _ rfl HR3.out ⟨wr.heap.size, 0, none⟩ 1 1 [.int .i64 4, .string ⟨#[]⟩, .int .i64 (s.size : Int)] rfl rfl (World.news_of_block (cs := #[.int .i64 4, .string ⟨#[]⟩, .int .i64 (s.size : Int)]) (t := 49) (fr := (0, 0)) (heap_alloc_new wr _)) (by simp [Value.oneCell']) (by unfold maxLen; omega) (by omega) (by simp; omega) ?_; intro v2 w1 hown1 hgrow1 hat1)
      have hown : w1.ownsRow w.heap.size 49 3 v2 (ts ++ [endT s.size]).length (tkVs (ts ++ [endT s.size])) := by
        rw [tkVs_append, tkVs_one, List.length_append]
        exact hown1
      obtain ⟨A, c, rfl, hc, hnil, hA⟩ := tok_forms hown
      have B6 := B5.out.grown hgrow1 (by simp; omega) (fun g hg => HOWN.out g hg)
      have HA : Hid (TokF w1 w.heap.size A (ts ++ [endT s.size])) := Lib.hid hA
      have HB6 := Lib.hid B6
      have HN6 := Lib.hid hnil
      have HC6 := Lib.hid hc
      clear hown hown1 hgrow1 hat1 hA B6 hnil hc hi0 hz0 hz1 hz2 HR HR3
      go_wp2_with fail
      go_ret3
      rw [HQ.out]
      exact ⟨A, c, rfl, HC6.out, HN6.out, HA.out, HB6.out⟩

end Lx
end Go.Proofs.YtggeepimihhpjaaGreatDoor
