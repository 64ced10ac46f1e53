/- What the law's lexed, lined and bad return; Same, Alike. -/
import Derived.Test.YtiebhlmjpnhepaaDoorW8
namespace Go.Proofs.YtiebhlmjpnhepaaDoor
open Go.RowKit Sl Fr
namespace Lx
set_option linter.unusedVariables false
set_option linter.unusedSimpArgs false

/-- Tokens, an offset, an error are given back as a struct. -/
def GiveS (r : List Tk × Nat × Nat) (w : World) (e : Ending) (w' : World) : Prop := ∃ A c, e = .returned (.agg #[.slice A r.1.length c, .int .i64 (r.2.1 : Int), .int .i64 (r.2.2 : Int)]) ∧ r.1.length ≤ c ∧ (A = none → r.1 = [] ∧ c = 0) ∧ TokF w' w.heap.size A r.1 ∧ Below w.heap.size w w'
theorem lexed_any (s : ByteArray) (w : World) (hs : s.size ≤ 281474976710656) (hv : Vars w) : Calls Tryd.prog 13 #[.string s] w (GiveS (lexR (bys s)) w) := by
  obtain ⟨m0, B0⟩ := start1 w #[.slice none 0 0, .int .i64 0, .int .i64 0] 29
  have HL := Lib.hid (fun W hW => lex_any s W hs hW)
  generalize lexR (bys s) = r at *
  have HV := Lib.hid hv
  clear hv hs
  go_enter Tryd.func13, Tryd.ntmps13
  go_wp2_with fail
  generalize w.alloc (.cells #[.slice none 0 0, .int .i64 0, .int .i64 0] 29) = W0 at *
  refine (HL.out _ (HV.out.keep B0)).mono ?_
  rintro e W1 ⟨A, c, rfl, hc, hn, hA, hb⟩
  have m1 := m0.keep hb
  have B1 := B0.trans (hb.mono B0.size)
  obtain ⟨c0, c1, c2⟩ := m1.c3
  obtain ⟨f0, f1, f2⟩ := m1.f3
  have hsz0 := B0.size
  have HA2 : Hid (TokF (((W1.setCell ⟨w.heap.size, 0, none⟩ (.slice A r.1.length c)).setCell ⟨w.heap.size, 1, none⟩ (.int .i64 (r.2.1 : Int))).setCell ⟨w.heap.size, 2, none⟩ (.int .i64 (r.2.2 : Int))) w.heap.size A r.1) := Lib.hid (ArrF.mono (((ArrF.set hA (p := ⟨w.heap.size, 0, none⟩) m0.lt _).set (p := ⟨w.heap.size, 1, none⟩) m0.lt _).set (p := ⟨w.heap.size, 2, none⟩) m0.lt _) hsz0)
  have HN := Lib.hid hn
  have HC := Lib.hid hc
  have M1 := Lib.hid m1
  have HB := Lib.hid B1
  clear hA hn hc m0 m1 B0 B1 hb HL
  go_wp2_with fail
  have q := M1.out.s3 (.slice A r.1.length c) (.int .i64 (r.2.1 : Int)) (.int .i64 (r.2.2 : Int))
  obtain ⟨s0, s1, s2⟩ := q.c3
  exact bodyPost_ret (v := .agg #[.slice A r.1.length c, .int .i64 (r.2.1 : Int), .int .i64 (r.2.2 : Int)]) (by simp [results, Tryd.results13, go_sem, s0, s1, s2]) rfl
    ⟨A, c, rfl, HC.out, HN.out, HA2.out, below_s3 HB.out (Nat.le_refl _) _ _ _⟩

def GiveD (p : Nat × Nat) (w : World) (e : Ending) (w' : World) : Prop := e = .returned (.agg #[.int .i64 (p.1 : Int), .int .i64 (p.2 : Int)]) ∧ Below w.heap.size w w'
theorem lined_any (s : ByteArray) (a : Int) (w : World) (hs : s.size ≤ 281474976710656) : Calls Tryd.prog 18 #[.string s, .int .i64 a] w (GiveD (lnP s a) w) := by
  have HL := Lib.hid (fun W => line_any s a W hs)
  generalize lnP s a = r at *
  clear hs
  go_enter Tryd.func18, Tryd.ntmps18
  go_wp2_with fail
  refine (HL.out _).mono ?_
  rintro e W1 ⟨rfl, rfl⟩
  go_wp2_with fail
  exact bodyPost_ret (v := .agg #[.int .i64 (r.1 : Int), .int .i64 (r.2 : Int)]) (by simp [results, Tryd.results18, go_sem]) rfl ⟨rfl, (Below.refl _ w).alloc (Nat.le_refl _) _⟩

end Lx
end Go.Proofs.YtiebhlmjpnhepaaDoor
