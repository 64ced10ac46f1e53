/- Alike of what is alike; the examples. -/
import Derived.Test.YtiebhlmjpnhepaaDoorWA
namespace Go.Proofs.YtiebhlmjpnhepaaDoor
open Go.RowKit Sl Fr
namespace Lx
set_option linter.unusedVariables false
set_option linter.unusedSimpArgs false

theorem shift0 (ts : List Tk) : ts.map (shiftT 0) = ts := by
  conv => rhs; rw [← List.map_id ts]
  rfl
theorem same_self (ts : List Tk) : sameB ts ts 0 = true := by
  unfold sameB
  rw [decide_eq_true_eq, shift0]
theorem alike_any (A B : Option Addr) (r : List Tk × Nat × Nat) (c d : Nat) (w : World) (hA : TokA w A r.1) (hB : TokA w B r.1) (hl : r.1.length ≤ 100000) (ht : ∀ t ∈ r.1, t.at_ ≤ 100000) :
    Calls Tryd.prog 14 #[.agg #[.slice A r.1.length c, .int .i64 (r.2.1 : Int), .int .i64 (r.2.2 : Int)], .agg #[.slice B r.1.length d, .int .i64 (r.2.1 : Int), .int .i64 (r.2.2 : Int)]] w fun e w' => e = .returned (.bool true) ∧ Below w.heap.size w w' := by
  obtain ⟨m0, m1, B0⟩ := start2 w #[.slice A r.1.length c, .int .i64 (r.2.1 : Int), .int .i64 (r.2.2 : Int)] #[.slice B r.1.length d, .int .i64 (r.2.1 : Int), .int .i64 (r.2.2 : Int)] 29 29
  have HS := Lib.hid (fun W (hW : Below w.heap.size w W) => same_any A B r.1 r.1 c d 0 W (hA.keep hW) (hB.keep hW) hl (by omega) ht)
  rw [same_self] at HS
  have HB0 := Lib.hid B0
  clear hA hB hl ht B0
  obtain ⟨c0, c1, c2⟩ := m0.c3
  obtain ⟨d0, d1, d2⟩ := m1.c3
  clear m0 m1
  go_enter Tryd.func14, Tryd.ntmps14
  go_wp2_with fail
  refine (HS.out _ HB0.out).mono ?_
  rintro e W1 ⟨rfl, hb⟩
  have HB1 := Lib.hid (HB0.out.trans (hb.mono HB0.out.size))
  clear hb
  go_wp2_with fail
  go_ret
  exact ⟨rfl, HB1.out⟩

end Lx
end Go.Proofs.YtiebhlmjpnhepaaDoor
