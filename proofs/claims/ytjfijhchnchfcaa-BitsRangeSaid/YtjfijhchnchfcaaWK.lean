/- BitsRange. -/
import Derived.Test.YtjfijhchnchfcaaWJ
import Derived.Test.YtjfijhchnchfcaaLB
import Derived.Maps.AppendAt
namespace Go.Proofs.Ytjfijhchnchfcaa
open Go.RowKit Sl Fr
namespace Bt
set_option linter.unusedVariables false
set_option linter.unusedSimpArgs false

def sliceS (n : Nat) (R : World → Option Addr → Prop) : FSpec := ⟨fun v => ∃ B c, v = .slice (some ⟨B, 0, none⟩) n c, fun _ v wm => ∀ B c, v = .slice (some ⟨B, 0, none⟩) n c → R wm (some ⟨B, 0, none⟩)⟩
theorem arr_lit (W : World) (l : List Int) (cs : Array Value) (t : TypeId) (h : cs.toList = l.map (Value.int .i64)) : Arr (W.alloc (.cells cs t)) (some ⟨W.heap.size, 0, none⟩) (l.map (Value.int .i64)) := fun _ =>
  ⟨W.heap.size, 0, rfl, by simp, fun j u hu => by rw [Nat.zero_add, World.cell?_alloc_at _ _ _ j rfl, ← Array.getElem?_toList, h]; exact hu⟩
theorem infoInt : (Try.prog.info? 3).map (fun i => (i.zero, i.size, i.bytes)) = some (some (.int .i64 0), 1, 8) := by kernel_rfl
theorem arr_take {W : World} {b : Nat} {l : List Int} (n : Nat) (h : BoxL W b (l.map (Value.int .i64)).toArray) : ArrI W (some ⟨b, 0, none⟩) (l.take n) := fun hne => ⟨b, 0, rfl, h.lt, fun j u hu => by
  rw [Nat.zero_add]
  have : (l.map (Value.int .i64))[j]? = some u := by
    rw [List.map_take, List.getElem?_take] at hu
    split at hu
    · exact hu
    · cases hu
  exact (h.cells j u (by simpa using this)).1⟩

set_option maxRecDepth 100000 in
set_option maxHeartbeats 4000000 in
theorem range_out (op r : Nat) (w0 w1 w2 z0 z1 z2 z3 z4 : Int) (w : World) (hop : op < 256) (hr : r < 16) (hq : (op : Int) % 16 = (r : Int)) (h13 : ¬ (1 ≤ r ∧ r ≤ 13)) :
    Calls Try.prog 4 #[.int .u8 (op : Int), .agg #[.int .i64 w0, .int .i64 w1, .int .i64 w2], .agg #[.int .i64 z0, .int .i64 z1, .int .i64 z2, .int .i64 z3, .int .i64 z4]] w fun e w' => e = .returned (.bool true) ∧ Below w.heap.size w w' := by
  go_enter Try.func4, Try.ntmps4
  go_upto_region 1 with fail
  have hst := start2 w #[.int .i64 w0, .int .i64 w1, .int .i64 w2] #[.int .i64 z0, .int .i64 z1, .int .i64 z2, .int .i64 z3, .int .i64 z4] 42 43
  generalize (w.alloc (.cells #[.int .i64 w0, .int .i64 w1, .int .i64 w2] 42)).alloc (.cells #[.int .i64 z0, .int .i64 z1, .int .i64 z2, .int .i64 z3, .int .i64 z4] 43) = W0 at *
  obtain ⟨m0, m1, B0⟩ := hst
  go_upto_region 4 with (refine (examples_any.at _).mono ?_; rintro e W1 ⟨rfl, hb1⟩)
  have MW := Lib.hid (m0.keep hb1)
  have MZ := Lib.hid (m1.keep hb1)
  have BB := Lib.hid (B0.trans (hb1.mono B0.size))
  clear m0 m1 B0 hb1
  have ha := fun w => arity_any r hr w
  rw [show arI r = -1 from if_neg h13] at ha
  have WO := fun (wz : World) (hz : Below W1.heap.size W1 wz) => width_out (r : Int) (.slice (some ⟨w.heap.size, 0, none⟩) 3 3) [] z0 z1 wz (by omega)
  rw [wid_out (by omega)] at WO
  rw [show err 0 = 1 from rfl] at WO
  clear h13
  have zc0 : ∀ wz, Below W1.heap.size W1 wz → wz.cell? ⟨w.heap.size + 1, 0, none⟩ = some (.int .i64 z0) := fun wz hz => (MZ.out.keep hz).get (i := 0) rfl
  have zc1 : ∀ wz, Below W1.heap.size W1 wz → wz.cell? ⟨w.heap.size + 1, 1, none⟩ = some (.int .i64 z1) := fun wz hz => (MZ.out.keep hz).get (i := 1) rfl
  go_upto_region 6 with (go_at_call 21; refine (ha _).mono ?_; rintro e w' ⟨rfl, rfl⟩)
  refine wp_region_flow 14 [.det (.int .u8 ((op : Int))), .det (.int .u8 ((r : Int))), .det (.int .i64 ((r : Int))), .det (.slice ((some ⟨w.heap.size, 0, none⟩)) 3 3), .det (.pointer (some ⟨(w.heap.size + 1), 0, none⟩)), .det (.int .i64 z0), .det (.pointer (some ⟨(w.heap.size + 1), 1, none⟩)), .det (.int .i64 z1), .det (.agg #[.int .i64 z0, .int .i64 z1]), .det (.tuple #[.int .i64 0, .int .i64 1]), .det (.tuple #[.int .i64 0, .int .i64 1]), .det (.int .i64 0), .det (.int .i64 1), .det (.int .i64 0)] (by kernel_rfl) (by kernel_rfl) rfl ?_
  simp only [List.take_succ_cons, List.take_zero, List.drop_succ_cons, List.drop_zero]
  refine flowL_det (fun wz hz hd => stepF_reads (by rfl) ?_) ?_
  · go_simp; try rfl
  simp only [Act.put, List.setIfInBounds_toArray, List.set_cons_zero, List.set_cons_succ]
  refine flowL_det (fun wz hz hd => stepF_reads (by rfl) ?_) ?_
  · go_simp; exact (Int.tmod_eq_emod_of_nonneg (by omega)).trans hq
  simp only [Act.put, List.setIfInBounds_toArray, List.set_cons_zero, List.set_cons_succ]
  refine flowL_det (fun wz hz hd => stepF_reads (by rfl) ?_) ?_
  · go_simp; exact IntWalk.i64_in _ (by omega)
  simp only [Act.put, List.setIfInBounds_toArray, List.set_cons_zero, List.set_cons_succ]
  refine flowL_det (fun wz hz hd => stepF_reads (by rfl) ?_) ?_
  · go_simp; try rfl
  simp only [Act.put, List.setIfInBounds_toArray, List.set_cons_zero, List.set_cons_succ]
  refine flowL_det (fun wz hz hd => stepF_reads (by rfl) ?_) ?_
  · go_simp; try rfl
  simp only [Act.put, List.setIfInBounds_toArray, List.set_cons_zero, List.set_cons_succ]
  refine flowL_det (fun wz hz hd => stepF_reads (by rfl) ?_) ?_
  · have q := zc0 wz hz; go_simp; try rfl
  simp only [Act.put, List.setIfInBounds_toArray, List.set_cons_zero, List.set_cons_succ]
  refine flowL_det (fun wz hz hd => stepF_reads (by rfl) ?_) ?_
  · go_simp; try rfl
  simp only [Act.put, List.setIfInBounds_toArray, List.set_cons_zero, List.set_cons_succ]
  refine flowL_det (fun wz hz hd => stepF_reads (by rfl) ?_) ?_
  · have q := zc1 wz hz; go_simp; try rfl
  simp only [Act.put, List.setIfInBounds_toArray, List.set_cons_zero, List.set_cons_succ]
  refine flowL_det (fun wz hz hd => stepF_reads (by rfl) ?_) ?_
  · go_simp; try rfl
  simp only [Act.put, List.setIfInBounds_toArray, List.set_cons_zero, List.set_cons_succ]
  refine flowL_det (fun wz hz hd => stepF_walk (by rfl) (fun K hK => ?_)) ?_
  · go_wp2_with fail
    go_at_call 10
    refine (WO wz hz).mono ?_
    rintro e w9 ⟨rfl, hb⟩
    exact hK.out _ _ rfl trivial hb
  simp only [Act.put, List.setIfInBounds_toArray, List.set_cons_zero, List.set_cons_succ]
  refine flowL_det (fun wz hz hd => stepF_reads (by rfl) ?_) ?_
  · go_simp; try rfl
  simp only [Act.put, List.setIfInBounds_toArray, List.set_cons_zero, List.set_cons_succ]
  refine flowL_det (fun wz hz hd => stepF_reads (by rfl) ?_) ?_
  · go_simp; try rfl
  simp only [Act.put, List.setIfInBounds_toArray, List.set_cons_zero, List.set_cons_succ]
  refine flowL_det (fun wz hz hd => stepF_reads (by rfl) ?_) ?_
  · go_simp; try rfl
  simp only [Act.put, List.setIfInBounds_toArray, List.set_cons_zero, List.set_cons_succ]
  refine flowL_det (fun wz hz hd => stepF_reads (by rfl) ?_) ?_
  · go_simp; try rfl
  simp only [Act.put, List.setIfInBounds_toArray, List.set_cons_zero, List.set_cons_succ]
  intro w3 ps hb3 hF hap
  clear hF hap
  clear WO zc0 zc1
  go_wp2_with fail
  go_ret
  exact ⟨rfl, BB.out.trans (hb3.mono BB.out.size)⟩

end Bt
end Go.Proofs.Ytjfijhchnchfcaa
