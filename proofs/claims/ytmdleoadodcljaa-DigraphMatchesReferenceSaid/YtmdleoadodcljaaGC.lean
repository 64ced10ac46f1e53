/- What Index and Order return. -/
import Derived.Test.YtmdleoadodcljaaZC
import Derived.Test.YtmdleoadodcljaaGB
namespace Go.Proofs.Ytmdleoadodcljaa
open Go.RowKit Sl Fr
namespace Gp
set_option linter.unusedVariables false

theorem sucL_row {n : Nat} {u : Nat} (hu : u < n) : ∀ es : Dgr.Edges, (sucL n es)[u]? = some (Dgr.succs es u) := by
  intro es
  generalize hr : es.reverse = r
  induction r generalizing es with
  | nil =>
    obtain rfl : es = [] := by simpa using hr
    simp [sucL, Dgr.succs, hu]
  | cons e r ih =>
    obtain rfl : es = r.reverse ++ [e] := by rw [← List.reverse_reverse es, hr]; simp
    obtain ⟨a, b⟩ := e
    have h := ih r.reverse (by simp)
    rw [sucL_snoc, rowStep, Dgr.succs_snoc]
    by_cases hau : a = u
    · subst hau
      rw [if_pos rfl, h, List.getElem?_set_self (by rw [sucL_length]; exact hu)]
      rfl
    · rw [if_neg hau, List.getElem?_set_ne hau, h]

/-- A place, or -1. -/
def optI : Option Nat → Int
  | some v => v
  | none => -1
/-- Where x stands first among the n cells. -/
def findI (f : Nat → Int) (n : Nat) (x : Int) : Option Nat := (List.range n).find? fun v => f v == x
theorem range_find_lt {p : Nat → Bool} {n k : Nat} (hk : k ≤ n) (h : ∀ j, j < k → p j = false) : (List.range n).find? p = ((List.range' k (n - k)).find? p) := by
  rw [List.range_eq_range', show n = k + (n - k) by omega, ← List.range'_append_1, List.find?_append]
  have : (List.range' 0 k).find? p = none := List.find?_eq_none.2 fun x hx => by
    rw [List.mem_range'_1] at hx
    rw [h x (by omega)]
    simp
  rw [this]
  simp
theorem find_at {p : Nat → Bool} {n k : Nat} (hk : k < n) (h : ∀ j, j < k → p j = false) (hp : p k = true) : (List.range n).find? p = some k := by
  rw [range_find_lt (by omega) h, show n - k = (n - k - 1) + 1 by omega, List.range'_succ, List.find?_cons_of_pos hp]
theorem find_not {p : Nat → Bool} {n : Nat} (h : ∀ j, j < n → p j = false) : (List.range n).find? p = none := List.find?_eq_none.2 fun x hx => by rw [h x (List.mem_range.1 hx)]; simp

set_option maxRecDepth 100000 in
set_option maxHeartbeats 1000000 in
theorem index_any (n N : Nat) (f : Nat → Int) (w : World) (hC : CellsV w N n (iF f)) (hn : n ≤ 200) :
    Calls Try.prog 38 #[.slice (some ⟨N, 0, none⟩) n n, .int .i64 0] w fun e w' => e = .returned (.int .i64 (optI (findI f n 0))) ∧ Below w.heap.size w w' := by
  have HC := Lib.hid hC
  have hNlt := hC.lt
  clear hC
  go_enter Try.func38, Try.ntmps38
  go_wp2
  go_loopg [8] n (fun g i wr => ∃ k : Nat, i = .int .i64 k ∧ k ≤ n ∧ g = n - k ∧ (∀ j, j < k → (f j == 0) = false) ∧ Below w.heap.size w wr)
  case atStart => exact ⟨0, rfl, Nat.zero_le _, rfl, fun j hj => absurd hj (by omega), Below.refl _ _⟩
  case round =>
    obtain ⟨k, rfl, hk, rfl, hno, hbl⟩ := hrel
    have HNO := Lib.hid hno
    clear hno
    by_cases hlt : k < n
    · have hck : wr.cell? ⟨N, k, none⟩ = some (.int .i64 (f k)) := (hbl.cell (p := ⟨N, k, none⟩) hNlt).trans (HC.out.cell k hlt)
      by_cases hf : f k = 0
      · have HF := Lib.hid hf
        rw [hf] at hck
        clear hf
        go_wp2
        go_ret
        refine ⟨?_, hbl⟩
        have : findI f n 0 = some k := find_at hlt HNO.out (by rw [HF.out]; rfl)
        exact ret_num (by rw [this]; rfl)
      · have HF := Lib.hid hf
        have hfd : ((0 : Int) == f k) = false := by simpa using Ne.symm hf
        clear hf
        go_wp2
        go_roundg (n - (k + 1))
        case measure => omega
        case rel =>
          refine ⟨k + 1, by go_num, by omega, rfl, fun j hj => ?_, hbl⟩
          by_cases hjk : j = k
          · subst hjk; simpa using HF.out
          · exact HNO.out j (by omega)
    · go_wp2
      go_ret
      refine ⟨?_, hbl⟩
      have : findI f n 0 = none := find_not (fun j hj => HNO.out j (by omega))
      exact ret_num (by rw [this]; rfl)

/-- A slice without elements, with room for n. -/
theorem make_room (n : Nat) (hn : n ≤ 200) : ∀ w' : World, (Instr.makeSlice 26 (.int .i64 0) (.int .i64 (n : Int))).run Try.prog w' = .ok (.slice (some ⟨w'.heap.size, 0, none⟩) 0 n) (w'.alloc (.cells (madeCells #[.int .i64 0] n) 3)) := fun w' => by
  obtain ⟨i0, hi0, hz0, hz1, hz2⟩ := parts_of infoInt
  have hr := run_make (P := Try.prog) w' 26 3 i0 (.int .i64 0) Try.underlying26 hi0 hz0 .i64 .i64 0 n (by omega) (by omega) (by rw [hz2]; omega) (by omega)
  simp only [hz1, Nat.mul_one, Int.toNat_natCast] at hr
  exact hr

end Gp
end Go.Proofs.Ytmdleoadodcljaa
