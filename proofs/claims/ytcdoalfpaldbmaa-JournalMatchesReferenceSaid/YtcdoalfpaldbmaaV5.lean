/- The reference's Whole, Cut, PutIn and Journal. -/
import Derived.Test.YtcdoalfpaldbmaaV4
namespace Go.Proofs.Ytcdoalfpaldbmaa
open Go.RowKit Sl Fr Dg
namespace Jn
set_option linter.unusedVariables false

theorem field_r3 (A B : Option Addr) (k c m d : Nat) (x y z : Int) (w : World) : (Instr.field 34 (.agg #[.slice A k c, .slice B m d, .int .i64 x, .int .i64 y, .int .u64 z]) 3).run Try.prog w = .ok (.int .i64 y) w := by kernel_rfl
attribute [local go_sem] field_b0 field_b1 field_r0 field_r3

theorem rwhole_any (A : Option Addr) (bs rest : List Int) (rs : List (List Int)) (c : Nat) (w : World) (hA : Byt w A bs) (hb8 : B8 bs) (hl : bs.length ≤ 100000) (hc : bs.length ≤ c) (hn : A = none → bs = [] ∧ c = 0) (hp : Parses 0 bs rs rest) :
    Calls Try.prog 19 #[.slice A bs.length c] w fun e w' => e = .returned (.slice A (jour 0 rs).length c) ∧ Below w.heap.size w w' := by
  have hrd := rreadin_any A bs rest rs c w hA hb8 hl hc hn hp
  have hE : (jour 0 rs).length ≤ bs.length := by rw [hp.eq, List.length_append]; omega
  clear hA hp
  go_enter Try.func19, Try.ntmps19
  unfold GiveRI at hrd
  generalize (jour 0 rs).length = E at *
  generalize sealK 0 rs = key at *
  generalize errR rest = er at *
  go_wp2_with (go_at_call 13; refine hrd.mono ?_; rintro e w1 ⟨A', c', rfl, _, _, hb1⟩)
  go_ret
  exact ⟨rfl, hb1⟩

set_option maxHeartbeats 1000000 in
theorem rcut_any (A : Option Addr) (bs : List Int) (c : Nat) (n : Int) (w : World) (hl : bs.length ≤ 1000000) (hc : bs.length ≤ c) (hni : I64 n) :
    Calls Try.prog 21 #[.slice A bs.length c, .int .i64 n] w fun e w' => e = .returned (.slice A (bs.take n.toNat).length c) ∧ w = w' := by
  have hlen : (((bs.take n.toNat).length : Nat) : Int) = max 0 (min n bs.length) := by rw [List.length_take]; omega
  generalize bs.take n.toNat = ys at *
  unfold I64 at hni
  by_cases h1 : (bs.length : Int) < n
  · by_cases hz : 0 < bs.length
    · obtain hy : ys.length = bs.length := by omega
      rw [hy]
      clear hlen hy
      go_enter Try.func21, Try.ntmps21
      go_wp2
      go_ret
      exact ⟨rfl, rfl⟩
    · obtain rfl : bs = [] := List.eq_nil_of_length_eq_zero (by omega)
      obtain hy : ys.length = 0 := by simp only [List.length_nil] at hlen; omega
      rw [hy]
      clear hlen hy hz
      simp only [List.length_nil] at *
      go_enter Try.func21, Try.ntmps21
      go_wp2
      go_ret
      exact ⟨rfl, rfl⟩
  · by_cases h2 : n ≤ 0
    · obtain hy : ys.length = 0 := by omega
      rw [hy]
      clear hlen hy
      go_enter Try.func21, Try.ntmps21
      go_wp2
      go_ret
      exact ⟨rfl, rfl⟩
    · obtain ⟨m, rfl⟩ := Int.eq_ofNat_of_zero_le (show 0 ≤ n by omega)
      obtain hy : ys.length = m := by omega
      rw [hy]
      clear hlen hy
      go_enter Try.func21, Try.ntmps21
      go_wp2
      go_ret
      exact ⟨rfl, rfl⟩

/-- Bytes appended to an empty slice of the call's own, which has no room. -/
theorem op_append0 {o : Oper} {a : Act} {K : Act → World → Prop} {Q : Exit → Act → World → Prop} (w : World) (s x : Operand) (ho : o.op = .call { callee := .builtin .append, args := #[s, x], argTypes := #[22, 22] }) (base : Nat)
    (b : Nat) (hs : a.eval s = .slice (some ⟨b, 0, none⟩) 0 0) (hown : Own base w (.slice (some ⟨b, 0, none⟩) 0 0) []) (A : Option Addr) (bs : List Int) (c : Nat) (hx : a.eval x = .slice A bs.length c) (hn : A = none → bs = [] ∧ c = 0) (hA : Byt w A bs) (h63 : bs.length ≤ 1000000) (hbase : base ≤ w.heap.size)
    (h : ∀ v' w', Own base w' v' bs → Below w.heap.size w w' → K (a.put o.dst v') w') : o.wp Try.prog a w K Q := by
  obtain ⟨i0, hi, hz0, hz1, hz2⟩ := info_parts infoByte
  cases A with
  | none =>
    obtain ⟨rfl, rfl⟩ := hn rfl
    have hrun := run_append_owned_none (P := Try.prog) w base 22 o.type 5 i0 1 Try.underlying22 hi _ _ _ hown
    unfold Oper.wp
    simp [execOp, ho, resolve, invoke, builtin, hs, hx, hrun, Result.andThen]
    exact h _ _ hown (Below.refl _ _)
  | some ad =>
    by_cases hb : bs = []
    · subst hb
      obtain ⟨w', hrun⟩ : ∃ w', (Builtin.append_ #[22, 22] o.type #[.slice (some ⟨b, 0, none⟩) 0 0, .slice (some ad) 0 c]).run Try.prog w = .ok (.slice (some ⟨b, 0, none⟩) 0 0) w' ∧ w' = w :=
        ⟨w, run_append_room_cells (P := Try.prog) w 22 o.type 5 i0 Try.underlying22 hi b 0 0 0 ad 0 c [] (by simp) (fun j u hu => by simp at hu) (fun u hu => by cases hu) (Nat.le_refl _) (fun j hj => by simp at hj) (fun j hj => by simp at hj), rfl⟩
      obtain ⟨hrun, rfl⟩ := hrun
      simp only [List.length_nil] at hx
      unfold Oper.wp
      simp [execOp, ho, resolve, invoke, builtin, hs, hx, hrun, Result.andThen]
      exact h _ _ hown (Below.refl _ _)
    · have hpos : 0 < bs.length := List.length_pos_iff.2 hb
      obtain ⟨v', w', hrun, r1, r2⟩ := run_append_arg_grows (P := Try.prog) w 22 o.type 5 i0 (.int .u8 0) 1 1 Try.underlying22 hi hz0 hz1 hz2 rfl (by decide) ⟨b, 0, none⟩ 0 0 [] (by simp) (fun j u hu => by simp at hu) ad bs.length c (u8s bs) (by rw [u8s_length]; omega) (fun j u hu => by
        obtain ⟨b', o', e, _, hc'⟩ := hA (by intro e; rw [e] at hu; simp at hu)
        cases e
        rw [add_lit0]; exact hc' j u hu) (by omega) (by unfold maxLen; omega) (by omega)
      unfold Oper.wp
      simp [execOp, ho, resolve, invoke, builtin, hs, hx, hrun, Result.andThen]
      rw [Nat.zero_add, List.nil_append] at r1
      exact h _ _ (World.ownsRow.mono r1 hbase) ((Below.refl w.heap.size w).grown r2 (Nat.le_refl _) (fun k e => by cases e))
end Jn
end Go.Proofs.Ytcdoalfpaldbmaa
