/- Slices of edges made and appended to, wherever they lie; what walk returns. -/
import Derived.Test.YtmdleoadodcljaaGK
import Derived.Test.YtmdleoadodcljaaG8
namespace Go.Proofs.Ytmdleoadodcljaa
open Go.RowKit Sl Fr
namespace Gp
set_option linter.unusedVariables false

section
variable {o : Oper} {a : Act} {X : World} {K : Act → World → Prop} {Q : Exit → Act → World → Prop}
theorem wp_build0 (ho : o.op = .buildSlice 25 0 #[]) (base : Nat) (hb : base ≤ X.heap.size) (h : ∀ b W', Below X.heap.size X W' → W'.ownsRow base 48 2 (.slice (some ⟨b, 0, none⟩) 0 0) 0 (fl []) → X.heap.size = b → b < W'.heap.size → K (a.put o.dst (.slice (some ⟨b, 0, none⟩) 0 0)) W') : o.wp Try.prog a X K Q := by
  have h2 := h _ _ ((Below.refl _ X).alloc (Nat.le_refl _) (.cells #[] 48)) (World.ownsRow_lit (e := 48) (size := 2) X #[] 0 hb (by unfold maxLen; omega) rfl) rfl (by simp)
  clear h
  unfold Oper.wp
  unfold execOp
  rw [ho]
  go_simp
  exact h2
theorem wp_build1 {x : Operand} (ho : o.op = .buildSlice 25 1 #[(0, x)]) {p q : Int} (hx : a.eval x = .agg #[.int .i64 p, .int .i64 q]) (h : ∀ b W', Below X.heap.size X W' → (∀ j u, [Value.int .i64 p, Value.int .i64 q][j]? = some u → W'.cell? ((⟨b, 0, none⟩ : Addr).add j) = some u) → X.heap.size = b → b < W'.heap.size → K (a.put o.dst (.slice (some ⟨b, 0, none⟩) 1 1)) W') : o.wp Try.prog a X K Q := by
  have h2 := h _ _ ((Below.refl _ X).alloc (Nat.le_refl _) (.cells #[.int .i64 p, .int .i64 q] 48)) (World.news_of_block (cs := #[.int .i64 p, .int .i64 q]) (t := 48) (fr := (0, 0)) (heap_alloc_new X _)) rfl (by simp)
  clear h
  unfold Oper.wp
  generalize a.eval = ev at hx ⊢
  unfold execOp
  rw [ho]
  go_simp
  exact h2
theorem wp_append_fl (s x : Operand) (ho : o.op = .call { callee := .builtin .append, args := #[s, x], argTypes := #[25, 25] }) (base : Nat) {v : Value} {n : Nat} {xs : List Value} (hs : a.eval s = v) (hown : X.ownsRow base 48 2 v n xs)
    {A : Option Addr} {m c : Nat} {es : Dgr.Edges} (hx : a.eval x = .slice A m c) (he : es.length = m) (hE : EdgesA X A es) (hnil : es = [] → A = none ∧ c = 0) (hbase : base ≤ X.heap.size) (hbig : n + m ≤ 1000)
    (h : ∀ v' W', W'.ownsRow base 48 2 v' (n + m) (xs ++ fl es) → X.grownBy W' v.ownBlock → (v'.ownBlock = v.ownBlock ∨ v'.ownBlock = some X.heap.size) → K (a.put o.dst v') W') : o.wp Try.prog a X K Q := by
  obtain ⟨i0, hi0, hz0, hz1, hz2⟩ := parts_of infoEdge
  unfold Oper.wp
  unfold execOp
  rw [ho]
  simp only [resolve, invoke, builtin, Sem.run_bind, Sem.run_pure, Result.andThen_ok, List.map_toArray, List.map_cons, List.map_nil, hs, hx]
  by_cases hes : es = []
  · obtain ⟨rfl, rfl⟩ := hnil hes
    subst hes
    obtain rfl : m = 0 := he.symm
    rw [run_append_owned_none (P := Try.prog) X base 25 o.type 48 i0 2 Try.underlying25 hi0 v n xs hown]
    exact h v X (by simpa [fl, flat2, natE] using hown) (World.grownBy.refl _ _) (.inl rfl)
  · obtain ⟨b, o', hA, hlt, hc⟩ := hE (by cases es with | nil => exact absurd rfl hes | cons e l => simp [natE, flat2])
    subst hA
    obtain ⟨v', w', hr, h2, h3, _, h5⟩ := run_append_own_at (P := Try.prog) X base 25 o.type 48 i0 (.agg #[.int .i64 0, .int .i64 0]) 2 16 Try.underlying25 hi0 hz0 hz1 hz2 rfl (by decide) v n xs hown ⟨b, o', none⟩ m c (fl es) (by rw [fl_length, he]) (fun j u hu => by rw [Addr.add_lit]; exact hc j u hu) (fl_one es) (by unfold maxLen; omega) (by omega) hbase
    rw [hr]
    exact h v' w' h2 h3 h5
end

def stepB (es : Dgr.Edges) (m : Nat → Bool) : Nat → Bool := fun y => es.any fun e => m e.1 && e.2 == y
theorem stepB_snoc (es : Dgr.Edges) (u v : Nat) (m : Nat → Bool) (y : Nat) : stepB (es ++ [(u, v)]) m y = (stepB es m y || (m u && v == y)) := by simp [stepB]
/-- A list of marks is given back. -/
def GiveB (W : World) (n : Nat) (m : Nat → Bool) (e : Ending) (w' : World) : Prop := ∃ M, e = .returned (.slice (some ⟨M, 0, none⟩) n n) ∧ W.heap.size ≤ M ∧ CellsV w' M n (bF m) ∧ Below W.heap.size W w'

end Gp
end Go.Proofs.Ytmdleoadodcljaa
