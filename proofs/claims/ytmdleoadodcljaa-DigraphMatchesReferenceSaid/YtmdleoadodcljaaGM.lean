/- What Reversed and With return. -/
import Derived.Test.YtmdleoadodcljaaGL
import Derived.Test.YtmdleoadodcljaaL9
namespace Go.Proofs.Ytmdleoadodcljaa
open Go.RowKit Sl Fr
namespace Gp
set_option linter.unusedVariables false

def GiveGr (W : World) (n : Nat) (es : Dgr.Edges) (e : Ending) (w' : World) : Prop := ∃ (A : Option Addr) (m c : Nat), e = .returned (.agg #[.int .i64 (n : Int), .slice A m c]) ∧ IsG w' n es A m c ∧ Below W.heap.size W w'
theorem rev_take {es : Dgr.Edges} {k u v : Nat} (h : es[k]? = some (u, v)) : Dgr.rev (es.take (k + 1)) = Dgr.rev (es.take k) ++ [(v, u)] := by rw [take_snoc h]; simp [Dgr.rev]
theorem rev_len (es : Dgr.Edges) : (Dgr.rev es).length = es.length := by simp [Dgr.rev]
def RevAt (n : Nat) (es : Dgr.Edges) (A : Option Addr) (d : Nat) (w : World) (g : Nat) (i : Value) (wr : World) : Prop :=
  ∃ (k : Nat) (B : Option Addr) (c : Nat), i = .int .i64 (k : Int) ∧ k ≤ es.length ∧ g = es.length - k ∧ wr.ownsRow (w.heap.size + 1 + 1 + 1) 48 2 (.slice B k c) k (fl (Dgr.rev (es.take k))) ∧
    BoxL wr (w.heap.size + 1 + 1) #[.int .i64 (n : Int), .slice B k c] ∧ BoxL wr (w.heap.size + 1) #[.int .i64 0, .slice none 0 0] ∧ BoxL wr w.heap.size #[.int .i64 (n : Int), .slice A es.length d] ∧ (k = 0 → B = none ∧ c = 0) ∧ Below w.heap.size w wr

end Gp
end Go.Proofs.Ytmdleoadodcljaa
