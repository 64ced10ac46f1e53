/- What the law's small functions return: results as one structure. -/
import Derived.Test.YtojkaaglmdfcnaaF7
import Derived.Test.YtojkaaglmdfcnaaG3
namespace Go.Proofs.Ytojkaaglmdfcnaa
open Go.RowKit Go.Shelf
namespace Fr
set_option linter.unusedVariables false

/-- Two boxes of arguments and one for a result, and all that was there. -/
structure Args3 (w W : World) (a b c d e f g : Value) : Prop where
  a : Box2 W w.heap.size a b
  b : Box2 W (w.heap.size + 1) c d
  r : Box3 W (w.heap.size + 1 + 1) e f g
  below : Below w.heap.size w W
theorem Args3.keep {w W W' : World} {a b c d e f g : Value} (h : Args3 w W a b c d e f g) (hb : Below W.heap.size W W') : Args3 w W' a b c d e f g :=
  ⟨h.a.keep hb, h.b.keep hb, h.r.keep hb, h.below.trans (hb.mono h.below.size)⟩
theorem Args3.alloc {w W : World} {a b c d e f g : Value} (h : Args3 w W a b c d e f g) (o : Obj) : Args3 w (W.alloc o) a b c d e f g := h.keep ((Below.refl _ W).alloc (Nat.le_refl _) o)
theorem Args3.start (w : World) (a b c d e f g : Value) (T T' T'' : TypeId) : Args3 w (((w.alloc (.cells #[a, b] T)).alloc (.cells #[c, d] T')).alloc (.cells #[e, f, g] T'')) a b c d e f g :=
  ⟨((Box2.new w a b T).alloc _).alloc _, (Box2.newAt (W := w.alloc (.cells #[a, b] T)) (by simp) c d T').alloc _, Box3.newAt (by simp) e f g T'', (((Below.refl _ w).alloc (Nat.le_refl _) _).alloc (by simp) _).alloc (by simp; omega) _⟩

end Fr
end Go.Proofs.Ytojkaaglmdfcnaa
