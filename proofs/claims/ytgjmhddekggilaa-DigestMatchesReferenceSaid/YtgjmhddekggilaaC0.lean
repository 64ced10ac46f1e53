/- A statement whose order Go leaves open, in the body of a loop over an iterator: it may be walked as anywhere else. -/
import Derived.RangeFuncCalls
import Derived.RangeFuncLeaves
import Derived.OrdersIn
import Derived.OrdersHeld
import Derived.Lib.Hide
namespace Go.Proofs.Ytgjmhddekggilaa
open Go.RowKit
namespace Dg

section
variable {P : Program} {ops : Array Oper} {Q : Exit → Act → World → Prop} {md : Region.Mode} {l n : Nat}

def noDefer (o : Oper) : Bool := match o.op with | .defer _ => false | _ => true

theorem uponIn_of {o : Oper} {a : Act} {K K' : Act → World → Prop} (hK : ∀ a w, K a w → K' a w) (r : Result Next) (h : o.upon P a K Q r) : o.uponIn (Fence.wide.inRound l) n P a K' Q r := by
  cases r with
  | ok x w' =>
    cases x with
    | value v => exact hK _ _ h
    | skip => exact hK _ _ h
    | defer d => exact hK _ _ h
    | enter f args =>
      refine ⟨fun h' => by simp [Fence.wide] at h', CallsIn.inRound l (callsIn_wide.2 (Calls.mono h fun e w'' he => ?_))⟩
      cases e with
      | returned v => exact hK _ _ he
      | panicked c => exact he
      | outgrown => exact he
    | row row args =>
      refine ⟨fun h' => by simp [Fence.wide] at h', fun c cs _ => ?_⟩
      obtain ⟨v, w'', hr, hs⟩ := h c cs
      exact ⟨v, w'', hK _ _ hr, stepsIn_wide.2 hs⟩
    | _ => simp only [Oper.upon] at h
  | halt x w' => cases x <;> simp only [Oper.upon, Oper.uponIn] at h ⊢ <;> exact h

theorem wpOpIn_of {K K' : Act → World → Prop} (hK : ∀ a w, K a w → K' a w) (hnd : ∀ (i : Nat) (o : Oper), ops[i]? = some o → noDefer o = true) (hlo : ¬ LetsOut Q) (i : Nat) (a : Act) (w : World) (h : wpOp P ops Q i K a w) :
    wpOpIn (Fence.wide.inRound l) n P ops Q i K' a w := by
  unfold wpOp at h
  unfold wpOpIn
  cases ho : ops[i]? with
  | none => simp only [ho] at h ⊢; exact hK _ _ h
  | some o =>
    simp only [ho] at h ⊢
    by_cases hw : Region.wanted o (yielded ops a.tmps) = true
    · simp only [hw, if_true] at h ⊢
      have h := h.resolve_right (fun h' => hlo h'.2)
      refine ⟨fun f _ => trivial, ?_⟩
      rw [Oper.semAt_eq _ _ _ (fun c hc => by have := hnd i o ho; simp [noDefer, hc] at this)]
      exact uponIn_of hK _ h
    · simp only [hw, Bool.false_eq_true, if_false] at h ⊢
      exact ⟨fun f _ => trivial, hK _ _ h⟩

theorem wpAnyIn_of (hnd : ∀ (i : Nat) (o : Oper), ops[i]? = some o → noDefer o = true) (hlo : ¬ LetsOut Q) : ∀ (fuel : Nat) (listed : Array Bool) (a : Act) (w : World), wpAny P md ops Q fuel listed a w →
    wpAnyIn (Fence.wide.inRound l) n P md ops Q fuel listed a w
  | 0, _, _, _, h => h
  | fuel + 1, _, _, _, h => ⟨h.1, fun i hi => wpOpIn_of (fun a' w' h' => wpAnyIn_of hnd hlo fuel _ a' w' h') hnd hlo i _ _ (h.2 i hi)⟩

/-- The region in a round. -/
theorem wpIn_round_held {S : World → Prop} {id : Nat} {a : Act} {w : World} {F : Fence} (hF : Hid (F = Fence.wide)) (hm : P.follows .mixedOrders = true) (hnd : ops.all noDefer = true) (hlo : ¬ LetsOut Q) (hS : S w.drew)
    (h : S w.drew → wpAnyH P .any ops Q S ops.size (Array.replicate ops.size false) a w.drew) : (Code.region id ops true).wpIn (F.inRound l) n P Q a w := by
  have e := hF.out
  subst e
  refine wpIn_region_any hm (wpAnyIn_of (fun i o hi => ?_) hlo _ _ _ _ (wpAny_of_held _ _ _ _ (h hS)))
  have := Array.all_eq_true_iff_forall_mem.1 hnd o (Array.mem_of_getElem? hi)
  exact this

end
end Dg
end Go.Proofs.Ytgjmhddekggilaa
