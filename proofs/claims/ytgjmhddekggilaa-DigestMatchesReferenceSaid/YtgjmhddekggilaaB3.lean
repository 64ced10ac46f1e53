/- The digest of a byte sequence, as the program computes it. -/
import Derived.Test.YtgjmhddekggilaaB2
import Derived.Test.YtgjmhddekggilaaB0
namespace Go.Proofs.Ytgjmhddekggilaa
open Go.RowKit Go.Shelf Go.BigFrame
namespace Dg
attribute [local go_sem] Oper.semAt_some

/-- The digest of the words that have come, before the count. -/
def bytesTo (xs : List Int) (pre : List (Ce xs.length)) : Int := foldI 422944466291 (pre.map fun x => valL (groupAt xs x.1))
theorem bytesTo_snoc (xs : List Int) (pre : List (Ce xs.length)) (x : Ce xs.length) : bytesTo xs (pre ++ [x]) = stepI (bytesTo xs pre) (valL (groupAt xs x.1)) := by
  unfold bytesTo foldI
  rw [List.map_append, List.foldl_append]
  rfl
theorem bytesTo_all (xs : List Int) (pre : List (Ce xs.length)) (h : isUpE pre ((xs.length + 7) / 8)) : stepI (bytesTo xs pre) (xs.length : Int) = bytesI xs := by
  unfold bytesTo bytesI wordsB
  have := congrArg (List.map fun j => valL (groupAt xs j)) h
  rw [List.map_map] at this
  rw [← this]
  rfl

theorem boxedF_own {β : Type} (B : Nat) (t : TypeId) (f : β → Value) : Own (fun s W => Boxed W B t (f s)) := fun s Y Z row hs hg hr =>
  hs.kept hg (fun e => by obtain ⟨o, ho, hc⟩ := hr B e.symm; rw [show Y.heap[B]? = _ from hs] at ho; cases ho; cases hc)

theorem kx_put {X l : Nat} {W W3 : World} {o o' : Obj} (h : Kx X l (W.putObj l o) W3) : Kx X l W (W3.putObj l o') :=
  ⟨by have := h.1; simpa using this, fun k hk hX hl => (World.putObj_heap_other (by omega)).trans ((h.2 k (by simpa using hk) hX hl).trans (World.putObj_heap_other (by omega)))⟩

theorem kx_step (X l : Nat) (W : World) (o : Obj) (v : Value) : Kx X l W ((W.alloc o).setCell ⟨X, 0, none⟩ v) :=
  ⟨by simp, fun k hk hX _ => (Below.heap_setCell _ _ _ k hX).trans (Below.heap_alloc W o k hk)⟩

set_option maxRecDepth 100000 in
set_option maxHeartbeats 2000000 in
theorem bytes_in (F : Fence) (hF : Hid (F = Fence.wide)) (h13 : F.fn 13) (h29 : F.fn 29) (h30 : F.fn 30) (h35 : F.fn 35) (h36 : F.fn 36) (h41 : F.fn 41) (hro : F.round = none) (n : Nat) (hn : 5 ≤ n)
    (A : Option Addr) (xs : List Int) (cap : Nat) (w : World) (hlen : xs.length ≤ 17592186044416) (hcap : xs.length ≤ cap) (b o : Nat) (hbo : xs.length ≠ 0 → A = some ⟨b, o, none⟩ ∧ b < w.heap.size) (hB8 : Hid (B8 xs)) (hbs : BytesAt w b o xs) :
    CallsIn F n Try.prog 13 #[.slice A xs.length cap] w fun e W' => e = .returned (.int .u64 (bytesI xs)) ∧ Below w.heap.size w W' := by
  have h1 : 1 ≤ n := by omega
  refine callsIn_of_wp_marks Try.func13 rfl h13 ?_ hro
  simp only [Try.ntmps13, List.size_toArray, List.length_cons, List.length_nil, Nat.reduceAdd, Nat.reduceSub, Array.replicate_succ, Array.replicate_zero, List.push_toArray, List.append_toArray, List.nil_append, List.cons_append]
  gi_wp2
  have hn2 : 1 ≤ n - 1 - 1 - 1 - 1 := by omega
  have bX := Boxed.new w 58 (.int .u64 422944466291)
  have hb1 : BytesAt (w.alloc (.cells #[.int .u64 422944466291] 58)) b o xs := (bytesAt_own (β := Unit) b o xs).alloc (s := ()) _ hbs
  refine wpIn_rangeFunc_recv (m := n - 1 - 1 - 1 - 1) hro h1 (gf := 30) (bd := #[.slice A xs.length cap]) rfl h30 (enters_of Try.func30 (by kernel_rfl) rfl)
    (encs := fun x : Ce xs.length => #[.int .u64 (valL (groupAt xs x.1))]) (S := fun ys => isUpE ys ((xs.length + 7) / 8)) (N := xs.length) (Kp := Kx w.heap.size)
    (fun J W hs hb hJ hY hJ0 => groups_in F hF h30 h35 h36 h41 hro (n - 1) (by omega) _ w.heap.size A xs cap W hlen hcap b o (fun h => (hbo h).1) hB8
      (fun j hj => (hb.cell (p := ⟨b, o + j, none⟩) (by have := (hbo (by omega)).2; simp; omega)).trans (hb1 j hj))
      (fun h => by have := (hbo h).2; simp at hs ⊢; omega) (by simp at hs; omega) (by simp at hs ⊢; omega) J hJ hY hJ0)
    (fun W W3 o o' h => kx_put h) (fun _ => rfl)
    (fun pre W => Boxed W w.heap.size 58 (.int .u64 (bytesTo xs pre)) ∧ Below w.heap.size w W)
    (OwnFrom.and (Own.from (boxedF_own _ _ _) _) (ownFrom_below (Nat.le_refl _) (by simp)))
    ⟨bX, (Below.refl _ w).alloc (Nat.le_refl _) _⟩
    (fun x => { tmps := #[.slice A xs.length cap, undef, .int .u64 0, .pointer (some ⟨w.heap.size, 0, none⟩), .int .u64 (valL (groupAt xs x.1)), .slice A xs.length cap, .func (.func 30) #[.slice A xs.length cap] #[], .int .u64 (valL (groupAt xs x.1)),
      undef, undef, undef, undef, undef, undef, undef, undef, undef, undef], defers := [] }) ?assign ?body ?done
  case assign =>
    intro l x W K hK
    gi_wp2
    exact hK
  case body =>
    rintro l pre x W hl _ ⟨hv, hB⟩ hlt
    have hsn := Lib.hid (bytesTo_snoc xs pre x)
    clear hl
    have hcx := hv.cell
    have hfx := hv.frozen
    generalize valL (groupAt xs x.1) = gv at hsn ⊢
    have hcx2 := (hv.alloc (.cells #[.int .u64 gv] 24)).cell
    have hfx2 := (hv.alloc (.cells #[.int .u64 gv] 24)).frozen
    gi_wp2_with (gi_at_call 29; refine (CallsIn.inRound l (inWide hF (steps_one _ _ _))).mono ?_; rintro e w' ⟨rfl, rfl⟩)
    refine ⟨((KeepsOthers.alloc W _).trans (KeepsOthers.setCell _ _ _)).from _, kx_step _ _ _ _ _, ?_, (hB.alloc hB.size _).setCell (by simp) _⟩
    rw [hsn.out]
    exact (hv.alloc _).set _
  case done =>
    rintro D ys W hD hys ⟨hv, hB⟩ hK
    have hc := hv.cell
    gi_wp2_with (gi_at_call 29; refine (inWide hF (steps_one _ _ _)).mono ?_; rintro e w' ⟨rfl, rfl⟩)
    refine ⟨by simp, .inl ⟨_, _, rfl, run_takeDeferred (w := W.alloc _) ((Below.heap_alloc W _ D (Array.getElem?_eq_some_iff.1 hK).1).trans hK), ?_⟩⟩
    exact ⟨_, results_tmp rfl _ _ _, (by rw [← bytesTo_all xs ys hys]; rfl), ((hB.alloc hB.size _).trans (belowK_b (w := w) (Nat.le_refl _) _ D _ _ (by simp at hD; omega) ((Below.heap_alloc W _ D (Array.getElem?_eq_some_iff.1 hK).1).trans hK) rfl rfl))⟩

theorem bytes_any (A : Option Addr) (xs : List Int) (cap : Nat) (w : World) (hlen : xs.length ≤ 17592186044416) (hcap : xs.length ≤ cap) (hB8 : B8 xs) (hA : Arr w A (xs.map (Value.int .u8))) :
    Calls Try.prog 13 #[.slice A xs.length cap] w fun e w' => e = .returned (.int .u64 (bytesI xs)) ∧ Below w.heap.size w w' := by
  obtain ⟨b, o, hb, hbs⟩ : ∃ b o, (xs.length ≠ 0 → A = some ⟨b, o, none⟩ ∧ b < w.heap.size) ∧ BytesAt w b o xs := by
    by_cases hx : xs = []
    · exact ⟨0, 0, fun h => absurd (by rw [hx]; rfl) h, fun j hj => by rw [hx] at hj; simp at hj⟩
    · obtain ⟨b, o, e, hlt, hc⟩ := hA.at_ hx
      exact ⟨b, o, fun _ => ⟨e, hlt⟩, hc⟩
  exact (callsIn_wide (n := 5)).1 (bytes_in Fence.wide rfl trivial trivial trivial trivial trivial trivial rfl 5 (Nat.le_refl _) A xs cap w hlen hcap b o hb (Lib.hid hB8) hbs)

end Dg
end Go.Proofs.Ytgjmhddekggilaa
