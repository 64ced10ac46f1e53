/- The groups of a byte sequence, as the program hands their words to a loop's body. -/
import Derived.Test.YtgjmhddekggilaaC2
import Derived.Test.YtgjmhddekggilaaB1
namespace Go.Proofs.Ytgjmhddekggilaa
open Go.RowKit Go.Shelf Go.BigFrame
namespace Dg
attribute [local go_sem] Oper.semAt_some

/-- What a round of the outer loop keeps: every block but its own variable's box and the loop's record. -/
def Kx (X l : Nat) (W W' : World) : Prop := W.heap.size ≤ W'.heap.size ∧ ∀ k, k < W.heap.size → k ≠ X → k ≠ l → W'.heap[k]? = W.heap[k]?

/-- The bytes of a slice lie in a block. -/
def BytesAt (W : World) (b o : Nat) (xs : List Int) : Prop := ∀ j, j < xs.length → W.cell? ⟨b, o + j, none⟩ = some (.int .u8 (xs[j]?.getD 0))
theorem bytesAt_own {β : Type} (b o : Nat) (xs : List Int) : Own (fun (_ : β) W => BytesAt W b o xs) := fun _ _ _ _ hs hg hr j hj => cell_kept (hs j hj) hg hr

theorem keeps_on {w W W3 : World} {X l : Nat} {o1 o2 o3 : Obj} {Kf : Value} {sv : Value} {b o : Nat} {xs : List Int} {P : Prop} (hX : X < w.heap.size) (hl : l < w.heap.size) (hbX : xs.length ≠ 0 → b ≠ X ∧ b ≠ l ∧ b < w.heap.size)
    (hH : Boxed W w.heap.size 66 Kf) (hS : Boxed W (w.heap.size + 1) 61 sv) (hN : Boxed W (w.heap.size + 1 + 1) 3 (.int .i64 8)) (hBy : BytesAt W b o xs) (hJ : P) (hk : Kx X l W.drew W3) :
    KeepsFrom (((w.alloc o1).alloc o2).alloc o3).heap.size W W3 ∧ Kb (w.heap.size + 1) (w.heap.size + 1 + 1) W W3 ∧
      (P ∧ Boxed W3 w.heap.size 66 Kf ∧ Boxed W3 (w.heap.size + 1) 61 sv ∧ Boxed W3 (w.heap.size + 1 + 1) 3 (.int .i64 8) ∧ BytesAt W3 b o xs) := by
  have hn := hN.lt
  have e1 := hk.2 w.heap.size hH.lt (by omega) (by omega)
  have e2 := hk.2 (w.heap.size + 1) hS.lt (by omega) (by omega)
  have e3 := hk.2 (w.heap.size + 1 + 1) hN.lt (by omega) (by omega)
  refine ⟨⟨hk.1, fun k o hB hk' ho => (hk.2 k (Array.getElem?_eq_some_iff.1 hk').1 (by simp at hB; omega) (by simp at hB; omega)).trans hk'⟩, ⟨e2, e3⟩, hJ, e1.trans hH, e2.trans hS, e3.trans hN, fun j hj => ?_⟩
  have hb := hbX (by omega)
  exact (World.cell?_of_block (hk.2 b (show b < W.heap.size by omega) hb.1 hb.2.1)).trans (hBy j hj)

set_option maxRecDepth 100000 in
set_option maxHeartbeats 2000000 in
theorem groups_in (F : Fence) (hF : Hid (F = Fence.wide)) (h30 : F.fn 30) (h35 : F.fn 35) (h36 : F.fn 36) (h41 : F.fn 41) (hro : F.round = none) (n : Nat) (hn : 4 ≤ n) (l X : Nat)
    (A : Option Addr) (xs : List Int) (cap : Nat) (w : World) (hlen : xs.length ≤ 17592186044416) (hcap : xs.length ≤ cap) (b o : Nat) (hbo : xs.length ≠ 0 → A = some ⟨b, o, none⟩) (hB8 : Hid (B8 xs)) (hbs : BytesAt w b o xs)
    (hbX : xs.length ≠ 0 → b ≠ X ∧ b ≠ l ∧ b < w.heap.size) (hX : X < w.heap.size) (hl : l < w.heap.size)
    (J : List (Ce xs.length) → World → Prop) (hJ : OwnFrom w.heap.size J)
    (hY : ∀ pre x W, J pre W → pre.length < xs.length → YieldAt F (n - 1 - 1 - 1) Try.prog l #[.int .u64 (valL (groupAt xs x.1))] W fun e W' => e = .returned (.bool true) ∧ J (pre ++ [x]) W' ∧ Kx X l W W')
    (h0 : J [] w) :
    CallsIn F n Try.prog 30 #[.slice A xs.length cap, .func (.yield l) #[] #[]] w fun e W' => (∃ v, e = .returned v) ∧ ∃ ys, isUpE ys ((xs.length + 7) / 8) ∧ J ys W' := by
  have h1 : 1 ≤ n := by omega
  refine callsIn_of_wp_marks Try.func30 rfl h30 ?_ hro
  simp only [Try.ntmps30, List.size_toArray, List.length_cons, List.length_nil, Nat.reduceAdd, Nat.reduceSub, Array.replicate_succ, Array.replicate_zero, List.push_toArray, List.append_toArray, List.nil_append, List.cons_append]
  gi_wp2_with (gi_at_call 35; refine (inWide hF (chunk8_any _ _ _ _)).mono ?_; rintro e w' ⟨rfl, rfl⟩)
  have bH := ((Boxed.new w 66 (.func (.yield l) #[] #[])).alloc (.cells #[.slice A xs.length cap] 61)).alloc (.cells #[.int .i64 8] 3)
  have bS := (Boxed.new (w.alloc (.cells #[.func (.yield l) #[] #[]] 66)) 61 (.slice A xs.length cap)).alloc (.cells #[.int .i64 8] 3)
  have bN := Boxed.new ((w.alloc (.cells #[.func (.yield l) #[] #[]] 66)).alloc (.cells #[.slice A xs.length cap] 61)) 3 (.int .i64 8)
  rw [World.size_alloc] at bS
  rw [World.size_alloc, World.size_alloc] at bN
  have hb3 : BytesAt (((w.alloc (.cells #[.func (.yield l) #[] #[]] 66)).alloc (.cells #[.slice A xs.length cap] 61)).alloc (.cells #[.int .i64 8] 3)) b o xs :=
    (bytesAt_own (β := Unit) b o xs).alloc (s := ()) _ ((bytesAt_own (β := Unit) b o xs).alloc (s := ()) _ ((bytesAt_own (β := Unit) b o xs).alloc (s := ()) _ hbs))
  have hJ3 : OwnFrom (((w.alloc (.cells #[.func (.yield l) #[] #[]] 66)).alloc (.cells #[.slice A xs.length cap] 61)).alloc (.cells #[.int .i64 8] 3)).heap.size J :=
    fun s Y Z row hs hg hr => hJ s Y Z row hs hg (fun r e => by obtain ⟨h1, h2⟩ := hr r e; exact ⟨by simp at h1; omega, h2⟩)
  have hm : Try.prog.follows .mixedOrders = true := by kernel_rfl
  refine wpIn_rangeFunc_ownG hro h1 (gf := 41) (lb := #[.pointer (some ⟨w.heap.size + 1, 0, none⟩), .pointer (some ⟨w.heap.size + 1 + 1, 0, none⟩)]) rfl h41 (enters_of Try.func41 (by kernel_rfl) rfl)
    (chunk8_stops F (n - 1) h41 hro (by omega) (w.heap.size + 1) (w.heap.size + 1 + 1) A xs.length cap (by omega) hcap _ (by simp) (by simp) bS.cell bN.cell b o hbo)
    Kb.trans (fun W q o1 o2 hq _ _ _ => Kb.putObj (N := w.heap.size + 1 + 1 + 1) (by omega) (by omega) W q o2 (by simpa using hq)) (Below.refl _ _) (fun _ => rfl)
    (fun pre W => J pre W ∧ Boxed W w.heap.size 66 (.func (.yield l) #[] #[]) ∧ Boxed W (w.heap.size + 1) 61 (.slice A xs.length cap) ∧ Boxed W (w.heap.size + 1 + 1) 3 (.int .i64 8) ∧ BytesAt W b o xs)
    (fun _ _ _ => False)
    (OwnFrom.and hJ3 (OwnFrom.and (Own.from (boxed_own _ _ _) _) (OwnFrom.and (Own.from (boxed_own _ _ _) _) (OwnFrom.and (Own.from (boxed_own _ _ _) _) (Own.from (bytesAt_own _ _ _) _)))))
    (fun _ _ _ _ _ hs _ _ => hs)
    ⟨hJ.alloc _ (hJ.alloc _ (hJ.alloc _ h0)), bH, bS, bN, hb3⟩
    (fun x => { tmps := #[.slice A xs.length cap, .func (.yield l) #[] #[], undef, .pointer (some ⟨w.heap.size, 0, none⟩), cev b o xs.length x.1, .slice A xs.length cap,
      .func (.func 41) #[] #[.pointer (some ⟨w.heap.size + 1, 0, none⟩), .pointer (some ⟨w.heap.size + 1 + 1, 0, none⟩)], cev b o xs.length x.1, undef, undef, undef, undef, undef], defers := [] }) ?assign ?body ?done ?stop
  case assign =>
    intro l x W K hK
    gi_wp2
    exact hK
  case body =>
    clear bH bS bN hb3 hJ3
    rintro l2 pre ⟨k, hk⟩ W ⟨hJp, hH, hS, hN, hBy⟩ hlt
    have hcx := hH.cell
    have hgl := groupAt_length xs k
    have hcev : cev b o xs.length k = .slice (some ⟨b, o + 8 * k, none⟩) (groupAt xs k).length (groupAt xs k).length := by unfold cev ceLen; rw [hgl]
    have hwd : ∀ W' : World, W'.heap = W.heap → Calls Try.prog 36 #[.slice (some ⟨b, o + 8 * k, none⟩) (groupAt xs k).length (groupAt xs k).length] W' fun e w' => e = .returned (.int .u64 (valL (groupAt xs k))) ∧ W' = w' := fun W' hW' =>
      word_some (groupAt xs k) b (o + 8 * k) _ W' (by omega) (groupAt_B8 hB8.out k) (fun j hj => by
        have := hBy (8 * k + j) (by omega)
        rw [groupAt_get xs k j (by omega)]
        rw [← Nat.add_assoc] at this
        rw [← this]
        unfold World.cell?
        rw [hW'])
    obtain ⟨fn, tmps, assign, body, hy, hR⟩ := hY pre ⟨k, hk⟩ W.drew (hJ pre W W.drew none hJp ⟨rfl, rfl, rfl, Nat.le_refl _, fun _ _ _ => rfl⟩ (fun r e => by cases e)) hlt
    have HW := Lib.hid hwd
    have HBy := Lib.hid hBy
    simp only [hcev]
    clear hcev hgl
    generalize hgv : valL (groupAt xs k) = gv at *
    generalize (groupAt xs k).length = gl at *
    clear hY hwd hBy
    have hn2 : 1 ≤ n - 1 - 1 := by omega
    gi_wp2
    gi_region_with_o (first
      | (gi_at_call 36; refine (CallsIn.inRound l2 (inWide hF (HW.out W.drew rfl))).mono ?_; rintro e w' ⟨rfl, rfl⟩)
      | (refine RoundIn.mono hR ?_; rintro e W3 ⟨rfl, hJ3, hk3⟩))
    all_goals gi_wp2
    all_goals exact keeps_on (hX := hX) (hl := hl) (hbX := fun _ => hbX (by omega)) hH hS hN HBy.out hJ3 hk3
  case done =>
    rintro D ys W hD hys ⟨hJp, _⟩ hK
    gi_wp2
    refine ⟨by simp, .inl ⟨_, _, rfl, run_takeDeferred hK, ?_⟩⟩
    exact ⟨_, results_none rfl _ _ _, ⟨_, rfl⟩, ys, hys, hJ.putObj _ hJp (by simp at hD; omega) hK rfl⟩
  case stop =>
    rintro D c pre W _ _ h _
    exact h.elim

end Dg
end Go.Proofs.Ytgjmhddekggilaa
