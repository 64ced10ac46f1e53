/- The library's iterator over the pairs of a list: which slices it hands to a loop's body, in which order. -/
import Derived.RangeFuncNested
import Derived.RangeFuncBox
import Derived.RangeFuncBound
import Derived.RangeFuncCalls
import Derived.RangeFuncLeaves
import Derived.Shelf.Abstract
import Derived.Shelf.RegionOpen
import Derived.WalkKit
import Derived.OwnWalkIn
import Derived.TacticsInMore
import Derived.LoopNIn
import Derived.LoopIn
import Derived.Lib.Hide
import Derived.Sort.QuietIn
import Derived.Outline
import Derived.WalkSmall
import Derived.Test.YtgjmhddekggilaaS1
import Derived.Test.YtgjmhddekggilaaRows
import Derived.Test.YtgjmhddekggilaaM2
namespace Go.Proofs.Ytgjmhddekggilaa
open Go.RowKit Go.Shelf Go.BigFrame
namespace Dg
attribute [local go_sem] Oper.semAt_some

/-- What a loop's body keeps: all that lay below n₀, and the iterator's two boxes. -/
def Kc (n₀ Bs Bn : Nat) (W W' : World) : Prop := Below n₀ W W' ∧ W'.heap[Bs]? = W.heap[Bs]? ∧ W'.heap[Bn]? = W.heap[Bn]?
theorem Kc.refl (n₀ Bs Bn : Nat) (W : World) : Kc n₀ Bs Bn W W := ⟨Below.refl _ _, rfl, rfl⟩
theorem Kc.trans {n₀ Bs Bn : Nat} {X Y Z : World} (h : Kc n₀ Bs Bn X Y) (k : Kc n₀ Bs Bn Y Z) : Kc n₀ Bs Bn X Z := ⟨h.1.trans k.1, k.2.1.trans h.2.1, k.2.2.trans h.2.2⟩
theorem Kc.drewN {n₀ Bs Bn : Nat} {X Y : World} (h : Kc n₀ Bs Bn X Y) (q : Nat) : Kc n₀ Bs Bn X (Y.drewN q) := ⟨below_drewN h.1 q, h.2.1, h.2.2⟩
theorem Kc.cellS {n₀ Bs Bn : Nat} {X Y : World} (h : Kc n₀ Bs Bn X Y) : Y.cell? ⟨Bs, 0, none⟩ = X.cell? ⟨Bs, 0, none⟩ := World.cell?_of_block h.2.1
theorem Kc.cellN {n₀ Bs Bn : Nat} {X Y : World} (h : Kc n₀ Bs Bn X Y) : Y.cell? ⟨Bn, 0, none⟩ = X.cell? ⟨Bn, 0, none⟩ := World.cell?_of_block h.2.2
theorem Kc.putObj {n₀ Bs Bn N : Nat} (hn : n₀ ≤ N) (hs : Bs < N) (hb : Bn < N) (W : World) (l : Nat) (o o' : Obj) (hl : N ≤ l) (h : W.heap[l]? = some o) (hc : o.isCells = false) (hw : o.isWalk = false) : Kc n₀ Bs Bn W (W.putObj l o') :=
  ⟨by
    have := belowK_b (n₀ := n₀) (w := { W with heap := (List.replicate N (Obj.cells #[] 0)).toArray }) (by simpa using hn) W l o o' (by simpa using hl) h hc hw
    exact this, World.putObj_heap_other (by omega), World.putObj_heap_other (by omega)⟩

/-- The number of a pair in a list of len elements. -/
abbrev Ck (len : Nat) := { k : Nat // 2 * k < len }
def ckv (b o len k : Nat) : Value := if 2 * k + 1 < len then .slice (some ⟨b, o + 2 * k, none⟩) 2 2 else .slice (some ⟨b, o + 2 * k, none⟩) 1 1
/-- The first k numbers of pairs. -/
def isUpto {len : Nat} (pre : List (Ck len)) (k : Nat) : Prop := pre.map (fun x => x.1) = List.range k
theorem isUpto_length {len : Nat} {pre : List (Ck len)} {k : Nat} (h : isUpto pre k) : pre.length = k := by
  have := congrArg List.length h; simpa using this
theorem isUpto_snoc {len : Nat} {pre : List (Ck len)} {k : Nat} (h : isUpto pre k) (hk : 2 * k < len) : isUpto (pre ++ [⟨k, hk⟩]) (k + 1) := by
  unfold isUpto at *
  rw [List.map_append, h, List.range_succ]
  rfl

set_option maxRecDepth 100000 in
set_option maxHeartbeats 1000000 in
theorem chunk1_in (F : Fence) (n : Nat) (h42 : F.fn 42) (hro : F.round = none) (hn : 1 ≤ n) (l Bs Bn n₀ b o len cap : Nat) (hreach : len ≤ 4611686018427387904) (hcap : len ≤ cap)
    (J Jx : List (Ck len) → World → Prop) (hJd : ∀ {s A}, J s A → ∀ q, J s (A.drewN q))
    (hY : ∀ pre x W, J pre W → pre.length < len → YieldAt F (n - 1) Try.prog l #[ckv b o len x.1] W fun e W' =>
      (e = .returned (.bool true) ∧ J (pre ++ [x]) W' ∧ Kc n₀ Bs Bn W W') ∨ (e = .returned (.bool false) ∧ Jx (pre ++ [x]) W'))
    (W : World) (hcs : W.cell? ⟨Bs, 0, none⟩ = some (.slice (some ⟨b, o, none⟩) len cap)) (hcn : W.cell? ⟨Bn, 0, none⟩ = some (.int .i64 2)) (h0 : J [] W) :
    CallsIn F n Try.prog 42 #[.func (.yield l) #[] #[], .pointer (some ⟨Bs, 0, none⟩), .pointer (some ⟨Bn, 0, none⟩)] W fun e W' => (∃ v, e = .returned v) ∧
      ((∃ ys, isUpto ys ((len + 1) / 2) ∧ J ys W') ∨ (∃ pre, True ∧ Jx pre W')) := by
  refine callsIn_of_wp Try.func42 rfl h42 ?_ hro
  simp only [Try.ntmps42, List.size_toArray, List.length_cons, List.length_nil, Nat.reduceAdd, Nat.reduceSub, Array.replicate_succ, Array.replicate_zero, List.push_toArray, List.append_toArray, List.nil_append, List.cons_append]
  gi_wp2
  gi_loopw [4] (fun i wr => ∃ (m : Nat), i = .int .i64 m ∧ m ≤ len + 1 ∧ (∃ (k : Nat) (pre : List (Ck len)), m = 2 * k ∧ isUpto pre k ∧ J pre wr) ∧ Kc n₀ Bs Bn W wr)
    (fun i _ => len + 2 - (intOf i).toNat)
  case atStart => exact ⟨0, rfl, by omega, ⟨0, [], rfl, rfl, h0⟩, Kc.refl _ _ _ _⟩
  case round =>
    obtain ⟨m, rfl, hm, ⟨k, pre, hmk, hu, hJs⟩, hnx⟩ := hrel
    have hc1 := hnx.cellS.trans hcs
    have hc2 := hnx.cellN.trans hcn
    have HM := Lib.hid hmk
    have HU := Lib.hid hu
    by_cases hlt : m < len
    · have hkl : 2 * k < len := by omega
      have hpl : pre.length < len := by rw [isUpto_length hu]; omega
      by_cases hlt2 : m + 1 < len
      · have hv : ckv b o len k = .slice (some ⟨b, o + m, none⟩) 2 2 := by unfold ckv; rw [← hmk]; exact if_pos hlt2
        have HV := Lib.hid hv
        clear hv hu hmk
        gi_wp2
        refine wpIn_region_quiet_lit hro (by kernel_rfl) (by kernel_rfl) ?_
        repeat (gi_big_quiet_step (fail))
        refine wpQuietIn_nil ?_
        intro _ hw'
        obtain ⟨nq, hw''⟩ := hw'
        subst hw''
        obtain ⟨fn, tmps, assign, body, hy, hR⟩ := hY pre ⟨k, hkl⟩ _ (hJd hJs nq) hpl
        simp only [HV.out] at hy
        have hc1' : (wr.drewN nq).cell? ⟨Bs, 0, none⟩ = some (.slice (some ⟨b, o, none⟩) len cap) := hc1
        have hc2' : (wr.drewN nq).cell? ⟨Bn, 0, none⟩ = some (.int .i64 2) := hc2
        clear hY hJs hc1 hc2
        gi_wp2
        refine hR.mono ?_
        rintro e W3 (⟨rfl, hJ3, hk3⟩ | ⟨rfl, hJx3⟩)
        · have hc3 := hk3.cellN.trans hc2'
          gi_wp2
          go_roundw
          case rel => exact ⟨m + 2, by go_num, by omega, ⟨k + 1, _, by have := HM.out; omega, isUpto_snoc HU.out hkl, hJ3⟩, (hnx.drewN nq).trans hk3⟩
          case measure => simp [intOf]; omega
        · gi_wp2
          refine bodyPost_ret (results_none rfl _ _ _) rfl ?_
          exact ⟨⟨_, rfl⟩, .inr ⟨_, trivial, hJx3⟩⟩
      · obtain rfl : len = m + 1 := by omega
        have hv : ckv b o (m + 1) k = .slice (some ⟨b, o + m, none⟩) 1 1 := by unfold ckv; rw [← hmk]; exact if_neg (by omega)
        have HV := Lib.hid hv
        clear hv hu hmk
        gi_wp2
        refine wpIn_region_quiet_lit hro (by kernel_rfl) (by kernel_rfl) ?_
        repeat (gi_big_quiet_step (fail))
        refine wpQuietIn_nil ?_
        intro _ hw'
        obtain ⟨nq, hw''⟩ := hw'
        subst hw''
        obtain ⟨fn, tmps, assign, body, hy, hR⟩ := hY pre ⟨k, hkl⟩ _ (hJd hJs nq) hpl
        simp only [HV.out] at hy
        have hc1' : (wr.drewN nq).cell? ⟨Bs, 0, none⟩ = some (.slice (some ⟨b, o, none⟩) (m + 1) cap) := hc1
        have hc2' : (wr.drewN nq).cell? ⟨Bn, 0, none⟩ = some (.int .i64 2) := hc2
        clear hY hJs hc1 hc2
        gi_wp2
        refine hR.mono ?_
        rintro e W3 (⟨rfl, hJ3, hk3⟩ | ⟨rfl, hJx3⟩)
        · have hc3 := hk3.cellN.trans hc2'
          gi_wp2
          go_roundw
          case rel => exact ⟨m + 2, by go_num, by omega, ⟨k + 1, _, by have := HM.out; omega, isUpto_snoc HU.out hkl, hJ3⟩, (hnx.drewN nq).trans hk3⟩
          case measure => simp [intOf]; omega
        · gi_wp2
          refine bodyPost_ret (results_none rfl _ _ _) rfl ?_
          exact ⟨⟨_, rfl⟩, .inr ⟨_, trivial, hJx3⟩⟩
    · clear hY hu hmk
      gi_wp2
      go_end0
      have hk' : k = (len + 1) / 2 := by have := HM.out; omega
      exact ⟨⟨_, rfl⟩, .inl ⟨pre, by rw [← hk']; exact HU.out, hJs⟩⟩

set_option maxRecDepth 100000 in
set_option maxHeartbeats 1000000 in
theorem chunk1_nil_in (F : Fence) (n : Nat) (h42 : F.fn 42) (hro : F.round = none) (l Bs Bn c : Nat) (A : Option Addr) (J Jx : List (Ck 0) → World → Prop) (W : World)
    (hcs : W.cell? ⟨Bs, 0, none⟩ = some (.slice A 0 c)) (h0 : J [] W) :
    CallsIn F n Try.prog 42 #[.func (.yield l) #[] #[], .pointer (some ⟨Bs, 0, none⟩), .pointer (some ⟨Bn, 0, none⟩)] W fun e W' => (∃ v, e = .returned v) ∧
      ((∃ ys, isUpto ys ((0 + 1) / 2) ∧ J ys W') ∨ (∃ pre, True ∧ Jx pre W')) := by
  refine callsIn_of_wp Try.func42 rfl h42 ?_ hro
  simp only [Try.ntmps42, List.size_toArray, List.length_cons, List.length_nil, Nat.reduceAdd, Nat.reduceSub, Array.replicate_succ, Array.replicate_zero, List.push_toArray, List.append_toArray, List.nil_append, List.cons_append]
  gi_wp2
  gi_loopw [4] (fun i wr => i = .int .i64 0 ∧ J [] wr ∧ wr.cell? ⟨Bs, 0, none⟩ = some (.slice A 0 c)) (fun _ _ => 0)
  case atStart => exact ⟨rfl, h0, hcs⟩
  case round =>
    obtain ⟨rfl, hJs, hc⟩ := hrel
    gi_wp2
    go_end0
    exact ⟨⟨_, rfl⟩, .inl ⟨[], rfl, hJs⟩⟩

theorem abides_drewN {β : Type} {B : Nat} {J : β → World → Prop} (h : AbidesFrom B J) {s : β} {A : World} (hs : J s A) (q : Nat) : J s (A.drewN q) :=
  h s A (A.drewN q) none hs ⟨rfl, rfl, rfl, Nat.le_refl _, fun _ _ _ => rfl⟩ (fun r e => by cases e)

/-- The iterator's contract: the pairs of a list, in their order. -/
theorem chunk_stops (F : Fence) (n : Nat) (h42 : F.fn 42) (hro : F.round = none) (hn : 1 ≤ n) (Bs Bn n₀ : Nat) (A : Option Addr) (len cap : Nat) (vs : List Value) (hreach : len ≤ 4611686018427387904) (hcap : len ≤ cap)
    (w : World) (hBs : Bs < w.heap.size) (hBn : Bn < w.heap.size) (hl : vs.length = len)
    (hcs : w.cell? ⟨Bs, 0, none⟩ = some (.slice A len cap)) (hcn : w.cell? ⟨Bn, 0, none⟩ = some (.int .i64 2)) (b o : Nat) (hb : vs ≠ [] → A = some ⟨b, o, none⟩) :
    SeqStopsK F n Try.prog 42 #[.pointer (some ⟨Bs, 0, none⟩), .pointer (some ⟨Bn, 0, none⟩)] (fun x : Ck len => #[ckv b o len x.1]) (Kc n₀ Bs Bn) (fun ys => isUpto ys ((len + 1) / 2)) (fun _ => True) len w := fun l J Jx W hW hJ _ hY h0 => by
  have hcs' := (hW.cell (p := ⟨Bs, 0, none⟩) hBs).trans hcs
  have hcn' := (hW.cell (p := ⟨Bn, 0, none⟩) hBn).trans hcn
  by_cases hne : vs = []
  · have h0' : len = 0 := by rw [← hl, hne]; rfl
    clear hreach hcap hl hb hne hcs
    subst h0'
    exact chunk1_nil_in F n h42 hro l Bs Bn cap A J Jx W hcs' h0
  · have e := hb hne
    subst e
    exact chunk1_in F n h42 hro hn l Bs Bn n₀ b o len cap hreach hcap J Jx (fun hs q => abides_drewN hJ hs q) hY W hcs' hcn' h0

set_option maxHeartbeats 1000000 in
/-- slices.Chunk at 2: both arguments are boxed, the function value captures the boxes. -/
theorem chunk_any (A : Option Addr) (len cap : Nat) (w : World) :
    Calls Try.prog 38 #[.slice A len cap, .int .i64 2] w fun e w' => e = .returned (.func (.func 42) #[] #[.pointer (some ⟨w.heap.size, 0, none⟩), .pointer (some ⟨w.heap.size + 1, 0, none⟩)]) ∧
      (w.alloc (.cells #[.slice A len cap] 25)).alloc (.cells #[.int .i64 2] 3) = w' := by
  go_enter Try.func38, Try.ntmps38
  go_wp2
  go_ret
  exact ⟨rfl, rfl⟩

end Dg
end Go.Proofs.Ytgjmhddekggilaa
