/- The word of a group of bytes, as the program computes it; the library's iterator over the groups of 8 bytes: which slices it hands to a loop's body, in which order. -/
import Derived.Test.YtgjmhddekggilaaC1
import Derived.Test.YtgjmhddekggilaaW2
import Derived.Test.YtgjmhddekggilaaM8
namespace Go.Proofs.Ytgjmhddekggilaa
open Go.RowKit Go.Shelf Go.BigFrame
namespace Dg

set_option maxHeartbeats 400000 in
theorem word_some (xs : List Int) (b o c : Nat) (w : World) (hlen : xs.length ≤ 8) (hB : B8 xs)
    (hc : ∀ j, j < xs.length → w.cell? ⟨b, o + j, none⟩ = some (.int .u8 (xs[j]?.getD 0))) :
    Calls Try.prog 36 #[.slice (some ⟨b, o, none⟩) xs.length c] w fun e w' => e = .returned (.int .u64 (valL xs)) ∧ w = w' := by
  have HB := Lib.hid hB
  clear hB
  go_enter Try.func36, Try.ntmps36
  go_wp2
  go_loop [3, 8] (fun g i => ∃ k : Nat, k ≤ xs.length ∧ i = .int .i64 k ∧ g = .int .u64 (wordTo xs k)) (fun _ i => xs.length - (intOf i).toNat)
  case atStart => exact ⟨0, Nat.zero_le _, rfl, rfl⟩
  case round =>
    obtain ⟨k, hk, rfl, rfl⟩ := hrel
    by_cases hlt : k < xs.length
    · have hcx := hc k hlt
      have hs := wordTo_succ xs k HB.out hlt hlen
      generalize xs[k]?.getD 0 = x at hcx hs
      have HS := Lib.hid hs
      clear hc hs
      go_wp2
      go_round
      case rel => exact ⟨k + 1, by omega, by go_num, congrArg (Value.int .u64) HS.out⟩
      case measure => simp [intOf]; omega
    · clear hc
      go_wp2
      go_ret
      have : k = xs.length := by omega
      subst this
      exact ⟨ret_int (wordTo_all xs), rfl⟩

attribute [local go_sem] Oper.semAt_some

/-- What a loop's body keeps: the iterator's two boxes. -/
def Kb (Bs Bn : Nat) (W W' : World) : Prop := W'.heap[Bs]? = W.heap[Bs]? ∧ W'.heap[Bn]? = W.heap[Bn]?
theorem Kb.refl (Bs Bn : Nat) (W : World) : Kb Bs Bn W W := ⟨rfl, rfl⟩
theorem Kb.trans {Bs Bn : Nat} {X Y Z : World} (h : Kb Bs Bn X Y) (k : Kb Bs Bn Y Z) : Kb Bs Bn X Z := ⟨k.1.trans h.1, k.2.trans h.2⟩
theorem Kb.drewN {Bs Bn : Nat} {X Y : World} (h : Kb Bs Bn X Y) (q : Nat) : Kb Bs Bn X (Y.drewN q) := ⟨h.1, h.2⟩
theorem Kb.cellS {Bs Bn : Nat} {X Y : World} (h : Kb Bs Bn X Y) : Y.cell? ⟨Bs, 0, none⟩ = X.cell? ⟨Bs, 0, none⟩ := World.cell?_of_block h.1
theorem Kb.cellN {Bs Bn : Nat} {X Y : World} (h : Kb Bs Bn X Y) : Y.cell? ⟨Bn, 0, none⟩ = X.cell? ⟨Bn, 0, none⟩ := World.cell?_of_block h.2
theorem Kb.putObj {Bs Bn N : Nat} (hs : Bs < N) (hb : Bn < N) (W : World) (l : Nat) (o' : Obj) (hl : N ≤ l) : Kb Bs Bn W (W.putObj l o') :=
  ⟨World.putObj_heap_other (by omega), World.putObj_heap_other (by omega)⟩

/-- The number of a group of 8 in a list of len elements. -/
abbrev Ce (len : Nat) := { k : Nat // 8 * k < len }
def ceLen (len k : Nat) : Nat := min 8 (len - 8 * k)
def cev (b o len k : Nat) : Value := .slice (some ⟨b, o + 8 * k, none⟩) (ceLen len k) (ceLen len k)
/-- The first k numbers of groups. -/
def isUpE {len : Nat} (pre : List (Ce len)) (k : Nat) : Prop := pre.map (fun x => x.1) = List.range k
theorem isUpE_length {len : Nat} {pre : List (Ce len)} {k : Nat} (h : isUpE pre k) : pre.length = k := by
  have := congrArg List.length h; simpa using this
theorem isUpE_snoc {len : Nat} {pre : List (Ce len)} {k : Nat} (h : isUpE pre k) (hk : 8 * k < len) : isUpE (pre ++ [⟨k, hk⟩]) (k + 1) := by
  unfold isUpE at *
  rw [List.map_append, h, List.range_succ]
  rfl

set_option maxRecDepth 100000 in
set_option maxHeartbeats 1000000 in
theorem chunk8_in (F : Fence) (n : Nat) (h41 : F.fn 41) (hro : F.round = none) (hn : 1 ≤ n) (l Bs Bn b o len cap : Nat) (hreach : len ≤ 4611686018427387904) (hcap : len ≤ cap)
    (J Jx : List (Ce len) → World → Prop) (hJd : ∀ {s A}, J s A → ∀ q, J s (A.drewN q))
    (hY : ∀ pre x W, J pre W → pre.length < len → YieldAt F (n - 1) Try.prog l #[cev b o len x.1] W fun e W' =>
      (e = .returned (.bool true) ∧ J (pre ++ [x]) W' ∧ Kb Bs Bn W W') ∨ (e = .returned (.bool false) ∧ Jx (pre ++ [x]) W'))
    (W : World) (hcs : W.cell? ⟨Bs, 0, none⟩ = some (.slice (some ⟨b, o, none⟩) len cap)) (hcn : W.cell? ⟨Bn, 0, none⟩ = some (.int .i64 8)) (h0 : J [] W) :
    CallsIn F n Try.prog 41 #[.func (.yield l) #[] #[], .pointer (some ⟨Bs, 0, none⟩), .pointer (some ⟨Bn, 0, none⟩)] W fun e W' => (∃ v, e = .returned v) ∧
      ((∃ ys, isUpE ys ((len + 7) / 8) ∧ J ys W') ∨ (∃ pre, True ∧ Jx pre W')) := by
  refine callsIn_of_wp Try.func41 rfl h41 ?_ hro
  simp only [Try.ntmps41, List.size_toArray, List.length_cons, List.length_nil, Nat.reduceAdd, Nat.reduceSub, Array.replicate_succ, Array.replicate_zero, List.push_toArray, List.append_toArray, List.nil_append, List.cons_append]
  gi_wp2
  gi_loopw [4] (fun i wr => ∃ (m : Nat), i = .int .i64 m ∧ m ≤ len + 7 ∧ (∃ (k : Nat) (pre : List (Ce len)), m = 8 * k ∧ isUpE pre k ∧ J pre wr) ∧ Kb Bs Bn W wr)
    (fun i _ => len + 8 - (intOf i).toNat)
  case atStart => exact ⟨0, rfl, by omega, ⟨0, [], rfl, rfl, h0⟩, Kb.refl _ _ _⟩
  case round =>
    obtain ⟨m, rfl, hm, ⟨k, pre, hmk, hu, hJs⟩, hnx⟩ := hrel
    have hc1 := hnx.cellS.trans hcs
    have hc2 := hnx.cellN.trans hcn
    have HM := Lib.hid hmk
    have HU := Lib.hid hu
    by_cases hlt : m < len
    · have hkl : 8 * k < len := by omega
      have hpl : pre.length < len := by rw [isUpE_length hu]; omega
      by_cases hlt2 : m + 8 ≤ len
      · have hv : cev b o len k = .slice (some ⟨b, o + m, none⟩) 8 8 := by unfold cev ceLen; rw [← hmk, Nat.min_eq_left (by omega)]
        have HV := Lib.hid hv
        clear hv hu hmk
        gi_wp2
        refine wpIn_region_quiet_lit hro (by kernel_rfl) (by kernel_rfl) ?_
        repeat (gi_big_quiet_step (fail))
        refine wpQuietIn_nil ?_
        intro _ hw'
        obtain ⟨nq, hw''⟩ := hw'
        subst hw''
        obtain ⟨fn, tmps, assign, body, hy, hR⟩ := hY pre ⟨k, hkl⟩ _ (hJd hJs nq) hpl
        simp only [HV.out] at hy
        have hc1' : (wr.drewN nq).cell? ⟨Bs, 0, none⟩ = some (.slice (some ⟨b, o, none⟩) len cap) := hc1
        have hc2' : (wr.drewN nq).cell? ⟨Bn, 0, none⟩ = some (.int .i64 8) := hc2
        clear hY hJs hc1 hc2
        gi_wp2
        refine hR.mono ?_
        rintro e W3 (⟨rfl, hJ3, hk3⟩ | ⟨rfl, hJx3⟩)
        · have hc3 := hk3.cellN.trans hc2'
          gi_wp2
          go_roundw
          case rel => exact ⟨m + 8, by go_num, by omega, ⟨k + 1, _, by have := HM.out; omega, isUpE_snoc HU.out hkl, hJ3⟩, (hnx.drewN nq).trans hk3⟩
          case measure => simp [intOf]; omega
        · gi_wp2
          refine bodyPost_ret (results_none rfl _ _ _) rfl ?_
          exact ⟨⟨_, rfl⟩, .inr ⟨_, trivial, hJx3⟩⟩
      · obtain ⟨r, hr0, rfl⟩ : ∃ r : Nat, (0 < r ∧ r < 8) ∧ len = m + r := ⟨len - m, by omega, by omega⟩
        obtain ⟨hr0, hr8⟩ := hr0
        have hv : cev b o (m + r) k = .slice (some ⟨b, o + m, none⟩) r r := by unfold cev ceLen; rw [← hmk, Nat.min_eq_right (by omega), Nat.add_sub_cancel_left]
        have HV := Lib.hid hv
        clear hv hu hmk
        gi_wp2
        refine wpIn_region_quiet_lit hro (by kernel_rfl) (by kernel_rfl) ?_
        repeat (gi_big_quiet_step (fail))
        refine wpQuietIn_nil ?_
        intro _ hw'
        obtain ⟨nq, hw''⟩ := hw'
        subst hw''
        obtain ⟨fn, tmps, assign, body, hy, hR⟩ := hY pre ⟨k, hkl⟩ _ (hJd hJs nq) hpl
        simp only [HV.out] at hy
        have hc1' : (wr.drewN nq).cell? ⟨Bs, 0, none⟩ = some (.slice (some ⟨b, o, none⟩) (m + r) cap) := hc1
        have hc2' : (wr.drewN nq).cell? ⟨Bn, 0, none⟩ = some (.int .i64 8) := hc2
        clear hY hJs hc1 hc2
        gi_wp2
        refine hR.mono ?_
        rintro e W3 (⟨rfl, hJ3, hk3⟩ | ⟨rfl, hJx3⟩)
        · have hc3 := hk3.cellN.trans hc2'
          gi_wp2
          go_roundw
          case rel => exact ⟨m + 8, by go_num, by omega, ⟨k + 1, _, by have := HM.out; omega, isUpE_snoc HU.out hkl, hJ3⟩, (hnx.drewN nq).trans hk3⟩
          case measure => simp [intOf]; omega
        · gi_wp2
          refine bodyPost_ret (results_none rfl _ _ _) rfl ?_
          exact ⟨⟨_, rfl⟩, .inr ⟨_, trivial, hJx3⟩⟩
    · clear hY hu hmk
      gi_wp2
      go_end0
      have hk' : k = (len + 7) / 8 := by have := HM.out; omega
      exact ⟨⟨_, rfl⟩, .inl ⟨pre, by rw [← hk']; exact HU.out, hJs⟩⟩

set_option maxRecDepth 100000 in
set_option maxHeartbeats 1000000 in
theorem chunk8_nil_in (F : Fence) (n : Nat) (h41 : F.fn 41) (hro : F.round = none) (l Bs Bn c : Nat) (A : Option Addr) (J Jx : List (Ce 0) → World → Prop) (W : World)
    (hcs : W.cell? ⟨Bs, 0, none⟩ = some (.slice A 0 c)) (h0 : J [] W) :
    CallsIn F n Try.prog 41 #[.func (.yield l) #[] #[], .pointer (some ⟨Bs, 0, none⟩), .pointer (some ⟨Bn, 0, none⟩)] W fun e W' => (∃ v, e = .returned v) ∧
      ((∃ ys, isUpE ys ((0 + 7) / 8) ∧ J ys W') ∨ (∃ pre, True ∧ Jx pre W')) := by
  refine callsIn_of_wp Try.func41 rfl h41 ?_ hro
  simp only [Try.ntmps41, List.size_toArray, List.length_cons, List.length_nil, Nat.reduceAdd, Nat.reduceSub, Array.replicate_succ, Array.replicate_zero, List.push_toArray, List.append_toArray, List.nil_append, List.cons_append]
  gi_wp2
  gi_loopw [4] (fun i wr => i = .int .i64 0 ∧ J [] wr ∧ wr.cell? ⟨Bs, 0, none⟩ = some (.slice A 0 c)) (fun _ _ => 0)
  case atStart => exact ⟨rfl, h0, hcs⟩
  case round =>
    obtain ⟨rfl, hJs, hc⟩ := hrel
    gi_wp2
    go_end0
    exact ⟨⟨_, rfl⟩, .inl ⟨[], rfl, hJs⟩⟩

/-- The iterator's contract: the groups of a list, in their order. -/
theorem chunk8_stops (F : Fence) (n : Nat) (h41 : F.fn 41) (hro : F.round = none) (hn : 1 ≤ n) (Bs Bn : Nat) (A : Option Addr) (len cap : Nat) (hreach : len ≤ 4611686018427387904) (hcap : len ≤ cap)
    (w : World) (hBs : Bs < w.heap.size) (hBn : Bn < w.heap.size)
    (hcs : w.cell? ⟨Bs, 0, none⟩ = some (.slice A len cap)) (hcn : w.cell? ⟨Bn, 0, none⟩ = some (.int .i64 8)) (b o : Nat) (hb : len ≠ 0 → A = some ⟨b, o, none⟩) :
    SeqStopsK F n Try.prog 41 #[.pointer (some ⟨Bs, 0, none⟩), .pointer (some ⟨Bn, 0, none⟩)] (fun x : Ce len => #[cev b o len x.1]) (Kb Bs Bn) (fun ys => isUpE ys ((len + 7) / 8)) (fun _ => True) len w := fun l J Jx W hW hJ _ hY h0 => by
  have hcs' := (hW.cell (p := ⟨Bs, 0, none⟩) hBs).trans hcs
  have hcn' := (hW.cell (p := ⟨Bn, 0, none⟩) hBn).trans hcn
  by_cases hne : len = 0
  · clear hreach hcap hb hcs
    subst hne
    exact chunk8_nil_in F n h41 hro l Bs Bn cap A J Jx W hcs' h0
  · have e := hb hne
    subst e
    exact chunk8_in F n h41 hro hn l Bs Bn b o len cap hreach hcap J Jx (fun hs q => abides_drewN hJ hs q) hY W hcs' hcn' h0

set_option maxHeartbeats 1000000 in
/-- slices.Chunk at 8: both arguments are boxed, the function value captures the boxes. -/
theorem chunk8_any (A : Option Addr) (len cap : Nat) (w : World) :
    Calls Try.prog 35 #[.slice A len cap, .int .i64 8] w fun e w' => e = .returned (.func (.func 41) #[] #[.pointer (some ⟨w.heap.size, 0, none⟩), .pointer (some ⟨w.heap.size + 1, 0, none⟩)]) ∧
      (w.alloc (.cells #[.slice A len cap] 61)).alloc (.cells #[.int .i64 8] 3) = w' := by
  go_enter Try.func35, Try.ntmps35
  go_wp2
  go_ret
  exact ⟨rfl, rfl⟩

end Dg
end Go.Proofs.Ytgjmhddekggilaa
