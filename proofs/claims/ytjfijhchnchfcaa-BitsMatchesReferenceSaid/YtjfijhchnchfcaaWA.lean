/- The iterator over the lowest bits of a number; Split. -/
import Derived.Test.YtjfijhchnchfcaaW9
import Derived.RangeFuncNested
import Derived.RangeFuncBox
import Derived.RangeFuncBound
import Derived.RangeFuncCalls
import Derived.RangeFuncLeaves
import Derived.Shelf.Abstract
import Derived.Shelf.RegionOpen
import Derived.OwnWalkIn
import Derived.TacticsInMore
import Derived.LoopNIn
import Derived.LoopIn
import Derived.Sort.QuietIn
import Derived.Deep.OwnRows
import Derived.ArgAppend
namespace Go.Proofs.Ytjfijhchnchfcaa
open Go.RowKit Go.Shelf Go.BigFrame Sl Fr
namespace Bt
set_option linter.unusedVariables false
set_option linter.unusedSimpArgs false
attribute [local go_sem] Oper.semAt_some

theorem inWide {F : Fence} {m : Nat} {f : FuncId} {args : Array Value} {w : World} {R : Ending → World → Prop} (hF : Hid (F = Fence.wide)) (h : Calls Try.prog f args w R) : CallsIn F m Try.prog f args w R := by
  rw [hF.out]; exact callsIn_wide.2 h

/-- What a loop's body keeps: all that lay below n₀, and the iterator's two boxes. -/
def Kc (n₀ Bs Bn : Nat) (W W' : World) : Prop := Below n₀ W W' ∧ W'.heap[Bs]? = W.heap[Bs]? ∧ W'.heap[Bn]? = W.heap[Bn]?
theorem Kc.refl (n₀ Bs Bn : Nat) (W : World) : Kc n₀ Bs Bn W W := ⟨Below.refl _ _, rfl, rfl⟩
theorem Kc.trans {n₀ Bs Bn : Nat} {X Y Z : World} (h : Kc n₀ Bs Bn X Y) (k : Kc n₀ Bs Bn Y Z) : Kc n₀ Bs Bn X Z := ⟨h.1.trans k.1, k.2.1.trans h.2.1, k.2.2.trans h.2.2⟩
theorem Kc.cellS {n₀ Bs Bn : Nat} {X Y : World} (h : Kc n₀ Bs Bn X Y) : Y.cell? ⟨Bs, 0, none⟩ = X.cell? ⟨Bs, 0, none⟩ := World.cell?_of_block h.2.1
theorem Kc.cellN {n₀ Bs Bn : Nat} {X Y : World} (h : Kc n₀ Bs Bn X Y) : Y.cell? ⟨Bn, 0, none⟩ = X.cell? ⟨Bn, 0, none⟩ := World.cell?_of_block h.2.2
theorem Kc.putObj {n₀ Bs Bn N : Nat} (hn : n₀ ≤ N) (hs : Bs < N) (hb : Bn < N) (W : World) (l : Nat) (o o' : Obj) (hl : N ≤ l) (h : W.heap[l]? = some o) (hc : o.isCells = false) (hw : o.isWalk = false) : Kc n₀ Bs Bn W (W.putObj l o') :=
  ⟨by
    have := belowK_b (n₀ := n₀) (w := { W with heap := (List.replicate N (Obj.cells #[] 0)).toArray }) (by simpa using hn) W l o o' (by simpa using hl) h hc hw
    exact this, World.putObj_heap_other (by omega), World.putObj_heap_other (by omega)⟩

/-- The number of a bit. -/
abbrev Ix (n : Nat) := { k : Nat // k < n }
def bitAt (v : Int) (k : Nat) : Bool := decide (v / 2 ^ k % 2 = 1)
def isUpto {len : Nat} (pre : List (Ix len)) (k : Nat) : Prop := pre.map (fun x => x.1) = List.range k
theorem isUpto_length {len : Nat} {pre : List (Ix len)} {k : Nat} (h : isUpto pre k) : pre.length = k := by
  have := congrArg List.length h; simpa using this
theorem isUpto_snoc {len : Nat} {pre : List (Ix len)} {k : Nat} (h : isUpto pre k) (hk : k < len) : isUpto (pre ++ [⟨k, hk⟩]) (k + 1) := by
  unfold isUpto at *
  rw [List.map_append, h, List.range_succ]
  rfl
theorem bit_int (v : Int) (k : Nat) : bits .and .i64 (v / 2 ^ k) 1 = v / 2 ^ k % 2 := and_mask (v / 2 ^ k) 1 (by omega)

set_option maxRecDepth 100000 in
set_option maxHeartbeats 1000000 in
theorem lowest1_in (F : Fence) (n : Nat) (h59 : F.fn 59) (hro : F.round = none) (hn : 1 ≤ n) (l Bv Bn n₀ : Nat) (v : Int) (nn : Nat) (hnn : nn ≤ 62)
    (J Jx : List (Ix nn) → World → Prop)
    (hY : ∀ pre x W, J pre W → pre.length < nn → YieldAt F (n - 1) Try.prog l #[.int .i64 (x.1 : Int), .bool (bitAt v x.1)] W fun e W' =>
      (e = .returned (.bool true) ∧ J (pre ++ [x]) W' ∧ Kc n₀ Bv Bn W W') ∨ (e = .returned (.bool false) ∧ Jx (pre ++ [x]) W'))
    (W : World) (hcv : W.cell? ⟨Bv, 0, none⟩ = some (.int .i64 v)) (hcn : W.cell? ⟨Bn, 0, none⟩ = some (.int .i64 (nn : Int))) (h0 : J [] W) :
    CallsIn F n Try.prog 59 #[.func (.yield l) #[] #[], .pointer (some ⟨Bn, 0, none⟩), .pointer (some ⟨Bv, 0, none⟩)] W fun e W' => (∃ v, e = .returned v) ∧
      ((∃ ys, isUpto ys nn ∧ J ys W') ∨ (∃ pre, True ∧ Jx pre W')) := by
  refine callsIn_of_wp Try.func59 rfl h59 ?_ hro
  simp only [Try.ntmps59, List.size_toArray, List.length_cons, List.length_nil, Nat.reduceAdd, Nat.reduceSub, Array.replicate_succ, Array.replicate_zero, List.push_toArray, List.append_toArray, List.nil_append, List.cons_append]
  gi_wp2
  gi_loopw [6] (fun i wr => ∃ (k : Nat), i = .int .i64 (k : Int) ∧ k ≤ nn ∧ (∃ pre : List (Ix nn), isUpto pre k ∧ J pre wr) ∧ Kc n₀ Bv Bn W wr)
    (fun i _ => nn - (intOf i).toNat)
  case atStart => exact ⟨0, rfl, by omega, ⟨[], rfl, h0⟩, Kc.refl _ _ _ _⟩
  case round =>
    obtain ⟨k, rfl, hk, ⟨pre, hu, hJs⟩, hnx⟩ := hrel
    have hc1 := hnx.cellS.trans hcv
    have hc2 := hnx.cellN.trans hcn
    have HU := Lib.hid hu
    have hul := isUpto_length hu
    clear hu
    by_cases hlt : k < nn
    · obtain ⟨fn, tmps, assign, body, hy, hR⟩ := hY pre ⟨k, hlt⟩ _ hJs (by omega)
      have hb := bit_int v k
      have hbv : bitAt v k = decide (v / 2 ^ k % 2 = 1) := rfl
      clear hY hul hJs
      dsimp only at hy
      rw [hbv] at hy
      clear hbv
      generalize v / 2 ^ k % 2 = q at *
      by_cases hq : q = 1
      · subst hq
        have hd : decide ((1 : Int) = 1) = true := rfl
        rw [hd] at hy
        gi_wp2
        refine hR.mono ?_
        rintro e W3 (⟨rfl, hJ3, hk3⟩ | ⟨rfl, hJx3⟩)
        · gi_wp2
          go_roundw
          case rel => exact ⟨k + 1, by go_num, by omega, ⟨_, isUpto_snoc HU.out hlt, hJ3⟩, hnx.trans hk3⟩
          case measure => simp [intOf]; omega
        · gi_wp2
          refine bodyPost_ret (results_none rfl _ _ _) rfl ?_
          exact ⟨⟨_, rfl⟩, .inr ⟨_, trivial, hJx3⟩⟩
      · have hd : decide (q = 1) = false := decide_eq_false hq
        rw [hd] at hy
        have hq2 : (q == 1) = false := by simpa using hq
        clear hq hd
        gi_wp2
        refine hR.mono ?_
        rintro e W3 (⟨rfl, hJ3, hk3⟩ | ⟨rfl, hJx3⟩)
        · gi_wp2
          go_roundw
          case rel => exact ⟨k + 1, by go_num, by omega, ⟨_, isUpto_snoc HU.out hlt, hJ3⟩, hnx.trans hk3⟩
          case measure => simp [intOf]; omega
        · gi_wp2
          refine bodyPost_ret (results_none rfl _ _ _) rfl ?_
          exact ⟨⟨_, rfl⟩, .inr ⟨_, trivial, hJx3⟩⟩
    · clear hY hul
      have hk' : k = nn := by omega
      subst hk'
      gi_wp2
      go_end0
      exact ⟨⟨_, rfl⟩, .inl ⟨pre, HU.out, hJs⟩⟩

theorem lowest_any (v n : Int) (w : World) :
    Calls Try.prog 34 #[.int .i64 v, .int .i64 n] w fun e w' => e = .returned (.func (.func 59) #[] #[.pointer (some ⟨w.heap.size + 1, 0, none⟩), .pointer (some ⟨w.heap.size, 0, none⟩)]) ∧
      (w.alloc (.cells #[.int .i64 v] 3)).alloc (.cells #[.int .i64 n] 3) = w' := by
  go_enter Try.func34, Try.ntmps34
  go_wp2
  go_ret
  exact ⟨rfl, rfl⟩

theorem lowest_stops (F : Fence) (n : Nat) (h59 : F.fn 59) (hro : F.round = none) (hn : 1 ≤ n) (Bv Bn n₀ : Nat) (v : Int) (nn : Nat) (hnn : nn ≤ 62) (w : World) (hBv : Bv < w.heap.size) (hBn : Bn < w.heap.size)
    (hcv : w.cell? ⟨Bv, 0, none⟩ = some (.int .i64 v)) (hcn : w.cell? ⟨Bn, 0, none⟩ = some (.int .i64 (nn : Int))) :
    SeqStopsK F n Try.prog 59 #[.pointer (some ⟨Bn, 0, none⟩), .pointer (some ⟨Bv, 0, none⟩)] (fun x : Ix nn => #[.int .i64 (x.1 : Int), .bool (bitAt v x.1)]) (Kc n₀ Bv Bn) (fun ys => isUpto ys nn) (fun _ => True) nn w := fun l J Jx W hW _ _ hY h0 =>
  lowest1_in F n h59 hro hn l Bv Bn n₀ v nn hnn J Jx hY W ((hW.cell (p := ⟨Bv, 0, none⟩) hBv).trans hcv) ((hW.cell (p := ⟨Bn, 0, none⟩) hBn).trans hcn) h0

theorem infoBool : (Try.prog.info? 4).map (fun i => (i.zero, i.size, i.bytes)) = some (some (.bool false), 1, 1) := by kernel_rfl
/-- Block N has n cells, none frozen, cell i holding F i. -/
structure CellsV (w : World) (N n : Nat) (F : Nat → Value) : Prop where
  lt : N < w.heap.size
  cell : ∀ i, i < n → w.cell? ⟨N, i, none⟩ = some (F i)
  mark : ∀ i, i < n → w.frozen? ⟨N, i, none⟩ = false
section
variable {w w' : World} {N n : Nat} {F G : Nat → Value}
theorem CellsV.keep (h : CellsV w N n F) (hb : Below w.heap.size w w') : CellsV w' N n F :=
  ⟨Nat.lt_of_lt_of_le h.lt hb.size, fun i hi => (hb.cell (p := ⟨N, i, none⟩) h.lt).trans (h.cell i hi), fun i hi => (hb.frozen (p := ⟨N, i, none⟩) h.lt).trans (h.mark i hi)⟩
theorem CellsV.congr (h : CellsV w N n F) (e : ∀ i, i < n → F i = G i) : CellsV w N n G := ⟨h.lt, fun i hi => (h.cell i hi).trans (congrArg some (e i hi)), h.mark⟩
theorem CellsV.set (h : CellsV w N n F) {i : Nat} (hi : i < n) {v : Value} (e : G i = v) (e' : ∀ j, j ≠ i → G j = F j) : CellsV (w.setCell ⟨N, i, none⟩ v) N n G :=
  ⟨by simpa using h.lt, fun j hj => by
    by_cases hij : j = i
    · subst hij; rw [e]; exact World.cell?_setCell_same _ _ _ (h.cell j hj)
    · rw [e' j hij]
      exact (World.cell?_setCell_other _ _ _ _ (by intro e; have := congrArg Addr.off e; simp at this; omega)).trans (h.cell j hj), fun j hj => by rw [World.frozen?_setCell]; exact h.mark j hj⟩
theorem CellsV.block (h : CellsV w N n F) (e : w'.heap[N]? = w.heap[N]?) (hs : w.heap.size ≤ w'.heap.size) : CellsV w' N n F :=
  ⟨Nat.lt_of_lt_of_le h.lt hs, fun i hi => (World.cell?_of_block e).trans (h.cell i hi), fun i hi => (World.frozen?_of_block e).trans (h.mark i hi)⟩
end
theorem CellsV.made (w : World) (z : Value) (n : Nat) (t : TypeId) : CellsV (w.alloc (.cells (madeCells #[z] n) t)) w.heap.size n (fun _ => z) :=
  have h := World.rowIs_made w z n t
  ⟨by simp, fun i hi => h.cell hi, fun i _ => h.frozen i⟩
theorem CellsV.row {w : World} {N n base : Nat} {F : Nat → Value} (vs : List Value) (h : CellsV w N n F) (hb : base ≤ N) (hl : vs.length ≤ n) (e : ∀ i v, vs[i]? = some v → F i = v) : ArrF w base (some ⟨N, 0, none⟩) vs := fun _ =>
  ⟨N, 0, rfl, hb, h.lt, fun j u hu => by
    rw [Nat.zero_add, h.cell j (by have := (List.getElem?_eq_some_iff.1 hu).1; omega), e j u hu]⟩

/-- The bits that have come. -/
def fillB (v : Int) {n : Nat} (pre : List (Ix n)) (i : Nat) : Value := if i ∈ pre.map (fun x => x.1) then .bool (bitAt v i) else .bool false
theorem CellsV.own {v : Int} {nn N : Nat} : Own (fun (pre : List (Ix nn)) W => CellsV W N nn (fillB v pre) ∧ ∃ o, W.heap[N]? = some o ∧ o.isCells = true) := fun s W W' row hs hg hr => by
  obtain ⟨h, o, ho, hc⟩ := hs
  have hne : some N ≠ row := fun e => by
    obtain ⟨o', h1, h2⟩ := hr N e.symm
    rw [ho] at h1
    cases h1
    rw [hc] at h2
    cases h2
  have e := hg.block N h.lt hne
  exact ⟨h.block e hg.size, o, e.trans ho, hc⟩

/-- A list of bits is given back. -/
def GiveB (W : World) (l : List Bool) (e : Ending) (w' : World) : Prop := ∃ A c, e = .returned (.slice A l.length c) ∧ l.length ≤ c ∧ c ≤ maxLen ∧ ArrF w' W.heap.size A (l.map Value.bool) ∧ (A = none → c = 0 ∧ l = []) ∧ Below W.heap.size W w'

set_option maxRecDepth 100000 in
set_option maxHeartbeats 1000000 in
theorem split_in (F : Fence) (hF : Hid (F = Fence.wide)) (h17 : F.fn 17) (h34 : F.fn 34) (h59 : F.fn 59) (hro : F.round = none) (n : Nat) (hn : 3 ≤ n) (v : Int) (nn : Nat) (hnn : nn ≤ 62) (w : World) :
    CallsIn F n Try.prog 17 #[.int .i64 v, .int .i64 (nn : Int)] w (GiveB w (spl v nn)) := by
  have h1 : 1 ≤ n := by omega
  have hmk := run_make_row' (P := Try.prog) 24 4 (.bool false) 1 Try.underlying24 infoBool rfl .i64 .i64 nn (by omega) (by omega)
  have d1 : decide ((nn : Int) < 0) = false := decide_eq_false (by omega)
  have d2 : decide (62 < (nn : Int)) = false := decide_eq_false (by omega)
  refine callsIn_of_wp_marks Try.func17 rfl h17 ?_ hro
  simp only [Try.ntmps17, List.size_toArray, List.length_cons, List.length_nil, Nat.reduceAdd, Nat.reduceSub, Array.replicate_succ, Array.replicate_zero, List.push_toArray, List.append_toArray, List.nil_append, List.cons_append]
  gi_wp2_with (gi_at_call 34; refine (inWide hF (lowest_any _ _ _)).mono ?_; rintro e w' ⟨rfl, rfl⟩)
  have HG : Hid (CellsV (w.alloc (.cells (madeCells #[.bool false] nn) 4)) w.heap.size nn (fun _ => .bool false)) := Lib.hid (CellsV.made w _ nn _)
  have hg0 : (w.alloc (.cells (madeCells #[.bool false] nn) 4)).heap[w.heap.size]? = some (.cells (madeCells #[.bool false] nn) 4) := World.alloc_heap_new _ _
  have hb0 : Below w.heap.size w (w.alloc (.cells (madeCells #[.bool false] nn) 4)) := (Below.refl _ w).alloc (Nat.le_refl _) _
  have hs0 : (w.alloc (.cells (madeCells #[.bool false] nn) 4)).heap.size = w.heap.size + 1 := World.size_alloc _ _
  clear hmk d1 d2
  generalize w.alloc (.cells (madeCells #[.bool false] nn) 4) = U at *
  rw [← hs0]
  have bX := Boxed.new U 24 (.slice (some ⟨w.heap.size, 0, none⟩) nn nn)
  have bV := Boxed.new (U.alloc (.cells #[.slice (some ⟨w.heap.size, 0, none⟩) nn nn] 24)) 3 (.int .i64 v)
  have bN := Boxed.new ((U.alloc (.cells #[.slice (some ⟨w.heap.size, 0, none⟩) nn nn] 24)).alloc (.cells #[.int .i64 v] 3)) 3 (.int .i64 (nn : Int))
  have bX' := (bX.alloc (.cells #[.int .i64 v] 3)).alloc (.cells #[.int .i64 (nn : Int)] 3)
  have bV' := bV.alloc (.cells #[.int .i64 (nn : Int)] 3)
  rw [World.size_alloc] at bV'
  rw [World.size_alloc, World.size_alloc] at bN
  have hbU : Below U.heap.size U (((U.alloc (.cells #[.slice (some ⟨w.heap.size, 0, none⟩) nn nn] 24)).alloc (.cells #[.int .i64 v] 3)).alloc (.cells #[.int .i64 (nn : Int)] 3)) :=
    (((Below.refl _ U).alloc (Nat.le_refl _) _).alloc (by simp) _).alloc (by simp; omega) _
  have hsV : (((U.alloc (.cells #[.slice (some ⟨w.heap.size, 0, none⟩) nn nn] 24)).alloc (.cells #[.int .i64 v] 3)).alloc (.cells #[.int .i64 (nn : Int)] 3)).heap.size = U.heap.size + 1 + 1 + 1 := by simp
  have HGV := Lib.hid (HG.out.keep hbU)
  have hgV := (hbU.block _ (by omega)).trans hg0
  have hbV := hb0.trans (hbU.mono hb0.size)
  have hs1 : w.heap.size < U.heap.size := by omega
  clear bX bV hbU HG hg0 hb0
  generalize ((U.alloc (.cells #[.slice (some ⟨w.heap.size, 0, none⟩) nn nn] 24)).alloc (.cells #[.int .i64 v] 3)).alloc (.cells #[.int .i64 (nn : Int)] 3) = V at *
  clear hs0
  refine wpIn_rangeFunc_ownG hro h1 (gf := 59) (lb := #[.pointer (some ⟨U.heap.size + 1 + 1, 0, none⟩), .pointer (some ⟨U.heap.size + 1, 0, none⟩)]) rfl h59 (enters_of Try.func59 (by kernel_rfl) rfl)
    (lowest_stops F (n - 1) h59 hro (by omega) (U.heap.size + 1) (U.heap.size + 1 + 1) w.heap.size v nn hnn _ (by omega) (by omega) bV'.cell bN.cell)
    Kc.trans (Kc.putObj (by omega) (by omega) (by omega)) (Below.refl _ _) (fun _ => rfl)
    (fun pre W => ((CellsV W w.heap.size nn (fillB v pre) ∧ ∃ o, W.heap[w.heap.size]? = some o ∧ o.isCells = true) ∧ Boxed W U.heap.size 24 (.slice (some ⟨w.heap.size, 0, none⟩) nn nn)) ∧ Below w.heap.size w W)
    (fun _ _ _ => False)
    (OwnFrom.and (OwnFrom.and (Own.from CellsV.own _) (Own.from (boxed_own _ _ _) _)) (ownFrom_below (Nat.le_refl _) (by omega)))
    (fun _ _ _ _ _ hs _ _ => hs)
    ⟨⟨⟨HGV.out.congr (fun i _ => by simp [fillB]), _, hgV, rfl⟩, bX'⟩, hbV⟩
    (fun x => { tmps := #[.int .i64 v, .int .i64 (nn : Int), undef, undef, .slice none 0 0, .pointer (some ⟨U.heap.size, 0, none⟩), .int .i64 (x.1 : Int), .bool (bitAt v x.1), .int .i64 (nn : Int), .bool false, .bool false, .int .i64 (nn : Int), .bool false, .bool false, .int .i64 (nn : Int),
      .slice (some ⟨w.heap.size, 0, none⟩) nn nn, .int .i64 v, .int .i64 (nn : Int), .func (.func 59) #[] #[.pointer (some ⟨U.heap.size + 1 + 1, 0, none⟩), .pointer (some ⟨U.heap.size + 1, 0, none⟩)], .int .i64 (x.1 : Int), .bool (bitAt v x.1), undef, undef, undef, undef, undef], defers := [] }) ?assign ?body ?done ?stop
  case assign =>
    intro l x W K hK
    gi_wp2
    exact hK
  case body =>
    clear bX' bV' bN HGV hgV hbV
    rintro l pre ⟨k, hk⟩ W ⟨⟨⟨hcv, o, ho, hoc⟩, hX⟩, hB⟩ hlt
    have hc0 := hX.cell
    have hck := hcv.cell k hk
    have hmk := hcv.mark k hk
    have hgt := hcv.lt
    have hcs := hcv.set (G := fillB v (pre ++ [⟨k, hk⟩])) hk (v := .bool (bitAt v k)) (by simp [fillB]) (fun j hj => by simp [fillB, hj])
    have HC := Lib.hid hcs
    clear hcs
    dsimp only
    generalize bitAt v k = q at *
    generalize fillB v pre k = f0 at *
    gi_wp2
    obtain ⟨o2, ho2, hoc2⟩ := cells_of_cell (HC.out.cell k hk)
    exact ⟨(KeepsOthers.setCell _ _ _).from _, ⟨(Below.refl w.heap.size W).setCell (p := ⟨w.heap.size, k, none⟩) (Nat.le_refl _) _, Below.heap_setCell _ _ _ (U.heap.size + 1) (by simp; omega), Below.heap_setCell _ _ _ (U.heap.size + 1 + 1) (by simp; omega)⟩,
      ⟨⟨HC.out, o2, ho2, hoc2⟩, (Below.heap_setCell _ _ _ U.heap.size (by simp; omega)).trans hX⟩, hB.setCell (p := ⟨w.heap.size, k, none⟩) (Nat.le_refl _) _⟩
  case done =>
    rintro D xs W hD hS ⟨⟨⟨hcv, _⟩, hX⟩, hB⟩ hK
    have hc0 := hX.cell
    have HCV : Hid (CellsV W w.heap.size nn (fun i => .bool (bitAt v i))) := Lib.hid (hcv.congr fun i hi => by
      have : i ∈ xs.map (fun x => x.1) := by rw [hS]; simpa using hi
      simp only [fillB, this, if_true])
    clear hcv hX bX' bV' bN HGV hgV hbV
    gi_wp2
    refine ⟨by simp, .inl ⟨_, _, rfl, run_takeDeferred hK, ?_⟩⟩
    have hgt := HCV.out.lt
    have hcv2 : CellsV (W.putObj D (.deferred none)) w.heap.size nn (fun i => .bool (bitAt v i)) := HCV.out.block (World.putObj_heap_other (by omega)) (by simp [World.putObj])
    have hb5 : Below w.heap.size w (W.putObj D (.deferred none)) := hB.trans (belowK_b (w := w) (Nat.le_refl _) W D _ _ (by omega) hK rfl rfl)
    clear hK hB HCV hc0
    generalize W.putObj D (.deferred none) = W5 at *
    refine ⟨.slice (some ⟨w.heap.size, 0, none⟩) nn nn, ?_, ⟨_, nn, by rw [spl_length], by rw [spl_length]; exact Nat.le_refl _, by unfold maxLen; omega, hcv2.row _ (Nat.le_refl _) (by simp [spl_length]) (fun i u hu => ?_), fun h => (by cases h), hb5⟩⟩
    · have hres : Try.f17.results = #[.tmp 4] := rfl
      simp only [results, hres]
      go_simp
    · rw [List.getElem?_map] at hu
      have hi : i < nn := by
        rcases Nat.lt_or_ge i nn with h | h
        · exact h
        · rw [List.getElem?_eq_none (by rw [spl_length]; exact h)] at hu; cases hu
      rw [spl_get v nn i hi] at hu
      exact Option.some.inj hu
  case stop =>
    rintro D c pre W _ _ h _
    exact h.elim

theorem split_ok (v : Int) (nn : Nat) (hnn : nn ≤ 62) (w : World) : Calls Try.prog 17 #[.int .i64 v, .int .i64 (nn : Int)] w (GiveB w (spl v nn)) :=
  (callsIn_wide (n := 3)).1 (split_in Fence.wide (Lib.hid rfl) trivial trivial trivial rfl 3 (Nat.le_refl _) v nn hnn w)
theorem split_no (v n : Int) (h : ¬ (0 ≤ n ∧ n ≤ 62)) (w : World) : Calls Try.prog 17 #[.int .i64 v, .int .i64 n] w (GiveB w []) := by
  have hg : GiveB w [] (.returned (.slice none 0 0)) w := ⟨none, 0, rfl, Nat.le_refl _, by unfold maxLen; omega, fun h => absurd rfl h, fun _ => ⟨rfl, rfl⟩, Below.refl _ _⟩
  by_cases h0 : n < 0
  · go_enter Try.func17, Try.ntmps17
    go_wp2
    go_ret
    exact hg
  · have h1 : 62 < n := by omega
    go_enter Try.func17, Try.ntmps17
    go_wp2
    go_ret
    exact hg
/-- What Split gives. -/
def splI (v n : Int) : List Bool := if 0 ≤ n ∧ n ≤ 62 then spl v n.toNat else []
theorem split_any (v n : Int) (w : World) : Calls Try.prog 17 #[.int .i64 v, .int .i64 n] w (GiveB w (splI v n)) := by
  unfold splI
  by_cases h : 0 ≤ n ∧ n ≤ 62
  · rw [if_pos h]
    obtain ⟨m, rfl⟩ := Int.eq_ofNat_of_zero_le h.1
    exact split_ok v m (by omega) w
  · rw [if_neg h]
    exact split_no v n h w

end Bt
end Go.Proofs.Ytjfijhchnchfcaa
