/- What a printer changes: its own box and the block of its text. The printer in memory; what a call that prints gives; a string appended to the text. giveUp, word. The parts that write is given, in memory. -/
import Derived.Test.YtggeepimihhpjaaGreatDoorG4
import Derived.Test.YtggeepimihhpjaaGreatDoorPX
import Derived.Lib.AppendStr
import Derived.Deep.AppendSrc
namespace Go.Proofs.YtggeepimihhpjaaGreatDoor
open Go.RowKit Go.Shelf Sl Fr Lx
namespace Sy
set_option linter.unusedVariables false

structure GP (w w' : World) (qb : Nat) (tb : Option Nat) : Prop where
  os : w'.os = w.os
  tape : w'.tape = w.tape
  output : w'.output = w.output
  size : w.heap.size ≤ w'.heap.size
  block : ∀ i, i < w.heap.size → i ≠ qb → some i ≠ tb → w'.heap[i]? = w.heap[i]?
section
variable {w w' w2 : World} {qb : Nat} {tb tb' : Option Nat}
theorem GP.refl (w : World) (qb : Nat) (tb : Option Nat) : GP w w qb tb := ⟨rfl, rfl, rfl, Nat.le_refl _, fun _ _ _ _ => rfl⟩
theorem GP.of_none (h : w.grownBy w' none) : GP w w' qb tb := ⟨h.os, h.tape, h.output, h.size, fun i hi _ _ => h.block i hi (by simp)⟩
theorem GP.of_qb (h : w.grownBy w' (some qb)) : GP w w' qb tb := ⟨h.os, h.tape, h.output, h.size, fun i hi hq _ => h.block i hi (fun e => hq (by injection e))⟩
theorem GP.of_tb (h : w.grownBy w' tb) : GP w w' qb tb := ⟨h.os, h.tape, h.output, h.size, fun i hi _ ht => h.block i hi ht⟩
theorem GP.alloc (w : World) (o : Obj) (qb : Nat) (tb : Option Nat) : GP w (w.alloc o) qb tb := .of_none (World.grownBy_alloc w o none)
theorem GP.of_below (h : Below w.heap.size w w') : GP w w' qb tb := .of_none (grown_below h)
theorem GP.trans (h : GP w w' qb tb) (k : GP w' w2 qb tb') (ht : tb' = tb ∨ ∀ g, tb' = some g → w.heap.size ≤ g) : GP w w2 qb tb := by
  refine ⟨k.os.trans h.os, k.tape.trans h.tape, k.output.trans h.output, Nat.le_trans h.size k.size, fun i hi hq hb => ?_⟩
  rw [k.block i (Nat.lt_of_lt_of_le hi h.size) hq ?_, h.block i hi hq hb]
  intro e
  rcases ht with ht | ht
  · exact hb (by rw [e, ht])
  · have := ht i e.symm; omega
theorem GP.trans0 (h : GP w w' qb tb) (k : GP w' w2 qb tb) : GP w w2 qb tb := h.trans k (.inl rfl)
theorem GP.two (h : GP w w' qb tb) : ∃ v, w.grownBy v (some qb) ∧ v.grownBy w' tb := by
  rcases tb with _ | t
  · exact ⟨w', ⟨h.os, h.tape, h.output, h.size, fun i hi hq => h.block i hi (fun e => hq (by rw [e])) (by simp)⟩, ⟨rfl, rfl, rfl, Nat.le_refl _, fun _ _ _ => rfl⟩⟩
  · by_cases ht : t < w.heap.size
    · have ht' : t < w'.heap.size := Nat.lt_of_lt_of_le ht h.size
      refine ⟨{ w' with heap := w'.heap.setIfInBounds t w.heap[t] }, ⟨h.os, h.tape, h.output, by simpa using h.size, fun i hi hq => ?_⟩, ⟨rfl, rfl, rfl, by simp, fun i hi hne => ?_⟩⟩
      · by_cases e : t = i
        · subst e
          simp [ht, ht']
        · show (w'.heap.setIfInBounds t w.heap[t])[i]? = _
          rw [Array.getElem?_setIfInBounds_ne e]
          exact h.block i hi (fun e => hq (by rw [e])) (fun e' => e (by injection e' with e'; exact e'.symm))
      · have e : t ≠ i := fun e => hne (by rw [e])
        show _ = (w'.heap.setIfInBounds t w.heap[t])[i]?
        rw [Array.getElem?_setIfInBounds_ne e]
    · exact ⟨w', ⟨h.os, h.tape, h.output, h.size, fun i hi hq => h.block i hi (fun e => hq (by rw [e])) (fun e => by injection e with e; omega)⟩, ⟨rfl, rfl, rfl, Nat.le_refl _, fun _ _ _ => rfl⟩⟩
theorem GP.box (h : GP w w' qb tb) {b : Nat} {zs : Array Value} (hb : BoxL w b zs) (h1 : b ≠ qb) (h2 : some b ≠ tb) : BoxL w' b zs := by
  obtain ⟨v, k1, k2⟩ := h.two
  exact (hb.grown k1 (fun e => h1 (by injection e))).grown k2 h2
theorem GP.boxO (h : GP w w' qb tb) {b : Nat} {zs : Array Value} {T : TypeId} (hb : BoxO w b zs T) (h1 : b ≠ qb) (h2 : some b ≠ tb) : BoxO w' b zs T := by
  obtain ⟨v, k1, k2⟩ := h.two
  exact (hb.grown k1 (fun e => h1 (by injection e))).grown k2 h2
theorem GP.vars (h : GP w w' qb tb) (hv : VarsC w) {base : Nat} (hg : ∀ g name, Tryz.prog.globalNamed name = some g → g < base) (h1 : base ≤ qb) (h2 : ∀ g, tb = some g → base ≤ g) : VarsC w' := by
  obtain ⟨v, k1, k2⟩ := h.two
  exact (hv.grown k1 (fun g name hn e => by injection e with e; have := hg g name hn; omega)).grown k2 (fun g name hn e => by have := hg g name hn; have := h2 g e.symm; omega)
theorem GP.er (h : GP w w' qb tb) {S : Nat → Prop} (h1 : ¬ S qb) (h2 : ∀ g, tb = some g → ¬ S g) {e : ExprT} {cs : List Value} (he : ER w S e cs) : ER w' S e cs := by
  obtain ⟨v, k1, k2⟩ := h.two
  exact ER.grown k2 h2 _ _ (ER.grown k1 (fun g e => by injection e with e; subst e; exact h1) _ _ he)
theorem GP.ir (h : GP w w' qb tb) {S : Nat → Prop} (h1 : ¬ S qb) (h2 : ∀ g, tb = some g → ¬ S g) {i : ItemT} {cs : Array Value} (he : IR w S i cs) : IR w' S i cs := by
  obtain ⟨v, k1, k2⟩ := h.two
  exact (he.grown k1 (fun g e => by injection e with e; subst e; exact h1)).grown k2 h2
theorem GP.fr (h : GP w w' qb tb) {S : Nat → Prop} (h1 : ¬ S qb) (h2 : ∀ g, tb = some g → ¬ S g) {A : Option Addr} {cs : List Value} (he : FR w S A cs) : FR w' S A cs := by
  obtain ⟨v, k1, k2⟩ := h.two
  exact (he.grown k1 (fun g e => by injection e with e; subst e; exact h1)).grown k2 h2
theorem GP.cell (h : GP w w' qb tb) (a : Addr) (hlt : a.block < w.heap.size) (h1 : a.block ≠ qb) (h2 : some a.block ≠ tb) : w'.cell? a = w.cell? a := World.cell?_of_block (h.block a.block hlt h1 h2)
end
def MapI (w : World) (b : Nat) (ps : List (Int × By)) : Prop := ∃ es clock, w.heap[b]? = some (.map es clock) ∧ es.toList.map (fun e => (e.key, e.val)) = ps.map (fun p => (Value.int .i64 p.1, Value.string ⟨p.2.toArray⟩))
def findI (z : Int) : List (Int × By) → Option By
  | [] => none
  | p :: r => if p.1 = z then some p.2 else findI z r
theorem MapI.made (w : World) : MapI (w.alloc (.map #[] 0)) w.heap.size [] := ⟨#[], 0, heap_alloc_new w _, rfl⟩
theorem MapI.of_block {w w' : World} {b : Nat} {ps : List (Int × By)} (h : MapI w b ps) (hb : w'.heap[b]? = w.heap[b]?) : MapI w' b ps := by
  obtain ⟨es, clock, h1, h2⟩ := h
  exact ⟨es, clock, hb.trans h1, h2⟩
theorem MapI.lt {w : World} {b : Nat} {ps : List (Int × By)} (h : MapI w b ps) : b < w.heap.size := by
  obtain ⟨es, clock, h1, _⟩ := h
  exact (Array.getElem?_eq_some_iff.1 h1).1
theorem same_int (z x : Int) : Instr.sameNow (.int .i64) (.int .i64 z) (.int .i64 x) = some (decide (x = z)) := by
  obtain ⟨r, h1, h2⟩ := MapKept.sameNow_of_keys (d := .int .i64) (a := .int .i64 z) (b := .int .i64 x) (by simp [MapKept.IsKey]) (by simp [MapKept.IsKey])
  rw [h1]
  congr 1
  rw [Bool.eq_iff_iff, h2, decide_eq_true_eq]
  constructor
  · intro h; injection h with _ h; exact h.symm
  · intro h; rw [h]
theorem findNow_int (z : Int) : ∀ (es : List MapEntry) (ps : List (Int × By)) (i : Nat), es.map (fun e => (e.key, e.val)) = ps.map (fun p => (Value.int .i64 p.1, Value.string ⟨p.2.toArray⟩)) →
    ∃ j, Instr.findNow (.int .i64) (.int .i64 z) es i = some ((findI z ps).map fun v => (j, .string ⟨v.toArray⟩))
  | [], [], i, h => ⟨0, rfl⟩
  | [], p :: ps, i, h => by cases h
  | e :: es, [], i, h => by cases h
  | e :: es, p :: ps, i, h => by
    simp only [List.map_cons, List.cons.injEq, Prod.mk.injEq] at h
    obtain ⟨⟨h1, h2⟩, h3⟩ := h
    unfold Instr.findNow findI
    rw [h1, same_int, h2]
    by_cases hp : p.1 = z
    · rw [decide_eq_true hp, if_pos hp]
      exact ⟨i, rfl⟩
    · rw [decide_eq_false hp, if_neg hp]
      exact findNow_int z es ps (i + 1) h3
theorem MapI.lookup_ok {P : Program} {w : World} {b : Nat} {ps : List (Int × By)} (h : MapI w b ps) {t k e : TypeId} (ht : P.underlying t = some (.map k e)) (hk : P.underlying k = some (.int .i64)) (z : Int) (z0 : Value) (hz : (zeroValue e).run P w = .ok z0 w) :
    (Instr.lookup t (.map (some b)) (.int .i64 z) true).run P w = .ok (.tuple #[((findI z ps).map fun v => Value.string ⟨v.toArray⟩).getD z0, .bool (findI z ps).isSome]) w := by
  obtain ⟨es, clock, h1, h2⟩ := h
  obtain ⟨j, hj⟩ := findNow_int z es.toList ps 0 h2
  have hc : ∀ q, (Instr.checkKey q 10000 k (.int .i64 z)).run P w = .ok () w := fun q => MapKept.run_checkKey (d := .int .i64) (k := .int .i64 z) hk (by simp [MapKept.IsKey]) q 9999
  cases hf : findI z ps with
  | none =>
    rw [hf] at hj
    simp [Instr.lookup, run_underlying ht, MapKept.run_getObj_map h1, hc, MapKept.run_findKey hk hj, Result.andThen, hz]
  | some v =>
    rw [hf] at hj
    simp [Instr.lookup, run_underlying ht, MapKept.run_getObj_map h1, hc, MapKept.run_findKey hk hj, Result.andThen]
theorem MapI.insert {P : Program} {w : World} {b : Nat} {ps : List (Int × By)} (h : MapI w b ps) {t k e : TypeId} (ht : P.underlying t = some (.map k e)) (hk : P.underlying k = some (.int .i64)) (z : Int) (v : By) (hno : findI z ps = none) :
    ∃ o, (Instr.mapUpdate t (.map (some b)) (.int .i64 z) (.string ⟨v.toArray⟩)).run P w = .ok () { w with heap := w.heap.setIfInBounds b o } ∧ MapI { w with heap := w.heap.setIfInBounds b o } b (ps ++ [(z, v)]) := by
  obtain ⟨es, clock, h1, h2⟩ := h
  obtain ⟨j, hj⟩ := findNow_int z es.toList ps 0 h2
  rw [hno] at hj
  have hlt := (Array.getElem?_eq_some_iff.1 h1).1
  have hc : ∀ q, (Instr.checkKey q 10000 k (.int .i64 z)).run P w = .ok () w := fun q => MapKept.run_checkKey (d := .int .i64) (k := .int .i64 z) hk (by simp [MapKept.IsKey]) q 9999
  refine ⟨.map (es.push { key := .int .i64 z, val := .string ⟨v.toArray⟩, born := clock }) (clock + 1), ?_, es.push { key := .int .i64 z, val := .string ⟨v.toArray⟩, born := clock }, clock + 1, by simp [hlt], ?_⟩
  · simp [Instr.mapUpdate, run_underlying ht, MapKept.run_getObj_map h1, hc, MapKept.run_findKey hk hj, MapKept.run_setObj_map _ h1, Result.andThen]
  · rw [Array.toList_push, List.map_append, h2, List.map_append]
    rfl
def SignM (w : World) (b : Nat) : Prop := ∃ ps, MapI w b ps ∧ ∀ op, findI op ps = signX op
theorem SignM.of_block {w w' : World} {b : Nat} (h : SignM w b) (hb : w'.heap[b]? = w.heap[b]?) : SignM w' b := by
  obtain ⟨ps, h1, h2⟩ := h
  exact ⟨ps, h1.of_block hb, h2⟩
theorem SignM.lt {w : World} {b : Nat} (h : SignM w b) : b < w.heap.size := by
  obtain ⟨ps, h1, h2⟩ := h
  exact h1.lt
end Sy
end Go.Proofs.YtggeepimihhpjaaGreatDoor

namespace Go.Proofs.YtggeepimihhpjaaGreatDoor
open Go.RowKit Go.Shelf Go.Lib Sl Fr Lx
namespace Sy
set_option linter.unusedVariables false
set_option linter.unusedSimpArgs false

theorem run_append_str_lies {P : Program} (w : World) (base : Nat) (t u ty e : TypeId) (i : TypeInfo) (ht : P.underlying t = some (.slice e)) (hu : P.underlying u = some .string) (hi : P.info? e = some i) (hz : i.zero = some (.int .u8 0))
    (hsize : i.size = 1) (hby : i.bytes = 1) (v : Value) (n : Nat) (xs : List Value) (hown : w.ownsRow base e 1 v n xs) (s : ByteArray)
    (h63 : n + s.size ≤ maxLen) (hbytes : n + s.size ≤ 140737488355328) (hbase : base ≤ w.heap.size) :
    ∃ v' w', (Builtin.append_ #[t, u] ty #[v, .string s]).run P w = .ok v' w' ∧ w'.ownsRow base e 1 v' (n + s.size) (xs ++ strCells s) ∧ w.grownBy w' v.ownBlock ∧ (v'.ownBlock = v.ownBlock ∨ v'.ownBlock = some w.heap.size) := by
  obtain ⟨v', w', hr, h2, h3, h4⟩ := run_append_own_string (P := P) w base t u ty e i ht hu hi hz hsize hby v n xs hown s h63 hbytes hbase
  refine ⟨v', w', hr, h2, h3, ?_⟩
  have hS : ∀ W : World, Src P i.size u (.string s) s.size (Go.byteCells s) W := fun W => by rw [hsize]; exact Src.ofString W hu s
  have hsm : n + s.size ≤ 9223372036854775807 := by simp only [maxLen] at h63; omega
  rcases hown.2 with ⟨rfl, rfl⟩ | ⟨g, cap, cur, rfl, hb, hg, hn, hcm, hcs, htk⟩
  · by_cases h0 : s.size = 0
    · rw [h4.2 ⟨rfl, h0⟩]; exact .inl rfl
    · have hgr := run_append_grow_src (P := P) w t u ty e i _ ht hi hz none 0 0 [] (run_firstCells_none w.drew i.size 0 0 0) (.string s) s.size _ (hS w) (by omega) (by omega) (growslice_fits (by omega) (by rw [hby]; omega))
      rw [hgr] at hr
      injection hr with e1 e2
      rw [← e1]
      exact .inr rfl
  · by_cases hroom : n + s.size ≤ cap
    · have hc : ∀ j, j < (Go.byteCells s).length → (w.cell? ⟨g, 0 + n * i.size + j, none⟩).isSome = true := fun j hj => by
        rw [byteCells_length] at hj
        rw [cell_of_row w g _ cur e (0, 0) hg, hsize]
        have : 0 + n * 1 + j < cur.size := by omega
        simp
        omega
      have hf : ∀ j, j < (Go.byteCells s).length → w.frozen? ⟨g, 0 + n * i.size + j, none⟩ = false := fun j hj => by
        unfold World.frozen?
        simp [hg]
      have hrm := run_append_room_src (P := P) w t u ty e i ht hi g 0 n cap (.string s) s.size _ (hS w) hroom hc hf
      rw [hrm] at hr
      injection hr with e1 e2
      rw [← e1]
      exact .inl rfl
    · have holds : ∀ j x, xs[j]? = some x → w.drew.cell? ((⟨g, 0, none⟩ : Addr).add j) = some x := fun j x hx => by simpa using hown.cells (g := g) rfl j x hx
      have hgr := run_append_grow_src (P := P) w t u ty e i _ ht hi hz (some ⟨g, 0, none⟩) n cap xs (run_firstCells_some w.drew i.size n ⟨g, 0, none⟩ n cap xs (by rw [hsize]; exact hown.1) holds) (.string s) s.size _ (hS w) (by omega) (by omega) (growslice_fits (by omega) (by rw [hby]; omega))
      rw [hgr] at hr
      injection hr with e1 e2
      rw [← e1]
      exact .inr rfl
theorem wp_append_str {P : Program} {w : World} {o : Oper} {a : Act} {K : Act → World → Prop} {Q : Exit → Act → World → Prop} (s x : Operand) (t u : TypeId)
    (ho : o.op = .call { callee := .builtin .append, args := #[s, x], argTypes := #[t, u] })
    (base : Nat) (e : TypeId) (i : TypeInfo) (ht : P.underlying t = some (.slice e)) (hu : P.underlying u = some .string) (hi : P.info? e = some i) (hz : i.zero = some (.int .u8 0))
    (hsize : i.size = 1) (hby : i.bytes = 1) (v : Value) (n : Nat) (xs : List Value) (hs : a.eval s = v) (hown : w.ownsRow base e 1 v n xs) (z : ByteArray) (hx : a.eval x = .string z)
    (h63 : n + z.size ≤ maxLen) (hbytes : n + z.size ≤ 140737488355328) (hbase : base ≤ w.heap.size)
    (h : ∀ A c w', w'.ownsRow base e 1 (.slice A (n + z.size) c) (n + z.size) (xs ++ strCells z) → w.grownBy w' v.ownBlock → ((Value.slice A (n + z.size) c).ownBlock = v.ownBlock ∨ (Value.slice A (n + z.size) c).ownBlock = some w.heap.size) → K (a.put o.dst (.slice A (n + z.size) c)) w') : o.wp P a w K Q := by
  obtain ⟨v', w', hr, h2, h3, h4⟩ := run_append_str_lies (P := P) w base t u o.type e i ht hu hi hz hsize hby v n xs hown z h63 hbytes hbase
  unfold Oper.wp execOp
  simp only [ho, resolve, invoke, builtin, Sem.run_bind, Sem.run_pure, Result.andThen_ok, List.map_toArray, List.map_cons, List.map_nil, hs, hx, hr]
  obtain ⟨A, c, rfl⟩ : ∃ A c, v' = .slice A (n + z.size) c := by
    rcases h2.2 with ⟨e, e0⟩ | ⟨g, cap, cur, e, _⟩
    · exact ⟨none, 0, by rw [e, e0]⟩
    · exact ⟨_, _, e⟩
  exact h A c w' h2 h3 h4

theorem wpList_append_str {P : Program} {w : World} {ops : Array Oper} {rest : List Oper} {o : Oper} {a : Act} {Q : Exit → Act → World → Prop} (hgd : o.guard = none) (s x : Operand) (t u : TypeId)
    (ho : o.op = .call { callee := .builtin .append, args := #[s, x], argTypes := #[t, u] })
    (base : Nat) (e : TypeId) (i : TypeInfo) (ht : P.underlying t = some (.slice e)) (hu : P.underlying u = some .string) (hi : P.info? e = some i) (hz : i.zero = some (.int .u8 0))
    (hsize : i.size = 1) (hby : i.bytes = 1) (v : Value) (n : Nat) (xs : List Value) (hs : a.eval s = v) (hown : w.ownsRow base e 1 v n xs) (z : ByteArray) (hx : a.eval x = .string z)
    (h63 : n + z.size ≤ maxLen) (hbytes : n + z.size ≤ 140737488355328) (hbase : base ≤ w.heap.size)
    (h : ∀ A c w', w'.ownsRow base e 1 (.slice A (n + z.size) c) (n + z.size) (xs ++ strCells z) → w.grownBy w' v.ownBlock → ((Value.slice A (n + z.size) c).ownBlock = v.ownBlock ∨ (Value.slice A (n + z.size) c).ownBlock = some w.heap.size) → wpList P ops Q rest (a.put o.dst (.slice A (n + z.size) c)) w') : wpList P ops Q (o :: rest) a w :=
  wpList_plain hgd fun _ hK => wp_append_str s x t u ho base e i ht hu hi hz hsize hby v n xs hs hown z hx h63 hbytes hbase fun A c w' h1 h2 h3 => hK _ _ (h A c w' h1 h2 h3)

structure PP (w : World) (base qb : Nat) (tb : Option Nat) (t : By) : Prop where
  len : t.length ≤ 8000
  vars : VarsC w
  glob : ∀ g name, Tryz.prog.globalNamed name = some g → g < base
  out : ∃ v mS, BoxL w qb #[v, .map (some mS)] ∧ v.ownBlock = tb ∧ w.ownsRow base 5 1 v t.length (strCells ⟨t.toArray⟩) ∧ SignM w mS ∧ base ≤ qb ∧ base ≤ mS ∧ mS ≠ qb ∧ tb ≠ some mS ∧ tb ≠ some qb
section
variable {w w' : World} {base qb : Nat} {tb : Option Nat} {t : By}
theorem PP.hq (h : PP w base qb tb t) : base ≤ qb := by
  obtain ⟨v, mS, h1, h2, h3, h4, h5, _⟩ := h.out
  exact h5
theorem PP.lt (h : PP w base qb tb t) : qb < w.heap.size := by
  obtain ⟨v, mS, h1, h2, h3, h4, h5, _⟩ := h.out
  exact h1.lt
theorem PP.ht (h : PP w base qb tb t) : ∀ g, tb = some g → base ≤ g ∧ g < w.heap.size := by
  obtain ⟨v, mS, h1, h2, h3, h4, h5, _⟩ := h.out
  intro g hg
  exact h3.lt g (h2.trans hg)
theorem PP.keep (h : PP w base qb tb t) (hg : w.grownBy w' none) : PP w' base qb tb t := by
  obtain ⟨v, mS, h1, h2, h3, h4, h5, h6, h7, h8, h9⟩ := h.out
  refine ⟨h.len, h.vars.grown hg (fun g name hn e => by cases e), h.glob, v, mS, h1.grown hg (fun e => by cases e), h2, h3.kept hg ?_, h4.of_block (hg.block mS h4.lt (by simp)), h5, h6, h7, h8, h9⟩
  cases hv : v.ownBlock with
  | none => exact .inl rfl
  | some g => exact .inr (by simp)
theorem PP.below (h : PP w base qb tb t) (hb : Below w.heap.size w w') : PP w' base qb tb t := h.keep (grown_below hb)
theorem PP.alloc (h : PP w base qb tb t) (o : Obj) : PP (w.alloc o) base qb tb t := h.keep (World.grownBy_alloc w o none)
theorem PP.hb (h : PP w base qb tb t) : base ≤ w.heap.size := Nat.le_of_lt (Nat.lt_of_le_of_lt h.hq h.lt)
theorem PP.nqb (h : PP w base qb tb t) : ¬ (fun b => b < base) qb := by have := h.hq; show ¬ qb < base; omega
theorem PP.ntb (h : PP w base qb tb t) : ∀ g, tb = some g → ¬ (fun b => b < base) g := fun g e => by have := (h.ht g e).1; show ¬ g < base; omega
def PG (base qb : Nat) (tb : Option Nat) (t : By) (o : Option By) (W : World) (e : Ending) (w' : World) : Prop :=
  GP W w' qb tb ∧ match wr o t with
    | some t' => e = .returned (.tuple #[]) ∧ ∃ tb', PP w' base qb tb' t' ∧ (tb' = tb ∨ ∀ g, tb' = some g → W.heap.size ≤ g)
    | .none => e = .panicked (refV 0)
theorem PG.of_ok {o : Option By} {t' : By} {tb' : Option Nat} (hw : wr o t = some t') (hg : GP w w' qb tb) (hp : PP w' base qb tb' t') (ht : tb' = tb ∨ ∀ g, tb' = some g → w.heap.size ≤ g) : PG base qb tb t o w (.returned (.tuple #[])) w' := by
  unfold PG; rw [hw]; exact ⟨hg, rfl, tb', hp, ht⟩
theorem PG.of_no {o : Option By} (hw : wr o t = .none) (hg : GP w w' qb tb) : PG base qb tb t o w (.panicked (refV 0)) w' := by
  unfold PG; rw [hw]; exact ⟨hg, rfl⟩
theorem PG.ok {o : Option By} {t' : By} {e : Ending} (h : PG base qb tb t o w e w') (hw : wr o t = some t') : e = .returned (.tuple #[]) ∧ ∃ tb', PP w' base qb tb' t' ∧ (tb' = tb ∨ ∀ g, tb' = some g → w.heap.size ≤ g) ∧ GP w w' qb tb := by
  unfold PG at h; rw [hw] at h; obtain ⟨h1, h2, tb', h3, h4⟩ := h; exact ⟨h2, tb', h3, h4, h1⟩
theorem PG.no {o : Option By} {e : Ending} (h : PG base qb tb t o w e w') (hw : wr o t = .none) : e = .panicked (refV 0) ∧ GP w w' qb tb := by
  unfold PG at h; rw [hw] at h; exact ⟨h.2, h.1⟩
theorem PG.from {o : Option By} {e : Ending} {v : World} (hg : GP v w qb tb) (h : PG base qb tb t o w e w') : PG base qb tb t o v e w' := by
  unfold PG at h ⊢
  refine ⟨hg.trans0 h.1, ?_⟩
  cases hw : wr o t with
  | none => rw [hw] at h; exact h.2
  | some t' =>
    rw [hw] at h
    obtain ⟨_, h2, tb', h3, h4⟩ := h
    exact ⟨h2, tb', h3, h4.imp id fun h4 g e => Nat.le_trans hg.size (h4 g e)⟩
end
end Sy
end Go.Proofs.YtggeepimihhpjaaGreatDoor

namespace Go.Proofs.YtggeepimihhpjaaGreatDoor
open Go.RowKit Go.Shelf Go.Lib Sl Fr Lx
namespace Sy
set_option linter.unusedVariables false
set_option linter.unusedSimpArgs false

set_option maxRecDepth 100000 in
theorem giveUp_any (qb : Nat) (w : World) : Calls Tryz.prog 168 #[.pointer (some ⟨qb, 0, none⟩)] w fun e w' => e = .panicked (refV 0) ∧ w' = w := by
  go_enter Tryz.func168, Tryz.ntmps168
  go_wp2_with fail
  exact ⟨rfl, rfl, rfl⟩

theorem infoByte : (Tryz.prog.info? 5).map (fun i => (i.zero, i.size, i.bytes)) = some (some (.int .u8 0), 1, 1) := by kernel_rfl
theorem strCells_app (a b : By) : strCells ⟨a.toArray⟩ ++ strCells ⟨b.toArray⟩ = strCells ⟨(a ++ b).toArray⟩ := by simp [strCells]
theorem size_mk (a : By) : (⟨a.toArray⟩ : ByteArray).size = a.length := by
  show a.toArray.size = _
  simp
set_option maxRecDepth 100000 in
set_option maxHeartbeats 2000000 in
theorem word_any (base qb : Nat) (tb : Option Nat) (t x : By) (w : World) (h : PP w base qb tb t) :
    Calls Tryz.prog 151 #[.pointer (some ⟨qb, 0, none⟩), .string ⟨x.toArray⟩] w (PG base qb tb t (some x) w) := by
  obtain ⟨v, mS, h1, h2, h3, h4, h5, h6, h7, h8, h9⟩ := h.out
  obtain ⟨d0, d1⟩ := h1.c2
  obtain ⟨f0, f1⟩ := h1.f2
  have hlen := h.len
  have hbase := h.hb
  have HP := Lib.hid h
  have hx := size_mk x
  -- the text's form
  obtain ⟨A, c, hv⟩ : ∃ A c, v = .slice A t.length c := by
    rcases h3.2 with ⟨e, e0⟩ | ⟨g, cap, cur, e, _⟩
    · exact ⟨none, 0, by rw [e, e0]⟩
    · exact ⟨_, _, e⟩
  obtain ⟨i0, hi0, hz0, hz1, hz2⟩ := parts_of infoByte
  have H2 := Lib.hid h2
  have H3 := Lib.hid h3
  have H1 := Lib.hid h1
  clear h1 h2 h3 h4 h
  by_cases hbig : t.length + x.length ≤ 8000
  · have hW : Hid (wr (some x) t = some (t ++ x)) := Lib.hid (by rw [wr_some, if_pos hbig])
    have ht1 : ¬ (8000 : Int) - (t.length : Int) < (x.length : Int) := by omega
    subst hv
    go_enter Tryz.func151, Tryz.ntmps151
    go_wp2_with (at_builtin; refine wpList_append_str rfl _ _ 57 9 rfl base 5 i0 Tryz.underlying57 Tryz.underlying9 hi0 hz0 hz1 hz2 (.slice A t.length c) _ _ rfl H3.out ⟨x.toArray⟩ rfl (by rw [hx]; unfold maxLen; omega) (by rw [hx]; omega) hbase ?_; intro A' c' wx hown hgrow hat; have cc := ((H1.out.grown hgrow (fun e => h9 (H2.out.symm.trans e.symm))).c2).1; have ff := ((H1.out.grown hgrow (fun e => h9 (H2.out.symm.trans e.symm))).f2).1)
    go_end0
    rw [H2.out] at hgrow hat
    have hlt := H1.out.lt
    have hne : (Value.slice A' (t.length + (⟨x.toArray⟩ : ByteArray).size) c').ownBlock ≠ some qb := by
      rcases hat with e | e
      · rw [e]; exact h9
      · rw [e]; intro e'; injection e' with e'; omega
    have hS : mS < w.heap.size := by obtain ⟨_, mS', k1, _, _, k4, _⟩ := HP.out.out; have := k1.c2.2; rw [d1] at this; injection this with this; injection this with this; injection this with this; subst this; exact k4.lt
    have hnS : (Value.slice A' (t.length + (⟨x.toArray⟩ : ByteArray).size) c').ownBlock ≠ some mS := by
      rcases hat with e | e
      · rw [e]; exact h8
      · rw [e]; intro e'; injection e' with e'; omega
    have g2 := grown_set wx qb 0 (.slice A' (t.length + (⟨x.toArray⟩ : ByteArray).size) c')
    have hSM : SignM w mS := by obtain ⟨_, mS', k1, _, _, k4, _⟩ := HP.out.out; have := k1.c2.2; rw [d1] at this; injection this with this; injection this with this; injection this with this; subst this; exact k4
    have hG : GP w (wx.setCell ⟨qb, 0, none⟩ (.slice A' (t.length + (⟨x.toArray⟩ : ByteArray).size) c')) qb tb := (GP.of_tb hgrow).trans0 (GP.of_qb g2)
    refine PG.of_ok hW.out hG (tb' := (Value.slice A' (t.length + (⟨x.toArray⟩ : ByteArray).size) c').ownBlock) ⟨wr_le hW.out, hG.vars HP.out.vars HP.out.glob h5 (fun g e => (HP.out.ht g e).1), HP.out.glob, _, mS, ?_, rfl, ?_, hSM.of_block (hG.block mS hS h7 h8.symm), h5, h6, h7, hnS, hne⟩ ?_
    · have q := (H1.out.grown hgrow (fun e => h9 e.symm)).set1 (i := 0) (by simp) (.slice A' (t.length + (⟨x.toArray⟩ : ByteArray).size) c')
      exact q
    · have q := hown.kept g2 (.inr hne)
      rw [strCells_app] at q
      rw [List.length_append, ← hx]
      exact q
    · exact hat.imp id fun e g eg => by rw [e] at eg; injection eg with eg; omega
  · have hW : Hid (wr (some x) t = none) := Lib.hid (by rw [wr_some, if_neg hbig])
    have ht1 : (8000 : Int) - (t.length : Int) < (x.length : Int) := by omega
    have HG := Lib.hid (giveUp_any qb)
    subst hv
    go_enter Tryz.func151, Tryz.ntmps151
    go_wp2_with (go_at_call 168; with_reducible refine (HG.out _).mono ?_; rintro e w1 ⟨rfl, rfl⟩)
    exact ⟨rfl, PG.of_no hW.out (GP.refl _ _ _)⟩

end Sy
end Go.Proofs.YtggeepimihhpjaaGreatDoor

namespace Go.Proofs.YtggeepimihhpjaaGreatDoor
open Go.RowKit Go.Shelf Go.Lib Sl Fr Lx
namespace Sy
set_option linter.unusedVariables false
set_option linter.unusedSimpArgs false

def I64 (n : Int) : Prop := -9223372036854775808 ≤ n ∧ n ≤ 9223372036854775807
mutual
def OkE : ExprT → Prop
  | .mk op nm k w args => I64 k.n ∧ I64 w.n ∧ OkA args
def OkA : List ExprT → Prop
  | [] => True
  | e :: r => OkE e ∧ OkA r
end
theorem OkA.get : ∀ {l : List ExprT} {i : Nat}, OkA l → OkE (l[i]?.getD expr0)
  | [], i, h => by
    show OkE (([] : List ExprT)[i]?.getD expr0)
    rw [List.getElem?_nil]
    show OkE expr0
    unfold expr0 OkE OkA
    exact ⟨⟨by show (_ : Int) ≤ 0; omega, by show (0 : Int) ≤ _; omega⟩, ⟨by show (_ : Int) ≤ 0; omega, by show (0 : Int) ≤ _; omega⟩, trivial⟩
  | e :: r, 0, h => by unfold OkA at h; exact h.1
  | e :: r, i + 1, h => by
    unfold OkA at h
    rw [List.getElem?_cons_succ]
    exact OkA.get h.2
def OkI (i : ItemT) : Prop := I64 i.width.n ∧ I64 i.depth.n ∧ I64 i.init.n ∧ OkE i.a ∧ OkE i.b ∧ OkE i.c ∧ I64 i.rule.n ∧ (∀ x ∈ i.args, I64 x.n) ∧ i.args.length ≤ 281474976710656 ∧ i.ports.length ≤ 281474976710656
def PaR (w : World) (base : Nat) : PartT → Value → Prop
  | .s x, v => v = .iface 9 (.string ⟨x.toArray⟩)
  | .i x, v => OkI x ∧ ∃ cs, v = .iface 69 (.agg cs) ∧ IR w (fun b => b < base) x cs
  | .r x, v => I64 x.n ∧ v = .iface 65 (ruleA x)
  | .n x, v => I64 x.n ∧ v = .iface 60 (numA x)
  | .e x, v => OkE x ∧ ∃ A c, v = .iface 63 (.agg (eC x A c).toArray) ∧ ER w (fun b => b < base) x (eC x A c)
section
variable {w w' : World} {base qb : Nat} {tb : Option Nat} {t : By}
theorem PaR.gp (hp : PP w base qb tb t) (h : GP w w' qb tb) : ∀ {p : PartT} {v : Value}, PaR w base p v → PaR w' base p v
  | .s x, v, k => k
  | .i x, v, ⟨h1, cs, h2, h3⟩ => ⟨h1, cs, h2, h.ir hp.nqb hp.ntb h3⟩
  | .r x, v, k => k
  | .n x, v, k => k
  | .e x, v, ⟨h1, A, c, h2, h3⟩ => ⟨h1, A, c, h2, h.er hp.nqb hp.ntb h3⟩
def ParM (w : World) (base qb : Nat) (tb : Option Nat) (A : Option Addr) (ps : List PartT) : Prop :=
  ps ≠ [] → ∃ b, A = some ⟨b, 0, none⟩ ∧ b < w.heap.size ∧ b ≠ qb ∧ some b ≠ tb ∧ ∀ (j : Nat) (p : PartT), ps[j]? = some p → ∃ v, w.cell? ⟨b, j, none⟩ = some v ∧ PaR w base p v
theorem ParM.new (hp : PP w base qb tb t) (T : TypeId) {ps : List PartT} {vs : Array Value} (hl : vs.size = ps.length) (h : ∀ (j : Nat) (p : PartT), ps[j]? = some p → ∃ v, vs[j]? = some v ∧ PaR w base p v) : ParM (w.alloc (.cells vs T)) base qb tb (some ⟨w.heap.size, 0, none⟩) ps := fun _ =>
  ⟨w.heap.size, rfl, by simp, (by have := hp.lt; omega), (fun e => by have := (hp.ht _ e.symm).2; omega), fun j p hj => by
    obtain ⟨v, h1, h2⟩ := h j p hj
    refine ⟨v, ?_, PaR.gp hp (GP.alloc w _ qb tb) h2⟩
    rw [cell_of_row _ _ _ vs T (0, 0) (heap_alloc_new w _)]
    exact h1⟩
def PrE (e : ExprT) : Prop := OkE e → ∀ (base qb : Nat) (tb : Option Nat) (t : By) (w : World) (A : Option Addr) (c : Nat), PP w base qb tb t → ER w (fun b => b < base) e (eC e A c) →
  Calls Tryz.prog 155 #[.pointer (some ⟨qb, 0, none⟩), .agg (eC e A c).toArray] w (PG base qb tb t (exprX e) w)
def PrI (i : ItemT) : Prop := OkI i → ∀ (base qb : Nat) (tb : Option Nat) (t : By) (w : World) (cs : Array Value), PP w base qb tb t → IR w (fun b => b < base) i cs →
  Calls Tryz.prog 152 #[.pointer (some ⟨qb, 0, none⟩), .agg cs] w (PG base qb tb t (itemX i) w)
def PrR (r : RuleT) : Prop := I64 r.n → ∀ (base qb : Nat) (tb : Option Nat) (t : By) (w : World), PP w base qb tb t →
  Calls Tryz.prog 153 #[.pointer (some ⟨qb, 0, none⟩), ruleA r] w (PG base qb tb t (ruleX r) w)
def PrN (x : NumT) : Prop := I64 x.n → ∀ (base qb : Nat) (tb : Option Nat) (t : By) (w : World), PP w base qb tb t →
  Calls Tryz.prog 154 #[.pointer (some ⟨qb, 0, none⟩), numA x] w (PG base qb tb t (some (numX x)) w)
def PartOK : PartT → Prop
  | .s x => True
  | .i x => PrI x
  | .r x => PrR x
  | .n x => PrN x
  | .e x => PrE x
def WrAt (base qb : Nat) (tb : Option Nat) (t : By) (ps : List PartT) (A : Option Addr) (w : World) (i : Value) (W : World) : Prop :=
  ∃ (k : Nat) (tk : By) (tbk : Option Nat), i = .int .i64 (k : Int) ∧ k ≤ ps.length ∧ wr (seqO ((ps.take k).map partX)) t = some tk ∧ PP W base qb tbk tk ∧ (tbk = tb ∨ ∀ g, tbk = some g → w.heap.size ≤ g) ∧ GP w W qb tb
theorem PG.calls_ok {f : FuncId} {args : Array Value} {o : Option By} {t' : By} (h : Calls Tryz.prog f args w (PG base qb tb t o w)) (hw : wr o t = some t') :
    Calls Tryz.prog f args w fun e w' => e = .returned (.tuple #[]) ∧ ∃ tb', PP w' base qb tb' t' ∧ (tb' = tb ∨ ∀ g, tb' = some g → w.heap.size ≤ g) ∧ GP w w' qb tb := h.mono fun e w' hg => hg.ok hw
theorem PG.calls_no {f : FuncId} {args : Array Value} {o : Option By} (h : Calls Tryz.prog f args w (PG base qb tb t o w)) (hw : wr o t = none) :
    Calls Tryz.prog f args w fun e w' => e = .panicked (refV 0) ∧ GP w w' qb tb := h.mono fun e w' hg => hg.no hw
end
theorem seq_take {ps : List PartT} {k : Nat} {p : PartT} (h : ps[k]? = some p) : seqO ((ps.take (k + 1)).map partX) = catO (seqO ((ps.take k).map partX)) (partX p) := by
  rw [List.take_add_one, h, List.map_append]
  exact seqO_snoc _ _
theorem seq_rest {ps : List PartT} {k : Nat} : seqO (ps.map partX) = catO (seqO ((ps.take k).map partX)) (seqO ((ps.drop k).map partX)) := by
  rw [← seqO_app, ← List.map_append, List.take_append_drop]
theorem seq_drop {ps : List PartT} {k : Nat} {p : PartT} (h : ps[k]? = some p) : seqO ((ps.drop k).map partX) = catO (partX p) (seqO ((ps.drop (k + 1)).map partX)) := by
  have h1 := List.getElem?_eq_some_iff.1 h
  obtain ⟨h2, h3⟩ := h1
  rw [List.drop_eq_getElem_cons h2, List.map_cons, seqO_cons, h3]
end Sy
end Go.Proofs.YtggeepimihhpjaaGreatDoor
