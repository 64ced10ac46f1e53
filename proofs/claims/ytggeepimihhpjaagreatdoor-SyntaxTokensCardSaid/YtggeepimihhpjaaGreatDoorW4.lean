/- Maps whose keys are strings, entry by entry: made, filled with constants, looked up. What reading an expression, a rule, an item, a module takes and leaves. Prefixes; names; numbers. White space, words, signs; the first piece; Kind. Signs looked up; the first piece; Kind. -/
import Derived.Test.YtggeepimihhpjaaGreatDoorW1
import Derived.WideMake
import Derived.MapKept
import Derived.Carry
import Derived.Test.YtggeepimihhpjaaGreatDoorP3
import Derived.Test.YtggeepimihhpjaaGreatDoorSh
namespace Go.Proofs.YtggeepimihhpjaaGreatDoor
open Go.RowKit Sl Fr Lx
namespace Sy
set_option linter.unusedVariables false

def MapS (w : World) (b : Nat) (ps : List (By × Value)) : Prop := ∃ es clock, w.heap[b]? = some (.map es clock) ∧ es.toList.map (fun e => (e.key, e.val)) = ps.map (fun p => (Value.string ⟨p.1.toArray⟩, p.2)) ∧ (∀ x ∈ es.toList, x.born < clock) ∧ (es.toList.map (·.born)).Nodup
theorem MapS.made (w : World) : MapS (w.alloc (.map #[] 0)) w.heap.size [] := ⟨#[], 0, heap_alloc_new w _, rfl, (fun x h => by cases h), List.nodup_nil⟩
theorem MapS.kept {w w' : World} {b : Nat} {ps : List (By × Value)} {row : Option Nat} (h : MapS w b ps) (hg : w.grownBy w' row) (hne : some b ≠ row) : MapS w' b ps := by
  obtain ⟨es, clock, h1, h2⟩ := h
  exact ⟨es, clock, (hg.block b (Array.getElem?_eq_some_iff.1 h1).1 hne).trans h1, h2⟩
theorem MapS.lt {w : World} {b : Nat} {ps : List (By × Value)} (h : MapS w b ps) : b < w.heap.size := by
  obtain ⟨es, clock, h1, _⟩ := h
  exact (Array.getElem?_eq_some_iff.1 h1).1
def findS (z : By) : List (By × Value) → Option Value
  | [] => none
  | p :: r => if p.1 = z then some p.2 else findS z r
theorem same_str (z : ByteArray) (x : By) : Instr.sameNow .string (.string z) (.string ⟨x.toArray⟩) = some (decide (x = bys z)) := by
  obtain ⟨r, h1, h2⟩ := MapKept.sameNow_of_keys (d := .string) (a := .string z) (b := .string ⟨x.toArray⟩) (by simp [MapKept.IsKey]) (by simp [MapKept.IsKey])
  rw [h1]
  congr 1
  rw [Bool.eq_iff_iff, h2, decide_eq_true_eq]
  constructor
  · intro h; injection h with h; rw [h]; rfl
  · intro h; rw [h]; exact congrArg Value.string (bys_ext rfl)
theorem findNow_str (z : ByteArray) : ∀ (es : List MapEntry) (ps : List (By × Value)) (i : Nat), es.map (fun e => (e.key, e.val)) = ps.map (fun p => (Value.string ⟨p.1.toArray⟩, p.2)) →
    ∃ j, Instr.findNow .string (.string z) es i = some ((findS (bys z) ps).map fun v => (j, v))
  | [], [], i, h => ⟨0, rfl⟩
  | [], p :: ps, i, h => by cases h
  | e :: es, [], i, h => by cases h
  | e :: es, p :: ps, i, h => by
    simp only [List.map_cons, List.cons.injEq, Prod.mk.injEq] at h
    obtain ⟨⟨h1, h2⟩, h3⟩ := h
    unfold Instr.findNow findS
    rw [h1, same_str, h2]
    by_cases hp : p.1 = bys z
    · rw [decide_eq_true hp, if_pos hp]
      exact ⟨i, rfl⟩
    · rw [decide_eq_false hp, if_neg hp]
      exact findNow_str z es ps (i + 1) h3
theorem MapS.lookup {P : Program} {w : World} {b : Nat} {ps : List (By × Value)} (h : MapS w b ps) {t k e : TypeId} (ht : P.underlying t = some (.map k e)) (hk : P.underlying k = some .string) (z : ByteArray) (z0 : Value) (hz : (zeroValue e).run P w = .ok z0 w) :
    (Instr.lookup t (.map (some b)) (.string z) false).run P w = .ok ((findS (bys z) ps).getD z0) w := by
  obtain ⟨es, clock, h1, h2, hb1, hb2⟩ := h
  obtain ⟨j, hj⟩ := findNow_str z es.toList ps 0 h2
  have hc : ∀ q, (Instr.checkKey q 10000 k (.string z)).run P w = .ok () w := fun q => MapKept.run_checkKey (k := .string z) hk (by simp [MapKept.IsKey]) q 9999
  cases hf : findS (bys z) ps with
  | none =>
    rw [hf] at hj
    simp [Instr.lookup, run_underlying ht, MapKept.run_getObj_map h1, hc, MapKept.run_findKey hk hj, Result.andThen, hz]
  | some v =>
    rw [hf] at hj
    simp [Instr.lookup, run_underlying ht, MapKept.run_getObj_map h1, hc, MapKept.run_findKey hk hj, Result.andThen]
theorem MapS.lookup_ok {P : Program} {w : World} {b : Nat} {ps : List (By × Value)} (h : MapS w b ps) {t k e : TypeId} (ht : P.underlying t = some (.map k e)) (hk : P.underlying k = some .string) (z : ByteArray) (z0 : Value) (hz : (zeroValue e).run P w = .ok z0 w) :
    (Instr.lookup t (.map (some b)) (.string z) true).run P w = .ok (.tuple #[(findS (bys z) ps).getD z0, .bool (findS (bys z) ps).isSome]) w := by
  obtain ⟨es, clock, h1, h2, hb1, hb2⟩ := h
  obtain ⟨j, hj⟩ := findNow_str z es.toList ps 0 h2
  have hc : ∀ q, (Instr.checkKey q 10000 k (.string z)).run P w = .ok () w := fun q => MapKept.run_checkKey (k := .string z) hk (by simp [MapKept.IsKey]) q 9999
  cases hf : findS (bys z) ps with
  | none =>
    rw [hf] at hj
    simp [Instr.lookup, run_underlying ht, MapKept.run_getObj_map h1, hc, MapKept.run_findKey hk hj, Result.andThen, hz]
  | some v =>
    rw [hf] at hj
    simp [Instr.lookup, run_underlying ht, MapKept.run_getObj_map h1, hc, MapKept.run_findKey hk hj, Result.andThen]
theorem MapS.insert {P : Program} {w : World} {b : Nat} {ps : List (By × Value)} (h : MapS w b ps) {t k e : TypeId} (ht : P.underlying t = some (.map k e)) (hk : P.underlying k = some .string) (z : ByteArray) (v : Value) (hno : findS (bys z) ps = none) :
    ∃ w', (Instr.mapUpdate t (.map (some b)) (.string z) v).run P w = .ok () w' ∧ MapS w' b (ps ++ [(bys z, v)]) ∧ w.grownBy w' (some b) := by
  obtain ⟨es, clock, h1, h2, hb1, hb2⟩ := h
  obtain ⟨j, hj⟩ := findNow_str z es.toList ps 0 h2
  rw [hno] at hj
  have hlt := (Array.getElem?_eq_some_iff.1 h1).1
  have hc : ∀ q, (Instr.checkKey q 10000 k (.string z)).run P w = .ok () w := fun q => MapKept.run_checkKey (k := .string z) hk (by simp [MapKept.IsKey]) q 9999
  refine ⟨{ w with heap := w.heap.setIfInBounds b (.map (es.push { key := .string z, val := v, born := clock }) (clock + 1)) }, ?_, ⟨es.push { key := .string z, val := v, born := clock }, clock + 1, by simp [hlt], ?_, ?_, ?_⟩, rfl, rfl, rfl, by simp, fun c hc hne => ?_⟩
  · simp [Instr.mapUpdate, run_underlying ht, MapKept.run_getObj_map h1, hc, MapKept.run_findKey hk hj, MapKept.run_setObj_map _ h1, Result.andThen]
  · rw [Array.toList_push, List.map_append, h2, List.map_append]
    rfl
  · intro x hx
    rw [Array.toList_push, List.mem_append] at hx
    rcases hx with hx | hx
    · exact Nat.lt_succ_of_lt (hb1 x hx)
    · rw [List.mem_singleton.1 hx]; exact Nat.lt_succ_self _
  · rw [Array.toList_push, List.map_append, List.nodup_append]
    refine ⟨hb2, by simp, fun a ha b hb => ?_⟩
    obtain ⟨x, hx, rfl⟩ := List.mem_map.1 ha
    simp only [List.map_cons, List.map_nil, List.mem_singleton] at hb
    have := hb1 x hx
    omega
  · have : b ≠ c := fun e => hne (by rw [e])
    simp [Array.getElem?_setIfInBounds_ne this]
end Sy
end Go.Proofs.YtggeepimihhpjaaGreatDoor

namespace Go.Proofs.YtggeepimihhpjaaGreatDoor
open Lx
namespace Sy
set_option linter.unusedVariables false

theorem Keeps.z {α : Type} {m : PM α} {k : Nat} (h : Keeps m k) : Keeps m 0 := h.mono (Nat.zero_le _)
theorem Keeps.refuse {α : Type} {k : Nat} : Keeps (Sy.refuse : PM α) k := ⟨fun l x r hl he => by cases he⟩
theorem Keeps.acc {α : Type} {w : By} (hw : w ≠ []) {m n : PM α} {k : Nat} (h1 : Keeps m k) (h2 : Keeps n k) : Keeps (do if ← Sy.accept w then m else n : PM α) k := by
  have := (Keeps.accept hw).bind fun b => Keeps.ite (b := b) h1 h2
  rwa [Nat.zero_add] at this
theorem Keeps.const : Keeps constP 1 := Keeps.num.bind0 fun k => (Keeps.behind (by decide) Keeps.num).z.bind0 fun w => (Keeps.expect (by decide)).z.bind0 fun _ => Keeps.pure _
theorem Keeps.bracket : Keeps bracketP 1 := (Keeps.behind (by decide) Keeps.num).mono (by omega) |>.bind0 fun n => (Keeps.expect (by decide)).z.bind0 fun _ => Keeps.pure _
theorem find_mem {α : Type} {p : α → Bool} {l : List α} {x : α} (h : l.find? p = some x) : x ∈ l ∧ p x = true := ⟨List.mem_of_find?_eq_some h, by simpa using List.find?_some h⟩
theorem Keeps.operator : Keeps operatorP 1 := ⟨fun l x r hl he => by
  unfold operatorP at he
  split at he
  · cases he
  · rename_i y hy
    injection he with h1 h2
    subst h2
    obtain ⟨h3, h4⟩ := find_mem hy
    refine taken hl (hl.kind4 ?_)
    have h5 : y.1 = (nextT l).text := by simpa using h4
    rw [← h5]
    have : ∀ z ∈ opsT, z.1 ≠ [] := by decide
    exact this y h3⟩
theorem Keeps.operation {e : PM ExprT} (h : Keeps e 1) : Keeps (operationP e) 1 := h.bind0 fun a => Keeps.acc (by decide)
  (h.z.bind0 fun b => (Keeps.expect (by decide)).z.bind0 fun _ => h.z.bind0 fun c => (Keeps.expect (by decide)).z.bind0 fun _ => Keeps.pure _)
  (Keeps.operator.z.bind0 fun op => h.z.bind0 fun b => (Keeps.expect (by decide)).z.bind0 fun _ => Keeps.pure _)
theorem Keeps.resized {e : PM ExprT} (h : Keeps e 1) : Keeps (resizedP e) 1 := h.bind0 fun a => Keeps.acc (by decide)
  (Keeps.num.z.bind0 fun k => (Keeps.behind (by decide) Keeps.num).z.bind0 fun w => (Keeps.expect (by decide)).z.bind0 fun _ => Keeps.pure _)
  ((Keeps.behind (by decide) Keeps.num).z.bind0 fun w => (Keeps.expect (by decide)).z.bind0 fun _ => Keeps.pure _)
theorem Keeps.ref0 : Keeps (refP none) 1 := Keeps.name.bind0 fun nm => Keeps.pure _
theorem Keeps.ref1 {e : PM ExprT} (h : Keeps e 1) : Keeps (refP (some e)) 1 := Keeps.name.bind0 fun nm => Keeps.acc (by decide)
  (h.z.bind0 fun a => (Keeps.expect (by decide)).z.bind0 fun _ => Keeps.pure _) (Keeps.pure _)
theorem Keeps.expr : ∀ n, Keeps (exprP n) 1
  | 0 => Keeps.refuse
  | 1 => Keeps.acc (by decide) Keeps.const Keeps.ref0
  | m + 2 => by
    have h := Keeps.expr (m + 1)
    exact Keeps.acc (by decide) Keeps.const (Keeps.acc (by decide) (h.bind0 fun a => Keeps.pure _) (Keeps.acc (by decide) (Keeps.operation h) (Keeps.acc (by decide) (Keeps.resized h) (Keeps.ref1 h))))
theorem Keeps.exprB {w : By} (hw : w ≠ []) : Keeps (exprB w) 1 := (Keeps.behind hw (Keeps.expr 8)).mono (by omega)
theorem Keeps.rule : Keeps ruleP 0 := Keeps.acc (by decide) (Keeps.pure _) (Keeps.acc (by decide) (Keeps.pure _) (Keeps.acc (by decide) (Keeps.name.z.bind0 fun f => Keeps.pure _)
  ((Keeps.expect (by decide)).z.bind0 fun _ => Keeps.name.z.bind0 fun f => (Keeps.number 0).z.bind0 fun n => Keeps.pure _)))
theorem Keeps.binding : Keeps bindP 1 := Keeps.name.bind0 fun p => (Keeps.expect (by decide)).z.bind0 fun _ => Keeps.name.z.bind0 fun c => Keeps.pure _
theorem Keeps.input : Keeps inputP 0 := Keeps.name.z.bind0 fun n => (Keeps.behind (by decide) Keeps.num).z.bind0 fun w => Keeps.pure _
theorem Keeps.output : Keeps outputP 0 := Keeps.name.z.bind0 fun n => (Keeps.behind (by decide) Keeps.num).z.bind0 fun w => Keeps.pure _
theorem Keeps.channel : Keeps channelP 0 := Keeps.name.z.bind0 fun n => (Keeps.behind (by decide) Keeps.num).z.bind0 fun w => Keeps.bracket.z.bind0 fun d => Keeps.pure _
theorem Keeps.register : Keeps registerP 0 := Keeps.name.z.bind0 fun n => (Keeps.behind (by decide) Keeps.num).z.bind0 fun w => (Keeps.behind (by decide) Keeps.num).z.bind0 fun i => (Keeps.exprB (by decide)).z.bind0 fun a => Keeps.rule.bind0 fun r => Keeps.pure _
theorem Keeps.wire : Keeps wireP 0 := Keeps.name.z.bind0 fun n => (Keeps.behind (by decide) Keeps.num).z.bind0 fun w => (Keeps.exprB (by decide)).z.bind0 fun a => Keeps.pure _
theorem Keeps.memory : Keeps memoryP 0 := Keeps.name.z.bind0 fun n => (Keeps.behind (by decide) Keeps.num).z.bind0 fun w => Keeps.bracket.z.bind0 fun d => (Keeps.exprB (by decide)).z.bind0 fun a => (Keeps.exprB (by decide)).z.bind0 fun b => (Keeps.exprB (by decide)).z.bind0 fun c => Keeps.rule.bind0 fun r => Keeps.pure _
theorem Keeps.take : Keeps takeP 0 := Keeps.name.z.bind0 fun n => (Keeps.exprB (by decide)).z.bind0 fun a => Keeps.pure _
theorem Keeps.put : Keeps putP 0 := Keeps.name.z.bind0 fun n => (Keeps.exprB (by decide)).z.bind0 fun a => (Keeps.exprB (by decide)).z.bind0 fun b => Keeps.pure _
theorem Keeps.inst : Keeps instP 0 := Keeps.name.z.bind0 fun n => (Keeps.expect (by decide)).z.bind0 fun _ => Keeps.name.z.bind0 fun o => (Keeps.list Keeps.num).z.bind0 fun az => (Keeps.list Keeps.binding).z.bind0 fun ps => Keeps.pure _
theorem items_keep : ∀ x ∈ itemsT, Keeps x.2 0 := by
  intro x hx
  simp only [itemsT, List.mem_cons, List.not_mem_nil, or_false] at hx
  rcases hx with rfl | rfl | rfl | rfl | rfl | rfl | rfl | rfl | rfl
  · exact Keeps.input
  · exact Keeps.output
  · exact Keeps.channel
  · exact Keeps.register
  · exact Keeps.wire
  · exact Keeps.memory
  · exact Keeps.take
  · exact Keeps.put
  · exact Keeps.inst
theorem items_word : ∀ x ∈ itemsT, x.1 ≠ [] := by
  intro x hx
  simp only [itemsT, List.mem_cons, List.not_mem_nil, or_false] at hx
  rcases hx with rfl | rfl | rfl | rfl | rfl | rfl | rfl | rfl | rfl <;> simp [w_in, w_out, w_chan, w_reg, w_wire, w_mem, w_take, w_put, w_inst]
theorem Keeps.item : Keeps itemP 1 := ⟨fun l x r hl he => by
  unfold itemP at he
  split at he
  · cases he
  · rename_i y hy
    obtain ⟨h3, h4⟩ := find_mem hy
    have h5 : y.1 = (nextT l).text := by simpa using h4
    obtain ⟨a, b, d1, c⟩ := taken hl (hl.kind4 (by rw [← h5]; exact items_word y h3))
    obtain ⟨a2, b2, d2, c2⟩ := (items_keep y h3).out _ _ _ a he
    exact ⟨a2, by omega, d1 ++ d2, by rw [List.append_assoc, ← c2]; exact c⟩⟩
theorem Keeps.itemStep (acc : List ItemT) : Keeps (do let i ← itemP; Sy.expect s_semi; Pure.pure (acc ++ [i]) : PM (List ItemT)) 1 := Keeps.item.bind0 fun i => (Keeps.expect (by decide)).z.bind0 fun _ => Keeps.pure _
theorem Keeps.module : Keeps moduleP 1 := (Keeps.expect (by decide)).bind0 fun _ => Keeps.name.z.bind0 fun n => (Keeps.list Keeps.name).z.bind0 fun ps => (Keeps.expect (by decide)).z.bind0 fun _ => Keeps.name.z.bind0 fun c => (Keeps.expect (by decide)).z.bind0 fun _ =>
  (Keeps.loop (by decide) Keeps.itemStep _).z.bind0 fun is => Keeps.pure _
theorem Keeps.moduleStep (acc : FileT) : Keeps (do let m ← moduleP; Pure.pure (acc ++ [m]) : PM FileT) 1 := Keeps.module.bind0 fun m => Keeps.pure _
def fileFrom (acc : FileT) : PM FileT := loopP [] (fun acc => do let m ← moduleP; Pure.pure (acc ++ [m])) acc
theorem file_from : fileP = fileFrom [] := rfl
theorem file_step {acc : FileT} {l : List Tk} (hl : LT l) : fileFrom acc l = if (nextT l).kind = 4 then .ok acc [] else match moduleP l with
    | .no e => .no e
    | .ok m r => fileFrom (acc ++ [m]) r := by
  unfold fileFrom
  rw [loopP_step Keeps.moduleStep hl]
  rcases hl.next with ⟨h1, h2⟩ | ⟨h1, h2, h3⟩
  · have hk : (nextT l).kind ≠ 4 := by have := h1.kind; omega
    rw [if_neg h1.1, if_neg hk]
    cases hm : moduleP l with
    | no e => rw [bind_no hm]
    | ok m r => rw [bind_ok hm, pure_eq]
  · rw [if_pos h2, if_pos h1, h3]

end Sy
end Go.Proofs.YtggeepimihhpjaaGreatDoor

namespace Go.Proofs.YtggeepimihhpjaaGreatDoor
open Go.RowKit Sl Fr
namespace Lx
set_option linter.unusedVariables false

theorem prefix_any (s p : ByteArray) (w : World) : Calls Tryz.prog 123 #[.string s, .string p] w fun e w' => e = .returned (.bool ((bys p).isPrefixOf (bys s))) ∧ w = w' := by
  refine (Tryz.strings_HasPrefix s p w).mono ?_
  rintro e w' ⟨rfl, rfl⟩
  exact ⟨rfl, rfl⟩
theorem bys_toList (s : ByteArray) : s.toList = bys s := by
  unfold bys
  exact ByteArray.toList_eq ..
theorem isName_any (s : ByteArray) (w : World) : Calls Tryz.prog 130 #[.string s] w fun e w' => e = .returned (.bool (isName (bys s))) ∧ w = w' := by
  by_cases h0 : s.size = 0
  · have h1 : bys s = [] := List.eq_nil_of_length_eq_zero (by rw [bys_len, h0])
    have h2 : s.toList = [] := by rw [bys_toList, h1]
    rw [h1, show isName [] = false by rfl]
    clear h0 h1
    go_enter Tryz.func130, Tryz.ntmps130
    go_wp2
    go_ret
    exact ⟨rfl, rfl⟩
  · have hlt : 0 < s.size := by omega
    have hd := bys_drop hlt
    rw [List.drop_zero] at hd
    have h2 : s.toList.isEmpty = false := by rw [bys_toList, hd]; rfl
    have h3 : s.toList ≠ [] := by rw [bys_toList, hd]; simp
    have hc := fun w => isLetter_any s[0] w
    rw [hd, show isName (s[0] :: (bys s).drop (0 + 1)) = isL s[0] by rfl]
    clear hd h0
    go_enter Tryz.func130, Tryz.ntmps130
    go_wp2_with (go_at_call 128; refine (hc _).mono ?_; rintro e w' ⟨rfl, rfl⟩)
    go_ret
    exact ⟨rfl, rfl⟩

theorem numV_snoc (l : By) (c : UInt8) : ∀ v : Nat, numV v (l ++ [c]) = min (10 * numV v l + (c.toNat - 48)) 1000001 := by
  induction l with
  | nil => intro v; rfl
  | cons d r ih =>
    intro v
    show numV (min (10 * v + (d.toNat - 48)) 1000001) (r ++ [c]) = _
    exact ih _
theorem isD_in {c : UInt8} (h : isD c = true) : 48 ≤ (c.toNat : Int) ∧ (c.toNat : Int) ≤ 57 := by simpa [isD] using h
set_option maxHeartbeats 1000000 in
theorem isNumber_any (s : ByteArray) (w : World) (hs : s.size ≤ 281474976710656) : Calls Tryz.prog 131 #[.string s] w fun e w' => e = .returned (.bool (isNum (bys s))) ∧ w = w' := by
  by_cases h0 : s.size = 0
  · have h1 : bys s = [] := List.eq_nil_of_length_eq_zero (by rw [bys_len, h0])
    have h2 : s.toList = [] := by rw [bys_toList, h1]
    rw [h1, show isNum [] = false by rfl]
    clear h0 h1
    go_enter Tryz.func131, Tryz.ntmps131
    go_wp2
    go_ret
    exact ⟨rfl, rfl⟩
  · have hlt : 0 < s.size := by omega
    have hd := bys_drop hlt
    rw [List.drop_zero] at hd
    have h2 : s.toList.isEmpty = false := by rw [bys_toList, hd]; rfl
    have h3 : s.toList ≠ [] := by rw [bys_toList, hd]; simp
    by_cases hz : s[0] = 48
    · have hz2 : ((s[0].toNat : Int) == 48) = true := by rw [hz]; rfl
      rw [hd, hz, isNum_zero]
      have hr : (s.toList == [48]) = ((bys s).drop (0 + 1)).isEmpty := by
        rw [bys_toList]
        rw [hd, hz]
        generalize (bys s).drop (0 + 1) = r
        cases r <;> rfl
      obtain ⟨b, hb⟩ : ∃ b, ((bys s).drop (0 + 1)).isEmpty = b := ⟨_, rfl⟩
      rw [hb] at hr ⊢
      clear hd h0 hb hz
      go_enter Tryz.func131, Tryz.ntmps131
      go_wp2
      go_ret
      exact ⟨rfl, rfl⟩
    · have hz2 : ((s[0].toNat : Int) == 48) = false := by
        rw [Bool.eq_false_iff]
        intro h
        apply hz
        have : (s[0].toNat : Int) = 48 := by simpa using h
        exact UInt8.toNat_inj.1 (by show _ = 48; omega)
      obtain ⟨R, hR⟩ : ∃ R, isNum (bys s) = R := ⟨_, rfl⟩
      have hN : isNum (bys s) = ((bys s).all isD && decide (numV 0 (bys s) ≤ 1000000)) := by
        rw [hd]
        exact isNum_other hz
      rw [hR] at hN ⊢
      have HN := Lib.hid hN
      have hcd := fun (c : UInt8) w => isDigit_any c w
      clear hd h0 hN hR hz
      go_enter Tryz.func131, Tryz.ntmps131
      go_wp2
      go_loop [3, 16] (fun v i => ∃ k n : Nat, k ≤ s.size ∧ i = .int .i64 k ∧ v = .int .i64 n ∧ n ≤ 1000001 ∧ ((bys s).take k).all isD = true ∧ numV 0 ((bys s).take k) = n) (fun _ i => s.size - (intOf i).toNat)
      case atStart => exact ⟨0, 0, Nat.zero_le _, rfl, rfl, by omega, by simp, rfl⟩
      case round =>
        obtain ⟨k, n, hk, rfl, rfl, hn, hall, hv⟩ := hrel
        have HA := Lib.hid hall
        have HV := Lib.hid hv
        clear hall hv
        by_cases hlt : k < s.size
        · have hg := bys_get hlt
          have HG := Lib.hid hg
          clear hg
          generalize hcc : s[k] = c at *
          have HCC := Lib.hid hcc
          have hc := fun w => hcd c w
          clear hcd
          cases hw : isD c
          · rw [hw] at hc
            have HW := Lib.hid hw
            clear hw
            go_wp2_with (go_at_call 129; refine (hc _).mono ?_; rintro e w' ⟨rfl, rfl⟩)
            go_ret
            refine ⟨ret_bool ?_, rfl⟩
            rw [HN.out]
            have : (bys s).all isD = false := by
              rw [List.all_eq_false]
              exact ⟨c, List.mem_of_getElem? HG.out, by simp [HW.out]⟩
            rw [this]; rfl
          · rw [hw] at hc
            obtain ⟨hb1, hb2⟩ := isD_in hw
            have HW := Lib.hid hw
            clear hw
            have HT : Hid (numV 0 ((bys s).take (k + 1)) = min (10 * n + (c.toNat - 48)) 1000001) := Lib.hid (by rw [take_snoc HG.out, numV_snoc, HV.out])
            go_wp2_with (go_at_call 129; refine (hc _).mono ?_; rintro e w' ⟨rfl, rfl⟩)
            exact ⟨⟨k + 1, min (10 * n + (c.toNat - 48)) 1000001, by omega, by go_num, by congr 1; omega, by omega, by rw [take_snoc HG.out, List.all_append, HA.out]; simp [HW.out], HT.out⟩, by simp [intOf]; omega⟩
        · have hk2 : k = s.size := by omega
          clear hcd
          go_wp2
          go_ret
          refine ⟨ret_bool ?_, rfl⟩
          have h5 : (bys s).take k = bys s := List.take_of_length_le (by rw [bys_len]; omega)
          have h6 := HA.out
          have h7 := HV.out
          rw [h5] at h6 h7
          rw [HN.out, h6, h7, Bool.true_and, decide_eq_decide]
          omega

end Lx
end Go.Proofs.YtggeepimihhpjaaGreatDoor

namespace Go.Proofs.YtggeepimihhpjaaGreatDoor
open Go.RowKit Sl Fr
namespace Lx
set_option linter.unusedVariables false

theorem cm_pre (l : By) : ([47, 47] : By).isPrefixOf l = isCm l := by
  cases l with
  | nil => rfl
  | cons c r =>
    rw [Bool.eq_iff_iff, cm_iff]
    cases r with
    | nil => simp [List.isPrefixOf]
    | cons d r =>
      simp only [List.isPrefixOf, Bool.and_true, Bool.and_eq_true, beq_iff_eq, List.head?_cons]
      exact ⟨fun h => ⟨h.1.symm, by rw [h.2]⟩, fun h => ⟨h.1.symm, (Option.some.inj h.2).symm⟩⟩
def GiveP (p : Nat × Nat) (w : World) (e : Ending) (w' : World) : Prop := e = .returned (.agg #[.int .i64 (p.1 : Int), .int .i64 (p.2 : Int)]) ∧ Below w.heap.size w w'

theorem space_any (s : ByteArray) (w : World) (hs : s.size ≤ 281474976710656) : Calls Tryz.prog 80 #[.string s] w (GiveP (0, sp1 (bys s)) w) := by
  have HP := fun w => prefix_any s ⟨#[47, 47]⟩ w
  rw [show bys (⟨#[47, 47]⟩ : ByteArray) = [47, 47] by rfl, cm_pre] at HP
  unfold sp1
  cases h : isCm (bys s)
  · rw [if_neg (by simp)]
    rw [h] at HP
    have HS := fun w => span_any _ _ set_sp s w hs
    have hle := span_le isSp (bys s)
    rw [bys_len] at hle
    generalize span isSp (bys s) = n at *
    clear h
    go_enter Tryz.func80, Tryz.ntmps80
    go_wp2_with (first | (go_at_call 123; refine (HP _).mono ?_; rintro e w' ⟨rfl, rfl⟩) | (go_at_call 124; refine (HS _).mono ?_; rintro e w' ⟨rfl, rfl⟩))
    exact bodyPost_ret (v := .agg #[.int .i64 0, .int .i64 (n : Int)]) (by simp [results, Tryz.results80, go_sem]) rfl ⟨rfl, (Below.refl _ w).alloc (Nat.le_refl _) _⟩
  · rw [if_pos (by simp)]
    rw [h] at HP
    have HS := fun w => span_any _ _ set_lf s w hs
    have hle := span_le notLf (bys s)
    rw [bys_len] at hle
    generalize span notLf (bys s) = n at *
    clear h
    go_enter Tryz.func80, Tryz.ntmps80
    go_wp2_with (first | (go_at_call 123; refine (HP _).mono ?_; rintro e w' ⟨rfl, rfl⟩) | (go_at_call 124; refine (HS _).mono ?_; rintro e w' ⟨rfl, rfl⟩))
    exact bodyPost_ret (v := .agg #[.int .i64 0, .int .i64 (n : Int)]) (by simp [results, Tryz.results80, go_sem]) rfl ⟨rfl, (Below.refl _ w).alloc (Nat.le_refl _) _⟩

theorem wkind_name {l : By} (h : isName l = true) : wkind l = 1 := by unfold wkind; rw [if_pos h]
theorem wkind_num {l : By} (h : isName l = false) (h2 : isNum l = true) : wkind l = 2 := by unfold wkind; rw [if_neg (by simp [h]), if_pos h2]
theorem wkind_no {l : By} (h : isName l = false) (h2 : isNum l = false) : wkind l = 0 := by unfold wkind; rw [if_neg (by simp [h]), if_neg (by simp [h2])]
theorem bys_take (s : ByteArray) (n : Nat) : bys (s.extract 0 n) = (bys s).take n := by rw [bys_extract, List.drop_zero]
theorem word_any (s : ByteArray) (w : World) (hs : s.size ≤ 281474976710656) : Calls Tryz.prog 81 #[.string s] w (GiveP (wordP (bys s)) w) := by
  have HS := fun w => span_any _ _ set_wd s w hs
  unfold wordP
  have hle := span_le isWd (bys s)
  rw [bys_len] at hle
  generalize span isWd (bys s) = n at *
  have e := bys_take s n
  rw [← e]
  have HN := fun w => isName_any (s.extract 0 n) w
  have HM := fun w => isNumber_any (s.extract 0 n) w (by rw [ByteArray.size_extract]; omega)
  clear e
  have c1 : (0 : Int) ≤ ↑n := by omega
  have c2 : (↑n : Int) ≤ ↑s.size := by omega
  cases h1 : isName (bys (s.extract 0 n))
  · cases h2 : isNum (bys (s.extract 0 n))
    · rw [wkind_no h1 h2, if_neg (by simp)]
      rw [h1] at HN
      rw [h2] at HM
      clear h1 h2
      go_enter Tryz.func81, Tryz.ntmps81
      go_wp2_with (first | (go_at_call 124; refine (HS _).mono ?_; rintro e w' ⟨rfl, rfl⟩) | (go_at_call 130; refine (HN _).mono ?_; rintro e w' ⟨rfl, rfl⟩) | (go_at_call 131; refine (HM _).mono ?_; rintro e w' ⟨rfl, rfl⟩))
      exact bodyPost_ret (v := .agg #[.int .i64 0, .int .i64 0]) (by simp [results, Tryz.results81, go_sem]) rfl ⟨rfl, (Below.refl _ w).alloc (Nat.le_refl _) _⟩
    · rw [wkind_num h1 h2, if_pos (by simp)]
      rw [h1] at HN
      rw [h2] at HM
      clear h1 h2
      go_enter Tryz.func81, Tryz.ntmps81
      go_wp2_with (first | (go_at_call 124; refine (HS _).mono ?_; rintro e w' ⟨rfl, rfl⟩) | (go_at_call 130; refine (HN _).mono ?_; rintro e w' ⟨rfl, rfl⟩) | (go_at_call 131; refine (HM _).mono ?_; rintro e w' ⟨rfl, rfl⟩))
      exact bodyPost_ret (v := .agg #[.int .i64 2, .int .i64 (n : Int)]) (by simp [results, Tryz.results81, go_sem]) rfl ⟨rfl, (Below.refl _ w).alloc (Nat.le_refl _) _⟩
  · rw [wkind_name h1, if_pos (by simp)]
    rw [h1] at HN
    clear h1 HM
    go_enter Tryz.func81, Tryz.ntmps81
    go_wp2_with (first | (go_at_call 124; refine (HS _).mono ?_; rintro e w' ⟨rfl, rfl⟩) | (go_at_call 130; refine (HN _).mono ?_; rintro e w' ⟨rfl, rfl⟩))
    exact bodyPost_ret (v := .agg #[.int .i64 1, .int .i64 (n : Int)]) (by simp [results, Tryz.results81, go_sem]) rfl ⟨rfl, (Below.refl _ w).alloc (Nat.le_refl _) _⟩

def strV (l : By) : Value := .string ⟨l.toArray⟩
def Vars (w : World) : Prop := ∃ t fr, w.heap[0]? = some (.cells (tabS.map strV).toArray t fr)
theorem Vars.keep {w w' : World} (h : Vars w) (hb : Below w.heap.size w w') : Vars w' := by
  obtain ⟨t, fr, h⟩ := h
  refine ⟨t, fr, ?_⟩
  have hlt : 0 < w.heap.size := by
    rcases Nat.lt_or_ge 0 w.heap.size with h' | h'
    · exact h'
    · rw [Array.getElem?_eq_none h'] at h; cases h
  rw [hb.block _ hlt]
  exact h
theorem tab_len : tabS.length = 23 := rfl
theorem tab_ix (k : Nat) (hk : k < 23) (w : World) : (Instr.index 190 (.agg (tabS.map strV).toArray) (.int .i64 (k : Int))).run Tryz.prog w = .ok (.string ⟨(tabS.getD k []).toArray⟩) w := by
  rcases (by omega : k = 0 ∨ k = 1 ∨ k = 2 ∨ k = 3 ∨ k = 4 ∨ k = 5 ∨ k = 6 ∨ k = 7 ∨ k = 8 ∨ k = 9 ∨ k = 10 ∨ k = 11 ∨ k = 12 ∨ k = 13 ∨ k = 14 ∨ k = 15 ∨ k = 16 ∨ k = 17 ∨ k = 18 ∨ k = 19 ∨ k = 20 ∨ k = 21 ∨ k = 22) with rfl | rfl | rfl | rfl | rfl | rfl | rfl | rfl | rfl | rfl | rfl | rfl | rfl | rfl | rfl | rfl | rfl | rfl | rfl | rfl | rfl | rfl | rfl <;> kernel_rfl
theorem from_drop {t : List By} {k : Nat} {s : By} (h : t[k]? = some s) (l : By) : sgnFrom (t.drop k) l = if s.isPrefixOf l then s.length else sgnFrom (t.drop (k + 1)) l := by
  have hk := get_lt h
  have e : t[k] = s := (List.getElem?_eq_some_iff.1 h).2
  rw [List.drop_eq_getElem_cons hk, e]
  rfl

end Lx
end Go.Proofs.YtggeepimihhpjaaGreatDoor

namespace Go.Proofs.YtggeepimihhpjaaGreatDoor
open Go.RowKit Sl Fr
namespace Lx
set_option linter.unusedVariables false

theorem tab_get {k : Nat} (hk : k < 23) : tabS[k]? = some (tabS.getD k []) := by
  rw [List.getD_eq_getElem?_getD, List.getElem?_eq_getElem (by rw [tab_len]; exact hk)]
  rfl
def sgnR (R : Nat) : Nat × Nat := if R ≠ 0 then (3, R) else (0, 0)
def SgnAt (s : ByteArray) (R : Nat) (i : Value) : Prop := ∃ k : Nat, k ≤ 23 ∧ i = .int .i64 (k : Int) ∧ sgnFrom (tabS.drop k) (bys s) = R
set_option maxHeartbeats 1000000 in
theorem sign_any (s : ByteArray) (w : World) (hv : Vars w) : Calls Tryz.prog 82 #[.string s] w (GiveP (signP (bys s)) w) := by
  obtain ⟨t, fr, hg⟩ := hv.keep ((Below.refl _ w).alloc (Nat.le_refl _) (.cells #[.int .i64 0, .int .i64 0] 105))
  have HG := Lib.hid hg
  clear hg
  rw [show signP (bys s) = sgnR (sgn (bys s)) by rfl, ← sgn_tab]
  have HR : ∀ R, sgnFrom tabS (bys s) = R → Calls Tryz.prog 82 #[.string s] w (GiveP (sgnR R) w) := by
    intro R hR
    have HH : Hid (sgnFrom (tabS.drop 0) (bys s) = R) := Lib.hid hR
    clear hR
    go_enter Tryz.func82, Tryz.ntmps82
    go_wp2_with (refine wpList_load_row rfl 190 _ rfl 0 rfl t _ fr _ HG.out Tryz.underlying190 rfl (by kernel_rfl) ?_)
    clear HG
    go_loop [6] (SgnAt s R) (fun i => (23 - intOf i).toNat)
    case atStart => exact ⟨0, by omega, rfl, HH.out⟩
    case round =>
      obtain ⟨k, hk, rfl, hr⟩ := hrel
      have HK := Lib.hid hr
      clear hr HH
      by_cases h7 : k < 23
      · have HI := fun W => tab_ix k h7 W
        have h1 : decide ((k : Int) < 23) = true := by simp; omega
        have HF : Hid (tabS[k]? = some (tabS.getD k [])) := Lib.hid (tab_get h7)
        have hne : (tabS.getD k []).length ≠ 0 := by
          have : ∀ j, j < 23 → (tabS.getD j []).length ≠ 0 := by decide
          exact this k h7
        generalize tabS.getD k [] = p at *
        have HP := fun w => prefix_any s ⟨p.toArray⟩ w
        rw [show bys (⟨p.toArray⟩ : ByteArray) = p by simp [bys]] at HP
        have hsz : (⟨p.toArray⟩ : ByteArray).size = p.length := by simp [ByteArray.size]
        cases hp : p.isPrefixOf (bys s)
        · rw [hp] at HP
          have HPP := Lib.hid hp
          clear hp hsz hne
          go_wp2_with (go_at_call 123; refine (HP _).mono ?_; rintro e w' ⟨rfl, rfl⟩)
          exact ⟨⟨k + 1, by omega, by go_num, by have := HK.out; rw [from_drop HF.out, if_neg (by simp [HPP.out])] at this; exact this⟩, by simp [intOf]; omega⟩
        · rw [hp] at HP
          have HPP := Lib.hid hp
          have hlen : p.length = R := by have := HK.out; rw [from_drop HF.out, if_pos HPP.out] at this; exact this
          have HN := Lib.hid hne
          have HL := Lib.hid hlen
          have HZ := Lib.hid hsz
          clear hp hsz hne hlen
          go_wp2_with (go_at_call 123; refine (HP _).mono ?_; rintro e w' ⟨rfl, rfl⟩)
          rw [show sgnR R = (3, R) from if_pos (by have := HN.out; have := HL.out; omega)]
          exact bodyPost_ret (v := .agg #[.int .i64 3, .int .i64 (R : Int)]) (by simp [results, Tryz.results82, go_sem, HL.out]) rfl ⟨rfl, (Below.refl _ w).alloc (Nat.le_refl _) _⟩
      · obtain rfl : k = 23 := by omega
        have h1 : decide (((23 : Nat) : Int) < 23) = false := by decide
        have : R = 0 := HK.out.symm.trans rfl
        subst this
        go_wp2_with fail
        rw [show sgnR 0 = (0, 0) from rfl]
        exact bodyPost_ret (v := .agg #[.int .i64 0, .int .i64 0]) (by simp [results, Tryz.results82, go_sem]) rfl ⟨rfl, (Below.refl _ w).alloc (Nat.le_refl _) _⟩
  exact HR _ rfl

end Lx
end Go.Proofs.YtggeepimihhpjaaGreatDoor
