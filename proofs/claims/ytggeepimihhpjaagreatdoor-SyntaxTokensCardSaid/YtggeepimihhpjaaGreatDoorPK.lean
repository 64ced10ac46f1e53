/- expr at every depth. exprBehind; items in memory. -/
import Derived.Test.YtggeepimihhpjaaGreatDoorPI
import Derived.Deep.WholeRow
namespace Go.Proofs.YtggeepimihhpjaaGreatDoor
open Go.RowKit Go.Shelf Sl Fr Lx
namespace Sy
theorem exp_all : ∀ m : Nat, m ≤ 11 → ExpI (m + 1)
  | 0, _ => fun n pb l w h => expr_one n pb l w h
  | m + 1, hm => by
    have IE := exp_all m (by omega)
    exact fun n pb l w h => expr_step n pb l m (m + 2) (m + 1) rfl rfl (by omega) IE (fun n pb l w h => operation_any n pb l (m + 1) IE w h) (fun n pb l w h => resized_any n pb l (m + 1) IE w h) w h
theorem expr_eight : ExpI 8 := exp_all 7 (by omega)
end Sy
end Go.Proofs.YtggeepimihhpjaaGreatDoor

namespace Go.Proofs.YtggeepimihhpjaaGreatDoor
open Go.RowKit Go.Shelf Sl Fr Lx
namespace Sy
set_option linter.unusedVariables false
set_option linter.unusedSimpArgs false
theorem expr8 (n pb : Nat) (l : List Tk) (w : World) (h : PX n pb l w) : Calls Tryz.prog 164 #[.pointer (some ⟨pb, 0, none⟩), .int .i64 8] w (Gives n pb l (exprP 8) (ExprV w) w) := expr_eight n pb l w h

set_option maxRecDepth 100000 in
set_option maxHeartbeats 2000000 in
theorem exprBehind_any (n pb : Nat) (l : List Tk) (z : ByteArray) (hz : bys z ≠ []) (w : World) (h : PX n pb l w) :
    Calls Tryz.prog 136 #[.pointer (some ⟨pb, 0, none⟩), .string z] w (Gives n pb l (behind (bys z) (exprP 8)) (ExprV w) w) := by
  have HE8 := Lib.hid (expr8 n pb)
  have hlt0 := h.lt
  obtain ⟨m0, bA⟩ := start1 w #[.int .i64 0, .string ⟨#[]⟩, .int .i64 0, .string ⟨#[]⟩, .int .i64 0, .string ⟨#[]⟩, .slice none 0 0] 63
  have hX := h.below bA
  have hgX : w.grownBy _ (some pb) := gb bA
  have nb0 : some w.heap.size ≠ some pb := fun e => by injection e with e; omega
  have HB0 := Lib.hid (Nat.le_refl w.heap.size)
  have HN0 := Lib.hid h.room
  go_enter Tryz.func136, Tryz.ntmps136
  go_upto_region 1 with fail
  generalize w.alloc (.cells #[.int .i64 0, .string ⟨#[]⟩, .int .i64 0, .string ⟨#[]⟩, .int .i64 0, .string ⟨#[]⟩, .slice none 0 0] 63) = X at *
  obtain ⟨b0, hb0⟩ : ∃ b, b = w.heap.size := ⟨_, rfl⟩
  rw [← hb0] at m0 nb0 HN0 ⊢
  have HE0 := Lib.hid hb0
  have HX := Lib.hid hX
  have HM0 := Lib.hid m0
  have HGX := Lib.hid hgX
  have HM := Lib.hid (show behind (bys z) (exprP 8) l = (expect (bys z) >>= fun _ => exprP 8) l from rfl)
  clear h bA hX m0 hgX hlt0 hb0
  cases hm1 : expect (bys z) l with
  | no a =>
    have HMM := Lib.hid (HM.out.trans (bind_no hm1))
    have HC1 := Lib.hid (fun W (hW : PX n pb l W) => rd_no (expect_any n pb l z W hW.ps hz) hm1)
    clear hm1
    go_wp2_with (go_at_call 138; with_reducible refine (HC1.out _ HX.out).mono ?_; rintro e w1 ⟨rfl, hg1⟩)
    exact ⟨rfl, Gives.of_no HMM.out ((HGX.out).trans hg1)⟩
  | ok u1 l1 =>
    have HM1 := Lib.hid (HM.out.trans (bind_ok hm1))
    have HC1 := Lib.hid (fun W (hW : PX n pb l W) => rd_is (g := fun _ : Unit => Value.tuple #[]) (expect_any n pb l z W hW.ps hz) hW hm1)
    clear hm1 HM
    cases hm2 : exprP 8 l1 with
    | no a =>
      have HMM := Lib.hid (HM1.out.trans hm2)
      have HC2 := Lib.hid (fun W (hW : PX n pb l1 W) => rd_no (HE8.out l1 W hW) hm2)
      clear hm2
      go_wp2_with (first
        | (go_at_call 138; with_reducible refine (HC1.out _ HX.out).mono ?_; rintro e w1 ⟨rfl, hx1, hg1⟩; have mR1 := (HM0.out).grown hg1 nb0)
        | (go_at_call 164; with_reducible refine (HC2.out _ hx1).mono ?_; rintro e w2 ⟨rfl, hg2⟩))
      exact ⟨rfl, Gives.of_no HMM.out ((((HGX.out).trans hg1)).trans hg2)⟩
    | ok a2 l2 =>
      have HM2 := Lib.hid (HM1.out.trans hm2)
      have HC2 := Lib.hid (fun W (hW : PX n pb l1 W) => rd_ok (HE8.out l1 W hW) hW hm2)
      clear hm2 HM1
      go_wp2_with (first
        | (go_at_call 138; with_reducible refine (HC1.out _ HX.out).mono ?_; rintro e w1 ⟨rfl, hx1, hg1⟩; have mR1 := (HM0.out).grown hg1 nb0)
        | (go_at_call 164; refine (HC2.out _ hx1).mono ?_; rintro e w2 ⟨_, rfl, ⟨A2, c2, rfl, hv2⟩, hx2, hg2⟩; have mR2 := (mR1).grown hg2 nb0; have hV2 := (((HGX.out).trans hg1)).size; have hR2 := (mR1).lt; have hP2 := (hx1).lt; obtain ⟨cR0, cR1, cR2, cR3, cR4, cR5, cR6⟩ := (mR2).c7; obtain ⟨fR0, fR1, fR2, fR3, fR4, fR5, fR6⟩ := (mR2).f7))
      have q := (mR2).s7 (.int .i64 a2.op) (.string ⟨a2.nm.toArray⟩) (.int .i64 a2.k.n) (.string ⟨a2.k.p.toArray⟩) (.int .i64 a2.w.n) (.string ⟨a2.w.p.toArray⟩) (.slice A2 a2.args.length c2)
      obtain ⟨s0, s1, s2, s3, s4, s5, s6⟩ := q.c7
      exact bodyPost_ret (v := .agg #[.int .i64 a2.op, .string ⟨a2.nm.toArray⟩, .int .i64 a2.k.n, .string ⟨a2.k.p.toArray⟩, .int .i64 a2.w.n, .string ⟨a2.w.p.toArray⟩, .slice A2 a2.args.length c2]) (by simp [results, Tryz.results136, go_sem, s0, s1, s2, s3, s4, s5, s6]) rfl (give_box [.int .i64 a2.op, .string ⟨a2.nm.toArray⟩, .int .i64 a2.k.n, .string ⟨a2.k.p.toArray⟩, .int .i64 a2.w.n, .string ⟨a2.w.p.toArray⟩, .slice A2 a2.args.length c2] HM2.out (exprV_pass hv2 hV2 hR2 _) hx2 HN0.out (((((HGX.out).trans hg1)).trans hg2)) (Nat.le_of_eq HE0.out.symm))

structure BoxO (W : World) (b : Nat) (z : Array Value) (T : TypeId) : Prop where
  h : W.heap[b]? = some (.cells z T (0, 0))
section
variable {W W' : World} {b : Nat} {z : Array Value} {T : TypeId}
theorem BoxO.lt (h : BoxO W b z T) : b < W.heap.size := (Array.getElem?_eq_some_iff.1 h.h).1
theorem BoxO.grown {row : Option Nat} (h : BoxO W b z T) (hg : W.grownBy W' row) (ne : some b ≠ row) : BoxO W' b z T := ⟨(hg.block b h.lt ne).trans h.h⟩
theorem BoxO.keep (h : BoxO W b z T) (hb : Below W.heap.size W W') : BoxO W' b z T := h.grown (grown_below hb) (fun e => by cases e)
theorem startO (w : World) (z : Array Value) (T : TypeId) : BoxO (w.alloc (.cells z T)) w.heap.size z T ∧ Below w.heap.size w (w.alloc (.cells z T)) := ⟨⟨heap_alloc_last w _⟩, (Below.refl _ w).alloc (Nat.le_refl _) _⟩
theorem grown_setRow (W : World) (b : Nat) (z : Array Value) : W.grownBy (W.setRow b z) (some b) := ⟨rfl, rfl, rfl, by simp, fun k _ hk => setRow_other W b k z (fun e => hk (by rw [e]))⟩
theorem BoxO.set (h : BoxO W b z T) (z' : Array Value) : BoxO (W.setRow b z') b z' T := ⟨setRow_heap W b z z' T (0, 0) h.h⟩
theorem wpList_store_row {P : Program} {ops : Array Oper} {rest : List Oper} {op : Oper} {a : Act} {Q : Exit → Act → World → Prop} (h0 : BoxO W b z T) (hgd : op.guard = none) (x y : Operand) (ho : op.op = .store T x y) (c' : Array Value)
    (hx : a.eval x = .pointer (some ⟨b, 0, none⟩)) (hy : a.eval y = .agg c') (hi : (P.info? T).map (·.size) = some c'.size) (hs : z.size = c'.size) (h1 : c'.all (·.oneCell') = true)
    (h : wpList P ops Q rest (a.put op.dst undef) (W.setRow b c')) : wpList P ops Q (op :: rest) a W :=
  wpList_plain hgd fun _ hK => by
    unfold Oper.wp execOp
    simp only [ho, hx, hy, Instr.storeAt, Instr.sureAddr, Sem.run_bind, Sem.run_pure, Result.andThen_ok, run_storeVar_row W b T T z c' h0.h hi hs h1]
    exact hK _ _ h
end
def iC (i : ItemT) (Aa : Option Addr) (ca : Nat) (Ab : Option Addr) (cb : Nat) (Ac : Option Addr) (cc : Nat) (An : Option Addr) (cn : Nat) (Ap : Option Addr) (cp : Nat) : Array Value :=
  #[.int .i64 i.kind, .string ⟨i.name.toArray⟩, .int .i64 i.width.n, .string ⟨i.width.p.toArray⟩, .int .i64 i.depth.n, .string ⟨i.depth.p.toArray⟩, .int .i64 i.init.n, .string ⟨i.init.p.toArray⟩,
    .int .i64 i.a.op, .string ⟨i.a.nm.toArray⟩, .int .i64 i.a.k.n, .string ⟨i.a.k.p.toArray⟩, .int .i64 i.a.w.n, .string ⟨i.a.w.p.toArray⟩, .slice Aa i.a.args.length ca,
    .int .i64 i.b.op, .string ⟨i.b.nm.toArray⟩, .int .i64 i.b.k.n, .string ⟨i.b.k.p.toArray⟩, .int .i64 i.b.w.n, .string ⟨i.b.w.p.toArray⟩, .slice Ab i.b.args.length cb,
    .int .i64 i.c.op, .string ⟨i.c.nm.toArray⟩, .int .i64 i.c.k.n, .string ⟨i.c.k.p.toArray⟩, .int .i64 i.c.w.n, .string ⟨i.c.w.p.toArray⟩, .slice Ac i.c.args.length cc,
    .int .i64 i.rule.kind, .string ⟨i.rule.from_.toArray⟩, .int .i64 i.rule.n, .string ⟨i.of_.toArray⟩, .slice An i.args.length cn, .slice Ap i.ports.length cp]
def numsC (l : List NumT) : List Value := l.flatMap fun x => [.int .i64 x.n, .string ⟨x.p.toArray⟩]
def bindsC (l : List BindT) : List Value := l.flatMap fun x => [.string ⟨x.port.toArray⟩, .string ⟨x.chan.toArray⟩]
def strsC (l : List By) : List Value := l.map fun x => .string ⟨x.toArray⟩
def FR (w : World) (S : Nat → Prop) (A : Option Addr) (cs : List Value) : Prop := cs ≠ [] → ∃ b o, A = some ⟨b, o, none⟩ ∧ S b ∧ b < w.heap.size ∧ ∀ j u, cs[j]? = some u → w.cell? ⟨b, o + j, none⟩ = some u
theorem FR.grown {w w' : World} {S : Nat → Prop} {A : Option Addr} {cs : List Value} {row : Option Nat} (h : FR w S A cs) (hg : w.grownBy w' row) (hr : ∀ g, row = some g → ¬ S g) : FR w' S A cs := fun hne => by
  obtain ⟨b, o, h1, h2, h3, h4⟩ := h hne
  exact ⟨b, o, h1, h2, Nat.lt_of_lt_of_le h3 hg.size, fun j u hj => (hg.cell_far ⟨b, o + j, none⟩ h3 (fun e => hr b e.symm h2)).trans (h4 j u hj)⟩
theorem FR.mono {w : World} {S S' : Nat → Prop} {A : Option Addr} {cs : List Value} (h : FR w S A cs) (hs : ∀ b, S b → S' b) : FR w S' A cs := fun hne => by
  obtain ⟨b, o, h1, h2, h3, h4⟩ := h hne
  exact ⟨b, o, h1, hs b h2, h3, h4⟩
def IR (w : World) (S : Nat → Prop) (i : ItemT) (cs : Array Value) : Prop := ∃ Aa ca Ab cb Ac cc An cn Ap cp, cs = iC i Aa ca Ab cb Ac cc An cn Ap cp ∧ ER w S i.a (eC i.a Aa ca) ∧ ER w S i.b (eC i.b Ab cb) ∧ ER w S i.c (eC i.c Ac cc) ∧ i.args.length ≤ cn ∧ FR w S An (numsC i.args) ∧ i.ports.length ≤ cp ∧ FR w S Ap (bindsC i.ports)
theorem IR.grown {w w' : World} {S : Nat → Prop} {i : ItemT} {cs : Array Value} {row : Option Nat} (h : IR w S i cs) (hg : w.grownBy w' row) (hr : ∀ g, row = some g → ¬ S g) : IR w' S i cs := by
  obtain ⟨Aa, ca, Ab, cb, Ac, cc, An, cn, Ap, cp, h1, h2, h3, h4, h5, h6, h7, h8⟩ := h
  exact ⟨Aa, ca, Ab, cb, Ac, cc, An, cn, Ap, cp, h1, ER.grown hg hr _ _ h2, ER.grown hg hr _ _ h3, ER.grown hg hr _ _ h4, h5, h6.grown hg hr, h7, h8.grown hg hr⟩
theorem IR.mono {w : World} {S S' : Nat → Prop} {i : ItemT} {cs : Array Value} (h : IR w S i cs) (hs : ∀ b, S b → S' b) : IR w S' i cs := by
  obtain ⟨Aa, ca, Ab, cb, Ac, cc, An, cn, Ap, cp, h1, h2, h3, h4, h5, h6, h7, h8⟩ := h
  exact ⟨Aa, ca, Ab, cb, Ac, cc, An, cn, Ap, cp, h1, ER.mono hs _ _ h2, ER.mono hs _ _ h3, ER.mono hs _ _ h4, h5, h6.mono hs, h7, h8.mono hs⟩
def ItemV (w : World) : ItemT → World → Value → Prop := fun i w' v => ∃ cs, v = .agg cs ∧ IR w' (Fresh w) i cs
theorem ER.zero {w : World} {S : Nat → Prop} : ER w S expr0 (eC expr0 none 0) := ER.leaf 0 [] num0 num0
theorem itemV_of {w w' : World} (i : ItemT) {Aa : Option Addr} {ca : Nat} {Ab : Option Addr} {cb : Nat} {Ac : Option Addr} {cc : Nat} (h1 : i.args = []) (h2 : i.ports = []) (ha : ER w' (Fresh w) i.a (eC i.a Aa ca)) (hb : ER w' (Fresh w) i.b (eC i.b Ab cb)) (hc : ER w' (Fresh w) i.c (eC i.c Ac cc)) :
    ItemV w i w' (.agg (iC i Aa ca Ab cb Ac cc none 0 none 0)) :=
  ⟨_, rfl, Aa, ca, Ab, cb, Ac, cc, none, 0, none, 0, rfl, ha, hb, hc, by rw [h1]; exact Nat.le_refl _, fun h => absurd (by rw [h1]; rfl) h, by rw [h2]; exact Nat.le_refl _, fun h => absurd (by rw [h2]; rfl) h⟩
theorem er_fin {w W : World} {e : ExprT} {cs : List Value} {lo hi b0 : Nat} (z : Array Value) (h : ER W (Btw lo hi) e cs) (h1 : w.heap.size ≤ lo) (h2 : b0 < lo) : ER (W.setRow b0 z) (Fresh w) e cs :=
  ER.mono (fun b hb => Nat.le_trans h1 hb.1) _ _ (ER.grown (grown_setRow W b0 z) (fun g hg hf => by injection hg with hg; have := hf.1; omega) _ _ h)
theorem give_row {α : Type} {n pb b : Nat} {l r : List Tk} {m : PM α} {V : α → World → Value → Prop} {w W : World} {x : α} (z : Array Value) (hm : m l = .ok x r) (hV : V x (W.setRow b z) (.agg z)) (hx : PX n pb r W) (hb : n ≤ b) (hg : w.grownBy W (some pb)) (hw : w.heap.size ≤ b) :
    Gives n pb l m V w (.returned (.agg z)) (W.setRow b z) := Gives.of_ok hm hV (hx.grown (grown_setRow W b z) (fun g e => by injection e with e; omega)).ps (grown_row hg (grown_setRow W b z) (fun g e => by injection e with e; omega))

end Sy
end Go.Proofs.YtggeepimihhpjaaGreatDoor
