/- instance. -/
import Derived.Test.YtggeepimihhpjaaGreatDoorPQ
namespace Go.Proofs.YtggeepimihhpjaaGreatDoor
open Go.RowKit Go.Shelf Sl Fr Lx
namespace Sy
set_option linter.unusedVariables false
set_option linter.unusedSimpArgs false

theorem start2O (w : World) (x : Array Value) (T0 : TypeId) (z : Array Value) (T : TypeId) : BoxL ((w.alloc (.cells x T0)).alloc (.cells z T)) w.heap.size x ∧ BoxO ((w.alloc (.cells x T0)).alloc (.cells z T)) (w.heap.size + 1) z T ∧ Below w.heap.size w ((w.alloc (.cells x T0)).alloc (.cells z T)) :=
  ⟨(BoxL.new w x T0).keep ((Below.refl _ _).alloc (Nat.le_refl _) _), by have := (startO (w.alloc (.cells x T0)) z T).1; rwa [World.size_alloc] at this, ((Below.refl _ w).alloc (Nat.le_refl _) _).alloc (by simp) _⟩
theorem wpList_load_row {P : Program} {W : World} {b : Nat} {z : Array Value} {T : TypeId} {ops : Array Oper} {rest : List Oper} {op : Oper} {a : Act} {Q : Exit → Act → World → Prop} (h0 : BoxO W b z T) (hgd : op.guard = none) (x : Operand) (ho : op.op = .load T x)
    (hx : a.eval x = .pointer (some ⟨b, 0, none⟩)) (d : TypeDesc) (hu : P.underlying T = some d) (hd : (match d with | .struct _ | .array _ _ => true | _ => false) = true) (hi : (P.info? T).map (·.size) = some z.size)
    (h : wpList P ops Q rest (a.put op.dst (.agg z)) W) : wpList P ops Q (op :: rest) a W :=
  wpList_plain hgd fun _ hK => by
    unfold Oper.wp execOp
    simp only [ho, hx, Instr.loadAt, Instr.sureAddr, Sem.run_bind, Sem.run_pure, Result.andThen_ok, run_loadVar_row W b T T z (0, 0) d h0.h hu hd hi]
    exact hK _ _ h
theorem alloc_item {o : Oper} (ho : o.op = .alloc 69) (ev : Operand → Value) (w : World) : (execOp ev o).run Tryz.prog w = .ok (.value (.pointer (some ⟨w.heap.size, 0, none⟩))) (w.alloc (.cells #[.int .i64 0, .string ⟨#[]⟩, .int .i64 0, .string ⟨#[]⟩, .int .i64 0, .string ⟨#[]⟩, .int .i64 0, .string ⟨#[]⟩, .int .i64 0, .string ⟨#[]⟩, .int .i64 0, .string ⟨#[]⟩, .int .i64 0, .string ⟨#[]⟩, .slice none 0 0, .int .i64 0, .string ⟨#[]⟩, .int .i64 0, .string ⟨#[]⟩, .int .i64 0, .string ⟨#[]⟩, .slice none 0 0, .int .i64 0, .string ⟨#[]⟩, .int .i64 0, .string ⟨#[]⟩, .int .i64 0, .string ⟨#[]⟩, .slice none 0 0, .int .i64 0, .string ⟨#[]⟩, .int .i64 0, .string ⟨#[]⟩, .slice none 0 0, .slice none 0 0] 69)) := by
  unfold execOp
  rw [ho]
  go_simp
theorem wpList_new_item {ops : Array Oper} {rest : List Oper} {o1 o2 : Oper} {a : Act} {w : World} {Q : Exit → Act → World → Prop} (hg1 : o1.guard = none) (hg2 : o2.guard = none) (h1 : o1.op = .alloc 69) (x y : Operand) (h2 : o2.op = .store 69 x y) (c' : Array Value)
    (hx : (a.put o1.dst (.pointer (some ⟨w.heap.size, 0, none⟩))).eval x = .pointer (some ⟨w.heap.size, 0, none⟩)) (hy : (a.put o1.dst (.pointer (some ⟨w.heap.size, 0, none⟩))).eval y = .agg c') (hi : (Tryz.prog.info? 69).map (·.size) = some c'.size) (hs : c'.size = 35) (ho : c'.all (·.oneCell') = true)
    (h : ∀ W b, b = w.heap.size → BoxO W b c' 69 → Below w.heap.size w W → wpList Tryz.prog ops Q rest ((a.put o1.dst (.pointer (some ⟨b, 0, none⟩))).put o2.dst undef) W) : wpList Tryz.prog ops Q (o1 :: o2 :: rest) a w :=
  wpList_plain hg1 fun _ hK => by
    unfold Oper.wp
    rw [alloc_item h1]
    refine hK _ _ (wpList_plain hg2 fun _ hK2 => ?_)
    unfold Oper.wp execOp
    simp only [h2, hx, hy, Instr.storeAt, Instr.sureAddr, Sem.run_bind, Sem.run_pure, Result.andThen_ok, run_storeVar_new w 69 #[.int .i64 0, .string ⟨#[]⟩, .int .i64 0, .string ⟨#[]⟩, .int .i64 0, .string ⟨#[]⟩, .int .i64 0, .string ⟨#[]⟩, .int .i64 0, .string ⟨#[]⟩, .int .i64 0, .string ⟨#[]⟩, .int .i64 0, .string ⟨#[]⟩, .slice none 0 0, .int .i64 0, .string ⟨#[]⟩, .int .i64 0, .string ⟨#[]⟩, .int .i64 0, .string ⟨#[]⟩, .slice none 0 0, .int .i64 0, .string ⟨#[]⟩, .int .i64 0, .string ⟨#[]⟩, .int .i64 0, .string ⟨#[]⟩, .slice none 0 0, .int .i64 0, .string ⟨#[]⟩, .int .i64 0, .string ⟨#[]⟩, .slice none 0 0, .slice none 0 0] c' hi (by rw [hs]; rfl) ho]
    exact hK2 _ _ (h _ _ rfl (startO w c' 69).1 (startO w c' 69).2)
theorem row_form {W : World} {base : Nat} {e : TypeId} {k : Nat} {v : Value} {m : Nat} {vs : List Value} (h : W.ownsRow base e k v m vs) : ∃ A c, v = .slice A m c ∧ m ≤ c ∧ FR W (fun b => base ≤ b) A vs := by
  rcases h.2 with ⟨rfl, h0⟩ | ⟨g, cap, cur, rfl, h2, h3, h4, h5, h6, h7⟩
  · subst h0
    exact ⟨none, 0, rfl, Nat.le_refl _, fun hne => absurd (List.eq_nil_of_length_eq_zero (by have := h.1; omega)) hne⟩
  · refine ⟨some ⟨g, 0, none⟩, cap, rfl, h4, fun hne => ⟨g, 0, rfl, h2, (Array.getElem?_eq_some_iff.1 h3).1, fun j u hj => ?_⟩⟩
    rw [Nat.zero_add, h.cellAt j (by have := (List.getElem?_eq_some_iff.1 hj).1; rw [h.1] at this; exact this)]
    exact hj

set_option maxRecDepth 100000 in
set_option maxHeartbeats 4000000 in
theorem instance_any (n pb : Nat) (l : List Tk) (w : World) (h : PX n pb l w) :
    Calls Tryz.prog 94 #[.pointer (some ⟨pb, 0, none⟩)] w (Gives n pb l instP (ItemV w) w) := by
  have hmf : ∀ (fn : Fn) (first cap : Array Value) (w : World), (Instr.makeFunc fn first cap).run Tryz.prog w = .ok (.func fn first cap) w := fun _ _ _ _ => rfl
  have hlt0 := h.lt
  have hrm := h.room
  obtain ⟨m2, mR, bA⟩ := start2O w #[.pointer (some ⟨pb, 0, none⟩)] 112 #[.int .i64 0, .string ⟨#[]⟩, .int .i64 0, .string ⟨#[]⟩, .int .i64 0, .string ⟨#[]⟩, .int .i64 0, .string ⟨#[]⟩, .int .i64 0, .string ⟨#[]⟩, .int .i64 0, .string ⟨#[]⟩, .int .i64 0, .string ⟨#[]⟩, .slice none 0 0, .int .i64 0, .string ⟨#[]⟩, .int .i64 0, .string ⟨#[]⟩, .int .i64 0, .string ⟨#[]⟩, .slice none 0 0, .int .i64 0, .string ⟨#[]⟩, .int .i64 0, .string ⟨#[]⟩, .int .i64 0, .string ⟨#[]⟩, .slice none 0 0, .int .i64 0, .string ⟨#[]⟩, .int .i64 0, .string ⟨#[]⟩, .slice none 0 0, .slice none 0 0] 69
  have hX := h.below bA
  have hgX : w.grownBy _ (some pb) := gb bA
  go_enter Tryz.func94, Tryz.ntmps94
  go_upto_region 1 with fail
  generalize (w.alloc (.cells #[.pointer (some ⟨pb, 0, none⟩)] 112)).alloc (.cells #[.int .i64 0, .string ⟨#[]⟩, .int .i64 0, .string ⟨#[]⟩, .int .i64 0, .string ⟨#[]⟩, .int .i64 0, .string ⟨#[]⟩, .int .i64 0, .string ⟨#[]⟩, .int .i64 0, .string ⟨#[]⟩, .int .i64 0, .string ⟨#[]⟩, .slice none 0 0, .int .i64 0, .string ⟨#[]⟩, .int .i64 0, .string ⟨#[]⟩, .int .i64 0, .string ⟨#[]⟩, .slice none 0 0, .int .i64 0, .string ⟨#[]⟩, .int .i64 0, .string ⟨#[]⟩, .int .i64 0, .string ⟨#[]⟩, .slice none 0 0, .int .i64 0, .string ⟨#[]⟩, .int .i64 0, .string ⟨#[]⟩, .slice none 0 0, .slice none 0 0] 69) = X at *
  obtain ⟨a2, ha2⟩ : ∃ b, b = w.heap.size := ⟨_, rfl⟩
  rw [← ha2] at m2 mR ⊢
  have hw2 : w.heap.size ≤ a2 := Nat.le_of_eq ha2.symm
  have HX := Lib.hid hX
  have HG := Lib.hid hgX
  have H2 := Lib.hid m2
  have HR := Lib.hid mR
  have n2 : some a2 ≠ some pb := fun e => by injection e; omega
  have nR : some (a2 + 1) ≠ some pb := fun e => by injection e; omega
  have HM := Lib.hid (congrFun instP.eq_1 l)
  clear h bA hX hgX m2 mR ha2
  cases hm1 : nameP l with
  | no a =>
    have HMM := Lib.hid (HM.out.trans (bind_no hm1))
    have HC1 := Lib.hid (fun W (hW : PX n pb l W) => rd_no (name_any n pb l W hW.ps) hm1)
    clear hm1
    have c2 := H2.out.c1
    go_wp2_with (go_at_call 133; with_reducible refine (HC1.out _ HX.out).mono ?_; rintro e w1 ⟨rfl, hg1⟩)
    exact ⟨rfl, Gives.of_no HMM.out (HG.out.trans hg1)⟩
  | ok x1 l1 =>
    have HM1 := Lib.hid (HM.out.trans (bind_ok hm1))
    have HC1 := Lib.hid (fun W (hW : PX n pb l W) => rd_is (g := fun x : By => .string ⟨x.toArray⟩) (name_any n pb l W hW.ps) hW hm1)
    clear hm1 HM
    have c2 := H2.out.c1
    go_upto_region 2 with (first
      | (refine wpList_new_item rfl rfl rfl _ _ rfl #[.int .i64 9, .string ⟨x1.toArray⟩, .int .i64 0, .string ⟨#[]⟩, .int .i64 0, .string ⟨#[]⟩, .int .i64 0, .string ⟨#[]⟩, .int .i64 0, .string ⟨#[]⟩, .int .i64 0, .string ⟨#[]⟩, .int .i64 0, .string ⟨#[]⟩, .slice none 0 0, .int .i64 0, .string ⟨#[]⟩, .int .i64 0, .string ⟨#[]⟩, .int .i64 0, .string ⟨#[]⟩, .slice none 0 0, .int .i64 0, .string ⟨#[]⟩, .int .i64 0, .string ⟨#[]⟩, .int .i64 0, .string ⟨#[]⟩, .slice none 0 0, .int .i64 0, .string ⟨#[]⟩, .int .i64 0, .string ⟨#[]⟩, .slice none 0 0, .slice none 0 0] rfl rfl (by kernel_rfl) rfl (by kernel_rfl) ?_; intro Y a1 ha1 mL hbY)
      | (go_at_call 133; with_reducible refine (HC1.out _ HX.out).mono ?_; rintro e w1 ⟨rfl, hx1, hg1⟩))
    have hlt2 := H2.out.lt
    have hltR := HR.out.lt
    have hs1 := hg1.size
    have m2 : BoxL Y a2 #[.pointer (some ⟨pb, 0, none⟩)] := (H2.out.grown hg1 n2).keep hbY
    have mR : BoxO Y (a2 + 1) #[.int .i64 0, .string ⟨#[]⟩, .int .i64 0, .string ⟨#[]⟩, .int .i64 0, .string ⟨#[]⟩, .int .i64 0, .string ⟨#[]⟩, .int .i64 0, .string ⟨#[]⟩, .int .i64 0, .string ⟨#[]⟩, .int .i64 0, .string ⟨#[]⟩, .slice none 0 0, .int .i64 0, .string ⟨#[]⟩, .int .i64 0, .string ⟨#[]⟩, .int .i64 0, .string ⟨#[]⟩, .slice none 0 0, .int .i64 0, .string ⟨#[]⟩, .int .i64 0, .string ⟨#[]⟩, .int .i64 0, .string ⟨#[]⟩, .slice none 0 0, .int .i64 0, .string ⟨#[]⟩, .int .i64 0, .string ⟨#[]⟩, .slice none 0 0, .slice none 0 0] 69 := (HR.out.grown hg1 nR).keep hbY
    have hxY := hx1.below hbY
    have hgY := (HG.out.trans hg1).trans (gb hbY)
    rw [← ha1] at hs1
    have hsY : a1 < Y.heap.size := mL.lt
    have HL1 := Lib.hid mL
    have H21 := Lib.hid m2
    have HR1 := Lib.hid mR
    have HX1 := Lib.hid hxY
    have HG1 := Lib.hid hgY
    have e12 : a1 ≠ a2 := by omega
    have e1p : a1 ≠ pb := by omega
    have e1R : a1 ≠ a2 + 1 := by omega
    have e1n : n ≤ a1 := by omega
    have e1w : w.heap.size ≤ a1 := by omega
    have n1 : some a1 ≠ some pb := fun e => e1p (by injection e)
    have hlt1 := hsY
    clear hbY mL m2 mR hxY hgY hx1 hg1 hs1 HC1 c2 ha1 hltR hlt2
    cases hm2 : expect s_colon l1 with
    | no a =>
      have HMM := Lib.hid (HM1.out.trans (bind_no hm2))
      have HC2 := Lib.hid (fun W (hW : PX n pb l1 W) => rd_no (expect_any n pb l1 ⟨#[58]⟩ W hW.ps (by decide)) hm2)
      clear hm2
      have c2 := H21.out.c1
      go_wp2_with (go_at_call 138; with_reducible refine (HC2.out _ HX1.out).mono ?_; rintro e w2 ⟨rfl, hg2⟩)
      exact ⟨rfl, Gives.of_no HMM.out (HG1.out.trans hg2)⟩
    | ok u2 l2 =>
      have HM2 := Lib.hid (HM1.out.trans (bind_ok hm2))
      have HC2 := Lib.hid (fun W (hW : PX n pb l1 W) => rd_is (g := fun _ : Unit => Value.tuple #[]) (expect_any n pb l1 ⟨#[58]⟩ W hW.ps (by decide)) hW hm2)
      clear hm2 HM1
      have c2 := H21.out.c1
      go_upto_region 3 with (go_at_call 138; with_reducible refine (HC2.out _ HX1.out).mono ?_; rintro e w2 ⟨rfl, hx2, hg2⟩)
      have HX2 := Lib.hid hx2
      have HG2 := Lib.hid (HG1.out.trans hg2)
      have H22 := Lib.hid (H21.out.grown hg2 n2)
      have HR2 := Lib.hid (HR1.out.grown hg2 nR)
      have HL2 := Lib.hid (HL1.out.grown hg2 n1)
      have hlt2 := hg2.size
      clear hx2 hg2 c2 HX1 HG1 H21 HR1 HL1 HC2
      cases hm3 : nameP l2 with
      | no a =>
        have HMM := Lib.hid (HM2.out.trans (bind_no hm3))
        have HC3 := Lib.hid (fun W (hW : PX n pb l2 W) => rd_no (name_any n pb l2 W hW.ps) hm3)
        clear hm3
        have c2 := H22.out.c1
        go_wp2_with (go_at_call 133; with_reducible refine (HC3.out _ HX2.out).mono ?_; rintro e w3 ⟨rfl, hg3⟩)
        exact ⟨rfl, Gives.of_no HMM.out (HG2.out.trans hg3)⟩
      | ok x3 l3 =>
        have HM3 := Lib.hid (HM2.out.trans (bind_ok hm3))
        have HC3 := Lib.hid (fun W (hW : PX n pb l2 W) => rd_is (g := fun x : By => .string ⟨x.toArray⟩) (name_any n pb l2 W hW.ps) hW hm3)
        clear hm3 HM2
        have c2 := H22.out.c1
        go_upto_region 4 with (go_at_call 133; with_reducible refine (HC3.out _ HX2.out).mono ?_; rintro e w3 ⟨rfl, hx3, hg3⟩; have c32 := (HL2.out.grown hg3 n1).cell (i := 32) rfl; have f32 := (HL2.out.grown hg3 n1).frozen 32)
        have gS := grown_set w3 a1 32 (.string ⟨x3.toArray⟩)
        have mL : BoxO (w3.setCell ⟨a1, 32, none⟩ (.string ⟨x3.toArray⟩)) a1 #[.int .i64 9, .string ⟨x1.toArray⟩, .int .i64 0, .string ⟨#[]⟩, .int .i64 0, .string ⟨#[]⟩, .int .i64 0, .string ⟨#[]⟩, .int .i64 0, .string ⟨#[]⟩, .int .i64 0, .string ⟨#[]⟩, .int .i64 0, .string ⟨#[]⟩, .slice none 0 0, .int .i64 0, .string ⟨#[]⟩, .int .i64 0, .string ⟨#[]⟩, .int .i64 0, .string ⟨#[]⟩, .slice none 0 0, .int .i64 0, .string ⟨#[]⟩, .int .i64 0, .string ⟨#[]⟩, .int .i64 0, .string ⟨#[]⟩, .slice none 0 0, .int .i64 0, .string ⟨#[]⟩, .int .i64 0, .string ⟨x3.toArray⟩, .slice none 0 0, .slice none 0 0] 69 := (HL2.out.grown hg3 n1).put 32 (.string ⟨x3.toArray⟩)
        have m2 := (H22.out.grown hg3 n2).grown gS (fun e => e12 (by injection e with e; exact e.symm))
        have mR := (HR2.out.grown hg3 nR).grown gS (fun e => e1R (by injection e with e; exact e.symm))
        have hxY := hx3.grown gS (fun g e => by injection e; omega)
        have hgY := grown_row (HG2.out.trans hg3) gS (fun g e => by injection e; omega)
        have hsY : a1 < (w3.setCell ⟨a1, 32, none⟩ (.string ⟨x3.toArray⟩)).heap.size := mL.lt
        generalize w3.setCell ⟨a1, 32, none⟩ (.string ⟨x3.toArray⟩) = Y3 at *
        have HS1 : Hid (LS w n pb a1 a2 Y3.heap.size) := Lib.hid ⟨hsY, m2.lt, hxY.lt, e1p, (fun e => n2 (by rw [e])), e12, e1n, by omega, e1w⟩
        obtain ⟨base, hbase⟩ : ∃ b, b = Y3.heap.size := ⟨_, rfl⟩
        rw [← hbase] at HS1 hsY
        have hR1 : a2 + 1 < base := by rw [hbase]; exact mR.lt
        have HX3 := Lib.hid hxY
        have HG3 := Lib.hid hgY
        have HB3 := Lib.hid hbase
        have HK1 : Hid (XK pb a1 base (fun W => BoxO W (a2 + 1) #[.int .i64 0, .string ⟨#[]⟩, .int .i64 0, .string ⟨#[]⟩, .int .i64 0, .string ⟨#[]⟩, .int .i64 0, .string ⟨#[]⟩, .int .i64 0, .string ⟨#[]⟩, .int .i64 0, .string ⟨#[]⟩, .int .i64 0, .string ⟨#[]⟩, .slice none 0 0, .int .i64 0, .string ⟨#[]⟩, .int .i64 0, .string ⟨#[]⟩, .int .i64 0, .string ⟨#[]⟩, .slice none 0 0, .int .i64 0, .string ⟨#[]⟩, .int .i64 0, .string ⟨#[]⟩, .int .i64 0, .string ⟨#[]⟩, .slice none 0 0, .int .i64 0, .string ⟨#[]⟩, .int .i64 0, .string ⟨#[]⟩, .slice none 0 0, .slice none 0 0] 69)) := Lib.hid (fun W W' row h hg hr => h.grown hg (fun e => by rcases hr _ e.symm with e | e | e; exact nR (by rw [e]); exact e1R e.symm; omega))
        have HJ1 : Hid (LJ pb a1 a2 base 33 #[.int .i64 9, .string ⟨x1.toArray⟩, .int .i64 0, .string ⟨#[]⟩, .int .i64 0, .string ⟨#[]⟩, .int .i64 0, .string ⟨#[]⟩, .int .i64 0, .string ⟨#[]⟩, .int .i64 0, .string ⟨#[]⟩, .int .i64 0, .string ⟨#[]⟩, .slice none 0 0, .int .i64 0, .string ⟨#[]⟩, .int .i64 0, .string ⟨#[]⟩, .int .i64 0, .string ⟨#[]⟩, .slice none 0 0, .int .i64 0, .string ⟨#[]⟩, .int .i64 0, .string ⟨#[]⟩, .int .i64 0, .string ⟨#[]⟩, .slice none 0 0, .int .i64 0, .string ⟨#[]⟩, .int .i64 0, .string ⟨x3.toArray⟩, .slice none 0 0, .slice none 0 0] 69 60 2 (fun W => BoxO W (a2 + 1) #[.int .i64 0, .string ⟨#[]⟩, .int .i64 0, .string ⟨#[]⟩, .int .i64 0, .string ⟨#[]⟩, .int .i64 0, .string ⟨#[]⟩, .int .i64 0, .string ⟨#[]⟩, .int .i64 0, .string ⟨#[]⟩, .int .i64 0, .string ⟨#[]⟩, .slice none 0 0, .int .i64 0, .string ⟨#[]⟩, .int .i64 0, .string ⟨#[]⟩, .int .i64 0, .string ⟨#[]⟩, .slice none 0 0, .int .i64 0, .string ⟨#[]⟩, .int .i64 0, .string ⟨#[]⟩, .int .i64 0, .string ⟨#[]⟩, .slice none 0 0, .int .i64 0, .string ⟨#[]⟩, .int .i64 0, .string ⟨#[]⟩, .slice none 0 0, .slice none 0 0] 69) ([] : List NumT).length (numsC []) Y3) := Lib.hid ⟨.slice none 0 0, mL, m2, World.ownsRow_nil _ _ _ _, Nat.le_of_eq hbase, mR⟩
        have c2 := m2.c1
        have HLI := Lib.hid (list_inst1 numP Keeps.num n pb a1 a2 w (fun acc => LJ pb a1 a2 base 33 #[.int .i64 9, .string ⟨x1.toArray⟩, .int .i64 0, .string ⟨#[]⟩, .int .i64 0, .string ⟨#[]⟩, .int .i64 0, .string ⟨#[]⟩, .int .i64 0, .string ⟨#[]⟩, .int .i64 0, .string ⟨#[]⟩, .int .i64 0, .string ⟨#[]⟩, .slice none 0 0, .int .i64 0, .string ⟨#[]⟩, .int .i64 0, .string ⟨#[]⟩, .int .i64 0, .string ⟨#[]⟩, .slice none 0 0, .int .i64 0, .string ⟨#[]⟩, .int .i64 0, .string ⟨#[]⟩, .int .i64 0, .string ⟨#[]⟩, .slice none 0 0, .int .i64 0, .string ⟨#[]⟩, .int .i64 0, .string ⟨x3.toArray⟩, .slice none 0 0, .slice none 0 0] 69 60 2 (fun W => BoxO W (a2 + 1) #[.int .i64 0, .string ⟨#[]⟩, .int .i64 0, .string ⟨#[]⟩, .int .i64 0, .string ⟨#[]⟩, .int .i64 0, .string ⟨#[]⟩, .int .i64 0, .string ⟨#[]⟩, .int .i64 0, .string ⟨#[]⟩, .int .i64 0, .string ⟨#[]⟩, .slice none 0 0, .int .i64 0, .string ⟨#[]⟩, .int .i64 0, .string ⟨#[]⟩, .int .i64 0, .string ⟨#[]⟩, .slice none 0 0, .int .i64 0, .string ⟨#[]⟩, .int .i64 0, .string ⟨#[]⟩, .int .i64 0, .string ⟨#[]⟩, .slice none 0 0, .int .i64 0, .string ⟨#[]⟩, .int .i64 0, .string ⟨#[]⟩, .slice none 0 0, .slice none 0 0] 69) acc.length (numsC acc)) (fun acc W W' h _ hg => h.grown HS1.out HK1.out hg) (fun l acc W hx hj hg hb => cl_inst1 n pb a1 a2 base _ (by show 33 < 35; omega) w _ HK1.out HS1.out l acc W hx hj hg hb) l3 Y3 HX3.out HJ1.out HG3.out)
        clear gS mL m2 mR hxY hgY hx3 hg3 c32 f32 H22 HR2 HL2 HX2 HG2 HC3 hbase
        cases hm4 : listP numP l3 with
        | no a =>
          have HMM := Lib.hid (HM3.out.trans (bind_no hm4))
          have HC4 := Lib.hid (HLI.out.mono fun e w' q => q.no hm4)
          clear hm4 HLI
          go_wp2_with (go_at_call 139; refine HC4.out.mono ?_; rintro e w4 ⟨rfl, hg4⟩)
          exact ⟨rfl, Gives.of_no HMM.out hg4⟩
        | ok qs l4 =>
          have HM4 := Lib.hid (HM3.out.trans (bind_ok hm4))
          have HC4 := Lib.hid (HLI.out.mono fun e w' q => q.ok hm4)
          clear hm4 HM3 HLI
          go_upto_region 5 with (go_at_call 139; refine HC4.out.mono ?_; rintro e w4 ⟨rfl, ⟨v4, mL4, m24, r4, hb4, mR4⟩, hx4, hg4⟩)
          obtain ⟨base2, hbase2⟩ : ∃ b, b = w4.heap.size := ⟨_, rfl⟩
          have mL4' : BoxO w4 a1 #[.int .i64 9, .string ⟨x1.toArray⟩, .int .i64 0, .string ⟨#[]⟩, .int .i64 0, .string ⟨#[]⟩, .int .i64 0, .string ⟨#[]⟩, .int .i64 0, .string ⟨#[]⟩, .int .i64 0, .string ⟨#[]⟩, .int .i64 0, .string ⟨#[]⟩, .slice none 0 0, .int .i64 0, .string ⟨#[]⟩, .int .i64 0, .string ⟨#[]⟩, .int .i64 0, .string ⟨#[]⟩, .slice none 0 0, .int .i64 0, .string ⟨#[]⟩, .int .i64 0, .string ⟨#[]⟩, .int .i64 0, .string ⟨#[]⟩, .slice none 0 0, .int .i64 0, .string ⟨#[]⟩, .int .i64 0, .string ⟨x3.toArray⟩, v4, .slice none 0 0] 69 := mL4
          have hv4 : ∀ g, v4.ownBlock = some g → base ≤ g ∧ g < base2 := fun g e => by rw [hbase2]; exact r4.lt g e
          have hbb : base ≤ base2 := by omega
          have HS2 : Hid (LS w n pb a1 a2 base2) := Lib.hid ⟨by omega, by rw [hbase2]; exact m24.lt, by rw [hbase2]; exact hx4.lt, e1p, (fun e => n2 (by rw [e])), e12, e1n, by omega, e1w⟩
          have HK2 : Hid (XK pb a1 base2 (fun W => BoxO W (a2 + 1) #[.int .i64 0, .string ⟨#[]⟩, .int .i64 0, .string ⟨#[]⟩, .int .i64 0, .string ⟨#[]⟩, .int .i64 0, .string ⟨#[]⟩, .int .i64 0, .string ⟨#[]⟩, .int .i64 0, .string ⟨#[]⟩, .int .i64 0, .string ⟨#[]⟩, .slice none 0 0, .int .i64 0, .string ⟨#[]⟩, .int .i64 0, .string ⟨#[]⟩, .int .i64 0, .string ⟨#[]⟩, .slice none 0 0, .int .i64 0, .string ⟨#[]⟩, .int .i64 0, .string ⟨#[]⟩, .int .i64 0, .string ⟨#[]⟩, .slice none 0 0, .int .i64 0, .string ⟨#[]⟩, .int .i64 0, .string ⟨#[]⟩, .slice none 0 0, .slice none 0 0] 69 ∧ W.ownsRow base 60 2 v4 qs.length (numsC qs))) := Lib.hid (fun W W' row h hg hr => ⟨h.1.grown hg (fun e => by rcases hr _ e.symm with e | e | e; exact nR (by rw [e]); exact e1R e.symm; omega), h.2.kept hg (by
            cases hq : v4.ownBlock with
            | none => exact .inl rfl
            | some g =>
              refine .inr fun e => ?_
              have h1 := hv4 g hq
              have h2 := HS1.out.h3
              rcases hr g e.symm with e | e | e
              · omega
              · omega
              · omega)⟩)
          have HJ2 : Hid (LJ pb a1 a2 base2 34 #[.int .i64 9, .string ⟨x1.toArray⟩, .int .i64 0, .string ⟨#[]⟩, .int .i64 0, .string ⟨#[]⟩, .int .i64 0, .string ⟨#[]⟩, .int .i64 0, .string ⟨#[]⟩, .int .i64 0, .string ⟨#[]⟩, .int .i64 0, .string ⟨#[]⟩, .slice none 0 0, .int .i64 0, .string ⟨#[]⟩, .int .i64 0, .string ⟨#[]⟩, .int .i64 0, .string ⟨#[]⟩, .slice none 0 0, .int .i64 0, .string ⟨#[]⟩, .int .i64 0, .string ⟨#[]⟩, .int .i64 0, .string ⟨#[]⟩, .slice none 0 0, .int .i64 0, .string ⟨#[]⟩, .int .i64 0, .string ⟨x3.toArray⟩, v4, .slice none 0 0] 69 146 2 (fun W => BoxO W (a2 + 1) #[.int .i64 0, .string ⟨#[]⟩, .int .i64 0, .string ⟨#[]⟩, .int .i64 0, .string ⟨#[]⟩, .int .i64 0, .string ⟨#[]⟩, .int .i64 0, .string ⟨#[]⟩, .int .i64 0, .string ⟨#[]⟩, .int .i64 0, .string ⟨#[]⟩, .slice none 0 0, .int .i64 0, .string ⟨#[]⟩, .int .i64 0, .string ⟨#[]⟩, .int .i64 0, .string ⟨#[]⟩, .slice none 0 0, .int .i64 0, .string ⟨#[]⟩, .int .i64 0, .string ⟨#[]⟩, .int .i64 0, .string ⟨#[]⟩, .slice none 0 0, .int .i64 0, .string ⟨#[]⟩, .int .i64 0, .string ⟨#[]⟩, .slice none 0 0, .slice none 0 0] 69 ∧ W.ownsRow base 60 2 v4 qs.length (numsC qs)) ([] : List BindT).length (bindsC []) w4) := Lib.hid ⟨.slice none 0 0, mL4', m24, World.ownsRow_nil _ _ _ _, Nat.le_of_eq hbase2, mR4, r4⟩
          have c2 := m24.c1
          have HX4 := Lib.hid hx4
          have HG4 := Lib.hid hg4
          have HLI := Lib.hid (list_inst2 bindP Keeps.binding n pb a1 a2 w (fun acc => LJ pb a1 a2 base2 34 #[.int .i64 9, .string ⟨x1.toArray⟩, .int .i64 0, .string ⟨#[]⟩, .int .i64 0, .string ⟨#[]⟩, .int .i64 0, .string ⟨#[]⟩, .int .i64 0, .string ⟨#[]⟩, .int .i64 0, .string ⟨#[]⟩, .int .i64 0, .string ⟨#[]⟩, .slice none 0 0, .int .i64 0, .string ⟨#[]⟩, .int .i64 0, .string ⟨#[]⟩, .int .i64 0, .string ⟨#[]⟩, .slice none 0 0, .int .i64 0, .string ⟨#[]⟩, .int .i64 0, .string ⟨#[]⟩, .int .i64 0, .string ⟨#[]⟩, .slice none 0 0, .int .i64 0, .string ⟨#[]⟩, .int .i64 0, .string ⟨x3.toArray⟩, v4, .slice none 0 0] 69 146 2 (fun W => BoxO W (a2 + 1) #[.int .i64 0, .string ⟨#[]⟩, .int .i64 0, .string ⟨#[]⟩, .int .i64 0, .string ⟨#[]⟩, .int .i64 0, .string ⟨#[]⟩, .int .i64 0, .string ⟨#[]⟩, .int .i64 0, .string ⟨#[]⟩, .int .i64 0, .string ⟨#[]⟩, .slice none 0 0, .int .i64 0, .string ⟨#[]⟩, .int .i64 0, .string ⟨#[]⟩, .int .i64 0, .string ⟨#[]⟩, .slice none 0 0, .int .i64 0, .string ⟨#[]⟩, .int .i64 0, .string ⟨#[]⟩, .int .i64 0, .string ⟨#[]⟩, .slice none 0 0, .int .i64 0, .string ⟨#[]⟩, .int .i64 0, .string ⟨#[]⟩, .slice none 0 0, .slice none 0 0] 69 ∧ W.ownsRow base 60 2 v4 qs.length (numsC qs)) acc.length (bindsC acc)) (fun acc W W' h _ hg => h.grown HS2.out HK2.out hg) (fun l acc W hx hj hg hb => cl_inst2 n pb a1 a2 base2 _ (by show 34 < 35; omega) w _ HK2.out HS2.out l acc W hx hj hg hb) l4 w4 HX4.out HJ2.out HG4.out)
          clear mL4 mL4' m24 r4 mR4 hx4 hg4 HC4 HJ1 HK1 hbase2
          cases hm5 : listP bindP l4 with
          | no a =>
            have HMM := Lib.hid (HM4.out.trans (bind_no hm5))
            have HC5 := Lib.hid (HLI.out.mono fun e w' q => q.no hm5)
            clear hm5 HLI
            go_wp2_with (go_at_call 139; refine HC5.out.mono ?_; rintro e w5 ⟨rfl, hg5⟩)
            exact ⟨rfl, Gives.of_no HMM.out hg5⟩
          | ok ps l5 =>
            have HM5 := Lib.hid (HM4.out.trans (bind_ok hm5))
            have HC5 := Lib.hid (HLI.out.mono fun e w' q => q.ok hm5)
            clear hm5 HM4 HLI
            go_upto_region 6 with (go_at_call 139; refine HC5.out.mono ?_; rintro e w5 ⟨rfl, ⟨v5, mL5, m25, r5, hb5, mR5, r4⟩, hx5, hg5⟩)
            have mL5' : BoxO w5 a1 #[.int .i64 9, .string ⟨x1.toArray⟩, .int .i64 0, .string ⟨#[]⟩, .int .i64 0, .string ⟨#[]⟩, .int .i64 0, .string ⟨#[]⟩, .int .i64 0, .string ⟨#[]⟩, .int .i64 0, .string ⟨#[]⟩, .int .i64 0, .string ⟨#[]⟩, .slice none 0 0, .int .i64 0, .string ⟨#[]⟩, .int .i64 0, .string ⟨#[]⟩, .int .i64 0, .string ⟨#[]⟩, .slice none 0 0, .int .i64 0, .string ⟨#[]⟩, .int .i64 0, .string ⟨#[]⟩, .int .i64 0, .string ⟨#[]⟩, .slice none 0 0, .int .i64 0, .string ⟨#[]⟩, .int .i64 0, .string ⟨x3.toArray⟩, v4, v5] 69 := mL5
            obtain ⟨A4, c4, e4, hc4, hf4⟩ := row_form r4
            obtain ⟨A5, c5, e5, hc5, hf5⟩ := row_form r5
            subst e4 e5
            clear mL5
            go_wp2_with (first
              | (refine wpList_load_row mL5' rfl _ rfl rfl _ Tryz.underlying69 rfl (by kernel_rfl) ?_)
              | (refine wpList_store_row mR5 rfl _ _ rfl #[.int .i64 9, .string ⟨x1.toArray⟩, .int .i64 0, .string ⟨#[]⟩, .int .i64 0, .string ⟨#[]⟩, .int .i64 0, .string ⟨#[]⟩, .int .i64 0, .string ⟨#[]⟩, .int .i64 0, .string ⟨#[]⟩, .int .i64 0, .string ⟨#[]⟩, .slice none 0 0, .int .i64 0, .string ⟨#[]⟩, .int .i64 0, .string ⟨#[]⟩, .int .i64 0, .string ⟨#[]⟩, .slice none 0 0, .int .i64 0, .string ⟨#[]⟩, .int .i64 0, .string ⟨#[]⟩, .int .i64 0, .string ⟨#[]⟩, .slice none 0 0, .int .i64 0, .string ⟨#[]⟩, .int .i64 0, .string ⟨x3.toArray⟩, .slice A4 qs.length c4, .slice A5 ps.length c5] rfl rfl (by kernel_rfl) rfl (by kernel_rfl) ?_))
            have gF := grown_setRow w5 (a2 + 1) #[.int .i64 9, .string ⟨x1.toArray⟩, .int .i64 0, .string ⟨#[]⟩, .int .i64 0, .string ⟨#[]⟩, .int .i64 0, .string ⟨#[]⟩, .int .i64 0, .string ⟨#[]⟩, .int .i64 0, .string ⟨#[]⟩, .int .i64 0, .string ⟨#[]⟩, .slice none 0 0, .int .i64 0, .string ⟨#[]⟩, .int .i64 0, .string ⟨#[]⟩, .int .i64 0, .string ⟨#[]⟩, .slice none 0 0, .int .i64 0, .string ⟨#[]⟩, .int .i64 0, .string ⟨#[]⟩, .int .i64 0, .string ⟨#[]⟩, .slice none 0 0, .int .i64 0, .string ⟨#[]⟩, .int .i64 0, .string ⟨x3.toArray⟩, .slice A4 qs.length c4, .slice A5 ps.length c5]
            exact bodyPost_ret_by (v := .agg #[.int .i64 9, .string ⟨x1.toArray⟩, .int .i64 0, .string ⟨#[]⟩, .int .i64 0, .string ⟨#[]⟩, .int .i64 0, .string ⟨#[]⟩, .int .i64 0, .string ⟨#[]⟩, .int .i64 0, .string ⟨#[]⟩, .int .i64 0, .string ⟨#[]⟩, .slice none 0 0, .int .i64 0, .string ⟨#[]⟩, .int .i64 0, .string ⟨#[]⟩, .int .i64 0, .string ⟨#[]⟩, .slice none 0 0, .int .i64 0, .string ⟨#[]⟩, .int .i64 0, .string ⟨#[]⟩, .int .i64 0, .string ⟨#[]⟩, .slice none 0 0, .int .i64 0, .string ⟨#[]⟩, .int .i64 0, .string ⟨x3.toArray⟩, .slice A4 qs.length c4, .slice A5 ps.length c5]) (results_cell_row rfl _ _ (a2 + 1) _ #[.int .i64 9, .string ⟨x1.toArray⟩, .int .i64 0, .string ⟨#[]⟩, .int .i64 0, .string ⟨#[]⟩, .int .i64 0, .string ⟨#[]⟩, .int .i64 0, .string ⟨#[]⟩, .int .i64 0, .string ⟨#[]⟩, .int .i64 0, .string ⟨#[]⟩, .slice none 0 0, .int .i64 0, .string ⟨#[]⟩, .int .i64 0, .string ⟨#[]⟩, .int .i64 0, .string ⟨#[]⟩, .slice none 0 0, .int .i64 0, .string ⟨#[]⟩, .int .i64 0, .string ⟨#[]⟩, .int .i64 0, .string ⟨#[]⟩, .slice none 0 0, .int .i64 0, .string ⟨#[]⟩, .int .i64 0, .string ⟨x3.toArray⟩, .slice A4 qs.length c4, .slice A5 ps.length c5] (0, 0) _ rfl (mR5.set #[.int .i64 9, .string ⟨x1.toArray⟩, .int .i64 0, .string ⟨#[]⟩, .int .i64 0, .string ⟨#[]⟩, .int .i64 0, .string ⟨#[]⟩, .int .i64 0, .string ⟨#[]⟩, .int .i64 0, .string ⟨#[]⟩, .int .i64 0, .string ⟨#[]⟩, .slice none 0 0, .int .i64 0, .string ⟨#[]⟩, .int .i64 0, .string ⟨#[]⟩, .int .i64 0, .string ⟨#[]⟩, .slice none 0 0, .int .i64 0, .string ⟨#[]⟩, .int .i64 0, .string ⟨#[]⟩, .int .i64 0, .string ⟨#[]⟩, .slice none 0 0, .int .i64 0, .string ⟨#[]⟩, .int .i64 0, .string ⟨x3.toArray⟩, .slice A4 qs.length c4, .slice A5 ps.length c5]).h Tryz.underlying69 rfl (by kernel_rfl)) rfl
              (give_row #[.int .i64 9, .string ⟨x1.toArray⟩, .int .i64 0, .string ⟨#[]⟩, .int .i64 0, .string ⟨#[]⟩, .int .i64 0, .string ⟨#[]⟩, .int .i64 0, .string ⟨#[]⟩, .int .i64 0, .string ⟨#[]⟩, .int .i64 0, .string ⟨#[]⟩, .slice none 0 0, .int .i64 0, .string ⟨#[]⟩, .int .i64 0, .string ⟨#[]⟩, .int .i64 0, .string ⟨#[]⟩, .slice none 0 0, .int .i64 0, .string ⟨#[]⟩, .int .i64 0, .string ⟨#[]⟩, .int .i64 0, .string ⟨#[]⟩, .slice none 0 0, .int .i64 0, .string ⟨#[]⟩, .int .i64 0, .string ⟨x3.toArray⟩, .slice A4 qs.length c4, .slice A5 ps.length c5] HM5.out ⟨_, rfl, none, 0, none, 0, none, 0, A4, c4, A5, c5, rfl, ER.zero, ER.zero, ER.zero, hc4, (hf4.grown gF (fun g e h => by injection e; omega)).mono (fun b h => by show w.heap.size ≤ b; omega), hc5, (hf5.grown gF (fun g e h => by injection e; omega)).mono (fun b h => by show w.heap.size ≤ b; omega)⟩ hx5 (by omega) hg5 (by omega))

end Sy
end Go.Proofs.YtggeepimihhpjaaGreatDoor
