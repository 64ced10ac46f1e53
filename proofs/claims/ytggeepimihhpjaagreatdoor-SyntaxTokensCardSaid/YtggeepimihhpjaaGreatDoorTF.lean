/- The printer's file. newPrinter: a map filled in the order in which another one is ranged over. -/
import Derived.Test.YtggeepimihhpjaaGreatDoorTD
import Derived.Test.YtggeepimihhpjaaGreatDoorPX
import Derived.Maps.RangeRun
namespace Go.Proofs.YtggeepimihhpjaaGreatDoor
open Go.RowKit Go.Shelf Go.Lib Sl Fr Lx
namespace Sy
set_option linter.unusedVariables false
set_option linter.unusedSimpArgs false

def OkM (m : ModT) : Prop := m.params.length ≤ 281474976710656 ∧ m.items.length ≤ 281474976710656 ∧ ∀ i ∈ m.items, OkI i
def OkF (f : FileT) : Prop := f.length ≤ 281474976710656 ∧ ∀ m ∈ f, OkM m
theorem ML.get {w : World} {S : Nat → Prop} : ∀ {l : List ModT} {vs : List Value} {k : Nat} {m : ModT}, ML w S l vs → l[k]? = some m → ∃ cs, MR w S m cs ∧ ∀ (j : Nat) (u : Value), cs.toList[j]? = some u → vs[k * 4 + j]? = some u
  | [], _, _, _, _, h => by cases h
  | m :: l, _, 0, m', ⟨cs, vs', h1, h2, h3⟩, hk => by
    simp only [List.getElem?_cons_zero, Option.some.injEq] at hk
    subst hk
    refine ⟨cs, h2, fun j u hj => ?_⟩
    rw [h1, Nat.zero_mul, Nat.zero_add, List.getElem?_append_left (List.getElem?_eq_some_iff.1 hj).1]
    exact hj
  | m :: l, _, k + 1, m', ⟨cs, vs', h1, h2, h3⟩, hk => by
    have hk2 : l[k]? = some m' := hk
    obtain ⟨cs', h4, h5⟩ := ML.get h3 hk2
    refine ⟨cs', h4, fun j u hj => ?_⟩
    rw [h1, List.getElem?_append_right (by have := h2.size; omega), show (k + 1) * 4 + j - cs.toList.length = k * 4 + j by have := h2.size; omega]
    exact h5 j u hj
theorem IL.get {w : World} {S : Nat → Prop} : ∀ {l : List ItemT} {vs : List Value} {k : Nat} {m : ItemT}, IL w S l vs → l[k]? = some m → ∃ cs, IR w S m cs ∧ ∀ (j : Nat) (u : Value), cs.toList[j]? = some u → vs[k * 35 + j]? = some u
  | [], _, _, _, _, h => by cases h
  | m :: l, _, 0, m', ⟨cs, vs', h1, h2, h3⟩, hk => by
    simp only [List.getElem?_cons_zero, Option.some.injEq] at hk
    subst hk
    refine ⟨cs, h2, fun j u hj => ?_⟩
    rw [h1, Nat.zero_mul, Nat.zero_add, List.getElem?_append_left (List.getElem?_eq_some_iff.1 hj).1]
    exact hj
  | m :: l, _, k + 1, m', ⟨cs, vs', h1, h2, h3⟩, hk => by
    have hk2 : l[k]? = some m' := hk
    obtain ⟨cs', h4, h5⟩ := IL.get h3 hk2
    refine ⟨cs', h4, fun j u hj => ?_⟩
    rw [h1, List.getElem?_append_right (by have := h2.size; omega), show (k + 1) * 35 + j - cs.toList.length = k * 35 + j by have := h2.size; omega]
    exact h5 j u hj
theorem alloc_module {o : Oper} (ho : o.op = .alloc 46) (ev : Operand → Value) (w : World) : (execOp ev o).run Tryz.prog w = .ok (.value (.pointer (some ⟨w.heap.size, 0, none⟩))) (w.alloc (.cells #[.string ⟨#[]⟩, .string ⟨#[]⟩, .slice none 0 0, .slice none 0 0] 46)) := by
  unfold execOp
  rw [ho]
  go_simp
theorem map_take {α : Type} (f : α → Option By) {l : List α} {k : Nat} {p : α} (h : l[k]? = some p) : seqO ((l.take (k + 1)).map f) = catO (seqO ((l.take k).map f)) (f p) := by
  rw [List.take_add_one, h, List.map_append]
  exact seqO_snoc _ _
theorem map_rest {α : Type} (f : α → Option By) {l : List α} {k : Nat} {p : α} (h : l[k]? = some p) : seqO (l.map f) = catO (seqO ((l.take k).map f)) (catO (f p) (seqO ((l.drop (k + 1)).map f))) := by
  have h1 := List.getElem?_eq_some_iff.1 h
  obtain ⟨h2, h3⟩ := h1
  rw [← seqO_cons, ← seqO_app]
  congr 1
  rw [← h3, ← List.map_cons, ← List.drop_eq_getElem_cons h2, ← List.map_append, List.take_append_drop]
def FlAt (base qb : Nat) (tb : Option Nat) (t : By) (f : FileT) (X : World) (i : Value) (W : World) : Prop :=
  ∃ (k : Nat) (tk : By) (tbk : Option Nat), i = .int .i64 (k : Int) ∧ k ≤ f.length ∧ wr (seqO ((f.take k).map modX)) t = some tk ∧ PP W base qb tbk tk ∧ (tbk = tb ∨ ∀ g, tbk = some g → X.heap.size ≤ g) ∧ GP X W qb tb
def ItAt (base qb : Nat) (tb : Option Nat) (t : By) (is : List ItemT) (Y : World) (i : Value) (W : World) : Prop :=
  ∃ (k : Nat) (tk : By) (tbk : Option Nat), i = .int .i64 (k : Int) ∧ k ≤ is.length ∧ wr (seqO ((is.take k).map lineX)) t = some tk ∧ PP W base qb tbk tk ∧ (tbk = tb ∨ ∀ g, tbk = some g → Y.heap.size ≤ g) ∧ GP Y W qb tb

set_option maxRecDepth 100000 in
set_option maxHeartbeats 16000000 in
theorem pfile_any (base qb : Nat) (tb : Option Nat) (t : By) (f : FileT) (hok : OkF f) (A : Option Addr) (c : Nat) (vs : List Value) (w : World) (h : PP w base qb tb t) (hml : ML w (fun b => b < base) f vs) (hfr : FR w (fun b => b < base) A vs) :
    Calls Tryz.prog 61 #[.pointer (some ⟨qb, 0, none⟩), .agg #[.slice A f.length c]] w (PG base qb tb t (fileX f) w) := by
  obtain ⟨hfl, hms⟩ := hok
  have hmf : ∀ (fn : Fn) (first cap : Array Value) (w : World), (Instr.makeFunc fn first cap).run Tryz.prog w = .ok (.func fn first cap) w := fun _ _ _ _ => rfl
  obtain ⟨m2, m3, bA⟩ := start2X w #[.pointer (some ⟨qb, 0, none⟩)] #[.slice A f.length c] 126 27
  have hX := h.below bA
  have hgX : GP w _ qb tb := GP.of_below bA
  have hml' := hml.grown (grown_below bA) (fun g e => by cases e)
  have hfr' := hfr.grown (grown_below bA) (fun g e => by cases e)
  have hqw := h.lt
  have htw : ∀ g, tb = some g → g < w.heap.size := fun g e => (h.ht g e).2
  have n2 : w.heap.size ≠ qb := by omega
  have t2 : some w.heap.size ≠ tb := fun e => by have := htw _ e.symm; omega
  go_enter Tryz.func61, Tryz.ntmps61
  go_upto_region 1 with fail
  generalize hXe : (w.alloc (.cells #[.pointer (some ⟨qb, 0, none⟩)] 126)).alloc (.cells #[.slice A f.length c] 27) = X at *
  clear hXe
  have d0 := m3.cell (i := 0) rfl
  have HGX := Lib.hid hgX
  have HM2 := Lib.hid m2
  have HML := Lib.hid hml'
  have HFR := Lib.hid hfr'
  have HXP := Lib.hid hX
  have hl2 := m2.lt
  have H0 : Hid (FlAt base qb tb t f X (.int .i64 0) X) := Lib.hid ⟨0, t, tb, rfl, Nat.zero_le _, wr_nil h.len, hX, .inl rfl, GP.refl _ _ _⟩
  clear hX hgX m2 m3 hml hml' hfr hfr' bA h
  go_wp2_with fail
  clear d0
  go_loopw [11] (FlAt base qb tb t f X) (fun i _ => f.length - (RowKit.intOf i).toNat)
  case atStart => exact H0.out
  case round =>
    obtain ⟨k, tk, tbk, rfl, hk, hwk, hpk, htk, hgk⟩ := hrel
    generalize wr = Wo at *
    have HW := Lib.hid hwk
    have HK := Lib.hid hpk
    have HT := Lib.hid htk
    have HG := Lib.hid hgk
    clear hwk hpk htk hgk H0
    by_cases hlt : k < f.length
    · obtain ⟨m, hm⟩ : ∃ m, f[k]? = some m := ⟨f[k], List.getElem?_eq_getElem hlt⟩
      obtain ⟨hop, hoi, hois⟩ := hms m (List.mem_of_getElem? hm)
      obtain ⟨cs, hmr, hcs⟩ := HML.out.get hm
      have HREST := Lib.hid (map_rest modX hm)
      have HNEXT := Lib.hid (map_take modX hm)
      obtain ⟨Ap, cp, Ai, ci, rfl, hp1, hp2, hi1, ivs, hiv, hil, hif⟩ := hmr
      obtain ⟨b, o, hA, hbl, hcl⟩ := HFR.out.get (hcs 0 _ rfl)
      subst hA
      have hb := HG.out.fr HXP.out.nqb HXP.out.ntb HFR.out
      obtain ⟨b', o', hA', hbl', hcl'⟩ := hb.get (hcs 0 _ rfl)
      injection hA' with hA'
      injection hA' with hb1 hb2 _
      subst hb1; subst hb2
      have e0 := hcl' _ _ (hcs 0 _ rfl)
      have e1 := hcl' _ _ (hcs 1 _ rfl)
      have e2 := hcl' _ _ (hcs 2 _ rfl)
      have e3 := hcl' _ _ (hcs 3 _ rfl)
      rw [Nat.add_zero] at e0
      rw [← Nat.add_assoc] at e1 e2 e3
      have HP2 := Lib.hid hp2
      have HIL := Lib.hid hil
      have HIF := Lib.hid hif
      clear hm hcs hb hbl hcl hcl' hbl' hp2 hil hif
      obtain ⟨mn, mc, mp, mi⟩ := m
      replace hop : mp.length ≤ 281474976710656 := hop
      replace hoi : mi.length ≤ 281474976710656 := hoi
      replace hois : ∀ i ∈ mi, OkI i := hois
      dsimp only at e0 e1 e2 e3 HP2 HIL HIF hp1 hi1 hiv
      have HMX : Hid (modX ⟨mn, mc, mp, mi⟩ = catO (seqO [some [109, 111, 100, 117, 108, 101, 32], some mn]) (catO (listX (mp.map some)) (catO (seqO [some [32, 64, 32], some mc, some [32, 123, 10]]) (catO (seqO (mi.map lineX)) (catO (seqO [some [125, 10]]) (some [])))))) := Lib.hid rfl
      go_upto_region 4 with (refine wpList_new_any alloc_module rfl rfl rfl _ _ rfl #[.string ⟨mn.toArray⟩, .string ⟨mc.toArray⟩, .slice Ap mp.length cp, .slice Ai mi.length ci] rfl rfl (by kernel_rfl) rfl (by kernel_rfl) ?_; intro Y bY hbY mY hbA; subst hbY)
      have g0 : GP X Y qb tb := HG.out.trans (GP.of_below hbA (qb := qb) (tb := tbk)) HT.out
      have hYp := HK.out.below hbA
      have hsY := hbA.size
      have hlY := mY.lt
      have hqo := HK.out.lt
      have nY : Wo.heap.size ≠ qb := by omega
      have tY : some Wo.heap.size ≠ tbk := fun e => by have := (HK.out.ht _ e.symm).2; omega
      have HYP := Lib.hid hYp
      have HG0 := Lib.hid g0
      have HMY := Lib.hid mY
      have HBA := Lib.hid hbA
      have HT0 : Hid (∀ tbq, (tbq = tbk ∨ ∀ g, tbq = some g → Y.heap.size ≤ g) → (tbq = tb ∨ ∀ g, tbq = some g → X.heap.size ≤ g)) := Lib.hid (fun tbq hq => by
        rcases hq with e | e
        · rw [e]; exact HT.out
        · exact .inr fun g eg => Nat.le_trans HG0.out.size (e g eg))
      have p0 := (g0.boxO HM2.out n2 t2).cell (i := 0) rfl
      have y0 := mY.cell (i := 0) rfl
      have y2 := mY.cell (i := 2) rfl
      clear hYp g0 hbA e0 e1 e2 e3 mY
      cases hw1 : Sy.wr (seqO [some [109, 111, 100, 117, 108, 101, 32], some mn]) tk with
      | none =>
        have HC1 := Lib.hid (pg_no (write_new HYP.out [.s [109, 111, 100, 117, 108, 101, 32], .s mn] #[.iface 9 (.string ⟨#[109, 111, 100, 117, 108, 101, 32]⟩), .iface 9 (.string ⟨mn.toArray⟩)] ⟨rfl, rfl, trivial⟩ (by intro p hp; simp only [List.mem_cons, List.not_mem_nil, or_false] at hp; rcases hp with rfl | rfl <;> first | exact trivial | exact item_pr _) 2 rfl (by omega) 20) hw1)
        go_wp2_with (go_at_call 109; with_reducible refine HC1.out.mono ?_; rintro e w1 ⟨rfl, hg1⟩)
        exact ⟨rfl, PG.of_no (by show Sy.wr (fileX f) t = none; unfold fileX; rw [HREST.out, wr_ok HW.out]; refine wr_no ?_; rw [HMX.out]; exact wr_no hw1) (HGX.out.trans0 (HG0.out.trans hg1 HT.out))⟩
      | some t1 =>
      have HC1 := Lib.hid (pg_ok (write_new HYP.out [.s [109, 111, 100, 117, 108, 101, 32], .s mn] #[.iface 9 (.string ⟨#[109, 111, 100, 117, 108, 101, 32]⟩), .iface 9 (.string ⟨mn.toArray⟩)] ⟨rfl, rfl, trivial⟩ (by intro p hp; simp only [List.mem_cons, List.not_mem_nil, or_false] at hp; rcases hp with rfl | rfl <;> first | exact trivial | exact item_pr _) 2 rfl (by omega) 20) hw1)
      go_upto_region 5 with (go_at_call 109; with_reducible refine HC1.out.mono ?_; rintro e w1 ⟨rfl, tb1, hp1, ht1, hg1⟩)
      have hg1Y := hg1
      have ht1Y := ht1
      have hpX1 := HG0.out.trans hg1Y HT.out
      clear p0 y0 y2
      have p0 := (hpX1.boxO HM2.out n2 t2).cell (i := 0) rfl
      have yy := (hg1Y.boxO HMY.out nY tY).cell (i := 2) rfl
      have hLA := plist_file base qb tb1 t1 (mp.map some) w.heap.size Wo.heap.size w1 hp1 (by rw [List.length_map]; exact hop) (fun k x hx W tbq tq hgq htq hpq => by
        rw [List.getElem?_map] at hx
        obtain ⟨y, hy, rfl⟩ := Option.map_eq_some_iff.1 hx
        exact cl_file base qb w.heap.size Wo.heap.size tbq tq mp _ Ap cp k y hy W hpq (((HG0.out.trans (hg1Y.trans hgq ht1Y) HT.out).boxO HM2.out n2 t2).boxL) ((hg1Y.trans hgq ht1Y).boxO HMY.out nY tY) rfl ((HG0.out.trans (hg1Y.trans hgq ht1Y) HT.out).fr HXP.out.nqb HXP.out.ntb HP2.out))
      rw [List.length_map] at hLA
      cases hw2 : Sy.wr (listX (mp.map some)) t1 with
      | none =>
        have HC2 := Lib.hid (pg_no hLA hw2)
        go_wp2_with (go_at_call 110; refine HC2.out.mono ?_; rintro e w2 ⟨rfl, hg2⟩)
        exact ⟨rfl, PG.of_no (by show Sy.wr (fileX f) t = none; unfold fileX; rw [HREST.out, wr_ok HW.out]; refine wr_no ?_; rw [HMX.out, wr_ok hw1]; exact wr_no hw2) (HGX.out.trans0 (hpX1.trans hg2 (HT0.out _ ht1Y)))⟩
      | some u2 =>
      have HC2 := Lib.hid (pg_ok hLA hw2)
      go_upto_region 6 with (go_at_call 110; refine HC2.out.mono ?_; rintro e w2 ⟨rfl, tb2, hp2, ht2, hg2⟩)
      clear hLA HC2 HC1
      have hg2Y := hg1Y.trans hg2 ht1Y
      have ht2Y := ht_trans hg1Y ht1Y ht2
      have hpX2 := HG0.out.trans hg2Y HT.out
      clear p0 yy
      have p0 := (hpX2.boxO HM2.out n2 t2).cell (i := 0) rfl
      have yy := (hg2Y.boxO HMY.out nY tY).cell (i := 1) rfl
      cases hw3 : Sy.wr (seqO [some [32, 64, 32], some mc, some [32, 123, 10]]) u2 with
      | none =>
        have HC3 := Lib.hid (pg_no (write_new hp2 [.s [32, 64, 32], .s mc, .s [32, 123, 10]] #[.iface 9 (.string ⟨#[32, 64, 32]⟩), .iface 9 (.string ⟨mc.toArray⟩), .iface 9 (.string ⟨#[32, 123, 10]⟩)] ⟨rfl, rfl, rfl, trivial⟩ (by intro p hp; simp only [List.mem_cons, List.not_mem_nil, or_false] at hp; rcases hp with rfl | rfl | rfl <;> first | exact trivial | exact item_pr _) 3 rfl (by omega) 20) hw3)
        go_wp2_with (go_at_call 109; with_reducible refine HC3.out.mono ?_; rintro e w3 ⟨rfl, hg3⟩)
        exact ⟨rfl, PG.of_no (by show Sy.wr (fileX f) t = none; unfold fileX; rw [HREST.out, wr_ok HW.out]; refine wr_no ?_; rw [HMX.out, wr_ok hw1, wr_ok hw2]; exact wr_no hw3) (HGX.out.trans0 (hpX2.trans hg3 (HT0.out _ ht2Y)))⟩
      | some u3 =>
      have HC3 := Lib.hid (pg_ok (write_new hp2 [.s [32, 64, 32], .s mc, .s [32, 123, 10]] #[.iface 9 (.string ⟨#[32, 64, 32]⟩), .iface 9 (.string ⟨mc.toArray⟩), .iface 9 (.string ⟨#[32, 123, 10]⟩)] ⟨rfl, rfl, rfl, trivial⟩ (by intro p hp; simp only [List.mem_cons, List.not_mem_nil, or_false] at hp; rcases hp with rfl | rfl | rfl <;> first | exact trivial | exact item_pr _) 3 rfl (by omega) 20) hw3)
      go_upto_region 7 with (go_at_call 109; with_reducible refine HC3.out.mono ?_; rintro e w3 ⟨rfl, tb3, hp3, ht3, hg3⟩)
      have hg3Y := hg2Y.trans hg3 ht2Y
      have ht3Y := ht_trans hg2Y ht2Y ht3
      have hpX3 := HG0.out.trans hg3Y HT.out
      clear p0 yy
      have p0 := (hpX3.boxO HM2.out n2 t2).cell (i := 0) rfl
      have yy := (hg3Y.boxO HMY.out nY tY).cell (i := 3) rfl
      have HG3 := Lib.hid hg3Y
      have HT3 := Lib.hid ht3Y
      have HX3 := Lib.hid hpX3
      have HP3 := Lib.hid hp3
      have J0 : Hid (ItAt base qb tb3 u3 mi w3 (.int .i64 0) w3) := Lib.hid ⟨0, u3, tb3, rfl, Nat.zero_le _, wr_nil hp3.len, hp3, .inl rfl, GP.refl _ _ _⟩
      have HW1 := Lib.hid hw1
      have HW2 := Lib.hid hw2
      have HW3 := Lib.hid hw3
      clear hp1 hp2 hp3 ht1 ht2 ht3 hg1 hg2 hg3 hg1Y hg2Y hg3Y ht1Y ht2Y ht3Y hpX1 hpX2 hpX3 HC3 hw1 hw2 hw3 p0
      go_wp2_with fail
      clear yy
      go_loopw [39] (ItAt base qb tb3 u3 mi w3) (fun i _ => mi.length - (RowKit.intOf i).toNat)
      case atStart => exact J0.out
      case round =>
        obtain ⟨n, tn, tbn, rfl, hn, hwn, hpn, htn, hgn⟩ := hrel
        generalize wr = Wi at *
        have HJW := Lib.hid hwn
        have HJK := Lib.hid hpn
        have HJT := Lib.hid htn
        have HJG := Lib.hid hgn
        have HXI := Lib.hid (HX3.out.trans hgn (HT0.out _ HT3.out))
        have p0 := (HXI.out.boxO HM2.out n2 t2).cell (i := 0) rfl
        have P0 := Lib.hid p0
        clear hwn hpn htn hgn J0 p0
        by_cases hlt2 : n < mi.length
        · obtain ⟨i, him⟩ : ∃ i, mi[n]? = some i := ⟨mi[n], List.getElem?_eq_getElem hlt2⟩
          have hoki := hois i (List.mem_of_getElem? him)
          obtain ⟨cs, hir, hcs⟩ := HIL.out.get him
          have HR2 := Lib.hid (map_rest lineX him)
          have HN2 := Lib.hid (map_take lineX him)
          have hsz : cs.size = 35 := hir.size
          have hone : cs.all (·.oneCell') = true := by rw [← Array.all_toList, List.all_eq_true]; exact hir.one
          have hinf : (Tryz.prog.info? 69).map (·.size) = some cs.size := by rw [hsz]; kernel_rfl
          have hinf2 : (Tryz.prog.info? 69).map (·.size) = some cs.toList.length := by rw [Array.length_toList]; exact hinf
          have hfi := HXI.out.fr HXP.out.nqb HXP.out.ntb HIF.out
          have hiri := HXI.out.ir HXP.out.nqb HXP.out.ntb hir
          obtain ⟨v0, hv0⟩ : ∃ v, cs.toList[0]? = some v := ⟨cs.toList[0]'(by rw [Array.length_toList, hsz]; omega), List.getElem?_eq_getElem _⟩
          obtain ⟨bi, oi, rfl, hbi, hci⟩ := hfi.get (hcs 0 v0 hv0)
          have hrg : Wi.rangeAt bi (oi + n * 35) cs.toList := fun j u hj => by rw [Nat.add_assoc]; exact hci _ _ (hcs j u hj)
          have hlx : lineX i = seqO [some [32, 32], itemX i, some [59, 10]] := rfl
          have HLX := Lib.hid hlx
          have HRG := Lib.hid hrg
          have HIRI := Lib.hid hiri
          clear hlx hrg hiri hfi hci hcs hir him hv0
          cases hw4 : Sy.wr (lineX i) tn with
          | none =>
            have HC := Lib.hid (fun W (hb : Below Wi.heap.size Wi W) => pg_no (write_new (HJK.out.below hb) [.s [32, 32], .i i, .s [59, 10]] #[.iface 9 (.string ⟨#[32, 32]⟩), .iface 69 (.agg cs), .iface 9 (.string ⟨#[59, 10]⟩)] ⟨rfl, ⟨hoki, cs, rfl, HIRI.out.grown (grown_below hb) (fun g e => by cases e)⟩, rfl, trivial⟩ (by intro p hp; simp only [List.mem_cons, List.not_mem_nil, or_false] at hp; rcases hp with rfl | rfl | rfl <;> first | exact trivial | exact item_pr _) 3 rfl (by omega) 20) hw4)
            go_wp2_with (first
              | (refine wpList_load_mid rfl 69 _ rfl bi (oi + n * 35) rfl cs.toList _ HRG.out Tryz.underlying69 rfl hinf2 ?_; simp only [Array.toArray_toList])
              | (refine wpList_new_any alloc_item rfl rfl rfl _ _ rfl cs rfl rfl hinf hsz hone ?_; intro Z bZ hbZ mZ hbB; subst hbZ; have p1 := (hbB.cell (p := ⟨w.heap.size, 0, none⟩) (Nat.lt_of_lt_of_le hl2 HXI.out.size)).trans P0.out)
              | (refine wpList_load_row mZ rfl _ rfl rfl _ Tryz.underlying69 rfl hinf ?_)
              | (go_at_call 109; with_reducible refine (HC.out _ hbB).mono ?_; rintro e w9 ⟨rfl, hg9⟩))
            exact ⟨rfl, PG.of_no (by show Sy.wr (fileX f) t = none; unfold fileX; rw [HREST.out, wr_ok HW.out]; refine wr_no ?_; rw [HMX.out, wr_ok HW1.out, wr_ok HW2.out, wr_ok HW3.out]; refine wr_no ?_; rw [HR2.out, wr_ok HJW.out]; exact wr_no hw4) (HGX.out.trans0 (HXI.out.trans ((GP.of_below hbB).trans0 hg9) (HT0.out _ (ht_trans HG3.out HT3.out HJT.out))))⟩
          | some t5 =>
            have HC := Lib.hid (fun W (hb : Below Wi.heap.size Wi W) => pg_ok (write_new (HJK.out.below hb) [.s [32, 32], .i i, .s [59, 10]] #[.iface 9 (.string ⟨#[32, 32]⟩), .iface 69 (.agg cs), .iface 9 (.string ⟨#[59, 10]⟩)] ⟨rfl, ⟨hoki, cs, rfl, HIRI.out.grown (grown_below hb) (fun g e => by cases e)⟩, rfl, trivial⟩ (by intro p hp; simp only [List.mem_cons, List.not_mem_nil, or_false] at hp; rcases hp with rfl | rfl | rfl <;> first | exact trivial | exact item_pr _) 3 rfl (by omega) 20) hw4)
            go_wp2_with (first
              | (refine wpList_load_mid rfl 69 _ rfl bi (oi + n * 35) rfl cs.toList _ HRG.out Tryz.underlying69 rfl hinf2 ?_; simp only [Array.toArray_toList])
              | (refine wpList_new_any alloc_item rfl rfl rfl _ _ rfl cs rfl rfl hinf hsz hone ?_; intro Z bZ hbZ mZ hbB; subst hbZ; have p1 := (hbB.cell (p := ⟨w.heap.size, 0, none⟩) (Nat.lt_of_lt_of_le hl2 HXI.out.size)).trans P0.out)
              | (refine wpList_load_row mZ rfl _ rfl rfl _ Tryz.underlying69 rfl hinf ?_)
              | (go_at_call 109; with_reducible refine (HC.out _ hbB).mono ?_; rintro e w9 ⟨rfl, tb9, hp9, ht9, hg9⟩))
            go_roundw
            case rel => exact ⟨n + 1, t5, tb9, by go_num, by omega, by rw [HN2.out, wr_ok HJW.out]; exact hw4, hp9, ht_trans HJG.out HJT.out (ht9.imp id fun e g eg => Nat.le_trans hbB.size (e g eg)), HJG.out.trans ((GP.of_below hbB).trans0 hg9) HJT.out⟩
            case measure => simp [RowKit.intOf]; omega
        · have hnn : n = mi.length := by omega
          have hw4 := HJW.out
          rw [hnn, List.take_length] at hw4
          have HW4 := Lib.hid hw4
          have p0 := P0.out
          clear hw4
          cases hw5 : Sy.wr (seqO [some [125, 10]]) tn with
          | none =>
            have HC5 := Lib.hid (pg_no (write_new HJK.out [.s [125, 10]] #[.iface 9 (.string ⟨#[125, 10]⟩)] ⟨rfl, trivial⟩ (by intro p hp; simp only [List.mem_cons, List.not_mem_nil, or_false] at hp; rcases hp with rfl <;> first | exact trivial | exact item_pr _) 1 rfl (by omega) 20) hw5)
            go_wp2_with (go_at_call 109; with_reducible refine HC5.out.mono ?_; rintro e w5 ⟨rfl, hg5⟩)
            exact ⟨rfl, PG.of_no (by show Sy.wr (fileX f) t = none; unfold fileX; rw [HREST.out, wr_ok HW.out]; refine wr_no ?_; rw [HMX.out, wr_ok HW1.out, wr_ok HW2.out, wr_ok HW3.out, wr_ok HW4.out]; exact wr_no hw5) (HGX.out.trans0 (HXI.out.trans hg5 (HT0.out _ (ht_trans HG3.out HT3.out HJT.out))))⟩
          | some t6 =>
            have HC5 := Lib.hid (pg_ok (write_new HJK.out [.s [125, 10]] #[.iface 9 (.string ⟨#[125, 10]⟩)] ⟨rfl, trivial⟩ (by intro p hp; simp only [List.mem_cons, List.not_mem_nil, or_false] at hp; rcases hp with rfl <;> first | exact trivial | exact item_pr _) 1 rfl (by omega) 20) hw5)
            go_wp2_with (go_at_call 109; with_reducible refine HC5.out.mono ?_; rintro e w5 ⟨rfl, tb5, hp5, ht5, hg5⟩)
            go_roundw
            case rel => exact ⟨k + 1, t6, tb5, by go_num, by omega, by rw [HNEXT.out, wr_ok HW.out, HMX.out, wr_ok HW1.out, wr_ok HW2.out, wr_ok HW3.out, wr_ok HW4.out, catO_nil]; exact hw5, hp5, HT0.out _ (ht_trans (HG3.out.trans HJG.out HT3.out) (ht_trans HG3.out HT3.out HJT.out) ht5), HXI.out.trans hg5 (HT0.out _ (ht_trans HG3.out HT3.out HJT.out))⟩
            case measure => simp [RowKit.intOf]; omega
    · have hkk : k = f.length := by omega
      have hw := HW.out
      rw [hkk, List.take_length] at hw
      go_wp2_with fail
      go_end0
      exact PG.of_ok hw (HGX.out.trans0 HG.out) HK.out (HT.out.imp id fun e g eg => Nat.le_trans HGX.out.size (e g eg))
end Sy
end Go.Proofs.YtggeepimihhpjaaGreatDoor

namespace Go.Proofs.YtggeepimihhpjaaGreatDoor
open Go.RowKit Go.Shelf Go.Lib Sl Fr Lx
namespace Sy
set_option linter.unusedVariables false
set_option linter.unusedSimpArgs false

theorem inj_of {α β : Type} {f : α → β} : ∀ {l : List α}, (l.map f).Nodup → ∀ a ∈ l, ∀ b ∈ l, f a = f b → a = b
  | [], _, a, ha, _, _, _ => by cases ha
  | x :: l, h, a, ha, b, hb, e => by
    rw [List.map_cons, List.nodup_cons] at h
    rcases List.mem_cons.1 ha with rfl | ha' <;> rcases List.mem_cons.1 hb with rfl | hb'
    · rfl
    · exact absurd (List.mem_map_of_mem (f := f) hb') (by rw [← e]; exact h.1)
    · exact absurd (List.mem_map_of_mem (f := f) ha') (by rw [e]; exact h.1)
    · exact inj_of h.2 a ha' b hb' e
def EX (e : MapEntry) (x : By × Int) : Prop := e.key = .string ⟨x.1.toArray⟩ ∧ e.val = .int .i64 x.2
theorem ops_inj : ∀ x ∈ opsT, ∀ y ∈ opsT, x.2 = y.2 → x = y := by decide
theorem es_some {es : Array MapEntry} (h : es.toList.map (fun e => (e.key, e.val)) = opsE.map (fun p => (Value.string ⟨p.1.toArray⟩, p.2))) {e : MapEntry} (he : e ∈ es.toList) : ∃ x ∈ opsT, EX e x := by
  have h1 : (e.key, e.val) ∈ es.toList.map (fun e => (e.key, e.val)) := List.mem_map_of_mem he
  rw [h] at h1
  unfold opsE at h1
  rw [List.map_map] at h1
  obtain ⟨x, hx, e1⟩ := List.mem_map.1 h1
  injection e1 with e1 e2
  exact ⟨x, hx, e1.symm, e2.symm⟩
theorem es_all {es : Array MapEntry} (h : es.toList.map (fun e => (e.key, e.val)) = opsE.map (fun p => (Value.string ⟨p.1.toArray⟩, p.2))) {x : By × Int} (hx : x ∈ opsT) : ∃ e ∈ es.toList, EX e x := by
  have h1 : (Value.string ⟨x.1.toArray⟩, Value.int .i64 x.2) ∈ opsE.map (fun p => (Value.string ⟨p.1.toArray⟩, p.2)) := by
    unfold opsE
    rw [List.map_map]
    exact List.mem_map.2 ⟨x, hx, rfl⟩
  rw [← h] at h1
  obtain ⟨e, he, e1⟩ := List.mem_map.1 h1
  injection e1 with e1 e2
  exact ⟨e, he, e1, e2⟩
theorem es_one {es : Array MapEntry} (h : es.toList.map (fun e => (e.key, e.val)) = opsE.map (fun p => (Value.string ⟨p.1.toArray⟩, p.2))) {e e' : MapEntry} (he : e ∈ es.toList) (he' : e' ∈ es.toList) {x : By × Int} (h1 : EX e x) (h2 : EX e' x) : e = e' := by
  refine inj_of (f := fun e : MapEntry => (e.key, e.val)) ?_ e he e' he' (by show (e.key, e.val) = (e'.key, e'.val); rw [h1.1, h1.2, h2.1, h2.2])
  rw [h]
  unfold opsE
  rw [List.map_map, List.Nodup, List.pairwise_map]
  refine (show opsT.Pairwise (fun a b => a.2 ≠ b.2) by decide).imp ?_
  intro a b hab e
  injection e with _ e
  injection e with _ e
  exact hab e
def swp (x : By × Int) : Int × By := (x.2, x.1)
theorem findI_none {xs : List (By × Int)} {z : Int} (h : ∀ x ∈ xs, x.2 ≠ z) : findI z (xs.map swp) = none := by
  induction xs with
  | nil => rfl
  | cons x r ih =>
    show (if x.2 = z then _ else findI z (r.map swp)) = none
    rw [if_neg (h x (by simp))]
    exact ih fun y hy => h y (List.mem_cons_of_mem _ hy)
theorem findI_mem {xs : List (By × Int)} {z : Int} {v : By} (h : findI z (xs.map swp) = some v) : (v, z) ∈ xs := by
  induction xs with
  | nil => cases h
  | cons x r ih =>
    have h' : (if x.2 = z then some x.1 else findI z (r.map swp)) = some v := h
    split at h'
    · rename_i e
      injection h' with h'
      subst e; subst h'
      exact List.mem_cons_self
    · exact List.mem_cons_of_mem _ (ih h')
theorem findI_some {xs : List (By × Int)} {z : Int} {v : By} (h : (v, z) ∈ xs) : findI z (xs.map swp) ≠ none := by
  induction xs with
  | nil => cases h
  | cons x r ih =>
    show (if x.2 = z then some x.1 else findI z (r.map swp)) ≠ none
    split
    · simp
    · rename_i hne
      rcases List.mem_cons.1 h with e | e
      · subst e; exact absurd rfl hne
      · exact ih e
theorem sign_find : ∀ (l : List (By × Int)) (z : Int), findI z (l.map swp) = (l.find? fun x => x.2 == z).map Prod.fst
  | [], z => rfl
  | x :: r, z => by
    show (if x.2 = z then some x.1 else findI z (r.map swp)) = _
    rw [List.find?_cons]
    by_cases h : x.2 = z
    · rw [if_pos h, show (x.2 == z) = true by simp [h]]; rfl
    · rw [if_neg h, show (x.2 == z) = false by simp [h]]; exact sign_find r z
theorem signs_of {xs : List (By × Int)} (h1 : ∀ x ∈ xs, x ∈ opsT) (h2 : ∀ x ∈ opsT, x ∈ xs) (z : Int) : findI z (xs.map swp) = signX z := by
  unfold signX
  rw [← sign_find]
  cases h : findI z (xs.map swp) with
  | none =>
    cases h' : findI z (opsT.map swp) with
    | none => rfl
    | some v => exact absurd h (findI_some (h2 _ (findI_mem h')))
  | some v =>
    have hm := h1 _ (findI_mem h)
    cases h' : findI z (opsT.map swp) with
    | none => exact absurd h' (findI_some hm)
    | some v' =>
      have := ops_inj _ hm _ (findI_mem h') rfl
      injection this with this
      rw [this]
def NpAt (es : Array MapEntry) (clock base qb mS mO it : Nat) (w W : World) : Prop :=
  ∃ (seen : Array Nat) (c0 : Nat) (xs : List (By × Int)), W.heap[it]? = some (.mapIter (some mO) clock seen c0) ∧ clock ≤ c0 ∧ W.heap[mO]? = some (.map es clock) ∧ BoxL W qb #[.slice none 0 0, .map (some mS)] ∧ MapI W mS (xs.map swp) ∧ Below base w W ∧
    (∀ e ∈ es.toList, ∀ x ∈ opsT, EX e x → (seen.contains e.born = true ↔ x ∈ xs)) ∧ ∀ x ∈ xs, x ∈ opsT

set_option maxRecDepth 100000 in
set_option maxHeartbeats 4000000 in
theorem newPrinter_any (w : World) : Calls Tryz.prog 60 #[] w fun e w' => ∃ qb mS, e = .returned (.pointer (some ⟨qb, 0, none⟩)) ∧ BoxL w' qb #[.slice none 0 0, .map (some mS)] ∧ SignM w' mS ∧ w.heap.size ≤ qb ∧ w.heap.size ≤ mS ∧ mS ≠ qb ∧ Below w.heap.size w w' := by
  have HO := Lib.hid operators_any
  have hmm := @run_makeMap Tryz.prog
  go_enter Tryz.func60, Tryz.ntmps60
  go_upto_region 2 with fail
  have hsz : (w.alloc (.map #[] 0)).heap.size = w.heap.size + 1 := by simp
  obtain ⟨mQ, bQ⟩ := startO (w.alloc (.map #[] 0)) #[.slice none 0 0, .map (some w.heap.size)] 131
  have hM2 := (MapI.made w).of_block (heap_alloc_old (w.alloc (.map #[] 0)) (.cells #[.slice none 0 0, .map (some w.heap.size)] 131) (by rw [hsz]; omega))
  have hb : Below w.heap.size w ((w.alloc (.map #[] 0)).alloc (.cells #[.slice none 0 0, .map (some w.heap.size)] 131)) := ((Below.refl _ w).alloc (Nat.le_refl _) _).alloc (by simp) _
  rw [hsz] at mQ
  generalize hXe : (w.alloc (.map #[] 0)).alloc (.cells #[.slice none 0 0, .map (some w.heap.size)] 131) = X at *
  clear hXe hmm hsz bQ
  obtain ⟨mS, hmS⟩ : ∃ b, b = w.heap.size := ⟨_, rfl⟩
  obtain ⟨base, hbase⟩ : ∃ b, b = w.heap.size := ⟨_, rfl⟩
  have HXQ := Lib.hid mQ.boxL
  have HXM := Lib.hid hM2
  have HXB := Lib.hid hb
  have hlq := mQ.lt
  clear mQ hM2 hb hmS hbase
  go_wp2_with (go_at_call 85; refine (HO.out _).mono ?_; rintro e w5 ⟨mO, rfl, ⟨es, clock, h1, h2, h3, h4⟩, hleO, hbO⟩; have hrg := run_range_map (P := Tryz.prog) w5 163 9 3 mO es clock Tryz.underlying163 h1)
  have hs5 := hbO.size
  have hlO : mO < w5.heap.size := (Array.getElem?_eq_some_iff.1 h1).1
  have b5 := (Below.refl _ w5).alloc (Nat.le_refl _) (.mapIter (some mO) clock #[] clock)
  have H0 : Hid (NpAt es clock w.heap.size (w.heap.size + 1) w.heap.size mO w5.heap.size w (w5.alloc (.mapIter (some mO) clock #[] clock))) := Lib.hid ⟨#[], clock, [], heap_alloc_new _ _, Nat.le_refl _, (heap_alloc_old _ _ hlO).trans h1, (HXQ.out.keep hbO).keep b5, (HXM.out.of_block (hbO.block _ (by omega))).of_block (heap_alloc_old _ _ (by omega)), (HXB.out.trans (hbO.mono HXB.out.size)).trans (b5.mono (Nat.le_trans HXB.out.size hs5)), fun e he x hx h => by simp, fun x hx => by cases hx⟩
  have H2 := Lib.hid h2
  have H3 := Lib.hid h3
  have H4 := Lib.hid h4
  clear h1 h2 h3 h4 hrg hbO b5 HXQ HXM HXB HO
  obtain ⟨it, hit⟩ : ∃ b, b = w5.heap.size := ⟨_, rfl⟩
  rw [← hit] at H0 hs5 hlO ⊢
  generalize w5.alloc (.mapIter (some mO) clock #[] clock) = W6 at *
  clear hit
  go_loopw [] (NpAt es clock w.heap.size (w.heap.size + 1) w.heap.size mO it w) (fun W => (leftOf es (W.iterSeen it)).size)
  case atStart => exact H0.out
  case round =>
    obtain ⟨seen, c0, xs, i1, i2, i3, i4, i5, i6, i7, i8⟩ := hrel
    have hlI : it < wr.heap.size := (Array.getElem?_eq_some_iff.1 i1).1
    have hsn : wr.iterSeen it = seen := by unfold World.iterSeen; rw [i1]
    have law := run_next_at (P := Tryz.prog) wr 0 it mO clock c0 seen es clock i1 i3 H3.out i2
    have HB := Lib.hid i4
    have HMI := Lib.hid i5
    have HBL := Lib.hid i6
    have H7 := Lib.hid i7
    have H8 := Lib.hid i8
    clear i4 i5 i6 i7 i8
    rcases law with ⟨h0, hrun⟩ | ⟨e, he, w1, hw1, hrun⟩
    · have hnx : ∀ ty, (Instr.next (.pointer (some ⟨it, 0, none⟩)) false ty).run Tryz.prog wr = _ := fun _ => hrun
      go_wp2_with fail
      go_ret
      refine ⟨w.heap.size + 1, w.heap.size, rfl, HB.out, ⟨_, HMI.out, signs_of H8.out fun x hx => ?_⟩, by omega, Nat.le_refl _, by omega, HBL.out⟩
      obtain ⟨e, he, hx2⟩ := es_all H2.out hx
      exact (H7.out e he x hx hx2).1 (all_seen es seen h0 e he)
    · obtain ⟨hee, hes⟩ := mem_left he
      have hshr := left_shrinks es seen e he
      obtain ⟨x, hx, hk, hv⟩ := es_some H2.out hee
      have hxn : x ∉ xs := fun h => by have := (H7.out e hee x hx ⟨hk, hv⟩).2 h; rw [hes] at this; cases this
      rw [hk, hv] at hrun
      have hg1 : wr.grownBy (ChangeMaps.setBlock w1 it (.mapIter (some mO) clock (seen.push e.born) clock)) (some it) := by
        have q : ∀ i, i ≠ it → (ChangeMaps.setBlock w1 it (.mapIter (some mO) clock (seen.push e.born) clock)).heap[i]? = w1.heap[i]? := fun i hi => by
          show (w1.heap.setIfInBounds it _)[i]? = _
          rw [Array.getElem?_setIfInBounds_ne (fun e => hi e.symm)]
        rcases hw1 with rfl | rfl
        · exact ⟨rfl, rfl, rfl, by simp [ChangeMaps.setBlock], fun i hi hne => q i (fun e => hne (by rw [e]))⟩
        · exact ⟨rfl, rfl, rfl, by simp [ChangeMaps.setBlock], fun i hi hne => (q i (fun e => hne (by rw [e]))).trans rfl⟩
      have k1 : (ChangeMaps.setBlock w1 it (.mapIter (some mO) clock (seen.push e.born) clock)).heap[it]? = some (.mapIter (some mO) clock (seen.push e.born) clock) := by
        show (w1.heap.setIfInBounds it _)[it]? = _
        have : it < w1.heap.size := by rcases hw1 with rfl | rfl <;> exact hlI
        simp [this]
      generalize ChangeMaps.setBlock w1 it (.mapIter (some mO) clock (seen.push e.born) clock) = W1 at *
      have k3 : W1.heap[mO]? = some (.map es clock) := (hg1.block mO (by omega) (fun e => by injection e; omega)).trans i3
      have hen := run_entry_at (P := Tryz.prog) W1 it mO clock seen es clock e k1 k3 hee H4.out
      rw [hk, hv] at hen
      have hB1 := HB.out.grown hg1 (fun e => by injection e; omega)
      have cq := hB1.c2.2
      have hM1 := HMI.out.of_block (hg1.block _ HMI.out.lt (fun e => by injection e; omega))
      obtain ⟨o', hup, hM2⟩ := hM1.insert (P := Tryz.prog) (t := 129) (k := 3) (e := 9) Tryz.underlying129 Tryz.underlying3 x.2 x.1 (findI_none fun y hy e => hxn (by rw [← ops_inj y (H8.out y hy) x hx e]; exact hy))
      have hnx : ∀ ty, (Instr.next (.pointer (some ⟨it, 0, none⟩)) false ty).run Tryz.prog wr = _ := fun _ => hrun
      have hg2 : W1.grownBy { W1 with heap := W1.heap.setIfInBounds w.heap.size o' } (some w.heap.size) := ⟨rfl, rfl, rfl, by simp, fun i hi hne => by
        show (W1.heap.setIfInBounds w.heap.size o')[i]? = _
        rw [Array.getElem?_setIfInBounds_ne (fun e => hne (by rw [e]))]⟩
      have HG1 := Lib.hid hg1
      have HG2 := Lib.hid hg2
      have HB1 := Lib.hid hB1
      have HM2 := Lib.hid hM2
      have K1 := Lib.hid k1
      have K3 := Lib.hid k3
      have I2 := Lib.hid i2
      have HS := Lib.hid hsn
      have HE := Lib.hid hshr
      have HLI := Lib.hid (Nat.lt_of_lt_of_le hlI hg1.size)
      clear hrun hg1 hg2 hB1 hM1 hM2 k1 k3 i1 i2 i3 hsn hshr hes he hw1
      generalize hWE : ({ W1 with heap := W1.heap.setIfInBounds w.heap.size o' } : World) = W2 at *
      clear hWE
      go_wp2_with fail
      have j1 : W2.heap[it]? = some (.mapIter (some mO) clock (seen.push e.born) clock) := (HG2.out.block it HLI.out (fun e => by injection e; omega)).trans K1.out
      go_roundw
      case rel =>
        refine ⟨seen.push e.born, clock, xs ++ [x], j1, Nat.le_refl _, (HG2.out.block mO (Nat.lt_trans hlO HLI.out) (fun e => by injection e; omega)).trans K3.out, HB1.out.grown HG2.out (fun e => by injection e; omega), by rw [List.map_append]; exact HM2.out, ?_, fun e' he' x' hx' hex => ?_, fun y hy => ?_⟩
        · have hb0 := HBL.out.size
          have hb1 := HG1.out.size
          exact (HBL.out.grown HG1.out hb0 (fun k e => by injection e; omega)).grown HG2.out (by omega) (fun k e => by injection e; omega)
        · have h7 := H7.out e' he' x' hx' hex
          have hbx : e'.born = e.born ↔ x' = x := by
            constructor
            · intro hb
              have := inj_of H4.out e' he' e hee hb
              subst this
              refine ops_inj x' hx' x hx ?_
              have q := hex.2
              rw [hv] at q
              injection q with _ q
              exact q.symm
            · intro hxx
              subst hxx
              rw [es_one H2.out he' hee hex ⟨hk, hv⟩]
          rw [List.mem_append, List.mem_singleton, ← h7, ← hbx, Array.contains_push]
          simp [or_comm]
        · rcases List.mem_append.1 hy with h | h
          · exact H8.out y h
          · rw [List.mem_singleton.1 h]; exact hx
      case measure =>
        have : W2.iterSeen it = seen.push e.born := by unfold World.iterSeen; rw [j1]
        rw [this, HS.out]
        exact HE.out
end Sy
end Go.Proofs.YtggeepimihhpjaaGreatDoor
