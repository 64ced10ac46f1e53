/- The closures that the printer's list calls. -/
import Derived.Test.YtggeepimihhpjaaGreatDoorTB
import Derived.Test.YtggeepimihhpjaaGreatDoorTA
namespace Go.Proofs.YtggeepimihhpjaaGreatDoor
open Go.RowKit Go.Shelf Go.Lib Sl Fr Lx
namespace Sy
set_option linter.unusedVariables false
set_option linter.unusedSimpArgs false

theorem numsC_get : ∀ {l : List NumT} {k : Nat} {x : NumT}, l[k]? = some x → (numsC l)[k * 2]? = some (.int .i64 x.n) ∧ (numsC l)[k * 2 + 1]? = some (.string ⟨x.p.toArray⟩)
  | [], k, x, h => by cases h
  | y :: l, 0, x, h => by
    simp only [List.getElem?_cons_zero, Option.some.injEq] at h
    subst h
    exact ⟨rfl, rfl⟩
  | y :: l, k + 1, x, h => by
    have h2 : l[k]? = some x := h
    obtain ⟨h3, h4⟩ := numsC_get h2
    rw [show (k + 1) * 2 = k * 2 + 2 by omega, show k * 2 + 2 + 1 = (k * 2 + 1) + 2 by omega]
    exact ⟨h3, h4⟩
theorem bindsC_get : ∀ {l : List BindT} {k : Nat} {x : BindT}, l[k]? = some x → (bindsC l)[k * 2]? = some (.string ⟨x.port.toArray⟩) ∧ (bindsC l)[k * 2 + 1]? = some (.string ⟨x.chan.toArray⟩)
  | [], k, x, h => by cases h
  | y :: l, 0, x, h => by
    simp only [List.getElem?_cons_zero, Option.some.injEq] at h
    subst h
    exact ⟨rfl, rfl⟩
  | y :: l, k + 1, x, h => by
    have h2 : l[k]? = some x := h
    obtain ⟨h3, h4⟩ := bindsC_get h2
    rw [show (k + 1) * 2 = k * 2 + 2 by omega, show k * 2 + 2 + 1 = (k * 2 + 1) + 2 by omega]
    exact ⟨h3, h4⟩
theorem FR.get {w : World} {S : Nat → Prop} {A : Option Addr} {cs : List Value} (h : FR w S A cs) {j : Nat} {u : Value} (hj : cs[j]? = some u) : ∃ b o, A = some ⟨b, o, none⟩ ∧ b < w.heap.size ∧ ∀ j u, cs[j]? = some u → w.cell? ⟨b, o + j, none⟩ = some u := by
  obtain ⟨b, o, h1, _, h2, h3⟩ := h (by intro e; subst e; cases hj)
  exact ⟨b, o, h1, h2, h3⟩

set_option maxRecDepth 100000 in
set_option maxHeartbeats 4000000 in
theorem cl_item1 (base qb a1 a2 : Nat) (tb : Option Nat) (t : By) (l : List NumT) (z : Array Value) (A : Option Addr) (c k : Nat) (x : NumT) (hk : l[k]? = some x) (hx : I64 x.n) (W : World) (h : PP W base qb tb t) (h1 : BoxL W a1 #[.pointer (some ⟨qb, 0, none⟩)]) (h2 : BoxO W a2 z 69) (hz : z[33]? = some (.slice A l.length c)) (hA : FR W (fun b => b < base) A (numsC l)) :
    Calls Tryz.prog 169 #[.int .i64 (k : Int), .pointer (some ⟨a1, 0, none⟩), .pointer (some ⟨a2, 0, none⟩)] W (PG base qb tb t (some (numX x)) W) := by
  have hlt := (List.getElem?_eq_some_iff.1 hk).1
  obtain ⟨g0, g1⟩ := numsC_get hk
  obtain ⟨b, o, rfl, hb, hc⟩ := hA.get g0
  have e0 := hc _ _ g0
  have e1 := hc _ _ g1
  have c1 := h1.c1
  have c2 := h2.cell hz
  have l1 := h1.lt
  have l2 := h2.lt
  have HX := Lib.hid h
  have z1 : ∀ wz, Below W.heap.size W wz → wz.cell? ⟨a1, 0, none⟩ = some (.pointer (some ⟨qb, 0, none⟩)) := fun wz hz => (hz.cell (p := ⟨a1, 0, none⟩) l1).trans c1
  have z2 : ∀ wz, Below W.heap.size W wz → wz.cell? ⟨a2, 33, none⟩ = some (.slice (some ⟨b, o, none⟩) l.length c) := fun wz hz => (hz.cell (p := ⟨a2, 33, none⟩) l2).trans c2
  have z3 : ∀ wz, Below W.heap.size W wz → wz.cell? ⟨b, o + k * 2, none⟩ = some (.int .i64 x.n) := fun wz hz => (hz.cell (p := ⟨b, o + k * 2, none⟩) hb).trans e0
  have z4 : ∀ wz, Below W.heap.size W wz → wz.cell? ⟨b, o + k * 2 + 1, none⟩ = some (.string ⟨x.p.toArray⟩) := fun wz hz => (hz.cell (p := ⟨b, o + k * 2 + 1, none⟩) hb).trans (by have q := e1; rwa [← Nat.add_assoc] at q)
  have HGW : Hid (GP W W qb tb) := Lib.hid (GP.refl _ _ _)
  have HF : Hid (some (numX x) = seqO [some (numX x)]) := Lib.hid (catO_nil _).symm
  have i0 : ¬ (k : Int) < 0 := by omega
  have i1 : (k : Int) < (l.length : Int) := by omega
  generalize l.length = n at *
  clear h h1 h2 hz hA hk hc hlt g0 g1 e0 e1 c1 c2
  go_enter Tryz.func169, Tryz.ntmps169
  refine wp_region_flow 8 [.det (.pointer (some ⟨qb, 0, none⟩)), .det (.pointer (some ⟨a2, 33, none⟩)), .det (.slice ((some ⟨b, o, none⟩)) n c), .det (.int .i64 ((k : Int))), .det (.pointer (some ⟨b, o + k * 2, none⟩)), .det (.agg #[.int .i64 x.n, .string ⟨x.p.toArray⟩]), .det (.iface 60 (.agg #[.int .i64 x.n, .string ⟨x.p.toArray⟩])), partsS 1 #[.iface 60 (.agg #[.int .i64 x.n, .string ⟨x.p.toArray⟩])]] (by kernel_rfl) (by kernel_rfl) rfl ?_
  simp only [List.take_succ_cons, List.take_zero, List.drop_succ_cons, List.drop_zero]
  refine flowL_det (fun wz hz hd => stepF_reads (by rfl) ?_) ?_
  · have q := z1 wz hz; go_simp; try rfl
  simp only [Act.put, List.setIfInBounds_toArray, List.set_cons_zero, List.set_cons_succ]
  refine flowL_det (fun wz hz hd => stepF_reads (by rfl) ?_) ?_
  · go_simp; try rfl
  simp only [Act.put, List.setIfInBounds_toArray, List.set_cons_zero, List.set_cons_succ]
  refine flowL_det (fun wz hz hd => stepF_reads (by rfl) ?_) ?_
  · have q := z2 wz hz; go_simp; try rfl
  simp only [Act.put, List.setIfInBounds_toArray, List.set_cons_zero, List.set_cons_succ]
  refine flowL_det (fun wz hz hd => stepF_reads (by rfl) ?_) ?_
  · go_simp; try rfl
  simp only [Act.put, List.setIfInBounds_toArray, List.set_cons_zero, List.set_cons_succ]
  refine flowL_det (fun wz hz hd => stepF_reads (by rfl) ?_) ?_
  · go_simp; try rfl
  simp only [Act.put, List.setIfInBounds_toArray, List.set_cons_zero, List.set_cons_succ]
  refine flowL_det (fun wz hz hd => stepF_reads (by rfl) ?_) ?_
  · have q0 := z3 wz hz; have q1 := z4 wz hz; go_simp; try rfl
  simp only [Act.put, List.setIfInBounds_toArray, List.set_cons_zero, List.set_cons_succ]
  refine flowL_det (fun wz hz hd => stepF_reads (by rfl) ?_) ?_
  · go_simp; try rfl
  simp only [Act.put, List.setIfInBounds_toArray, List.set_cons_zero, List.set_cons_succ]
  refine flowL_make (⟨_, 0, rfl⟩) (fun wz hz hd => stepF_walk (by rfl) (fun K hK => ?_)) (fun v hv => ?_)
  · go_simp
    refine hK.out _ _ ⟨_, rfl⟩ (fun B e => ?_) ((Below.refl _ _).alloc (Nat.le_refl _) _)
    cases e
    exact ⟨rfl, BoxL.new _ _ _⟩
  obtain ⟨BS, rfl⟩ := hv
  simp only [Act.put, List.setIfInBounds_toArray, List.set_cons_zero, List.set_cons_succ]
  intro W3 pp hb3 hF hap
  obtain ⟨hD, hD1⟩ := hF 7 (by decide)
  obtain ⟨hBS, hBX⟩ := hD.post BS rfl
  have hBX3 := hBX.keep hD.since
  have hBS2 := hD1.size
  rw [← hBS] at hBS2
  clear hF hap hD hD1 hBS hBX
  cases hw : wr (seqO [some (numX x)]) t with
  | none =>
    have HC := Lib.hid (pg_no (write_at HX.out hb3 hBS2 hBX3 [.n x] ⟨⟨hx, rfl⟩, trivial⟩ (by intro p hp; simp only [List.mem_cons, List.not_mem_nil, or_false] at hp; rcases hp with rfl <;> first | exact trivial | exact num_pr _) 1 rfl (by omega)) hw)
    go_wp2_with (go_at_call 109; with_reducible refine HC.out.mono ?_; rintro e w9 ⟨rfl, hg9⟩)
    exact ⟨rfl, PG.of_no (by rw [HF.out]; exact hw) ((HGW.out).trans0 hg9)⟩
  | some t2 =>
    have HC := Lib.hid (pg_ok (write_at HX.out hb3 hBS2 hBX3 [.n x] ⟨⟨hx, rfl⟩, trivial⟩ (by intro p hp; simp only [List.mem_cons, List.not_mem_nil, or_false] at hp; rcases hp with rfl <;> first | exact trivial | exact num_pr _) 1 rfl (by omega)) hw)
    go_wp2_with (go_at_call 109; with_reducible refine HC.out.mono ?_; rintro e w9 ⟨rfl, tb9, hp9, ht9, hg9⟩)
    go_end0
    exact PG.of_ok (by rw [HF.out]; exact hw) ((HGW.out).trans0 hg9) hp9 (ht9.imp id fun e g eg => Nat.le_trans (HGW.out).size (e g eg))

set_option maxRecDepth 100000 in
set_option maxHeartbeats 4000000 in
theorem cl_item2 (base qb a1 a2 : Nat) (tb : Option Nat) (t : By) (l : List BindT) (z : Array Value) (A : Option Addr) (c k : Nat) (x : BindT) (hk : l[k]? = some x) (W : World) (h : PP W base qb tb t) (h1 : BoxL W a1 #[.pointer (some ⟨qb, 0, none⟩)]) (h2 : BoxO W a2 z 69) (hz : z[34]? = some (.slice A l.length c)) (hA : FR W (fun b => b < base) A (bindsC l)) :
    Calls Tryz.prog 170 #[.int .i64 (k : Int), .pointer (some ⟨a1, 0, none⟩), .pointer (some ⟨a2, 0, none⟩)] W (PG base qb tb t (bindX x) W) := by
  have hlt := (List.getElem?_eq_some_iff.1 hk).1
  obtain ⟨g0, g1⟩ := bindsC_get hk
  obtain ⟨b, o, rfl, hb, hc⟩ := hA.get g0
  have e0 := hc _ _ g0
  have e1 := hc _ _ g1
  have c1 := h1.c1
  have c2 := h2.cell hz
  have l1 := h1.lt
  have l2 := h2.lt
  have HX := Lib.hid h
  have z1 : ∀ wz, Below W.heap.size W wz → wz.cell? ⟨a1, 0, none⟩ = some (.pointer (some ⟨qb, 0, none⟩)) := fun wz hz => (hz.cell (p := ⟨a1, 0, none⟩) l1).trans c1
  have z2 : ∀ wz, Below W.heap.size W wz → wz.cell? ⟨a2, 34, none⟩ = some (.slice (some ⟨b, o, none⟩) l.length c) := fun wz hz => (hz.cell (p := ⟨a2, 34, none⟩) l2).trans c2
  have z3 : ∀ wz, Below W.heap.size W wz → wz.cell? ⟨b, o + k * 2, none⟩ = some (.string ⟨x.port.toArray⟩) := fun wz hz => (hz.cell (p := ⟨b, o + k * 2, none⟩) hb).trans e0
  have z4 : ∀ wz, Below W.heap.size W wz → wz.cell? ⟨b, o + k * 2 + 1, none⟩ = some (.string ⟨x.chan.toArray⟩) := fun wz hz => (hz.cell (p := ⟨b, o + k * 2 + 1, none⟩) hb).trans (by have q := e1; rwa [← Nat.add_assoc] at q)
  have HGW : Hid (GP W W qb tb) := Lib.hid (GP.refl _ _ _)
  have HF : Hid (bindX x = seqO [some x.port, some [32, 61, 32], some x.chan]) := Lib.hid rfl
  have i0 : ¬ (k : Int) < 0 := by omega
  have i1 : (k : Int) < (l.length : Int) := by omega
  generalize l.length = n at *
  clear h h1 h2 hz hA hk hc hlt g0 g1 e0 e1 c1 c2
  go_enter Tryz.func170, Tryz.ntmps170
  refine wp_region_flow 17 [.det (.pointer (some ⟨qb, 0, none⟩)), .det (.pointer (some ⟨a2, 34, none⟩)), .det (.slice ((some ⟨b, o, none⟩)) n c), .det (.int .i64 ((k : Int))), .det (.pointer (some ⟨b, o + k * 2, none⟩)), .det (.pointer (some ⟨b, o + k * 2, none⟩)), .det (.string ⟨x.port.toArray⟩), .det (.iface 9 (.string ⟨x.port.toArray⟩)), .det (.iface 9 (.string ⟨#[32, 61, 32]⟩)), .det (.pointer (some ⟨a2, 34, none⟩)), .det (.slice ((some ⟨b, o, none⟩)) n c), .det (.int .i64 ((k : Int))), .det (.pointer (some ⟨b, o + k * 2, none⟩)), .det (.pointer (some ⟨b, o + k * 2 + 1, none⟩)), .det (.string ⟨x.chan.toArray⟩), .det (.iface 9 (.string ⟨x.chan.toArray⟩)), partsS 3 #[.iface 9 (.string ⟨x.port.toArray⟩), .iface 9 (.string ⟨#[32, 61, 32]⟩), .iface 9 (.string ⟨x.chan.toArray⟩)]] (by kernel_rfl) (by kernel_rfl) rfl ?_
  simp only [List.take_succ_cons, List.take_zero, List.drop_succ_cons, List.drop_zero]
  refine flowL_det (fun wz hz hd => stepF_reads (by rfl) ?_) ?_
  · have q := z1 wz hz; go_simp; try rfl
  simp only [Act.put, List.setIfInBounds_toArray, List.set_cons_zero, List.set_cons_succ]
  refine flowL_det (fun wz hz hd => stepF_reads (by rfl) ?_) ?_
  · go_simp; try rfl
  simp only [Act.put, List.setIfInBounds_toArray, List.set_cons_zero, List.set_cons_succ]
  refine flowL_det (fun wz hz hd => stepF_reads (by rfl) ?_) ?_
  · have q := z2 wz hz; go_simp; try rfl
  simp only [Act.put, List.setIfInBounds_toArray, List.set_cons_zero, List.set_cons_succ]
  refine flowL_det (fun wz hz hd => stepF_reads (by rfl) ?_) ?_
  · go_simp; try rfl
  simp only [Act.put, List.setIfInBounds_toArray, List.set_cons_zero, List.set_cons_succ]
  refine flowL_det (fun wz hz hd => stepF_reads (by rfl) ?_) ?_
  · go_simp; try rfl
  simp only [Act.put, List.setIfInBounds_toArray, List.set_cons_zero, List.set_cons_succ]
  refine flowL_det (fun wz hz hd => stepF_reads (by rfl) ?_) ?_
  · go_simp; try rfl
  simp only [Act.put, List.setIfInBounds_toArray, List.set_cons_zero, List.set_cons_succ]
  refine flowL_det (fun wz hz hd => stepF_reads (by rfl) ?_) ?_
  · have q := z3 wz hz; go_simp; try rfl
  simp only [Act.put, List.setIfInBounds_toArray, List.set_cons_zero, List.set_cons_succ]
  refine flowL_det (fun wz hz hd => stepF_reads (by rfl) ?_) ?_
  · go_simp; try rfl
  simp only [Act.put, List.setIfInBounds_toArray, List.set_cons_zero, List.set_cons_succ]
  refine flowL_det (fun wz hz hd => stepF_reads (by rfl) ?_) ?_
  · go_simp; try rfl
  simp only [Act.put, List.setIfInBounds_toArray, List.set_cons_zero, List.set_cons_succ]
  refine flowL_det (fun wz hz hd => stepF_reads (by rfl) ?_) ?_
  · go_simp; try rfl
  simp only [Act.put, List.setIfInBounds_toArray, List.set_cons_zero, List.set_cons_succ]
  refine flowL_det (fun wz hz hd => stepF_reads (by rfl) ?_) ?_
  · have q := z2 wz hz; go_simp; try rfl
  simp only [Act.put, List.setIfInBounds_toArray, List.set_cons_zero, List.set_cons_succ]
  refine flowL_det (fun wz hz hd => stepF_reads (by rfl) ?_) ?_
  · go_simp; try rfl
  simp only [Act.put, List.setIfInBounds_toArray, List.set_cons_zero, List.set_cons_succ]
  refine flowL_det (fun wz hz hd => stepF_reads (by rfl) ?_) ?_
  · go_simp; try rfl
  simp only [Act.put, List.setIfInBounds_toArray, List.set_cons_zero, List.set_cons_succ]
  refine flowL_det (fun wz hz hd => stepF_reads (by rfl) ?_) ?_
  · go_simp; try rfl
  simp only [Act.put, List.setIfInBounds_toArray, List.set_cons_zero, List.set_cons_succ]
  refine flowL_det (fun wz hz hd => stepF_reads (by rfl) ?_) ?_
  · have q := z4 wz hz; go_simp; try rfl
  simp only [Act.put, List.setIfInBounds_toArray, List.set_cons_zero, List.set_cons_succ]
  refine flowL_det (fun wz hz hd => stepF_reads (by rfl) ?_) ?_
  · go_simp; try rfl
  simp only [Act.put, List.setIfInBounds_toArray, List.set_cons_zero, List.set_cons_succ]
  refine flowL_make (⟨_, 0, rfl⟩) (fun wz hz hd => stepF_walk (by rfl) (fun K hK => ?_)) (fun v hv => ?_)
  · go_simp
    refine hK.out _ _ ⟨_, rfl⟩ (fun B e => ?_) ((Below.refl _ _).alloc (Nat.le_refl _) _)
    cases e
    exact ⟨rfl, BoxL.new _ _ _⟩
  obtain ⟨BS, rfl⟩ := hv
  simp only [Act.put, List.setIfInBounds_toArray, List.set_cons_zero, List.set_cons_succ]
  intro W3 pp hb3 hF hap
  obtain ⟨hD, hD1⟩ := hF 16 (by decide)
  obtain ⟨hBS, hBX⟩ := hD.post BS rfl
  have hBX3 := hBX.keep hD.since
  have hBS2 := hD1.size
  rw [← hBS] at hBS2
  clear hF hap hD hD1 hBS hBX
  cases hw : wr (seqO [some x.port, some [32, 61, 32], some x.chan]) t with
  | none =>
    have HC := Lib.hid (pg_no (write_at HX.out hb3 hBS2 hBX3 [.s x.port, .s [32, 61, 32], .s x.chan] ⟨rfl, rfl, rfl, trivial⟩ (by intro p hp; simp only [List.mem_cons, List.not_mem_nil, or_false] at hp; rcases hp with rfl | rfl | rfl <;> first | exact trivial | exact num_pr _) 3 rfl (by omega)) hw)
    go_wp2_with (go_at_call 109; with_reducible refine HC.out.mono ?_; rintro e w9 ⟨rfl, hg9⟩)
    exact ⟨rfl, PG.of_no (by rw [HF.out]; exact hw) ((HGW.out).trans0 hg9)⟩
  | some t2 =>
    have HC := Lib.hid (pg_ok (write_at HX.out hb3 hBS2 hBX3 [.s x.port, .s [32, 61, 32], .s x.chan] ⟨rfl, rfl, rfl, trivial⟩ (by intro p hp; simp only [List.mem_cons, List.not_mem_nil, or_false] at hp; rcases hp with rfl | rfl | rfl <;> first | exact trivial | exact num_pr _) 3 rfl (by omega)) hw)
    go_wp2_with (go_at_call 109; with_reducible refine HC.out.mono ?_; rintro e w9 ⟨rfl, tb9, hp9, ht9, hg9⟩)
    go_end0
    exact PG.of_ok (by rw [HF.out]; exact hw) ((HGW.out).trans0 hg9) hp9 (ht9.imp id fun e g eg => Nat.le_trans (HGW.out).size (e g eg))

set_option maxRecDepth 100000 in
set_option maxHeartbeats 4000000 in
theorem cl_file (base qb a1 a2 : Nat) (tb : Option Nat) (t : By) (l : List By) (z : Array Value) (A : Option Addr) (c k : Nat) (x : By) (hk : l[k]? = some x) (W : World) (h : PP W base qb tb t) (h1 : BoxL W a1 #[.pointer (some ⟨qb, 0, none⟩)]) (h2 : BoxO W a2 z 46) (hz : z[2]? = some (.slice A l.length c)) (hA : FR W (fun b => b < base) A (strsC l)) :
    Calls Tryz.prog 111 #[.int .i64 (k : Int), .pointer (some ⟨a1, 0, none⟩), .pointer (some ⟨a2, 0, none⟩)] W (PG base qb tb t (some x) W) := by
  have hlt := (List.getElem?_eq_some_iff.1 hk).1
  have g0 : (strsC l)[k]? = some (.string ⟨x.toArray⟩) := by unfold strsC; rw [List.getElem?_map, hk]; rfl
  obtain ⟨b, o, rfl, hb, hc⟩ := hA.get g0
  have e0 := hc _ _ g0

  have c1 := h1.c1
  have c2 := h2.cell hz
  have l1 := h1.lt
  have l2 := h2.lt
  have HX := Lib.hid h
  have z1 : ∀ wz, Below W.heap.size W wz → wz.cell? ⟨a1, 0, none⟩ = some (.pointer (some ⟨qb, 0, none⟩)) := fun wz hz => (hz.cell (p := ⟨a1, 0, none⟩) l1).trans c1
  have z2 : ∀ wz, Below W.heap.size W wz → wz.cell? ⟨a2, 2, none⟩ = some (.slice (some ⟨b, o, none⟩) l.length c) := fun wz hz => (hz.cell (p := ⟨a2, 2, none⟩) l2).trans c2
  have z3 : ∀ wz, Below W.heap.size W wz → wz.cell? ⟨b, o + k, none⟩ = some (.string ⟨x.toArray⟩) := fun wz hz => (hz.cell (p := ⟨b, o + k, none⟩) hb).trans e0
  have HGW : Hid (GP W W qb tb) := Lib.hid (GP.refl _ _ _)
  have HF : Hid (some x = seqO [some x]) := Lib.hid (catO_nil _).symm
  have i0 : ¬ (k : Int) < 0 := by omega
  have i1 : (k : Int) < (l.length : Int) := by omega
  generalize l.length = n at *
  clear h h1 h2 hz hA hk hc hlt g0 e0 c1 c2
  go_enter Tryz.func111, Tryz.ntmps111
  refine wp_region_flow 8 [.det (.pointer (some ⟨qb, 0, none⟩)), .det (.pointer (some ⟨a2, 2, none⟩)), .det (.slice ((some ⟨b, o, none⟩)) n c), .det (.int .i64 ((k : Int))), .det (.pointer (some ⟨b, o + k, none⟩)), .det (.string ⟨x.toArray⟩), .det (.iface 9 (.string ⟨x.toArray⟩)), partsS 1 #[.iface 9 (.string ⟨x.toArray⟩)]] (by kernel_rfl) (by kernel_rfl) rfl ?_
  simp only [List.take_succ_cons, List.take_zero, List.drop_succ_cons, List.drop_zero]
  refine flowL_det (fun wz hz hd => stepF_reads (by rfl) ?_) ?_
  · have q := z1 wz hz; go_simp; try rfl
  simp only [Act.put, List.setIfInBounds_toArray, List.set_cons_zero, List.set_cons_succ]
  refine flowL_det (fun wz hz hd => stepF_reads (by rfl) ?_) ?_
  · go_simp; try rfl
  simp only [Act.put, List.setIfInBounds_toArray, List.set_cons_zero, List.set_cons_succ]
  refine flowL_det (fun wz hz hd => stepF_reads (by rfl) ?_) ?_
  · have q := z2 wz hz; go_simp; try rfl
  simp only [Act.put, List.setIfInBounds_toArray, List.set_cons_zero, List.set_cons_succ]
  refine flowL_det (fun wz hz hd => stepF_reads (by rfl) ?_) ?_
  · go_simp; try rfl
  simp only [Act.put, List.setIfInBounds_toArray, List.set_cons_zero, List.set_cons_succ]
  refine flowL_det (fun wz hz hd => stepF_reads (by rfl) ?_) ?_
  · go_simp; try rfl
  simp only [Act.put, List.setIfInBounds_toArray, List.set_cons_zero, List.set_cons_succ]
  refine flowL_det (fun wz hz hd => stepF_reads (by rfl) ?_) ?_
  · have q := z3 wz hz; go_simp; try rfl
  simp only [Act.put, List.setIfInBounds_toArray, List.set_cons_zero, List.set_cons_succ]
  refine flowL_det (fun wz hz hd => stepF_reads (by rfl) ?_) ?_
  · go_simp; try rfl
  simp only [Act.put, List.setIfInBounds_toArray, List.set_cons_zero, List.set_cons_succ]
  refine flowL_make (⟨_, 0, rfl⟩) (fun wz hz hd => stepF_walk (by rfl) (fun K hK => ?_)) (fun v hv => ?_)
  · go_simp
    refine hK.out _ _ ⟨_, rfl⟩ (fun B e => ?_) ((Below.refl _ _).alloc (Nat.le_refl _) _)
    cases e
    exact ⟨rfl, BoxL.new _ _ _⟩
  obtain ⟨BS, rfl⟩ := hv
  simp only [Act.put, List.setIfInBounds_toArray, List.set_cons_zero, List.set_cons_succ]
  intro W3 pp hb3 hF hap
  obtain ⟨hD, hD1⟩ := hF 7 (by decide)
  obtain ⟨hBS, hBX⟩ := hD.post BS rfl
  have hBX3 := hBX.keep hD.since
  have hBS2 := hD1.size
  rw [← hBS] at hBS2
  clear hF hap hD hD1 hBS hBX
  cases hw : wr (seqO [some x]) t with
  | none =>
    have HC := Lib.hid (pg_no (write_at HX.out hb3 hBS2 hBX3 [.s x] ⟨rfl, trivial⟩ (by intro p hp; simp only [List.mem_cons, List.not_mem_nil, or_false] at hp; rcases hp with rfl <;> first | exact trivial | exact num_pr _) 1 rfl (by omega)) hw)
    go_wp2_with (go_at_call 109; with_reducible refine HC.out.mono ?_; rintro e w9 ⟨rfl, hg9⟩)
    exact ⟨rfl, PG.of_no (by rw [HF.out]; exact hw) ((HGW.out).trans0 hg9)⟩
  | some t2 =>
    have HC := Lib.hid (pg_ok (write_at HX.out hb3 hBS2 hBX3 [.s x] ⟨rfl, trivial⟩ (by intro p hp; simp only [List.mem_cons, List.not_mem_nil, or_false] at hp; rcases hp with rfl <;> first | exact trivial | exact num_pr _) 1 rfl (by omega)) hw)
    go_wp2_with (go_at_call 109; with_reducible refine HC.out.mono ?_; rintro e w9 ⟨rfl, tb9, hp9, ht9, hg9⟩)
    go_end0
    exact PG.of_ok (by rw [HF.out]; exact hw) ((HGW.out).trans0 hg9) hp9 (ht9.imp id fun e g eg => Nat.le_trans (HGW.out).size (e g eg))

end Sy
end Go.Proofs.YtggeepimihhpjaaGreatDoor
