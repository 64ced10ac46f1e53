/- num. copy of structs into an array; the first three arguments of an expression. -/
import Derived.Test.YtggeepimihhpjaaGreatDoorT7
import Derived.Laws.CopyOwn
namespace Go.Proofs.YtggeepimihhpjaaGreatDoor
open Go.RowKit Go.Shelf Go.Lib Sl Fr Lx
namespace Sy
set_option linter.unusedVariables false
set_option linter.unusedSimpArgs false

set_option maxRecDepth 100000 in
set_option maxHeartbeats 4000000 in
theorem num_pr (x : NumT) : PrN x := by
  intro hok base qb tb t w h
  obtain ⟨nn, p⟩ := x
  unfold numA
  replace hok : I64 nn := hok
  dsimp only
  obtain ⟨mO, bA⟩ := startO w #[.int .i64 nn, .string ⟨p.toArray⟩] 60
  have hX := h.below bA
  have hgX : GP w _ qb tb := GP.of_below bA
  clear h
  go_enter Tryz.func154, Tryz.ntmps154
  go_upto_region 2 with fail
  generalize hXe : w.alloc (.cells #[.int .i64 nn, .string ⟨p.toArray⟩] 60) = X at *
  clear hXe
  have c0 := mO.cell (i := 0) rfl
  have c1 := mO.cell (i := 1) rfl
  have hltO := mO.lt
  have HX := Lib.hid hX
  have HGX := Lib.hid hgX
  have HMO := Lib.hid mO
  clear hX hgX mO bA
  by_cases hp : p = []
  · have HF : Hid (some (numX ⟨nn, p⟩) = seqO [some (itoa nn)]) := Lib.hid (by unfold numX; rw [if_pos hp]; exact (catO_nil _).symm)
    have HI := Lib.hid (itoa_any nn X hok HX.out.vars)
    subst hp
    cases hw : wr (seqO [some (itoa nn)]) t with
    | none =>
      have HC := Lib.hid (fun W (hb : Below X.heap.size X W) => pg_no (write_new (HX.out.below hb) [.s (itoa nn)] #[.iface 9 (.string ⟨(itoa nn).toArray⟩)] ⟨rfl, trivial⟩ (by intro p hp; simp at hp; subst hp; trivial) 1 rfl (by omega) 20) hw)
      go_wp2_with (first | (go_at_call 171; with_reducible refine HI.out.mono ?_; rintro e w8 ⟨rfl, hb8⟩) | (go_at_call 109; with_reducible refine (HC.out _ hb8).mono ?_; rintro e w9 ⟨rfl, hg9⟩))
      exact ⟨rfl, PG.of_no (by rw [HF.out]; exact hw) ((HGX.out.trans0 (GP.of_below hb8)).trans0 hg9)⟩
    | some t2 =>
      have HC := Lib.hid (fun W (hb : Below X.heap.size X W) => pg_ok (write_new (HX.out.below hb) [.s (itoa nn)] #[.iface 9 (.string ⟨(itoa nn).toArray⟩)] ⟨rfl, trivial⟩ (by intro p hp; simp at hp; subst hp; trivial) 1 rfl (by omega) 20) hw)
      go_wp2_with (first | (go_at_call 171; with_reducible refine HI.out.mono ?_; rintro e w8 ⟨rfl, hb8⟩) | (go_at_call 109; with_reducible refine (HC.out _ hb8).mono ?_; rintro e w9 ⟨rfl, tb9, hp9, ht9, hg9⟩))
      go_end0
      exact PG.of_ok (by rw [HF.out]; exact hw) ((HGX.out.trans0 (GP.of_below hb8)).trans0 hg9) hp9 (ht9.imp id fun e g eg => Nat.le_trans (HGX.out.trans0 (GP.of_below hb8)).size (e g eg))
  have hq : p.isEmpty = false := by cases p with
    | nil => exact absurd rfl hp
    | cons a b => rfl
  by_cases hpos : 0 < nn
  · have HF : Hid (some (numX ⟨nn, p⟩) = seqO [some p, some [32, 43, 32], some (itoa nn)]) := Lib.hid (by unfold numX; rw [if_neg hp, if_pos hpos]; simp [seqO, catO])
    have HI : Hid (∀ wz, Below X.heap.size X wz → _) := Lib.hid (fun wz hz => itoa_any nn wz hok (HX.out.vars.keep hz))
    have z0 : ∀ wz, Below X.heap.size X wz → wz.cell? ⟨w.heap.size, 0, none⟩ = some (.int .i64 nn) := fun wz hz => (hz.cell (p := ⟨w.heap.size, 0, none⟩) hltO).trans c0
    have z1 : ∀ wz, Below X.heap.size X wz → wz.cell? ⟨w.heap.size, 1, none⟩ = some (.string ⟨p.toArray⟩) := fun wz hz => (hz.cell (p := ⟨w.heap.size, 1, none⟩) hltO).trans c1
    go_upto_region 5 with fail
    refine wp_region_flow 10 [.det (.pointer (some ⟨qb, 0, none⟩)), .det (.pointer (some ⟨w.heap.size, 1, none⟩)), .det (.string ⟨p.toArray⟩), .det (.iface 9 (.string ⟨p.toArray⟩)), .det (.iface 9 (.string ⟨#[32, 43, 32]⟩)), .det (.pointer (some ⟨w.heap.size, 0, none⟩)), .det (.int .i64 nn), .det (.string ⟨(itoa nn).toArray⟩), .det (.iface 9 (.string ⟨(itoa nn).toArray⟩)), partsS 3 #[.iface 9 (.string ⟨p.toArray⟩), .iface 9 (.string ⟨#[32, 43, 32]⟩), .iface 9 (.string ⟨(itoa nn).toArray⟩)]] (by kernel_rfl) (by kernel_rfl) rfl ?_
    simp only [List.take_succ_cons, List.take_zero, List.drop_succ_cons, List.drop_zero]
    refine flowL_det (fun wz hz hd => stepF_reads (by rfl) ?_) ?_
    · go_simp; try rfl
    simp only [Act.put, List.setIfInBounds_toArray, List.set_cons_zero, List.set_cons_succ]
    refine flowL_det (fun wz hz hd => stepF_reads (by rfl) ?_) ?_
    · go_simp; try rfl
    simp only [Act.put, List.setIfInBounds_toArray, List.set_cons_zero, List.set_cons_succ]
    refine flowL_det (fun wz hz hd => stepF_reads (by rfl) ?_) ?_
    · have q := z1 wz hz; go_simp; try rfl
    simp only [Act.put, List.setIfInBounds_toArray, List.set_cons_zero, List.set_cons_succ]
    refine flowL_det (fun wz hz hd => stepF_reads (by rfl) ?_) ?_
    · go_simp; try rfl
    simp only [Act.put, List.setIfInBounds_toArray, List.set_cons_zero, List.set_cons_succ]
    refine flowL_det (fun wz hz hd => stepF_reads (by rfl) ?_) ?_
    · go_simp; try rfl
    simp only [Act.put, List.setIfInBounds_toArray, List.set_cons_zero, List.set_cons_succ]
    refine flowL_det (fun wz hz hd => stepF_reads (by rfl) ?_) ?_
    · go_simp; try rfl
    simp only [Act.put, List.setIfInBounds_toArray, List.set_cons_zero, List.set_cons_succ]
    refine flowL_det (fun wz hz hd => stepF_reads (by rfl) ?_) ?_
    · have q := z0 wz hz; go_simp; try rfl
    simp only [Act.put, List.setIfInBounds_toArray, List.set_cons_zero, List.set_cons_succ]
    refine flowL_det (fun wz hz hd => stepF_walk (by rfl) (fun K hK => ?_)) ?_
    · go_wp2_with fail
      go_at_call 171
      refine (HI.out wz hz).mono ?_
      rintro e w9 ⟨rfl, hb⟩
      exact hK.out _ _ rfl trivial hb
    simp only [Act.put, List.setIfInBounds_toArray, List.set_cons_zero, List.set_cons_succ]
    refine flowL_det (fun wz hz hd => stepF_reads (by rfl) ?_) ?_
    · go_simp; try rfl
    simp only [Act.put, List.setIfInBounds_toArray, List.set_cons_zero, List.set_cons_succ]
    refine flowL_make (⟨_, 0, rfl⟩) (fun wz hz hd => stepF_walk (by rfl) (fun K hK => ?_)) (fun v hv => ?_)
    · go_simp
      refine hK.out _ _ ⟨_, rfl⟩ (fun B e => ?_) ((Below.refl _ _).alloc (Nat.le_refl _) _)
      cases e
      exact ⟨rfl, BoxL.new _ _ _⟩
    obtain ⟨BS, rfl⟩ := hv
    simp only [Act.put, List.setIfInBounds_toArray, List.set_cons_zero, List.set_cons_succ]
    intro W3 pp hb3 hF hap
    obtain ⟨hD, hD1⟩ := hF 9 (by decide)
    obtain ⟨hBS, hBX⟩ := hD.post BS rfl
    have hBX3 := hBX.keep hD.since
    have hBS2 := hD1.size
    rw [← hBS] at hBS2
    clear hF hap hD hD1 hBS hBX
    cases hw : wr (seqO [some p, some [32, 43, 32], some (itoa nn)]) t with
    | none =>
      have HC := Lib.hid (pg_no (write_at HX.out hb3 hBS2 hBX3 [.s p, .s [32, 43, 32], .s (itoa nn)] ⟨rfl, rfl, rfl, trivial⟩ (by intro p hp; simp at hp; rcases hp with rfl | rfl | rfl <;> trivial) 3 rfl (by omega)) hw)
      go_wp2_with (go_at_call 109; with_reducible refine HC.out.mono ?_; rintro e w9 ⟨rfl, hg9⟩)
      exact ⟨rfl, PG.of_no (by rw [HF.out]; exact hw) ((HGX.out).trans0 hg9)⟩
    | some t2 =>
      have HC := Lib.hid (pg_ok (write_at HX.out hb3 hBS2 hBX3 [.s p, .s [32, 43, 32], .s (itoa nn)] ⟨rfl, rfl, rfl, trivial⟩ (by intro p hp; simp at hp; rcases hp with rfl | rfl | rfl <;> trivial) 3 rfl (by omega)) hw)
      go_wp2_with (go_at_call 109; with_reducible refine HC.out.mono ?_; rintro e w9 ⟨rfl, tb9, hp9, ht9, hg9⟩)
      go_end0
      exact PG.of_ok (by rw [HF.out]; exact hw) ((HGX.out).trans0 hg9) hp9 (ht9.imp id fun e g eg => Nat.le_trans (HGX.out).size (e g eg))
  by_cases hneg : nn < 0
  · have HF : Hid (some (numX ⟨nn, p⟩) = seqO [some p, some [32, 45, 32], some (itoa (negI nn))]) := Lib.hid (by unfold numX; rw [if_neg hp, if_neg hpos, if_pos hneg]; simp [seqO, catO])
    have hng : IntKind.i64.wrap (-nn) = negI nn := by
      rw [IntKind.wrap_i64]
      unfold negI
      have := hok.1; have := hok.2
      split <;> omega
    have hok2 : I64 (negI nn) := by
      unfold negI I64
      have := hok.1; have := hok.2
      split <;> omega
    have HI : Hid (∀ wz, Below X.heap.size X wz → _) := Lib.hid (fun wz hz => itoa_any (negI nn) wz hok2 (HX.out.vars.keep hz))
    clear hok hok2
    have z0 : ∀ wz, Below X.heap.size X wz → wz.cell? ⟨w.heap.size, 0, none⟩ = some (.int .i64 nn) := fun wz hz => (hz.cell (p := ⟨w.heap.size, 0, none⟩) hltO).trans c0
    have z1 : ∀ wz, Below X.heap.size X wz → wz.cell? ⟨w.heap.size, 1, none⟩ = some (.string ⟨p.toArray⟩) := fun wz hz => (hz.cell (p := ⟨w.heap.size, 1, none⟩) hltO).trans c1
    go_upto_region 7 with fail
    refine wp_region_flow 11 [.det (.pointer (some ⟨qb, 0, none⟩)), .det (.pointer (some ⟨w.heap.size, 1, none⟩)), .det (.string ⟨p.toArray⟩), .det (.iface 9 (.string ⟨p.toArray⟩)), .det (.iface 9 (.string ⟨#[32, 45, 32]⟩)), .det (.pointer (some ⟨w.heap.size, 0, none⟩)), .det (.int .i64 nn), .det (.int .i64 ((negI nn))), .det (.string ⟨(itoa (negI nn)).toArray⟩), .det (.iface 9 (.string ⟨(itoa (negI nn)).toArray⟩)), partsS 3 #[.iface 9 (.string ⟨p.toArray⟩), .iface 9 (.string ⟨#[32, 45, 32]⟩), .iface 9 (.string ⟨(itoa (negI nn)).toArray⟩)]] (by kernel_rfl) (by kernel_rfl) rfl ?_
    simp only [List.take_succ_cons, List.take_zero, List.drop_succ_cons, List.drop_zero]
    refine flowL_det (fun wz hz hd => stepF_reads (by rfl) ?_) ?_
    · go_simp; try rfl
    simp only [Act.put, List.setIfInBounds_toArray, List.set_cons_zero, List.set_cons_succ]
    refine flowL_det (fun wz hz hd => stepF_reads (by rfl) ?_) ?_
    · go_simp; try rfl
    simp only [Act.put, List.setIfInBounds_toArray, List.set_cons_zero, List.set_cons_succ]
    refine flowL_det (fun wz hz hd => stepF_reads (by rfl) ?_) ?_
    · have q := z1 wz hz; go_simp; try rfl
    simp only [Act.put, List.setIfInBounds_toArray, List.set_cons_zero, List.set_cons_succ]
    refine flowL_det (fun wz hz hd => stepF_reads (by rfl) ?_) ?_
    · go_simp; try rfl
    simp only [Act.put, List.setIfInBounds_toArray, List.set_cons_zero, List.set_cons_succ]
    refine flowL_det (fun wz hz hd => stepF_reads (by rfl) ?_) ?_
    · go_simp; try rfl
    simp only [Act.put, List.setIfInBounds_toArray, List.set_cons_zero, List.set_cons_succ]
    refine flowL_det (fun wz hz hd => stepF_reads (by rfl) ?_) ?_
    · go_simp; try rfl
    simp only [Act.put, List.setIfInBounds_toArray, List.set_cons_zero, List.set_cons_succ]
    refine flowL_det (fun wz hz hd => stepF_reads (by rfl) ?_) ?_
    · have q := z0 wz hz; go_simp; try rfl
    simp only [Act.put, List.setIfInBounds_toArray, List.set_cons_zero, List.set_cons_succ]
    refine flowL_det (fun wz hz hd => stepF_reads (by rfl) ?_) ?_
    · go_simp; try exact hng
    simp only [Act.put, List.setIfInBounds_toArray, List.set_cons_zero, List.set_cons_succ]
    refine flowL_det (fun wz hz hd => stepF_walk (by rfl) (fun K hK => ?_)) ?_
    · go_wp2_with fail
      go_at_call 171
      refine (HI.out wz hz).mono ?_
      rintro e w9 ⟨rfl, hb⟩
      exact hK.out _ _ rfl trivial hb
    simp only [Act.put, List.setIfInBounds_toArray, List.set_cons_zero, List.set_cons_succ]
    refine flowL_det (fun wz hz hd => stepF_reads (by rfl) ?_) ?_
    · go_simp; try rfl
    simp only [Act.put, List.setIfInBounds_toArray, List.set_cons_zero, List.set_cons_succ]
    refine flowL_make (⟨_, 0, rfl⟩) (fun wz hz hd => stepF_walk (by rfl) (fun K hK => ?_)) (fun v hv => ?_)
    · go_simp
      refine hK.out _ _ ⟨_, rfl⟩ (fun B e => ?_) ((Below.refl _ _).alloc (Nat.le_refl _) _)
      cases e
      exact ⟨rfl, BoxL.new _ _ _⟩
    obtain ⟨BS, rfl⟩ := hv
    simp only [Act.put, List.setIfInBounds_toArray, List.set_cons_zero, List.set_cons_succ]
    intro W3 pp hb3 hF hap
    obtain ⟨hD, hD1⟩ := hF 10 (by decide)
    obtain ⟨hBS, hBX⟩ := hD.post BS rfl
    have hBX3 := hBX.keep hD.since
    have hBS2 := hD1.size
    rw [← hBS] at hBS2
    clear hF hap hD hD1 hBS hBX
    cases hw : wr (seqO [some p, some [32, 45, 32], some (itoa (negI nn))]) t with
    | none =>
      have HC := Lib.hid (pg_no (write_at HX.out hb3 hBS2 hBX3 [.s p, .s [32, 45, 32], .s (itoa (negI nn))] ⟨rfl, rfl, rfl, trivial⟩ (by intro p hp; simp at hp; rcases hp with rfl | rfl | rfl <;> trivial) 3 rfl (by omega)) hw)
      go_wp2_with (go_at_call 109; with_reducible refine HC.out.mono ?_; rintro e w9 ⟨rfl, hg9⟩)
      exact ⟨rfl, PG.of_no (by rw [HF.out]; exact hw) ((HGX.out).trans0 hg9)⟩
    | some t2 =>
      have HC := Lib.hid (pg_ok (write_at HX.out hb3 hBS2 hBX3 [.s p, .s [32, 45, 32], .s (itoa (negI nn))] ⟨rfl, rfl, rfl, trivial⟩ (by intro p hp; simp at hp; rcases hp with rfl | rfl | rfl <;> trivial) 3 rfl (by omega)) hw)
      go_wp2_with (go_at_call 109; with_reducible refine HC.out.mono ?_; rintro e w9 ⟨rfl, tb9, hp9, ht9, hg9⟩)
      go_end0
      exact PG.of_ok (by rw [HF.out]; exact hw) ((HGX.out).trans0 hg9) hp9 (ht9.imp id fun e g eg => Nat.le_trans (HGX.out).size (e g eg))
  have HF : Hid (some (numX ⟨nn, p⟩) = seqO [some p]) := Lib.hid (by unfold numX; rw [if_neg hp, if_neg hpos, if_neg hneg]; simp [seqO, catO])
  cases hw : wr (seqO [some p]) t with
  | none =>
    have HC := Lib.hid (pg_no (write_new HX.out [.s p] #[.iface 9 (.string ⟨p.toArray⟩)] ⟨rfl, trivial⟩ (by intro p hp; simp at hp; subst hp; trivial) 1 rfl (by omega) 20) hw)
    go_wp2_with (go_at_call 109; with_reducible refine HC.out.mono ?_; rintro e w9 ⟨rfl, hg9⟩)
    exact ⟨rfl, PG.of_no (by rw [HF.out]; exact hw) ((HGX.out).trans0 hg9)⟩
  | some t2 =>
    have HC := Lib.hid (pg_ok (write_new HX.out [.s p] #[.iface 9 (.string ⟨p.toArray⟩)] ⟨rfl, trivial⟩ (by intro p hp; simp at hp; subst hp; trivial) 1 rfl (by omega) 20) hw)
    go_wp2_with (go_at_call 109; with_reducible refine HC.out.mono ?_; rintro e w9 ⟨rfl, tb9, hp9, ht9, hg9⟩)
    go_end0
    exact PG.of_ok (by rw [HF.out]; exact hw) ((HGX.out).trans0 hg9) hp9 (ht9.imp id fun e g eg => Nat.le_trans (HGX.out).size (e g eg))

end Sy
end Go.Proofs.YtggeepimihhpjaaGreatDoor

namespace Go.Proofs.YtggeepimihhpjaaGreatDoor
open Go.RowKit Go.Shelf Go.Lib Sl Fr Lx
namespace Sy
set_option linter.unusedVariables false
set_option linter.unusedSimpArgs false

theorem run_copy_rows {P : Program} (w : World) (dT sT ty elem : TypeId) (g o dLen dCap : Nat) (A : Option Addr) (sLen sCap : Nat) (cur : Array Value) (t : TypeId) (cs : List Value) (s : Nat)
    (hu : P.underlying dT = some (.slice elem)) (hs : (P.info? elem).map (·.size) = some s) (hg : w.heap[g]? = some (.cells cur t (0, 0))) (hn : cs.length = Nat.min sLen dLen * s)
    (hsrc : cs ≠ [] → ∃ ad, A = some ad ∧ ∀ j v, cs[j]? = some v → w.cell? (ad.add j) = some v) (hfit : o + cs.length ≤ cur.size) (h1 : ∀ v ∈ cs, v.oneCell' = true) :
    (Builtin.copy_ #[dT, sT] ty #[.slice (some ⟨g, o, none⟩) dLen dCap, .slice A sLen sCap]).run P w = .ok (goInt (Nat.min sLen dLen)) (w.setRow g (cur.toList.take o ++ cs ++ cur.toList.drop (o + cs.length)).toArray) := by
  have hst := run_storeCells_at P g o t cs 0 cur w hg (by simpa using hfit) h1
  have hfc : (Builtin.firstCells s (Nat.min sLen dLen) (.slice A sLen sCap)).run P w = .ok cs.toArray w := by
    cases A with
    | none =>
      have : cs = [] := by
        apply Classical.byContradiction
        intro h
        obtain ⟨ad, e, _⟩ := hsrc h
        cases e
      subst this
      exact run_firstCells_none w s _ _ _
    | some ad =>
      refine run_firstCells_some w s _ ad _ _ cs hn ?_
      intro j v hj
      obtain ⟨ad', e, h⟩ := hsrc (by intro e; subst e; simp at hj)
      injection e with e; subst e
      exact h j v hj
  cases hq : P.info? elem with
  | none => simp [hq] at hs
  | some i =>
    have hi : i.size = s := by simpa [hq] using hs
    simp [Builtin.copy_, run_underlying hu, Builtin.lenOf, sizeOf, typeInfo, hq, hi, hfc, hst]
theorem wpList_copy_rows {P : Program} {w : World} {ops : Array Oper} {rest : List Oper} {o : Oper} {a : Act} {Q : Exit → Act → World → Prop} (hgd : o.guard = none) (d s : Operand) (dT sT : TypeId)
    (ho : o.op = .call { callee := .builtin .copy, args := #[d, s], argTypes := #[dT, sT] }) (elem : TypeId) (k : Nat) (hu : P.underlying dT = some (.slice elem)) (hs : (P.info? elem).map (·.size) = some k)
    (g off dLen dCap : Nat) (A : Option Addr) (sLen sCap : Nat) (hd : a.eval d = .slice (some ⟨g, off, none⟩) dLen dCap) (hs2 : a.eval s = .slice A sLen sCap)
    (cur : Array Value) (t : TypeId) (hg : w.heap[g]? = some (.cells cur t (0, 0))) (cs : List Value) (hn : cs.length = Nat.min sLen dLen * k)
    (hsrc : cs ≠ [] → ∃ ad, A = some ad ∧ ∀ j v, cs[j]? = some v → w.cell? (ad.add j) = some v) (hfit : off + cs.length ≤ cur.size) (h1 : ∀ v ∈ cs, v.oneCell' = true)
    (h : ∀ W, BoxO W g (cur.toList.take off ++ cs ++ cur.toList.drop (off + cs.length)).toArray t → w.grownBy W (some g) → wpList P ops Q rest (a.put o.dst (goInt (Nat.min sLen dLen))) W) : wpList P ops Q (o :: rest) a w := by
  refine wpList_plain hgd fun K hK => ?_
  have hrun := run_copy_rows (P := P) w dT sT o.type elem g off dLen dCap A sLen sCap cur t cs k hu hs hg hn hsrc hfit h1
  unfold Oper.wp
  simp only [execOp, ho, resolve, invoke, builtin, Sem.run_bind, Sem.run_pure, Result.andThen_ok, List.map_toArray, List.map_cons, List.map_nil, hd, hs2, hrun]
  exact hK _ _ (h _ ⟨setRow_heap w g _ _ t _ hg⟩ (grown_setRow w g _))
def z7 : List Value := eC expr0 none 0
theorem eC_len (e : ExprT) (A : Option Addr) (c : Nat) : (eC e A c).length = 7 := rfl
theorem eC_one (e : ExprT) (A : Option Addr) (c : Nat) : ∀ v ∈ eC e A c, v.oneCell' = true := by simp [eC, Value.oneCell']
theorem addr_add (b o j : Nat) : (⟨b, o, none⟩ : Addr).add j = ⟨b, o + j, none⟩ := by unfold Addr.add; split <;> simp_all
theorem AR.head {w : World} {S : Nat → Prop} {b o : Nat} {e : ExprT} {r : List ExprT} (h : AR w S b o (e :: r)) : ∃ A c, ER w S e (eC e A c) ∧ (∀ j u, (eC e A c)[j]? = some u → w.cell? ⟨b, o + j, none⟩ = some u) ∧ AR w S b (o + 7) r := by
  unfold AR at h
  obtain ⟨⟨cs, h1, h2⟩, h3⟩ := h
  obtain ⟨A, c, rfl, _⟩ := h1.out
  exact ⟨A, c, h1, h2, h3⟩
theorem get_two {α : Type} {l m : List α} {j : Nat} {u : α} (h : (l ++ m)[j]? = some u) : l[j]? = some u ∨ ∃ i, j = l.length + i ∧ m[i]? = some u := by
  rcases Nat.lt_or_ge j l.length with h1 | h1
  · rw [List.getElem?_append_left h1] at h; exact .inl h
  · rw [List.getElem?_append_right h1] at h; exact .inr ⟨j - l.length, by omega, h⟩
theorem args3 {w : World} {S : Nat → Prop} {A : Option Addr} : ∀ {l : List ExprT}, (l ≠ [] → ∃ b o, A = some ⟨b, o, none⟩ ∧ S b ∧ b < w.heap.size ∧ AR w S b o l) →
    ∃ A0 c0 A1 c1 A2 c2, (∃ cs : List Value, cs.length = Nat.min l.length 3 * 7 ∧ (cs ≠ [] → ∃ ad, A = some ad ∧ ∀ j v, cs[j]? = some v → w.cell? (ad.add j) = some v) ∧ (∀ v ∈ cs, v.oneCell' = true) ∧
      cs ++ (z7 ++ (z7 ++ z7)).drop cs.length = eC (l[0]?.getD expr0) A0 c0 ++ (eC (l[1]?.getD expr0) A1 c1 ++ eC (l[2]?.getD expr0) A2 c2)) ∧
      ER w S (l[0]?.getD expr0) (eC (l[0]?.getD expr0) A0 c0) ∧ ER w S (l[1]?.getD expr0) (eC (l[1]?.getD expr0) A1 c1) ∧ ER w S (l[2]?.getD expr0) (eC (l[2]?.getD expr0) A2 c2)
  | [], _ => ⟨none, 0, none, 0, none, 0, ⟨[], rfl, fun h => absurd rfl h, (by simp), rfl⟩, ER.zero, ER.zero, ER.zero⟩
  | [a], h => by
    obtain ⟨b, o, rfl, h1, h2, h3⟩ := h (by simp)
    obtain ⟨A0, c0, e0, k0, _⟩ := h3.head
    exact ⟨A0, c0, none, 0, none, 0, ⟨eC a A0 c0, rfl, fun _ => ⟨_, rfl, fun j v hj => by rw [addr_add]; exact k0 j v hj⟩, eC_one _ _ _, rfl⟩, e0, ER.zero, ER.zero⟩
  | [a, a'], h => by
    obtain ⟨b, o, rfl, h1, h2, h3⟩ := h (by simp)
    obtain ⟨A0, c0, e0, k0, h4⟩ := h3.head
    obtain ⟨A1, c1, e1, k1, _⟩ := h4.head
    refine ⟨A0, c0, A1, c1, none, 0, ⟨eC a A0 c0 ++ eC a' A1 c1, rfl, fun _ => ⟨_, rfl, fun j v hj => ?_⟩, fun v hv => ?_, rfl⟩, e0, e1, ER.zero⟩
    · rw [addr_add]
      rcases get_two hj with q | ⟨i, rfl, q⟩
      · exact k0 j v q
      · have := k1 i v q; rw [eC_len, ← Nat.add_assoc]; exact this
    · rcases List.mem_append.1 hv with q | q
      · exact eC_one _ _ _ v q
      · exact eC_one _ _ _ v q
  | a :: a' :: a2 :: r, h => by
    obtain ⟨b, o, rfl, h1, h2, h3⟩ := h (by simp)
    obtain ⟨A0, c0, e0, k0, h4⟩ := h3.head
    obtain ⟨A1, c1, e1, k1, h5⟩ := h4.head
    obtain ⟨A2, c2, e2, k2, _⟩ := h5.head
    refine ⟨A0, c0, A1, c1, A2, c2, ⟨eC a A0 c0 ++ (eC a' A1 c1 ++ eC a2 A2 c2), ?_, fun _ => ⟨_, rfl, fun j v hj => ?_⟩, fun v hv => ?_, ?_⟩, e0, e1, e2⟩
    · show 21 = Nat.min (r.length + 3) 3 * 7
      rw [show Nat.min (r.length + 3) 3 = 3 from Nat.min_eq_right (by omega)]
    · rw [addr_add]
      rcases get_two hj with q | ⟨i, rfl, q⟩
      · exact k0 j v q
      · rw [eC_len, ← Nat.add_assoc]
        rcases get_two q with q2 | ⟨i2, rfl, q2⟩
        · exact k1 i v q2
        · have := k2 i2 v q2; rw [eC_len, ← Nat.add_assoc]; exact this
    · rcases List.mem_append.1 hv with q | q
      · exact eC_one _ _ _ v q
      · rcases List.mem_append.1 q with q | q
        · exact eC_one _ _ _ v q
        · exact eC_one _ _ _ v q
    · show (eC a A0 c0 ++ (eC a' A1 c1 ++ eC a2 A2 c2)) ++ [] = _
      rw [List.append_nil]; rfl
end Sy
end Go.Proofs.YtggeepimihhpjaaGreatDoor
