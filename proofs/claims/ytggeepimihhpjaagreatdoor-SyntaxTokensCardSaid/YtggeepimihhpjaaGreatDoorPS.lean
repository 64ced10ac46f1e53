/- item. -/
import Derived.Test.YtggeepimihhpjaaGreatDoorPL
import Derived.Test.YtggeepimihhpjaaGreatDoorPM
import Derived.Test.YtggeepimihhpjaaGreatDoorPN
import Derived.Test.YtggeepimihhpjaaGreatDoorPR
namespace Go.Proofs.YtggeepimihhpjaaGreatDoor
open Go.RowKit Go.Shelf Sl Fr Lx
namespace Sy
set_option linter.unusedVariables false
set_option linter.unusedSimpArgs false
attribute [local go_sem] field_t0 field_t1 field_t2

theorem zero_fn (w : World) : (zeroValue 165).run Tryz.prog w = .ok .nilFunc w := by kernel_rfl
theorem itemP_none {l : List Tk} (h : ∀ x ∈ itemsT, x.1 ≠ (nextT l).text) : itemP l = .no (nextT l).at_ := by
  unfold itemP
  rw [List.find?_eq_none.2 (fun x hx => by simpa using h x hx)]
theorem find_itm_none {z : By} (h : ∀ x ∈ itemsT, x.1 ≠ z) : findS z itmE = none := by
  have h' : z ≠ w_in ∧ z ≠ w_out ∧ z ≠ w_chan ∧ z ≠ w_reg ∧ z ≠ w_wire ∧ z ≠ w_mem ∧ z ≠ w_take ∧ z ≠ w_put ∧ z ≠ w_inst := by
    exact ⟨fun e => h (w_in, inputP) (by simp [itemsT]) e.symm, fun e => h (w_out, outputP) (by simp [itemsT]) e.symm, fun e => h (w_chan, channelP) (by simp [itemsT]) e.symm, fun e => h (w_reg, registerP) (by simp [itemsT]) e.symm, fun e => h (w_wire, wireP) (by simp [itemsT]) e.symm, fun e => h (w_mem, memoryP) (by simp [itemsT]) e.symm, fun e => h (w_take, takeP) (by simp [itemsT]) e.symm, fun e => h (w_put, putP) (by simp [itemsT]) e.symm, fun e => h (w_inst, instP) (by simp [itemsT]) e.symm⟩
  obtain ⟨h1, h2, h3, h4, h5, h6, h7, h8, h9⟩ := h'
  simp [itmE, findS, h1.symm, h2.symm, h3.symm, h4.symm, h5.symm, h6.symm, h7.symm, h8.symm, h9.symm]
set_option maxRecDepth 100000 in
set_option maxHeartbeats 2000000 in
theorem item_none (n pb : Nat) (l : List Tk) (w : World) (h : PX n pb l w) (he : ∀ x ∈ itemsT, x.1 ≠ (nextT l).text) :
    Calls Tryz.prog 146 #[.pointer (some ⟨pb, 0, none⟩)] w (Gives n pb l itemP (ItemV w) w) := by
  have hlt0 := h.lt
  have hrm := h.room
  obtain ⟨mR, bA⟩ := startO w #[.int .i64 0, .string ⟨#[]⟩, .int .i64 0, .string ⟨#[]⟩, .int .i64 0, .string ⟨#[]⟩, .int .i64 0, .string ⟨#[]⟩, .int .i64 0, .string ⟨#[]⟩, .int .i64 0, .string ⟨#[]⟩, .int .i64 0, .string ⟨#[]⟩, .slice none 0 0, .int .i64 0, .string ⟨#[]⟩, .int .i64 0, .string ⟨#[]⟩, .int .i64 0, .string ⟨#[]⟩, .slice none 0 0, .int .i64 0, .string ⟨#[]⟩, .int .i64 0, .string ⟨#[]⟩, .int .i64 0, .string ⟨#[]⟩, .slice none 0 0, .int .i64 0, .string ⟨#[]⟩, .int .i64 0, .string ⟨#[]⟩, .slice none 0 0, .slice none 0 0] 69
  have hX := h.below bA
  have hgX : w.grownBy _ (some pb) := gb bA
  go_enter Tryz.func146, Tryz.ntmps146
  go_upto_region 1 with fail
  generalize w.alloc (.cells #[.int .i64 0, .string ⟨#[]⟩, .int .i64 0, .string ⟨#[]⟩, .int .i64 0, .string ⟨#[]⟩, .int .i64 0, .string ⟨#[]⟩, .int .i64 0, .string ⟨#[]⟩, .int .i64 0, .string ⟨#[]⟩, .int .i64 0, .string ⟨#[]⟩, .slice none 0 0, .int .i64 0, .string ⟨#[]⟩, .int .i64 0, .string ⟨#[]⟩, .int .i64 0, .string ⟨#[]⟩, .slice none 0 0, .int .i64 0, .string ⟨#[]⟩, .int .i64 0, .string ⟨#[]⟩, .int .i64 0, .string ⟨#[]⟩, .slice none 0 0, .int .i64 0, .string ⟨#[]⟩, .int .i64 0, .string ⟨#[]⟩, .slice none 0 0, .slice none 0 0] 69) = X at *
  obtain ⟨b0, hb0⟩ : ∃ b, b = w.heap.size := ⟨_, rfl⟩
  rw [← hb0] at mR ⊢
  have hw0 : w.heap.size ≤ b0 := Nat.le_of_eq hb0.symm
  have nR : some b0 ≠ some pb := fun e => by injection e; omega
  obtain ⟨mI, d3, hmap, hlt⟩ := field3_ps hX.ps
  have e3 := fun q : Later X => (q.below.cell (p := ⟨pb, 3, none⟩) hlt).trans d3
  have HN := Lib.hid (fun q : Later X => next_any n pb l q.val (hX.ps.below q.below))
  unfold tkA at HN
  have elk := fun q : Later X => (hmap.kept (grown_below q.below) (by simp)).lookup_ok (P := Tryz.prog) Tryz.underlying167 Tryz.underlying9 ⟨(nextT l).text.toArray⟩ _ (zero_fn q.val)
  rw [show bys (⟨(nextT l).text.toArray⟩ : ByteArray) = (nextT l).text from rfl] at elk
  rw [find_itm_none he] at elk
  simp only [Option.getD_none, Option.isSome_none] at elk
  have HM := Lib.hid (itemP_none he)
  have HRF := Lib.hid (fun W (hW : PX n pb l W) => refuse_any n pb l W hW.ps)
  have HX := Lib.hid hX
  have HG := Lib.hid hgX
  have HR := Lib.hid mR
  clear h bA hX hgX mR hb0 hmap d3 he
  generalize (⟨(nextT l).text.toArray⟩ : ByteArray) = tx at *
  generalize (nextT l).kind = kk at *
  generalize (nextT l).at_ = ta at *
  refine wp_region_later (by kernel_rfl) (by kernel_rfl) ?_
  repeat (go_big_quiet_step (((go_at_call 95; with_reducible exact later_of (HN.out _)))))
  refine wpQuiet_nil ?_
  intro _ hw'
  obtain ⟨z, hw''⟩ := hw'
  subst hw''
  have HZ := Lib.hid (HX.out.below z.below)
  have HG2 : Hid (w.grownBy z.val (some pb)) := Lib.hid (HG.out.trans (gb z.below))
  have HR2 := Lib.hid (HR.out.keep z.below)
  clear elk e3 HN
  go_wp2_with (go_at_call 162; with_reducible refine (HRF.out _ HZ.out).mono ?_; rintro e w2 ⟨rfl, hb2⟩)
  exact ⟨rfl, Gives.of_no HM.out (HG2.out.trans (gb hb2))⟩

set_option maxRecDepth 100000 in
set_option maxHeartbeats 2000000 in
theorem item_input (n pb : Nat) (l : List Tk) (w : World) (h : PX n pb l w) (he : (nextT l).text = w_in) :
    Calls Tryz.prog 146 #[.pointer (some ⟨pb, 0, none⟩)] w (Gives n pb l itemP (ItemV w) w) := by
  have hlt0 := h.lt
  have hrm := h.room
  obtain ⟨mR, bA⟩ := startO w #[.int .i64 0, .string ⟨#[]⟩, .int .i64 0, .string ⟨#[]⟩, .int .i64 0, .string ⟨#[]⟩, .int .i64 0, .string ⟨#[]⟩, .int .i64 0, .string ⟨#[]⟩, .int .i64 0, .string ⟨#[]⟩, .int .i64 0, .string ⟨#[]⟩, .slice none 0 0, .int .i64 0, .string ⟨#[]⟩, .int .i64 0, .string ⟨#[]⟩, .int .i64 0, .string ⟨#[]⟩, .slice none 0 0, .int .i64 0, .string ⟨#[]⟩, .int .i64 0, .string ⟨#[]⟩, .int .i64 0, .string ⟨#[]⟩, .slice none 0 0, .int .i64 0, .string ⟨#[]⟩, .int .i64 0, .string ⟨#[]⟩, .slice none 0 0, .slice none 0 0] 69
  have hX := h.below bA
  have hgX : w.grownBy _ (some pb) := gb bA
  go_enter Tryz.func146, Tryz.ntmps146
  go_upto_region 1 with fail
  generalize w.alloc (.cells #[.int .i64 0, .string ⟨#[]⟩, .int .i64 0, .string ⟨#[]⟩, .int .i64 0, .string ⟨#[]⟩, .int .i64 0, .string ⟨#[]⟩, .int .i64 0, .string ⟨#[]⟩, .int .i64 0, .string ⟨#[]⟩, .int .i64 0, .string ⟨#[]⟩, .slice none 0 0, .int .i64 0, .string ⟨#[]⟩, .int .i64 0, .string ⟨#[]⟩, .int .i64 0, .string ⟨#[]⟩, .slice none 0 0, .int .i64 0, .string ⟨#[]⟩, .int .i64 0, .string ⟨#[]⟩, .int .i64 0, .string ⟨#[]⟩, .slice none 0 0, .int .i64 0, .string ⟨#[]⟩, .int .i64 0, .string ⟨#[]⟩, .slice none 0 0, .slice none 0 0] 69) = X at *
  obtain ⟨b0, hb0⟩ : ∃ b, b = w.heap.size := ⟨_, rfl⟩
  rw [← hb0] at mR ⊢
  have hw0 : w.heap.size ≤ b0 := Nat.le_of_eq hb0.symm
  have nR : some b0 ≠ some pb := fun e => by injection e; omega
  obtain ⟨mI, d3, hmap, hlt⟩ := field3_ps hX.ps
  have e3 := fun q : Later X => (q.below.cell (p := ⟨pb, 3, none⟩) hlt).trans d3
  have HN := Lib.hid (fun q : Later X => next_any n pb l q.val (hX.ps.below q.below))
  unfold tkA at HN
  have elk := fun q : Later X => (hmap.kept (grown_below q.below) (by simp)).lookup_ok (P := Tryz.prog) Tryz.underlying167 Tryz.underlying9 ⟨(nextT l).text.toArray⟩ _ (zero_fn q.val)
  rw [show bys (⟨(nextT l).text.toArray⟩ : ByteArray) = (nextT l).text from rfl] at elk
  rw [show findS (nextT l).text itmE = some (.func (.func 86) #[] #[]) by rw [he]; rfl] at elk
  simp only [Option.getD_some, Option.isSome_some] at elk
  have HM : Hid (itemP l = inputP l.tail) := Lib.hid (by unfold itemP; rw [he]; rfl)
  have hk4 := h.ps.lt.kind4 (show (nextT l).text ≠ [] by rw [he]; decide)
  have HS := Lib.hid (fun W (hW : PX n pb l W) => skip_any n pb l W hW.ps hk4)
  have HX := Lib.hid hX
  have HG := Lib.hid hgX
  have HR := Lib.hid mR
  clear h bA hX hgX mR hb0 hmap d3 he hk4
  generalize (⟨(nextT l).text.toArray⟩ : ByteArray) = tx at *
  generalize (nextT l).kind = kk at *
  generalize (nextT l).at_ = ta at *
  refine wp_region_later (by kernel_rfl) (by kernel_rfl) ?_
  repeat (go_big_quiet_step (((go_at_call 95; with_reducible exact later_of (HN.out _)))))
  refine wpQuiet_nil ?_
  intro _ hw'
  obtain ⟨z, hw''⟩ := hw'
  subst hw''
  have HZ := Lib.hid (HX.out.below z.below)
  have HG2 : Hid (w.grownBy z.val (some pb)) := Lib.hid (HG.out.trans (gb z.below))
  have HR2 := Lib.hid (HR.out.keep z.below)
  clear elk e3 HN
  cases hm : inputP l.tail with
  | no a =>
    have HMM := Lib.hid (HM.out.trans hm)
    have HC := Lib.hid (fun W (hW : PX n pb l.tail W) => rd_no (input_any n pb l.tail W hW) hm)
    clear hm
    go_wp2_with (first
      | (go_at_call 86; with_reducible refine (HC.out _ hx2).mono ?_; rintro e w3 ⟨rfl, hg3⟩)
      | (go_at_call 163; with_reducible refine (HS.out _ HZ.out).mono ?_; rintro e w2 ⟨rfl, hp2, hg2⟩; have hx2 := HZ.out.call hg2 hp2))
    exact ⟨rfl, Gives.of_no HMM.out ((HG2.out.trans hg2).trans hg3)⟩
  | ok x r =>
    have HMM := Lib.hid (HM.out.trans hm)
    have HC := Lib.hid (fun W (hW : PX n pb l.tail W) => rd_ok (input_any n pb l.tail W hW) hW hm)
    clear hm
    go_wp2_with (first
      | (refine wpList_store_row mR3 rfl _ _ rfl (iC x Aa ca Ab cb Ac cc An cn Ap cp) rfl rfl (by kernel_rfl) rfl (by kernel_rfl) ?_)
      | (go_at_call 86; refine (HC.out _ hx2).mono ?_; rintro e w3 ⟨_, rfl, ⟨_, rfl, Aa, ca, Ab, cb, Ac, cc, An, cn, Ap, cp, rfl, hir⟩, hx3, hg3⟩; have mR3 := mR2.grown hg3 nR)
      | (go_at_call 163; with_reducible refine (HS.out _ HZ.out).mono ?_; rintro e w2 ⟨rfl, hp2, hg2⟩; have hx2 := HZ.out.call hg2 hp2; have mR2 := HR2.out.grown hg2 nR))
    have gF := grown_setRow w3 b0 (iC x Aa ca Ab cb Ac cc An cn Ap cp)
    have hb2 := mR2.lt
    have hs2 := (HG2.out.trans hg2).size
    have hi : IR w3 (Fresh w2) x (iC x Aa ca Ab cb Ac cc An cn Ap cp) := ⟨Aa, ca, Ab, cb, Ac, cc, An, cn, Ap, cp, rfl, hir⟩
    exact bodyPost_ret_by (v := .agg (iC x Aa ca Ab cb Ac cc An cn Ap cp)) (results_cell_row rfl _ _ b0 _ (iC x Aa ca Ab cb Ac cc An cn Ap cp) (0, 0) _ rfl (mR3.set (iC x Aa ca Ab cb Ac cc An cn Ap cp)).h Tryz.underlying69 rfl (by kernel_rfl)) rfl
      (give_row (iC x Aa ca Ab cb Ac cc An cn Ap cp) HMM.out ⟨_, rfl, (hi.grown gF (fun g e h => by injection e with e; have h : w2.heap.size ≤ g := h; omega)).mono (fun b h => Nat.le_trans hs2 h)⟩ hx3 (by omega) ((HG2.out.trans hg2).trans hg3) (by omega))

set_option maxRecDepth 100000 in
set_option maxHeartbeats 2000000 in
theorem item_output (n pb : Nat) (l : List Tk) (w : World) (h : PX n pb l w) (he : (nextT l).text = w_out) :
    Calls Tryz.prog 146 #[.pointer (some ⟨pb, 0, none⟩)] w (Gives n pb l itemP (ItemV w) w) := by
  have hlt0 := h.lt
  have hrm := h.room
  obtain ⟨mR, bA⟩ := startO w #[.int .i64 0, .string ⟨#[]⟩, .int .i64 0, .string ⟨#[]⟩, .int .i64 0, .string ⟨#[]⟩, .int .i64 0, .string ⟨#[]⟩, .int .i64 0, .string ⟨#[]⟩, .int .i64 0, .string ⟨#[]⟩, .int .i64 0, .string ⟨#[]⟩, .slice none 0 0, .int .i64 0, .string ⟨#[]⟩, .int .i64 0, .string ⟨#[]⟩, .int .i64 0, .string ⟨#[]⟩, .slice none 0 0, .int .i64 0, .string ⟨#[]⟩, .int .i64 0, .string ⟨#[]⟩, .int .i64 0, .string ⟨#[]⟩, .slice none 0 0, .int .i64 0, .string ⟨#[]⟩, .int .i64 0, .string ⟨#[]⟩, .slice none 0 0, .slice none 0 0] 69
  have hX := h.below bA
  have hgX : w.grownBy _ (some pb) := gb bA
  go_enter Tryz.func146, Tryz.ntmps146
  go_upto_region 1 with fail
  generalize w.alloc (.cells #[.int .i64 0, .string ⟨#[]⟩, .int .i64 0, .string ⟨#[]⟩, .int .i64 0, .string ⟨#[]⟩, .int .i64 0, .string ⟨#[]⟩, .int .i64 0, .string ⟨#[]⟩, .int .i64 0, .string ⟨#[]⟩, .int .i64 0, .string ⟨#[]⟩, .slice none 0 0, .int .i64 0, .string ⟨#[]⟩, .int .i64 0, .string ⟨#[]⟩, .int .i64 0, .string ⟨#[]⟩, .slice none 0 0, .int .i64 0, .string ⟨#[]⟩, .int .i64 0, .string ⟨#[]⟩, .int .i64 0, .string ⟨#[]⟩, .slice none 0 0, .int .i64 0, .string ⟨#[]⟩, .int .i64 0, .string ⟨#[]⟩, .slice none 0 0, .slice none 0 0] 69) = X at *
  obtain ⟨b0, hb0⟩ : ∃ b, b = w.heap.size := ⟨_, rfl⟩
  rw [← hb0] at mR ⊢
  have hw0 : w.heap.size ≤ b0 := Nat.le_of_eq hb0.symm
  have nR : some b0 ≠ some pb := fun e => by injection e; omega
  obtain ⟨mI, d3, hmap, hlt⟩ := field3_ps hX.ps
  have e3 := fun q : Later X => (q.below.cell (p := ⟨pb, 3, none⟩) hlt).trans d3
  have HN := Lib.hid (fun q : Later X => next_any n pb l q.val (hX.ps.below q.below))
  unfold tkA at HN
  have elk := fun q : Later X => (hmap.kept (grown_below q.below) (by simp)).lookup_ok (P := Tryz.prog) Tryz.underlying167 Tryz.underlying9 ⟨(nextT l).text.toArray⟩ _ (zero_fn q.val)
  rw [show bys (⟨(nextT l).text.toArray⟩ : ByteArray) = (nextT l).text from rfl] at elk
  rw [show findS (nextT l).text itmE = some (.func (.func 87) #[] #[]) by rw [he]; rfl] at elk
  simp only [Option.getD_some, Option.isSome_some] at elk
  have HM : Hid (itemP l = outputP l.tail) := Lib.hid (by unfold itemP; rw [he]; rfl)
  have hk4 := h.ps.lt.kind4 (show (nextT l).text ≠ [] by rw [he]; decide)
  have HS := Lib.hid (fun W (hW : PX n pb l W) => skip_any n pb l W hW.ps hk4)
  have HX := Lib.hid hX
  have HG := Lib.hid hgX
  have HR := Lib.hid mR
  clear h bA hX hgX mR hb0 hmap d3 he hk4
  generalize (⟨(nextT l).text.toArray⟩ : ByteArray) = tx at *
  generalize (nextT l).kind = kk at *
  generalize (nextT l).at_ = ta at *
  refine wp_region_later (by kernel_rfl) (by kernel_rfl) ?_
  repeat (go_big_quiet_step (((go_at_call 95; with_reducible exact later_of (HN.out _)))))
  refine wpQuiet_nil ?_
  intro _ hw'
  obtain ⟨z, hw''⟩ := hw'
  subst hw''
  have HZ := Lib.hid (HX.out.below z.below)
  have HG2 : Hid (w.grownBy z.val (some pb)) := Lib.hid (HG.out.trans (gb z.below))
  have HR2 := Lib.hid (HR.out.keep z.below)
  clear elk e3 HN
  cases hm : outputP l.tail with
  | no a =>
    have HMM := Lib.hid (HM.out.trans hm)
    have HC := Lib.hid (fun W (hW : PX n pb l.tail W) => rd_no (output_any n pb l.tail W hW) hm)
    clear hm
    go_wp2_with (first
      | (go_at_call 87; with_reducible refine (HC.out _ hx2).mono ?_; rintro e w3 ⟨rfl, hg3⟩)
      | (go_at_call 163; with_reducible refine (HS.out _ HZ.out).mono ?_; rintro e w2 ⟨rfl, hp2, hg2⟩; have hx2 := HZ.out.call hg2 hp2))
    exact ⟨rfl, Gives.of_no HMM.out ((HG2.out.trans hg2).trans hg3)⟩
  | ok x r =>
    have HMM := Lib.hid (HM.out.trans hm)
    have HC := Lib.hid (fun W (hW : PX n pb l.tail W) => rd_ok (output_any n pb l.tail W hW) hW hm)
    clear hm
    go_wp2_with (first
      | (refine wpList_store_row mR3 rfl _ _ rfl (iC x Aa ca Ab cb Ac cc An cn Ap cp) rfl rfl (by kernel_rfl) rfl (by kernel_rfl) ?_)
      | (go_at_call 87; refine (HC.out _ hx2).mono ?_; rintro e w3 ⟨_, rfl, ⟨_, rfl, Aa, ca, Ab, cb, Ac, cc, An, cn, Ap, cp, rfl, hir⟩, hx3, hg3⟩; have mR3 := mR2.grown hg3 nR)
      | (go_at_call 163; with_reducible refine (HS.out _ HZ.out).mono ?_; rintro e w2 ⟨rfl, hp2, hg2⟩; have hx2 := HZ.out.call hg2 hp2; have mR2 := HR2.out.grown hg2 nR))
    have gF := grown_setRow w3 b0 (iC x Aa ca Ab cb Ac cc An cn Ap cp)
    have hb2 := mR2.lt
    have hs2 := (HG2.out.trans hg2).size
    have hi : IR w3 (Fresh w2) x (iC x Aa ca Ab cb Ac cc An cn Ap cp) := ⟨Aa, ca, Ab, cb, Ac, cc, An, cn, Ap, cp, rfl, hir⟩
    exact bodyPost_ret_by (v := .agg (iC x Aa ca Ab cb Ac cc An cn Ap cp)) (results_cell_row rfl _ _ b0 _ (iC x Aa ca Ab cb Ac cc An cn Ap cp) (0, 0) _ rfl (mR3.set (iC x Aa ca Ab cb Ac cc An cn Ap cp)).h Tryz.underlying69 rfl (by kernel_rfl)) rfl
      (give_row (iC x Aa ca Ab cb Ac cc An cn Ap cp) HMM.out ⟨_, rfl, (hi.grown gF (fun g e h => by injection e with e; have h : w2.heap.size ≤ g := h; omega)).mono (fun b h => Nat.le_trans hs2 h)⟩ hx3 (by omega) ((HG2.out.trans hg2).trans hg3) (by omega))

set_option maxRecDepth 100000 in
set_option maxHeartbeats 2000000 in
theorem item_channel (n pb : Nat) (l : List Tk) (w : World) (h : PX n pb l w) (he : (nextT l).text = w_chan) :
    Calls Tryz.prog 146 #[.pointer (some ⟨pb, 0, none⟩)] w (Gives n pb l itemP (ItemV w) w) := by
  have hlt0 := h.lt
  have hrm := h.room
  obtain ⟨mR, bA⟩ := startO w #[.int .i64 0, .string ⟨#[]⟩, .int .i64 0, .string ⟨#[]⟩, .int .i64 0, .string ⟨#[]⟩, .int .i64 0, .string ⟨#[]⟩, .int .i64 0, .string ⟨#[]⟩, .int .i64 0, .string ⟨#[]⟩, .int .i64 0, .string ⟨#[]⟩, .slice none 0 0, .int .i64 0, .string ⟨#[]⟩, .int .i64 0, .string ⟨#[]⟩, .int .i64 0, .string ⟨#[]⟩, .slice none 0 0, .int .i64 0, .string ⟨#[]⟩, .int .i64 0, .string ⟨#[]⟩, .int .i64 0, .string ⟨#[]⟩, .slice none 0 0, .int .i64 0, .string ⟨#[]⟩, .int .i64 0, .string ⟨#[]⟩, .slice none 0 0, .slice none 0 0] 69
  have hX := h.below bA
  have hgX : w.grownBy _ (some pb) := gb bA
  go_enter Tryz.func146, Tryz.ntmps146
  go_upto_region 1 with fail
  generalize w.alloc (.cells #[.int .i64 0, .string ⟨#[]⟩, .int .i64 0, .string ⟨#[]⟩, .int .i64 0, .string ⟨#[]⟩, .int .i64 0, .string ⟨#[]⟩, .int .i64 0, .string ⟨#[]⟩, .int .i64 0, .string ⟨#[]⟩, .int .i64 0, .string ⟨#[]⟩, .slice none 0 0, .int .i64 0, .string ⟨#[]⟩, .int .i64 0, .string ⟨#[]⟩, .int .i64 0, .string ⟨#[]⟩, .slice none 0 0, .int .i64 0, .string ⟨#[]⟩, .int .i64 0, .string ⟨#[]⟩, .int .i64 0, .string ⟨#[]⟩, .slice none 0 0, .int .i64 0, .string ⟨#[]⟩, .int .i64 0, .string ⟨#[]⟩, .slice none 0 0, .slice none 0 0] 69) = X at *
  obtain ⟨b0, hb0⟩ : ∃ b, b = w.heap.size := ⟨_, rfl⟩
  rw [← hb0] at mR ⊢
  have hw0 : w.heap.size ≤ b0 := Nat.le_of_eq hb0.symm
  have nR : some b0 ≠ some pb := fun e => by injection e; omega
  obtain ⟨mI, d3, hmap, hlt⟩ := field3_ps hX.ps
  have e3 := fun q : Later X => (q.below.cell (p := ⟨pb, 3, none⟩) hlt).trans d3
  have HN := Lib.hid (fun q : Later X => next_any n pb l q.val (hX.ps.below q.below))
  unfold tkA at HN
  have elk := fun q : Later X => (hmap.kept (grown_below q.below) (by simp)).lookup_ok (P := Tryz.prog) Tryz.underlying167 Tryz.underlying9 ⟨(nextT l).text.toArray⟩ _ (zero_fn q.val)
  rw [show bys (⟨(nextT l).text.toArray⟩ : ByteArray) = (nextT l).text from rfl] at elk
  rw [show findS (nextT l).text itmE = some (.func (.func 88) #[] #[]) by rw [he]; rfl] at elk
  simp only [Option.getD_some, Option.isSome_some] at elk
  have HM : Hid (itemP l = channelP l.tail) := Lib.hid (by unfold itemP; rw [he]; rfl)
  have hk4 := h.ps.lt.kind4 (show (nextT l).text ≠ [] by rw [he]; decide)
  have HS := Lib.hid (fun W (hW : PX n pb l W) => skip_any n pb l W hW.ps hk4)
  have HX := Lib.hid hX
  have HG := Lib.hid hgX
  have HR := Lib.hid mR
  clear h bA hX hgX mR hb0 hmap d3 he hk4
  generalize (⟨(nextT l).text.toArray⟩ : ByteArray) = tx at *
  generalize (nextT l).kind = kk at *
  generalize (nextT l).at_ = ta at *
  refine wp_region_later (by kernel_rfl) (by kernel_rfl) ?_
  repeat (go_big_quiet_step (((go_at_call 95; with_reducible exact later_of (HN.out _)))))
  refine wpQuiet_nil ?_
  intro _ hw'
  obtain ⟨z, hw''⟩ := hw'
  subst hw''
  have HZ := Lib.hid (HX.out.below z.below)
  have HG2 : Hid (w.grownBy z.val (some pb)) := Lib.hid (HG.out.trans (gb z.below))
  have HR2 := Lib.hid (HR.out.keep z.below)
  clear elk e3 HN
  cases hm : channelP l.tail with
  | no a =>
    have HMM := Lib.hid (HM.out.trans hm)
    have HC := Lib.hid (fun W (hW : PX n pb l.tail W) => rd_no (channel_any n pb l.tail W hW) hm)
    clear hm
    go_wp2_with (first
      | (go_at_call 88; with_reducible refine (HC.out _ hx2).mono ?_; rintro e w3 ⟨rfl, hg3⟩)
      | (go_at_call 163; with_reducible refine (HS.out _ HZ.out).mono ?_; rintro e w2 ⟨rfl, hp2, hg2⟩; have hx2 := HZ.out.call hg2 hp2))
    exact ⟨rfl, Gives.of_no HMM.out ((HG2.out.trans hg2).trans hg3)⟩
  | ok x r =>
    have HMM := Lib.hid (HM.out.trans hm)
    have HC := Lib.hid (fun W (hW : PX n pb l.tail W) => rd_ok (channel_any n pb l.tail W hW) hW hm)
    clear hm
    go_wp2_with (first
      | (refine wpList_store_row mR3 rfl _ _ rfl (iC x Aa ca Ab cb Ac cc An cn Ap cp) rfl rfl (by kernel_rfl) rfl (by kernel_rfl) ?_)
      | (go_at_call 88; refine (HC.out _ hx2).mono ?_; rintro e w3 ⟨_, rfl, ⟨_, rfl, Aa, ca, Ab, cb, Ac, cc, An, cn, Ap, cp, rfl, hir⟩, hx3, hg3⟩; have mR3 := mR2.grown hg3 nR)
      | (go_at_call 163; with_reducible refine (HS.out _ HZ.out).mono ?_; rintro e w2 ⟨rfl, hp2, hg2⟩; have hx2 := HZ.out.call hg2 hp2; have mR2 := HR2.out.grown hg2 nR))
    have gF := grown_setRow w3 b0 (iC x Aa ca Ab cb Ac cc An cn Ap cp)
    have hb2 := mR2.lt
    have hs2 := (HG2.out.trans hg2).size
    have hi : IR w3 (Fresh w2) x (iC x Aa ca Ab cb Ac cc An cn Ap cp) := ⟨Aa, ca, Ab, cb, Ac, cc, An, cn, Ap, cp, rfl, hir⟩
    exact bodyPost_ret_by (v := .agg (iC x Aa ca Ab cb Ac cc An cn Ap cp)) (results_cell_row rfl _ _ b0 _ (iC x Aa ca Ab cb Ac cc An cn Ap cp) (0, 0) _ rfl (mR3.set (iC x Aa ca Ab cb Ac cc An cn Ap cp)).h Tryz.underlying69 rfl (by kernel_rfl)) rfl
      (give_row (iC x Aa ca Ab cb Ac cc An cn Ap cp) HMM.out ⟨_, rfl, (hi.grown gF (fun g e h => by injection e with e; have h : w2.heap.size ≤ g := h; omega)).mono (fun b h => Nat.le_trans hs2 h)⟩ hx3 (by omega) ((HG2.out.trans hg2).trans hg3) (by omega))

set_option maxRecDepth 100000 in
set_option maxHeartbeats 2000000 in
theorem item_register (n pb : Nat) (l : List Tk) (w : World) (h : PX n pb l w) (he : (nextT l).text = w_reg) :
    Calls Tryz.prog 146 #[.pointer (some ⟨pb, 0, none⟩)] w (Gives n pb l itemP (ItemV w) w) := by
  have hlt0 := h.lt
  have hrm := h.room
  obtain ⟨mR, bA⟩ := startO w #[.int .i64 0, .string ⟨#[]⟩, .int .i64 0, .string ⟨#[]⟩, .int .i64 0, .string ⟨#[]⟩, .int .i64 0, .string ⟨#[]⟩, .int .i64 0, .string ⟨#[]⟩, .int .i64 0, .string ⟨#[]⟩, .int .i64 0, .string ⟨#[]⟩, .slice none 0 0, .int .i64 0, .string ⟨#[]⟩, .int .i64 0, .string ⟨#[]⟩, .int .i64 0, .string ⟨#[]⟩, .slice none 0 0, .int .i64 0, .string ⟨#[]⟩, .int .i64 0, .string ⟨#[]⟩, .int .i64 0, .string ⟨#[]⟩, .slice none 0 0, .int .i64 0, .string ⟨#[]⟩, .int .i64 0, .string ⟨#[]⟩, .slice none 0 0, .slice none 0 0] 69
  have hX := h.below bA
  have hgX : w.grownBy _ (some pb) := gb bA
  go_enter Tryz.func146, Tryz.ntmps146
  go_upto_region 1 with fail
  generalize w.alloc (.cells #[.int .i64 0, .string ⟨#[]⟩, .int .i64 0, .string ⟨#[]⟩, .int .i64 0, .string ⟨#[]⟩, .int .i64 0, .string ⟨#[]⟩, .int .i64 0, .string ⟨#[]⟩, .int .i64 0, .string ⟨#[]⟩, .int .i64 0, .string ⟨#[]⟩, .slice none 0 0, .int .i64 0, .string ⟨#[]⟩, .int .i64 0, .string ⟨#[]⟩, .int .i64 0, .string ⟨#[]⟩, .slice none 0 0, .int .i64 0, .string ⟨#[]⟩, .int .i64 0, .string ⟨#[]⟩, .int .i64 0, .string ⟨#[]⟩, .slice none 0 0, .int .i64 0, .string ⟨#[]⟩, .int .i64 0, .string ⟨#[]⟩, .slice none 0 0, .slice none 0 0] 69) = X at *
  obtain ⟨b0, hb0⟩ : ∃ b, b = w.heap.size := ⟨_, rfl⟩
  rw [← hb0] at mR ⊢
  have hw0 : w.heap.size ≤ b0 := Nat.le_of_eq hb0.symm
  have nR : some b0 ≠ some pb := fun e => by injection e; omega
  obtain ⟨mI, d3, hmap, hlt⟩ := field3_ps hX.ps
  have e3 := fun q : Later X => (q.below.cell (p := ⟨pb, 3, none⟩) hlt).trans d3
  have HN := Lib.hid (fun q : Later X => next_any n pb l q.val (hX.ps.below q.below))
  unfold tkA at HN
  have elk := fun q : Later X => (hmap.kept (grown_below q.below) (by simp)).lookup_ok (P := Tryz.prog) Tryz.underlying167 Tryz.underlying9 ⟨(nextT l).text.toArray⟩ _ (zero_fn q.val)
  rw [show bys (⟨(nextT l).text.toArray⟩ : ByteArray) = (nextT l).text from rfl] at elk
  rw [show findS (nextT l).text itmE = some (.func (.func 89) #[] #[]) by rw [he]; rfl] at elk
  simp only [Option.getD_some, Option.isSome_some] at elk
  have HM : Hid (itemP l = registerP l.tail) := Lib.hid (by unfold itemP; rw [he]; rfl)
  have hk4 := h.ps.lt.kind4 (show (nextT l).text ≠ [] by rw [he]; decide)
  have HS := Lib.hid (fun W (hW : PX n pb l W) => skip_any n pb l W hW.ps hk4)
  have HX := Lib.hid hX
  have HG := Lib.hid hgX
  have HR := Lib.hid mR
  clear h bA hX hgX mR hb0 hmap d3 he hk4
  generalize (⟨(nextT l).text.toArray⟩ : ByteArray) = tx at *
  generalize (nextT l).kind = kk at *
  generalize (nextT l).at_ = ta at *
  refine wp_region_later (by kernel_rfl) (by kernel_rfl) ?_
  repeat (go_big_quiet_step (((go_at_call 95; with_reducible exact later_of (HN.out _)))))
  refine wpQuiet_nil ?_
  intro _ hw'
  obtain ⟨z, hw''⟩ := hw'
  subst hw''
  have HZ := Lib.hid (HX.out.below z.below)
  have HG2 : Hid (w.grownBy z.val (some pb)) := Lib.hid (HG.out.trans (gb z.below))
  have HR2 := Lib.hid (HR.out.keep z.below)
  clear elk e3 HN
  cases hm : registerP l.tail with
  | no a =>
    have HMM := Lib.hid (HM.out.trans hm)
    have HC := Lib.hid (fun W (hW : PX n pb l.tail W) => rd_no (register_any n pb l.tail W hW) hm)
    clear hm
    go_wp2_with (first
      | (go_at_call 89; with_reducible refine (HC.out _ hx2).mono ?_; rintro e w3 ⟨rfl, hg3⟩)
      | (go_at_call 163; with_reducible refine (HS.out _ HZ.out).mono ?_; rintro e w2 ⟨rfl, hp2, hg2⟩; have hx2 := HZ.out.call hg2 hp2))
    exact ⟨rfl, Gives.of_no HMM.out ((HG2.out.trans hg2).trans hg3)⟩
  | ok x r =>
    have HMM := Lib.hid (HM.out.trans hm)
    have HC := Lib.hid (fun W (hW : PX n pb l.tail W) => rd_ok (register_any n pb l.tail W hW) hW hm)
    clear hm
    go_wp2_with (first
      | (refine wpList_store_row mR3 rfl _ _ rfl (iC x Aa ca Ab cb Ac cc An cn Ap cp) rfl rfl (by kernel_rfl) rfl (by kernel_rfl) ?_)
      | (go_at_call 89; refine (HC.out _ hx2).mono ?_; rintro e w3 ⟨_, rfl, ⟨_, rfl, Aa, ca, Ab, cb, Ac, cc, An, cn, Ap, cp, rfl, hir⟩, hx3, hg3⟩; have mR3 := mR2.grown hg3 nR)
      | (go_at_call 163; with_reducible refine (HS.out _ HZ.out).mono ?_; rintro e w2 ⟨rfl, hp2, hg2⟩; have hx2 := HZ.out.call hg2 hp2; have mR2 := HR2.out.grown hg2 nR))
    have gF := grown_setRow w3 b0 (iC x Aa ca Ab cb Ac cc An cn Ap cp)
    have hb2 := mR2.lt
    have hs2 := (HG2.out.trans hg2).size
    have hi : IR w3 (Fresh w2) x (iC x Aa ca Ab cb Ac cc An cn Ap cp) := ⟨Aa, ca, Ab, cb, Ac, cc, An, cn, Ap, cp, rfl, hir⟩
    exact bodyPost_ret_by (v := .agg (iC x Aa ca Ab cb Ac cc An cn Ap cp)) (results_cell_row rfl _ _ b0 _ (iC x Aa ca Ab cb Ac cc An cn Ap cp) (0, 0) _ rfl (mR3.set (iC x Aa ca Ab cb Ac cc An cn Ap cp)).h Tryz.underlying69 rfl (by kernel_rfl)) rfl
      (give_row (iC x Aa ca Ab cb Ac cc An cn Ap cp) HMM.out ⟨_, rfl, (hi.grown gF (fun g e h => by injection e with e; have h : w2.heap.size ≤ g := h; omega)).mono (fun b h => Nat.le_trans hs2 h)⟩ hx3 (by omega) ((HG2.out.trans hg2).trans hg3) (by omega))

set_option maxRecDepth 100000 in
set_option maxHeartbeats 2000000 in
theorem item_wire (n pb : Nat) (l : List Tk) (w : World) (h : PX n pb l w) (he : (nextT l).text = w_wire) :
    Calls Tryz.prog 146 #[.pointer (some ⟨pb, 0, none⟩)] w (Gives n pb l itemP (ItemV w) w) := by
  have hlt0 := h.lt
  have hrm := h.room
  obtain ⟨mR, bA⟩ := startO w #[.int .i64 0, .string ⟨#[]⟩, .int .i64 0, .string ⟨#[]⟩, .int .i64 0, .string ⟨#[]⟩, .int .i64 0, .string ⟨#[]⟩, .int .i64 0, .string ⟨#[]⟩, .int .i64 0, .string ⟨#[]⟩, .int .i64 0, .string ⟨#[]⟩, .slice none 0 0, .int .i64 0, .string ⟨#[]⟩, .int .i64 0, .string ⟨#[]⟩, .int .i64 0, .string ⟨#[]⟩, .slice none 0 0, .int .i64 0, .string ⟨#[]⟩, .int .i64 0, .string ⟨#[]⟩, .int .i64 0, .string ⟨#[]⟩, .slice none 0 0, .int .i64 0, .string ⟨#[]⟩, .int .i64 0, .string ⟨#[]⟩, .slice none 0 0, .slice none 0 0] 69
  have hX := h.below bA
  have hgX : w.grownBy _ (some pb) := gb bA
  go_enter Tryz.func146, Tryz.ntmps146
  go_upto_region 1 with fail
  generalize w.alloc (.cells #[.int .i64 0, .string ⟨#[]⟩, .int .i64 0, .string ⟨#[]⟩, .int .i64 0, .string ⟨#[]⟩, .int .i64 0, .string ⟨#[]⟩, .int .i64 0, .string ⟨#[]⟩, .int .i64 0, .string ⟨#[]⟩, .int .i64 0, .string ⟨#[]⟩, .slice none 0 0, .int .i64 0, .string ⟨#[]⟩, .int .i64 0, .string ⟨#[]⟩, .int .i64 0, .string ⟨#[]⟩, .slice none 0 0, .int .i64 0, .string ⟨#[]⟩, .int .i64 0, .string ⟨#[]⟩, .int .i64 0, .string ⟨#[]⟩, .slice none 0 0, .int .i64 0, .string ⟨#[]⟩, .int .i64 0, .string ⟨#[]⟩, .slice none 0 0, .slice none 0 0] 69) = X at *
  obtain ⟨b0, hb0⟩ : ∃ b, b = w.heap.size := ⟨_, rfl⟩
  rw [← hb0] at mR ⊢
  have hw0 : w.heap.size ≤ b0 := Nat.le_of_eq hb0.symm
  have nR : some b0 ≠ some pb := fun e => by injection e; omega
  obtain ⟨mI, d3, hmap, hlt⟩ := field3_ps hX.ps
  have e3 := fun q : Later X => (q.below.cell (p := ⟨pb, 3, none⟩) hlt).trans d3
  have HN := Lib.hid (fun q : Later X => next_any n pb l q.val (hX.ps.below q.below))
  unfold tkA at HN
  have elk := fun q : Later X => (hmap.kept (grown_below q.below) (by simp)).lookup_ok (P := Tryz.prog) Tryz.underlying167 Tryz.underlying9 ⟨(nextT l).text.toArray⟩ _ (zero_fn q.val)
  rw [show bys (⟨(nextT l).text.toArray⟩ : ByteArray) = (nextT l).text from rfl] at elk
  rw [show findS (nextT l).text itmE = some (.func (.func 90) #[] #[]) by rw [he]; rfl] at elk
  simp only [Option.getD_some, Option.isSome_some] at elk
  have HM : Hid (itemP l = wireP l.tail) := Lib.hid (by unfold itemP; rw [he]; rfl)
  have hk4 := h.ps.lt.kind4 (show (nextT l).text ≠ [] by rw [he]; decide)
  have HS := Lib.hid (fun W (hW : PX n pb l W) => skip_any n pb l W hW.ps hk4)
  have HX := Lib.hid hX
  have HG := Lib.hid hgX
  have HR := Lib.hid mR
  clear h bA hX hgX mR hb0 hmap d3 he hk4
  generalize (⟨(nextT l).text.toArray⟩ : ByteArray) = tx at *
  generalize (nextT l).kind = kk at *
  generalize (nextT l).at_ = ta at *
  refine wp_region_later (by kernel_rfl) (by kernel_rfl) ?_
  repeat (go_big_quiet_step (((go_at_call 95; with_reducible exact later_of (HN.out _)))))
  refine wpQuiet_nil ?_
  intro _ hw'
  obtain ⟨z, hw''⟩ := hw'
  subst hw''
  have HZ := Lib.hid (HX.out.below z.below)
  have HG2 : Hid (w.grownBy z.val (some pb)) := Lib.hid (HG.out.trans (gb z.below))
  have HR2 := Lib.hid (HR.out.keep z.below)
  clear elk e3 HN
  cases hm : wireP l.tail with
  | no a =>
    have HMM := Lib.hid (HM.out.trans hm)
    have HC := Lib.hid (fun W (hW : PX n pb l.tail W) => rd_no (wire_any n pb l.tail W hW) hm)
    clear hm
    go_wp2_with (first
      | (go_at_call 90; with_reducible refine (HC.out _ hx2).mono ?_; rintro e w3 ⟨rfl, hg3⟩)
      | (go_at_call 163; with_reducible refine (HS.out _ HZ.out).mono ?_; rintro e w2 ⟨rfl, hp2, hg2⟩; have hx2 := HZ.out.call hg2 hp2))
    exact ⟨rfl, Gives.of_no HMM.out ((HG2.out.trans hg2).trans hg3)⟩
  | ok x r =>
    have HMM := Lib.hid (HM.out.trans hm)
    have HC := Lib.hid (fun W (hW : PX n pb l.tail W) => rd_ok (wire_any n pb l.tail W hW) hW hm)
    clear hm
    go_wp2_with (first
      | (refine wpList_store_row mR3 rfl _ _ rfl (iC x Aa ca Ab cb Ac cc An cn Ap cp) rfl rfl (by kernel_rfl) rfl (by kernel_rfl) ?_)
      | (go_at_call 90; refine (HC.out _ hx2).mono ?_; rintro e w3 ⟨_, rfl, ⟨_, rfl, Aa, ca, Ab, cb, Ac, cc, An, cn, Ap, cp, rfl, hir⟩, hx3, hg3⟩; have mR3 := mR2.grown hg3 nR)
      | (go_at_call 163; with_reducible refine (HS.out _ HZ.out).mono ?_; rintro e w2 ⟨rfl, hp2, hg2⟩; have hx2 := HZ.out.call hg2 hp2; have mR2 := HR2.out.grown hg2 nR))
    have gF := grown_setRow w3 b0 (iC x Aa ca Ab cb Ac cc An cn Ap cp)
    have hb2 := mR2.lt
    have hs2 := (HG2.out.trans hg2).size
    have hi : IR w3 (Fresh w2) x (iC x Aa ca Ab cb Ac cc An cn Ap cp) := ⟨Aa, ca, Ab, cb, Ac, cc, An, cn, Ap, cp, rfl, hir⟩
    exact bodyPost_ret_by (v := .agg (iC x Aa ca Ab cb Ac cc An cn Ap cp)) (results_cell_row rfl _ _ b0 _ (iC x Aa ca Ab cb Ac cc An cn Ap cp) (0, 0) _ rfl (mR3.set (iC x Aa ca Ab cb Ac cc An cn Ap cp)).h Tryz.underlying69 rfl (by kernel_rfl)) rfl
      (give_row (iC x Aa ca Ab cb Ac cc An cn Ap cp) HMM.out ⟨_, rfl, (hi.grown gF (fun g e h => by injection e with e; have h : w2.heap.size ≤ g := h; omega)).mono (fun b h => Nat.le_trans hs2 h)⟩ hx3 (by omega) ((HG2.out.trans hg2).trans hg3) (by omega))

set_option maxRecDepth 100000 in
set_option maxHeartbeats 2000000 in
theorem item_memory (n pb : Nat) (l : List Tk) (w : World) (h : PX n pb l w) (he : (nextT l).text = w_mem) :
    Calls Tryz.prog 146 #[.pointer (some ⟨pb, 0, none⟩)] w (Gives n pb l itemP (ItemV w) w) := by
  have hlt0 := h.lt
  have hrm := h.room
  obtain ⟨mR, bA⟩ := startO w #[.int .i64 0, .string ⟨#[]⟩, .int .i64 0, .string ⟨#[]⟩, .int .i64 0, .string ⟨#[]⟩, .int .i64 0, .string ⟨#[]⟩, .int .i64 0, .string ⟨#[]⟩, .int .i64 0, .string ⟨#[]⟩, .int .i64 0, .string ⟨#[]⟩, .slice none 0 0, .int .i64 0, .string ⟨#[]⟩, .int .i64 0, .string ⟨#[]⟩, .int .i64 0, .string ⟨#[]⟩, .slice none 0 0, .int .i64 0, .string ⟨#[]⟩, .int .i64 0, .string ⟨#[]⟩, .int .i64 0, .string ⟨#[]⟩, .slice none 0 0, .int .i64 0, .string ⟨#[]⟩, .int .i64 0, .string ⟨#[]⟩, .slice none 0 0, .slice none 0 0] 69
  have hX := h.below bA
  have hgX : w.grownBy _ (some pb) := gb bA
  go_enter Tryz.func146, Tryz.ntmps146
  go_upto_region 1 with fail
  generalize w.alloc (.cells #[.int .i64 0, .string ⟨#[]⟩, .int .i64 0, .string ⟨#[]⟩, .int .i64 0, .string ⟨#[]⟩, .int .i64 0, .string ⟨#[]⟩, .int .i64 0, .string ⟨#[]⟩, .int .i64 0, .string ⟨#[]⟩, .int .i64 0, .string ⟨#[]⟩, .slice none 0 0, .int .i64 0, .string ⟨#[]⟩, .int .i64 0, .string ⟨#[]⟩, .int .i64 0, .string ⟨#[]⟩, .slice none 0 0, .int .i64 0, .string ⟨#[]⟩, .int .i64 0, .string ⟨#[]⟩, .int .i64 0, .string ⟨#[]⟩, .slice none 0 0, .int .i64 0, .string ⟨#[]⟩, .int .i64 0, .string ⟨#[]⟩, .slice none 0 0, .slice none 0 0] 69) = X at *
  obtain ⟨b0, hb0⟩ : ∃ b, b = w.heap.size := ⟨_, rfl⟩
  rw [← hb0] at mR ⊢
  have hw0 : w.heap.size ≤ b0 := Nat.le_of_eq hb0.symm
  have nR : some b0 ≠ some pb := fun e => by injection e; omega
  obtain ⟨mI, d3, hmap, hlt⟩ := field3_ps hX.ps
  have e3 := fun q : Later X => (q.below.cell (p := ⟨pb, 3, none⟩) hlt).trans d3
  have HN := Lib.hid (fun q : Later X => next_any n pb l q.val (hX.ps.below q.below))
  unfold tkA at HN
  have elk := fun q : Later X => (hmap.kept (grown_below q.below) (by simp)).lookup_ok (P := Tryz.prog) Tryz.underlying167 Tryz.underlying9 ⟨(nextT l).text.toArray⟩ _ (zero_fn q.val)
  rw [show bys (⟨(nextT l).text.toArray⟩ : ByteArray) = (nextT l).text from rfl] at elk
  rw [show findS (nextT l).text itmE = some (.func (.func 91) #[] #[]) by rw [he]; rfl] at elk
  simp only [Option.getD_some, Option.isSome_some] at elk
  have HM : Hid (itemP l = memoryP l.tail) := Lib.hid (by unfold itemP; rw [he]; rfl)
  have hk4 := h.ps.lt.kind4 (show (nextT l).text ≠ [] by rw [he]; decide)
  have HS := Lib.hid (fun W (hW : PX n pb l W) => skip_any n pb l W hW.ps hk4)
  have HX := Lib.hid hX
  have HG := Lib.hid hgX
  have HR := Lib.hid mR
  clear h bA hX hgX mR hb0 hmap d3 he hk4
  generalize (⟨(nextT l).text.toArray⟩ : ByteArray) = tx at *
  generalize (nextT l).kind = kk at *
  generalize (nextT l).at_ = ta at *
  refine wp_region_later (by kernel_rfl) (by kernel_rfl) ?_
  repeat (go_big_quiet_step (((go_at_call 95; with_reducible exact later_of (HN.out _)))))
  refine wpQuiet_nil ?_
  intro _ hw'
  obtain ⟨z, hw''⟩ := hw'
  subst hw''
  have HZ := Lib.hid (HX.out.below z.below)
  have HG2 : Hid (w.grownBy z.val (some pb)) := Lib.hid (HG.out.trans (gb z.below))
  have HR2 := Lib.hid (HR.out.keep z.below)
  clear elk e3 HN
  cases hm : memoryP l.tail with
  | no a =>
    have HMM := Lib.hid (HM.out.trans hm)
    have HC := Lib.hid (fun W (hW : PX n pb l.tail W) => rd_no (memory_any n pb l.tail W hW) hm)
    clear hm
    go_wp2_with (first
      | (go_at_call 91; with_reducible refine (HC.out _ hx2).mono ?_; rintro e w3 ⟨rfl, hg3⟩)
      | (go_at_call 163; with_reducible refine (HS.out _ HZ.out).mono ?_; rintro e w2 ⟨rfl, hp2, hg2⟩; have hx2 := HZ.out.call hg2 hp2))
    exact ⟨rfl, Gives.of_no HMM.out ((HG2.out.trans hg2).trans hg3)⟩
  | ok x r =>
    have HMM := Lib.hid (HM.out.trans hm)
    have HC := Lib.hid (fun W (hW : PX n pb l.tail W) => rd_ok (memory_any n pb l.tail W hW) hW hm)
    clear hm
    go_wp2_with (first
      | (refine wpList_store_row mR3 rfl _ _ rfl (iC x Aa ca Ab cb Ac cc An cn Ap cp) rfl rfl (by kernel_rfl) rfl (by kernel_rfl) ?_)
      | (go_at_call 91; refine (HC.out _ hx2).mono ?_; rintro e w3 ⟨_, rfl, ⟨_, rfl, Aa, ca, Ab, cb, Ac, cc, An, cn, Ap, cp, rfl, hir⟩, hx3, hg3⟩; have mR3 := mR2.grown hg3 nR)
      | (go_at_call 163; with_reducible refine (HS.out _ HZ.out).mono ?_; rintro e w2 ⟨rfl, hp2, hg2⟩; have hx2 := HZ.out.call hg2 hp2; have mR2 := HR2.out.grown hg2 nR))
    have gF := grown_setRow w3 b0 (iC x Aa ca Ab cb Ac cc An cn Ap cp)
    have hb2 := mR2.lt
    have hs2 := (HG2.out.trans hg2).size
    have hi : IR w3 (Fresh w2) x (iC x Aa ca Ab cb Ac cc An cn Ap cp) := ⟨Aa, ca, Ab, cb, Ac, cc, An, cn, Ap, cp, rfl, hir⟩
    exact bodyPost_ret_by (v := .agg (iC x Aa ca Ab cb Ac cc An cn Ap cp)) (results_cell_row rfl _ _ b0 _ (iC x Aa ca Ab cb Ac cc An cn Ap cp) (0, 0) _ rfl (mR3.set (iC x Aa ca Ab cb Ac cc An cn Ap cp)).h Tryz.underlying69 rfl (by kernel_rfl)) rfl
      (give_row (iC x Aa ca Ab cb Ac cc An cn Ap cp) HMM.out ⟨_, rfl, (hi.grown gF (fun g e h => by injection e with e; have h : w2.heap.size ≤ g := h; omega)).mono (fun b h => Nat.le_trans hs2 h)⟩ hx3 (by omega) ((HG2.out.trans hg2).trans hg3) (by omega))

set_option maxRecDepth 100000 in
set_option maxHeartbeats 2000000 in
theorem item_take (n pb : Nat) (l : List Tk) (w : World) (h : PX n pb l w) (he : (nextT l).text = w_take) :
    Calls Tryz.prog 146 #[.pointer (some ⟨pb, 0, none⟩)] w (Gives n pb l itemP (ItemV w) w) := by
  have hlt0 := h.lt
  have hrm := h.room
  obtain ⟨mR, bA⟩ := startO w #[.int .i64 0, .string ⟨#[]⟩, .int .i64 0, .string ⟨#[]⟩, .int .i64 0, .string ⟨#[]⟩, .int .i64 0, .string ⟨#[]⟩, .int .i64 0, .string ⟨#[]⟩, .int .i64 0, .string ⟨#[]⟩, .int .i64 0, .string ⟨#[]⟩, .slice none 0 0, .int .i64 0, .string ⟨#[]⟩, .int .i64 0, .string ⟨#[]⟩, .int .i64 0, .string ⟨#[]⟩, .slice none 0 0, .int .i64 0, .string ⟨#[]⟩, .int .i64 0, .string ⟨#[]⟩, .int .i64 0, .string ⟨#[]⟩, .slice none 0 0, .int .i64 0, .string ⟨#[]⟩, .int .i64 0, .string ⟨#[]⟩, .slice none 0 0, .slice none 0 0] 69
  have hX := h.below bA
  have hgX : w.grownBy _ (some pb) := gb bA
  go_enter Tryz.func146, Tryz.ntmps146
  go_upto_region 1 with fail
  generalize w.alloc (.cells #[.int .i64 0, .string ⟨#[]⟩, .int .i64 0, .string ⟨#[]⟩, .int .i64 0, .string ⟨#[]⟩, .int .i64 0, .string ⟨#[]⟩, .int .i64 0, .string ⟨#[]⟩, .int .i64 0, .string ⟨#[]⟩, .int .i64 0, .string ⟨#[]⟩, .slice none 0 0, .int .i64 0, .string ⟨#[]⟩, .int .i64 0, .string ⟨#[]⟩, .int .i64 0, .string ⟨#[]⟩, .slice none 0 0, .int .i64 0, .string ⟨#[]⟩, .int .i64 0, .string ⟨#[]⟩, .int .i64 0, .string ⟨#[]⟩, .slice none 0 0, .int .i64 0, .string ⟨#[]⟩, .int .i64 0, .string ⟨#[]⟩, .slice none 0 0, .slice none 0 0] 69) = X at *
  obtain ⟨b0, hb0⟩ : ∃ b, b = w.heap.size := ⟨_, rfl⟩
  rw [← hb0] at mR ⊢
  have hw0 : w.heap.size ≤ b0 := Nat.le_of_eq hb0.symm
  have nR : some b0 ≠ some pb := fun e => by injection e; omega
  obtain ⟨mI, d3, hmap, hlt⟩ := field3_ps hX.ps
  have e3 := fun q : Later X => (q.below.cell (p := ⟨pb, 3, none⟩) hlt).trans d3
  have HN := Lib.hid (fun q : Later X => next_any n pb l q.val (hX.ps.below q.below))
  unfold tkA at HN
  have elk := fun q : Later X => (hmap.kept (grown_below q.below) (by simp)).lookup_ok (P := Tryz.prog) Tryz.underlying167 Tryz.underlying9 ⟨(nextT l).text.toArray⟩ _ (zero_fn q.val)
  rw [show bys (⟨(nextT l).text.toArray⟩ : ByteArray) = (nextT l).text from rfl] at elk
  rw [show findS (nextT l).text itmE = some (.func (.func 92) #[] #[]) by rw [he]; rfl] at elk
  simp only [Option.getD_some, Option.isSome_some] at elk
  have HM : Hid (itemP l = takeP l.tail) := Lib.hid (by unfold itemP; rw [he]; rfl)
  have hk4 := h.ps.lt.kind4 (show (nextT l).text ≠ [] by rw [he]; decide)
  have HS := Lib.hid (fun W (hW : PX n pb l W) => skip_any n pb l W hW.ps hk4)
  have HX := Lib.hid hX
  have HG := Lib.hid hgX
  have HR := Lib.hid mR
  clear h bA hX hgX mR hb0 hmap d3 he hk4
  generalize (⟨(nextT l).text.toArray⟩ : ByteArray) = tx at *
  generalize (nextT l).kind = kk at *
  generalize (nextT l).at_ = ta at *
  refine wp_region_later (by kernel_rfl) (by kernel_rfl) ?_
  repeat (go_big_quiet_step (((go_at_call 95; with_reducible exact later_of (HN.out _)))))
  refine wpQuiet_nil ?_
  intro _ hw'
  obtain ⟨z, hw''⟩ := hw'
  subst hw''
  have HZ := Lib.hid (HX.out.below z.below)
  have HG2 : Hid (w.grownBy z.val (some pb)) := Lib.hid (HG.out.trans (gb z.below))
  have HR2 := Lib.hid (HR.out.keep z.below)
  clear elk e3 HN
  cases hm : takeP l.tail with
  | no a =>
    have HMM := Lib.hid (HM.out.trans hm)
    have HC := Lib.hid (fun W (hW : PX n pb l.tail W) => rd_no (take_any n pb l.tail W hW) hm)
    clear hm
    go_wp2_with (first
      | (go_at_call 92; with_reducible refine (HC.out _ hx2).mono ?_; rintro e w3 ⟨rfl, hg3⟩)
      | (go_at_call 163; with_reducible refine (HS.out _ HZ.out).mono ?_; rintro e w2 ⟨rfl, hp2, hg2⟩; have hx2 := HZ.out.call hg2 hp2))
    exact ⟨rfl, Gives.of_no HMM.out ((HG2.out.trans hg2).trans hg3)⟩
  | ok x r =>
    have HMM := Lib.hid (HM.out.trans hm)
    have HC := Lib.hid (fun W (hW : PX n pb l.tail W) => rd_ok (take_any n pb l.tail W hW) hW hm)
    clear hm
    go_wp2_with (first
      | (refine wpList_store_row mR3 rfl _ _ rfl (iC x Aa ca Ab cb Ac cc An cn Ap cp) rfl rfl (by kernel_rfl) rfl (by kernel_rfl) ?_)
      | (go_at_call 92; refine (HC.out _ hx2).mono ?_; rintro e w3 ⟨_, rfl, ⟨_, rfl, Aa, ca, Ab, cb, Ac, cc, An, cn, Ap, cp, rfl, hir⟩, hx3, hg3⟩; have mR3 := mR2.grown hg3 nR)
      | (go_at_call 163; with_reducible refine (HS.out _ HZ.out).mono ?_; rintro e w2 ⟨rfl, hp2, hg2⟩; have hx2 := HZ.out.call hg2 hp2; have mR2 := HR2.out.grown hg2 nR))
    have gF := grown_setRow w3 b0 (iC x Aa ca Ab cb Ac cc An cn Ap cp)
    have hb2 := mR2.lt
    have hs2 := (HG2.out.trans hg2).size
    have hi : IR w3 (Fresh w2) x (iC x Aa ca Ab cb Ac cc An cn Ap cp) := ⟨Aa, ca, Ab, cb, Ac, cc, An, cn, Ap, cp, rfl, hir⟩
    exact bodyPost_ret_by (v := .agg (iC x Aa ca Ab cb Ac cc An cn Ap cp)) (results_cell_row rfl _ _ b0 _ (iC x Aa ca Ab cb Ac cc An cn Ap cp) (0, 0) _ rfl (mR3.set (iC x Aa ca Ab cb Ac cc An cn Ap cp)).h Tryz.underlying69 rfl (by kernel_rfl)) rfl
      (give_row (iC x Aa ca Ab cb Ac cc An cn Ap cp) HMM.out ⟨_, rfl, (hi.grown gF (fun g e h => by injection e with e; have h : w2.heap.size ≤ g := h; omega)).mono (fun b h => Nat.le_trans hs2 h)⟩ hx3 (by omega) ((HG2.out.trans hg2).trans hg3) (by omega))

set_option maxRecDepth 100000 in
set_option maxHeartbeats 2000000 in
theorem item_put (n pb : Nat) (l : List Tk) (w : World) (h : PX n pb l w) (he : (nextT l).text = w_put) :
    Calls Tryz.prog 146 #[.pointer (some ⟨pb, 0, none⟩)] w (Gives n pb l itemP (ItemV w) w) := by
  have hlt0 := h.lt
  have hrm := h.room
  obtain ⟨mR, bA⟩ := startO w #[.int .i64 0, .string ⟨#[]⟩, .int .i64 0, .string ⟨#[]⟩, .int .i64 0, .string ⟨#[]⟩, .int .i64 0, .string ⟨#[]⟩, .int .i64 0, .string ⟨#[]⟩, .int .i64 0, .string ⟨#[]⟩, .int .i64 0, .string ⟨#[]⟩, .slice none 0 0, .int .i64 0, .string ⟨#[]⟩, .int .i64 0, .string ⟨#[]⟩, .int .i64 0, .string ⟨#[]⟩, .slice none 0 0, .int .i64 0, .string ⟨#[]⟩, .int .i64 0, .string ⟨#[]⟩, .int .i64 0, .string ⟨#[]⟩, .slice none 0 0, .int .i64 0, .string ⟨#[]⟩, .int .i64 0, .string ⟨#[]⟩, .slice none 0 0, .slice none 0 0] 69
  have hX := h.below bA
  have hgX : w.grownBy _ (some pb) := gb bA
  go_enter Tryz.func146, Tryz.ntmps146
  go_upto_region 1 with fail
  generalize w.alloc (.cells #[.int .i64 0, .string ⟨#[]⟩, .int .i64 0, .string ⟨#[]⟩, .int .i64 0, .string ⟨#[]⟩, .int .i64 0, .string ⟨#[]⟩, .int .i64 0, .string ⟨#[]⟩, .int .i64 0, .string ⟨#[]⟩, .int .i64 0, .string ⟨#[]⟩, .slice none 0 0, .int .i64 0, .string ⟨#[]⟩, .int .i64 0, .string ⟨#[]⟩, .int .i64 0, .string ⟨#[]⟩, .slice none 0 0, .int .i64 0, .string ⟨#[]⟩, .int .i64 0, .string ⟨#[]⟩, .int .i64 0, .string ⟨#[]⟩, .slice none 0 0, .int .i64 0, .string ⟨#[]⟩, .int .i64 0, .string ⟨#[]⟩, .slice none 0 0, .slice none 0 0] 69) = X at *
  obtain ⟨b0, hb0⟩ : ∃ b, b = w.heap.size := ⟨_, rfl⟩
  rw [← hb0] at mR ⊢
  have hw0 : w.heap.size ≤ b0 := Nat.le_of_eq hb0.symm
  have nR : some b0 ≠ some pb := fun e => by injection e; omega
  obtain ⟨mI, d3, hmap, hlt⟩ := field3_ps hX.ps
  have e3 := fun q : Later X => (q.below.cell (p := ⟨pb, 3, none⟩) hlt).trans d3
  have HN := Lib.hid (fun q : Later X => next_any n pb l q.val (hX.ps.below q.below))
  unfold tkA at HN
  have elk := fun q : Later X => (hmap.kept (grown_below q.below) (by simp)).lookup_ok (P := Tryz.prog) Tryz.underlying167 Tryz.underlying9 ⟨(nextT l).text.toArray⟩ _ (zero_fn q.val)
  rw [show bys (⟨(nextT l).text.toArray⟩ : ByteArray) = (nextT l).text from rfl] at elk
  rw [show findS (nextT l).text itmE = some (.func (.func 93) #[] #[]) by rw [he]; rfl] at elk
  simp only [Option.getD_some, Option.isSome_some] at elk
  have HM : Hid (itemP l = putP l.tail) := Lib.hid (by unfold itemP; rw [he]; rfl)
  have hk4 := h.ps.lt.kind4 (show (nextT l).text ≠ [] by rw [he]; decide)
  have HS := Lib.hid (fun W (hW : PX n pb l W) => skip_any n pb l W hW.ps hk4)
  have HX := Lib.hid hX
  have HG := Lib.hid hgX
  have HR := Lib.hid mR
  clear h bA hX hgX mR hb0 hmap d3 he hk4
  generalize (⟨(nextT l).text.toArray⟩ : ByteArray) = tx at *
  generalize (nextT l).kind = kk at *
  generalize (nextT l).at_ = ta at *
  refine wp_region_later (by kernel_rfl) (by kernel_rfl) ?_
  repeat (go_big_quiet_step (((go_at_call 95; with_reducible exact later_of (HN.out _)))))
  refine wpQuiet_nil ?_
  intro _ hw'
  obtain ⟨z, hw''⟩ := hw'
  subst hw''
  have HZ := Lib.hid (HX.out.below z.below)
  have HG2 : Hid (w.grownBy z.val (some pb)) := Lib.hid (HG.out.trans (gb z.below))
  have HR2 := Lib.hid (HR.out.keep z.below)
  clear elk e3 HN
  cases hm : putP l.tail with
  | no a =>
    have HMM := Lib.hid (HM.out.trans hm)
    have HC := Lib.hid (fun W (hW : PX n pb l.tail W) => rd_no (put_any n pb l.tail W hW) hm)
    clear hm
    go_wp2_with (first
      | (go_at_call 93; with_reducible refine (HC.out _ hx2).mono ?_; rintro e w3 ⟨rfl, hg3⟩)
      | (go_at_call 163; with_reducible refine (HS.out _ HZ.out).mono ?_; rintro e w2 ⟨rfl, hp2, hg2⟩; have hx2 := HZ.out.call hg2 hp2))
    exact ⟨rfl, Gives.of_no HMM.out ((HG2.out.trans hg2).trans hg3)⟩
  | ok x r =>
    have HMM := Lib.hid (HM.out.trans hm)
    have HC := Lib.hid (fun W (hW : PX n pb l.tail W) => rd_ok (put_any n pb l.tail W hW) hW hm)
    clear hm
    go_wp2_with (first
      | (refine wpList_store_row mR3 rfl _ _ rfl (iC x Aa ca Ab cb Ac cc An cn Ap cp) rfl rfl (by kernel_rfl) rfl (by kernel_rfl) ?_)
      | (go_at_call 93; refine (HC.out _ hx2).mono ?_; rintro e w3 ⟨_, rfl, ⟨_, rfl, Aa, ca, Ab, cb, Ac, cc, An, cn, Ap, cp, rfl, hir⟩, hx3, hg3⟩; have mR3 := mR2.grown hg3 nR)
      | (go_at_call 163; with_reducible refine (HS.out _ HZ.out).mono ?_; rintro e w2 ⟨rfl, hp2, hg2⟩; have hx2 := HZ.out.call hg2 hp2; have mR2 := HR2.out.grown hg2 nR))
    have gF := grown_setRow w3 b0 (iC x Aa ca Ab cb Ac cc An cn Ap cp)
    have hb2 := mR2.lt
    have hs2 := (HG2.out.trans hg2).size
    have hi : IR w3 (Fresh w2) x (iC x Aa ca Ab cb Ac cc An cn Ap cp) := ⟨Aa, ca, Ab, cb, Ac, cc, An, cn, Ap, cp, rfl, hir⟩
    exact bodyPost_ret_by (v := .agg (iC x Aa ca Ab cb Ac cc An cn Ap cp)) (results_cell_row rfl _ _ b0 _ (iC x Aa ca Ab cb Ac cc An cn Ap cp) (0, 0) _ rfl (mR3.set (iC x Aa ca Ab cb Ac cc An cn Ap cp)).h Tryz.underlying69 rfl (by kernel_rfl)) rfl
      (give_row (iC x Aa ca Ab cb Ac cc An cn Ap cp) HMM.out ⟨_, rfl, (hi.grown gF (fun g e h => by injection e with e; have h : w2.heap.size ≤ g := h; omega)).mono (fun b h => Nat.le_trans hs2 h)⟩ hx3 (by omega) ((HG2.out.trans hg2).trans hg3) (by omega))

set_option maxRecDepth 100000 in
set_option maxHeartbeats 2000000 in
theorem item_instance (n pb : Nat) (l : List Tk) (w : World) (h : PX n pb l w) (he : (nextT l).text = w_inst) :
    Calls Tryz.prog 146 #[.pointer (some ⟨pb, 0, none⟩)] w (Gives n pb l itemP (ItemV w) w) := by
  have hlt0 := h.lt
  have hrm := h.room
  obtain ⟨mR, bA⟩ := startO w #[.int .i64 0, .string ⟨#[]⟩, .int .i64 0, .string ⟨#[]⟩, .int .i64 0, .string ⟨#[]⟩, .int .i64 0, .string ⟨#[]⟩, .int .i64 0, .string ⟨#[]⟩, .int .i64 0, .string ⟨#[]⟩, .int .i64 0, .string ⟨#[]⟩, .slice none 0 0, .int .i64 0, .string ⟨#[]⟩, .int .i64 0, .string ⟨#[]⟩, .int .i64 0, .string ⟨#[]⟩, .slice none 0 0, .int .i64 0, .string ⟨#[]⟩, .int .i64 0, .string ⟨#[]⟩, .int .i64 0, .string ⟨#[]⟩, .slice none 0 0, .int .i64 0, .string ⟨#[]⟩, .int .i64 0, .string ⟨#[]⟩, .slice none 0 0, .slice none 0 0] 69
  have hX := h.below bA
  have hgX : w.grownBy _ (some pb) := gb bA
  go_enter Tryz.func146, Tryz.ntmps146
  go_upto_region 1 with fail
  generalize w.alloc (.cells #[.int .i64 0, .string ⟨#[]⟩, .int .i64 0, .string ⟨#[]⟩, .int .i64 0, .string ⟨#[]⟩, .int .i64 0, .string ⟨#[]⟩, .int .i64 0, .string ⟨#[]⟩, .int .i64 0, .string ⟨#[]⟩, .int .i64 0, .string ⟨#[]⟩, .slice none 0 0, .int .i64 0, .string ⟨#[]⟩, .int .i64 0, .string ⟨#[]⟩, .int .i64 0, .string ⟨#[]⟩, .slice none 0 0, .int .i64 0, .string ⟨#[]⟩, .int .i64 0, .string ⟨#[]⟩, .int .i64 0, .string ⟨#[]⟩, .slice none 0 0, .int .i64 0, .string ⟨#[]⟩, .int .i64 0, .string ⟨#[]⟩, .slice none 0 0, .slice none 0 0] 69) = X at *
  obtain ⟨b0, hb0⟩ : ∃ b, b = w.heap.size := ⟨_, rfl⟩
  rw [← hb0] at mR ⊢
  have hw0 : w.heap.size ≤ b0 := Nat.le_of_eq hb0.symm
  have nR : some b0 ≠ some pb := fun e => by injection e; omega
  obtain ⟨mI, d3, hmap, hlt⟩ := field3_ps hX.ps
  have e3 := fun q : Later X => (q.below.cell (p := ⟨pb, 3, none⟩) hlt).trans d3
  have HN := Lib.hid (fun q : Later X => next_any n pb l q.val (hX.ps.below q.below))
  unfold tkA at HN
  have elk := fun q : Later X => (hmap.kept (grown_below q.below) (by simp)).lookup_ok (P := Tryz.prog) Tryz.underlying167 Tryz.underlying9 ⟨(nextT l).text.toArray⟩ _ (zero_fn q.val)
  rw [show bys (⟨(nextT l).text.toArray⟩ : ByteArray) = (nextT l).text from rfl] at elk
  rw [show findS (nextT l).text itmE = some (.func (.func 94) #[] #[]) by rw [he]; rfl] at elk
  simp only [Option.getD_some, Option.isSome_some] at elk
  have HM : Hid (itemP l = instP l.tail) := Lib.hid (by unfold itemP; rw [he]; rfl)
  have hk4 := h.ps.lt.kind4 (show (nextT l).text ≠ [] by rw [he]; decide)
  have HS := Lib.hid (fun W (hW : PX n pb l W) => skip_any n pb l W hW.ps hk4)
  have HX := Lib.hid hX
  have HG := Lib.hid hgX
  have HR := Lib.hid mR
  clear h bA hX hgX mR hb0 hmap d3 he hk4
  generalize (⟨(nextT l).text.toArray⟩ : ByteArray) = tx at *
  generalize (nextT l).kind = kk at *
  generalize (nextT l).at_ = ta at *
  refine wp_region_later (by kernel_rfl) (by kernel_rfl) ?_
  repeat (go_big_quiet_step (((go_at_call 95; with_reducible exact later_of (HN.out _)))))
  refine wpQuiet_nil ?_
  intro _ hw'
  obtain ⟨z, hw''⟩ := hw'
  subst hw''
  have HZ := Lib.hid (HX.out.below z.below)
  have HG2 : Hid (w.grownBy z.val (some pb)) := Lib.hid (HG.out.trans (gb z.below))
  have HR2 := Lib.hid (HR.out.keep z.below)
  clear elk e3 HN
  cases hm : instP l.tail with
  | no a =>
    have HMM := Lib.hid (HM.out.trans hm)
    have HC := Lib.hid (fun W (hW : PX n pb l.tail W) => rd_no (instance_any n pb l.tail W hW) hm)
    clear hm
    go_wp2_with (first
      | (go_at_call 94; with_reducible refine (HC.out _ hx2).mono ?_; rintro e w3 ⟨rfl, hg3⟩)
      | (go_at_call 163; with_reducible refine (HS.out _ HZ.out).mono ?_; rintro e w2 ⟨rfl, hp2, hg2⟩; have hx2 := HZ.out.call hg2 hp2))
    exact ⟨rfl, Gives.of_no HMM.out ((HG2.out.trans hg2).trans hg3)⟩
  | ok x r =>
    have HMM := Lib.hid (HM.out.trans hm)
    have HC := Lib.hid (fun W (hW : PX n pb l.tail W) => rd_ok (instance_any n pb l.tail W hW) hW hm)
    clear hm
    go_wp2_with (first
      | (refine wpList_store_row mR3 rfl _ _ rfl (iC x Aa ca Ab cb Ac cc An cn Ap cp) rfl rfl (by kernel_rfl) rfl (by kernel_rfl) ?_)
      | (go_at_call 94; refine (HC.out _ hx2).mono ?_; rintro e w3 ⟨_, rfl, ⟨_, rfl, Aa, ca, Ab, cb, Ac, cc, An, cn, Ap, cp, rfl, hir⟩, hx3, hg3⟩; have mR3 := mR2.grown hg3 nR)
      | (go_at_call 163; with_reducible refine (HS.out _ HZ.out).mono ?_; rintro e w2 ⟨rfl, hp2, hg2⟩; have hx2 := HZ.out.call hg2 hp2; have mR2 := HR2.out.grown hg2 nR))
    have gF := grown_setRow w3 b0 (iC x Aa ca Ab cb Ac cc An cn Ap cp)
    have hb2 := mR2.lt
    have hs2 := (HG2.out.trans hg2).size
    have hi : IR w3 (Fresh w2) x (iC x Aa ca Ab cb Ac cc An cn Ap cp) := ⟨Aa, ca, Ab, cb, Ac, cc, An, cn, Ap, cp, rfl, hir⟩
    exact bodyPost_ret_by (v := .agg (iC x Aa ca Ab cb Ac cc An cn Ap cp)) (results_cell_row rfl _ _ b0 _ (iC x Aa ca Ab cb Ac cc An cn Ap cp) (0, 0) _ rfl (mR3.set (iC x Aa ca Ab cb Ac cc An cn Ap cp)).h Tryz.underlying69 rfl (by kernel_rfl)) rfl
      (give_row (iC x Aa ca Ab cb Ac cc An cn Ap cp) HMM.out ⟨_, rfl, (hi.grown gF (fun g e h => by injection e with e; have h : w2.heap.size ≤ g := h; omega)).mono (fun b h => Nat.le_trans hs2 h)⟩ hx3 (by omega) ((HG2.out.trans hg2).trans hg3) (by omega))

theorem item_any (n pb : Nat) (l : List Tk) (w : World) (h : PX n pb l w) :
    Calls Tryz.prog 146 #[.pointer (some ⟨pb, 0, none⟩)] w (Gives n pb l itemP (ItemV w) w) := by
  by_cases h_in : (nextT l).text = w_in
  · exact item_input n pb l w h h_in
  by_cases h_out : (nextT l).text = w_out
  · exact item_output n pb l w h h_out
  by_cases h_chan : (nextT l).text = w_chan
  · exact item_channel n pb l w h h_chan
  by_cases h_reg : (nextT l).text = w_reg
  · exact item_register n pb l w h h_reg
  by_cases h_wire : (nextT l).text = w_wire
  · exact item_wire n pb l w h h_wire
  by_cases h_mem : (nextT l).text = w_mem
  · exact item_memory n pb l w h h_mem
  by_cases h_take : (nextT l).text = w_take
  · exact item_take n pb l w h h_take
  by_cases h_put : (nextT l).text = w_put
  · exact item_put n pb l w h h_put
  by_cases h_inst : (nextT l).text = w_inst
  · exact item_instance n pb l w h h_inst
  refine item_none n pb l w h fun x hx e => ?_
  simp only [itemsT, List.mem_cons, List.not_mem_nil, or_false] at hx
  rcases hx with rfl | rfl | rfl | rfl | rfl | rfl | rfl | rfl | rfl
  · exact h_in e.symm
  · exact h_out e.symm
  · exact h_chan e.symm
  · exact h_reg e.symm
  · exact h_wire e.symm
  · exact h_mem e.symm
  · exact h_take e.symm
  · exact h_put e.symm
  · exact h_inst e.symm

end Sy
end Go.Proofs.YtggeepimihhpjaaGreatDoor
