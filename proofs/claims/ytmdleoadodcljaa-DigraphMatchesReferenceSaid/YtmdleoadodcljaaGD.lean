/- What Order returns. -/
import Derived.Test.YtmdleoadodcljaaGC
namespace Go.Proofs.Ytmdleoadodcljaa
open Go.RowKit Sl Fr
namespace Gp
set_option linter.unusedVariables false

def cF (es : Dgr.Edges) : Nat → Int := fun v => (Dgr.cnt es [] v : Int)
def OrdAt (n : Nat) (es : Dgr.Edges) (w2 : World) (g : Nat) (ov i : Value) (wr : World) : Prop :=
  ∃ (acc : List Nat) (m : Nat → Int), i = .int .i64 (acc.length : Int) ∧ g = n - acc.length ∧ Dgr.OrdTo n es acc ∧ Dgr.Miss n es acc m ∧ wr.ownsRow (w2.heap.size + 1) 3 1 ov acc.length (nv acc) ∧ CellsV wr w2.heap.size n (iF m) ∧ Below w2.heap.size w2 wr
def CntAt (n : Nat) (es : Dgr.Edges) (acc : List Nat) (v : Nat) (w2 : World) (ov : Value) (g : Nat) (i : Value) (wr : World) : Prop :=
  ∃ (k : Nat) (m : Nat → Int), i = .int .i64 k ∧ k ≤ (Dgr.succs es v).length ∧ g = (Dgr.succs es v).length - k ∧ Dgr.MissIn n es acc v k m ∧ wr.ownsRow (w2.heap.size + 1) 3 1 ov (acc.length + 1) (nv acc ++ [.int .i64 (v : Int)]) ∧ CellsV wr w2.heap.size n (iF m) ∧ Below w2.heap.size w2 wr

set_option maxRecDepth 100000 in
set_option maxHeartbeats 3200000 in
theorem order_any (n : Nat) (A : Option Addr) (es : Dgr.Edges) (c : Nat) (w : World) (hA : EdgesA w A es) (ok : Dgr.Ok n es) (hn : n ≤ 200) (hl : es.length ≤ 2000) :
    Calls Try.prog 25 #[.int .i64 n, .slice A es.length c] w (GiveE w (Dgr.orderF n es) 50) := by
  obtain ⟨b, o, hb⟩ := hA.open
  obtain ⟨i0, hi0, hz0, hz1, hz2⟩ := parts_of infoInt
  have hmk := run_make_row' (P := Try.prog) 26 3 (.int .i64 0) 8 Try.underlying26 infoInt rfl .i64 .i64 n (by omega) (by omega)
  have hmk2 := make_room n hn
  have HB := Lib.hid hb
  have HO := Lib.hid ok
  have HA := Lib.hid hA
  clear hb hA ok
  go_enter Try.func25, Try.ntmps25
  go_wp2_with (first
    | (go_at_call 6; refine (valid_ok HO.out hn hl _ _ _ HA.out).mono ?_; rintro e w1 ⟨rfl, hb1⟩)
    | (go_at_call 34; refine (suc_call n _ es _ _ (HA.out.keep hb1) HO.out hn hl).mono ?_; rintro e w2 ⟨A2, c2, rfl, hR2, hb2⟩))
  have hbw : Below w.heap.size w w2 := hb1.trans (hb2.mono hb1.size)
  have hbws := hbw.size
  have HR2 := Lib.hid (hR2.mono (Nat.zero_le _))
  have HC0 : Hid (CellsV (w2.alloc (.cells (madeCells #[.int .i64 0] n) 3)) w2.heap.size n (iF (cF (es.take 0)))) := Lib.hid ((CellsV.made w2 _ n _).congr fun i _ => rfl)
  clear hR2 hb1 hb2
  go_loopg [25] es.length (fun g i wr => ∃ k : Nat, i = .int .i64 k ∧ k ≤ es.length ∧ g = es.length - k ∧ CellsV wr w2.heap.size n (iF (cF (es.take k))) ∧ Below w2.heap.size w2 wr)
  case atStart => exact ⟨0, rfl, Nat.zero_le _, rfl, HC0.out, (Below.refl _ _).alloc (Nat.le_refl _) _⟩
  case round =>
    obtain ⟨k, rfl, hk, rfl, hC, hbl⟩ := hrel
    clear HC0 hmk
    have HC := Lib.hid hC
    have hNlt := hC.lt
    have hbs := hbl.size
    clear hC
    by_cases hlt : k < es.length
    · obtain ⟨⟨u, v⟩, huv⟩ := get_ex hlt
      obtain ⟨rfl, hblt, hc⟩ := HB.out (by intro h; subst h; simp at hlt)
      obtain ⟨hu, hv⟩ := hc k u v huv
      have hbw2 : Below w.heap.size w wr := hbw.trans (hbl.mono hbws)
      have hcu := (hbw2.cell (p := ⟨b, o + k * 2, none⟩) hblt).trans hu
      have hcv := (hbw2.cell (p := ⟨b, o + k * 2 + 1, none⟩) hblt).trans hv
      have hvn : v < n := (HO.out _ (List.mem_of_getElem? huv)).2
      have hcm : wr.cell? ⟨w2.heap.size, v, none⟩ = some (.int .i64 (cF (es.take k) v)) := HC.out.cell v hvn
      have hmm := HC.out.mark v hvn
      have hE : wr.heap.size ≠ w2.heap.size := by omega
      have hv1 : (0 : Int) ≤ (v : Int) := Int.natCast_nonneg _
      have hv2 : (v : Int) < (n : Int) := by omega
      have hbd : 0 ≤ cF (es.take k) v ∧ cF (es.take k) v ≤ 2000 := by
        have := Dgr.cnt_le (es.take k) [] v
        have h2 := List.length_take_le k es
        simp only [cF]
        omega
      have HE := Lib.hid huv
      generalize hx : cF (es.take k) v = x at hcm hbd
      have HX := Lib.hid hx
      clear hc hu hv huv HB hx
      go_wp2
      go_roundg (es.length - (k + 1))
      case measure => omega
      case rel =>
        refine ⟨k + 1, by go_num, by omega, rfl, (HC.out.set (v := .int .i64 (x + 1)) hvn ?_ (fun j hj => ?_)).keep ((Below.refl _ _).alloc (Nat.le_refl _) _), (hbl.setCell (p := ⟨w2.heap.size, v, none⟩) (Nat.le_refl _) _).alloc (by simp; omega) _⟩
        · have := HX.out
          simp only [cF] at this
          simp only [iF, cF]
          rw [take_snoc HE.out, Dgr.cnt_snoc, if_pos rfl, ← this]
          simp
        · simp only [iF, cF]
          rw [take_snoc HE.out, Dgr.cnt_snoc, if_neg (Ne.symm hj)]
          simp
    · have hkl : k = es.length := by omega
      have HM : Hid (CellsV wr w2.heap.size n (iF (cF es))) := Lib.hid (by have := HC.out; rwa [hkl, List.take_length] at this)
      have HS : Hid (OrdAt n es w2 n (.slice (some ⟨wr.heap.size, 0, none⟩) 0 n) (.int .i64 ((([] : List Nat).length : Nat) : Int)) (wr.alloc (.cells (madeCells #[.int .i64 0] n) 3))) := Lib.hid
        ⟨[], cF es, rfl, rfl, Dgr.OrdTo.start n es, fun v hv => ⟨fun h => (by cases h), fun _ => rfl⟩, World.ownsRow_made wr (madeCells #[.int .i64 0] n) n (by omega) (by unfold maxLen; omega) (by simp [size_madeCells]), HM.out.keep ((Below.refl _ _).alloc (Nat.le_refl _) _), hbl.alloc hbs _⟩
      clear HC HM hkl
      go_wp2
      go_loopg [10, 40] n (fun g ov i wr => OrdAt n es w2 g ov i wr)
      case atStart => exact HS.out
      case round =>
        obtain ⟨acc, m, rfl, rfl, hot, hms, hrow, hC, hbl⟩ := hrel
        clear HS hmk2
        have HOT := Lib.hid hot
        have HMS := Lib.hid hms
        have HROW := Lib.hid hrow
        have HC := Lib.hid hC
        have hrl := hrow.lt
        have hacc := hot.le
        have hNlt := hC.lt
        have hbs := hbl.size
        clear hot hms hrow hC
        by_cases hlt2 : acc.length < n
        · have hcall := index_any n w2.heap.size m wr HC.out hn
          have hfi : findI m n 0 = Dgr.nextFree n es acc := HMS.out.next
          rw [hfi] at hcall
          cases hnf : Dgr.nextFree n es acc with
          | none =>
            rw [hnf] at hcall
            have ho : optI none = -1 := rfl
            rw [ho] at hcall
            have HCALL := Lib.hid hcall
            have HF := Lib.hid hnf
            clear hcall hnf hfi ho
            go_wp2_with (go_at_call 38; refine HCALL.out.mono ?_; rintro e w5 ⟨rfl, hb5⟩)
            go_ret2
            unfold GiveE
            rw [HOT.out.stop hlt2 HF.out]
            exact ⟨rfl, (hbw.trans (hbl.mono hbws)).trans (hb5.mono (by omega))⟩
          | some v =>
            rw [hnf] at hcall
            have ho : optI (some v) = (v : Int) := rfl
            rw [ho] at hcall
            have HCALL := Lib.hid hcall
            have HF := Lib.hid hnf
            obtain ⟨hvn, hfree, _⟩ := Dgr.nextFree_some hnf
            have HFREE := Lib.hid hfree
            obtain ⟨b2, o2, hb2⟩ := HR2.out.open
            obtain ⟨rfl, _, hbs2, hrows⟩ := hb2 (by intro h; have := sucL_length n es; rw [h] at this; simp at this; omega)
            obtain ⟨A', c', hc1, hc2, hc3⟩ := hrows v _ (sucL_row hvn es)
            obtain ⟨b3, o3, hb3⟩ := hc3.open
            have HB3 := Lib.hid hb3
            have hsl := Dgr.succs_len es v
            have hv1 : (0 : Int) ≤ (v : Int) := Int.natCast_nonneg _
            have hv2 : (v : Int) < (n : Int) := by omega
            have hv3 : ¬ ((v : Int) < 0) := by omega
            clear hcall hnf hfi ho hfree hb2 hrows hc2 hc3 hb3
            go_wp2_with (first
              | (go_at_call 38; refine HCALL.out.mono ?_; rintro e w5 ⟨rfl, hb5⟩; have hbs5 := hb5.size; have hbl5 := hbl.trans (hb5.mono hbs))
              | (at_builtin; refine wpList_append_lies _ rfl _ _ 26 rfl (w2.heap.size + 1) 3 i0 (.int .i64 0) 1 8 Try.underlying26 hi0 hz0 hz1 hz2 rfl (by decide) _ _ _ rfl ((row_keep HROW.out hb5).alloc _) ⟨w5.heap.size, 0, none⟩ 1 1 [.int .i64 (v : Int)] rfl rfl (cell_one_new _ _ _) (by simp [Value.oneCell']) (by decide) (by unfold maxLen; omega) (by omega) (by simp; omega) _ rfl ?_; intro g' cap' w6 hown6 hgrow6 hor6 hlt6; have hbl6 : Below w2.heap.size w2 w6 := (hbl5.alloc (by omega) _).grown hgrow6 (by simp; omega) (fun g'' hg'' => by have := hrl g'' hg''; omega); have hC6 := ((HC.out.keep hb5).keep ((Below.refl _ _).alloc (Nat.le_refl _) (.cells #[.int .i64 (v : Int)] 3))).grown hgrow6 (fun e => by have := hrl _ e.symm; omega); have hcm6 := hC6.cell v hvn; have hmm6 := hC6.mark v hvn; have hcr6 := ((hbl6.setCell (p := ⟨w2.heap.size, v, none⟩) (Nat.le_refl _) (.int .i64 (-1))).cell (p := ⟨b2, o2 + v, none⟩) hbs2).trans hc1))
            have hbl7 := hbl6.setCell (p := ⟨w2.heap.size, v, none⟩) (Nat.le_refl _) (.int .i64 (-1))
            have HS : Hid (CntAt n es acc v w2 (.slice (some ⟨g', 0, none⟩) (acc.length + 1) cap') (Dgr.succs es v).length (.int .i64 ((0 : Nat) : Int)) (w6.setCell ⟨w2.heap.size, v, none⟩ (.int .i64 (-1)))) := Lib.hid
              ⟨0, up m v (-1), rfl, Nat.zero_le _, rfl, HMS.out.take (up_same _ _ _) (fun w hw => up_ne _ _ hw), ownsRow_setCell_below hown6 (by show w2.heap.size < _; omega) _, hC6.set hvn (by simp [iF, up_same]) (fun j hj => by simp [iF, up_ne _ _ hj]), hbl7⟩
            clear hown6 hgrow6 hor6 hlt6 hbl6 hC6 hcm6 hmm6 hcr6 hbl7 HROW HC HMS HCALL hb5 hbl5 hbs5 hbl hrl hc1
            go_loopg [58] (Dgr.succs es v).length (fun g i wr => CntAt n es acc v w2 (.slice (some ⟨g', 0, none⟩) (acc.length + 1) cap') g i wr)
            case atStart => exact HS.out
            case round =>
              obtain ⟨k, m2, rfl, hk2, rfl, hmi, hrow, hC, hbl⟩ := hrel
              clear HS
              have HMI := Lib.hid hmi
              have HROW := Lib.hid hrow
              have HC := Lib.hid hC
              clear hmi hrow hC
              by_cases hlt3 : k < (Dgr.succs es v).length
              · obtain ⟨x, hx⟩ := get_ex hlt3
                obtain ⟨rfl, _, hbs3, hc⟩ := HB3.out (by intro h; rw [h] at hlt3; simp at hlt3)
                have hcx := (hbl.cell (p := ⟨b3, o3 + k, none⟩) hbs3).trans (hc k x hx)
                have hxn : x < n := (HO.out _ (Dgr.mem_succs.1 (List.mem_of_getElem? hx))).2
                have hcm : wr.cell? ⟨w2.heap.size, x, none⟩ = some (.int .i64 (m2 x)) := HC.out.cell x hxn
                have hmm := HC.out.mark x hxn
                have hbd := HMI.out.bound hxn
                have hx1 : (0 : Int) ≤ (x : Int) := Int.natCast_nonneg _
                have hx2 : (x : Int) < (n : Int) := by omega
                have HX := Lib.hid hx
                clear hc hx HB3
                go_wp2
                go_roundg ((Dgr.succs es v).length - (k + 1))
                case measure => omega
                case rel =>
                  exact ⟨k + 1, up m2 x (m2 x - 1), by go_num, by omega, rfl, HMI.out.step HOT.out.ord HFREE.out HX.out (up_same _ _ _) (fun w hw => up_ne _ _ hw), ownsRow_setCell_below HROW.out (by show w2.heap.size < _; omega) _, HC.out.set hxn (by simp [iF, up_same]) (fun j hj => by simp [iF, up_ne _ _ hj]), hbl.setCell (p := ⟨w2.heap.size, x, none⟩) (Nat.le_refl _) _⟩
              · clear HB3
                go_wp2
                go_roundg (n - (acc ++ [v]).length)
                case measure => simp; omega
                case rel =>
                  refine ⟨acc ++ [v], m2, by simp, rfl, HOT.out.next hlt2 HF.out, HMI.out.done (Dgr.freeB_iff.1 HFREE.out).1 (by omega), ?_, HC.out, hbl⟩
                  rw [nv_append, List.length_append]
                  exact HROW.out
        · go_wp2
          go_ret2
          have hof := HOT.out.done hlt2
          obtain ⟨A', c', rfl, hc', _, hF'⟩ := Row.own HROW.out
          unfold GiveE
          rw [hof]
          exact ⟨⟨A', c', rfl, hc', hF'.mono (by omega)⟩, hbw.trans (hbl.mono hbws)⟩

end Gp
end Go.Proofs.Ytmdleoadodcljaa
