/- What Check returns. -/
import Derived.Test.YtmdleoadodcljaaGE
namespace Go.Proofs.Ytmdleoadodcljaa
open Go.RowKit Sl Fr
namespace Gp
set_option linter.unusedVariables false

/-- The list is a topological order. -/
def TopoZ (n : Nat) (es : Dgr.Edges) (L : List Int) : Prop := ∃ l : List Nat, L = zl l ∧ Dgr.IsTopo n es l
open Classical in
noncomputable def chk (n : Nat) (es : Dgr.Edges) (L : List Int) : Int := if TopoZ n es L then 0 else 6
theorem chk_yes {n : Nat} {es : Dgr.Edges} {L : List Int} (h : TopoZ n es L) : chk n es L = 0 := by unfold chk; exact if_pos h
theorem chk_no {n : Nat} {es : Dgr.Edges} {L : List Int} (h : ¬ TopoZ n es L) : chk n es L = 6 := by unfold chk; exact if_neg h
theorem TopoZ.perm {n : Nat} {es : Dgr.Edges} {L : List Int} (h : TopoZ n es L) : Perm n L := by
  obtain ⟨l, h1, h2⟩ := h
  exact ⟨l, h1, h2.len, h2.nodup, h2.lt⟩
theorem zl_eq {l m : List Nat} (h : zl l = zl m) : l = m := by
  unfold zl at h
  exact (List.map_inj_right (fun a b hab => by omega)).1 h
theorem topoZ_zl {n : Nat} {es : Dgr.Edges} {l : List Nat} : TopoZ n es (zl l) ↔ Dgr.IsTopo n es l :=
  ⟨fun ⟨m, h1, h2⟩ => zl_eq h1 ▸ h2, fun h => ⟨l, rfl, h⟩⟩
theorem Placed.topo {n : Nat} {L : List Int} {f : Nat → Int} (h : Placed n L n f) (hl : L.length = n) {es : Dgr.Edges} (hf : ∀ e ∈ es, f e.1 < f e.2) : TopoZ n es L := by
  obtain ⟨l, rfl, h1, h2, h3⟩ := h.perm hl
  refine ⟨l, rfl, h1, h2, h3, fun i j v w hi hj he => ?_⟩
  have key : ∀ {i v : Nat}, l[i]? = some v → f v = i := fun {i v} hi => by
    obtain ⟨u, h4, h5, h6⟩ := h.at_ i (by have := get_lt hi; omega)
    have := zl_inj h5
    rw [hi] at this
    cases this
    exact h6
  have := hf _ he
  simp only at this
  rw [key hi, key hj] at this
  omega
theorem Placed.not_topo {n : Nat} {L : List Int} {f : Nat → Int} (h : Placed n L n f) {es : Dgr.Edges} (ok : Dgr.Ok n es) {u v : Nat} (he : (u, v) ∈ es) (hf : ¬ f u < f v) : ¬ TopoZ n es L := fun ⟨l, hL, ht⟩ => by
  have key : ∀ {v : Nat}, v < n → ∃ i : Nat, l[i]? = some v ∧ f v = i := fun {v} hv => by
    obtain ⟨i, hi, e⟩ := List.getElem_of_mem (Dgr.nodup_all ht.nodup ht.lt ht.len hv)
    have h0 : l[i]? = some v := by rw [List.getElem?_eq_getElem hi, e]
    obtain ⟨u, h4, h5, h6⟩ := h.at_ i (by rw [← ht.len]; exact hi)
    rw [hL] at h5
    have := zl_inj h5
    rw [h0] at this
    cases this
    exact ⟨i, h0, h6⟩
  obtain ⟨i, h1, h2⟩ := key (ok _ he).1
  obtain ⟨j, h3, h4⟩ := key (ok _ he).2
  have := ht.edge i j u v h1 h3 he
  exact hf (by simp only at h2 h4; omega)

set_option maxRecDepth 100000 in
set_option maxHeartbeats 3200000 in
theorem check_any (n : Nat) (A B : Option Addr) (es : Dgr.Edges) (L : List Int) (c d : Nat) (w : World) (hA : EdgesA w A es) (hB : ArrZ w B L) (ok : Dgr.Ok n es) (hn : n ≤ 200) (hl : es.length ≤ 2000) :
    Calls Try.prog 15 #[.int .i64 n, .slice A es.length c, .slice B L.length d] w fun e w' => e = .returned (.int .i64 (chk n es L)) ∧ Below w.heap.size w w' := by
  obtain ⟨b, o, hb⟩ := hA.open
  have HB := Lib.hid hb
  have HO := Lib.hid ok
  have HA := Lib.hid hA
  have HL := Lib.hid hB
  clear hb hA hB ok
  by_cases hp : Perm n L
  case neg =>
    have HNP := Lib.hid (chk_no (n := n) (es := es) (L := L) fun h => hp h.perm)
    have HP := Lib.hid hp
    clear hp
    go_enter Try.func15, Try.ntmps15
    go_wp2_with (first
      | (go_at_call 6; refine (valid_ok HO.out hn hl _ _ _ HA.out).mono ?_; rintro e w1 ⟨rfl, hb1⟩)
      | (go_at_call 32; refine (places_any n _ L _ _ (HL.out.keep hb1) hn).mono ?_; rintro e w2 ⟨⟨hnp, rfl⟩ | ⟨N, f, h1, h2, rfl, h3⟩, hb2⟩; rotate_left; exact absurd (h2.perm h1) HP.out))
    go_ret
    exact ⟨ret_num HNP.out.symm, hb1.trans (hb2.mono hb1.size)⟩
  have HP := Lib.hid hp
  clear hp
  go_enter Try.func15, Try.ntmps15
  go_wp2_with (first
    | (go_at_call 6; refine (valid_ok HO.out hn hl _ _ _ HA.out).mono ?_; rintro e w1 ⟨rfl, hb1⟩)
    | (go_at_call 32; refine (places_any n _ L _ _ (HL.out.keep hb1) hn).mono ?_; rintro e w2 ⟨⟨hnp, rfl⟩ | ⟨N, f, hlen, hpl, rfl, hC⟩, hb2⟩; exact absurd HP.out hnp))
  have hbw : Below w.heap.size w w2 := hb1.trans (hb2.mono hb1.size)
  have hbws := hbw.size
  have HLEN := Lib.hid hlen
  have HPL := Lib.hid hpl
  have HC := Lib.hid hC
  have hNlt := hC.lt
  clear hb1 hb2 hlen hpl hC
  go_loopg [25] es.length (fun g i wr => ∃ k : Nat, i = .int .i64 k ∧ k ≤ es.length ∧ g = es.length - k ∧ (∀ e ∈ es.take k, f e.1 < f e.2) ∧ Below w2.heap.size w2 wr)
  case atStart => exact ⟨0, rfl, Nat.zero_le _, rfl, fun e he => absurd he (by simp), Below.refl _ _⟩
  case round =>
    obtain ⟨k, rfl, hk, rfl, hall, hbl⟩ := hrel
    have HALL := Lib.hid hall
    have hbs := hbl.size
    clear hall
    by_cases hlt : k < es.length
    · obtain ⟨⟨u, v⟩, huv⟩ := get_ex hlt
      obtain ⟨rfl, hblt, hc⟩ := HB.out (by intro h; subst h; simp at hlt)
      obtain ⟨hu, hv⟩ := hc k u v huv
      have hbw2 : Below w.heap.size w wr := hbw.trans (hbl.mono hbws)
      have hcu := (hbw2.cell (p := ⟨b, o + k * 2, none⟩) hblt).trans hu
      have hcv := (hbw2.cell (p := ⟨b, o + k * 2 + 1, none⟩) hblt).trans hv
      have hun : u < n := (HO.out _ (List.mem_of_getElem? huv)).1
      have hvn : v < n := (HO.out _ (List.mem_of_getElem? huv)).2
      have hu1 : (0 : Int) ≤ (u : Int) := Int.natCast_nonneg _
      have hu2 : (u : Int) < (n : Int) := by omega
      have hv1 : (0 : Int) ≤ (v : Int) := Int.natCast_nonneg _
      have hv2 : (v : Int) < (n : Int) := by omega
      have HE := Lib.hid huv
      have hbA := (Below.refl _ wr).alloc (Nat.le_refl _) (.cells #[.int .i64 (u : Int), .int .i64 (v : Int)] 48)
      have hmE := BoxL.new wr #[.int .i64 (u : Int), .int .i64 (v : Int)] 48
      obtain ⟨hl0, hl1⟩ := hmE.l2 (Below.refl _ _)
      have hcN : ∀ i, i < n → ∀ p : Later (wr.alloc (.cells #[.int .i64 (u : Int), .int .i64 (v : Int)] 48)), p.val.cell? ⟨N, i, none⟩ = some (.int .i64 (f i)) := fun i hi p => by
        have h1 := ((hbl.trans (hbA.mono hbs)).trans (p.below.mono (by simp; omega)))
        exact (h1.cell (p := ⟨N, i, none⟩) hNlt).trans (HC.out.cell i hi)
      have hcNu := hcN u hun
      have hcNv := hcN v hvn
      have hbl2 := hbl.trans (hbA.mono hbs)
      clear hc hu hv huv HB hcN hmE hbA
      by_cases hf : f u < f v
      · have hd : decide (f v ≤ f u) = false := decide_eq_false (by omega)
        have HF := Lib.hid hf
        clear hf
        go_upto_region 9 with fail
        refine wp_region_later (by kernel_rfl) (by kernel_rfl) ?_
        repeat (go_big_quiet_step (fail))
        refine wpQuiet_nil ?_
        intro _ hw'
        obtain ⟨z, hw''⟩ := hw'
        subst hw''
        have hbz := hbl2.trans (z.below.mono (by simp; omega))
        go_wp2
        go_roundg (es.length - (k + 1))
        case measure => omega
        case rel =>
          refine ⟨k + 1, by go_num, by omega, rfl, fun e he => ?_, hbz⟩
          rw [take_snoc HE.out] at he
          rcases List.mem_append.1 he with he | he
          · exact HALL.out e he
          · obtain rfl : e = (u, v) := by simpa using he
            exact HF.out
      · have hd : decide (f v ≤ f u) = true := decide_eq_true (by omega)
        have HF := Lib.hid hf
        clear hf
        go_upto_region 9 with fail
        refine wp_region_later (by kernel_rfl) (by kernel_rfl) ?_
        repeat (go_big_quiet_step (fail))
        refine wpQuiet_nil ?_
        intro _ hw'
        obtain ⟨z, hw''⟩ := hw'
        subst hw''
        have hbz := hbl2.trans (z.below.mono (by simp; omega))
        go_wp2
        go_ret
        exact ⟨ret_num (chk_no (HPL.out.not_topo HO.out (List.mem_of_getElem? HE.out) (by have := HF.out; omega))).symm, hbw.trans (hbz.mono hbws)⟩
    · go_wp2
      go_ret
      have hall := HALL.out
      rw [List.take_of_length_le (by omega)] at hall
      exact ⟨ret_num (chk_yes (HPL.out.topo HLEN.out hall)).symm, hbw.trans (hbl.mono hbws)⟩

end Gp
end Go.Proofs.Ytmdleoadodcljaa
