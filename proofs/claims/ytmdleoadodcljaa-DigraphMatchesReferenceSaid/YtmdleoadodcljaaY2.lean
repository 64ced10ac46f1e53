/- The reference's OrderIn. -/
import Derived.Test.YtmdleoadodcljaaY1
import Derived.Test.YtmdleoadodcljaaGI
namespace Go.Proofs.Ytmdleoadodcljaa
open Go.RowKit Sl Fr
namespace Gp
set_option linter.unusedVariables false

theorem nextFree_at {n : Nat} {es : Dgr.Edges} {acc : List Nat} {u : Nat} (hu : u < n) (h : Dgr.freeB es acc u = true) (hl : ∀ x, x < u → Dgr.freeB es acc x = false) : Dgr.nextFree n es acc = some u := by
  cases hf : Dgr.nextFree n es acc with
  | none => have := Dgr.nextFree_none hf u hu; rw [h] at this; cases this
  | some v =>
    obtain ⟨h1, h2, h3⟩ := Dgr.nextFree_some hf
    congr 1
    rcases Nat.lt_trichotomy u v with h' | h' | h'
    · have := h3 u h'; rw [h] at this; cases this
    · exact h'.symm
    · have := hl v h'; rw [h2] at this; cases this
theorem nextFree_no {n : Nat} {es : Dgr.Edges} {acc : List Nat} (hl : ∀ x, x < n → Dgr.freeB es acc x = false) : Dgr.nextFree n es acc = none := by
  cases hf : Dgr.nextFree n es acc with
  | none => rfl
  | some v => obtain ⟨h1, h2, _⟩ := Dgr.nextFree_some hf; have := hl v h1; rw [h2] at this; cases this

/-- The list so far. -/
structure OrdW (n : Nat) (es : Dgr.Edges) (acc : List Nat) : Prop where
  len : acc.length ≤ n
  lt : ∀ x ∈ acc, x < n
  go : Dgr.orderGo n es (n - acc.length) acc = Dgr.orderF n es

set_option maxRecDepth 100000 in
set_option maxHeartbeats 6400000 in
theorem rorder_any (n : Nat) (A : Option Addr) (es : Dgr.Edges) (c : Nat) (w : World) (hA : EdgesA w A es) (ok : Dgr.Ok n es) (hn : n ≤ 200) (hl : es.length ≤ 2000) :
    Calls Try.prog 10 #[.int .i64 n, .slice A es.length c] w (GiveL w (Dgr.orderF n es) 50) := by
  obtain ⟨i0, hi0, hz0, hz1, hz2⟩ := parts_of infoInt
  have hmk := run_make_row' (P := Try.prog) 53 4 (.bool false) 1 Try.underlying53 infoBool rfl .i64 .i64 n (by omega) (by omega)
  have hst := start1 w #[.slice none 0 0, .int .i64 0] 37
  have hsz : (w.alloc (.cells #[.slice none 0 0, .int .i64 0] 37)).heap.size = w.heap.size + 1 := World.size_alloc _ _
  go_enter Try.func10, Try.ntmps10
  go_upto_region 1 with fail
  generalize w.alloc (.cells #[.slice none 0 0, .int .i64 0] 37) = X at *
  obtain ⟨hNB, hbX⟩ := hst
  have HSZ := Lib.hid hsz
  have HA := Lib.hid (hA.keep hbX)
  have HO := Lib.hid ok
  have HNB := Lib.hid hNB
  have hNX := hNB.lt
  clear hsz hA ok hNB
  have hC0 : CellsV ((X.alloc (.cells (madeCells #[.bool false] n) 4)).alloc (.cells #[] 3)) X.heap.size n (bF fun x => ([] : List Nat).contains x) := by
    have := (CellsV.made X (.bool false) n 4).keep ((Below.refl _ _).alloc (Nat.le_refl _) (.cells #[] 3))
    exact this.congr fun x _ => by simp [bF]
  have hO0 : ((X.alloc (.cells (madeCells #[.bool false] n) 4)).alloc (.cells #[] 3)).ownsRow (X.heap.size + 1) 3 1 (.slice (some ⟨X.heap.size + 1, 0, none⟩) 0 0) 0 (nv []) := by
    have := World.ownsRow_lit (e := 3) (size := 1) (base := X.heap.size + 1) (X.alloc (.cells (madeCells #[.bool false] n) 4)) #[] 0 (by simp) (by unfold maxLen; omega) rfl
    simpa [nv] using this
  have hB0 : Below X.heap.size X ((X.alloc (.cells (madeCells #[.bool false] n) 4)).alloc (.cells #[] 3)) := ((Below.refl _ X).alloc (Nat.le_refl _) _).alloc (by simp) _
  have HC0 := Lib.hid hC0
  have HO0 := Lib.hid hO0
  have HB0 := Lib.hid hB0
  have HW0 := Lib.hid (show OrdW n es [] from ⟨Nat.zero_le _, by simp, rfl⟩)
  clear hC0 hO0 hB0
  go_wp2
  clear hmk
  go_loopg [6] n (fun g v wr => ∃ (acc : List Nat) (B : Option Addr) (d : Nat), v = .slice B acc.length d ∧ g = n - acc.length ∧ OrdW n es acc ∧ CellsV wr X.heap.size n (bF fun x => acc.contains x) ∧ wr.ownsRow (X.heap.size + 1) 3 1 (.slice B acc.length d) acc.length (nv acc) ∧ Below X.heap.size X wr)
  case atStart => exact ⟨[], some ⟨X.heap.size + 1, 0, none⟩, 0, rfl, rfl, HW0.out, HC0.out, HO0.out, HB0.out⟩
  case round =>
    clear HC0 HO0 HB0 HW0
    obtain ⟨acc, B, d, rfl, rfl, hW, hC, hrow, hbl⟩ := hrel
    have HW := Lib.hid hW
    have HC := Lib.hid hC
    have HROW := Lib.hid hrow
    have hla := hW.len
    have hMlt := hC.lt
    clear hW hC hrow
    by_cases hlt : acc.length < n
    · go_wp2
      go_loopg [7, 8] (2 * n) (fun g at_ i wq => wq = wr ∧ ((∃ v : Nat, at_ = .int .i64 (-1) ∧ i = .int .i64 v ∧ v ≤ n ∧ g = 2 * n - v ∧ ∀ x, x < v → Dgr.freeB es acc x = false) ∨ ∃ u : Nat, at_ = .int .i64 u ∧ i = .int .i64 ((u : Int) + 1) ∧ u < n ∧ g = 0 ∧ Dgr.nextFree n es acc = some u))
      case atStart => exact ⟨rfl, .inl ⟨0, rfl, rfl, Nat.zero_le _, rfl, fun x hx => by omega⟩⟩
      case round =>
        obtain ⟨rfl, h⟩ := hrel
        rcases h with ⟨v, rfl, rfl, hv, rfl, hno⟩ | ⟨u, rfl, rfl, hu, rfl, hnf⟩
        · have HNO := Lib.hid hno
          clear hno
          by_cases hvn : v < n
          · have hcm : wr.cell? ⟨X.heap.size, v, none⟩ = some (.bool (acc.contains v)) := HC.out.cell v hvn
            have hv1 : (0 : Int) ≤ (v : Int) := Int.natCast_nonneg _
            have hv2 : (v : Int) < (n : Int) := by omega
            cases hac : acc.contains v with
            | true =>
              rw [hac] at hcm
              have HF := Lib.hid (show Dgr.freeB es acc v = false by rw [Dgr.freeB, hac]; rfl)
              clear hac
              go_wp2
              go_roundg (2 * n - (v + 1))
              case measure => omega
              case rel => exact ⟨rfl, .inl ⟨v + 1, rfl, by go_num, by omega, rfl, fun x hx => by
                rcases Nat.lt_or_ge x v with h | h
                · exact HNO.out x h
                · obtain rfl : x = v := by omega
                  exact HF.out⟩⟩
            | false =>
              rw [hac] at hcm
              have hfr := rfree_any n X.heap.size A es acc c v wr (HA.out.keep hbl) HO.out HC.out hn hl hvn
              cases hok : okB es acc v with
              | true =>
                rw [hok] at hfr
                have HF := Lib.hid (show Dgr.freeB es acc v = true by rw [Dgr.freeB, hac]; exact hok)
                clear hac hok
                go_wp2_with (go_at_call 26; refine hfr.mono ?_; rintro e w9 ⟨rfl, rfl⟩)
                go_roundg 0
                case measure => omega
                case rel => exact ⟨rfl, .inr ⟨v, rfl, by go_num, hvn, rfl, nextFree_at hvn HF.out HNO.out⟩⟩
              | false =>
                rw [hok] at hfr
                have HF := Lib.hid (show Dgr.freeB es acc v = false by rw [Dgr.freeB, hac]; exact hok)
                clear hac hok
                go_wp2_with (go_at_call 26; refine hfr.mono ?_; rintro e w9 ⟨rfl, rfl⟩)
                go_roundg (2 * n - (v + 1))
                case measure => omega
                case rel => exact ⟨rfl, .inl ⟨v + 1, rfl, by go_num, by omega, rfl, fun x hx => by
                  rcases Nat.lt_or_ge x v with h | h
                  · exact HNO.out x h
                  · obtain rfl : x = v := by omega
                    exact HF.out⟩⟩
          · obtain rfl : n = v := by omega
            have hnone : Dgr.orderF n es = none := by
              rw [← HW.out.go, show n - acc.length = (n - acc.length - 1) + 1 by omega, Dgr.orderGo, nextFree_no HNO.out]
              rfl
            have HNONE := Lib.hid hnone
            have hNBw := HNB.out.keep hbl
            obtain ⟨f0, f1⟩ := hNBw.f2
            obtain ⟨k0, k1⟩ := hNBw.c2
            have hs := Lib.hid (hNBw.s2 (.slice none 0 0) (.int .i64 50))
            have hbw := hbX.trans (hbl.mono hbX.size)
            have HBB := Lib.hid (below_s2 hbw (Nat.le_refl _) (.slice none 0 0) (.int .i64 50))
            clear hnone hNBw
            go_wp2
            generalize (wr.setCell ⟨w.heap.size, 0, none⟩ (.slice none 0 0)).setCell ⟨w.heap.size, 1, none⟩ (.int .i64 50) = R at *
            obtain ⟨s0, s1⟩ := hs.out.c2
            refine bodyPost_ret (v := .agg #[.slice none 0 0, .int .i64 50]) (by simp [results, Try.results10, go_sem, s0, s1]) rfl ?_
            rw [HNONE.out]
            exact ⟨none, 0, 0, 50, rfl, ⟨fun _ => ⟨rfl, rfl, rfl, rfl⟩, fun l hl => by cases hl⟩, HBB.out⟩
        · have hcm := HC.out.cell u hu
          have hmm := HC.out.mark u hu
          have hu1 : (0 : Int) ≤ (u : Int) := Int.natCast_nonneg _
          have hu2 : (u : Int) < (n : Int) := by omega
          have hu3 : ¬ (u : Int) < 0 := by omega
          have hW2 : OrdW n es (acc ++ [u]) := by
            refine ⟨by simp; omega, fun x hx => ?_, ?_⟩
            · rcases List.mem_append.1 hx with h | h
              · exact HW.out.lt x h
              · rw [List.mem_singleton] at h; subst h; exact hu
            · rw [← HW.out.go, List.length_append, List.length_singleton, show n - acc.length = (n - (acc.length + 1)) + 1 by omega, Dgr.orderGo, hnf]
              rfl
          have HW2 := Lib.hid hW2
          have hC2 := HC.out.set (G := bF fun x => (acc ++ [u]).contains x) hu (v := .bool true) (by simp [bF]) (fun y hy => by simp [bF, hy])
          have HC2 := Lib.hid hC2
          have hrow2 := ownsRow_setCell_below HROW.out (a := ⟨X.heap.size, u, none⟩) (by show X.heap.size < X.heap.size + 1; omega) (.bool true)
          have HROW2 := Lib.hid hrow2
          have hb2 := hbl.setCell (p := ⟨X.heap.size, u, none⟩) (Nat.le_refl _) (.bool true)
          have HB2 := Lib.hid hb2
          clear hW2 hC2 hrow2 hb2 hnf
          have hownA := HROW2.out.alloc (.cells #[.int .i64 (u : Int)] 3)
          have hUs := HB2.out.size
          have hnw := cell_one_new (wr.setCell ⟨X.heap.size, u, none⟩ (.bool true)) (.int .i64 (u : Int)) 3
          rw [show (wr.setCell ⟨X.heap.size, u, none⟩ (.bool true)).heap.size = wr.heap.size by simp] at hnw
          have HNW := Lib.hid hnw
          clear hnw
          have hUlt := HC2.out.lt
          by_cases hun1 : (u : Int) + 1 < (n : Int)
          all_goals (
            go_wp2_with (at_builtin; go_loud (refine wpList_append_own_at _ rfl _ _ 26 rfl (X.heap.size + 1) 3 i0 (.int .i64 0) 1 8 Try.underlying26 hi0 hz0 hz1 hz2 rfl (by decide) (.slice B acc.length d) acc.length (nv acc) rfl hownA ⟨wr.heap.size, 0, none⟩ 1 1 [.int .i64 (u : Int)] rfl rfl HNW.out (by simp [Value.oneCell']) (by unfold maxLen; omega) (by omega) (by simp; omega) ?_; intro v' w3 hown' hg3 hnil3 hob3; obtain ⟨g', cap', hv', _⟩ := row_box hown' (by omega); subst hv'; go_frame))
            have hbA : Below (wr.setCell ⟨X.heap.size, u, none⟩ (.bool true)).heap.size (wr.setCell ⟨X.heap.size, u, none⟩ (.bool true)) ((wr.setCell ⟨X.heap.size, u, none⟩ (.bool true)).alloc (.cells #[.int .i64 (u : Int)] 3)) := (Below.refl _ (wr.setCell ⟨X.heap.size, u, none⟩ (.bool true))).alloc (Nat.le_refl _) _
            have hlt' := HROW2.out.lt
            have hC3 := (HC2.out.keep hbA).grown hg3 (fun e => by have := (hlt' _ e.symm).1; omega)
            have hb3 : Below X.heap.size X w3 := (HB2.out.alloc hUs _).grown hg3 (by simp; omega) (fun g2 e => by have := (hlt' g2 e).1; omega)
            go_roundg (n - (acc.length + 1))
            case measure => omega
            case rel => exact ⟨acc ++ [u], some ⟨g', 0, none⟩, cap', by rw [List.length_append]; rfl, by rw [List.length_append]; rfl, HW2.out, hC3, by rw [List.length_append, nv_append]; exact hown', hb3⟩)
    · have hacc : acc.length = n := by omega
      have hsome : Dgr.orderF n es = some acc := by
        rw [← HW.out.go, hacc, Nat.sub_self]; rfl
      have HSOME := Lib.hid hsome
      have hNBw := HNB.out.keep hbl
      obtain ⟨f0, f1⟩ := hNBw.f2
      obtain ⟨k0, k1⟩ := hNBw.c2
      have hs := Lib.hid (hNBw.s2 (.slice B acc.length d) (.int .i64 0))
      have hbw := hbX.trans (hbl.mono hbX.size)
      have HBB := Lib.hid (below_s2 hbw (Nat.le_refl _) (.slice B acc.length d) (.int .i64 0))
      have hr2 := ownsRow_setCell_below (ownsRow_setCell_below HROW.out (a := ⟨w.heap.size, 0, none⟩) (by show w.heap.size < _; omega) (.slice B acc.length d)) (a := ⟨w.heap.size, 1, none⟩) (by show w.heap.size < _; omega) (.int .i64 0)
      have HR2 := Lib.hid hr2
      clear hsome hNBw hr2 hacc
      go_wp2
      generalize (wr.setCell ⟨w.heap.size, 0, none⟩ (.slice B acc.length d)).setCell ⟨w.heap.size, 1, none⟩ (.int .i64 0) = R at *
      obtain ⟨s0, s1⟩ := hs.out.c2
      refine bodyPost_ret (v := .agg #[.slice B acc.length d, .int .i64 0]) (by simp [results, Try.results10, go_sem, s0, s1]) rfl ?_
      rw [HSOME.out]
      obtain ⟨B2, d2, e2, h2, _, h3, _⟩ := row_forms HR2.out
      refine ⟨B, acc.length, d, 0, rfl, ⟨(fun h => by cases h), fun l hl => ?_⟩, HBB.out⟩
      cases hl
      injection e2 with e3 e4 e5
      subst e3 e5
      exact ⟨rfl, h2, h3.mono (by have := HSZ.out; omega), rfl⟩
end Gp
end Go.Proofs.Ytmdleoadodcljaa
