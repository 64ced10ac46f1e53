/- What Depth returns. -/
import Derived.Test.YtmdleoadodcljaaGF
import Derived.Test.YtmdleoadodcljaaL9
namespace Go.Proofs.Ytmdleoadodcljaa
open Go.RowKit Sl Fr
namespace Gp
set_option linter.unusedVariables false

theorem ret_len {A : Option Addr} {n m c : Nat} {x : Value} (h : n = m) : Ending.returned (.tuple #[.slice A n c, x]) = .returned (.tuple #[.slice A m c, x]) := by rw [h]
/-- What Depth finds. -/
def DepIs (n : Nat) (es : Dgr.Edges) : Option (List Nat) → Prop
  | none => Dgr.orderF n es = none
  | some d => ∃ f l, Dgr.IsDepth n es f ∧ Dgr.orderF n es = some l ∧ d = (List.range n).map f
def nF (f : Nat → Nat) : Nat → Value := fun v => .int .i64 (f v : Int)
def DepAt (n : Nat) (es : Dgr.Edges) (l : List Nat) (w3 : World) (g : Nat) (i : Value) (wr : World) : Prop :=
  ∃ (k : Nat) (f : Nat → Nat), i = .int .i64 k ∧ k ≤ n ∧ g = n - k ∧ Dgr.Push n es l k f ∧ CellsV wr w3.heap.size n (nF f) ∧ Below w3.heap.size w3 wr
def DepIn (n : Nat) (es : Dgr.Edges) (l : List Nat) (k x : Nat) (w3 : World) (g : Nat) (i : Value) (wr : World) : Prop :=
  ∃ (j : Nat) (f : Nat → Nat), i = .int .i64 j ∧ j ≤ (Dgr.succs es x).length ∧ g = (Dgr.succs es x).length - j ∧ Dgr.PushIn n es l k x ((Dgr.succs es x).take j) f ∧ CellsV wr w3.heap.size n (nF f) ∧ Below w3.heap.size w3 wr

set_option maxRecDepth 100000 in
set_option maxHeartbeats 3200000 in
theorem depth_any (n : Nat) (A : Option Addr) (es : Dgr.Edges) (c : Nat) (w : World) (hA : EdgesA w A es) (ok : Dgr.Ok n es) (hn : n ≤ 200) (hl : es.length ≤ 2000) :
    Calls Try.prog 31 #[.int .i64 n, .slice A es.length c] w fun e w' => ∃ b, DepIs n es b ∧ GiveE w b 50 e w' := by
  have hmk := run_make_row' (P := Try.prog) 26 3 (.int .i64 0) 8 Try.underlying26 infoInt rfl .i64 .i64 n (by omega) (by omega)
  have HO := Lib.hid ok
  have HA := Lib.hid hA
  have hcall := order_any n A es c w hA ok hn hl
  clear hA ok
  cases hof : Dgr.orderF n es with
  | none =>
    unfold GiveE at hcall
    rw [hof] at hcall
    have HCALL := Lib.hid hcall
    have HOF := Lib.hid hof
    clear hcall hof hmk
    go_enter Try.func31, Try.ntmps31
    go_wp2_with (go_at_call 25; refine HCALL.out.mono ?_; rintro e w1 ⟨rfl, hb1⟩)
    go_ret2
    exact ⟨none, HOF.out, rfl, hb1⟩
  | some l =>
    unfold GiveE at hcall
    rw [hof] at hcall
    have HCALL := Lib.hid hcall
    have HOF := Lib.hid hof
    have htp := Dgr.orderF_topo hof
    have HT := Lib.hid htp
    have hln := htp.len
    clear hcall hof htp
    go_enter Try.func31, Try.ntmps31
    go_wp2_with (first
      | (go_at_call 25; refine HCALL.out.mono ?_; rintro e w1 ⟨⟨A1, c1, rfl, hc1, hF1⟩, hb1⟩; rw [hln])
      | (go_at_call 34; refine (suc_call n _ es _ _ (HA.out.keep hb1) HO.out hn hl).mono ?_; rintro e w3 ⟨A3, c3, rfl, hR3, hb3⟩))
    have hbw : Below w.heap.size w w3 := hb1.trans (hb3.mono hb1.size)
    have hbws := hbw.size
    obtain ⟨b1, o1, hq1⟩ := (hF1.keep hb3).open
    have HQ1 := Lib.hid hq1
    have HR3 := Lib.hid (hR3.mono (Nat.zero_le _))
    have HC0 : Hid (CellsV (w3.alloc (.cells (madeCells #[.int .i64 0] n) 3)) w3.heap.size n (nF fun _ => 0)) := Lib.hid (CellsV.made w3 _ n _)
    clear hF1 hR3 hb1 hb3 hq1
    go_loopg [30] n (fun g i wr => DepAt n es l w3 g i wr)
    case atStart => exact ⟨0, fun _ => 0, rfl, Nat.zero_le _, rfl, Dgr.Push.start n es l (fun _ _ => rfl), HC0.out, (Below.refl _ _).alloc (Nat.le_refl _) _⟩
    case round =>
      obtain ⟨k, f0, rfl, hk, rfl, hP, hC, hbl⟩ := hrel
      clear HC0 hmk
      have HP := Lib.hid hP
      have HC := Lib.hid hC
      clear hP hC
      by_cases hlt : k < n
      · obtain ⟨x, hx⟩ := get_ex (l := l) (j := k) (by omega)
        obtain ⟨rfl, _, hbs1, hc⟩ := HQ1.out (by intro h; subst h; simp at hx)
        have hcx := (hbl.cell (p := ⟨b1, o1 + k, none⟩) hbs1).trans (hc k x hx)
        have hxn : x < n := HT.out.lt x (List.mem_of_getElem? hx)
        obtain ⟨b2, o2, hb2⟩ := HR3.out.open
        obtain ⟨rfl, _, hbs2, hrows⟩ := hb2 (by intro h; have := sucL_length n es; rw [h] at this; simp at this; omega)
        obtain ⟨A', c', hr1, hr2, hr3⟩ := hrows x _ (sucL_row hxn es)
        have hcr := (hbl.cell (p := ⟨b2, o2 + x, none⟩) hbs2).trans hr1
        obtain ⟨b3, o3, hb3⟩ := hr3.open
        have HB3 := Lib.hid hb3
        have HX := Lib.hid hx
        have hsl := Dgr.succs_len es x
        have hx1 : (0 : Int) ≤ (x : Int) := Int.natCast_nonneg _
        have hx2 : (x : Int) < (n : Int) := by omega
        have HS : Hid (DepIn n es l k x w3 (Dgr.succs es x).length (.int .i64 ((0 : Nat) : Int)) wr) := Lib.hid ⟨0, f0, rfl, Nat.zero_le _, rfl, HP.out.into, HC.out, hbl⟩
        clear hc hx hb2 hrows hr1 hr2 hr3 hb3 HP HC
        go_wp2
        go_loopg [39] (Dgr.succs es x).length (fun g i wr => DepIn n es l k x w3 g i wr)
        case atStart => exact HS.out
        case round =>
          obtain ⟨j, f, rfl, hj, rfl, hP, hC, hbl⟩ := hrel
          clear HS hcx hcr
          have HP := Lib.hid hP
          have HC := Lib.hid hC
          clear hP hC
          by_cases hlt2 : j < (Dgr.succs es x).length
          · obtain ⟨y, hy⟩ := get_ex hlt2
            obtain ⟨rfl, _, hbs3, hc⟩ := HB3.out (by intro h; rw [h] at hlt2; simp at hlt2)
            have hcj := (hbl.cell (p := ⟨b3, o3 + j, none⟩) hbs3).trans (hc j y hy)
            have hye := Dgr.mem_succs.1 (List.mem_of_getElem? hy)
            have hyn : y < n := (HO.out _ hye).2
            have hcy : wr.cell? ⟨w3.heap.size, y, none⟩ = some (.int .i64 (f y : Int)) := HC.out.cell y hyn
            have hcxx : wr.cell? ⟨w3.heap.size, x, none⟩ = some (.int .i64 (f x : Int)) := HC.out.cell x hxn
            have hmy := HC.out.mark y hyn
            have hfx : f x ≤ 200 := by have := HP.out.bound HT.out HO.out HX.out k x HX.out; omega
            have hy1 : (0 : Int) ≤ (y : Int) := Int.natCast_nonneg _
            have hy2 : (y : Int) < (n : Int) := by omega
            have HY := Lib.hid hy
            have HE := Lib.hid hye
            clear hc hy hye HB3
            go_upto_region 12 with fail
            refine wp_region_till (fun w' => w'.cell? ⟨w3.heap.size, y, none⟩ = some (.int .i64 (f y : Int)) ∧ w'.cell? ⟨w3.heap.size, x, none⟩ = some (.int .i64 (f x : Int))) 12 (by kernel_rfl) ?_ (fun hHeld => ?_)
            · exact ⟨hcy, hcxx⟩
            refine anyTill.reads (i := 0) rfl (by kernel_rfl) (by kernel_rfl) (by kernel_rfl) (by kernel_rfl) (fun _ _ _ h => h) (by rfl) (v := ?_) ?_ (by assumption) ?_
            rotate_left
            · intro wz hz; (try dsimp only at hz); go_split_ands; go_simp; try with_reducible rfl
            simp only [Act.put, List.setIfInBounds_toArray, List.set_cons_zero, List.set_cons_succ]
            refine anyTill.reads (i := 1) rfl (by kernel_rfl) (by kernel_rfl) (by kernel_rfl) (by kernel_rfl) (fun _ _ _ h => h) (by rfl) (v := ?_) ?_ (by assumption) ?_
            rotate_left
            · intro wz hz; (try dsimp only at hz); go_split_ands; go_simp; try with_reducible rfl
            simp only [Act.put, List.setIfInBounds_toArray, List.set_cons_zero, List.set_cons_succ]
            refine anyTill.reads (i := 2) rfl (by kernel_rfl) (by kernel_rfl) (by kernel_rfl) (by kernel_rfl) (fun _ _ _ h => h) (by rfl) (v := ?_) ?_ (by assumption) ?_
            rotate_left
            · intro wz hz; (try dsimp only at hz); go_split_ands; go_simp; try with_reducible rfl
            simp only [Act.put, List.setIfInBounds_toArray, List.set_cons_zero, List.set_cons_succ]
            refine anyTill.reads (i := 3) rfl (by kernel_rfl) (by kernel_rfl) (by kernel_rfl) (by kernel_rfl) (fun _ _ _ h => h) (by rfl) (v := ?_) ?_ (by assumption) ?_
            rotate_left
            · intro wz hz; (try dsimp only at hz); go_split_ands; go_simp; try with_reducible rfl
            simp only [Act.put, List.setIfInBounds_toArray, List.set_cons_zero, List.set_cons_succ]
            refine anyTill.reads (i := 4) rfl (by kernel_rfl) (by kernel_rfl) (by kernel_rfl) (by kernel_rfl) (fun _ _ _ h => h) (by rfl) (v := ?_) ?_ (by assumption) ?_
            rotate_left
            · intro wz hz; (try dsimp only at hz); go_split_ands; go_simp; try with_reducible rfl
            simp only [Act.put, List.setIfInBounds_toArray, List.set_cons_zero, List.set_cons_succ]
            refine anyTill.reads (i := 5) rfl (by kernel_rfl) (by kernel_rfl) (by kernel_rfl) (by kernel_rfl) (fun _ _ _ h => h) (by rfl) (v := ?_) ?_ (by assumption) ?_
            rotate_left
            · intro wz hz; (try dsimp only at hz); go_split_ands; go_simp; try with_reducible rfl
            simp only [Act.put, List.setIfInBounds_toArray, List.set_cons_zero, List.set_cons_succ]
            refine anyTill.reads (i := 6) rfl (by kernel_rfl) (by kernel_rfl) (by kernel_rfl) (by kernel_rfl) (fun _ _ _ h => h) (by rfl) (v := ?_) ?_ (by assumption) ?_
            rotate_left
            · intro wz hz; (try dsimp only at hz); go_split_ands; go_simp; try with_reducible rfl
            simp only [Act.put, List.setIfInBounds_toArray, List.set_cons_zero, List.set_cons_succ]
            refine anyTill.reads (i := 7) rfl (by kernel_rfl) (by kernel_rfl) (by kernel_rfl) (by kernel_rfl) (fun _ _ _ h => h) (by rfl) (v := ?_) ?_ (by assumption) ?_
            rotate_left
            · intro wz hz; (try dsimp only at hz); go_split_ands; go_simp; try with_reducible rfl
            simp only [Act.put, List.setIfInBounds_toArray, List.set_cons_zero, List.set_cons_succ]
            refine anyTill.reads (i := 8) rfl (by kernel_rfl) (by kernel_rfl) (by kernel_rfl) (by kernel_rfl) (fun _ _ _ h => h) (by rfl) (v := ?_) ?_ (by assumption) ?_
            rotate_left
            · intro wz hz; (try dsimp only at hz); go_split_ands; go_simp; try with_reducible rfl
            simp only [Act.put, List.setIfInBounds_toArray, List.set_cons_zero, List.set_cons_succ]
            refine anyTill.reads (i := 9) rfl (by kernel_rfl) (by kernel_rfl) (by kernel_rfl) (by kernel_rfl) (fun _ _ _ h => h) (by rfl) (v := ?_) ?_ (by assumption) ?_
            rotate_left
            · intro wz hz; (try dsimp only at hz); go_split_ands; go_simp; try with_reducible rfl
            simp only [Act.put, List.setIfInBounds_toArray, List.set_cons_zero, List.set_cons_succ]
            refine anyTill.reads (i := 10) rfl (by kernel_rfl) (by kernel_rfl) (by kernel_rfl) (by kernel_rfl) (fun _ _ _ h => h) (by rfl) (v := ?_) ?_ (by assumption) ?_
            rotate_left
            · intro wz hz; (try dsimp only at hz); go_split_ands; go_simp; try with_reducible rfl
            simp only [Act.put, List.setIfInBounds_toArray, List.set_cons_zero, List.set_cons_succ]
            refine anyTill.reads (i := 11) rfl (by kernel_rfl) (by kernel_rfl) (by kernel_rfl) (by kernel_rfl) (fun _ _ _ h => h) (by rfl) (v := ?_) ?_ (by assumption) ?_
            rotate_left
            · intro wz hz; (try dsimp only at hz); go_split_ands; go_simp; try with_reducible rfl
            simp only [Act.put, List.setIfInBounds_toArray, List.set_cons_zero, List.set_cons_succ]
            refine anyTill.alone (i := 12) rfl (by kernel_rfl) (by rfl) (fun K hK => ?_)
            go_simp
            refine hK.out _ _ (fun h => absurd h (by decide)) (fun hHeld => ?_)
            clear hK K
            try simp only [Act.put, List.setIfInBounds_toArray, List.set_cons_zero, List.set_cons_succ]
            refine anyTill.alone (i := 13) rfl (by kernel_rfl) (by rfl) (fun K hK => ?_)
            go_simp
            refine hK.out _ _ (fun h => absurd h (by decide)) (fun hHeld => ?_)
            clear hK K
            try simp only [Act.put, List.setIfInBounds_toArray, List.set_cons_zero, List.set_cons_succ]
            refine anyTill.done (by kernel_rfl) ?_ _
            have hwr : IntKind.i64.wrap ((f x : Int) + 1) = (f x : Int) + 1 := IntWalk.i64_in _ (by omega)
            have e : (if (f y : Int) < IntKind.i64.wrap ((f x : Int) + 1) then IntKind.i64.wrap ((f x : Int) + 1) else (f y : Int)) = ((max (f y) (f x + 1) : Nat) : Int) := by
              rw [hwr]
              split <;> omega
            rw [e]
            have hbz : Below w3.heap.size w3 (wr.setCell ⟨w3.heap.size, y, none⟩ (.int .i64 ((max (f y) (f x + 1) : Nat) : Int))).drew := (hbl.setCell (p := ⟨w3.heap.size, y, none⟩) (Nat.le_refl _) _).drew
            have HCz : Hid (CellsV (wr.setCell ⟨w3.heap.size, y, none⟩ (.int .i64 ((max (f y) (f x + 1) : Nat) : Int))).drew w3.heap.size n (nF (up f y (max (f y) (f x + 1))))) := Lib.hid
              ((HC.out.set hyn (v := .int .i64 ((max (f y) (f x + 1) : Nat) : Int)) (G := nF (up f y (max (f y) (f x + 1)))) (by simp [nF, up_same]) (fun j hj => by simp [nF, up_ne _ _ hj])).keep ((Below.refl _ _).drew))
            clear hHeld hwr e
            go_wp2
            go_roundg ((Dgr.succs es x).length - (j + 1))
            case measure => omega
            case rel =>
              refine ⟨j + 1, up f y (max (f y) (f x + 1)), by go_num, by omega, rfl, ?_, HCz.out, hbz⟩
              rw [take_snoc HY.out]
              exact HP.out.step HT.out HX.out HE.out hyn (up_same _ _ _) (fun w hw => up_ne _ _ hw)
          · clear HB3
            go_wp2
            go_roundg (n - (k + 1))
            case measure => omega
            case rel =>
              refine ⟨k + 1, f, by go_num, by omega, rfl, HP.out.done HX.out fun v hv => ?_, HC.out, hbl⟩
              rw [List.take_of_length_le (by omega)]
              exact Dgr.mem_succs.2 hv
      · clear HQ1
        go_wp2
        go_ret2
        obtain rfl : k = n := by omega
        refine ⟨some ((List.range k).map f0), ⟨f0, l, HP.out.depth HT.out HO.out, HOF.out, rfl⟩, ⟨some ⟨w3.heap.size, 0, none⟩, k, ret_len (by rw [List.length_map, List.length_range]), by rw [List.length_map, List.length_range]; exact Nat.le_refl _, HC.out.row (by omega) (by rw [List.length_map, List.length_range]; exact Nat.le_refl _) fun i v hi => ?_⟩, hbw.trans (hbl.mono hbws)⟩
        rw [List.getElem?_map, Option.map_eq_some_iff] at hi
        obtain ⟨a, h1, rfl⟩ := hi
        have hik : i < k := by have := get_lt h1; simpa using this
        rw [List.getElem?_range hik] at h1
        cases h1
        rfl

end Gp
end Go.Proofs.Ytmdleoadodcljaa
