/- What Components returns. -/
import Derived.Test.YtmdleoadodcljaaG7
namespace Go.Proofs.Ytmdleoadodcljaa
open Go.RowKit Sl Fr
namespace Gp
set_option linter.unusedVariables false

def bF (m : Nat → Bool) : Nat → Value := fun i => .bool (m i)
open Classical in
/-- The nodes of the classes of the first k nodes. -/
noncomputable def inK (es : Dgr.Edges) (k : Nat) : Nat → Bool := fun x => decide (∃ u, u < k ∧ Dgr.Both es u x)
theorem inK_iff {es : Dgr.Edges} {k x : Nat} : inK es k x = true ↔ ∃ u, u < k ∧ Dgr.Both es u x := by simp [inK]
/-- The node k is the least of its class. -/
def Lead (es : Dgr.Edges) (k : Nat) : Prop := ∀ u, u < k → ¬ Dgr.Both es k u
noncomputable def compTo (n : Nat) (es : Dgr.Edges) (k : Nat) : List (List Nat) := (Dgr.those k (Lead es)).map (Dgr.classL n es)
theorem compTo_all (n : Nat) (es : Dgr.Edges) : compTo n es n = Dgr.compL n es := rfl
theorem compTo_len (n : Nat) (es : Dgr.Edges) (k : Nat) : (compTo n es k).length ≤ k := by unfold compTo; rw [List.length_map]; exact those_len _ _
theorem lead_iff {es : Dgr.Edges} {k : Nat} : Lead es k ↔ inK es k k = false := by
  rw [Bool.eq_false_iff, ne_eq, inK_iff]
  exact ⟨fun h ⟨u, hu, hb⟩ => h u hu hb.symm, fun h u hu hb => h ⟨u, hu, hb.symm⟩⟩
theorem compTo_yes {n : Nat} {es : Dgr.Edges} {k : Nat} (h : inK es k k = false) : compTo n es (k + 1) = compTo n es k ++ [Dgr.classL n es k] := by
  unfold compTo
  rw [those_succ_yes (lead_iff.2 h), List.map_append]
  rfl
theorem compTo_no {n : Nat} {es : Dgr.Edges} {k : Nat} (h : inK es k k = true) : compTo n es (k + 1) = compTo n es k := by
  unfold compTo
  rw [those_succ_no (fun hl => by rw [lead_iff.1 hl] at h; cases h)]
theorem inK_skip {es : Dgr.Edges} {k : Nat} (h : inK es k k = true) (x : Nat) : inK es (k + 1) x = inK es k x := by
  rw [Bool.eq_iff_iff, inK_iff, inK_iff]
  obtain ⟨v, hv, hb⟩ := inK_iff.1 h
  refine ⟨fun ⟨u, hu, hbu⟩ => ?_, fun ⟨u, hu, hbu⟩ => ⟨u, by omega, hbu⟩⟩
  by_cases huk : u = k
  · subst huk; exact ⟨v, hv, hb.trans hbu⟩
  · exact ⟨u, by omega, hbu⟩
theorem inK_take {n : Nat} {es : Dgr.Edges} {k : Nat} {x : Nat} (hx : x < n) : inK es (k + 1) x = (inK es k x || (Dgr.classL n es k).contains x) := by
  rw [Bool.eq_iff_iff, Bool.or_eq_true, inK_iff, inK_iff, List.contains_iff_mem, Dgr.classL, Dgr.mem_those]
  constructor
  · rintro ⟨u, hu, hb⟩
    by_cases huk : u = k
    · subst huk; exact .inr ⟨hx, hb⟩
    · exact .inl ⟨u, by omega, hb⟩
  · rintro (⟨u, hu, hb⟩ | ⟨_, hb⟩)
    · exact ⟨u, by omega, hb⟩
    · exact ⟨k, by omega, hb⟩

def CompAt (n : Nat) (es : Dgr.Edges) (w3 : World) (q : Nat) (v i : Value) (wr : World) : Prop :=
  ∃ (k : Nat) (hs : List Value), i = .int .i64 k ∧ k ≤ n ∧ q = n - k ∧ Lists wr (w3.heap.size + 1) v (compTo n es k) hs ∧ CellsV wr w3.heap.size n (bF (inK es k)) ∧ Below w3.heap.size w3 wr
def MarkAt (n : Nat) (es : Dgr.Edges) (k : Nat) (rows : List (List Nat)) (l : List Nat) (hs : List Value) (v : Value) (A : Option Addr) (w3 : World) (q : Nat) (i : Value) (wr : World) : Prop :=
  ∃ j : Nat, i = .int .i64 j ∧ j ≤ l.length ∧ q = l.length - j ∧ Lists wr (w3.heap.size + 1) v rows hs ∧ RowX wr (w3.heap.size + 1) v.ownBlock A l ∧ CellsV wr w3.heap.size n (bF fun x => inK es k x || (l.take j).contains x) ∧ Below w3.heap.size w3 wr

set_option maxRecDepth 100000 in
set_option maxHeartbeats 3200000 in
theorem comp_any (n : Nat) (A : Option Addr) (es : Dgr.Edges) (c : Nat) (w : World) (hA : EdgesA w A es) (ok : Dgr.Ok n es) (hn : n ≤ 200) (hl : es.length ≤ 2000) :
    Calls Try.prog 21 #[.int .i64 n, .slice A es.length c] w (GiveR w (Dgr.compL n es)) := by
  obtain ⟨i0, hi0, hz0, hz1, hz2⟩ := parts_of infoRow
  have hmk := run_make_row' (P := Try.prog) 53 4 (.bool false) 1 Try.underlying53 infoBool rfl .i64 .i64 n (by omega) (by omega)
  have HO := Lib.hid ok
  have HA := Lib.hid hA
  clear ok hA
  go_enter Try.func21, Try.ntmps21
  go_wp2_with (first
    | (go_at_call 6; refine (valid_ok HO.out hn hl _ _ _ HA.out).mono ?_; rintro e w1 ⟨rfl, hb1⟩)
    | (go_at_call 34; refine (suc_call n _ es _ _ (HA.out.keep hb1) HO.out hn hl).mono ?_; rintro e w2 ⟨A2, c2, rfl, hR2, hb2⟩)
    | (go_at_call 35; refine (pre_call n _ es _ _ ((HA.out.keep hb1).keep hb2) HO.out hn hl).mono ?_; rintro e w3 ⟨A3, c3, rfl, hR3, hb3⟩))
  have hb : Below w.heap.size w w3 := (hb1.trans (hb2.mono hb1.size)).trans (hb3.mono (by have := hb1.size; have := hb2.size; omega))
  have HR2 := Lib.hid ((hR2.keep hb3).mono (Nat.zero_le _))
  have HR3 := Lib.hid (hR3.mono (Nat.zero_le _))
  have HS : Hid (CompAt n es w3 n (.slice none 0 0) (.int .i64 ((0 : Nat) : Int)) (w3.alloc (.cells (madeCells #[.bool false] n) 4))) := Lib.hid
    ⟨0, [], rfl, Nat.zero_le _, rfl, Lists.nil _ _, (CellsV.made w3 _ n _).congr fun x _ => by rw [bF, show inK es 0 x = false by rw [Bool.eq_false_iff, ne_eq, inK_iff]; rintro ⟨u, hu, _⟩; omega], (Below.refl _ _).alloc (Nat.le_refl _) _⟩
  clear hR2 hR3 hb1 hb2 hb3
  go_loopg [7, 26] n (fun q v i wr => CompAt n es w3 q v i wr)
  case atStart => exact HS.out
  case round =>
    obtain ⟨k, hs, rfl, hk, rfl, hL, hC, hbl⟩ := hrel
    clear HS hmk
    have HL := Lib.hid hL
    have HC := Lib.hid hC
    have hKlt := hC.lt
    have hbs := hbl.size
    have hlen := compTo_len n es k
    have hvo := row_own hL.own
    have hvlt := hL.own.lt
    clear hL hC
    by_cases hlt : k < n
    · have hck : wr.cell? ⟨w3.heap.size, k, none⟩ = some (.bool (inK es k k)) := HC.out.cell k hlt
      cases hm : inK es k k with
      | true =>
        rw [hm] at hck
        have HM := Lib.hid hm
        clear hm
        go_wp2
        go_roundg (n - (k + 1))
        case measure => omega
        case rel => exact ⟨k + 1, hs, by go_num, by omega, rfl, by rw [compTo_no HM.out]; exact HL.out, HC.out.congr fun x _ => by rw [bF, bF, inK_skip HM.out], hbl⟩
      | false =>
        rw [hm] at hck
        have HM := Lib.hid hm
        clear hm
        go_wp2_with (go_at_call 36; refine (component_any n k _ _ _ _ es _ (HR2.out.keep hbl) (HR3.out.keep hbl) HO.out hlt hn hl).mono ?_; rintro e w4 ⟨A4, c4, rfl, hc4, hF4, hb4⟩)
        have hcl : (Dgr.classL n es k).length ≤ n := those_len n (Dgr.Both es k)
        have HT1 := Lib.hid (compTo_yes (n := n) HM.out)
        have HT2 : Hid (∀ x, x < n → inK es (k + 1) x = (inK es k x || (Dgr.classL n es k).contains x)) := Lib.hid fun x hx => inK_take hx
        have HT3 : Hid (∀ x ∈ Dgr.classL n es k, x < n) := Lib.hid fun x hx => (Dgr.mem_those.1 hx).1
        generalize Dgr.classL n es k = l at *
        have hb5 := hbl.trans (hb4.mono hbs)
        have hbs4 := hb4.size
        have HM0 : Hid (MarkAt n es k (compTo n es k) l hs u7 A4 w3 l.length (.int .i64 ((0 : Nat) : Int)) w4) := Lib.hid
          ⟨0, rfl, Nat.zero_le _, rfl, HL.out.keep hb4, hF4.apart (fun g hg => (hvlt g hg).2) (by omega), (HC.out.keep hb4).congr fun x _ => by simp, hb5⟩
        have hw4 : w3.heap.size < w4.heap.size := by omega
        clear hF4 hb4 hb5 HC HL hbl hKlt hck
        go_loopg [39] l.length (fun q i wr => MarkAt n es k (compTo n es k) l hs u7 A4 w3 q i wr)
        case atStart => exact HM0.out
        case round =>
          obtain ⟨j, rfl, hj, rfl, hL, hX, hC, hbl⟩ := hrel
          clear HM0
          have HL := Lib.hid hL
          have HX := Lib.hid hX
          have HC := Lib.hid hC
          have hown := hL.own
          have HOWN := Lib.hid hown
          clear hL hX hC hown
          by_cases hlt2 : j < l.length
          · obtain ⟨x, hx⟩ := get_ex hlt2
            have hxn : x < n := HT3.out x (List.mem_of_getElem? hx)
            obtain ⟨b2, o2, rfl, hb2, _, hbs2, hcs⟩ := HX.out (by intro h; rw [← List.length_eq_zero_iff, nv_length] at h; omega)
            have hcx := hcs j _ (nv_get hx)
            have hcm : wr.cell? ⟨w3.heap.size, x, none⟩ = some (.bool (inK es k x || (l.take j).contains x)) := HC.out.cell x hxn
            have hmm := HC.out.mark x hxn
            have HXX := Lib.hid hx
            generalize (inK es k x || (l.take j).contains x) = y at hcm
            have hx1 : (0 : Int) ≤ (x : Int) := Int.natCast_nonneg _
            have hx2 : (x : Int) < (n : Int) := by omega
            clear hcs hx
            go_wp2
            go_roundg (l.length - (j + 1))
            case measure => omega
            case rel =>
              refine ⟨j + 1, by go_num, by omega, rfl, HL.out.set (p := ⟨w3.heap.size, x, none⟩) (by simp) _, HX.out.set (p := ⟨w3.heap.size, x, none⟩) (by simp) _, HC.out.set hxn ?_ (fun y hy => ?_), hbl.setCell (p := ⟨w3.heap.size, x, none⟩) (Nat.le_refl _) _⟩
              · rw [bF, take_snoc HXX.out]
                simp
              · rw [bF, bF, take_snoc HXX.out]
                simp [hy]
          · have hbs5 := hbl.size
            go_wp2_with (at_builtin; refine wpList_append_lies _ rfl _ _ 44 rfl (w3.heap.size + 1) 26 i0 (.slice none 0 0) 1 24 Try.underlying44 hi0 hz0 hz1 hz2 rfl (by decide) _ _ _ rfl (HOWN.out.alloc _) ⟨wr.heap.size, 0, none⟩ 1 1 [.slice A4 l.length c4] rfl rfl (cell_one_new _ _ _) (by simp [Value.oneCell']) (by decide) (by unfold maxLen; omega) (by omega) (by simp; omega) _ rfl ?_; intro g' cap' w6 hown6 hgrow6 hor6 hlt6)
            go_roundg (n - (k + 1))
            case measure => omega
            case rel =>
              have hbA := (Below.refl _ wr).alloc (Nat.le_refl _) (.cells #[.slice A4 l.length c4] 26)
              have hL6 := (HL.out.keep hbA).append hc4 (HX.out.keep hbA) hown6 hgrow6 (hor6.imp id (fun h => by omega))
              have e : (compTo n es k).length + 1 = (compTo n es (k + 1)).length := by rw [HT1.out]; simp
              refine ⟨k + 1, hs ++ [.slice A4 l.length c4], by go_num, by omega, rfl, ?_, ?_, (hbl.alloc hbs5 _).grown hgrow6 (by simp; omega) (fun g' hg' => by have := hvo g' hg'; omega)⟩
              · rw [HT1.out]
                exact hL6
              · refine ((HC.out.keep hbA).grown hgrow6 (fun e => by have := hvo _ e.symm; omega)).congr fun x hx => ?_
                rw [bF, bF, HT2.out x hx, List.take_of_length_le (by omega)]
    · go_wp2
      go_ret
      obtain rfl : k = n := by omega
      obtain ⟨A', c', rfl, h1, h2⟩ := HL.out.rows
      exact ⟨A', c', rfl, h1, h2.mono (by have := hb.size; omega), hb.trans (hbl.mono hb.size)⟩

end Gp
end Go.Proofs.Ytmdleoadodcljaa
