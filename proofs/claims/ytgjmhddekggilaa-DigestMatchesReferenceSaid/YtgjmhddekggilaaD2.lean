/- What Path returns. -/
import Derived.Test.YtgjmhddekggilaaD1
namespace Go.Proofs.Ytgjmhddekggilaa
open Go.RowKit
namespace Dg

theorem row_below {w w' : World} {base : Nat} {e : TypeId} {v : Value} {n : Nat} {vs : List Value} (h : w.ownsRow base e 1 v n vs) (hb : Below w.heap.size w w') : w'.ownsRow base e 1 v n vs :=
  h.kept (row := none) ⟨hb.os, hb.tape, hb.output, hb.size, fun k hk _ => hb.block k hk⟩ (by cases hv : v.ownBlock <;> simp)

/-- The path of the leaf j of zs: a new slice, and no error. -/
def PathRet (zs : List Int) (j : Nat) (w : World) (e : Ending) (w' : World) : Prop :=
  ∃ A c, e = .returned (.tuple #[.slice A (pathT zs j).length c, .int .i64 0]) ∧ (pathT zs j).length ≤ c ∧ ArrF w' w.heap.size A ((pathT zs j).map (Value.int .u64)) ∧ Below w.heap.size w w'

/-- What holds at each round's head. -/
def PathAt (zs : List Int) (j : Nat) (w : World) (i p v : Value) (wr : World) : Prop :=
  ∃ (l : List Int) (k : Nat) (P : List Int), i = .int .i64 k ∧ k < l.length ∧ (∃ A c, v = .slice A l.length c ∧ l.length ≤ c ∧ ArrX wr p.ownBlock A (l.map (Value.int .u64))) ∧
    wr.ownsRow w.heap.size 24 1 p P.length (P.map (Value.int .u64)) ∧ P.length + l.length ≤ zs.length ∧ pathT zs j = P ++ pathT l k ∧ Below w.heap.size w wr

theorem path_no (A : Option Addr) (n c : Nat) (i : Int) (w : World) (h : i < 0 ∨ (n : Int) ≤ i) :
    Calls Try.prog 33 #[.slice A n c, .int .i64 i] w fun e w' => e = .returned (.tuple #[.slice none 0 0, .int .i64 1]) ∧ w = w' := by
  by_cases h0 : i < 0
  · go_enter Try.func33, Try.ntmps33
    go_wp2
    go_ret2
    exact ⟨rfl, rfl⟩
  · have h1 : (n : Int) ≤ i := by omega
    go_enter Try.func33, Try.ntmps33
    go_wp2
    go_ret2
    exact ⟨rfl, rfl⟩

set_option maxHeartbeats 1000000 in
theorem path_yes (A : Option Addr) (zs : List Int) (cap : Nat) (j : Nat) (w : World) (hj : j < zs.length) (hlen : zs.length ≤ 17592186044416) (hcap : zs.length ≤ cap) (hA : Arr w A (zs.map (Value.int .u64))) :
    Calls Try.prog 33 #[.slice A zs.length cap, .int .i64 j] w (PathRet zs j w) := by
  obtain ⟨i0, hi, hz0, hz1, hz2⟩ := info_parts info24
  have h0 : PathAt zs j w (.int .i64 j) (.slice none 0 0) (.slice A zs.length cap) w := ⟨zs, j, [], rfl, hj, ⟨A, cap, rfl, hcap, hA.apart (fun g h => by cases h)⟩, World.ownsRow_nil _ _ _ _, by simp, by simp, Below.refl _ _⟩
  clear hA
  have hd0 : decide ((j : Int) < 0) = false := decide_eq_false (by omega)
  have hd1 : decide (zs.length ≤ j) = false := decide_eq_false (by omega)
  go_enter Try.func33, Try.ntmps33
  go_wp2
  go_loopw [1, 6, 7] (fun i p v wr => PathAt zs j w i p v wr) (fun _ _ v _ => lenOf v)
  case atStart => exact h0
  case round =>
    obtain ⟨l, k, P, rfl, hk, ⟨A1, c1, rfl, hc1, hX⟩, hrow, hsum, hp, hb⟩ := hrel
    have HP := Lib.hid hp
    clear hp h0
    have hbs := hb.size
    by_cases hlt : 1 < l.length
    · have HS := Lib.hid (pathT_step l k hlt)
      by_cases hpn : partnerN k < l.length
      · have hd : decide (partnerN k < l.length) = true := decide_eq_true hpn
        have HB : Hid (beside l k = [l[partnerN k]?.getD 0]) := if_pos hpn
        obtain ⟨b, o, rfl, hbl, hcs⟩ := hX.arr.at_ (by intro h; subst h; simp at hlt)
        have hcp := hcs _ hpn
        clear hcs
        generalize l[partnerN k]?.getD 0 = x at hcp HB
        go_wp2_with (first
          | (go_at_call 39; refine (partner_any k l.length _ (by omega)).mono ?_; rintro e w' ⟨rfl, rfl⟩)
          | (at_builtin; refine wpList_append_lies _ rfl _ _ 25 rfl w.heap.size 24 i0 (.int .u64 0) 1 8 Try.underlying25 hi hz0 hz1 hz2 rfl (by decide) _ _ _ rfl (hrow.alloc _) ⟨wr.heap.size, 0, none⟩ 1 1 [.int .u64 x] rfl rfl (cell_one_new _ _ _) (by simp [Value.oneCell']) (by decide) (by unfold maxLen; omega) (by omega) (by simp; omega) _ rfl ?_; intro g cap' w1 hown1 hgrow1 hor1 hlt1)
          | (go_at_call 31; refine (next_any _ _ _ _ (by omega) hc1 ((hX.keep ((Below.refl _ _).alloc (Nat.le_refl _) _)).grown hgrow1 (Y := some g) (by rcases hor1 with h | h; exact .inl h.symm; exact .inr (fun g' hg' => by cases hg'; omega))).arr).mono ?_; rintro e w2 ⟨A2, c2, rfl, hc2, hF2, hb2⟩))
        go_roundw
        case rel =>
          refine ⟨levelI l, k / 2, P ++ [x], by go_num, by rw [levelI_length]; omega, ⟨A2, c2, rfl, hc2, hF2.apart (fun g' hg' => by cases hg'; exact hlt1)⟩, by simpa using row_below hown1 hb2, by simp [levelI_length]; omega, by rw [HP.out, HS.out, HB.out]; simp, ?_⟩
          exact ((hb.alloc hbs _).grown hgrow1 (by simp; omega) (fun g' hg' => ((row_forms hrow).choose_spec.choose_spec.2.2.2.2 g' hg').1)).trans (hb2.mono (by have := hgrow1.size; simp at this; omega))
        case measure => simp only [lenOf, levelI_length]; omega
      · have hd : decide (partnerN k < l.length) = false := decide_eq_false hpn
        have HB : Hid (beside l k = []) := if_neg hpn
        go_wp2_with (first
          | (go_at_call 39; refine (partner_any k l.length _ (by omega)).mono ?_; rintro e w' ⟨rfl, rfl⟩)
          | (go_at_call 31; refine (next_any _ _ _ _ (by omega) hc1 hX.arr).mono ?_; rintro e w2 ⟨A2, c2, rfl, hc2, hF2, hb2⟩))
        go_roundw
        case rel =>
          exact ⟨levelI l, k / 2, P, by go_num, by rw [levelI_length]; omega, ⟨A2, c2, rfl, hc2, hF2.apart (fun g' hg' => ((row_forms hrow).choose_spec.choose_spec.2.2.2.2 g' hg').2)⟩, row_below hrow hb2, by rw [levelI_length]; omega, by rw [HP.out, HS.out, HB.out]; rfl, hb.trans (hb2.mono hbs)⟩
        case measure => simp only [lenOf, levelI_length]; omega
    · obtain ⟨A', c', rfl, hc', _, hF', _⟩ := row_forms hrow
      clear hX hrow
      go_wp2
      go_ret2
      have e : pathT zs j = P := by rw [HP.out, pathT_one _ _ (by omega), List.append_nil]
      unfold PathRet
      rw [e]
      exact ⟨A', c', rfl, hc', hF', hb⟩

end Dg
end Go.Proofs.Ytgjmhddekggilaa
