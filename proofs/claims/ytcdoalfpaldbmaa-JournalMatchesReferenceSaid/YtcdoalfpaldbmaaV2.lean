/- The reference's encodings, and the record that it reads. -/
import Derived.Test.YtcdoalfpaldbmaaV1
namespace Go.Proofs.Ytcdoalfpaldbmaa
open Go.RowKit Sl Fr Dg
namespace Jn
set_option linter.unusedVariables false

/-- Bytes of the call's own. -/
def HasBy (w : World) (bs : List Int) (v : Value) (wr : World) : Prop :=
  ∃ A c, v = .slice A bs.length c ∧ bs.length ≤ c ∧ (A = none → bs = [] ∧ c = 0) ∧ ArrF wr w.heap.size A (u8s bs) ∧ Below w.heap.size w wr
theorem HasBy.give {w : World} {bs : List Int} {v : Value} {wr : World} (h : HasBy w bs v wr) : GiveB w bs (.returned v) wr := by
  obtain ⟨A, c, rfl, h⟩ := h; exact ⟨A, c, rfl, h⟩
theorem GiveB.has {w : World} {bs : List Int} {e : Ending} {wr : World} (h : GiveB w bs e wr) : ∃ v, e = .returned v ∧ HasBy w bs v wr := by
  obtain ⟨A, c, rfl, h⟩ := h; exact ⟨_, rfl, A, c, rfl, h⟩
/-- Bytes of the call's own, one word more. -/
theorem has_with {w wr : World} {bs : List Int} {v : Value} (h : HasBy w bs v wr) {wv : Int} (hw : Dg.R wv) (hl : bs.length ≤ 900000) (W : World) (hW : Below wr.heap.size wr W) :
    Calls Try.prog 40 #[v, .int .u64 wv] W fun e w' => ∃ v', e = .returned v' ∧ HasBy w (bs ++ bytesW wv) v' w' := by
  obtain ⟨A, c, rfl, h1, h2, h3, h4⟩ := h
  refine (rwith_any A bs c wv W (ArrF.arr (ArrF.keep h3 hW)) h2 hw hl).mono ?_
  rintro e w' ⟨A', c', rfl, g1, g2, g3, g4⟩
  have h5 := h4.trans (hW.mono h4.size)
  exact ⟨_, rfl, A', c', rfl, g1, g2, g3.mono h5.size, h5.trans (g4.mono h5.size)⟩

set_option maxHeartbeats 2000000 in
theorem rencoded_any (key : Int) (A : Option Addr) (r : List Int) (c : Nat) (w : World) (hA : Arr w A (i64s r)) (hr : OkR r) :
    Calls Try.prog 28 #[.int .u64 key, .slice A r.length c] w (GiveB w (enc key r)) := by
  have hrl := hr.1
  have hel := encTo_length key r
  have hst : HasBy w [] (.slice (some ⟨w.heap.size, 0, none⟩) 0 0) (w.alloc (.cells #[] 5)) := ⟨_, 0, rfl, Nat.le_refl _, (fun e => by cases e), (fun h => absurd rfl h), (Below.refl _ w).alloc (Nat.le_refl _) _⟩
  have hw1 := has_with hst (R_len hrl) (by simp) _ (Below.refl _ _)
  rw [List.nil_append] at hw1
  obtain ⟨b, o, hb⟩ := open_i64 hA
  have HOP := Lib.hid hb
  have HA := Lib.hid hA
  have HEL := Lib.hid hel
  have hcv : IntKind.u64.wrap (r.length : Int) = (r.length : Int) := by rw [IntKind.wrap_u64]; omega
  have htr := Lib.hid (tagI_range key [(r.length : Int)])
  have h0 := Lib.hid (encTo_0 key r)
  clear hel hA hst hb
  go_enter Try.func28, Try.ntmps28
  go_upto_region 2 with (go_at_call 40; refine hw1.mono ?_; rintro e w1 ⟨v1, rfl, ho1⟩)
  have HO1 := Lib.hid ho1
  clear ho1 hw1
  have htag := rtag_one key (r.length : Int) w1
  generalize htv : tagI key [(r.length : Int)] = tv at *
  have HTV := Lib.hid htv
  have hw2 := has_with HO1.out htr.out (by rw [bytesW_length]; omega) _ ((Below.refl _ w1).alloc (Nat.le_refl _) (.cells #[.int .i64 (r.length : Int)] 3))
  have HW2 := Lib.hid hw2
  clear htv hw2
  go_upto_region 3 with (first
    | (go_at_call 37; refine htag.mono ?_; rintro e w2 ⟨rfl, rfl⟩)
    | (go_at_call 40; refine HW2.out.mono ?_; rintro e w3 ⟨v3, rfl, ho3⟩))
  rw [h0.out] at ho3
  have HST := Lib.hid ho3
  clear ho3 HW2 htag HO1 HTV htr h0
  go_wp2
  go_loopw [5, 6] (fun g i wr => ∃ k : Nat, k ≤ r.length ∧ i = .int .i64 k ∧ HasBy w (encTo key r k) g wr) (fun _ i _ => r.length - (intOf i).toNat)
  case atStart => exact ⟨0, Nat.zero_le _, rfl, HST.out⟩
  case round =>
    clear HST
    obtain ⟨k, hk, rfl, hg⟩ := hrel
    have hlen : (encTo key r k).length ≤ 900000 := by have := HEL.out k; omega
    have hbl : Below w.heap.size w wr := by obtain ⟨_, _, _, _, _, _, h⟩ := hg; exact h
    by_cases hlt : k < r.length
    · obtain ⟨rfl, hbs, hc⟩ := HOP.out (by intro h; subst h; simp at hlt)
      have hck : wr.cell? ⟨b, o + k, none⟩ = some (.int .i64 (r[k]?.getD 0)) := (hbl.cell (p := ⟨b, o + k, none⟩) hbs).trans (hc k _ (by rw [List.getElem?_eq_getElem hlt]; rfl))
      have hs := encTo_succ key r k hlt
      generalize r[k]?.getD 0 = x at hck hs
      have hcx : IntKind.u64.wrap x = x % 18446744073709551616 := IntKind.wrap_u64 x
      rw [hcx] at hs
      have hwx := has_with hg (wv := x % 18446744073709551616) (by rw [← hcx]; exact wrap_R x) hlen wr (Below.refl _ _)
      rw [hs] at hwx
      clear hc hs hcx hg
      go_wp2_with (go_at_call 40; refine hwx.mono ?_; rintro e w5 ⟨v5, rfl, ho5⟩)
      go_roundw
      case rel => exact ⟨k + 1, by omega, by go_num, ho5⟩
      case measure => simp [intOf]; omega
    · obtain rfl : k = r.length := by omega
      have htag := rtag_any key A r c wr (by omega) (HA.out.keep hbl)
      have htr := tagI_range key r
      have HEA := Lib.hid (encTo_all key r)
      have hww := has_with hg htr hlen wr (Below.refl _ _)
      rw [HEA.out] at hww
      have HWW := Lib.hid hww
      generalize tagI key r = tv at *
      clear hww hg HEA
      go_wp2_with (first
        | (go_at_call 37; refine htag.mono ?_; rintro e w5 ⟨rfl, rfl⟩)
        | (go_at_call 40; refine HWW.out.mono ?_; rintro e w6 ⟨v6, rfl, ho6⟩))
      go_ret
      exact ho6.give

/-- The record that was read, or none. -/
def PieceIs (base : Nat) (W : World) (E : Nat) (key : Int) : Option (List Int) → Value → Prop
  | none, v => v = .agg #[.slice none 0 0, .int .u64 0, .int .i64 0, .bool false]
  | some r, v => ∃ A c, v = .agg #[.slice A r.length c, .int .u64 (tagI key r), .int .i64 ((E : Int) + 8 * ((r.length : Int) + 3)), .bool true] ∧ r.length ≤ c ∧ ArrF W base A (i64s r)
def GiveP (w : World) (E : Nat) (key : Int) (o : Option (List Int)) (e : Ending) (w' : World) : Prop := ∃ v, e = .returned v ∧ PieceIs w.heap.size w' E key o v ∧ Below w.heap.size w w'

theorem recAt_succ (bs : List Int) (k : Nat) : recAt bs (k + 1) = recAt bs k ++ [IntKind.i64.wrap (wordAt bs (k + 2))] := by simp [recAt, List.range_succ]
theorem word_drop (bs : List Int) (E i : Nat) : valL ((bs.drop (E + 8 * i)).take 8) = wordAt (bs.drop E) i := by unfold wordAt; rw [List.drop_drop]
theorem nxt_not {key : Int} {bs : List Int} (h : ¬ Good key bs (nOf bs)) : nxt key bs = none := if_neg h
theorem nOf_big {bs : List Int} (hb : B8 bs) (h : 256 < wordAt bs 0) : ¬ (0 ≤ nOf bs ∧ nOf bs ≤ 256) := by
  have := wordAt_R hb 0
  unfold R at this
  unfold nOf
  rw [IntKind.wrap_i64]
  omega
theorem nOf_small {bs : List Int} {n : Nat} (h : wordAt bs 0 = (n : Int)) (hn : n ≤ 256) : nOf bs = (n : Int) := by
  unfold nOf
  rw [h, IntKind.wrap_i64]
  omega
end Jn
end Go.Proofs.Ytcdoalfpaldbmaa
