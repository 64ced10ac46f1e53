/- The journal of a list of records, as the law makes it, with the lengths of its parts; a word of a journal. -/
import Derived.Test.YtcdoalfpaldbmaaWC
namespace Go.Proofs.Ytcdoalfpaldbmaa
open Go.RowKit Sl Fr Dg
namespace Jn
set_option linter.unusedVariables false

theorem jour_take_le (rs : List (List Int)) (key : Int) (k : Nat) : (jour key (rs.take k)).length ≤ (jour key rs).length := by
  have : jour key rs = jour key (rs.take k) ++ jour (sealK key (rs.take k)) (rs.drop k) := by rw [← jour_append, List.take_append_drop]
  rw [this, List.length_append]; omega
theorem field_b0 (A : Option Addr) (k c : Nat) (x : Int) (w : World) : (Instr.field 37 (.agg #[.slice A k c, .int .i64 x]) 0).run Try.prog w = .ok (.slice A k c) w := by kernel_rfl
theorem field_b1 (A : Option Addr) (k c : Nat) (x : Int) (w : World) : (Instr.field 37 (.agg #[.slice A k c, .int .i64 x]) 1).run Try.prog w = .ok (.int .i64 x) w := by kernel_rfl
theorem field_r0 (A B : Option Addr) (k c m d : Nat) (x y z : Int) (w : World) : (Instr.field 34 (.agg #[.slice A k c, .slice B m d, .int .i64 x, .int .i64 y, .int .u64 z]) 0).run Try.prog w = .ok (.slice A k c) w := by kernel_rfl
attribute [local go_sem] field_b0 field_b1 field_r0
/-- Where the encodings end. -/
def endsTo (rs : List (List Int)) (k : Nat) : List Int := (List.range k).map fun i => ((jour 0 (rs.take (i + 1))).length : Int)
theorem endsTo_succ (rs : List (List Int)) (k : Nat) : endsTo rs (k + 1) = endsTo rs k ++ [((jour 0 (rs.take (k + 1))).length : Int)] := by simp [endsTo, List.range_succ]
theorem endsTo_length (rs : List (List Int)) (k : Nat) : (endsTo rs k).length = k := by simp [endsTo]
theorem i64s_snoc (l : List Int) (x : Int) : i64s l ++ [Value.int .i64 x] = i64s (l ++ [x]) := by simp [i64s]
theorem putF_ok {rs : List (List Int)} {k : Nat} {r : List Int} (hr : rs[k]? = some r) (hok : OkR r) (hl : (jour 0 rs).length ≤ 65536) : putF (jour 0 (rs.take k)) [] (rs.take k) r = (jour 0 (rs.take (k + 1)), 0) := by
  have h1 := jour_take_le rs 0 (k + 1)
  have h2 : jour 0 (rs.take (k + 1)) = jour 0 (rs.take k) ++ enc (sealK 0 (rs.take k)) r := by rw [take_snoc hr, jour_snoc]
  have h3 : (jour 0 (rs.take (k + 1))).length = (jour 0 (rs.take k)).length + 8 * (r.length + 3) := by rw [h2, List.length_append, enc_length]
  unfold putF
  rw [if_neg (by have := hok.1; omega), if_neg (by simp), if_neg (by omega), h2]

theorem arrF_grown {w w' : World} {base : Nat} {X : Option Nat} {A : Option Addr} {vs : List Value} (h : ArrF w base A vs) (hg : w.grownBy w' X) (hX : ∀ g, X = some g → g < base) : ArrF w' base A vs := fun hne => by
  obtain ⟨b, o, e, hB, hlt, hc⟩ := h hne
  have hb : some b ≠ X := fun h' => by have := hX b h'.symm; omega
  exact ⟨b, o, e, hB, Nat.lt_of_lt_of_le hlt hg.size, fun j u hu => (World.cell?_of_block (hg.block b hlt hb)).trans (hc j u hu)⟩

def GiveMade (w : World) (rs : List (List Int)) (e : Ending) (w' : World) : Prop :=
  ∃ A c B d, e = .returned (.tuple #[.slice A (jour 0 rs).length c, .slice B rs.length d]) ∧ (jour 0 rs).length ≤ c ∧ (A = none → jour 0 rs = [] ∧ c = 0) ∧ ArrF w' w.heap.size A (u8s (jour 0 rs)) ∧ rs.length ≤ d ∧ ArrF w' w.heap.size B (i64s (endsTo rs rs.length)) ∧ Below w.heap.size w w'

def MadeAt (w : World) (rs : List (List Int)) (k : Nat) (j e : Value) (wr : World) : Prop :=
  ∃ A c, j = .slice A (jour 0 (rs.take k)).length c ∧ (jour 0 (rs.take k)).length ≤ c ∧ (A = none → jour 0 (rs.take k) = [] ∧ c = 0) ∧ ArrF wr w.heap.size A (u8s (jour 0 (rs.take k))) ∧ wr.ownsRow w.heap.size 3 1 e k (i64s (endsTo rs k)) ∧ Below w.heap.size w wr

set_option maxRecDepth 20000 in
set_option maxHeartbeats 4000000 in
theorem made_any (A : Option Addr) (rs : List (List Int)) (c : Nat) (w : World) (hA : LL w A rs) (hok : ∀ r ∈ rs, OkR r) (hl : (jour 0 rs).length ≤ 65536) (hn : rs.length ≤ 65536) :
    Calls Try.prog 22 #[.slice A rs.length c] w (GiveMade w rs) := by
  obtain ⟨b, o, hb⟩ := hA.open_
  obtain ⟨i0, hi, hz0, hz1, hz2⟩ := info_parts infoInt
  have HA := Lib.hid hb
  have HOK := Lib.hid hok
  have HL := Lib.hid hl
  have h0 : MadeAt w rs 0 (.slice (some ⟨w.heap.size, 0, none⟩) 0 0) (.slice (some ⟨w.heap.size + 1, 0, none⟩) 0 0) ((w.alloc (.cells #[] 5)).alloc (.cells #[] 3)) :=
    ⟨_, _, rfl, Nat.le_refl _, (fun e => by cases e), (fun h => absurd rfl h), ⟨rfl, .inr ⟨w.heap.size + 1, 0, #[], rfl, by omega, by have := World.alloc_heap_new (w.alloc (.cells #[] 5)) (.cells #[] 3); rwa [World.size_alloc] at this, Nat.le_refl _, Nat.zero_le _, rfl, rfl⟩⟩, ((Below.refl _ w).alloc (Nat.le_refl _) _).alloc (by simp) _⟩
  have H0 := Lib.hid h0
  clear hb hA hok h0 hl
  go_enter Try.func22, Try.ntmps22
  go_wp2
  go_loopw [4, 5, 6] (fun j e i wr => ∃ k : Nat, k ≤ rs.length ∧ i = .int .i64 k ∧ MadeAt w rs k j e wr) (fun _ _ i _ => rs.length - (intOf i).toNat)
  case atStart => exact ⟨0, Nat.zero_le _, rfl, H0.out⟩
  case round =>
    clear H0
    obtain ⟨k, hk, rfl, Aj, cj, rfl, hcj, hnj, hj, he, hbl⟩ := hrel
    have hjl : (jour 0 (rs.take k)).length ≤ 65536 := Nat.le_trans (jour_take_le rs 0 k) HL.out
    by_cases hlt : k < rs.length
    · obtain ⟨r, hr⟩ := get_ex hlt
      obtain ⟨rfl, hbs, hc⟩ := HA.out (by intro h; subst h; simp at hlt)
      obtain ⟨A2, c2, q1, q2, q3⟩ := hc k r hr
      have hok := HOK.out r (List.mem_of_getElem? hr)
      have hput := putL_any Aj A2 (jour 0 (rs.take k)) [] r (rs.take k) cj c2 wr hj.arr hnj (jour_B8 _ _) (by omega) hcj (parses_jour 0 fun x hx => HOK.out x (List.mem_of_mem_take hx)) (q3.keep hbl) hok.2 (by have := hok.1; omega)
      rw [putF_ok hr hok HL.out] at hput
      have hck := (hbl.cell (p := ⟨b, o + k, none⟩) hbs).trans q1
      have hj1 : (jour 0 (rs.take (k + 1))).length ≤ 65536 := Nat.le_trans (jour_take_le rs 0 (k + 1)) HL.out
      have HE := Lib.hid he
      have HBL := Lib.hid hbl
      have HES := Lib.hid (endsTo_succ rs k)
      have hob := Lib.hid (row_own he)
      have hol := Lib.hid (ownsRow_lt he)
      clear hc hr q1 q2 q3 hok hj he hnj hcj HA HOK HL
      generalize hjk : jour 0 (rs.take k) = jk at *
      generalize hjk1 : jour 0 (rs.take (k + 1)) = jk1 at *
      go_upto_region 6 with (go_at_call 14; refine hput.mono ?_; rintro e w1 ⟨A1, c1, rfl, g1, g2, g3, hb1⟩)
      have hg3 := Lib.hid g3
      have hg2 := Lib.hid g2
      have he1 := row_keep HE.out hb1
      have hsz := HBL.out.size
      have hsz1 := hb1.size
      have hoA := ownsRow_block (W' := w1.alloc (.cells #[.int .i64 (jk1.length : Int)] 3)) he1 (fun g _ hlt => (Below.heap_alloc _ _ _ hlt))
      clear g3 hput g2
      go_wp2_with (at_builtin; go_loud (refine wpList_append_own_at _ rfl _ _ 29 rfl w.heap.size 3 i0 (.int .i64 0) 1 8 Try.underlying29 hi hz0 hz1 hz2 rfl (by decide) u5 k (i64s (endsTo rs k)) rfl hoA ⟨w1.heap.size, 0, none⟩ 1 1 [.int .i64 (jk1.length : Int)] rfl rfl (cell_one_new _ _ _) (by simp [Value.oneCell']) (by unfold maxLen; omega) (by omega) (by simp; omega) ?_; intro v' w3 hown' hg3' hnil3 hob3; go_frame))
      have hbA : Below w1.heap.size w1 (w1.alloc (.cells #[.int .i64 (jk1.length : Int)] 3)) := (Below.refl _ _).alloc (Nat.le_refl _) _
      have hb3 : Below w.heap.size w1 w3 := (hbA.mono (by omega)).trans ((Below.refl _ _).grown hg3' (by simp; omega) hob.out)
      have hA1 := arrF_grown (ArrF.keep hg3.out hbA) hg3' (fun g hg => (hol.out g hg).2)
      rw [i64s_snoc, ← HES.out] at hown'
      have hfin : MadeAt w rs (k + 1) (.slice A1 jk1.length c1) v' w3 := ⟨A1, c1, by rw [hjk1], by rw [hjk1]; exact g1, by rw [hjk1]; exact hg2.out, by rw [hjk1]; exact hA1.mono hsz, hown', (HBL.out.trans (hb1.mono hsz)).trans hb3⟩
      go_roundw
      case rel => exact ⟨k + 1, by omega, by go_num, hfin⟩
      case measure => simp [intOf]; omega
    · obtain rfl : k = rs.length := by omega
      have HJ := Lib.hid hj
      have HE := Lib.hid he
      obtain ⟨B1, d1, q1, q2, _, q4, _⟩ := row_forms he
      subst q1
      have htl : rs.take rs.length = rs := List.take_length
      rw [htl] at hcj hnj HJ
      clear hj he
      simp only [htl]
      go_wp2
      go_ret2
      exact ⟨Aj, cj, B1, d1, rfl, hcj, hnj, HJ.out, q2, q4, hbl⟩

/-- The bytes of a word, read from the last one on. -/
def upTo (xs : List Int) (k : Nat) : Int := valL (xs.drop (8 - k))
theorem upTo_succ (xs : List Int) (hl : xs.length = 8) (hb : B8 xs) (k : Nat) (hk : k < 8) :
    bits .or .u64 (IntKind.u64.wrap (upTo xs k * 2 ^ 8)) (IntKind.u64.wrap (xs[7 - k]?.getD 0)) = upTo xs (k + 1) := by
  have hx := hb (xs[7 - k]?.getD 0) (by rw [List.getElem?_eq_getElem (by omega)]; simp)
  have hr := valL_range (xs.drop (8 - k)) (fun x hx => hb x (List.mem_of_mem_drop hx))
  rw [List.length_drop, hl, show 8 - (8 - k) = k by omega] at hr
  have he : xs.drop (8 - (k + 1)) = xs[7 - k]?.getD 0 :: xs.drop (8 - k) := by
    rw [show 8 - (k + 1) = 7 - k by omega, List.drop_eq_getElem_cons (by omega), List.getElem?_eq_getElem (by omega), Option.getD_some, show 7 - k + 1 = 8 - k by omega]
  unfold upTo
  rw [he, valL]
  have hp : (256 : Int) ^ k ≤ 256 ^ 7 := by
    rw [pow256, pow256]
    exact Int.ofNat_le.2 (Nat.pow_le_pow_right (by decide) (by omega))
  have h7 : (256 : Int) ^ 7 = 72057594037927936 := by decide
  generalize valL (xs.drop (8 - k)) = v at *
  generalize xs[7 - k]?.getD 0 = x at *
  have hv : 0 ≤ v ∧ v < 72057594037927936 := by omega
  obtain ⟨v, rfl⟩ := Int.eq_ofNat_of_zero_le hv.1
  obtain ⟨x, rfl⟩ := Int.eq_ofNat_of_zero_le hx.1
  have e1 : IntKind.u64.wrap ((v : Int) * 2 ^ 8) = ((v * 256 : Nat) : Int) := by rw [IntKind.wrap_u64]; omega
  have e2 : IntKind.u64.wrap (x : Int) = (x : Int) := by rw [IntKind.wrap_u64]; omega
  rw [e1, e2, or_nat (v * 256) x (by omega) (by omega)]
  have e3 := Nat.shiftLeft_add_eq_or_of_lt (b := x) (i := 8) (by omega) v
  rw [Nat.shiftLeft_eq] at e3
  rw [show v * 256 ||| x = v * 256 + x from e3.symm]
  omega

set_option maxHeartbeats 1000000 in
theorem wordL_any (A : Option Addr) (bs : List Int) (at_ c : Nat) (w : World) (hA : Byt w A bs) (hb : B8 bs) (hi : at_ + 8 ≤ bs.length) (hl : bs.length ≤ 1000000) :
    Calls Try.prog 23 #[.slice A bs.length c, .int .i64 at_] w fun e w' => e = .returned (.int .u64 (valL ((bs.drop at_).take 8))) ∧ w = w' := by
  obtain ⟨b, o, rfl, hlt, hc⟩ := Byt.at hA (by intro e; subst e; simp at hi)
  have hg : ∀ k, k < 8 → w.cell? ⟨b, o + (at_ + k), none⟩ = some (.int .u8 (((bs.drop at_).take 8)[k]?.getD 0)) := fun k hk => by
    rw [List.getElem?_take_of_lt hk, List.getElem?_drop]
    exact hc _ (by omega)
  have hs := upTo_succ ((bs.drop at_).take 8) (by simp; omega) (fun x hx => hb x (List.mem_of_mem_drop (List.mem_of_mem_take hx)))
  have hall : upTo ((bs.drop at_).take 8) 8 = valL ((bs.drop at_).take 8) := by unfold upTo; rw [Nat.sub_self, List.drop_zero]
  have h0 : upTo ((bs.drop at_).take 8) 0 = 0 := by unfold upTo; rw [List.drop_of_length_le (by simp; omega)]; rfl
  have HG := Lib.hid hg
  have HS := Lib.hid hs
  have HAL := Lib.hid hall
  clear hg hs hall hc hA hb
  rw [← HAL.out]
  generalize hw : upTo ((bs.drop at_).take 8) = wu at *
  generalize ((bs.drop at_).take 8) = gs at *
  clear HAL
  go_enter Try.func23, Try.ntmps23
  go_wp2
  go_loop [5, 6] (fun g i => ∃ k : Nat, k ≤ 8 ∧ i = .int .i64 (7 - (k : Int)) ∧ g = .int .u64 (wu k)) (fun _ i => (intOf i + 1).toNat)
  case atStart => exact ⟨0, Nat.zero_le _, rfl, by rw [h0]⟩
  case round =>
    obtain ⟨k, hk, rfl, rfl⟩ := hrel
    by_cases hlt : k < 8
    · have hcx := HG.out (7 - k) (by omega)
      have hs := HS.out k hlt
      generalize gs[7 - k]?.getD 0 = x at hcx hs
      have HX := Lib.hid hs
      clear hs
      go_wp2
      go_round
      case rel => exact ⟨k + 1, by omega, by go_num, congrArg (Value.int .u64) HX.out⟩
      case measure => simp [intOf]; omega
    · go_wp2
      go_ret
      have : k = 8 := by omega
      subst this
      exact ⟨rfl, rfl⟩
end Jn
end Go.Proofs.Ytcdoalfpaldbmaa
