/- The reference's digests, words, encodings. -/
import Derived.Test.YtcdoalfpaldbmaaWF
import Derived.Laws.AppendOwnNone
namespace Go.Proofs.Ytcdoalfpaldbmaa
open Go.RowKit Sl Fr Dg
namespace Jn
set_option linter.unusedVariables false

theorem rstep_any (h x : Int) (w : World) : Calls Try.prog 44 #[.int .u64 h, .int .u64 x] w fun e w' => e = .returned (.int .u64 (stepI h x)) ∧ w = w' := by
  go_enter Try.func44, Try.ntmps44
  go_wp2
  go_ret
  exact ⟨rfl, rfl⟩

set_option maxHeartbeats 400000 in
theorem rwords_any (A : Option Addr) (xs : List Int) (c : Nat) (w : World) (hlen : xs.length ≤ 4611686018427387904) (hA : Arr w A (i64s xs)) :
    Calls Try.prog 45 #[.slice A xs.length c] w fun e w' => e = .returned (.int .u64 (wordsI xs)) ∧ w = w' := by
  obtain ⟨b, o, hb⟩ := open_i64 hA
  have HB := Lib.hid hb
  clear hb hA
  go_enter Try.func45, Try.ntmps45
  go_wp2
  go_loop [3, 4] (fun g i => ∃ k : Nat, k ≤ xs.length ∧ i = .int .i64 k ∧ g = .int .u64 (wordsTo xs k)) (fun _ i => xs.length - (intOf i).toNat)
  case atStart => exact ⟨0, Nat.zero_le _, rfl, rfl⟩
  case round =>
    obtain ⟨k, hk, rfl, rfl⟩ := hrel
    by_cases hlt : k < xs.length
    · obtain ⟨rfl, hbs, hc⟩ := HB.out (by intro h; subst h; simp at hlt)
      have hcx := hc k (xs[k]?.getD 0) (by rw [List.getElem?_eq_getElem hlt]; rfl)
      have hs := wordsTo_succ xs k hlt
      generalize xs[k]?.getD 0 = x at hcx hs
      have HS := Lib.hid hs
      clear hc hs HB
      go_wp2_with (go_at_call 44; refine (rstep_any _ _ _).mono ?_; rintro e w' ⟨rfl, rfl⟩)
      go_round
      case rel => exact ⟨k + 1, by omega, by go_num, congrArg (Value.int .u64) HS.out.symm⟩
      case measure => simp [intOf]; omega
    · clear HB
      go_wp2_with (go_at_call 44; refine (rstep_any _ _ _).mono ?_; rintro e w' ⟨rfl, rfl⟩)
      go_ret
      have : k = xs.length := by omega
      subst this
      exact ⟨ret_int (wordsTo_all xs), rfl⟩

theorem rtag_any (key : Int) (A : Option Addr) (xs : List Int) (c : Nat) (w : World) (hlen : xs.length ≤ 4611686018427387904) (hA : Arr w A (i64s xs)) :
    Calls Try.prog 37 #[.int .u64 key, .slice A xs.length c] w fun e w' => e = .returned (.int .u64 (tagI key xs)) ∧ w = w' := by
  go_enter Try.func37, Try.ntmps37
  go_wp2_with (first | (go_at_call 45; refine (rwords_any _ _ _ _ hlen hA).mono ?_; rintro e w1 ⟨rfl, rfl⟩) | (go_at_call 44; refine (rstep_any _ _ _).mono ?_; rintro e w' ⟨rfl, rfl⟩))
  go_ret
  exact ⟨rfl, rfl⟩
theorem rtag_one (key x : Int) (w : World) : Calls Try.prog 37 #[.int .u64 key, .slice (some ⟨w.heap.size, 0, none⟩) 1 1] (w.alloc (.cells #[.int .i64 x] 3)) fun e w' => e = .returned (.int .u64 (tagI key [x])) ∧ w.alloc (.cells #[.int .i64 x] 3) = w' :=
  rtag_any key _ [x] 1 _ (by simp) (arr_lit w [x] _ 3 rfl)

set_option maxHeartbeats 1000000 in
theorem rword_any (A : Option Addr) (bs : List Int) (x : Int) (at_ c : Nat) (w : World) (hx : x = (at_ : Int)) (hA : Byt w A bs) (hb : B8 bs) (hi : at_ + 8 ≤ bs.length) (hl : bs.length ≤ 1000000) :
    Calls Try.prog 36 #[.slice A bs.length c, .int .i64 x] w fun e w' => e = .returned (.int .u64 (valL ((bs.drop at_).take 8))) ∧ w = w' := by
  subst hx
  obtain ⟨b, o, rfl, hlt, hc⟩ := Byt.at hA (by intro e; subst e; simp at hi)
  have hg : ∀ k, k < 8 → w.cell? ⟨b, o + (at_ + k), none⟩ = some (.int .u8 (((bs.drop at_).take 8)[k]?.getD 0)) := fun k hk => by
    rw [List.getElem?_take_of_lt hk, List.getElem?_drop]
    exact hc _ (by omega)
  have hs := upTo_succ ((bs.drop at_).take 8) (by simp; omega) (fun x hx => hb x (List.mem_of_mem_drop (List.mem_of_mem_take hx)))
  have hall : upTo ((bs.drop at_).take 8) 8 = valL ((bs.drop at_).take 8) := by unfold upTo; rw [Nat.sub_self, List.drop_zero]
  have h0 : upTo ((bs.drop at_).take 8) 0 = 0 := by unfold upTo; rw [List.drop_of_length_le (by simp; omega)]; rfl
  have HG := Lib.hid hg
  have HS := Lib.hid hs
  have HAL := Lib.hid hall
  clear hg hs hall hc hA hb
  rw [← HAL.out]
  generalize hw : upTo ((bs.drop at_).take 8) = wu at *
  generalize ((bs.drop at_).take 8) = gs at *
  clear HAL
  go_enter Try.func36, Try.ntmps36
  go_wp2
  go_loop [5, 6] (fun g i => ∃ k : Nat, k ≤ 8 ∧ i = .int .i64 (7 - (k : Int)) ∧ g = .int .u64 (wu k)) (fun _ i => (intOf i + 1).toNat)
  case atStart => exact ⟨0, Nat.zero_le _, rfl, by rw [h0]⟩
  case round =>
    obtain ⟨k, hk, rfl, rfl⟩ := hrel
    by_cases hlt : k < 8
    · have hcx := HG.out (7 - k) (by omega)
      have hs := HS.out k hlt
      generalize gs[7 - k]?.getD 0 = x at hcx hs
      have HX := Lib.hid hs
      clear hs
      go_wp2
      go_round
      case rel => exact ⟨k + 1, by omega, by go_num, congrArg (Value.int .u64) HX.out⟩
      case measure => simp [intOf]; omega
    · go_wp2
      go_ret
      have : k = 8 := by omega
      subst this
      exact ⟨rfl, rfl⟩

/-- Bytes of a slice appended to a slice of the call's own. -/
theorem wpList_bytes (w : World) {ops : Array Oper} {rest : List Oper} {o : Oper} {a : Act} {Q : Exit → Act → World → Prop} (hgd : o.guard = none) (s x : Operand)
    (ho : o.op = .call { callee := .builtin .append, args := #[s, x], argTypes := #[22, 22] }) (base : Nat) (v : Value) (xs : List Int) (hs : a.eval s = v) (hown : Own base w v xs)
    (A : Option Addr) (bs : List Int) (c : Nat) (hx : a.eval x = .slice A bs.length c) (hn : A = none → bs = [] ∧ c = 0) (hA : Byt w A bs) (h63 : xs.length + bs.length ≤ 1000000) (hbase : base ≤ w.heap.size)
    (h : ∀ v' w', Own base w' v' (xs ++ bs) → Below base w w' → wpList Try.prog ops Q rest (a.put o.dst v') w') : wpList Try.prog ops Q (o :: rest) a w := by
  obtain ⟨i0, hi, hz0, hz1, hz2⟩ := info_parts infoByte
  have he : u8s xs ++ u8s bs = u8s (xs ++ bs) := by simp [u8s]
  have hl : (xs ++ bs).length = xs.length + bs.length := by simp
  cases A with
  | none =>
    obtain ⟨rfl, rfl⟩ := hn rfl
    refine wpList_append_own_none (w := w) hgd s x 22 ho base 5 i0 1 Try.underlying22 hi v _ _ hs hown hx ?_
    exact h v w (by rw [List.append_nil]; exact hown) (Below.refl _ _)
  | some ad =>
    refine wpList_append_own (w := w) hgd s x 22 ho base 5 i0 (.int .u8 0) 1 1 Try.underlying22 hi hz0 hz1 hz2 rfl (by decide) v xs.length (u8s xs) hs hown ad bs.length c (u8s bs) hx (by rw [u8s_length, Nat.mul_one]) (fun j u hu => ?_) (by simp [u8s, Value.oneCell']) (by unfold maxLen; omega) (by omega) hbase ?_
    · obtain ⟨b', o', e, _, hc'⟩ := hA (by intro e; rw [e] at hu; simp at hu)
      cases e
      rw [add_lit0]; exact hc' j u hu
    · intro v' w' h1 h2 _
      refine h v' w' ?_ (below_own hown h2 hbase)
      unfold Own
      rw [hl, ← he]; exact h1
theorem own_empty (w : World) (base : Nat) (hb : base ≤ w.heap.size) : Own base (w.alloc (.cells #[] 5)) (.slice (some ⟨w.heap.size, 0, none⟩) 0 0) [] :=
  ⟨rfl, .inr ⟨w.heap.size, 0, #[], rfl, hb, World.alloc_heap_new w _, Nat.le_refl _, Nat.zero_le _, rfl, rfl⟩⟩

set_option maxHeartbeats 1000000 in
theorem rwith_any (A : Option Addr) (bs : List Int) (c : Nat) (wv : Int) (w : World) (hA : Byt w A bs) (hn : A = none → bs = [] ∧ c = 0) (hw : Dg.R wv) (hl : bs.length ≤ 900000) :
    Calls Try.prog 40 #[.slice A bs.length c, .int .u64 wv] w (GiveB w (bs ++ bytesW wv)) := by
  have hb : ∀ k, k < 8 → bs ++ (bytesW wv).take (k + 1) = (bs ++ (bytesW wv).take k) ++ [(bytesW wv)[k]?.getD 0] := fun k hk => by
    have : k < (bytesW wv).length := by rw [bytesW_length]; exact hk
    rw [List.take_succ_eq_append_getElem this, List.append_assoc, List.getElem?_eq_getElem this, Option.getD_some]
  have hby : ∀ k, k < 8 → wv / 2 ^ (8 * k) % 256 = (bytesW wv)[k]?.getD 0 := fun k hk => byte_at wv hw k hk
  have hall : bs ++ (bytesW wv).take 8 = bs ++ bytesW wv := by rw [List.take_of_length_le (by rw [bytesW_length]; exact Nat.le_refl _)]
  have htl : ∀ k, ((bytesW wv).take k).length ≤ 8 := fun k => by rw [List.length_take, bytesW_length]; omega
  have h00 : bs ++ (bytesW wv).take 0 = bs := by simp
  have HB := Lib.hid hb
  have HY := Lib.hid hby
  have HL := Lib.hid hall
  have HT := Lib.hid htl
  have H00 := Lib.hid h00
  have HA := Lib.hid hA
  have HN := Lib.hid hn
  have hw0 := hw.1
  clear hb hby hall htl h00 hA hn
  generalize bytesW wv = bw at *
  have hbA := (Below.refl w.heap.size w).alloc (Nat.le_refl _) (.cells #[] 5)
  have HBA := Lib.hid hbA
  have HO := Lib.hid (own_empty w w.heap.size (Nat.le_refl _))
  clear hbA
  go_enter Try.func40, Try.ntmps40
  go_upto_region 2 with (at_builtin; go_loud (refine wpList_bytes _ rfl _ _ rfl w.heap.size _ [] rfl HO.out A bs c rfl HN.out (HA.out.keep HBA.out) (by simp; omega) (by simp) ?_; intro v0 w0 ho0 hb0; go_frame))
  rw [List.nil_append] at ho0
  have HO0 := Lib.hid ho0
  have HB0 := Lib.hid (HBA.out.trans hb0)
  clear ho0 hb0 HO HBA
  go_wp2
  go_loopw [5, 6] (fun g i wr => ∃ k : Nat, k ≤ 8 ∧ i = .int .i64 k ∧ Own w.heap.size wr g (bs ++ bw.take k) ∧ Below w.heap.size w wr) (fun _ i _ => 8 - (intOf i).toNat)
  case atStart => exact ⟨0, Nat.zero_le _, rfl, by rw [H00.out]; exact HO0.out, HB0.out⟩
  case round =>
    clear HO0 HB0
    obtain ⟨k, hk, rfl, hg, hbl⟩ := hrel
    by_cases hlt : k < 8
    · have HG := Lib.hid hg
      clear hg
      have hyk := HY.out k hlt
      have hbk := HB.out k hlt
      generalize bw[k]?.getD 0 = y at *
      have HYK := Lib.hid hyk
      have HBK := Lib.hid hbk
      have hlen : (bs ++ bw.take k).length ≤ 1000000 := by have := HT.out k; rw [List.length_append]; omega
      clear hyk hbk
      have HBL := Lib.hid hbl
      have hgA := HG.out
      go_wp2_with (at_builtin; go_loud (refine wpList_grow _ rfl _ _ rfl w.heap.size _ (bs ++ bw.take k) rfl (grow_alloc (.inl HG.out) HBL.out.size (Nat.le_refl _)) wr.heap.size 1 _ rfl (World.cell?_alloc_at _ _ _ 0 rfl) hlen (by have := HBL.out.size; simp; omega) ?_; intro v' w' hown' hb'; go_frame))
      have hfin : Own w.heap.size w' v' (bs ++ bw.take (k + 1)) := by rw [HBK.out, ← HYK.out]; exact hown'
      go_roundw
      case rel => exact ⟨k + 1, by omega, by go_num, hfin, (HBL.out.alloc HBL.out.size _).trans hb'⟩
      case measure => simp [intOf]; omega
    · obtain rfl : k = 8 := by omega
      rw [HL.out] at hg
      go_wp2
      go_ret
      obtain ⟨A1, c1, h1, h2, h3, h4⟩ := own_form hg
      exact ⟨A1, c1, congrArg Ending.returned h1, h2, h3, h4, hbl⟩
end Jn
end Go.Proofs.Ytcdoalfpaldbmaa
