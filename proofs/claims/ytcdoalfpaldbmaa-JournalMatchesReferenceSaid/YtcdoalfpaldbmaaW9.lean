/- Bytes appended: a slice that is the call's own, or one that came in and has no room behind it. -/
import Derived.Test.YtcdoalfpaldbmaaW8
import Derived.Deep.Onto
import Derived.Lib.LazyBuf
namespace Go.Proofs.Ytcdoalfpaldbmaa
open Go.RowKit Sl Fr Dg
namespace Jn
set_option linter.unusedVariables false

/-- The cells lie in a block below base. -/
def ArrB (w : World) (base : Nat) (A : Option Addr) (vs : List Value) : Prop :=
  vs ≠ [] → ∃ b o, A = some ⟨b, o, none⟩ ∧ b < base ∧ b < w.heap.size ∧ ∀ j u, vs[j]? = some u → w.cell? ⟨b, o + j, none⟩ = some u
theorem ArrB.arr {w : World} {base : Nat} {A : Option Addr} {vs : List Value} (h : ArrB w base A vs) : Arr w A vs := fun hne => by
  obtain ⟨b, o, e, _, hlt, hc⟩ := h hne; exact ⟨b, o, e, hlt, hc⟩
theorem ArrB.keep {w w' : World} {base : Nat} {A : Option Addr} {vs : List Value} (h : ArrB w base A vs) (hb : Below base w w') : ArrB w' base A vs := fun hne => by
  obtain ⟨b, o, e, hlt, hlt', hc⟩ := h hne
  exact ⟨b, o, e, hlt, Nat.lt_of_lt_of_le hlt' hb.size, fun j u hu => (hb.cell (p := ⟨b, o + j, none⟩) hlt).trans (hc j u hu)⟩
theorem Sl.Arr.low {w : World} {base : Nat} {A : Option Addr} {vs : List Value} (h : Arr w A vs) (hb : w.heap.size ≤ base) : ArrB w base A vs := fun hne => by
  obtain ⟨b, o, e, hlt, hc⟩ := h hne; exact ⟨b, o, e, by omega, hlt, hc⟩
theorem ArrB.nil (w : World) (base : Nat) (A : Option Addr) : ArrB w base A [] := fun h => absurd rfl h

def Grow (base : Nat) (w : World) (v : Value) (xs : List Int) : Prop :=
  w.ownsRow base 5 1 v xs.length (u8s xs) ∨ ∃ A, v = .slice A xs.length xs.length ∧ ArrB w base A (u8s xs) ∧ (A = none → xs = [])
/-- A row of the call's own. -/
def Own (base : Nat) (w : World) (v : Value) (xs : List Int) : Prop := w.ownsRow base 5 1 v xs.length (u8s xs)

theorem below_own {base : Nat} {w w' : World} {e : TypeId} {size : Nat} {v : Value} {n : Nat} {vs : List Value} (h : w.ownsRow base e size v n vs) (hg : w.grownBy w' v.ownBlock) (hb : base ≤ w.heap.size) : Below base w w' :=
  (Below.refl base w).grown hg hb (row_own h)

theorem add_lit0 (b o j : Nat) : (⟨b, o, none⟩ : Addr).add j = ⟨b, o + j, none⟩ := by
  rcases Nat.eq_zero_or_pos j with hj | hj
  · subst hj; rfl
  · simp [Addr.add, Nat.ne_of_gt hj]

theorem wpList_grow (w : World) {ops : Array Oper} {rest : List Oper} {o : Oper} {a : Act} {Q : Exit → Act → World → Prop} (hgd : o.guard = none) (s x : Operand)
    (ho : o.op = .call { callee := .builtin .append, args := #[s, x], argTypes := #[22, 22] }) (base : Nat) (v : Value) (xs : List Int) (hs : a.eval s = v) (hown : Grow base w v xs) (N : Nat) (c : Nat) (y : Int) (hx : a.eval x = .slice (some ⟨N, 0, none⟩) 1 c)
    (hc : w.cell? ⟨N, 0, none⟩ = some (.int .u8 y)) (h63 : xs.length ≤ 1000000) (hbase : base ≤ w.heap.size)
    (h : ∀ v' w', Own base w' v' (xs ++ [y]) → Below base w w' → wpList Try.prog ops Q rest (a.put o.dst v') w') : wpList Try.prog ops Q (o :: rest) a w := by
  obtain ⟨i0, hi, hz0, hz1, hz2⟩ := info_parts infoByte
  have hnews : ∀ j u, [Value.int .u8 y][j]? = some u → w.cell? ((⟨N, 0, none⟩ : Addr).add j) = some u := fun j u hu => by
    have hj := (List.getElem?_eq_some_iff.1 hu).1
    have : j = 0 := by simpa using hj
    subst this
    rw [add_lit0]; rw [hc]; simpa using hu
  have he : u8s xs ++ [Value.int .u8 y] = u8s (xs ++ [y]) := by simp [u8s]
  have hl : (xs ++ [y]).length = xs.length + 1 := by simp
  rcases hown with hown | ⟨A, rfl, hA, hn⟩
  · refine wpList_append_own (w := w) hgd s x 22 ho base 5 i0 (.int .u8 0) 1 1 Try.underlying22 hi hz0 hz1 hz2 rfl (by decide) v xs.length (u8s xs) hs hown ⟨N, 0, none⟩ 1 c [.int .u8 y] hx rfl hnews (by simp [Value.oneCell']) (by unfold maxLen; omega) (by omega) hbase ?_
    intro v' w' h1 h2 _
    refine h v' w' ?_ (below_own hown h2 hbase)
    unfold Own
    rw [hl, ← he]; exact h1
  · refine wpList_append_grows w hgd s x 22 ho 5 i0 (.int .u8 0) 1 1 Try.underlying22 hi hz0 hz1 hz2 rfl (by decide) A xs.length xs.length (u8s xs) hs (fun e => by rw [hn e]; exact ⟨rfl, rfl⟩) (by rw [u8s_length]; omega) (fun b hb j u hu => ?_) ⟨N, 0, none⟩ 1 c [.int .u8 y] hx rfl hnews (by simp [Value.oneCell']) (by omega) (by unfold maxLen; omega) (by omega) ?_
    · obtain ⟨b', o', e, _, _, hc'⟩ := hA (by intro e; rw [e] at hu; simp at hu)
      rw [hb] at e
      cases e
      rw [add_lit0]; exact hc' j u hu
    · intro v' w' h1 h2
      refine h v' w' ?_ ((Below.refl base w).grown h2 hbase (fun k e => by cases e))
      unfold Own
      rw [hl, ← he]
      exact World.ownsRow.mono h1 hbase

theorem grow_keep {base : Nat} {w w' : World} {v : Value} {xs : List Int} (h : Grow base w v xs) (hb : Below w.heap.size w w') (hbase : base ≤ w.heap.size) : Grow base w' v xs := by
  rcases h with h | ⟨A, h1, h2, h3⟩
  · exact .inl (row_keep h hb)
  · exact .inr ⟨A, h1, h2.keep (hb.mono hbase), h3⟩
theorem grow_alloc {base n : Nat} {w : World} {v : Value} {xs : List Int} {o : Obj} (h : Grow base w v xs) (h1 : n ≤ w.heap.size) (h2 : base ≤ n) : Grow base (w.alloc o) v xs := grow_keep h ((Below.refl _ w).alloc (Nat.le_refl _) _) (Nat.le_trans h2 h1)

theorem byte_at (wv : Int) (hw : Dg.R wv) (k : Nat) (hk : k < 8) : wv / 2 ^ (8 * k) % 256 = (bytesW wv)[k]?.getD 0 := by
  unfold bytesW
  rw [bytesN_get 8 wv k hk, Option.getD_some]
  have : ((256 : Int) ^ k) = 2 ^ (8 * k) := by rw [pow256]; simp
  rw [this]

set_option maxHeartbeats 1000000 in
theorem appendWord_any (base : Nat) (v : Value) (xs : List Int) (wv : Int) (w : World) (hv : Grow base w v xs) (hw : Dg.R wv) (hl : xs.length ≤ 900000) (hbase : base ≤ w.heap.size) :
    Calls Try.prog 46 #[v, .int .u64 wv] w fun e w' => ∃ v', e = .returned v' ∧ Own base w' v' (xs ++ bytesW wv) ∧ Below base w w' := by
  have hb : ∀ k, k < 8 → xs ++ (bytesW wv).take (k + 1) = (xs ++ (bytesW wv).take k) ++ [(bytesW wv)[k]?.getD 0] := fun k hk => by
    have : k < (bytesW wv).length := by rw [bytesW_length]; exact hk
    rw [List.take_succ_eq_append_getElem this, List.append_assoc, List.getElem?_eq_getElem this, Option.getD_some]
  have hby : ∀ k, k < 8 → wv / 2 ^ (8 * k) % 256 = (bytesW wv)[k]?.getD 0 := fun k hk => byte_at wv hw k hk
  have hall : xs ++ (bytesW wv).take 8 = xs ++ bytesW wv := by rw [List.take_of_length_le (by rw [bytesW_length]; exact Nat.le_refl _)]
  have htl : ∀ k, ((bytesW wv).take k).length ≤ 8 := fun k => by rw [List.length_take, bytesW_length]; omega
  have HB := Lib.hid hb
  have HY := Lib.hid hby
  have HL := Lib.hid hall
  have HT := Lib.hid htl
  have HV := Lib.hid hv
  have hw0 := hw.1
  clear hb hby hall hv htl
  generalize bytesW wv = bw at *
  go_enter Try.func46, Try.ntmps46
  go_wp2
  go_loopw [0, 6] (fun g i wr => ∃ k : Nat, k ≤ 8 ∧ i = .int .i64 k ∧ (Grow base wr g (xs ++ bw.take k) ∧ (k = 8 → Own base wr g (xs ++ bw.take k))) ∧ Below base w wr) (fun _ i _ => 8 - (intOf i).toNat)
  case atStart => exact ⟨0, Nat.zero_le _, rfl, ⟨by simpa using HV.out, fun h => by cases h⟩, Below.refl _ _⟩
  case round =>
    obtain ⟨k, hk, rfl, ⟨hg, hg8⟩, hbl⟩ := hrel
    by_cases hlt : k < 8
    · have HG := Lib.hid hg
      clear hg hg8
      have hyk := HY.out k hlt
      have hbk := HB.out k hlt
      generalize bw[k]?.getD 0 = y at *
      have HYK := Lib.hid hyk
      have HBK := Lib.hid hbk
      have hlen : (xs ++ bw.take k).length ≤ 1000000 := by have := HT.out k; rw [List.length_append]; omega
      clear hyk hbk
      have HBL := Lib.hid hbl
      have hgA := HG.out
      go_wp2_with (at_builtin; go_loud (refine wpList_grow _ rfl _ _ rfl base _ (xs ++ bw.take k) rfl (grow_alloc HG.out HBL.out.size hbase) wr.heap.size 1 _ rfl (World.cell?_alloc_at _ _ _ 0 rfl) hlen (by have := HBL.out.size; simp; omega) ?_; intro v' w' hown' hb'; go_frame))
      have hfin : Own base w' v' (xs ++ bw.take (k + 1)) := by rw [HBK.out, ← HYK.out]; exact hown'
      go_roundw
      case rel => exact ⟨k + 1, by omega, by go_num, ⟨.inl hfin, fun _ => hfin⟩, (HBL.out.alloc (Nat.le_trans hbase HBL.out.size) _).trans hb'⟩
      case measure => simp [intOf]; omega
    · obtain rfl : k = 8 := by omega
      have h8 := hg8 rfl
      rw [HL.out] at h8
      clear hg hg8
      go_wp2
      go_ret
      exact ⟨_, rfl, h8, hbl⟩

theorem own_len {base : Nat} {w : World} {v : Value} {xs : List Int} (h : Own base w v xs) : ∃ A c, v = .slice A xs.length c ∧ xs.length ≤ c ∧ ArrF w base A (u8s xs) := by
  obtain ⟨A, c, h1, h2, _, h4, _⟩ := row_forms h
  exact ⟨A, c, h1, h2, h4⟩

/-- The encoding as far as k elements are appended. -/
def encTo (key : Int) (r : List Int) (k : Nat) : List Int := bytesW (r.length : Int) ++ (bytesW (tagI key [(r.length : Int)]) ++ flatW ((r.take k).map IntKind.u64.wrap))
theorem encTo_0 (key : Int) (r : List Int) : bytesW (r.length : Int) ++ bytesW (tagI key [(r.length : Int)]) = encTo key r 0 := by simp [encTo, flatW]
theorem encTo_succ (key : Int) (r : List Int) (k : Nat) (hk : k < r.length) : encTo key r k ++ bytesW (IntKind.u64.wrap (r[k]?.getD 0)) = encTo key r (k + 1) := by
  unfold encTo
  rw [List.take_succ_eq_append_getElem hk, List.map_append, flatW_append, List.getElem?_eq_getElem hk]
  simp [flatW]
theorem encTo_all (key : Int) (r : List Int) : encTo key r r.length ++ bytesW (tagI key r) = enc key r := by
  unfold encTo enc wordsE
  rw [List.take_length, flatW_cons, flatW_cons, flatW_append]
  simp [flatW]
theorem encTo_length (key : Int) (r : List Int) (k : Nat) : (encTo key r k).length ≤ 16 + 8 * r.length := by
  unfold encTo
  rw [List.length_append, List.length_append, bytesW_length, bytesW_length, flatW_length, List.length_map, List.length_take]
  omega

set_option maxHeartbeats 2000000 in
theorem appendRecord_any (base : Nat) (v : Value) (xs r : List Int) (A : Option Addr) (c : Nat) (key : Int) (w : World) (hv : Grow base w v xs) (hA : ArrB w base A (i64s r)) (hr : OkR r) (hl : xs.length ≤ 100000) (hbase : base ≤ w.heap.size) :
    Calls Try.prog 39 #[v, .int .u64 key, .slice A r.length c] w fun e w' => ∃ v', e = .returned v' ∧ Own base w' v' (xs ++ enc key r) ∧ Below base w w' := by
  have hrl := hr.1
  have hel := encTo_length key r
  have HA := Lib.hid hA
  have HEL := Lib.hid hel
  have hw1 := appendWord_any base v xs (r.length : Int) w hv (R_len hrl) (by omega) hbase
  clear hel hA hv
  go_enter Try.func39, Try.ntmps39
  have hcv : IntKind.u64.wrap (r.length : Int) = (r.length : Int) := by rw [IntKind.wrap_u64]; omega
  go_upto_region 2 with (go_at_call 46; refine hw1.mono ?_; rintro e w1 ⟨v1, rfl, ho1, hb1⟩)
  have HO1 := Lib.hid ho1
  have HB1 := Lib.hid hb1
  clear ho1 hw1
  have htag := tag_one key (r.length : Int) w1
  have htr := Lib.hid (tagI_range key [(r.length : Int)])
  generalize htv : tagI key [(r.length : Int)] = tv at *
  have HTV := Lib.hid htv
  clear htv
  go_upto_region 3 with (first
    | (go_at_call 24; refine htag.mono ?_; rintro e w2 ⟨rfl, hb2⟩; have hb2' := Lib.hid (((Below.refl w1.heap.size w1).alloc (Nat.le_refl _) (.cells #[.int .i64 (r.length : Int)] 3)).trans (hb2.mono (by simp))))
    | (go_at_call 46; refine (appendWord_any base v1 (xs ++ bytesW (r.length : Int)) tv w2 (grow_keep (.inl HO1.out) hb2'.out (Nat.le_trans hbase HB1.out.size)) htr.out (by rw [List.length_append, bytesW_length]; omega) (Nat.le_trans (Nat.le_trans hbase HB1.out.size) hb2'.out.size)).mono ?_; rintro e w3 ⟨v3, rfl, ho3, hb3⟩))
  have hbt := HB1.out.trans ((hb2'.out.mono (Nat.le_trans hbase HB1.out.size)).trans hb3)
  have hst : Own base w3 v3 (xs ++ encTo key r 0) := by
    rw [← encTo_0, HTV.out, ← List.append_assoc]; exact ho3
  have HB3 := Lib.hid hbt
  have HST := Lib.hid hst
  have hA3 := Lib.hid (HA.out.keep hbt)
  clear ho3 hst hb3 hb2 hb2' hb1 HO1 HB1 htag htr HTV
  go_wp2
  go_loopw [0, 23] (fun g i wr => ∃ k : Nat, k ≤ r.length ∧ i = .int .i64 k ∧ Own base wr g (xs ++ encTo key r k) ∧ Below base w wr) (fun _ i _ => r.length - (intOf i).toNat)
  case atStart => exact ⟨0, Nat.zero_le _, rfl, HST.out, HB3.out⟩
  case round =>
    obtain ⟨k, hk, rfl, hg, hbl⟩ := hrel
    have HG := Lib.hid hg
    have HBL := Lib.hid hbl
    have hAr := HA.out.keep hbl
    have hlen : (xs ++ encTo key r k).length ≤ 900000 := by have := HEL.out k; rw [List.length_append]; omega
    clear hg
    by_cases hlt : k < r.length
    · obtain ⟨b, o, rfl, _, _, hc⟩ := hAr (by intro e; have := congrArg List.length e; rw [i64s_length] at this; simp at this; rw [this] at hlt; simp at hlt)
      have hck : wr.cell? ⟨b, o + k, none⟩ = some (.int .i64 (r[k]?.getD 0)) := hc k _ (by unfold i64s; rw [List.getElem?_map, List.getElem?_eq_getElem hlt]; rfl)
      have hs := encTo_succ key r k hlt
      generalize r[k]?.getD 0 = x at hck hs
      have hcx : IntKind.u64.wrap x = x % 18446744073709551616 := IntKind.wrap_u64 x
      rw [hcx] at hs
      have hwx := appendWord_any base u0 (xs ++ encTo key r k) (x % 18446744073709551616) wr (.inl HG.out) (by rw [← hcx]; exact wrap_R x) hlen (Nat.le_trans hbase HBL.out.size)
      have HS := Lib.hid hs
      clear hc hs hcx hAr
      go_wp2_with (go_at_call 46; refine hwx.mono ?_; rintro e w5 ⟨v5, rfl, ho5, hb5⟩)
      have hfin : Own base w5 v5 (xs ++ encTo key r (k + 1)) := by rw [← HS.out, ← List.append_assoc]; exact ho5
      go_roundw
      case rel => exact ⟨k + 1, by omega, by go_num, hfin, HBL.out.trans hb5⟩
      case measure => simp [intOf]; omega
    · obtain rfl : k = r.length := by omega
      have htag := tag_any key A r c wr (by omega) hAr.arr
      have htr := tagI_range key r
      have HEA := Lib.hid (encTo_all key r)
      generalize tagI key r = tv at *
      have hww : ∀ W, Below wr.heap.size wr W → Calls Try.prog 46 #[u0, .int .u64 tv] W fun e w' => ∃ v', e = .returned v' ∧ Own base w' v' ((xs ++ encTo key r r.length) ++ bytesW tv) ∧ Below base W w' := fun W hW =>
        appendWord_any base u0 _ tv W (grow_keep (.inl HG.out) hW (Nat.le_trans hbase HBL.out.size)) htr hlen (Nat.le_trans (Nat.le_trans hbase HBL.out.size) hW.size)
      have HWW := Lib.hid hww
      clear hww hAr
      go_wp2_with (first
        | (go_at_call 24; refine htag.mono ?_; rintro e w5 ⟨rfl, hb5⟩)
        | (go_at_call 46; refine (HWW.out _ hb5).mono ?_; rintro e w6 ⟨v6, rfl, ho6, hb6⟩))
      go_ret
      refine ⟨_, rfl, ?_, HBL.out.trans ((hb5.mono (Nat.le_trans hbase HBL.out.size)).trans hb6)⟩
      rw [List.append_assoc, HEA.out] at ho6
      exact ho6

def GiveB (w : World) (bs : List Int) (e : Ending) (w' : World) : Prop :=
  ∃ A c, e = .returned (.slice A bs.length c) ∧ bs.length ≤ c ∧ (A = none → bs = [] ∧ c = 0) ∧ ArrF w' w.heap.size A (u8s bs) ∧ Below w.heap.size w w'
theorem own_form {base : Nat} {w : World} {v : Value} {xs : List Int} (h : Own base w v xs) : ∃ A c, v = .slice A xs.length c ∧ xs.length ≤ c ∧ (A = none → xs = [] ∧ c = 0) ∧ ArrF w base A (u8s xs) := by
  obtain ⟨A, c, h1, h2, _, h4, _⟩ := row_forms h
  refine ⟨A, c, h1, h2, fun e => ?_, h4⟩
  subst h1 e
  rcases h.2 with ⟨h5, h6⟩ | ⟨g, cap, cur, h5, _⟩
  · injection h5 with _ _ h7
    exact ⟨List.eq_nil_of_length_eq_zero h6, h7⟩
  · injection h5 with h6; cases h6

set_option maxHeartbeats 2000000 in
theorem clone_any (A : Option Addr) (bs : List Int) (c : Nat) (w : World) (hA : Byt w A bs) (hn : A = none → bs = [] ∧ c = 0) (hl : bs.length ≤ 1000000) :
    Calls Try.prog 31 #[.slice A bs.length c] w (GiveB w bs) := by
  obtain ⟨i0, hi, hz0, hz1, hz2⟩ := info_parts infoByte
  have HA := Lib.hid hA
  clear hA
  go_enter Try.func31, Try.ntmps31
  cases A with
  | none =>
    obtain ⟨rfl, rfl⟩ := hn rfl
    have hq : ∀ W : World, (binOp .eql 22 (.slice none 0 0) (.slice none 0 0)).run Try.prog W = .ok (.bool true) W := fun W => run_eql_slice_nil W _ _ _ _ _ Try.underlying22
    go_wp2
    go_ret
    exact ⟨none, 0, rfl, by simp, fun _ => ⟨rfl, rfl⟩, fun h => absurd rfl h, Below.refl _ _⟩
  | some ad =>
    have hq : ∀ W : World, (binOp .eql 22 (.slice (some ad) bs.length c) (.slice none 0 0)).run Try.prog W = .ok (.bool false) W := fun W => run_eql_slice_nil W _ _ _ _ _ Try.underlying22
    have hbA := (Below.refl w.heap.size w).alloc (Nat.le_refl _) (.cells #[] 5)
    have hcell : ∀ j u, (u8s bs)[j]? = some u → (w.alloc (.cells #[] 5)).cell? (ad.add j) = some u := fun j u hu => by
      obtain ⟨b', o', e, _, hc'⟩ := (HA.out.keep hbA) (by intro e; rw [e] at hu; simp at hu)
      cases e
      rw [add_lit0]; exact hc' j u hu
    have hown0 : (w.alloc (.cells #[] 5)).ownsRow w.heap.size 5 1 (.slice (some ⟨w.heap.size, 0, none⟩) 0 0) 0 [] :=
      ⟨rfl, .inr ⟨w.heap.size, 0, #[], rfl, Nat.le_refl _, World.alloc_heap_new w _, Nat.le_refl _, Nat.zero_le _, rfl, rfl⟩⟩
    go_wp2_with (at_builtin; go_loud (refine wpList_append_own (w := w.alloc (.cells #[] 5)) rfl _ _ 22 rfl w.heap.size 5 i0 (.int .u8 0) 1 1 Try.underlying22 hi hz0 hz1 hz2 rfl (by decide) _ 0 [] rfl hown0 ad bs.length c (u8s bs) rfl (by rw [u8s_length]; omega) hcell (by simp [u8s, Value.oneCell']) (by unfold maxLen; omega) (by omega) (by simp) ?_; intro v' w' hown' hg' _; go_frame))
    go_ret
    have hb' : Below w.heap.size w w' := hbA.grown hg' hbA.size (fun k e => by cases e; exact Nat.le_refl _)
    rw [Nat.zero_add, List.nil_append] at hown'
    obtain ⟨A', c', h1, h2, h3, h4⟩ := own_form hown'
    exact ⟨A', c', congrArg Ending.returned h1, h2, h3, h4, hb'⟩

theorem Byt.take {w : World} {A : Option Addr} {bs : List Int} (h : Byt w A bs) (n : Nat) : Byt w A (bs.take n) := fun hne => by
  obtain ⟨b, o, e, hlt, hc⟩ := h (by intro e; apply hne; unfold u8s at e ⊢; rw [List.map_take, e]; simp)
  exact ⟨b, o, e, hlt, fun j u hu => hc j u (by unfold u8s at hu ⊢; rw [List.map_take] at hu; rw [List.getElem?_take] at hu; split at hu; exact hu; cases hu)⟩

set_option maxHeartbeats 2000000 in
theorem cut_any (A : Option Addr) (bs : List Int) (c : Nat) (n : Int) (w : World) (hA : Byt w A bs) (hn : A = none → bs = [] ∧ c = 0) (hl : bs.length ≤ 1000000) (hc : bs.length ≤ c) (hni : I64 n) :
    Calls Try.prog 20 #[.slice A bs.length c, .int .i64 n] w (GiveB w (bs.take n.toNat)) := by
  have hcl := clone_any A (bs.take n.toNat) c w (hA.take _) (fun e => by obtain ⟨h1, h2⟩ := hn e; exact ⟨by rw [h1]; simp, h2⟩) (by rw [List.length_take]; omega)
  have hlen : (((bs.take n.toNat).length : Nat) : Int) = max 0 (min n bs.length) := by rw [List.length_take]; omega
  generalize bs.take n.toNat = ys at *
  clear hA
  unfold I64 at hni
  by_cases h1 : (bs.length : Int) < n
  · by_cases hz : 0 < bs.length
    · obtain hy : ys.length = bs.length := by omega
      rw [hy] at hcl
      have HCL := Lib.hid hcl
      clear hcl hlen hy
      go_enter Try.func20, Try.ntmps20
      go_wp2_with (go_at_call 31; refine HCL.out.mono ?_; rintro e w1 ⟨A', c', rfl, hg⟩)
      go_ret
      exact ⟨A', c', rfl, hg⟩
    · obtain rfl : bs = [] := List.eq_nil_of_length_eq_zero (by omega)
      obtain hy : ys.length = 0 := by simp only [List.length_nil] at hlen; omega
      rw [hy] at hcl
      have HCL := Lib.hid hcl
      clear hcl hlen hy hz
      simp only [List.length_nil] at *
      go_enter Try.func20, Try.ntmps20
      go_wp2_with (go_at_call 31; refine HCL.out.mono ?_; rintro e w1 ⟨A', c', rfl, hg⟩)
      go_ret
      exact ⟨A', c', rfl, hg⟩
  · by_cases h2 : n ≤ 0
    · obtain hy : ys.length = 0 := by omega
      rw [hy] at hcl
      have HCL := Lib.hid hcl
      clear hcl hlen hy
      go_enter Try.func20, Try.ntmps20
      go_wp2_with (go_at_call 31; refine HCL.out.mono ?_; rintro e w1 ⟨A', c', rfl, hg⟩)
      go_ret
      exact ⟨A', c', rfl, hg⟩
    · obtain ⟨m, rfl⟩ := Int.eq_ofNat_of_zero_le (show 0 ≤ n by omega)
      obtain hy : ys.length = m := by omega
      rw [hy] at hcl
      have HCL := Lib.hid hcl
      clear hcl hlen hy
      go_enter Try.func20, Try.ntmps20
      go_wp2_with (go_at_call 31; refine HCL.out.mono ?_; rintro e w1 ⟨A', c', rfl, hg⟩)
      go_ret
      exact ⟨A', c', rfl, hg⟩
end Jn
end Go.Proofs.Ytcdoalfpaldbmaa
