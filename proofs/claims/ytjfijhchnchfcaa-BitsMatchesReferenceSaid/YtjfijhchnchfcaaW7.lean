/- What the table's functions for the values give; Apply. -/
import Derived.Test.YtjfijhchnchfcaaW6
namespace Go.Proofs.Ytjfijhchnchfcaa
open Go.RowKit Sl Fr
namespace Bt
set_option linter.unusedVariables false
set_option linter.unusedSimpArgs false

def okA (vs ws : List Int) : Bool := decide (vs.length = ws.length) && (vs.zip ws).all fun p => isV p.1 p.2
/-- The value of an operation, 0 if it is not valid. -/
def apV (op : Int) (ws : List Int) (k n : Int) (vs : List Int) : Int := if wid op ws k n ≠ 0 ∧ okA vs ws = true then (val op.toNat ws k n (vs.map Int.toNat) : Int) else 0
def apE (op : Int) (ws : List Int) (k n : Int) (vs : List Int) : Int := if wid op ws k n ≠ 0 ∧ okA vs ws = true then 0 else 1

theorem nat_of {v a : Int} (ha : isW a = true) (hv : isV v a = true) : ∃ m b : Nat, v = (m : Int) ∧ a = (b : Int) ∧ (1 ≤ b ∧ b ≤ 8) ∧ m < 2 ^ b := by
  have h1 := isW_in ha
  obtain ⟨b, rfl⟩ := Int.eq_ofNat_of_zero_le (by omega : 0 ≤ a)
  simp only [isV, decide_eq_true_eq] at hv
  obtain ⟨m, rfl⟩ := Int.eq_ofNat_of_zero_le hv.1
  refine ⟨m, b, rfl, rfl, by omega, ?_⟩
  have h2 := hv.2
  rw [mask_cast (by omega)] at h2
  have := Nat.two_pow_pos b
  omega
theorem wid_ne {op : Nat} {ws : List Int} {k n : Int} (h : wid op ws k n ≠ 0) : ws.all isW = true ∧ isW (raw op ws k n) = true := by
  unfold wid at h
  rw [Int.toNat_natCast] at h
  by_cases hc : (ws.all isW && isW (raw op ws k n)) = true
  · simpa using hc
  · rw [if_neg hc] at h
    exact absurd rfl h
theorem isW_zero : isW 0 = false := rfl
theorem okA1 {vs : List Int} {a : Int} (h : okA vs [a] = true) : ∃ x, vs = [x] ∧ isV x a = true := by
  simp only [okA, Bool.and_eq_true, decide_eq_true_eq] at h
  obtain ⟨x, rfl⟩ := len1 (by simpa using h.1)
  exact ⟨x, rfl, by simpa using h.2⟩
theorem okA2 {vs : List Int} {a b : Int} (h : okA vs [a, b] = true) : ∃ x y, vs = [x, y] ∧ isV x a = true ∧ isV y b = true := by
  simp only [okA, Bool.and_eq_true, decide_eq_true_eq] at h
  obtain ⟨x, y, rfl⟩ := len2 (by simpa using h.1)
  exact ⟨x, y, rfl, by simpa using h.2⟩
theorem okA3 {vs : List Int} {a b d : Int} (h : okA vs [a, b, d] = true) : ∃ x y z, vs = [x, y, z] ∧ isV x a = true ∧ isV y b = true ∧ isV z d = true := by
  simp only [okA, Bool.and_eq_true, decide_eq_true_eq] at h
  obtain ⟨x, y, z, rfl⟩ := len3 (by simpa using h.1)
  exact ⟨x, y, z, rfl, by simpa using h.2⟩

/-- What the table's function for the value does. -/
theorem vF_any (op : Nat) (h : 1 ≤ op ∧ op ≤ 13) (A : Option Addr) (c : Nat) (ws : List Int) (k n : Int) (A' : Option Addr) (c' : Nat) (vs : List Int) (w : World) (hA : ArrI w A ws) (hA' : ArrI w A' vs) (hv : wid op ws k n ≠ 0) (hok : okA vs ws = true) :
    ∀ V, Below w.heap.size w V → Calls Try.prog (vF op) #[.agg #[.slice A ws.length c, .int .i64 k, .int .i64 n], .slice A' vs.length c'] V fun e w' => e = .returned (.int .i64 (val op ws k n (vs.map Int.toNat) : Int)) ∧ Below V.heap.size V w' := by
  intro V hV
  have hl : ws.length = arity op := Classical.byContradiction fun hc => hv (wid_bad hc h)
  obtain ⟨hw, hr⟩ := wid_ne hv
  replace hA := hA.keep hV
  replace hA' := hA'.keep hV
  clear hv
  rcases ops13 h with rfl | rfl | rfl | rfl | rfl | rfl | rfl | rfl | rfl | rfl | rfl | rfl | rfl
  · obtain rfl := len0 hl
    have h1 : raw 1 [] k n = if 0 ≤ k ∧ k ≤ mask n then n else 0 := rfl
    rw [h1] at hr
    have h2 : 0 ≤ k := by
      by_cases hc : 0 ≤ k ∧ k ≤ mask n
      · exact hc.1
      · rw [if_neg hc] at hr; cases hr
    obtain ⟨kk, rfl⟩ := Int.eq_ofNat_of_zero_le h2
    exact v1_any A c 0 A' c' vs.length (kk : Int) n V
  · obtain ⟨a, rfl⟩ := len1 hl
    obtain ⟨x, rfl, hv0⟩ := okA1 hok
    simp only [List.all_cons, List.all_nil, Bool.and_true, Bool.and_eq_true] at hw
    obtain ⟨m0, a0, rfl, rfl, ha0, hm0⟩ := nat_of hw hv0
    exact v2_any A c A' c' a0 m0 k n V hA hA' ha0 hm0
  · obtain ⟨a, b, rfl⟩ := len2 hl
    obtain ⟨x, y, rfl, hv0, hv1⟩ := okA2 hok
    simp only [List.all_cons, List.all_nil, Bool.and_true, Bool.and_eq_true] at hw
    obtain ⟨m0, a0, rfl, rfl, ha0, hm0⟩ := nat_of hw.1 hv0
    obtain ⟨m1, a1, rfl, rfl, ha1, hm1⟩ := nat_of hw.2 hv1
    exact v3_any A c 2 A' c' m0 m1 k n V hA' (low8 ha0.2 hm0) (low8 ha1.2 hm1)
  · obtain ⟨a, b, rfl⟩ := len2 hl
    obtain ⟨x, y, rfl, hv0, hv1⟩ := okA2 hok
    simp only [List.all_cons, List.all_nil, Bool.and_true, Bool.and_eq_true] at hw
    obtain ⟨m0, a0, rfl, rfl, ha0, hm0⟩ := nat_of hw.1 hv0
    obtain ⟨m1, a1, rfl, rfl, ha1, hm1⟩ := nat_of hw.2 hv1
    exact v4_any A c 2 A' c' m0 m1 k n V hA' (low8 ha0.2 hm0) (low8 ha1.2 hm1)
  · obtain ⟨a, b, rfl⟩ := len2 hl
    obtain ⟨x, y, rfl, hv0, hv1⟩ := okA2 hok
    simp only [List.all_cons, List.all_nil, Bool.and_true, Bool.and_eq_true] at hw
    obtain ⟨m0, a0, rfl, rfl, ha0, hm0⟩ := nat_of hw.1 hv0
    obtain ⟨m1, a1, rfl, rfl, ha1, hm1⟩ := nat_of hw.2 hv1
    exact v5_any A c 2 A' c' m0 m1 k n V hA' (low8 ha0.2 hm0) (low8 ha1.2 hm1)
  · obtain ⟨a, b, rfl⟩ := len2 hl
    obtain ⟨x, y, rfl, hv0, hv1⟩ := okA2 hok
    simp only [List.all_cons, List.all_nil, Bool.and_true, Bool.and_eq_true] at hw
    obtain ⟨m0, a0, rfl, rfl, ha0, hm0⟩ := nat_of hw.1 hv0
    obtain ⟨m1, a1, rfl, rfl, ha1, hm1⟩ := nat_of hw.2 hv1
    exact v6_any A c A' c' a0 m0 m1 a1 k n V hA hA' ha0 (low8 ha0.2 hm0) (low8 ha1.2 hm1)
  · obtain ⟨a, b, rfl⟩ := len2 hl
    obtain ⟨x, y, rfl, hv0, hv1⟩ := okA2 hok
    simp only [List.all_cons, List.all_nil, Bool.and_true, Bool.and_eq_true] at hw
    have hab : b = a := by
      have h1 : raw 7 [a, b] k n = if b = a then a else 0 := rfl
      rw [h1] at hr
      exact Classical.byContradiction fun hc => by rw [if_neg hc] at hr; cases hr
    subst hab
    obtain ⟨m0, a0, rfl, rfl, ha0, hm0⟩ := nat_of hw.1 hv0
    obtain ⟨m1, a1, rfl, ha1', ha1, hm1⟩ := nat_of hw.1 hv1
    obtain rfl : a1 = a0 := by omega
    exact v7_any A c A' c' a1 m0 m1 a1 k n V hA hA' ha0 hm0 hm1
  · obtain ⟨a, b, rfl⟩ := len2 hl
    obtain ⟨x, y, rfl, hv0, hv1⟩ := okA2 hok
    simp only [List.all_cons, List.all_nil, Bool.and_true, Bool.and_eq_true] at hw
    obtain ⟨m0, a0, rfl, rfl, ha0, hm0⟩ := nat_of hw.1 hv0
    obtain ⟨m1, a1, rfl, rfl, ha1, hm1⟩ := nat_of hw.2 hv1
    exact v8_any A c 2 A' c' m0 m1 k n V hA' (low8 ha0.2 hm0) (low8 ha1.2 hm1)
  · obtain ⟨a, b, rfl⟩ := len2 hl
    obtain ⟨x, y, rfl, hv0, hv1⟩ := okA2 hok
    simp only [List.all_cons, List.all_nil, Bool.and_true, Bool.and_eq_true] at hw
    obtain ⟨m0, a0, rfl, rfl, ha0, hm0⟩ := nat_of hw.1 hv0
    obtain ⟨m1, a1, rfl, rfl, ha1, hm1⟩ := nat_of hw.2 hv1
    exact v9_any A c 2 A' c' m0 m1 k n V hA' (low8 ha0.2 hm0) (low8 ha1.2 hm1)
  · obtain ⟨a, b, d, rfl⟩ := len3 hl
    obtain ⟨x, y, z, rfl, hv0, hv1, hv2⟩ := okA3 hok
    simp only [List.all_cons, List.all_nil, Bool.and_true, Bool.and_eq_true] at hw
    obtain ⟨m0, a0, rfl, rfl, ha0, hm0⟩ := nat_of hw.1 hv0
    obtain ⟨m1, a1, rfl, rfl, ha1, hm1⟩ := nat_of hw.2.1 hv1
    obtain ⟨m2, a2, rfl, rfl, ha2, hm2⟩ := nat_of hw.2.2 hv2
    exact v10_any A c 3 A' c' m0 m1 m2 k n V hA'
  · obtain ⟨a, b, rfl⟩ := len2 hl
    obtain ⟨x, y, rfl, hv0, hv1⟩ := okA2 hok
    simp only [List.all_cons, List.all_nil, Bool.and_true, Bool.and_eq_true] at hw
    obtain ⟨m0, a0, rfl, rfl, ha0, hm0⟩ := nat_of hw.1 hv0
    obtain ⟨m1, a1, rfl, rfl, ha1, hm1⟩ := nat_of hw.2 hv1
    exact v11_any A c A' c' a0 a1 m0 m1 k n V hA hA' ha1 (low8 ha0.2 hm0) hm1
  · obtain ⟨a, rfl⟩ := len1 hl
    obtain ⟨x, rfl, hv0⟩ := okA1 hok
    simp only [List.all_cons, List.all_nil, Bool.and_true, Bool.and_eq_true] at hw
    have h1 : raw 12 [a] k n = if 0 ≤ k ∧ k ≤ a - n then n else 0 := rfl
    rw [h1] at hr
    have hc : 0 ≤ k ∧ k ≤ a - n := Classical.byContradiction fun hc => by rw [if_neg hc] at hr; cases hr
    rw [if_pos hc] at hr
    have h3 := isW_in hr
    obtain ⟨kk, rfl⟩ := Int.eq_ofNat_of_zero_le hc.1
    obtain ⟨nn, rfl⟩ := Int.eq_ofNat_of_zero_le (by omega : 0 ≤ n)
    obtain ⟨m0, a0, rfl, rfl, ha0, hm0⟩ := nat_of hw hv0
    exact v12_any A c A' c' a0 m0 kk nn V hA hA' (low8 ha0.2 hm0) (by omega) (by omega)
  · obtain ⟨a, rfl⟩ := len1 hl
    obtain ⟨x, rfl, hv0⟩ := okA1 hok
    simp only [List.all_cons, List.all_nil, Bool.and_true, Bool.and_eq_true] at hw
    obtain ⟨m0, a0, rfl, rfl, ha0, hm0⟩ := nat_of hw hv0
    exact v13_any A c 1 A' c' m0 k n V hA'

theorem apply_num (op : Int) (S S' : Value) (A'' : Option Addr) (c'' : Nat) (L : Nat) (w : World) (h : ¬ L = 2) (hL : L ≤ maxLen) :
    Calls Try.prog 12 #[.int .i64 op, S, S', .slice A'' L c''] w fun e w' => e = .returned (.tuple #[.int .i64 0, .int .i64 1]) ∧ w = w' := by
  have e1 : ((L : Int) != 2) = true := by simp; omega
  have e2 : ((L : Int) == 2) = false := by simp; omega
  clear h
  go_enter Try.func12, Try.ntmps12
  go_wp2
  go_ret2
  exact ⟨rfl, rfl⟩

theorem field_v (n : Int) (f : Value) (g_ : FuncId) (w : World) : (Instr.field 58 (.agg #[.int .i64 n, f, .func (.func g_) #[] #[]]) 2).run Try.prog w = .ok (.func (.func g_) #[] #[]) w := by kernel_rfl
set_option maxRecDepth 100000 in
set_option maxHeartbeats 1000000 in
theorem apply_two (op : Int) (A : Option Addr) (c : Nat) (ws : List Int) (A' : Option Addr) (c' : Nat) (vs : List Int) (A'' : Option Addr) (c'' : Nat) (k n : Int) (w : World) (hA : ArrI w A ws) (hlen : ws.length ≤ maxLen) (hA' : ArrI w A' vs) (hlen' : vs.length ≤ maxLen) (hA'' : ArrI w A'' [k, n])
    (hn : -9223372036854775808 ≤ n ∧ n ≤ 9223372036854775807) :
    Calls Try.prog 12 #[.int .i64 op, .slice A ws.length c, .slice A' vs.length c', .slice A'' 2 c''] w fun e w' => e = .returned (.tuple #[.int .i64 (apV op ws k n vs), .int .i64 (apE op ws k n vs)]) ∧ Below w.heap.size w w' := by
  obtain ⟨b0, o0, hb0⟩ := hA''.open
  obtain ⟨rfl, hl0, hc0⟩ := hb0 (by simp)
  have c00 := hc0 0 k rfl
  have c01 := hc0 1 n rfl
  have d0 : ∀ p : Later w, p.val.cell? ⟨b0, o0, none⟩ = some (.int .i64 k) := fun p => (p.below.cell (p := ⟨b0, o0, none⟩) hl0).trans c00
  have d1 : ∀ p : Later w, p.val.cell? ⟨b0, o0 + 1, none⟩ = some (.int .i64 n) := fun p => (p.below.cell (p := ⟨b0, o0 + 1, none⟩) hl0).trans c01
  have D0 := Lib.hid d0
  have D1 := Lib.hid d1
  have HW := Lib.hid (fun p : Later w => width_any op A c ws k n p.val (hA.keep p.below) hlen hn)
  have HV := Lib.hid (fun W (hW : Below w.heap.size w W) => areValues_any A' vs c' A ws c W (hA'.keep hW) hlen' (hA.keep hW) hlen)
  have HX := Lib.hid (fun m h h1 h2 => vF_any m h A c ws k n A' c' vs w hA hA' h1 h2)
  have HO := Lib.hid operators_any
  clear hA'' hb0 hc0 c00 c01 hA hA' hlen hlen'
  have HL := Lib.hid hl0
  obtain ⟨r, hr⟩ : ∃ r, r = wid op ws k n := ⟨_, rfl⟩
  obtain ⟨er, her⟩ : ∃ er, er = err r := ⟨_, rfl⟩
  rw [← hr, ← her] at HW
  have HR := Lib.hid hr
  have HER := Lib.hid her
  clear hr her
  go_enter Try.func12, Try.ntmps12
  go_upto_region 3 with fail
  refine wp_region_later (by kernel_rfl) (by kernel_rfl) ?_
  repeat (go_big_quiet_step ((go_at_call 10; with_reducible exact later_of (HW.out _))))
  refine wpQuiet_nil ?_
  intro _ hw'
  obtain ⟨z, hw''⟩ := hw'
  subst hw''
  have B1 := z.below
  clear d0 d1 HW
  generalize z.val = W1 at *
  by_cases h0 : r = 0
  · have hq : er = 1 := by rw [HER.out, h0]; rfl
    have HE : Hid (apV op ws k n vs = 0 ∧ apE op ws k n vs = 1) := Lib.hid ⟨if_neg fun h => h.1 (by rw [← HR.out, h0]), if_neg fun h => h.1 (by rw [← HR.out, h0])⟩
    clear HER h0 HX HV
    subst hq
    go_wp2_with fail
    go_ret2
    refine ⟨?_, B1⟩
    rw [HE.out.1, HE.out.2]
    rfl
  have hq : er = 0 := by rw [HER.out]; exact if_neg h0
  have hw0 : Hid (wid op ws k n ≠ 0) := Lib.hid (by rw [← HR.out]; exact h0)
  have hop : 1 ≤ op ∧ op ≤ 13 := Classical.byContradiction fun h => hw0.out (wid_out h)
  obtain ⟨m, rfl⟩ := Int.eq_ofNat_of_zero_le (by omega : 0 ≤ op)
  have hm13 : 1 ≤ m ∧ m ≤ 13 := by omega
  clear HER h0 hop
  subst hq
  have hv := HV.out W1 B1
  rw [show (decide (vs.length = ws.length) && (vs.zip ws).all fun p => isV p.1 p.2) = okA vs ws from rfl] at hv
  by_cases hk : okA vs ws = true
  · rw [hk] at hv
    have HE : Hid (apV (m : Int) ws k n vs = (val m ws k n (vs.map Int.toNat) : Int) ∧ apE (m : Int) ws k n vs = 0) := Lib.hid ⟨if_pos ⟨hw0.out, hk⟩, if_pos ⟨hw0.out, hk⟩⟩
    have HX2 := Lib.hid (HX.out m hm13 hw0.out hk)
    have HI := fun w => op_ix m hm13 w
    have HN := fun args w => vF_enters m hm13 args w
    have BB := Lib.hid B1
    clear HX HV hk hm13 B1
    go_upto_region 6 with (go_at_call 32; refine hv.mono ?_; rintro e w' ⟨rfl, rfl⟩)
    have d0 : ∀ p : Later W1, p.val.cell? ⟨b0, o0, none⟩ = some (.int .i64 k) := fun p => D0.out ⟨p.val, BB.out.trans (p.below.mono BB.out.size)⟩
    have d1 : ∀ p : Later W1, p.val.cell? ⟨b0, o0 + 1, none⟩ = some (.int .i64 n) := fun p => D1.out ⟨p.val, BB.out.trans (p.below.mono BB.out.size)⟩
    have HX3 := Lib.hid (fun p : Later W1 => HX2.out p.val (BB.out.trans (p.below.mono BB.out.size)))
    have HF := fun w => field_v (arity m : Int) (.func (.func (wF m)) #[] #[]) (vF m) w
    generalize (val m ws k n (vs.map Int.toNat) : Int) = x at *
    generalize opsV = oz at *
    generalize (arity m : Int) = ar at *
    generalize wF m = wf at *
    generalize vF m = vf at *
    clear HX2 hv
    refine wp_region_later (by kernel_rfl) (by kernel_rfl) ?_
    repeat (go_big_quiet_step ((first | (go_at_call 27; with_reducible exact later_of (HO.out.at _)) | (with_reducible exact later_of (HX3.out _)))))
    refine wpQuiet_nil ?_
    intro _ hw'
    obtain ⟨z2, hw''⟩ := hw'
    subst hw''
    have B2 := BB.out.trans (z2.below.mono BB.out.size)
    clear d0 d1 HX3 HI HN HF
    go_wp2_with fail
    go_ret2
    refine ⟨?_, B2⟩
    rw [HE.out.1, HE.out.2]
    rfl
  · have hk' : okA vs ws = false := by simpa using hk
    rw [hk'] at hv
    have HE : Hid (apV (m : Int) ws k n vs = 0 ∧ apE (m : Int) ws k n vs = 1) := Lib.hid ⟨if_neg fun h => hk h.2, if_neg fun h => hk h.2⟩
    clear HX HV hk hk' hm13
    go_wp2_with (go_at_call 32; refine hv.mono ?_; rintro e w' ⟨rfl, rfl⟩)
    go_ret2
    refine ⟨?_, B1⟩
    rw [HE.out.1, HE.out.2]
    rfl

def apNV (op : Int) (ws vs num : List Int) : Int := match num with
  | [k, n] => apV op ws k n vs
  | _ => 0
def apNE (op : Int) (ws vs num : List Int) : Int := match num with
  | [k, n] => apE op ws k n vs
  | _ => 1
theorem apN_not {op : Int} {ws vs num : List Int} (h : ¬ num.length = 2) : apNV op ws vs num = 0 ∧ apNE op ws vs num = 1 := by
  match num, h with
  | [], _ => exact ⟨rfl, rfl⟩
  | [_], _ => exact ⟨rfl, rfl⟩
  | [_, _], h => exact absurd rfl h
  | _ :: _ :: _ :: _, _ => exact ⟨rfl, rfl⟩
theorem apply_any (op : Int) (A : Option Addr) (c : Nat) (ws : List Int) (A' : Option Addr) (c' : Nat) (vs : List Int) (A'' : Option Addr) (c'' : Nat) (num : List Int) (w : World) (hA : ArrI w A ws) (hlen : ws.length ≤ maxLen) (hA' : ArrI w A' vs) (hlen' : vs.length ≤ maxLen) (hA'' : ArrI w A'' num) (hlen'' : num.length ≤ maxLen)
    (hn : ∀ x ∈ num, -9223372036854775808 ≤ x ∧ x ≤ 9223372036854775807) :
    Calls Try.prog 12 #[.int .i64 op, .slice A ws.length c, .slice A' vs.length c', .slice A'' num.length c''] w fun e w' => e = .returned (.tuple #[.int .i64 (apNV op ws vs num), .int .i64 (apNE op ws vs num)]) ∧ Below w.heap.size w w' := by
  by_cases h : num.length = 2
  · obtain ⟨k, n, rfl⟩ := len2 h
    exact apply_two op A c ws A' c' vs A'' c'' k n w hA hlen hA' hlen' hA'' (hn n (by simp))
  · have := apply_num op (.slice A ws.length c) (.slice A' vs.length c') A'' c'' num.length w h hlen''
    rw [(apN_not h).1, (apN_not h).2]
    refine this.mono ?_
    rintro e w' ⟨rfl, rfl⟩
    exact ⟨rfl, Below.refl _ _⟩

end Bt
end Go.Proofs.Ytjfijhchnchfcaa
