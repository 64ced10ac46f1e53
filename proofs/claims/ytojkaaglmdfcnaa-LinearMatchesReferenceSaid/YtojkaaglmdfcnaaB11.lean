/- The reference's sums of fractions: the walk. -/
import Derived.Test.YtojkaaglmdfcnaaB10
import Derived.Deep.DeepCutAuto
namespace Go.Proofs.Ytojkaaglmdfcnaa
open Go.RowKit Sl
namespace Fr
set_option linter.unusedVariables false

theorem HasB.alloc {w : World} {v : Value} {n k : Nat} (h : HasB w v n k) (o : Obj) : HasB (w.alloc o) v n k := h.keep ((Below.refl _ w).alloc (Nat.le_refl _) o)
theorem Args3.far {w W : World} {a b c d e f g : Value} {B : Nat} (h : Args3 w W a b c d e f g) (h0 : w.heap.size + 1 + 1 < B) (u v : Value) : Args3 w ((W.setCell ⟨B, 0, none⟩ u).setCell ⟨B, 1, none⟩ v) a b c d e f g :=
  ⟨(h.a.far (by omega) _).far (by omega) _, (h.b.far (by omega) _).far (by omega) _, (h.r.far (by omega) _).far (by omega) _, below_set2 h.below (by omega) u v⟩
theorem HasB.far {W : World} {v : Value} {n k B : Nat} (h : HasB W v n k) (hB : ∀ g c, v = .slice (some ⟨g, 0, none⟩) k c → B < g) (u u' : Value) : HasB ((W.setCell ⟨B, 0, none⟩ u).setCell ⟨B, 1, none⟩ u') v n k := by
  obtain ⟨g, c, rfl, hc, hg, hI⟩ := h
  have := hB g c rfl
  exact ⟨g, c, rfl, hc, by simpa using hg, (hI.far (by omega) _).far (by omega) _⟩

/-- The sum behind the statement that makes it. -/
def SumAt (n : Bool) (x : Nat) (w : World) (a b c d e f g : Value) (v6 : Value) (wx : World) : Prop :=
  ∃ B v k, v6 = .pointer (some ⟨B, 0, none⟩) ∧ Box2 wx B (.bool n) v ∧ HasB wx v x k ∧ Tight x k ∧ Args3 w wx a b c d e f g ∧ w.heap.size + 1 + 1 < B
theorem sumAt_set {n : Bool} {x k B : Nat} {w W : World} {a b c d e f g v u u' : Value} (X : Box2 W B u u') (H : HasB W v x k) (T : Tight x k) (A : Args3 w W a b c d e f g) (hB : w.heap.size + 1 + 1 < B) (hn : ∀ g c, v = .slice (some ⟨g, 0, none⟩) k c → B < g) :
    SumAt n x w a b c d e f g (.pointer (some ⟨B, 0, none⟩)) ((W.setCell ⟨B, 0, none⟩ (.bool n)).setCell ⟨B, 1, none⟩ v) :=
  ⟨B, v, k, rfl, X.set _ _, H.far hn _ _, T, A.far hB _ _, hB⟩
theorem sumAt_new {n : Bool} {x k : Nat} {w W : World} {a b c d e f g v : Value} (H : HasB W v x k) (T : Tight x k) (A : Args3 w W a b c d e f g) :
    SumAt n x w a b c d e f g (.pointer (some ⟨W.heap.size, 0, none⟩)) (W.alloc (.cells #[.bool n, v] 118)) :=
  ⟨W.heap.size, v, k, rfl, Box2.new W _ _ _, H.alloc _, T, A.alloc _, A.r.lt⟩

theorem field_r (g k c : Nat) (r : Int) (w : World) : (Instr.field 126 (.agg #[.slice (some ⟨g, 0, none⟩) k c, .int .i64 r]) 1).run Try.prog w = .ok (.int .i64 r) w := by kernel_rfl
theorem field_q (g k c : Nat) (r : Int) (w : World) : (Instr.field 126 (.agg #[.slice (some ⟨g, 0, none⟩) k c, .int .i64 r]) 0).run Try.prog w = .ok (.slice (some ⟨g, 0, none⟩) k c) w := by kernel_rfl
attribute [local go_sem] field_r field_q

set_option maxRecDepth 100000 in
set_option maxHeartbeats 8000000 in
theorem radd_walk (aN bN : Int) (p q : Nat) (w : World) (h1 : aN.natAbs ≤ 4611686018427387904) (h2 : p ≤ 4611686018427387904) (h3 : bN.natAbs ≤ 4611686018427387904) (h4 : q ≤ 4611686018427387904) (hp : 0 < p) (hq : 0 < q) (N D E : Int)
    (hres : ∀ (n : Bool) (x : Nat), sval n x = aN * ((q / Nat.gcd p q : Nat) : Int) + bN * ((p / Nat.gcd p q : Nat) : Int) → (x = 0 → N = 0 ∧ D = 1 ∧ E = 0) ∧ (x ≠ 0 → let h := Nat.gcd (x % Nat.gcd p q) (Nat.gcd p q); mdN n (x / h) ((p / Nat.gcd p q) * (q / h)) = N ∧ mdD (x / h) ((p / Nat.gcd p q) * (q / h)) = D ∧ mdE (x / h) ((p / Nat.gcd p q) * (q / h)) = E)) :
    Calls Try.prog 61 #[.agg #[.int .i64 aN, .int .i64 (p : Int)], .agg #[.int .i64 bN, .int .i64 (q : Int)]] w (RetR N D E w) := by
  have HG := Lib.hid (fun W => rgcd_any p q W (by omega) (by omega))
  have hg0 : 0 < Nat.gcd p q := Nat.gcd_pos_of_pos_right _ hq
  have hgq : Nat.gcd p q ≤ q := Nat.gcd_le_right _ hq
  generalize Nat.gcd p q = g at *
  obtain ⟨p', ep, lp, ep2, ep3⟩ := quo_nat p g h2 hg0
  obtain ⟨q', eq, lq, eq2, eq3⟩ := quo_nat q g h4 hg0
  rw [ep, eq] at hres
  have HP1 := Lib.hid (fun W => rproduct_any aN (q' : Int) W h1 (by omega))
  have HP2 := Lib.hid (fun W => rproduct_any bN (p' : Int) W h3 (by omega))
  have hv := sum_val (decide (aN < 0) != decide ((q' : Int) < 0)) (decide (bN < 0) != decide ((p' : Int) < 0)) (aN.natAbs * (q' : Int).natAbs) (bN.natAbs * (p' : Int).natAbs)
  rw [prod_val, prod_val] at hv
  have hr := hres _ _ hv
  have hxb : sumX (decide (aN < 0) != decide ((q' : Int) < 0)) (decide (bN < 0) != decide ((p' : Int) < 0)) (aN.natAbs * (q' : Int).natAbs) (bN.natAbs * (p' : Int).natAbs) < 2 ^ 130 := by
    have h5 := Nat.mul_le_mul h1 (show (q' : Int).natAbs ≤ 4611686018427387904 by omega)
    have h6 := Nat.mul_le_mul h3 (show (p' : Int).natAbs ≤ 4611686018427387904 by omega)
    unfold sumX
    split
    · exact Nat.lt_of_le_of_lt (Nat.add_le_add h5 h6) (by decide)
    · split
      · exact Nat.lt_of_le_of_lt (Nat.le_trans (Nat.sub_le _ _) h5) (by decide)
      · exact Nat.lt_of_le_of_lt (Nat.le_trans (Nat.sub_le _ _) h6) (by decide)
  have hT1 : ∀ k, Tight (aN.natAbs * (q' : Int).natAbs) k → k ≤ 500 := fun k hT => by
    have h5 := Nat.mul_le_mul h1 (show (q' : Int).natAbs ≤ 4611686018427387904 by omega)
    have := hT.le (m := 130) (Nat.lt_of_le_of_lt h5 (by decide))
    omega
  have hT2 : ∀ k, Tight (bN.natAbs * (p' : Int).natAbs) k → k ≤ 500 := fun k hT => by
    have h5 := Nat.mul_le_mul h3 (show (p' : Int).natAbs ≤ 4611686018427387904 by omega)
    have := hT.le (m := 130) (Nat.lt_of_le_of_lt h5 (by decide))
    omega
  have HT1 := Lib.hid hT1
  have HT2 := Lib.hid hT2
  have HSM : Hid (∀ W v u k l, _) := Lib.hid (fun W v u k l => rsum_any (decide (aN < 0) != decide ((q' : Int) < 0)) (decide (bN < 0) != decide ((p' : Int) < 0)) (aN.natAbs * (q' : Int).natAbs) (bN.natAbs * (p' : Int).natAbs) v u k l W)
  clear hv hT1 hT2 hres ep
  have eqq := eq
  clear eq
  generalize sumN (decide (aN < 0) != decide ((q' : Int) < 0)) (decide (bN < 0) != decide ((p' : Int) < 0)) (aN.natAbs * (q' : Int).natAbs) (bN.natAbs * (p' : Int).natAbs) = n at *
  generalize sumX (decide (aN < 0) != decide ((q' : Int) < 0)) (decide (bN < 0) != decide ((p' : Int) < 0)) (aN.natAbs * (q' : Int).natAbs) (bN.natAbs * (p' : Int).natAbs) = x at *
  have HR := Lib.hid hr
  have HXB := Lib.hid hxb
  clear hr hxb
  generalize (aN.natAbs * (q' : Int).natAbs) = x1 at *
  generalize (bN.natAbs * (p' : Int).natAbs) = x2 at *
  generalize (decide (aN < 0) != decide ((q' : Int) < 0)) = s1 at *
  generalize (decide (bN < 0) != decide ((p' : Int) < 0)) = s2 at *
  have A0 := Args3.start w (.int .i64 aN) (.int .i64 (p : Int)) (.int .i64 bN) (.int .i64 (q : Int)) (.int .i64 0) (.int .i64 0) (.int .i64 0) 23 23 51
  have a1 := A0.a.c1
  have b1 := A0.b.c1
  have a0 := A0.a.c0
  have b0 := A0.b.c0
  have hg3 : ¬ g = 0 := by omega
  go_enter Try.func61, Try.ntmps61
  go_wp2_with fail
  refine (HG.out _).mono ?_
  rintro e w' ⟨rfl, rfl⟩
  go_wp2_with fail
  generalize ((w.alloc (.cells #[.int .i64 aN, .int .i64 (p : Int)] 23)).alloc (.cells #[.int .i64 bN, .int .i64 (q : Int)] 23)).alloc (.cells #[.int .i64 0, .int .i64 0, .int .i64 0] 51) = W1 at *
  have HA := Lib.hid A0
  have HD := Lib.hid (A0.keep (Below.refl _ _).drew)
  have hrl := A0.r.lt
  clear A0 HG
  have qw1 : IntKind.i64.wrap (q' : Int) = (q' : Int) := IntWalk.i64_in _ (by omega)
  have pw1 : IntKind.i64.wrap (p' : Int) = (p' : Int) := IntWalk.i64_in _ (by omega)
  go_cut [6] (fun v6 wx => SumAt n x w (.int .i64 aN) (.int .i64 (p : Int)) (.int .i64 bN) (.int .i64 (q : Int)) (.int .i64 0) (.int .i64 0) (.int .i64 0) v6 wx)
  case first => as_aux_lemma =>
    go_region_held3 (fun w' => w'.cell? ⟨w.heap.size, 0, none⟩ = some (.int .i64 aN) ∧ w'.cell? ⟨w.heap.size, 1, none⟩ = some (.int .i64 (p : Int)) ∧ w'.cell? ⟨w.heap.size + 1, 0, none⟩ = some (.int .i64 bN) ∧ w'.cell? ⟨w.heap.size + 1, 1, none⟩ = some (.int .i64 (q : Int)))
      (first | exact ⟨A7.a.c0, A7.a.c1, A7.b.c0, A7.b.c1⟩ | exact ⟨(A7.alloc _).a.c0, (A7.alloc _).a.c1, (A7.alloc _).b.c0, (A7.alloc _).b.c1⟩ | exact ⟨(A7.far (by omega) _ _).a.c0, (A7.far (by omega) _ _).a.c1, (A7.far (by omega) _ _).b.c0, (A7.far (by omega) _ _).b.c1⟩ | exact ⟨A6.a.c0, A6.a.c1, A6.b.c0, A6.b.c1⟩ | exact ⟨(A6.alloc _).a.c0, (A6.alloc _).a.c1, (A6.alloc _).b.c0, (A6.alloc _).b.c1⟩ | exact ⟨A5.a.c0, A5.a.c1, A5.b.c0, A5.b.c1⟩ | exact ⟨(A5.alloc _).a.c0, (A5.alloc _).a.c1, (A5.alloc _).b.c0, (A5.alloc _).b.c1⟩ | go_keep)
      (first
        | (go_at_call_of 84 (Value.int .i64 aN); refine (HP1.out _).mono ?_; rintro e w5 ⟨v5, k5, rfl, hh5, hT5, hb5, hn5⟩; have A5 := (by first | exact HD.out.keep hb5 | exact (HD.out.alloc _).keep hb5 | exact ((HA.out.alloc _).keep (Below.refl _ _).drew).keep hb5 : Args3 w w5 _ _ _ _ _ _ _); have l5 := A5.r.lt; (try have X5 := (Box2.new _ (.bool false) (.slice none 0 0) 118).keep hb5); (try have X5 := ((Box2.new _ (.bool false) (.slice none 0 0) 118).keep (Below.refl _ _).drew).keep hb5); have H5 := Lib.hid hh5; have T5 := Lib.hid hT5; clear hh5 hT5 hn5)
        | (go_at_call_of 84 (Value.int .i64 bN); refine (HP2.out _).mono ?_; rintro e w6 ⟨v6, k6, rfl, hh6, hT6, hb6, hn6⟩; have A6 := (by first | exact A5.keep hb6 | exact (A5.alloc _).keep hb6 : Args3 w w6 _ _ _ _ _ _ _); have l6 := A6.r.lt; (try have X6 := X5.keep hb6); (try have X6 := (Box2.new _ (.bool false) (.slice none 0 0) 118).keep hb6); have H56 := Lib.hid (by first | exact H5.out.keep hb6 | exact (H5.out.alloc _).keep hb6 : HasB w6 v5 x1 k5); have H6 := Lib.hid hh6; have T6 := Lib.hid hT6; clear hh6 hT6 hn6)
        | (go_at_call 85; refine (HSM.out _ v5 v6 k5 k6 (by first | exact H56.out | exact H56.out.alloc _) (by first | exact H6.out | exact H6.out.alloc _) T5.out T6.out (HT1.out k5 T5.out) (HT2.out k6 T6.out)).mono ?_; rintro e w7 ⟨v7, k7, rfl, ⟨g7, c7, rfl, hc7, hg7, hI7⟩, hT7, hb7, hn7⟩; have A7 := (by first | exact A6.keep hb7 | exact (A6.alloc _).keep hb7 : Args3 w w7 _ _ _ _ _ _ _); (try have X7 := X6.keep hb7); (try have X7 := (Box2.new _ (.bool false) (.slice none 0 0) 118).keep hb7); (try have z0 := X7.c0); (try have z1 := X7.c1); (try have u0 := X7.f0); (try have u1 := X7.f1); have H7 : Hid (HasB w7 (.slice (some ⟨g7, 0, none⟩) k7 c7) x k7) := Lib.hid ⟨g7, c7, rfl, hc7, hg7, hI7⟩; have T7 := Lib.hid hT7; have hB7 := hn7 _ _ _ rfl; (try have lx := X6.lt); clear hI7 hT7 hc7 hn7))
    all_goals
      go_wp2_with fail
      go_meet
      first
        | exact sumAt_new H7.out T7.out A7
        | exact sumAt_set X7 H7.out T7.out A7 (by omega) (fun g' c' e => by
            have hg : g7 = g' := by injection e with e1; injection e1 with e1; injection e1
            have := X7.lt
            (try simp only [World.size_alloc] at hB7)
            omega)
  case rest => as_aux_lemma =>
    obtain ⟨B, v, k, rfl, hbox, hH, hT, hA, hB⟩ := hcut
    clear a0 a1 b0 b1 HA HD hrl HP1 HP2 HSM HT1 HT2
    obtain ⟨gv, cv, rfl, hcv, hgv, hIv⟩ := hH
    have HBX := Lib.hid hbox
    have HAC := Lib.hid hA
    have HIV := Lib.hid hIv
    have HTX := Lib.hid hT
    have t0 := hbox.c0
    have t1 := hbox.c1
    have hk5 : k ≤ 500 := by have := hT.le HXB.out; omega
    by_cases hz : k = 0
    · obtain ⟨e1, e2, e3⟩ := HR.out.1 (hT.zero.2 hz)
      have z1 : ((k : Int) == 0) = true := by simp [hz]
      have r0 := hA.r.c0
      have r1 := hA.r.c1
      have r2 := hA.r.c2
      have q0 := hA.r.f0
      have q1 := hA.r.f1
      have q2 := hA.r.f2
      have HN := Lib.hid (hA.r.set (.int .i64 0) (.int .i64 1) (.int .i64 0))
      have HE := Lib.hid (And.intro e1 (And.intro e2 e3))
      clear hbox hA hIv hT hz e1 e2 e3 HR
      go_wp2_with fail
      have c0 := HN.out.c0
      have c1 := HN.out.c1
      have c2 := HN.out.c2
      clear r0 r1 r2 q0 q1 q2 t0 t1
      refine bodyPost_ret (v := .agg #[.int .i64 0, .int .i64 1, .int .i64 0]) (by simp [results, Try.results61, go_sem, c0, c1, c2]) rfl ?_
      obtain ⟨e1, e2, e3⟩ := HE.out
      exact ⟨by rw [e1, e2, e3], below_set3 HAC.out.below (by omega) _ _ _⟩
    · have hres := HR.out.2 (fun e => hz (hT.zero.1 e))
      have z1 : ((k : Int) == 0) = false := by simp [hz]
      have hh0 : 0 < Nat.gcd (x % g) g := Nat.gcd_pos_of_pos_right _ hg0
      have hhg : Nat.gcd (x % g) g ≤ g := Nat.gcd_le_right _ hg0
      have hmg : x % g < g := Nat.mod_lt _ hg0
      have HDV := Lib.hid (divide_bits (some ⟨gv, 0, none⟩) x k cv g wc hIv hT.1 hk5 hg0 (by omega))
      have HGC := Lib.hid (fun W => rgcd_any (x % g) g W (by omega) (by omega))
      generalize hxm : x % g = m at *
      generalize Nat.gcd m g = h at *
      obtain ⟨q2, eq4, lq2, eq5, eq6⟩ := quo_nat q h h4 hh0
      rw [eq4] at hres
      have HDH := Lib.hid (fun W (hW : Below wc.heap.size wc W) => divide_bits (some ⟨gv, 0, none⟩) x k cv h W (hIv.keep hW) hT.1 hk5 hh0 (by omega))
      have HB1 := Lib.hid (fun W => bits_any p' W (by omega))
      have HB2 := Lib.hid (fun W => bits_any q2 W (by omega))
      have hTl : ∀ (x : Nat), x ≤ 4611686018427387904 → ∀ k, Tight x k → k ≤ 100 := fun x hx k hT => by have := hT.le (m := 63) (by omega); omega
      have HT1 := Lib.hid (hTl p' lp)
      have HT2 := Lib.hid (hTl q2 lq2)
      have hT3 : ∀ k, Tight (x / h) k → k ≤ 500 := fun k hT => by
        have := hT.le (m := 130) (Nat.lt_of_le_of_lt (Nat.div_le_self _ _) HXB.out)
        omega
      have hT4 : ∀ k, Tight (p' * q2) k → k ≤ 500 := fun k hT => by
        have h5 := Nat.mul_le_mul lp lq2
        have := hT.le (m := 130) (Nat.lt_of_le_of_lt h5 (by decide))
        omega
      have HT3 := Lib.hid hT3
      have HT4 := Lib.hid hT4
      have HRES := Lib.hid hres
      have w3 : IntKind.i64.wrap (p' : Int) = (p' : Int) := IntWalk.i64_in _ (by omega)
      have w4 : IntKind.i64.wrap (q2 : Int) = (q2 : Int) := IntWalk.i64_in _ (by omega)
      have hh3 : ¬ h = 0 := by omega
      have HXM := Lib.hid hxm
      clear hTl hT3 hT4 hres hbox hA hIv hT hz HR eq4 hxm
      go_wp2_with fail
      refine HDV.out.mono ?_
      rintro e wd ⟨vd, kd, rfl, ⟨gd, cd, rfl, hcd, hgd, hId⟩, hTd, hbd, hnd⟩
      rw [HXM.out]
      have HAD := Lib.hid (HAC.out.keep hbd)
      have HBD := Lib.hid (HBX.out.keep hbd)
      have HWD := Lib.hid hbd
      clear hId hTd hbd hnd hcd hgd t0 t1
      go_wp2_with fail
      refine (HGC.out _).mono ?_
      rintro e w' ⟨rfl, rfl⟩
      go_wp2_with fail
      have HA2 := Lib.hid (HAD.out.keep (Below.refl _ _).drew)
      have HB2X := Lib.hid (HBD.out.keep (Below.refl _ _).drew)
      have HW2 := Lib.hid (HWD.out.trans ((Below.refl _ wd).drew.mono HWD.out.size))
      have t0 := HBD.out.c0
      have t1 := HBD.out.c1
      have x1 := HAD.out.a.c1
      have y1 := HAD.out.b.c1
      go_region_held3 (fun w' => w'.cell? ⟨B, 0, none⟩ = some (.bool n) ∧ w'.cell? ⟨B, 1, none⟩ = some (.slice (some ⟨gv, 0, none⟩) k cv) ∧ w'.cell? ⟨w.heap.size, 1, none⟩ = some (.int .i64 (p : Int)) ∧ w'.cell? ⟨w.heap.size + 1, 1, none⟩ = some (.int .i64 (q : Int)))
        (first | exact ⟨X9.c0, X9.c1, A9.a.c1, A9.b.c1⟩ | exact ⟨(((X9.far (by omega) _).far (by omega) _).far (by omega) _).c0, (((X9.far (by omega) _).far (by omega) _).far (by omega) _).c1, (((A9.a.far (by omega) _).far (by omega) _).far (by omega) _).c1, (((A9.b.far (by omega) _).far (by omega) _).far (by omega) _).c1⟩ | exact ⟨X8.c0, X8.c1, A8.a.c1, A8.b.c1⟩ | exact ⟨X7.c0, X7.c1, A7.a.c1, A7.b.c1⟩ | exact ⟨X6.c0, X6.c1, A6.a.c1, A6.b.c1⟩ | exact ⟨X5.c0, X5.c1, A5.a.c1, A5.b.c1⟩ | go_keep)
        (first
          | (go_at_call 90; refine (HDH.out _ HW2.out).mono ?_; rintro e w5 ⟨v5, k5, rfl, ⟨g5, c5, rfl, hc5, hg5, hI5⟩, hT5, hb5, hn5⟩; have A5 := HA2.out.keep hb5; have X5 := HB2X.out.keep hb5; have H5 : Hid (HasB w5 (.slice (some ⟨g5, 0, none⟩) k5 c5) (x / h) k5) := Lib.hid ⟨g5, c5, rfl, hc5, hg5, hI5⟩; have T5 := Lib.hid hT5; clear hI5 hc5 hT5 hn5)
          | (go_at_call_of 89 (Value.int .i64 (p' : Int)); refine (HB1.out _).mono ?_; rintro e w6 ⟨v6, k6, rfl, hh6, hT6, hb6, hn6⟩; have A6 := A5.keep hb6; have X6 := X5.keep hb6; have H56 := Lib.hid (H5.out.keep hb6); have H6 := Lib.hid hh6; have T6 := Lib.hid hT6; clear hh6 hT6 hn6)
          | (go_at_call_of 89 (Value.int .i64 (q2 : Int)); refine (HB2.out _).mono ?_; rintro e w7 ⟨v7, k7, rfl, hh7, hT7, hb7, hn7⟩; have A7 := A6.keep hb7; have X7 := X6.keep hb7; have H57 := Lib.hid (H56.out.keep hb7); obtain ⟨g6, c6, rfl, hc6, hg6, hI6⟩ := H6.out.keep hb7; obtain ⟨g7, c7, rfl, hc7, hg7, hI7⟩ := hh7; have HTM := Lib.hid (times_bits g6 p' q2 k6 k7 c6 c7 (some ⟨g7, 0, none⟩) w7 hI6 hI7 T6.out.1 hT7.1 (HT1.out k6 T6.out) (HT2.out k7 hT7)); clear hI6 hI7 hT7 hn7)
          | (go_at_call 88; refine HTM.out.mono ?_; rintro e w8 ⟨v8, k8, rfl, hh8, hT8, hb8, hn8⟩; have A8 := A7.keep hb8; have X8 := X7.keep hb8; have HMD := Lib.hid (rmade_any n (x / h) (p' * q2) (.slice (some ⟨g5, 0, none⟩) k5 c5) v8 k5 k8 w8 (H57.out.keep hb8) hh8 T5.out hT8 (HT3.out k5 T5.out) (HT4.out k8 hT8)); clear hh8 hT8 hn8)
          | (go_at_call 87; refine HMD.out.mono ?_; rintro e w9 ⟨rfl, hb9⟩; have A9 := A8.keep hb9; have X9 := X8.keep hb9; have r0 := A9.r.c0; have r1 := A9.r.c1; have r2 := A9.r.c2; have q0 := A9.r.f0; have q1 := A9.r.f1; have qf2 := A9.r.f2))
      all_goals
        have HN := Lib.hid (A9.r.set (.int .i64 (mdN n (x / h) (p' * q2))) (.int .i64 (mdD (x / h) (p' * q2))) (.int .i64 (mdE (x / h) (p' * q2))))
        have HB9 := Lib.hid A9.below
        clear r0 r1 r2 q0 q1 qf2 A9 X9
        go_wp2_with fail
        have c0 := HN.out.c0
        have c1 := HN.out.c1
        have c2 := HN.out.c2
        refine bodyPost_ret (v := .agg #[.int .i64 (mdN n (x / h) (p' * q2)), .int .i64 (mdD (x / h) (p' * q2)), .int .i64 (mdE (x / h) (p' * q2))]) (by simp [results, Try.results61, go_sem, c0, c1, c2]) rfl ?_
        obtain ⟨e1, e2, e3⟩ := HRES.out
        exact ⟨by rw [e1, e2, e3], below_set3 HB9.out (by omega) _ _ _⟩

end Fr
end Go.Proofs.Ytojkaaglmdfcnaa
