/- LexerMatchesReference: the walk. -/
import Derived.Test.YtiebhlmjpnhepaaDoorV4
import Derived.Test.YtiebhlmjpnhepaaDoorWI
import Derived.Test.YtiebhlmjpnhepaaDoorLB
namespace Go.Proofs.YtiebhlmjpnhepaaDoor
open Go.RowKit Sl Fr
namespace Lx
set_option linter.unusedVariables false
set_option linter.unusedSimpArgs false

theorem det_true {p : Prop} [Decidable p] (h : p) : (FSpec.det (.bool true)).G (.bool (decide p)) := congrArg Value.bool (decide_eq_true h)
theorem dep_of {F : Nat → World × World → World → Prop} {l : List Nat} {w : World} (hd : ∀ j ∈ l, ∃ p, F j p w) (j : Nat) (h : l.contains j = true) : ∃ p, F j p w := hd j (List.contains_iff_mem.1 h)
def lxS (n : Nat) (x y : Int) (ts : List Tk) : FSpec := ⟨fun v => ∃ A c, v = .agg #[.slice A n c, .int .i64 x, .int .i64 y], fun _ v wm => ∀ A c, v = .agg #[.slice A n c, .int .i64 x, .int .i64 y] → TokA wm A ts⟩
theorem lexR_small {l : By} (hl : l.length ≤ 900) : (lexR l).1.length ≤ 901 ∧ (∀ t ∈ (lexR l).1, t.at_ ≤ 100000) ∧ (joinL (textsOf (lexR l).1)).length ≤ 1000000 := by
  by_cases h : WF l
  · obtain ⟨ts, us, q, f1, f2, f3, f4, f5, f6, f7, f8⟩ := joins_facts hl h
    have h2 : (lex 0 l).2 = none := h
    have e : lex 0 l = ((lex 0 l).1, none) := by rw [← h2]
    have e2 := lexR_ok (by omega) h2
    have e3 : ts = (lex 0 l).1 := by
      rw [f1] at e2
      exact List.append_cancel_right (congrArg Prod.fst e2)
    have k3 := lex_toks _ _ _ _ e
    rw [← e3] at k3
    rw [f1]
    refine ⟨by simp; omega, fun t ht => ?_, by rw [f3]; omega⟩
    rcases List.mem_append.1 ht with ht | ht
    · have := lex_ats _ _ _ _ e t (by rw [← e3]; exact ht); omega
    · obtain rfl : t = endT l.length := by simpa using ht
      show l.length ≤ 100000
      omega
  · cases hx : (lex 0 l).2 with
    | none => exact absurd hx h
    | some e =>
      rw [lexR_bad (by omega) hx]
      exact ⟨by simp, by simp, by simp [textsOf, joinL]⟩
theorem str_neq (t : TypeId) (a : ByteArray) : binOp .neq t (.string a) (.string a) = pure (.bool false) := by simp [binOp, Op.stringOp]

set_option maxRecDepth 100000 in
set_option maxHeartbeats 12800000 in
theorem matches_walk (A : Option Addr) (l : List Nat) (c : Nat) (s0 : ByteArray) (a : Int) (w : World) (hA : BytA w A l) (hl : l.length ≤ 9223372036854775807) (hs : s0.size ≤ 9223372036854775807) (hv : Vars w) :
    Calls Tryd.prog 3 #[.slice A l.length c, .string s0, .int .i64 a] w fun e w' => e = .returned (.bool true) ∧ Below w.heap.size w w' := by
  have HE := Lib.hid (examples_any w hv)
  have HM := Lib.hid (fun W (hb : Below w.heap.size w W) => made_any A l c W (hA.keep hb) hl)
  have HC := Lib.hid (fun W (hb : Below w.heap.size w W) => clean_any A l c W (hA.keep hb) hl)
  have HX := Lib.hid (fun (s : ByteArray) (hs : s.size ≤ 281474976710656) W (hb : Below w.heap.size w W) => lexed_any s W hs (hv.keep hb))
  have HK := Lib.hid (fun (s : ByteArray) (hs : s.size ≤ 281474976710656) W (hb : Below w.heap.size w W) => kind_any s W hs (hv.keep hb))
  clear hA hl hv
  by_cases h3 : 300 < s0.size
  · have h3i : (300 : Int) < (s0.size : Int) := by omega
    go_enter Tryd.func3, Tryd.ntmps3
    go_wp2_with fail
    refine HE.out.mono ?_
    rintro e W1 ⟨rfl, b1⟩
    have B1 := Lib.hid b1
    clear b1 HE HM HX
    go_wp2_with fail
    go_ret
    exact ⟨rfl, B1.out⟩
  have hs3 : s0.size ≤ 300 := by omega
  go_enter Tryd.func3, Tryd.ntmps3
  go_wp2_with fail
  refine HE.out.mono ?_
  rintro e W1 ⟨rfl, b1⟩
  have B1 := Lib.hid b1
  clear b1 HE
  go_wp2_with fail
  refine (HM.out _ B1.out).mono ?_
  rintro e W2 ⟨t, rfl, ht, _, b2⟩
  have B2 := Lib.hid (B1.out.trans (b2.mono B1.out.size))
  clear b2 HM B1
  go_wp2_with fail
  refine (HC.out _ B2.out).mono ?_
  rintro e W3 ⟨q, rfl, hq, _, b3⟩
  have B3 := B2.out.trans (b3.mono B2.out.size)
  clear b3 HC B2
  obtain ⟨m0, bA⟩ := start1 W3 #[.string t, .string s0, .string (q ++ s0)] 9
  have B4 := Lib.hid (B3.trans (bA.mono B3.size))
  have hqs : (q ++ s0).size ≤ 900 := by rw [ByteArray.size_append]; omega
  clear bA B3
  go_upto_region 5 with fail
  generalize W3.alloc (.cells #[.string t, .string s0, .string (q ++ s0)] 9) = X at *
  generalize W3.heap.size = ab at *
  have HCELL : Hid (∀ k, k < 3 → ∃ z : ByteArray, z.size ≤ 900 ∧ X.cell? ⟨ab, k, none⟩ = some (.string z)) := Lib.hid (fun k hk => by
    obtain ⟨d0, d1, d2⟩ := m0.c3
    rcases k with _ | _ | _ | k
    · exact ⟨t, by omega, d0⟩
    · exact ⟨s0, by omega, d1⟩
    · exact ⟨q ++ s0, hqs, d2⟩
    · omega)
  have hab := m0.lt
  clear m0 hqs hq ht
  go_wp2_with fail
  go_loopw [9] (fun i W => ∃ k : Nat, i = .int .i64 (k : Int) ∧ k ≤ 3 ∧ Below X.heap.size X W) (fun i _ => 3 - (intOf i).toNat)
  case atStart => exact ⟨0, rfl, by omega, Below.refl _ _⟩
  case round =>
    obtain ⟨k, rfl, hk, hbx⟩ := hrel
    have BW := Lib.hid (B4.out.trans (hbx.mono B4.out.size))
    have HBX := Lib.hid hbx
    clear hbx
    by_cases hlt : k < 3
    · obtain ⟨z, hz, hcell⟩ := HCELL.out k hlt
      have hcw := (HBX.out.cell (p := ⟨ab, k, none⟩) hab).trans hcell
      have hk0 : (0 : Int) ≤ (k : Int) := by omega
      have hk3 : (k : Int) < 3 := by omega
      obtain ⟨p1, p2, p3⟩ := lexR_small (l := bys z) (by rw [bys_len]; exact hz)
      have P2 := Lib.hid p2
      have P3 := Lib.hid p3
      have HXZ := Lib.hid (HX.out z (by omega) wr BW.out)
      have FL0 := Lib.hid (fun W => rlex_any z W (by omega))
      have HKZ := Lib.hid (fun W hb => HK.out z (by omega) W hb)
      have HRK := Lib.hid (fun W => rKind_any z W (by omega))
      have HLZ := Lib.hid (fun W => lined_any z a W (by omega))
      have HRL := Lib.hid (fun W => rline_any z a W (by omega))
      generalize lexR (bys z) = r at *
      generalize kindOf (bys z) = kz at *
      generalize lnP z a = lz at *
      obtain ⟨ts, at_, er⟩ := r
      obtain ⟨l1, l2⟩ := lz
      simp only at p1
      have FA := Lib.hid (fun (W : World) (A1 A2 : Option Addr) (c1 c2 : Nat) (h1 : TokA W A1 ts) (h2 : TokA W A2 ts) => alike_any A1 A2 (ts, at_, er) c1 c2 W h1 h2 (by show ts.length ≤ 100000; omega) P2.out)
      have FJ := Lib.hid (fun (W : World) (A1 : Option Addr) (c1 : Nat) (h1 : TokA W A1 ts) => join_any A1 ts c1 W h1 (by omega) P3.out)
      have FM := Lib.hid (fun (W : World) (A1 : Option Addr) (c1 : Nat) (h1 : TokA W A1 ts) => rjoin_any A1 ts c1 W h1 (by omega) P3.out)
      generalize (⟨(joinL (textsOf ts)).toArray⟩ : ByteArray) = jz at *
      clear p2 p3 hcell HX HK
      go_wp2_with fail
      refine HXZ.out.mono ?_
      rintro e W5 ⟨A1, c1, rfl, _, _, hT, b5⟩
      obtain ⟨mx, b6⟩ := start1 W5 #[.slice A1 ts.length c1, .int .i64 (at_ : Int), .int .i64 (er : Int)] 29
      have hT6 := hT.arr.keep b6
      have b7 := b5.trans (b6.mono b5.size)
      have BY := Lib.hid (BW.out.trans (b7.mono BW.out.size))
      have HBY := Lib.hid (HBX.out.trans (b7.mono HBX.out.size))
      have hcy := (HBY.out.cell (p := ⟨ab, k, none⟩) hab).trans (HCELL.out k hlt).choose_spec.2
      have haby : ab < (W5.alloc (.cells #[.slice A1 ts.length c1, .int .i64 (at_ : Int), .int .i64 (er : Int)] 29)).heap.size := Nat.lt_of_lt_of_le hab HBY.out.size
      have hcz := (b7.cell (p := ⟨ab, k, none⟩) (Nat.lt_of_lt_of_le hab HBX.out.size)).trans hcw
      clear hcy hcw hT b5 b6 b7 HXZ BW HBX
      go_upto_region 9 with fail
      generalize W5.alloc (.cells #[.slice A1 ts.length c1, .int .i64 (at_ : Int), .int .i64 (er : Int)] 29) = Y at *
      generalize W5.heap.size = xb at *
      have zc : ∀ wz, Below Y.heap.size Y wz → wz.cell? ⟨ab, k, none⟩ = some (.string z) := fun wz hz => (hz.cell (p := ⟨ab, k, none⟩) haby).trans hcz
      have zx0 : ∀ wz, Below Y.heap.size Y wz → wz.cell? ⟨xb, 0, none⟩ = some (.slice A1 ts.length c1) := fun wz hz => (mx.keep hz).get (i := 0) rfl
      have zx1 : ∀ wz, Below Y.heap.size Y wz → wz.cell? ⟨xb, 1, none⟩ = some (.int .i64 (at_ : Int)) := fun wz hz => (mx.keep hz).get (i := 1) rfl
      have zx2 : ∀ wz, Below Y.heap.size Y wz → wz.cell? ⟨xb, 2, none⟩ = some (.int .i64 (er : Int)) := fun wz hz => (mx.keep hz).get (i := 2) rfl
      have F1 := fun (wz : World) (hz : Below Y.heap.size Y wz) => FL0.out wz
      have F2 := fun (wz : World) (hz : Below Y.heap.size Y wz) (A2 : Option Addr) (c2 : Nat) (h2 : TokA wz A2 ts) => FA.out wz A1 A2 c1 c2 (hT6.keep hz) h2
      have F3 := fun (wz : World) (hz : Below Y.heap.size Y wz) => HKZ.out wz (BY.out.trans (hz.mono BY.out.size))
      have F4 := fun (wz : World) (hz : Below Y.heap.size Y wz) => HRK.out wz
      have F5 := fun (wz : World) (hz : Below Y.heap.size Y wz) => HLZ.out wz
      have F6 := fun (wz : World) (hz : Below Y.heap.size Y wz) => HRL.out wz
      have F7 := fun (wz : World) (hz : Below Y.heap.size Y wz) => FJ.out wz A1 c1 (hT6.keep hz)
      have F8 := fun (wz : World) (hz : Below Y.heap.size Y wz) => FM.out wz A1 c1 (hT6.keep hz)
      clear FL0 FA HKZ HRK HLZ HRL FJ FM mx hT6 hcz haby
      refine wp_region_flow 44 [.det (.agg #[.slice A1 ts.length c1, .int .i64 ((at_ : Int)), .int .i64 ((er : Int))]), .det (.slice ((some ⟨ab, 0, none⟩)) 3 3), .det (.int .i64 ((k : Int))), .det (.pointer (some ⟨ab, k, none⟩)), .det (.string z), lxS ts.length (at_ : Int) (er : Int) ts, .det (.bool true), .det (.bool false), .det (.bool false), .det (.slice ((some ⟨ab, 0, none⟩)) 3 3), .det (.int .i64 ((k : Int))), .det (.pointer (some ⟨ab, k, none⟩)), .det (.string z), .det (.int .i64 ((kz : Int))), .det (.slice ((some ⟨ab, 0, none⟩)) 3 3), .det (.int .i64 ((k : Int))), .det (.pointer (some ⟨ab, k, none⟩)), .det (.string z), .det (.int .i64 ((kz : Int))), .det (.bool false), .det (.bool false), .det (.bool false), .det (.slice ((some ⟨ab, 0, none⟩)) 3 3), .det (.int .i64 ((k : Int))), .det (.pointer (some ⟨ab, k, none⟩)), .det (.string z), .det (.int .i64 a), .det (.agg #[.int .i64 ((l1 : Int)), .int .i64 ((l2 : Int))]), .det (.slice ((some ⟨ab, 0, none⟩)) 3 3), .det (.int .i64 ((k : Int))), .det (.pointer (some ⟨ab, k, none⟩)), .det (.string z), .det (.int .i64 a), .det (.agg #[.int .i64 ((l1 : Int)), .int .i64 ((l2 : Int))]), .det (.bool false), .det (.bool false), .det (.bool false), .det (.pointer (some ⟨xb, 0, none⟩)), .det (.slice A1 ts.length c1), .det (.string jz), .det (.pointer (some ⟨xb, 0, none⟩)), .det (.slice A1 ts.length c1), .det (.string jz), .det (.bool false)] (by kernel_rfl) (by kernel_rfl) rfl ?_
      simp only [List.take_succ_cons, List.take_zero, List.drop_succ_cons, List.drop_zero]
      refine flowL_det (fun wz hz hd => stepF_reads (by rfl) ?_) ?_
      · have p0 := zx0 wz hz; have p1 := zx1 wz hz; have p2 := zx2 wz hz; go_simp; try rfl
      simp only [Act.put, List.setIfInBounds_toArray, List.set_cons_zero, List.set_cons_succ]
      refine flowL_det (fun wz hz hd => stepF_reads (by rfl) ?_) ?_
      · go_simp; try rfl
      simp only [Act.put, List.setIfInBounds_toArray, List.set_cons_zero, List.set_cons_succ]
      refine flowL_det (fun wz hz hd => stepF_reads (by rfl) ?_) ?_
      · go_simp; try rfl
      simp only [Act.put, List.setIfInBounds_toArray, List.set_cons_zero, List.set_cons_succ]
      refine flowL_det (fun wz hz hd => stepF_reads (by rfl) ?_) ?_
      · go_simp; try rfl
      simp only [Act.put, List.setIfInBounds_toArray, List.set_cons_zero, List.set_cons_succ]
      refine flowL_det (fun wz hz hd => stepF_reads (by rfl) ?_) ?_
      · have q := zc wz hz; go_simp; try rfl
      simp only [Act.put, List.setIfInBounds_toArray, List.set_cons_zero, List.set_cons_succ]
      refine flowL_make (⟨_, none, 0, rfl⟩) (fun wz hz hd => stepF_walk (by rfl) (fun K hK => ?_)) (fun v hv => ?_)
      · go_wp2_with fail
        go_at_call 15
        refine (F1 wz hz).mono ?_
        rintro e w9 ⟨A9, c9, rfl, _, _, hr9, hb⟩
        exact hK.out _ _ ⟨A9, c9, rfl⟩ (fun A8 c8 e => by cases e; exact hr9.arr) hb
      obtain ⟨A2, c2, rfl⟩ := hv
      simp only [Act.put, List.setIfInBounds_toArray, List.set_cons_zero, List.set_cons_succ]
      refine flowL_det (fun wz hz hd => stepF_walk (by rfl) (fun K hK => ?_)) ?_
      · obtain ⟨p, hp⟩ := dep_of hd 5 (by decide +kernel)
        go_wp2_with fail
        go_at_call 14
        refine (F2 wz hz A2 c2 ((hp.post _ _ rfl).keep hp.since)).mono ?_
        rintro e w9 ⟨rfl, hb⟩
        first | exact hK.out _ _ rfl trivial hb | exact hK.out _ _ (det_true rfl) trivial hb | exact hK.out _ _ (det_true trivial) trivial hb
      simp only [Act.put, List.setIfInBounds_toArray, List.set_cons_zero, List.set_cons_succ]
      refine flowL_det (fun wz hz hd => stepF_reads (by rfl) ?_) ?_
      · go_simp; try rfl
      simp only [Act.put, List.setIfInBounds_toArray, List.set_cons_zero, List.set_cons_succ]
      refine flowL_det (fun wz hz hd => stepF_reads (by rfl) ?_) ?_
      · go_simp; try rfl
      simp only [Act.put, List.setIfInBounds_toArray, List.set_cons_zero, List.set_cons_succ]
      refine flowL_det (fun wz hz hd => stepF_reads (by rfl) ?_) ?_
      · go_simp; try rfl
      simp only [Act.put, List.setIfInBounds_toArray, List.set_cons_zero, List.set_cons_succ]
      refine flowL_det (fun wz hz hd => stepF_reads (by rfl) ?_) ?_
      · go_simp; try rfl
      simp only [Act.put, List.setIfInBounds_toArray, List.set_cons_zero, List.set_cons_succ]
      refine flowL_det (fun wz hz hd => stepF_reads (by rfl) ?_) ?_
      · go_simp; try rfl
      simp only [Act.put, List.setIfInBounds_toArray, List.set_cons_zero, List.set_cons_succ]
      refine flowL_det (fun wz hz hd => stepF_reads (by rfl) ?_) ?_
      · have q := zc wz hz; go_simp; try rfl
      simp only [Act.put, List.setIfInBounds_toArray, List.set_cons_zero, List.set_cons_succ]
      refine flowL_det (fun wz hz hd => stepF_walk (by rfl) (fun K hK => ?_)) ?_
      · go_wp2_with fail
        go_at_call 16
        refine (F3 wz hz).mono ?_
        rintro e w9 ⟨rfl, hb⟩
        exact hK.out _ _ rfl trivial hb
      simp only [Act.put, List.setIfInBounds_toArray, List.set_cons_zero, List.set_cons_succ]
      refine flowL_det (fun wz hz hd => stepF_reads (by rfl) ?_) ?_
      · go_simp; try rfl
      simp only [Act.put, List.setIfInBounds_toArray, List.set_cons_zero, List.set_cons_succ]
      refine flowL_det (fun wz hz hd => stepF_reads (by rfl) ?_) ?_
      · go_simp; try rfl
      simp only [Act.put, List.setIfInBounds_toArray, List.set_cons_zero, List.set_cons_succ]
      refine flowL_det (fun wz hz hd => stepF_reads (by rfl) ?_) ?_
      · go_simp; try rfl
      simp only [Act.put, List.setIfInBounds_toArray, List.set_cons_zero, List.set_cons_succ]
      refine flowL_det (fun wz hz hd => stepF_reads (by rfl) ?_) ?_
      · have q := zc wz hz; go_simp; try rfl
      simp only [Act.put, List.setIfInBounds_toArray, List.set_cons_zero, List.set_cons_succ]
      refine flowL_det (fun wz hz hd => stepF_walk (by rfl) (fun K hK => ?_)) ?_
      · go_wp2_with fail
        go_at_call 17
        refine (F4 wz hz).mono ?_
        rintro e w9 ⟨rfl, hb⟩
        exact hK.out _ _ rfl trivial hb
      simp only [Act.put, List.setIfInBounds_toArray, List.set_cons_zero, List.set_cons_succ]
      refine flowL_det (fun wz hz hd => stepF_reads (by rfl) ?_) ?_
      · go_simp; try rfl
      simp only [Act.put, List.setIfInBounds_toArray, List.set_cons_zero, List.set_cons_succ]
      refine flowL_det (fun wz hz hd => stepF_reads (by rfl) ?_) ?_
      · go_simp; try rfl
      simp only [Act.put, List.setIfInBounds_toArray, List.set_cons_zero, List.set_cons_succ]
      refine flowL_det (fun wz hz hd => stepF_reads (by rfl) ?_) ?_
      · go_simp; try rfl
      simp only [Act.put, List.setIfInBounds_toArray, List.set_cons_zero, List.set_cons_succ]
      refine flowL_det (fun wz hz hd => stepF_reads (by rfl) ?_) ?_
      · go_simp; try rfl
      simp only [Act.put, List.setIfInBounds_toArray, List.set_cons_zero, List.set_cons_succ]
      refine flowL_det (fun wz hz hd => stepF_reads (by rfl) ?_) ?_
      · go_simp; try rfl
      simp only [Act.put, List.setIfInBounds_toArray, List.set_cons_zero, List.set_cons_succ]
      refine flowL_det (fun wz hz hd => stepF_reads (by rfl) ?_) ?_
      · go_simp; try rfl
      simp only [Act.put, List.setIfInBounds_toArray, List.set_cons_zero, List.set_cons_succ]
      refine flowL_det (fun wz hz hd => stepF_reads (by rfl) ?_) ?_
      · have q := zc wz hz; go_simp; try rfl
      simp only [Act.put, List.setIfInBounds_toArray, List.set_cons_zero, List.set_cons_succ]
      refine flowL_det (fun wz hz hd => stepF_reads (by rfl) ?_) ?_
      · go_simp; try rfl
      simp only [Act.put, List.setIfInBounds_toArray, List.set_cons_zero, List.set_cons_succ]
      refine flowL_det (fun wz hz hd => stepF_walk (by rfl) (fun K hK => ?_)) ?_
      · go_wp2_with fail
        go_at_call 18
        refine (F5 wz hz).mono ?_
        rintro e w9 ⟨rfl, hb⟩
        exact hK.out _ _ rfl trivial hb
      simp only [Act.put, List.setIfInBounds_toArray, List.set_cons_zero, List.set_cons_succ]
      refine flowL_det (fun wz hz hd => stepF_reads (by rfl) ?_) ?_
      · go_simp; try rfl
      simp only [Act.put, List.setIfInBounds_toArray, List.set_cons_zero, List.set_cons_succ]
      refine flowL_det (fun wz hz hd => stepF_reads (by rfl) ?_) ?_
      · go_simp; try rfl
      simp only [Act.put, List.setIfInBounds_toArray, List.set_cons_zero, List.set_cons_succ]
      refine flowL_det (fun wz hz hd => stepF_reads (by rfl) ?_) ?_
      · go_simp; try rfl
      simp only [Act.put, List.setIfInBounds_toArray, List.set_cons_zero, List.set_cons_succ]
      refine flowL_det (fun wz hz hd => stepF_reads (by rfl) ?_) ?_
      · have q := zc wz hz; go_simp; try rfl
      simp only [Act.put, List.setIfInBounds_toArray, List.set_cons_zero, List.set_cons_succ]
      refine flowL_det (fun wz hz hd => stepF_reads (by rfl) ?_) ?_
      · go_simp; try rfl
      simp only [Act.put, List.setIfInBounds_toArray, List.set_cons_zero, List.set_cons_succ]
      refine flowL_det (fun wz hz hd => stepF_walk (by rfl) (fun K hK => ?_)) ?_
      · go_wp2_with fail
        go_at_call 19
        refine (F6 wz hz).mono ?_
        rintro e w9 ⟨rfl, hb⟩
        exact hK.out _ _ rfl trivial hb
      simp only [Act.put, List.setIfInBounds_toArray, List.set_cons_zero, List.set_cons_succ]
      refine flowL_det (fun wz hz hd => stepF_reads (by rfl) ?_) ?_
      · go_simp; try rfl
      simp only [Act.put, List.setIfInBounds_toArray, List.set_cons_zero, List.set_cons_succ]
      refine flowL_det (fun wz hz hd => stepF_reads (by rfl) ?_) ?_
      · go_simp; try rfl
      simp only [Act.put, List.setIfInBounds_toArray, List.set_cons_zero, List.set_cons_succ]
      refine flowL_det (fun wz hz hd => stepF_reads (by rfl) ?_) ?_
      · go_simp; try rfl
      simp only [Act.put, List.setIfInBounds_toArray, List.set_cons_zero, List.set_cons_succ]
      refine flowL_det (fun wz hz hd => stepF_reads (by rfl) ?_) ?_
      · go_simp; try rfl
      simp only [Act.put, List.setIfInBounds_toArray, List.set_cons_zero, List.set_cons_succ]
      refine flowL_det (fun wz hz hd => stepF_reads (by rfl) ?_) ?_
      · have q := zx0 wz hz; go_simp; try rfl
      simp only [Act.put, List.setIfInBounds_toArray, List.set_cons_zero, List.set_cons_succ]
      refine flowL_det (fun wz hz hd => stepF_walk (by rfl) (fun K hK => ?_)) ?_
      · go_wp2_with fail
        go_at_call 20
        refine (F7 wz hz).mono ?_
        rintro e w9 ⟨rfl, hb⟩
        exact hK.out _ _ rfl trivial hb
      simp only [Act.put, List.setIfInBounds_toArray, List.set_cons_zero, List.set_cons_succ]
      refine flowL_det (fun wz hz hd => stepF_reads (by rfl) ?_) ?_
      · go_simp; try rfl
      simp only [Act.put, List.setIfInBounds_toArray, List.set_cons_zero, List.set_cons_succ]
      refine flowL_det (fun wz hz hd => stepF_reads (by rfl) ?_) ?_
      · have q := zx0 wz hz; go_simp; try rfl
      simp only [Act.put, List.setIfInBounds_toArray, List.set_cons_zero, List.set_cons_succ]
      refine flowL_det (fun wz hz hd => stepF_walk (by rfl) (fun K hK => ?_)) ?_
      · go_wp2_with fail
        go_at_call 21
        refine (F8 wz hz).mono ?_
        rintro e w9 ⟨rfl, rfl⟩
        exact hK.out _ _ rfl trivial (Below.refl _ _)
      simp only [Act.put, List.setIfInBounds_toArray, List.set_cons_zero, List.set_cons_succ]
      refine flowL_det (fun wz hz hd => stepF_reads (by rfl) ?_) ?_
      · go_simp; try rfl
      simp only [Act.put, List.setIfInBounds_toArray, List.set_cons_zero, List.set_cons_succ]
      intro w7 ps hb7 hF hap
      clear hF hap F1 F2 F3 F4 F5 F6 F7 F8 zc zx0 zx1 zx2
      have HB7 := Lib.hid (HBY.out.trans (hb7.mono HBY.out.size))
      go_wp2_with fail
      go_roundw
      case rel => exact ⟨k + 1, by go_num, by omega, HB7.out⟩
      case measure => simp [intOf]; omega
    · have hk3 : k = 3 := by omega
      go_wp2_with fail
      go_ret
      exact ⟨rfl, BW.out⟩

end Lx
end Go.Proofs.YtiebhlmjpnhepaaDoor
