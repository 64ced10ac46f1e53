/- LexerConcatenates. -/
import Derived.Test.YtiebhlmjpnhepaaDoorWH
namespace Go.Proofs.YtiebhlmjpnhepaaDoor
open Go.RowKit Sl Fr
namespace Lx
set_option linter.unusedVariables false
set_option linter.unusedSimpArgs false

theorem lex_ats : ∀ (ts : List Tk) (l : By) (a : Nat) (e : Option Nat), lex a l = (ts, e) → ∀ t ∈ ts, t.at_ ≤ a + l.length
  | [], l, a, e, h, t, ht => by cases ht
  | u :: r, l, a, e, h, t, ht => by
    obtain ⟨d, h1, h2, h3, h4, h5, h6⟩ := (lex_first _ a).1 u r e h
    rcases List.mem_cons.1 ht with rfl | ht
    · omega
    · have := lex_ats r _ _ e h6 t ht
      rw [List.length_drop] at this
      omega
theorem TokA.take {w : World} {A : Option Addr} {ts : List Tk} (h : TokA w A ts) (n : Nat) : TokA w A (ts.take n) := fun hne => by
  have hts : tkVs ts ≠ [] := by
    intro h0
    have h1 := congrArg List.length h0
    rw [tkVs_length, List.length_nil] at h1
    have : ts = [] := List.eq_nil_of_length_eq_zero (by omega)
    subst this
    exact hne (by simp [tkVs])
  obtain ⟨b, o, e, hlt, hc⟩ := h hts
  refine ⟨b, o, e, hlt, fun j u hu => hc j u ?_⟩
  have e2 : tkVs ts = tkVs (ts.take n) ++ tkVs (ts.drop n) := by rw [← tkVs_append, List.take_append_drop]
  rw [e2, List.getElem?_append_left (get_lt hu)]
  exact hu
theorem TokA.drop {w : World} {b o : Nat} {ts : List Tk} (h : TokA w (some ⟨b, o, none⟩) ts) {n : Nat} (hn : n ≤ ts.length) : TokA w (some ⟨b, o + n * 3, none⟩) (ts.drop n) := fun hne => by
  have e2 : tkVs ts = tkVs (ts.take n) ++ tkVs (ts.drop n) := by rw [← tkVs_append, List.take_append_drop]
  have hts : tkVs ts ≠ [] := by
    intro h0
    rw [h0] at e2
    have h1 := congrArg List.length e2
    rw [List.length_append, List.length_nil] at h1
    exact hne (List.eq_nil_of_length_eq_zero (by omega))
  obtain ⟨b', o', e, hlt, hc⟩ := h hts
  injection e with e
  injection e with q1 q2
  subst q1 q2
  refine ⟨b, o + n * 3, rfl, hlt, fun j u hu => ?_⟩
  have hl : (tkVs (ts.take n)).length = n * 3 := by rw [tkVs_length, List.length_take, Nat.min_eq_left hn]
  have := hc (n * 3 + j) u (by rw [e2, List.getElem?_append_right (by omega), hl, show n * 3 + j - n * 3 = j by omega]; exact hu)
  rwa [← Nat.add_assoc] at this
theorem end_shift (n k : Nat) : shiftT k (endT n) = endT (n + k) := rfl
/-- Two files with a line feed between them. -/
theorem conc_bad1 {s t : By} (hs : s.length ≤ 600) (ht : t.length ≤ 600) {e : Nat} (h : (lex 0 s).2 = some e) : lexR s = ([], e, 5) ∧ lexR (s ++ 10 :: t) = ([], e, 5) :=
  ⟨lexR_bad (by omega) h, lexR_bad (by simp; omega) (lex_more (.inr rfl) t s 0 e h)⟩
theorem conc_bad2 {s t : By} (hs : s.length ≤ 600) (ht : t.length ≤ 600) (hw : WF s) {e : Nat} (h : (lex 0 t).2 = some e) : e ≤ 600 ∧ lexR t = ([], e, 5) ∧ lexR (s ++ 10 :: t) = ([], e + s.length + 1, 5) := by
  have h1 := lex_before t 0 e h
  refine ⟨by omega, lexR_bad (by omega) h, lexR_bad (by simp; omega) ?_⟩
  rw [lex_lf t s 0 hw]
  show (lex (0 + s.length + 1) t).2 = _
  rw [lex_err, h]
  simp
  omega
theorem conc_ok {s t : By} (hs : s.length ≤ 600) (ht : t.length ≤ 600) (hw : WF s) (hv : WF t) : ∃ ts us : List Tk, lexR s = (ts ++ [endT s.length], 0, 0) ∧ lexR t = (us ++ [endT t.length], 0, 0) ∧
    lexR (s ++ 10 :: t) = (ts ++ (us ++ [endT t.length]).map (shiftT (s.length + 1)), 0, 0) ∧ ts.length ≤ 600 ∧ us.length ≤ 600 ∧ (∀ x ∈ ts, x.at_ ≤ 600) ∧ ∀ x ∈ us ++ [endT t.length], x.at_ ≤ 600 := by
  have e1 : lex 0 s = ((lex 0 s).1, none) := by rw [← show (lex 0 s).2 = none from hw]
  have e2 : lex 0 t = ((lex 0 t).1, none) := by rw [← show (lex 0 t).2 = none from hv]
  obtain ⟨_, k2⟩ := lex_sum _ _ _ _ e1
  obtain ⟨_, k4⟩ := lex_sum _ _ _ _ e2
  refine ⟨(lex 0 s).1, (lex 0 t).1, lexR_ok (by omega) hw, lexR_ok (by omega) hv, ?_, by omega, by omega, fun x hx => by have := lex_ats _ _ _ _ e1 x hx; omega, fun x hx => ?_⟩
  · have h3 := lex_lf t s 0 hw
    rw [lexR_ok (by simp; omega) (by rw [h3]; exact lex_wf.2 hv), h3]
    show (((lex 0 s).1 ++ (lex (0 + s.length + 1) t).1) ++ [endT (s ++ 10 :: t).length], 0, 0) = _
    rw [lex_at (0 + s.length + 1) t, List.map_append, List.map_cons, List.map_nil, end_shift, List.append_assoc]
    have e4 : (s ++ 10 :: t).length = t.length + (s.length + 1) := by simp; omega
    rw [e4, show 0 + s.length + 1 = s.length + 1 by omega]
  · rcases List.mem_append.1 hx with hx | hx
    · have := lex_ats _ _ _ _ e2 x hx; omega
    · simp at hx; subst hx; exact ht

set_option maxRecDepth 100000 in
set_option maxHeartbeats 8000000 in
theorem conc_walk (A : Option Addr) (l : List Nat) (c : Nat) (B : Option Addr) (m : List Nat) (d : Nat) (cl : Bool) (w : World) (hA : BytA w A l) (hl : l.length ≤ 9223372036854775807) (hB : BytA w B m) (hm : m.length ≤ 9223372036854775807) (hv : Vars w) :
    Calls Tryd.prog 6 #[.slice A l.length c, .slice B m.length d, .bool cl] w fun e w' => e = .returned (.bool true) ∧ Below w.heap.size w w' := by
  have HE := Lib.hid (examples_any w hv)
  have HM := Lib.hid (fun W (hb : Below w.heap.size w W) => made_any A l c W (hA.keep hb) hl)
  have HC := Lib.hid (fun W (hb : Below w.heap.size w W) => clean_any A l c W (hA.keep hb) hl)
  have HT := Lib.hid (fun W (hb : Below w.heap.size w W) => made_any B m d W (hB.keep hb) hm)
  have HX := Lib.hid (fun (s : ByteArray) (hs : s.size ≤ 281474976710656) W (hb : Below w.heap.size w W) => lexed_any s W hs (hv.keep hb))
  clear hA hl hB hm hv
  cases cl with
  | false =>
    go_enter Tryd.func6, Tryd.ntmps6
    go_wp2_with fail
    refine HE.out.mono ?_
    rintro e W1 ⟨rfl, b1⟩
    have B1 := Lib.hid b1
    clear b1 HE
    go_wp2_with fail
    refine (HM.out _ B1.out).mono ?_
    rintro e W2 ⟨s, rfl, hs, _, b2⟩
    have B2 := Lib.hid (B1.out.trans (b2.mono B1.out.size))
    clear b2 B1
    go_wp2_with fail
    refine (HT.out _ B2.out).mono ?_
    rintro e W3 ⟨t, rfl, ht, _, b2⟩
    have B3 := Lib.hid (B2.out.trans (b2.mono B2.out.size))
    clear b2 B2
    go_wp2_with fail
    have hzs : (s ++ ⟨#[10]⟩ ++ t).size ≤ 1201 := by simp only [ByteArray.size_append, byte_size]; simp; omega
    have hbz : bys (s ++ ⟨#[10]⟩ ++ t) = bys s ++ 10 :: bys t := by rw [bys_add, bys_add]; simp [bys]
    have hls : (bys s).length ≤ 600 := by rw [bys_len]; exact hs
    have hlt : (bys t).length ≤ 600 := by rw [bys_len]; exact ht
    have X1 := Lib.hid (fun W hb => HX.out s (by omega) W hb)
    have X2 := Lib.hid (fun W hb => HX.out t (by omega) W hb)
    have X3 := Lib.hid (fun W hb => HX.out (s ++ ⟨#[10]⟩ ++ t) (by omega) W hb)
    rw [hbz] at X3
    clear HX hbz
    clear HM HC HT
    cases hx : (lex 0 (bys s)).2 with
    | some e =>
      as_aux_lemma =>
      obtain ⟨f1, f2⟩ := conc_bad1 hls hlt hx
      rw [f1] at X1
      rw [f2] at X3
      obtain ⟨yl, ya, ye, hy⟩ : ∃ yl ya ye, lexR (bys t) = (yl, ya, ye) := ⟨_, _, _, rfl⟩
      rw [hy] at X2
      clear f1 f2 hx hy hls hlt
      refine (X1.out _ B3.out).mono ?_
      rintro _ U0 ⟨Ax, cx, rfl, hcx, hnx, hT, bb⟩
      simp only [List.length_nil, show ((5 : Nat) : Int) = 5 from rfl]
      obtain ⟨mx, bA⟩ := start1 U0 #[.slice Ax 0 cx, .int .i64 (e : Int), .int .i64 5] 29
      have HTx := Lib.hid (hT.arr.keep bA)
      have b4 := B3.out.trans (bb.mono B3.out.size)
      have BN0 := Lib.hid (b4.trans (bA.mono b4.size))
      clear bb bA b4 B3 hT X1
      go_upto_region 9 with fail
      generalize U0.alloc (.cells #[.slice Ax 0 cx, .int .i64 (e : Int), .int .i64 5] 29) = V1 at *
      generalize U0.heap.size = kx at *
      go_wp2_with fail
      refine (X2.out _ BN0.out).mono ?_
      rintro _ U1 ⟨Ay, cy, rfl, hcy, hny, hT, bb⟩
      simp only [List.length_nil, show ((5 : Nat) : Int) = 5 from rfl]
      obtain ⟨my, bA⟩ := start1 U1 #[.slice Ay yl.length cy, .int .i64 (ya : Int), .int .i64 (ye : Int)] 29
      have HTy := Lib.hid (hT.arr.keep bA)
      have HTx := Lib.hid ((HTx.out.keep bb).keep bA)
      have mx := (mx.keep bb).keep bA
      have b4 := BN0.out.trans (bb.mono BN0.out.size)
      have BN1 := Lib.hid (b4.trans (bA.mono b4.size))
      clear bb bA b4 BN0 hT X2
      go_upto_region 10 with fail
      generalize U1.alloc (.cells #[.slice Ay yl.length cy, .int .i64 (ya : Int), .int .i64 (ye : Int)] 29) = V2 at *
      generalize U1.heap.size = ky at *
      go_wp2_with fail
      refine (X3.out _ BN1.out).mono ?_
      rintro _ U2 ⟨Az, cz, rfl, hcz, hnz, hT, bb⟩
      simp only [List.length_nil, show ((5 : Nat) : Int) = 5 from rfl]
      obtain ⟨mz, bA⟩ := start1 U2 #[.slice Az 0 cz, .int .i64 (e : Int), .int .i64 5] 29
      have HTz := Lib.hid (hT.arr.keep bA)
      have HTx := Lib.hid ((HTx.out.keep bb).keep bA)
      have mx := (mx.keep bb).keep bA
      have HTy := Lib.hid ((HTy.out.keep bb).keep bA)
      have my := (my.keep bb).keep bA
      have b4 := BN1.out.trans (bb.mono BN1.out.size)
      have BN2 := Lib.hid (b4.trans (bA.mono b4.size))
      clear bb bA b4 BN1 hT X3
      go_upto_region 11 with fail
      generalize U2.alloc (.cells #[.slice Az 0 cz, .int .i64 (e : Int), .int .i64 5] 29) = V3 at *
      generalize U2.heap.size = kz at *
      obtain ⟨p0, p1, p2⟩ := mx.c3
      obtain ⟨q0, q1, q2⟩ := my.c3
      obtain ⟨r0, r1, r2⟩ := mz.c3
      clear mx my mz
      go_wp2_with fail
      go_ret
      exact ⟨rfl, BN2.out⟩
    | none =>
      have hw : WF (bys s) := hx
      clear hx
      cases hx : (lex 0 (bys t)).2 with
      | some e =>
        as_aux_lemma =>
        obtain ⟨f0, f1, f2⟩ := conc_bad2 hls hlt hw hx
        rw [bys_len] at f2
        rw [f1] at X2
        rw [f2] at X3
        obtain ⟨ts, g1, _, _, _⟩ := wf_toks hw hls
        rw [g1] at X1
        generalize ts ++ [endT (bys s).length] = xs at *
        clear f1 f2 hx g1 hls hlt hw
        have hadd : ((e + s.size + 1 : Nat) : Int) = (e : Int) + (s.size : Int) + 1 := by omega
        refine (X1.out _ B3.out).mono ?_
        rintro _ U0 ⟨Ax, cx, rfl, hcx, hnx, hT, bb⟩
        simp only [List.length_nil, hadd, show ((5 : Nat) : Int) = 5 from rfl, show ((0 : Nat) : Int) = 0 from rfl]
        obtain ⟨mx, bA⟩ := start1 U0 #[.slice Ax xs.length cx, .int .i64 0, .int .i64 0] 29
        have HTx := Lib.hid (hT.arr.keep bA)
        have b4 := B3.out.trans (bb.mono B3.out.size)
        have BN0 := Lib.hid (b4.trans (bA.mono b4.size))
        clear bb bA b4 B3 hT X1
        go_upto_region 9 with fail
        generalize U0.alloc (.cells #[.slice Ax xs.length cx, .int .i64 0, .int .i64 0] 29) = V1 at *
        generalize U0.heap.size = kx at *
        go_wp2_with fail
        refine (X2.out _ BN0.out).mono ?_
        rintro _ U1 ⟨Ay, cy, rfl, hcy, hny, hT, bb⟩
        simp only [List.length_nil, hadd, show ((5 : Nat) : Int) = 5 from rfl, show ((0 : Nat) : Int) = 0 from rfl]
        obtain ⟨my, bA⟩ := start1 U1 #[.slice Ay 0 cy, .int .i64 (e : Int), .int .i64 5] 29
        have HTy := Lib.hid (hT.arr.keep bA)
        have HTx := Lib.hid ((HTx.out.keep bb).keep bA)
        have mx := (mx.keep bb).keep bA
        have b4 := BN0.out.trans (bb.mono BN0.out.size)
        have BN1 := Lib.hid (b4.trans (bA.mono b4.size))
        clear bb bA b4 BN0 hT X2
        go_upto_region 10 with fail
        generalize U1.alloc (.cells #[.slice Ay 0 cy, .int .i64 (e : Int), .int .i64 5] 29) = V2 at *
        generalize U1.heap.size = ky at *
        go_wp2_with fail
        refine (X3.out _ BN1.out).mono ?_
        rintro _ U2 ⟨Az, cz, rfl, hcz, hnz, hT, bb⟩
        simp only [List.length_nil, hadd, show ((5 : Nat) : Int) = 5 from rfl, show ((0 : Nat) : Int) = 0 from rfl]
        obtain ⟨mz, bA⟩ := start1 U2 #[.slice Az 0 cz, .int .i64 ((e : Int) + (s.size : Int) + 1), .int .i64 5] 29
        have HTz := Lib.hid (hT.arr.keep bA)
        have HTx := Lib.hid ((HTx.out.keep bb).keep bA)
        have mx := (mx.keep bb).keep bA
        have HTy := Lib.hid ((HTy.out.keep bb).keep bA)
        have my := (my.keep bb).keep bA
        have b4 := BN1.out.trans (bb.mono BN1.out.size)
        have BN2 := Lib.hid (b4.trans (bA.mono b4.size))
        clear bb bA b4 BN1 hT X3
        go_upto_region 11 with fail
        generalize U2.alloc (.cells #[.slice Az 0 cz, .int .i64 ((e : Int) + (s.size : Int) + 1), .int .i64 5] 29) = V3 at *
        generalize U2.heap.size = kz at *
        clear hadd
        obtain ⟨p0, p1, p2⟩ := mx.c3
        obtain ⟨q0, q1, q2⟩ := my.c3
        obtain ⟨r0, r1, r2⟩ := mz.c3
        clear mx my mz
        go_wp2_with fail
        go_ret
        exact ⟨rfl, BN2.out⟩
      | none =>
        have hw2 : WF (bys t) := hx
        clear hx
        as_aux_lemma =>
        obtain ⟨ts, us, f1, f2, f3, f4, f5, f6, f7⟩ := conc_ok hls hlt hw hw2
        rw [f1] at X1
        rw [f2] at X2
        rw [f3] at X3
        have hn1 : (ts ++ [endT (bys s).length]).length = ts.length + 1 := by simp
        have hn2 : (us ++ [endT (bys t).length]).length = us.length + 1 := by simp
        have hn3 : (ts ++ (us ++ [endT (bys t).length]).map (shiftT ((bys s).length + 1))).length = ts.length + (us.length + 1) := by simp
        have ht1 : (ts ++ [endT (bys s).length]).take ts.length = ts := by simp
        have ht3 : (ts ++ (us ++ [endT (bys t).length]).map (shiftT ((bys s).length + 1))).take ts.length = ts := by simp
        have hd3 : (ts ++ (us ++ [endT (bys t).length]).map (shiftT ((bys s).length + 1))).drop ts.length = (us ++ [endT (bys t).length]).map (shiftT ((bys s).length + 1)) := by simp
        rw [bys_len] at hn3 ht3 hd3 X3
        have F6 := Lib.hid f6
        have F7 := Lib.hid f7
        generalize hX : ts ++ [endT (bys s).length] = xs at *
        generalize hY : us ++ [endT (bys t).length] = ys at *
        generalize hZ : ts ++ ys.map (shiftT (s.size + 1)) = zs at *
        have HT1 := Lib.hid ht1
        have HT3 := Lib.hid ht3
        have HD3 := Lib.hid hd3
        clear f1 f2 f3 f6 f7 hX hY hZ ht1 ht3 hd3 hls hlt hw hw2
        generalize hn : ts.length = n at *
        generalize hu : us.length = u at *
        have HN := Lib.hid hn
        have HN1 := Lib.hid hn1
        have HN2 := Lib.hid hn2
        have HN3 := Lib.hid hn3
        clear hn hu hn1 hn2 hn3
        refine (X1.out _ B3.out).mono ?_
        rintro _ U0 ⟨Ax, cx, rfl, hcx, hnx, hT, bb⟩
        simp only [HN1.out, HN2.out, HN3.out, show ((0 : Nat) : Int) = 0 from rfl]
        obtain ⟨mx, bA⟩ := start1 U0 #[.slice Ax (n + 1) cx, .int .i64 0, .int .i64 0] 29
        have HTx := Lib.hid (hT.arr.keep bA)
        have b4 := B3.out.trans (bb.mono B3.out.size)
        have BN0 := Lib.hid (b4.trans (bA.mono b4.size))
        clear bb bA b4 B3 hT X1
        go_upto_region 9 with fail
        generalize U0.alloc (.cells #[.slice Ax (n + 1) cx, .int .i64 0, .int .i64 0] 29) = V1 at *
        generalize U0.heap.size = kx at *
        go_wp2_with fail
        refine (X2.out _ BN0.out).mono ?_
        rintro _ U1 ⟨Ay, cy, rfl, hcy, hny, hT, bb⟩
        simp only [HN1.out, HN2.out, HN3.out, show ((0 : Nat) : Int) = 0 from rfl]
        obtain ⟨my, bA⟩ := start1 U1 #[.slice Ay (u + 1) cy, .int .i64 0, .int .i64 0] 29
        have HTy := Lib.hid (hT.arr.keep bA)
        have HTx := Lib.hid ((HTx.out.keep bb).keep bA)
        have mx := (mx.keep bb).keep bA
        have b4 := BN0.out.trans (bb.mono BN0.out.size)
        have BN1 := Lib.hid (b4.trans (bA.mono b4.size))
        clear bb bA b4 BN0 hT X2
        go_upto_region 10 with fail
        generalize U1.alloc (.cells #[.slice Ay (u + 1) cy, .int .i64 0, .int .i64 0] 29) = V2 at *
        generalize U1.heap.size = ky at *
        go_wp2_with fail
        refine (X3.out _ BN1.out).mono ?_
        rintro _ U2 ⟨Az, cz, rfl, hcz, hnz, hT, bb⟩
        simp only [HN1.out, HN2.out, HN3.out, show ((0 : Nat) : Int) = 0 from rfl]
        obtain ⟨mz, bA⟩ := start1 U2 #[.slice Az (n + (u + 1)) cz, .int .i64 0, .int .i64 0] 29
        have HTz := Lib.hid (hT.arr.keep bA)
        have HTx := Lib.hid ((HTx.out.keep bb).keep bA)
        have mx := (mx.keep bb).keep bA
        have HTy := Lib.hid ((HTy.out.keep bb).keep bA)
        have my := (my.keep bb).keep bA
        have b4 := BN1.out.trans (bb.mono BN1.out.size)
        have BN2 := Lib.hid (b4.trans (bA.mono b4.size))
        clear bb bA b4 BN1 hT X3
        go_upto_region 11 with fail
        generalize U2.alloc (.cells #[.slice Az (n + (u + 1)) cz, .int .i64 0, .int .i64 0] 29) = V3 at *
        generalize U2.heap.size = kz at *
        have HTz : Hid (TokA V3 Az zs) := HTz
        have HTy : Hid (TokA V3 Ay ys) := HTy
        have HTx : Hid (TokA V3 Ax xs) := HTx
        have hcx : xs.length ≤ cx := hcx
        have hcy : ys.length ≤ cy := hcy
        have hcz : zs.length ≤ cz := hcz
        obtain ⟨b, o, hbo⟩ := HTz.out.open
        have hzl := HN3.out
        obtain ⟨rfl, hbs, _⟩ := hbo (by intro h; rw [h] at hzl; simp at hzl)
        clear hbo hzl
        have HS1 : Hid (∀ W, Below V3.heap.size V3 W → Calls Tryd.prog 23 #[.slice Ax n cx, .slice (some ⟨b, o, none⟩) n cz, .int .i64 0] W fun e w' => e = .returned (.bool true) ∧ Below W.heap.size W w') := Lib.hid (fun W hb => by
          have := same_any Ax (some ⟨b, o, none⟩) ts ts cx cz 0 W (by have h := (HTx.out.keep hb).take n; rwa [HT1.out] at h) (by have h := (HTz.out.keep hb).take n; rwa [HT3.out] at h) (by have := HN.out; omega) (by omega) (fun t ht => by have := F6.out t ht; omega)
          rw [same_self, HN.out] at this
          exact this)
        have HS2 : Hid (∀ W, Below V3.heap.size V3 W → Calls Tryd.prog 23 #[.slice Ay (u + 1 : Nat) cy, .slice (some ⟨b, o + n * 3, none⟩) (u + 1 : Nat) (cz - n), .int .i64 ((s.size : Int) + 1)] W fun e w' => e = .returned (.bool true) ∧ Below W.heap.size W w') := Lib.hid (fun W hb => by
          have h3 := (HTz.out.keep hb).drop (n := n) (by have := HN3.out; omega)
          rw [HD3.out] at h3
          have := same_any Ay (some ⟨b, o + n * 3, none⟩) ys (ys.map (shiftT (s.size + 1))) cy (cz - n) (s.size + 1) W (HTy.out.keep hb) h3 (by have := HN2.out; omega) (by omega) (fun t ht => by have := F7.out t ht; omega)
          rw [show sameB ys (ys.map (shiftT (s.size + 1))) (s.size + 1) = true by unfold sameB; simp, List.length_map, HN2.out] at this
          simpa using this)
        have hcz : n + (u + 1) ≤ cz := by have := HN3.out; omega
        have hcx : n + 1 ≤ cx := by have := HN1.out; omega
        have k1 : n ≤ cx := by omega
        have k2 : n ≤ cz := by omega
        have k3 : (n : Int) ≤ (cx : Int) := by omega
        have k4 : (n : Int) ≤ (cz : Int) := by omega
        have k5 : (0 : Int) ≤ (n : Int) := by omega
        have k6 : n < cz := by omega
        clear HTx HTy HTz hcx hnx hny hnz
        obtain ⟨p0, p1, p2⟩ := mx.c3
        obtain ⟨q0, q1, q2⟩ := my.c3
        obtain ⟨r0, r1, r2⟩ := mz.c3
        go_upto_region 18 with fail
        clear p0 p1 p2 q0 q1 q2 r0 r1 r2
        obtain ⟨p0, p1, p2⟩ := mx.l3 (Below.refl _ _)
        obtain ⟨q0, q1, q2⟩ := my.l3 (Below.refl _ _)
        obtain ⟨r0, r1, r2⟩ := mz.l3 (Below.refl _ _)
        have S1 := Lib.hid (fun p : Later V3 => HS1.out p.val p.below)
        have S2 := Lib.hid (fun p : Later V3 => HS2.out p.val p.below)
        clear HS1 HS2
        refine wp_region_later (by kernel_rfl) (by kernel_rfl) ?_
        repeat (go_big_quiet_step (((go_at_call 23; first | with_reducible exact later_of (S1.out _) | with_reducible exact later_of (S2.out _)))))
        refine wpQuiet_nil ?_
        intro _ hw'
        obtain ⟨z, hw''⟩ := hw'
        subst hw''
        have BZ := Lib.hid (BN2.out.trans (z.below.mono BN2.out.size))
        clear mx my mz p0 p1 p2 q0 q1 q2 r0 r1 r2
        go_wp2_with fail
        go_ret
        exact ⟨rfl, BZ.out⟩
  | true =>
    go_enter Tryd.func6, Tryd.ntmps6
    go_wp2_with fail
    refine HE.out.mono ?_
    rintro e W1 ⟨rfl, b1⟩
    have B1 := Lib.hid b1
    clear b1 HE
    go_wp2_with fail
    refine (HM.out _ B1.out).mono ?_
    rintro e W2 ⟨s0, rfl, hs0, _, b2⟩
    have B2 := Lib.hid (B1.out.trans (b2.mono B1.out.size))
    clear b2 B1
    go_wp2_with fail
    refine (HC.out _ B2.out).mono ?_
    rintro e W3 ⟨s, rfl, hs, hg, b2⟩
    have B4 := Lib.hid (B2.out.trans (b2.mono B2.out.size))
    clear b2 B2
    go_wp2_with fail
    refine (HT.out _ B4.out).mono ?_
    rintro e W5 ⟨t, rfl, ht, _, b2⟩
    have B3 := Lib.hid (B4.out.trans (b2.mono B4.out.size))
    clear b2 B4
    go_wp2_with fail
    have hzs : (s ++ ⟨#[10]⟩ ++ t).size ≤ 1201 := by simp only [ByteArray.size_append, byte_size]; simp; omega
    have hbz : bys (s ++ ⟨#[10]⟩ ++ t) = bys s ++ 10 :: bys t := by rw [bys_add, bys_add]; simp [bys]
    have hls : (bys s).length ≤ 600 := by rw [bys_len]; exact hs
    have hlt : (bys t).length ≤ 600 := by rw [bys_len]; exact ht
    have X1 := Lib.hid (fun W hb => HX.out s (by omega) W hb)
    have X2 := Lib.hid (fun W hb => HX.out t (by omega) W hb)
    have X3 := Lib.hid (fun W hb => HX.out (s ++ ⟨#[10]⟩ ++ t) (by omega) W hb)
    rw [hbz] at X3
    clear HX hbz
    clear HM HC HT
    have hw : WF (bys s) := hg.wf
    clear hg
    cases hx : (lex 0 (bys t)).2 with
    | some e =>
      as_aux_lemma =>
      obtain ⟨f0, f1, f2⟩ := conc_bad2 hls hlt hw hx
      rw [bys_len] at f2
      rw [f1] at X2
      rw [f2] at X3
      obtain ⟨ts, g1, _, _, _⟩ := wf_toks hw hls
      rw [g1] at X1
      generalize ts ++ [endT (bys s).length] = xs at *
      clear f1 f2 hx g1 hls hlt hw
      have hadd : ((e + s.size + 1 : Nat) : Int) = (e : Int) + (s.size : Int) + 1 := by omega
      refine (X1.out _ B3.out).mono ?_
      rintro _ U0 ⟨Ax, cx, rfl, hcx, hnx, hT, bb⟩
      simp only [List.length_nil, hadd, show ((5 : Nat) : Int) = 5 from rfl, show ((0 : Nat) : Int) = 0 from rfl]
      obtain ⟨mx, bA⟩ := start1 U0 #[.slice Ax xs.length cx, .int .i64 0, .int .i64 0] 29
      have HTx := Lib.hid (hT.arr.keep bA)
      have b4 := B3.out.trans (bb.mono B3.out.size)
      have BN0 := Lib.hid (b4.trans (bA.mono b4.size))
      clear bb bA b4 B3 hT X1
      go_upto_region 9 with fail
      generalize U0.alloc (.cells #[.slice Ax xs.length cx, .int .i64 0, .int .i64 0] 29) = V1 at *
      generalize U0.heap.size = kx at *
      go_wp2_with fail
      refine (X2.out _ BN0.out).mono ?_
      rintro _ U1 ⟨Ay, cy, rfl, hcy, hny, hT, bb⟩
      simp only [List.length_nil, hadd, show ((5 : Nat) : Int) = 5 from rfl, show ((0 : Nat) : Int) = 0 from rfl]
      obtain ⟨my, bA⟩ := start1 U1 #[.slice Ay 0 cy, .int .i64 (e : Int), .int .i64 5] 29
      have HTy := Lib.hid (hT.arr.keep bA)
      have HTx := Lib.hid ((HTx.out.keep bb).keep bA)
      have mx := (mx.keep bb).keep bA
      have b4 := BN0.out.trans (bb.mono BN0.out.size)
      have BN1 := Lib.hid (b4.trans (bA.mono b4.size))
      clear bb bA b4 BN0 hT X2
      go_upto_region 10 with fail
      generalize U1.alloc (.cells #[.slice Ay 0 cy, .int .i64 (e : Int), .int .i64 5] 29) = V2 at *
      generalize U1.heap.size = ky at *
      go_wp2_with fail
      refine (X3.out _ BN1.out).mono ?_
      rintro _ U2 ⟨Az, cz, rfl, hcz, hnz, hT, bb⟩
      simp only [List.length_nil, hadd, show ((5 : Nat) : Int) = 5 from rfl, show ((0 : Nat) : Int) = 0 from rfl]
      obtain ⟨mz, bA⟩ := start1 U2 #[.slice Az 0 cz, .int .i64 ((e : Int) + (s.size : Int) + 1), .int .i64 5] 29
      have HTz := Lib.hid (hT.arr.keep bA)
      have HTx := Lib.hid ((HTx.out.keep bb).keep bA)
      have mx := (mx.keep bb).keep bA
      have HTy := Lib.hid ((HTy.out.keep bb).keep bA)
      have my := (my.keep bb).keep bA
      have b4 := BN1.out.trans (bb.mono BN1.out.size)
      have BN2 := Lib.hid (b4.trans (bA.mono b4.size))
      clear bb bA b4 BN1 hT X3
      go_upto_region 11 with fail
      generalize U2.alloc (.cells #[.slice Az 0 cz, .int .i64 ((e : Int) + (s.size : Int) + 1), .int .i64 5] 29) = V3 at *
      generalize U2.heap.size = kz at *
      clear hadd
      obtain ⟨p0, p1, p2⟩ := mx.c3
      obtain ⟨q0, q1, q2⟩ := my.c3
      obtain ⟨r0, r1, r2⟩ := mz.c3
      clear mx my mz
      go_wp2_with fail
      go_ret
      exact ⟨rfl, BN2.out⟩
    | none =>
      have hw2 : WF (bys t) := hx
      clear hx
      as_aux_lemma =>
      obtain ⟨ts, us, f1, f2, f3, f4, f5, f6, f7⟩ := conc_ok hls hlt hw hw2
      rw [f1] at X1
      rw [f2] at X2
      rw [f3] at X3
      have hn1 : (ts ++ [endT (bys s).length]).length = ts.length + 1 := by simp
      have hn2 : (us ++ [endT (bys t).length]).length = us.length + 1 := by simp
      have hn3 : (ts ++ (us ++ [endT (bys t).length]).map (shiftT ((bys s).length + 1))).length = ts.length + (us.length + 1) := by simp
      have ht1 : (ts ++ [endT (bys s).length]).take ts.length = ts := by simp
      have ht3 : (ts ++ (us ++ [endT (bys t).length]).map (shiftT ((bys s).length + 1))).take ts.length = ts := by simp
      have hd3 : (ts ++ (us ++ [endT (bys t).length]).map (shiftT ((bys s).length + 1))).drop ts.length = (us ++ [endT (bys t).length]).map (shiftT ((bys s).length + 1)) := by simp
      rw [bys_len] at hn3 ht3 hd3 X3
      have F6 := Lib.hid f6
      have F7 := Lib.hid f7
      generalize hX : ts ++ [endT (bys s).length] = xs at *
      generalize hY : us ++ [endT (bys t).length] = ys at *
      generalize hZ : ts ++ ys.map (shiftT (s.size + 1)) = zs at *
      have HT1 := Lib.hid ht1
      have HT3 := Lib.hid ht3
      have HD3 := Lib.hid hd3
      clear f1 f2 f3 f6 f7 hX hY hZ ht1 ht3 hd3 hls hlt hw hw2
      generalize hn : ts.length = n at *
      generalize hu : us.length = u at *
      have HN := Lib.hid hn
      have HN1 := Lib.hid hn1
      have HN2 := Lib.hid hn2
      have HN3 := Lib.hid hn3
      clear hn hu hn1 hn2 hn3
      refine (X1.out _ B3.out).mono ?_
      rintro _ U0 ⟨Ax, cx, rfl, hcx, hnx, hT, bb⟩
      simp only [HN1.out, HN2.out, HN3.out, show ((0 : Nat) : Int) = 0 from rfl]
      obtain ⟨mx, bA⟩ := start1 U0 #[.slice Ax (n + 1) cx, .int .i64 0, .int .i64 0] 29
      have HTx := Lib.hid (hT.arr.keep bA)
      have b4 := B3.out.trans (bb.mono B3.out.size)
      have BN0 := Lib.hid (b4.trans (bA.mono b4.size))
      clear bb bA b4 B3 hT X1
      go_upto_region 9 with fail
      generalize U0.alloc (.cells #[.slice Ax (n + 1) cx, .int .i64 0, .int .i64 0] 29) = V1 at *
      generalize U0.heap.size = kx at *
      go_wp2_with fail
      refine (X2.out _ BN0.out).mono ?_
      rintro _ U1 ⟨Ay, cy, rfl, hcy, hny, hT, bb⟩
      simp only [HN1.out, HN2.out, HN3.out, show ((0 : Nat) : Int) = 0 from rfl]
      obtain ⟨my, bA⟩ := start1 U1 #[.slice Ay (u + 1) cy, .int .i64 0, .int .i64 0] 29
      have HTy := Lib.hid (hT.arr.keep bA)
      have HTx := Lib.hid ((HTx.out.keep bb).keep bA)
      have mx := (mx.keep bb).keep bA
      have b4 := BN0.out.trans (bb.mono BN0.out.size)
      have BN1 := Lib.hid (b4.trans (bA.mono b4.size))
      clear bb bA b4 BN0 hT X2
      go_upto_region 10 with fail
      generalize U1.alloc (.cells #[.slice Ay (u + 1) cy, .int .i64 0, .int .i64 0] 29) = V2 at *
      generalize U1.heap.size = ky at *
      go_wp2_with fail
      refine (X3.out _ BN1.out).mono ?_
      rintro _ U2 ⟨Az, cz, rfl, hcz, hnz, hT, bb⟩
      simp only [HN1.out, HN2.out, HN3.out, show ((0 : Nat) : Int) = 0 from rfl]
      obtain ⟨mz, bA⟩ := start1 U2 #[.slice Az (n + (u + 1)) cz, .int .i64 0, .int .i64 0] 29
      have HTz := Lib.hid (hT.arr.keep bA)
      have HTx := Lib.hid ((HTx.out.keep bb).keep bA)
      have mx := (mx.keep bb).keep bA
      have HTy := Lib.hid ((HTy.out.keep bb).keep bA)
      have my := (my.keep bb).keep bA
      have b4 := BN1.out.trans (bb.mono BN1.out.size)
      have BN2 := Lib.hid (b4.trans (bA.mono b4.size))
      clear bb bA b4 BN1 hT X3
      go_upto_region 11 with fail
      generalize U2.alloc (.cells #[.slice Az (n + (u + 1)) cz, .int .i64 0, .int .i64 0] 29) = V3 at *
      generalize U2.heap.size = kz at *
      have HTz : Hid (TokA V3 Az zs) := HTz
      have HTy : Hid (TokA V3 Ay ys) := HTy
      have HTx : Hid (TokA V3 Ax xs) := HTx
      have hcx : xs.length ≤ cx := hcx
      have hcy : ys.length ≤ cy := hcy
      have hcz : zs.length ≤ cz := hcz
      obtain ⟨b, o, hbo⟩ := HTz.out.open
      have hzl := HN3.out
      obtain ⟨rfl, hbs, _⟩ := hbo (by intro h; rw [h] at hzl; simp at hzl)
      clear hbo hzl
      have HS1 : Hid (∀ W, Below V3.heap.size V3 W → Calls Tryd.prog 23 #[.slice Ax n cx, .slice (some ⟨b, o, none⟩) n cz, .int .i64 0] W fun e w' => e = .returned (.bool true) ∧ Below W.heap.size W w') := Lib.hid (fun W hb => by
        have := same_any Ax (some ⟨b, o, none⟩) ts ts cx cz 0 W (by have h := (HTx.out.keep hb).take n; rwa [HT1.out] at h) (by have h := (HTz.out.keep hb).take n; rwa [HT3.out] at h) (by have := HN.out; omega) (by omega) (fun t ht => by have := F6.out t ht; omega)
        rw [same_self, HN.out] at this
        exact this)
      have HS2 : Hid (∀ W, Below V3.heap.size V3 W → Calls Tryd.prog 23 #[.slice Ay (u + 1 : Nat) cy, .slice (some ⟨b, o + n * 3, none⟩) (u + 1 : Nat) (cz - n), .int .i64 ((s.size : Int) + 1)] W fun e w' => e = .returned (.bool true) ∧ Below W.heap.size W w') := Lib.hid (fun W hb => by
        have h3 := (HTz.out.keep hb).drop (n := n) (by have := HN3.out; omega)
        rw [HD3.out] at h3
        have := same_any Ay (some ⟨b, o + n * 3, none⟩) ys (ys.map (shiftT (s.size + 1))) cy (cz - n) (s.size + 1) W (HTy.out.keep hb) h3 (by have := HN2.out; omega) (by omega) (fun t ht => by have := F7.out t ht; omega)
        rw [show sameB ys (ys.map (shiftT (s.size + 1))) (s.size + 1) = true by unfold sameB; simp, List.length_map, HN2.out] at this
        simpa using this)
      have hcz : n + (u + 1) ≤ cz := by have := HN3.out; omega
      have hcx : n + 1 ≤ cx := by have := HN1.out; omega
      have k1 : n ≤ cx := by omega
      have k2 : n ≤ cz := by omega
      have k3 : (n : Int) ≤ (cx : Int) := by omega
      have k4 : (n : Int) ≤ (cz : Int) := by omega
      have k5 : (0 : Int) ≤ (n : Int) := by omega
      have k6 : n < cz := by omega
      clear HTx HTy HTz hcx hnx hny hnz
      obtain ⟨p0, p1, p2⟩ := mx.c3
      obtain ⟨q0, q1, q2⟩ := my.c3
      obtain ⟨r0, r1, r2⟩ := mz.c3
      go_upto_region 18 with fail
      clear p0 p1 p2 q0 q1 q2 r0 r1 r2
      obtain ⟨p0, p1, p2⟩ := mx.l3 (Below.refl _ _)
      obtain ⟨q0, q1, q2⟩ := my.l3 (Below.refl _ _)
      obtain ⟨r0, r1, r2⟩ := mz.l3 (Below.refl _ _)
      have S1 := Lib.hid (fun p : Later V3 => HS1.out p.val p.below)
      have S2 := Lib.hid (fun p : Later V3 => HS2.out p.val p.below)
      clear HS1 HS2
      refine wp_region_later (by kernel_rfl) (by kernel_rfl) ?_
      repeat (go_big_quiet_step (((go_at_call 23; first | with_reducible exact later_of (S1.out _) | with_reducible exact later_of (S2.out _)))))
      refine wpQuiet_nil ?_
      intro _ hw'
      obtain ⟨z, hw''⟩ := hw'
      subst hw''
      have BZ := Lib.hid (BN2.out.trans (z.below.mono BN2.out.size))
      clear mx my mz p0 p1 p2 q0 q1 q2 r0 r1 r2
      go_wp2_with fail
      go_ret
      exact ⟨rfl, BZ.out⟩

end Lx
end Go.Proofs.YtiebhlmjpnhepaaDoor
