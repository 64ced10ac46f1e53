/- LexerJoins. -/
import Derived.Test.YtiebhlmjpnhepaaDoorWJ
namespace Go.Proofs.YtiebhlmjpnhepaaDoor
open Go.RowKit Sl Fr
namespace Lx
set_option linter.unusedVariables false
set_option linter.unusedSimpArgs false

def pairT (t : Tk) : Nat × By := (t.kind, t.text)
theorem texts_all {ts : List Tk} (h : ∀ t ∈ ts, t.kind ≠ 4) (n : Nat) : textsOf (ts ++ [endT n]) = ts.map Tk.text := by
  rw [texts_snoc_end rfl]
  unfold textsOf
  rw [List.filter_eq_self.2 (fun t ht => by simpa using h t ht)]
/-- What the law asks of a well-formed file: its tokens, joined, and lexed again. -/
theorem joins_facts {l : By} (hl : l.length ≤ 900) (h : WF l) : ∃ (ts us : List Tk) (q : By), lexR l = (ts ++ [endT l.length], 0, 0) ∧ textsOf (ts ++ [endT l.length]) = textsOf (us ++ [endT q.length]) ∧ joinL (textsOf (ts ++ [endT l.length])) = q ∧
    lexR q = (us ++ [endT q.length], 0, 0) ∧ ts.length = us.length ∧ ts.length ≤ 900 ∧ q.length ≤ 1800 ∧ (ts ++ [endT l.length]).map pairT = (us ++ [endT q.length]).map pairT := by
  have h2 : (lex 0 l).2 = none := h
  have e : lex 0 l = ((lex 0 l).1, none) := by rw [← h2]
  obtain ⟨k1, k2⟩ := lex_sum _ _ _ _ e
  have k3 := lex_toks _ _ _ _ e
  generalize (lex 0 l).1 = ts at *
  have h4 : ∀ t ∈ ts, t.kind ≠ 4 := fun t ht => by have := (k3 t ht).1.kind; omega
  have ht := texts_all h4 l.length
  obtain ⟨j1, j2⟩ := lex_join ts (fun t ht => (k3 t ht).1) 0
  have hq : (joinL (ts.map Tk.text)).length ≤ 1800 := by
    have h5 := joinL_len (ts.map Tk.text)
    rw [List.map_map, List.length_map] at h5
    have h6 : (ts.map (List.length ∘ Tk.text)).sum = (ts.map (fun t => t.text.length)).sum := rfl
    omega
  have hus : ∀ u ∈ (lex 0 (joinL (ts.map Tk.text))).1, u.kind ≠ 4 := fun u hu => by
    have e2 : lex 0 (joinL (ts.map Tk.text)) = ((lex 0 (joinL (ts.map Tk.text))).1, none) := by rw [← j1]
    have := (lex_toks _ _ _ _ e2 u hu).1.kind
    omega
  have j3 : (lex 0 (joinL (ts.map Tk.text))).1.map Tk.text = ts.map Tk.text := by
    have := congrArg (List.map Prod.snd) j2
    rw [List.map_map, List.map_map] at this
    exact this
  refine ⟨ts, (lex 0 (joinL (ts.map Tk.text))).1, joinL (ts.map Tk.text), by rw [lexR_ok (by omega) h2, e], ?_, by rw [ht], lexR_ok (by omega) j1, ?_, by omega, hq, ?_⟩
  · rw [ht, texts_all hus, j3]
  · have := congrArg List.length j2
    simpa using this.symm
  · rw [List.map_append, List.map_append]
    congr 1
    exact j2.symm

set_option maxRecDepth 100000 in
set_option maxHeartbeats 8000000 in
theorem joins_walk (A : Option Addr) (l : List Nat) (c : Nat) (s : ByteArray) (w : World) (hA : BytA w A l) (hl : l.length ≤ 9223372036854775807) (hs : s.size ≤ 9223372036854775807) (hv : Vars w) :
    Calls Tryd.prog 5 #[.slice A l.length c, .string s] w fun e w' => e = .returned (.bool true) ∧ Below w.heap.size w w' := by
  have HE := Lib.hid (examples_any w hv)
  have HM := Lib.hid (fun W (hb : Below w.heap.size w W) => made_any A l c W (hA.keep hb) hl)
  have HX := Lib.hid (fun (s : ByteArray) (hs : s.size ≤ 281474976710656) W (hb : Below w.heap.size w W) => lexed_any s W hs (hv.keep hb))
  clear hA hl hv
  by_cases h3 : 300 < s.size
  · go_enter Tryd.func5, Tryd.ntmps5
    go_wp2_with fail
    refine HE.out.mono ?_
    rintro e W1 ⟨rfl, b1⟩
    have B1 := Lib.hid b1
    clear b1 HE HM HX
    go_wp2_with fail
    go_ret
    exact ⟨rfl, B1.out⟩
  have hs3 : s.size ≤ 300 := by omega
  go_enter Tryd.func5, Tryd.ntmps5
  go_wp2_with fail
  refine HE.out.mono ?_
  rintro e W1 ⟨rfl, b1⟩
  have B1 := Lib.hid b1
  clear b1 HE
  go_wp2_with fail
  refine (HM.out _ B1.out).mono ?_
  rintro e W2 ⟨t, rfl, ht, _, b2⟩
  have B2 := Lib.hid (B1.out.trans (b2.mono B1.out.size))
  clear b2 HM B1
  go_wp2_with fail
  have hz : (t ++ s).size ≤ 900 := by rw [ByteArray.size_append]; omega
  have HL := Lib.hid (HX.out (t ++ s) (by omega) W2 B2.out)
  generalize t ++ s = r at *
  by_cases hw : WF (bys r)
  · obtain ⟨ts, us, q, f1, f2, f3, f4, f5, f6, f7, f8⟩ := joins_facts (by rw [bys_len]; exact hz) hw
    rw [f1] at HL
    have hn1 : (ts ++ [endT (bys r).length]).length = ts.length + 1 := by simp
    have hn2 : (us ++ [endT q.length]).length = ts.length + 1 := by simp [f5]
    have HL2 := Lib.hid (fun W (hb : Below w.heap.size w W) => HX.out ⟨q.toArray⟩ (by rw [byte_size]; simp; omega) W hb)
    rw [show bys (⟨q.toArray⟩ : ByteArray) = q by simp [bys], f4] at HL2
    have HJ1 : Hid (∀ (A' : Option Addr) (c' : Nat) (W : World), TokA W A' (ts ++ [endT (bys r).length]) → Calls Tryd.prog 20 #[.slice A' (ts.length + 1 : Nat) c'] W fun e w' => e = .returned (.string ⟨q.toArray⟩) ∧ Below W.heap.size W w') := Lib.hid (fun A' c' W hT => by
      have := join_any A' _ c' W hT (by rw [hn1]; omega) (by rw [f3]; omega)
      rwa [f3, hn1] at this)
    have HJ2 : Hid (∀ (A' : Option Addr) (c' : Nat) (W : World), TokA W A' (us ++ [endT q.length]) → Calls Tryd.prog 20 #[.slice A' (ts.length + 1 : Nat) c'] W fun e w' => e = .returned (.string ⟨q.toArray⟩) ∧ Below W.heap.size W w') := Lib.hid (fun A' c' W hT => by
      have := join_any A' _ c' W hT (by rw [hn2]; omega) (by rw [← f2, f3]; omega)
      rwa [← f2, f3, hn2] at this)
    have F8 := Lib.hid f8
    clear f1 f2 f3 f4 f5 f8 HX hw
    generalize hX : ts ++ [endT (bys r).length] = xs at *
    generalize hY : us ++ [endT q.length] = ys at *
    clear hX hY
    generalize hn : ts.length + 1 = n at *
    have hnb : n ≤ 1000 := by omega
    clear hn
    refine HL.out.mono ?_
    rintro _ W3 ⟨A1, c1, rfl, _, _, hT, b3⟩
    simp only [hn1]
    have e0 : ((0 : Nat) : Int) = 0 := rfl
    simp only [e0]
    clear e0
    obtain ⟨m0, bA⟩ := start1 W3 #[.slice A1 n c1, .int .i64 0, .int .i64 0] 29
    have hT2 := hT.arr.keep bA
    have HTX := Lib.hid hT2
    have B3 := B2.out.trans (b3.mono B2.out.size)
    have B4 := Lib.hid (B3.trans (bA.mono B3.size))
    have HN1 := Lib.hid hn1
    have HN2 := Lib.hid hn2
    clear HL b3 bA B3 B2 hT hT2 hn1 hn2
    go_upto_region 5 with fail
    generalize W3.alloc (.cells #[.slice A1 n c1, .int .i64 0, .int .i64 0] 29) = X at *
    generalize W3.heap.size = xb at *
    obtain ⟨d0, d1, d2⟩ := m0.c3
    have M0 := Lib.hid m0
    clear m0
    go_wp2_with fail
    refine (HJ1.out A1 c1 X HTX.out).mono ?_
    rintro _ W5 ⟨rfl, b5⟩
    have M5 := Lib.hid (M0.out.keep b5)
    have HTX5 := Lib.hid (HTX.out.keep b5)
    have B5 := Lib.hid (B4.out.trans (b5.mono B4.out.size))
    clear b5 M0 HTX B4 HJ1 d0 d1 d2
    go_wp2_with fail
    refine (HL2.out _ B5.out).mono ?_
    rintro _ W6 ⟨A2, c2, rfl, _, _, hT, b6⟩
    simp only [HN2.out]
    have e0 : ((0 : Nat) : Int) = 0 := rfl
    simp only [e0]
    clear e0
    obtain ⟨m1, bA⟩ := start1 W6 #[.slice A2 n c2, .int .i64 0, .int .i64 0] 29
    have HTY := Lib.hid (hT.arr.keep bA)
    have HTX6 := Lib.hid ((HTX5.out.keep b6).keep bA)
    have M6 := Lib.hid ((M5.out.keep b6).keep bA)
    have B6 := B5.out.trans (b6.mono B5.out.size)
    have B7 := Lib.hid (B6.trans (bA.mono B6.size))
    clear HL2 b6 bA B6 B5 M5 HTX5 hT
    go_upto_region 9 with fail
    generalize W6.alloc (.cells #[.slice A2 n c2, .int .i64 0, .int .i64 0] 29) = Y at *
    generalize W6.heap.size = yb at *
    obtain ⟨d0, d1, d2⟩ := m1.c3
    obtain ⟨g0, g1, g2⟩ := M6.out.c3
    have M7 := Lib.hid m1
    clear m1
    go_wp2_with fail
    refine (HJ2.out A2 c2 Y HTY.out).mono ?_
    rintro _ W8 ⟨rfl, b8⟩
    have M8 := Lib.hid (M7.out.keep b8)
    have N8 := Lib.hid (M6.out.keep b8)
    have HTX8 := Lib.hid (HTX6.out.keep b8)
    have HTY8 := Lib.hid (HTY.out.keep b8)
    have B8 := Lib.hid (B7.out.trans (b8.mono B7.out.size))
    clear b8 M7 M6 HTX6 HTY B7 HJ2 d0 d1 d2 g0 g1 g2
    have H0 : Hid (KindAt W8 (.int .i64 0) n W8) := Lib.hid ⟨0, rfl, Nat.zero_le _, Below.refl _ _⟩
    go_wp2_with fail
    go_loopw [9] (fun i W => KindAt W8 i n W) (fun i _ => n - (intOf i).toNat)
    case atStart => exact H0.out
    case round =>
      obtain ⟨j, rfl, hj, hb⟩ := hrel
      have HB := Lib.hid hb
      have ma := N8.out.keep hb
      have mb := M8.out.keep hb
      clear hb H0
      by_cases hlt : j < n
      · obtain ⟨tx, htx⟩ := get_ex (show j < xs.length by rw [HN1.out]; exact hlt)
        obtain ⟨ty, hty⟩ := get_ex (show j < ys.length by rw [HN2.out]; exact hlt)
        have hpair : pairT tx = pairT ty := by
          have h9 := congrArg (fun z => z[j]?) F8.out
          simp only [List.getElem?_map, htx, hty, Option.map_some, Option.some.injEq] at h9
          exact h9
        obtain ⟨b, o, hbo⟩ := (HTX8.out.keep HB.out).open
        obtain ⟨rfl, hbs, hc⟩ := hbo (by intro h; subst h; simp at htx)
        obtain ⟨b', o', hbo'⟩ := (HTY8.out.keep HB.out).open
        obtain ⟨rfl, hbs', hc'⟩ := hbo' (by intro h; subst h; simp at hty)
        obtain ⟨g0, g1, g2⟩ := hc j tx htx
        obtain ⟨g0', g1', g2'⟩ := hc' j ty hty
        obtain ⟨p1, p2⟩ : tx.kind = ty.kind ∧ tx.text = ty.text := by
          unfold pairT at hpair
          exact ⟨congrArg Prod.fst hpair, congrArg Prod.snd hpair⟩
        rw [← p1] at g0'
        rw [← p2] at g1'
        clear hc hc' hbo hbo' htx hty hpair p1 p2 g2 g2'
        generalize tx.kind = kk at *
        generalize tx.text = tt at *
        obtain ⟨d0, d1, d2⟩ := ma.c3
        obtain ⟨e0, e1, e2⟩ := mb.c3
        go_upto_region 14 with fail
        clear d0 d1 d2 e0 e1 e2
        obtain ⟨d0, d1, d2⟩ := ma.l3 (Below.refl _ _)
        obtain ⟨e0, e1, e2⟩ := mb.l3 (Below.refl _ _)
        have z0 := fun q : Later wr => (q.below.cell (p := ⟨b, o + j * 3, none⟩) hbs).trans g0
        have z1 := fun q : Later wr => (q.below.cell (p := ⟨b, o + j * 3 + 1, none⟩) hbs).trans g1
        have z0' := fun q : Later wr => (q.below.cell (p := ⟨b', o' + j * 3, none⟩) hbs').trans g0'
        have z1' := fun q : Later wr => (q.below.cell (p := ⟨b', o' + j * 3 + 1, none⟩) hbs').trans g1'
        clear g0 g1 g0' g1' ma mb
        refine wp_region_later (by kernel_rfl) (by kernel_rfl) ?_
        repeat (go_big_quiet_step (fail))
        refine wpQuiet_nil ?_
        intro _ hw'
        obtain ⟨z, hw''⟩ := hw'
        subst hw''
        have HB3 := Lib.hid (HB.out.trans (z.below.mono HB.out.size))
        clear d0 d1 d2 e0 e1 e2 z0 z1 z0' z1'
        go_wp2_with fail
        go_roundw
        case rel => exact ⟨j + 1, by go_num, by omega, HB3.out⟩
        case measure => simp [intOf]; omega
      · obtain ⟨d0, d1, d2⟩ := ma.c3
        have BW := Lib.hid (B8.out.trans (HB.out.mono B8.out.size))
        clear ma mb
        go_wp2_with fail
        go_ret
        exact ⟨rfl, BW.out⟩
  · cases hx : (lex 0 (bys r)).2 with
    | none => exact absurd hx hw
    | some e =>
      have hr := lexR_bad (l := bys r) (by rw [bys_len]; omega) hx
      rw [hr] at HL
      clear hx hr hw HX
      refine HL.out.mono ?_
      rintro _ W3 ⟨A1, c1, rfl, _, _, _, b3⟩
      have bA := (Below.refl _ W3).alloc (Nat.le_refl _) (.cells #[.slice A1 0 c1, .int .i64 (e : Int), .int .i64 5] 29)
      have B3 := B2.out.trans (b3.mono B2.out.size)
      have B4 := Lib.hid (B3.trans (bA.mono B3.size))
      clear HL b3 bA B3 B2
      simp only [List.length_nil, show ((5 : Nat) : Int) = 5 from rfl]
      go_wp2_with fail
      go_ret
      exact ⟨rfl, B4.out⟩

end Lx
end Go.Proofs.YtiebhlmjpnhepaaDoor
