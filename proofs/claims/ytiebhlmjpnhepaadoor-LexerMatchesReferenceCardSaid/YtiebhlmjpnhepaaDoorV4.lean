/- The reference's Join and LexIn. -/
import Derived.Test.YtiebhlmjpnhepaaDoorV3
import Derived.Test.YtiebhlmjpnhepaaDoorL9
namespace Go.Proofs.YtiebhlmjpnhepaaDoor
open Go.RowKit Sl Fr
namespace Lx
set_option linter.unusedVariables false
set_option linter.unusedSimpArgs false

theorem bys_append (a b : ByteArray) : bys (a ++ b) = bys a ++ bys b := by simp [bys]
theorem bys_mk (l : By) : bys ⟨l.toArray⟩ = l := rfl
theorem bys_of {q : ByteArray} {l : By} (h : bys q = l) : q = ⟨l.toArray⟩ := bys_ext (by rw [h, bys_mk])
theorem joinL_snoc : ∀ (xs : List By) (x : By), joinL (xs ++ [x]) = if xs = [] then x else joinL xs ++ 32 :: x
  | [], x => rfl
  | [y], x => rfl
  | y :: z :: r, x => by
    have ih := joinL_snoc (z :: r) x
    simp only [List.cons_append] at ih ⊢
    rw [if_neg (by simp)] at ih ⊢
    rw [joinL, ih, joinL]
    simp
theorem joinL_pre (xs : List By) : ∀ ys : List By, (joinL xs).length ≤ (joinL (xs ++ ys)).length := by
  intro ys
  generalize hn : ys.length = n
  induction n generalizing ys with
  | zero => obtain rfl := List.eq_nil_of_length_eq_zero hn; simp
  | succ n ih =>
    rcases List.eq_nil_or_concat ys with rfl | ⟨zs, z, rfl⟩
    · simp at hn
    · have h1 := ih zs (by simp at hn; omega)
      rw [List.concat_eq_append, ← List.append_assoc, joinL_snoc]
      split
      · rename_i h
        obtain ⟨rfl, rfl⟩ := List.append_eq_nil_iff.1 h
        simp [joinL]
      · rw [List.length_append]; omega
theorem textsOf_append (a b : List Tk) : textsOf (a ++ b) = textsOf a ++ textsOf b := by simp [textsOf]
/-- As far as the reference's Join has come. -/
def RjAt (ts : List Tk) (o f i : Value) : Prop := ∃ (k : Nat) (q : ByteArray), i = .int .i64 (k : Int) ∧ k ≤ ts.length ∧ o = .string q ∧ bys q = joinL (textsOf (ts.take k)) ∧ f = .bool (textsOf (ts.take k)).isEmpty

set_option maxRecDepth 100000 in
set_option maxHeartbeats 4000000 in
theorem rjoin_any (A : Option Addr) (ts : List Tk) (c : Nat) (w : World) (hA : TokA w A ts) (hl : ts.length ≤ 100000) (hj : (joinL (textsOf ts)).length ≤ 1000000) :
    Calls Tryd.prog 21 #[.slice A ts.length c] w fun e w' => e = .returned (.string ⟨(joinL (textsOf ts)).toArray⟩) ∧ w = w' := by
  obtain ⟨b, o, hb⟩ := hA.open
  have HA := Lib.hid hb
  have HP : Hid (∀ k, (joinL (textsOf (ts.take k))).length ≤ 1000000) := Lib.hid (fun k => by
    have := joinL_pre (textsOf (ts.take k)) (textsOf (ts.drop k))
    rw [← textsOf_append, List.take_append_drop] at this
    omega)
  clear hb hA hj
  have H0 : Hid (RjAt ts (.string ⟨#[]⟩) (.bool true) (.int .i64 0)) := Lib.hid ⟨0, ⟨#[]⟩, rfl, Nat.zero_le _, rfl, rfl, rfl⟩
  go_enter Tryd.func21, Tryd.ntmps21
  go_wp2_with fail
  go_loop [3, 4, 5] (RjAt ts) (fun _ _ i => ts.length - (intOf i).toNat)
  case atStart => exact H0.out
  case round =>
    obtain ⟨k, q, rfl, hk, rfl, hq, rfl⟩ := hrel
    have HQ := Lib.hid hq
    have hq1 : q.size ≤ 1000000 := by rw [← bys_len, hq]; exact HP.out k
    clear hq H0
    by_cases hlt : k < ts.length
    · obtain ⟨t, ht⟩ := get_ex hlt
      obtain ⟨rfl, hbs2, hc⟩ := HA.out (by intro h; subst h; simp at hlt)
      obtain ⟨g0, g1, g2⟩ := hc k t ht
      have HT := Lib.hid (take_snoc ht)
      have hP1 := HP.out (k + 1)
      rw [HT.out] at hP1
      clear hc ht HA
      by_cases h4 : t.kind = 4
      · have HT2 : Hid (textsOf (ts.take (k + 1)) = textsOf (ts.take k)) := Lib.hid (by rw [HT.out, texts_snoc_end h4])
        have e4 : ((t.kind : Int) == 4) = true := by rw [h4]; rfl
        have e5 : (t.kind == 4) = true := by rw [h4]; rfl
        clear h4 HT hP1
        generalize t.kind = kk at *
        go_wp2_with fail
        go_round
        case rel => exact ⟨k + 1, q, by go_num, by omega, rfl, by rw [HT2.out]; exact HQ.out, by rw [HT2.out]⟩
        case measure => simp [intOf]; omega
      · rw [texts_snoc h4, joinL_snoc] at hP1
        have HT2 : Hid (textsOf (ts.take (k + 1)) = textsOf (ts.take k) ++ [t.text]) := Lib.hid (by rw [HT.out, texts_snoc h4])
        have e4 : ((t.kind : Int) == 4) = false := beq_eq_false_iff_ne.2 (by omega)
        have e5 : (t.kind == 4) = false := beq_eq_false_iff_ne.2 h4
        clear h4 HT
        generalize t.kind = kk at *
        have hsz : (⟨t.text.toArray⟩ : ByteArray).size = t.text.length := by show t.text.toArray.size = _; simp
        have HXB := Lib.hid (bys_mk t.text)
        generalize (⟨t.text.toArray⟩ : ByteArray) = tx at *
        cases hem : (textsOf (ts.take k)).isEmpty with
        | true =>
          have he : textsOf (ts.take k) = [] := by simpa using hem
          rw [if_pos he] at hP1
          have hq0 : q = ⟨#[]⟩ := by have := HQ.out; rw [he] at this; exact bys_of this
          subst hq0
          have HN : Hid (bys ((⟨#[]⟩ : ByteArray) ++ tx) = joinL (textsOf (ts.take (k + 1))) ∧ false = (textsOf (ts.take (k + 1))).isEmpty) := Lib.hid (by
            rw [HT2.out, he, bys_append, HXB.out]
            exact ⟨rfl, rfl⟩)
          clear he hem HT2
          go_wp2_with fail
          go_round
          case rel => exact ⟨k + 1, _, by go_num, by omega, rfl, by first | exact HN.out.1 | (have := HN.out.1; simpa using this), by rw [← HN.out.2]⟩
          case measure => simp [intOf]; omega
        | false =>
          have he : textsOf (ts.take k) ≠ [] := by intro h; rw [h] at hem; cases hem
          rw [if_neg he, List.length_append, List.length_cons] at hP1
          have HN : Hid (bys ((q ++ (⟨#[32]⟩ : ByteArray)) ++ tx) = joinL (textsOf (ts.take (k + 1))) ∧ false = (textsOf (ts.take (k + 1))).isEmpty) := Lib.hid (by
            rw [HT2.out, joinL_snoc, if_neg he, bys_append, bys_append, HXB.out, HQ.out]
            refine ⟨by rw [List.append_assoc]; rfl, ?_⟩
            cases textsOf (ts.take k) <;> rfl)
          have hq2 : (q ++ (⟨#[32]⟩ : ByteArray)).size = q.size + 1 := by rw [ByteArray.size_append]; rfl
          have hq3 : q.size + 1 + tx.size ≤ 1000001 := by
            rw [hsz, ← bys_len, HQ.out]
            omega
          clear he hem HT2 hP1
          go_wp2_with fail
          go_round
          case rel => exact ⟨k + 1, _, by go_num, by omega, rfl, HN.out.1, by rw [← HN.out.2]⟩
          case measure => simp [intOf]; omega
    · have hkk : k = ts.length := by omega
      have hq2 := HQ.out
      rw [hkk, List.take_length] at hq2
      have hq3 := bys_of hq2
      subst hq3
      clear hq2 hkk
      go_wp2_with fail
      go_ret
      exact ⟨rfl, rfl⟩

theorem wp_buildT {o : Oper} {a : Act} {X : World} {K : Act → World → Prop} {Q : Exit → Act → World → Prop} {x : Operand} (ho : o.op = .buildSlice 26 1 #[(0, x)]) {p r : Int} {z : ByteArray} (hx : a.eval x = .agg #[.int .i64 p, .string z, .int .i64 r]) (h : ∀ b W', Below X.heap.size X W' → (∀ j u, [Value.int .i64 p, .string z, .int .i64 r][j]? = some u → W'.cell? ((⟨b, 0, none⟩ : Addr).add j) = some u) → X.heap.size = b → b < W'.heap.size → K (a.put o.dst (.slice (some ⟨b, 0, none⟩) 1 1)) W') : o.wp Tryd.prog a X K Q := by
  have h2 := h _ _ ((Below.refl _ X).alloc (Nat.le_refl _) (.cells #[.int .i64 p, .string z, .int .i64 r] 39)) (World.news_of_block (cs := #[.int .i64 p, .string z, .int .i64 r]) (t := 39) (fr := (0, 0)) (heap_alloc_new X _)) rfl (by simp)
  clear h
  unfold Oper.wp
  generalize a.eval = ev at hx ⊢
  unfold execOp
  rw [ho]
  go_simp
  exact h2
/-- As far as LexIn has come. -/
def RxAt (s : ByteArray) (w : World) (i : Value) (W : World) : Prop := ∃ (k : Nat) (ts : List Tk) (v : Value), i = .int .i64 (k : Int) ∧ k ≤ s.size ∧ ts.length ≤ k ∧ W.ownsRow (w.heap.size + 1 + 1) 39 3 v ts.length (tkVs ts) ∧
  BoxL W (w.heap.size + 1) #[v, .int .i64 0, .int .i64 0] ∧ BoxL W w.heap.size #[.slice none 0 0, .int .i64 0, .int .i64 0] ∧ lex 0 (bys s) = (ts ++ (lex k ((bys s).drop k)).1, (lex k ((bys s).drop k)).2) ∧
  (∀ c r, (bys s).drop k = c :: r → isSp c = false ∧ isCm (c :: r) = false) ∧ Below w.heap.size w W ∧ w.heap.size + 1 + 1 ≤ W.heap.size
def RwAt (s : ByteArray) (k : Nat) (v : Value) : Prop := ∃ m : Nat, v = .int .i64 (m : Int) ∧ k ≤ m ∧ m ≤ s.size ∧ m - k ≤ span isWd ((bys s).drop k)

set_option maxRecDepth 100000 in
set_option maxHeartbeats 8000000 in
theorem rlex_any (s : ByteArray) (w : World) (hs : s.size ≤ 281474976710656) : Calls Tryd.prog 15 #[.string s] w (GiveS (lexR (bys s)) w) := by
  have hst := start1 w #[.slice none 0 0, .int .i64 0, .int .i64 0] 29
  by_cases hbig : 8000 < s.size
  · rw [lexR_big (by rw [bys_len]; exact hbig)]
    obtain ⟨m0, B0⟩ := hst
    obtain ⟨d0, d1, d2⟩ := m0.c3
    obtain ⟨f0, f1, f2⟩ := m0.f3
    have q := m0.s3 (.slice none 0 0) (.int .i64 0) (.int .i64 2)
    obtain ⟨s0, s1, s2⟩ := q.c3
    have HB := below_s3 B0 (Nat.le_refl _) (.slice none 0 0) (.int .i64 0) (.int .i64 2)
    go_enter Tryd.func15, Tryd.ntmps15
    go_upto_region 1 with fail
    generalize w.alloc (.cells #[.slice none 0 0, .int .i64 0, .int .i64 0] 29) = X at *
    go_wp2_with fail
    exact bodyPost_ret (v := .agg #[.slice none 0 0, .int .i64 0, .int .i64 2]) (by simp [results, Tryd.results15, go_sem, s0, s1, s2]) rfl ⟨none, 0, rfl, Nat.le_refl _, fun _ => ⟨rfl, rfl⟩, TokF.nil _ _ _, HB⟩
  have hsz : s.size ≤ 8000 := by omega
  obtain ⟨m0, B0⟩ := hst
  have hst2 := start1 (w.alloc (.cells #[.slice none 0 0, .int .i64 0, .int .i64 0] 29)) #[.slice none 0 0, .int .i64 0, .int .i64 0] 29
  rw [World.size_alloc] at hst2
  have H0 : Hid (∀ j, RB s 0 j → RxAt s w (.int .i64 (j : Int)) ((w.alloc (.cells #[.slice none 0 0, .int .i64 0, .int .i64 0] 29)).alloc (.cells #[.slice none 0 0, .int .i64 0, .int .i64 0] 29))) := Lib.hid (fun j hj => by
    obtain ⟨h1, h2, h3, h4⟩ := hj
    rw [List.drop_zero] at h3
    exact ⟨j, [], _, rfl, h2, Nat.zero_le _, World.ownsRow_nil _ _ _ _, hst2.1, m0.keep (by rw [World.size_alloc]; exact hst2.2), by rw [h3]; simp, h4, B0.alloc (by rw [World.size_alloc]; omega) _, by simp⟩)
  obtain ⟨i0, hi0, hz0, hz1, hz2⟩ := Fr.parts_of infoTok
  have HI := Lib.hid (And.intro hi0 (And.intro hz0 (And.intro hz1 hz2)))
  have HL := Lib.hid (bys_len s)
  have HBL := Lib.hid (fun i (hi : i ≤ s.size) w => rblank_any s i w hi hs)
  clear hst2 m0 B0 hi0 hz0 hz1 hz2 hs
  go_enter Tryd.func15, Tryd.ntmps15
  go_wp2_with (go_at_call 27; refine (HBL.out 0 (Nat.zero_le _) _).mono ?_; rintro e w' ⟨j0, rfl, hj0, rfl⟩)
  have HS0 := Lib.hid (H0.out j0 hj0)
  clear H0 hj0
  go_loopw [4] (RxAt s w) (fun i _ => s.size - (intOf i).toNat)
  case atStart => exact HS0.out
  case round =>
    obtain ⟨k, ts, v, rfl, hk, hts, hrow, hbox, hres, hlex, hstop, hbl, hsz2⟩ := hrel
    have HX := Lib.hid hlex
    have HR := Lib.hid hrow
    have HB := Lib.hid hbl
    have HO := Lib.hid hbox
    have HZ := Lib.hid hres
    have HST := Lib.hid hstop
    clear hlex hrow hbl hbox hres hstop HS0
    by_cases hlt : k < s.size
    · have hd := bys_drop hlt
      obtain ⟨hsp, hcm⟩ := HST.out _ _ hd
      have HTB : Hid ((tok ((bys s).drop k)).2 = 0 → lex k ((bys s).drop k) = ([], some k)) := Lib.hid (by rw [hd]; exact fun h => lex_bad hsp hcm h)
      have HTK : Hid (∀ kk n, tok ((bys s).drop k) = (kk, n) → n ≠ 0 → lex 0 (bys s) = ((ts ++ [⟨kk, ((bys s).drop k).take n, k⟩]) ++ (lex (k + n) ((bys s).drop (k + n))).1, (lex (k + n) ((bys s).drop (k + n))).2)) := Lib.hid (fun kk n h hn => by
        have h1 := lex_tok (a := k) hsp hcm (by rw [← hd, h]; exact hn)
        rw [← hd, h] at h1
        rw [HX.out, h1, List.drop_drop]
        simp)
      have HER : Hid ((tok ((bys s).drop k)).2 = 0 → lexR (bys s) = ([], k, 5)) := Lib.hid (fun h => by
        have := HX.out
        rw [HTB.out h] at this
        exact lexR_bad (by rw [HL.out]; exact hsz) (by rw [this]))
      clear hsp hcm HTB HST HX
      obtain ⟨n, hn⟩ : ∃ n, n = span isWd ((bys s).drop k) := ⟨_, rfl⟩
      have hnl := span_le isWd ((bys s).drop k)
      rw [← hn, List.length_drop, HL.out] at hnl
      have hkn : k + n ≤ s.size := by omega
      have HSPN := Lib.hid hn
      have HKC : Hid (Calls Tryd.prog 29 #[.string (s.extract k (k + n))] wr fun e w' => e = .returned (.int .i64 (wkind (((bys s).drop k).take n) : Nat)) ∧ wr = w') := Lib.hid (by
        have h1 := rkind_any (s.extract k (k + n)) wr (by rw [ByteArray.size_extract]; omega)
        have e : bys (s.extract k (k + n)) = ((bys s).drop k).take n := by rw [bys_mid, bys_mk]
        have e2 : rkF (((bys s).drop k).take n) = wkind (((bys s).drop k).take n) := by
          unfold rkF
          rw [if_pos]
          rw [List.all_eq_true, hn]
          exact span_all isWd _
        rw [e, e2] at h1
        exact h1)
      have HM : Hid (∀ n, s.extract k (k + n) = ⟨(((bys s).drop k).take n).toArray⟩) := Lib.hid (fun n => bys_mid)
      have HTOK : Hid (tok ((bys s).drop k) = if n ≠ 0 then (if wkind (((bys s).drop k).take n) ≠ 0 then (wkind (((bys s).drop k).take n), n) else (0, 0)) else if sgn ((bys s).drop k) ≠ 0 then (3, sgn ((bys s).drop k)) else (0, 0)) := Lib.hid (by unfold tok; rw [← hn])
      have HSG := Lib.hid (rsign_any s k wr hlt (by omega))
      have hgl := sgn_le ((bys s).drop k)
      rw [List.length_drop, HL.out] at hgl
      clear hn hd hnl
      go_upto_block 2 with fail
      go_cut [5] (fun v wx => v = .int .i64 ((k + n : Nat) : Int) ∧ wr = wx)
      case first =>
        clear HR HO HZ HB HKC HSG HER HTK HTOK
        have hcw := fun (c : UInt8) w => rword_any c w
        go_wp2_with fail
        go_loop [5] (RwAt s k) (fun v => s.size - (intOf v).toNat)
        case atStart => exact ⟨k, rfl, Nat.le_refl _, hk, by omega⟩
        case round =>
          obtain ⟨m, rfl, hkm, hm, hsp⟩ := hrel
          have HSP := Lib.hid hsp
          clear hsp
          by_cases hlm : m < s.size
          · have hg := bys_get hlm
            have HG : Hid (((bys s).drop k)[m - k]? = some s[m]) := Lib.hid (by rw [List.getElem?_drop, show k + (m - k) = m by omega]; exact hg)
            clear hg
            generalize hee : s[m] = b at *
            have hc := fun w => hcw b w
            cases q3 : isWd b with
            | false =>
              rw [q3] at hc
              have hse := span_end HSP.out HG.out q3
              have HE : Hid (Value.int .i64 (m : Int) = .int .i64 ((k + n : Nat) : Int)) := Lib.hid (by have := HSPN.out; congr 1; omega)
              clear q3 hse
              go_wp2_with (go_at_call 28; refine (hc _).mono ?_; rintro e w' ⟨rfl, rfl⟩)
              go_meet
              exact ⟨HE.out, rfl⟩
            | true =>
              rw [q3] at hc
              have HP : Hid (m + 1 - k ≤ span isWd ((bys s).drop k)) := Lib.hid (by
                have := span_one HSP.out HG.out q3
                omega)
              clear q3
              go_wp2_with (go_at_call 28; refine (hc _).mono ?_; rintro e w' ⟨rfl, rfl⟩)
              go_round
              case rel => exact ⟨m + 1, by go_num, by omega, by omega, HP.out⟩
              case measure => simp [intOf]; omega
          · have HE : Hid (Value.int .i64 (m : Int) = .int .i64 ((k + n : Nat) : Int)) := Lib.hid (by
              have h1 := HSPN.out
              have h2 := HSP.out
              have h3 := span_le isWd ((bys s).drop k)
              rw [List.length_drop, HL.out] at h3
              congr 1; omega)
            go_wp2_with fail
            go_meet
            exact ⟨HE.out, rfl⟩
      case rest =>
        obtain ⟨rfl, rfl⟩ := hcut
        have i1 : (0 : Int) ≤ (k : Int) := by omega
        have i2 : (k : Int) ≤ (s.size : Int) := by omega
        obtain ⟨c, hc⟩ : ∃ c : Nat, c = k + n := ⟨_, rfl⟩
        rw [← hc] at HKC ⊢
        have i3 : (k : Int) ≤ (c : Int) := by omega
        have i4 : (c : Int) ≤ (s.size : Int) := by omega
        have hcs : c ≤ s.size := by omega
        have HCC := Lib.hid hc
        clear hc
        generalize hK : wkind (((bys s).drop k).take n) = kd at *
        go_upto_region 10 with (go_at_call 29; with_reducible refine HKC.out.mono ?_; rintro e w' ⟨rfl, rfl⟩)
        clear HKC
        by_cases hn0 : n = 0
        · have hck : c = k := by have := HCC.out; omega
          clear HCC i3 i4
          subst hck
          have e0 : ((c : Int) == (c : Int)) = true := by simp
          go_upto_region 12 with (go_at_call 30; with_reducible refine HSG.out.mono ?_; rintro e w1 ⟨rfl, hb⟩)
          clear HSG e0
          have HG2 := Lib.hid (show tok ((bys s).drop c) = if sgn ((bys s).drop c) ≠ 0 then (3, sgn ((bys s).drop c)) else (0, 0) by rw [HTOK.out, if_neg (by omega)])
          generalize sgn ((bys s).drop c) = g at *
          have HR1 := Lib.hid (row_keep HR.out hb)
          have HO1 := Lib.hid (HO.out.keep hb)
          have HZ1 := Lib.hid (HZ.out.keep hb)
          have HB1 := Lib.hid (HB.out.trans (hb.mono HB.out.size))
          have hsz3 : w.heap.size + 1 + 1 ≤ w1.heap.size := Nat.le_trans hsz2 hb.size
          clear hb HR HO HZ HB HTOK hsz2
          by_cases hg0 : g = 0
          · have HQ := Lib.hid (HER.out (by rw [HG2.out, if_neg (by omega)]))
            subst hg0
            clear HER HG2 HTK
            obtain ⟨d0, d1, d2⟩ := HZ1.out.c3
            obtain ⟨f0, f1, f2⟩ := HZ1.out.f3
            have q := HZ1.out.s3 (.slice none 0 0) (.int .i64 (c : Int)) (.int .i64 5)
            have HB9 := Lib.hid (below_s3 HB1.out (Nat.le_refl _) (.slice none 0 0) (.int .i64 (c : Int)) (.int .i64 5))
            go_wp2_with fail
            obtain ⟨s0, s1, s2⟩ := q.c3
            rw [HQ.out]
            exact bodyPost_ret (v := .agg #[.slice none 0 0, .int .i64 (c : Int), .int .i64 5]) (by simp [results, Tryd.results15, go_sem, s0, s1, s2]) rfl ⟨none, 0, rfl, Nat.le_refl _, fun _ => ⟨rfl, rfl⟩, TokF.nil _ _ _, HB9.out⟩
          · obtain ⟨d, hd⟩ : ∃ d : Nat, d = c + g := ⟨_, rfl⟩
            have hw : (c : Int) + (g : Int) = (d : Int) := by omega
            rw [hw]
            have HY := Lib.hid (HTK.out 3 g (by rw [HG2.out, if_pos hg0]) hg0)
            rw [← hd] at HY
            have HMM := Lib.hid (HM.out g)
            rw [← hd] at HMM
            have i3 : (c : Int) ≤ (d : Int) := by omega
            have i4 : (d : Int) ≤ (s.size : Int) := by omega
            have hds : d ≤ s.size := by omega
            have hkd : c < d := by omega
            have e1 : ((d : Int) == (c : Int)) = false := beq_eq_false_iff_ne.2 (by omega)
            have e2 : (d == c) = false := beq_eq_false_iff_ne.2 (by omega)
            clear HER HG2 HTK HM hg0 hd
            go_upto_region 15 with fail
            clear hw e1 e2
            have hcs9 : d ≤ s.size := by omega
            obtain ⟨hi0, hz0, hz1, hz2⟩ := HI.out
            have a0 := HO1.out.c3.1
            have hO := HO1.out
            have hZ := HZ1.out
            have hr := HR1.out
            have hob := hO.lt
            have hB0 : Below w1.heap.size w1 w1.drew := (Below.refl _ w1).drew
            refine wp_region_till (fun w' => w'.cell? ⟨w.heap.size + 1, 0, none⟩ = some v) 12 (by kernel_rfl) a0 (fun hHeld => ?_)
            refine anyTill.reads (i := 0) rfl (by kernel_rfl) (by kernel_rfl) (by kernel_rfl) (by kernel_rfl) (fun _ _ _ h => h) (by rfl) (v := ?_) ?_ (by assumption) ?_
            rotate_left
            · intro wz hz; (try dsimp only at hz); go_split_ands; go_simp; try with_reducible rfl
            simp only [Act.put, List.setIfInBounds_toArray, List.set_cons_zero, List.set_cons_succ]
            refine anyTill.reads (i := 1) rfl (by kernel_rfl) (by kernel_rfl) (by kernel_rfl) (by kernel_rfl) (fun _ _ _ h => h) (by rfl) (v := ?_) ?_ (by assumption) ?_
            rotate_left
            · intro wz hz; (try dsimp only at hz); go_split_ands; go_simp; try with_reducible rfl
            simp only [Act.put, List.setIfInBounds_toArray, List.set_cons_zero, List.set_cons_succ]
            refine anyTill.reads (i := 2) rfl (by kernel_rfl) (by kernel_rfl) (by kernel_rfl) (by kernel_rfl) (fun _ _ _ h => h) (by rfl) (v := ?_) ?_ (by assumption) ?_
            rotate_left
            · intro wz hz; (try dsimp only at hz); go_split_ands; go_simp; try with_reducible rfl
            simp only [Act.put, List.setIfInBounds_toArray, List.set_cons_zero, List.set_cons_succ]
            refine anyTill.reads (i := 3) rfl (by kernel_rfl) (by kernel_rfl) (by kernel_rfl) (by kernel_rfl) (fun _ _ _ h => h) (by rfl) (v := ?_) ?_ (by assumption) ?_
            rotate_left
            · intro wz hz; (try dsimp only at hz); go_split_ands; go_simp; try with_reducible rfl
            simp only [Act.put, List.setIfInBounds_toArray, List.set_cons_zero, List.set_cons_succ]
            refine anyTill.reads (i := 4) rfl (by kernel_rfl) (by kernel_rfl) (by kernel_rfl) (by kernel_rfl) (fun _ _ _ h => h) (by rfl) (v := ?_) ?_ (by assumption) ?_
            rotate_left
            · intro wz hz; (try dsimp only at hz); go_split_ands; go_simp; try with_reducible rfl
            simp only [Act.put, List.setIfInBounds_toArray, List.set_cons_zero, List.set_cons_succ]
            refine anyTill.reads (i := 5) rfl (by kernel_rfl) (by kernel_rfl) (by kernel_rfl) (by kernel_rfl) (fun _ _ _ h => h) (by rfl) (v := ?_) ?_ (by assumption) ?_
            rotate_left
            · intro wz hz; (try dsimp only at hz); go_split_ands; go_simp; try with_reducible rfl
            simp only [Act.put, List.setIfInBounds_toArray, List.set_cons_zero, List.set_cons_succ]
            refine anyTill.reads (i := 6) rfl (by kernel_rfl) (by kernel_rfl) (by kernel_rfl) (by kernel_rfl) (fun _ _ _ h => h) (by rfl) (v := ?_) ?_ (by assumption) ?_
            rotate_left
            · intro wz hz; (try dsimp only at hz); go_split_ands; go_simp; try with_reducible rfl
            simp only [Act.put, List.setIfInBounds_toArray, List.set_cons_zero, List.set_cons_succ]
            refine anyTill.reads (i := 7) rfl (by kernel_rfl) (by kernel_rfl) (by kernel_rfl) (by kernel_rfl) (fun _ _ _ h => h) (by rfl) (v := ?_) ?_ (by assumption) ?_
            rotate_left
            · intro wz hz; (try dsimp only at hz); go_split_ands; go_simp; try with_reducible rfl
            simp only [Act.put, List.setIfInBounds_toArray, List.set_cons_zero, List.set_cons_succ]
            refine anyTill.reads (i := 8) rfl (by kernel_rfl) (by kernel_rfl) (by kernel_rfl) (by kernel_rfl) (fun _ _ _ h => h) (by rfl) (v := ?_) ?_ (by assumption) ?_
            rotate_left
            · intro wz hz; (try dsimp only at hz); go_split_ands; go_simp; try with_reducible rfl
            simp only [Act.put, List.setIfInBounds_toArray, List.set_cons_zero, List.set_cons_succ]
            refine anyTill.alone (i := 9) rfl (by kernel_rfl) (by rfl) (fun K hK => ?_)
            refine wp_buildT (p := (3 : Int)) (r := (c : Int)) (z := s.extract c d) rfl (by rfl) ?_
            intro b9 W9 hb9 hn9 he9 hl9
            have hB9 := hB0.trans (hb9.mono hB0.size)
            have hr9 := row_keep hr hB9
            refine hK.out _ _ (fun _ => ?_) (fun hHeld0 => ?_)
            · exact (hB9.cell (p := ⟨w.heap.size + 1, 0, none⟩) hob).trans a0
            have hHeld := hHeld0 (by decide)
            clear hHeld0
            clear hK K
            try simp only [Act.put, List.setIfInBounds_toArray, List.set_cons_zero, List.set_cons_succ]
            refine anyTill.alone (i := 10) rfl (by kernel_rfl) (by rfl) (fun K hK => ?_)
            refine wp_append_lies _ _ _ _ (by rfl) (w.heap.size + 1 + 1) 39 i0 (.agg #[.int .i64 0, .string ⟨#[]⟩, .int .i64 0]) 3 32 Tryd.underlying26 hi0 hz0 hz1 hz2 rfl (by decide) v ts.length (tkVs ts) (by rfl) hr9 ⟨b9, 0, none⟩ 1 1 [.int .i64 (3 : Int), .string (s.extract c d), .int .i64 (c : Int)] (by rfl) (by rfl) hn9 (by simp [Value.oneCell']) (by omega) (by unfold maxLen; omega) (by omega) (by have := hB9.size; omega) _ rfl ?_
            intro g' cap' wx hown9 hgrow9 hat9 hlt9
            have hO9 := (hO.keep hB9).grown hgrow9 (fun h => by have := (hr9.lt _ h.symm).1; omega)
            have hZ9 := (hZ.keep hB9).grown hgrow9 (fun h => by have := (hr9.lt _ h.symm).1; omega)
            have hB10 := (HB1.out.trans (hB9.mono HB1.out.size)).grown hgrow9 (by have := hB9.size; have := HB1.out.size; omega) (fun g2 hg2 => by have := (hr9.lt g2 hg2).1; omega)
            have hsz10 : w.heap.size + 1 + 1 ≤ wx.heap.size := by have := hB9.size; have := hgrow9.size; omega
            refine hK.out _ _ (fun _ => ?_) (fun hHeld0 => ?_)
            · exact hO9.c3.1
            have hHeld := hHeld0 (by decide)
            clear hHeld0
            clear hK K
            try simp only [Act.put, List.setIfInBounds_toArray, List.set_cons_zero, List.set_cons_succ]
            refine anyTill.alone (i := 11) rfl (by kernel_rfl) (by rfl) (fun K hK => ?_)
            go_simp
            refine hK.out _ _ (fun _ => ?_) (fun hHeld0 => ?_)
            · exact hO9.c3.1
            have hHeld := hHeld0 (by decide)
            clear hHeld0
            clear hK K
            try simp only [Act.put, List.setIfInBounds_toArray, List.set_cons_zero, List.set_cons_succ]
            obtain ⟨q0, q1, q2⟩ := hO9.c3
            obtain ⟨p0, p1, p2⟩ := hO9.f3
            refine anyTill.alone (i := 12) rfl (by kernel_rfl) (by rfl) (fun K hK => ?_)
            go_simp
            refine hK.out _ _ (fun h => absurd h (by decide)) (fun hHeld => ?_)
            clear hK K
            try simp only [Act.put, List.setIfInBounds_toArray, List.set_cons_zero, List.set_cons_succ]
            refine anyTill.done (by kernel_rfl) ?_ _
            have HO9 := Lib.hid (hO9.set1 (i := 0) (by simp) (.slice (some ⟨g', 0, none⟩) (ts.length + 1) cap'))
            have HZ9 := Lib.hid (hZ9.far1 (b := w.heap.size + 1) (by omega) 0 (.slice (some ⟨g', 0, none⟩) (ts.length + 1) cap'))
            have HB9 := Lib.hid (below_set1 hB10 (b := w.heap.size + 1) (by omega) 0 (.slice (some ⟨g', 0, none⟩) (ts.length + 1) cap'))
            have HR9 : Hid ((wx.setCell ⟨w.heap.size + 1, 0, none⟩ (.slice (some ⟨g', 0, none⟩) (ts.length + 1) cap')).ownsRow (w.heap.size + 1 + 1) 39 3 (.slice (some ⟨g', 0, none⟩) (ts.length + 1) cap') (ts ++ [Tk.mk 3 (((bys s).drop c).take g) c]).length (tkVs (ts ++ [Tk.mk 3 (((bys s).drop c).take g) c]))) := Lib.hid (by
              rw [HMM.out] at hown9
              rw [tkVs_append, tkVs_one, List.length_append]
              exact ownsRow_setCell_below hown9 (a := ⟨w.heap.size + 1, 0, none⟩) (by show w.heap.size + 1 < _; omega) _)
            clear hHeld q0 q1 q2 p0 p1 p2 hown9 hgrow9 hat9 hO9 hZ9 hB10 hr9 hn9 hb9 hB9 hB0 a0 hO hZ hr hi0 hz0 hz1 hz2 HR1 HO1 HZ1 HB1 HMM
            generalize hwx : wx.setCell ⟨w.heap.size + 1, 0, none⟩ (.slice (some ⟨g', 0, none⟩) (ts.length + 1) cap') = Y at *
            have hszY : w.heap.size + 1 + 1 ≤ Y.heap.size := by rw [← hwx]; simpa using hsz10
            clear hwx hsz10
            go_wp2_with (go_at_call 27; refine (HBL.out d hcs9 _).mono ?_; rintro e w' ⟨j9, rfl, hj9, rfl⟩)
            obtain ⟨h1, h2, h3, h4⟩ := hj9
            have HY9 := HY.out
            rw [h3] at HY9
            have HYY := Lib.hid HY9
            have H4 := Lib.hid h4
            clear HY9 h3 h4 HY
            go_roundw
            case rel => exact ⟨j9, _, _, rfl, h2, by rw [List.length_append]; simp; omega, HR9.out, by have := HO9.out; simpa using this, HZ9.out, HYY.out, H4.out, HB9.out, hszY⟩
            case measure => simp [intOf]; omega
        · have e1 : ((c : Int) == (k : Int)) = false := beq_eq_false_iff_ne.2 (by have := HCC.out; omega)
          have e2 : (c == k) = false := beq_eq_false_iff_ne.2 (by have := HCC.out; omega)
          have HG2 := Lib.hid (show tok ((bys s).drop k) = if kd ≠ 0 then (kd, n) else (0, 0) by rw [HTOK.out, if_pos hn0])
          clear HTOK HSG
          by_cases hK0 : kd = 0
          · have HQ := Lib.hid (HER.out (by rw [HG2.out, if_neg (by omega)]))
            subst hK0
            clear HER HG2 HTK
            obtain ⟨d0, d1, d2⟩ := HZ.out.c3
            obtain ⟨f0, f1, f2⟩ := HZ.out.f3
            have q := HZ.out.s3 (.slice none 0 0) (.int .i64 (k : Int)) (.int .i64 5)
            have HB9 := Lib.hid (below_s3 HB.out (Nat.le_refl _) (.slice none 0 0) (.int .i64 (k : Int)) (.int .i64 5))
            go_wp2_with fail
            obtain ⟨s0, s1, s2⟩ := q.c3
            rw [HQ.out]
            exact bodyPost_ret (v := .agg #[.slice none 0 0, .int .i64 (k : Int), .int .i64 5]) (by simp [results, Tryd.results15, go_sem, s0, s1, s2]) rfl ⟨none, 0, rfl, Nat.le_refl _, fun _ => ⟨rfl, rfl⟩, TokF.nil _ _ _, HB9.out⟩
          · have e3 : ((kd : Int) == 0) = false := beq_eq_false_iff_ne.2 (by omega)
            have e4 : (kd == 0) = false := beq_eq_false_iff_ne.2 hK0
            have HY := Lib.hid (HTK.out kd n (by rw [HG2.out, if_pos hK0]) hn0)
            rw [← HCC.out] at HY
            have HMM := Lib.hid (HM.out n)
            rw [← HCC.out] at HMM
            have hkd : k < c := by have := HCC.out; omega
            clear HER HG2 HTK HM HCC
            go_upto_region 15 with fail
            clear e1 e2 e3 e4
            have hcs9 : c ≤ s.size := by omega
            obtain ⟨hi0, hz0, hz1, hz2⟩ := HI.out
            have a0 := HO.out.c3.1
            have hO := HO.out
            have hZ := HZ.out
            have hr := HR.out
            have hob := hO.lt
            have hB0 : Below wr.heap.size wr wr.drew := (Below.refl _ wr).drew
            refine wp_region_till (fun w' => w'.cell? ⟨w.heap.size + 1, 0, none⟩ = some v) 12 (by kernel_rfl) a0 (fun hHeld => ?_)
            refine anyTill.reads (i := 0) rfl (by kernel_rfl) (by kernel_rfl) (by kernel_rfl) (by kernel_rfl) (fun _ _ _ h => h) (by rfl) (v := ?_) ?_ (by assumption) ?_
            rotate_left
            · intro wz hz; (try dsimp only at hz); go_split_ands; go_simp; try with_reducible rfl
            simp only [Act.put, List.setIfInBounds_toArray, List.set_cons_zero, List.set_cons_succ]
            refine anyTill.reads (i := 1) rfl (by kernel_rfl) (by kernel_rfl) (by kernel_rfl) (by kernel_rfl) (fun _ _ _ h => h) (by rfl) (v := ?_) ?_ (by assumption) ?_
            rotate_left
            · intro wz hz; (try dsimp only at hz); go_split_ands; go_simp; try with_reducible rfl
            simp only [Act.put, List.setIfInBounds_toArray, List.set_cons_zero, List.set_cons_succ]
            refine anyTill.reads (i := 2) rfl (by kernel_rfl) (by kernel_rfl) (by kernel_rfl) (by kernel_rfl) (fun _ _ _ h => h) (by rfl) (v := ?_) ?_ (by assumption) ?_
            rotate_left
            · intro wz hz; (try dsimp only at hz); go_split_ands; go_simp; try with_reducible rfl
            simp only [Act.put, List.setIfInBounds_toArray, List.set_cons_zero, List.set_cons_succ]
            refine anyTill.reads (i := 3) rfl (by kernel_rfl) (by kernel_rfl) (by kernel_rfl) (by kernel_rfl) (fun _ _ _ h => h) (by rfl) (v := ?_) ?_ (by assumption) ?_
            rotate_left
            · intro wz hz; (try dsimp only at hz); go_split_ands; go_simp; try with_reducible rfl
            simp only [Act.put, List.setIfInBounds_toArray, List.set_cons_zero, List.set_cons_succ]
            refine anyTill.reads (i := 4) rfl (by kernel_rfl) (by kernel_rfl) (by kernel_rfl) (by kernel_rfl) (fun _ _ _ h => h) (by rfl) (v := ?_) ?_ (by assumption) ?_
            rotate_left
            · intro wz hz; (try dsimp only at hz); go_split_ands; go_simp; try with_reducible rfl
            simp only [Act.put, List.setIfInBounds_toArray, List.set_cons_zero, List.set_cons_succ]
            refine anyTill.reads (i := 5) rfl (by kernel_rfl) (by kernel_rfl) (by kernel_rfl) (by kernel_rfl) (fun _ _ _ h => h) (by rfl) (v := ?_) ?_ (by assumption) ?_
            rotate_left
            · intro wz hz; (try dsimp only at hz); go_split_ands; go_simp; try with_reducible rfl
            simp only [Act.put, List.setIfInBounds_toArray, List.set_cons_zero, List.set_cons_succ]
            refine anyTill.reads (i := 6) rfl (by kernel_rfl) (by kernel_rfl) (by kernel_rfl) (by kernel_rfl) (fun _ _ _ h => h) (by rfl) (v := ?_) ?_ (by assumption) ?_
            rotate_left
            · intro wz hz; (try dsimp only at hz); go_split_ands; go_simp; try with_reducible rfl
            simp only [Act.put, List.setIfInBounds_toArray, List.set_cons_zero, List.set_cons_succ]
            refine anyTill.reads (i := 7) rfl (by kernel_rfl) (by kernel_rfl) (by kernel_rfl) (by kernel_rfl) (fun _ _ _ h => h) (by rfl) (v := ?_) ?_ (by assumption) ?_
            rotate_left
            · intro wz hz; (try dsimp only at hz); go_split_ands; go_simp; try with_reducible rfl
            simp only [Act.put, List.setIfInBounds_toArray, List.set_cons_zero, List.set_cons_succ]
            refine anyTill.reads (i := 8) rfl (by kernel_rfl) (by kernel_rfl) (by kernel_rfl) (by kernel_rfl) (fun _ _ _ h => h) (by rfl) (v := ?_) ?_ (by assumption) ?_
            rotate_left
            · intro wz hz; (try dsimp only at hz); go_split_ands; go_simp; try with_reducible rfl
            simp only [Act.put, List.setIfInBounds_toArray, List.set_cons_zero, List.set_cons_succ]
            refine anyTill.alone (i := 9) rfl (by kernel_rfl) (by rfl) (fun K hK => ?_)
            refine wp_buildT (p := (kd : Int)) (r := (k : Int)) (z := s.extract k c) rfl (by rfl) ?_
            intro b9 W9 hb9 hn9 he9 hl9
            have hB9 := hB0.trans (hb9.mono hB0.size)
            have hr9 := row_keep hr hB9
            refine hK.out _ _ (fun _ => ?_) (fun hHeld0 => ?_)
            · exact (hB9.cell (p := ⟨w.heap.size + 1, 0, none⟩) hob).trans a0
            have hHeld := hHeld0 (by decide)
            clear hHeld0
            clear hK K
            try simp only [Act.put, List.setIfInBounds_toArray, List.set_cons_zero, List.set_cons_succ]
            refine anyTill.alone (i := 10) rfl (by kernel_rfl) (by rfl) (fun K hK => ?_)
            refine wp_append_lies _ _ _ _ (by rfl) (w.heap.size + 1 + 1) 39 i0 (.agg #[.int .i64 0, .string ⟨#[]⟩, .int .i64 0]) 3 32 Tryd.underlying26 hi0 hz0 hz1 hz2 rfl (by decide) v ts.length (tkVs ts) (by rfl) hr9 ⟨b9, 0, none⟩ 1 1 [.int .i64 (kd : Int), .string (s.extract k c), .int .i64 (k : Int)] (by rfl) (by rfl) hn9 (by simp [Value.oneCell']) (by omega) (by unfold maxLen; omega) (by omega) (by have := hB9.size; omega) _ rfl ?_
            intro g' cap' wx hown9 hgrow9 hat9 hlt9
            have hO9 := (hO.keep hB9).grown hgrow9 (fun h => by have := (hr9.lt _ h.symm).1; omega)
            have hZ9 := (hZ.keep hB9).grown hgrow9 (fun h => by have := (hr9.lt _ h.symm).1; omega)
            have hB10 := (HB.out.trans (hB9.mono HB.out.size)).grown hgrow9 (by have := hB9.size; have := HB.out.size; omega) (fun g2 hg2 => by have := (hr9.lt g2 hg2).1; omega)
            have hsz10 : w.heap.size + 1 + 1 ≤ wx.heap.size := by have := hB9.size; have := hgrow9.size; omega
            refine hK.out _ _ (fun _ => ?_) (fun hHeld0 => ?_)
            · exact hO9.c3.1
            have hHeld := hHeld0 (by decide)
            clear hHeld0
            clear hK K
            try simp only [Act.put, List.setIfInBounds_toArray, List.set_cons_zero, List.set_cons_succ]
            refine anyTill.alone (i := 11) rfl (by kernel_rfl) (by rfl) (fun K hK => ?_)
            go_simp
            refine hK.out _ _ (fun _ => ?_) (fun hHeld0 => ?_)
            · exact hO9.c3.1
            have hHeld := hHeld0 (by decide)
            clear hHeld0
            clear hK K
            try simp only [Act.put, List.setIfInBounds_toArray, List.set_cons_zero, List.set_cons_succ]
            obtain ⟨q0, q1, q2⟩ := hO9.c3
            obtain ⟨p0, p1, p2⟩ := hO9.f3
            refine anyTill.alone (i := 12) rfl (by kernel_rfl) (by rfl) (fun K hK => ?_)
            go_simp
            refine hK.out _ _ (fun h => absurd h (by decide)) (fun hHeld => ?_)
            clear hK K
            try simp only [Act.put, List.setIfInBounds_toArray, List.set_cons_zero, List.set_cons_succ]
            refine anyTill.done (by kernel_rfl) ?_ _
            have HO9 := Lib.hid (hO9.set1 (i := 0) (by simp) (.slice (some ⟨g', 0, none⟩) (ts.length + 1) cap'))
            have HZ9 := Lib.hid (hZ9.far1 (b := w.heap.size + 1) (by omega) 0 (.slice (some ⟨g', 0, none⟩) (ts.length + 1) cap'))
            have HB9 := Lib.hid (below_set1 hB10 (b := w.heap.size + 1) (by omega) 0 (.slice (some ⟨g', 0, none⟩) (ts.length + 1) cap'))
            have HR9 : Hid ((wx.setCell ⟨w.heap.size + 1, 0, none⟩ (.slice (some ⟨g', 0, none⟩) (ts.length + 1) cap')).ownsRow (w.heap.size + 1 + 1) 39 3 (.slice (some ⟨g', 0, none⟩) (ts.length + 1) cap') (ts ++ [Tk.mk kd (((bys s).drop k).take n) k]).length (tkVs (ts ++ [Tk.mk kd (((bys s).drop k).take n) k]))) := Lib.hid (by
              rw [HMM.out] at hown9
              rw [tkVs_append, tkVs_one, List.length_append]
              exact ownsRow_setCell_below hown9 (a := ⟨w.heap.size + 1, 0, none⟩) (by show w.heap.size + 1 < _; omega) _)
            clear hHeld q0 q1 q2 p0 p1 p2 hown9 hgrow9 hat9 hO9 hZ9 hB10 hr9 hn9 hb9 hB9 hB0 a0 hO hZ hr hi0 hz0 hz1 hz2 HR HO HZ HB HMM
            generalize hwx : wx.setCell ⟨w.heap.size + 1, 0, none⟩ (.slice (some ⟨g', 0, none⟩) (ts.length + 1) cap') = Y at *
            have hszY : w.heap.size + 1 + 1 ≤ Y.heap.size := by rw [← hwx]; simpa using hsz10
            clear hwx hsz10
            go_wp2_with (go_at_call 27; refine (HBL.out c hcs9 _).mono ?_; rintro e w' ⟨j9, rfl, hj9, rfl⟩)
            obtain ⟨h1, h2, h3, h4⟩ := hj9
            have HY9 := HY.out
            rw [h3] at HY9
            have HYY := Lib.hid HY9
            have H4 := Lib.hid h4
            clear HY9 h3 h4 HY
            go_roundw
            case rel => exact ⟨j9, _, _, rfl, h2, by rw [List.length_append]; simp; omega, HR9.out, by have := HO9.out; simpa using this, HZ9.out, HYY.out, H4.out, HB9.out, hszY⟩
            case measure => simp [intOf]; omega
    · have hkk : k = s.size := by omega
      have HQ : Hid (lexR (bys s) = (ts ++ [endT s.size], 0, 0)) := Lib.hid (by
        have := HX.out
        rw [List.drop_of_length_le (by rw [HL.out]; omega), lex_nil, List.append_nil] at this
        have h2 := lexR_ok (l := bys s) (by rw [HL.out]; exact hsz) (by rw [this])
        rw [h2, this, HL.out])
      clear HX HST HBL
      obtain ⟨hi0, hz0, hz1, hz2⟩ := HI.out
      have B4 := (Below.refl _ wr).alloc (Nat.le_refl _) (.cells #[.int .i64 4, .string ⟨#[]⟩, .int .i64 (s.size : Int)] 39)
      have HR3 := Lib.hid (row_keep HR.out B4)
      have HOWN := Lib.hid (fun g hg => (HR.out.lt g hg).1)
      have B5 := Lib.hid (HB.out.trans (B4.mono HB.out.size))
      have hsw := HB.out.size
      have HO3 := Lib.hid (HO.out.keep B4)
      have HZ3 := Lib.hid (HZ.out.keep B4)
      obtain ⟨d0, d1, d2⟩ := HO.out.c3
      clear B4 hkk
      go_upto_region 18 with (at_builtin; refine wpList_append_lies _ rfl _ _ 26 rfl (w.heap.size + 1 + 1) 39 i0 (.agg #[.int .i64 0, .string ⟨#[]⟩, .int .i64 0]) 3 32 Tryd.underlying26 hi0 hz0 hz1 hz2 rfl (by decide) _ _ _ rfl (HR3.out) ⟨wr.heap.size, 0, none⟩ 1 1 [.int .i64 4, .string ⟨#[]⟩, .int .i64 (s.size : Int)] rfl rfl (World.news_of_block (cs := #[.int .i64 4, .string ⟨#[]⟩, .int .i64 (s.size : Int)]) (t := 39) (fr := (0, 0)) (heap_alloc_new wr _)) (by simp [Value.oneCell']) (by decide) (by unfold maxLen; omega) (by omega) (by simp; omega) _ rfl ?_; intro g' cap' w1 hown1 hgrow1 hat1 hlt1; obtain ⟨y0, y1, y2⟩ := (HO3.out.grown hgrow1 (fun h => by have := HOWN.out _ h.symm; omega)).c3; obtain ⟨x0, x1, x2⟩ := (HO3.out.grown hgrow1 (fun h => by have := HOWN.out _ h.symm; omega)).f3)
      have hO1 := HO3.out.grown hgrow1 (fun h => by have := HOWN.out _ h.symm; omega)
      have hZ1 := HZ3.out.grown hgrow1 (fun h => by have := HOWN.out _ h.symm; omega)
      have hB1 := B5.out.grown hgrow1 (by simp; omega) (fun g hg => by have := HOWN.out g hg; omega)
      have HOY := Lib.hid (hO1.set1 (i := 0) (by simp) (.slice (some ⟨g', 0, none⟩) (ts.length + 1) cap'))
      have HZY := Lib.hid (hZ1.far1 (b := w.heap.size + 1) (by omega) 0 (.slice (some ⟨g', 0, none⟩) (ts.length + 1) cap'))
      have HBY := Lib.hid (below_set1 hB1 (b := w.heap.size + 1) (by omega) 0 (.slice (some ⟨g', 0, none⟩) (ts.length + 1) cap'))
      have HRY : Hid ((w1.setCell ⟨w.heap.size + 1, 0, none⟩ (.slice (some ⟨g', 0, none⟩) (ts.length + 1) cap')).ownsRow (w.heap.size + 1 + 1) 39 3 (.slice (some ⟨g', 0, none⟩) (ts.length + 1) cap') (ts ++ [endT s.size]).length (tkVs (ts ++ [endT s.size]))) := Lib.hid (by
        rw [tkVs_append, tkVs_one, List.length_append]
        exact ownsRow_setCell_below hown1 (a := ⟨w.heap.size + 1, 0, none⟩) (by show w.heap.size + 1 < _; omega) _)
      clear hO1 hZ1 hB1 hown1 hgrow1 hat1 hlt1 y0 y1 y2 x0 x1 x2 HR3 HO3 HZ3 B5 d0 d1 d2 hi0 hz0 hz1 hz2 HR HO HZ HB
      generalize w1.setCell ⟨w.heap.size + 1, 0, none⟩ (.slice (some ⟨g', 0, none⟩) (ts.length + 1) cap') = Y at *
      have hoy := HOY.out
      simp at hoy
      obtain ⟨o0, o1, o2⟩ := hoy.c3
      obtain ⟨z0, z1, z2⟩ := HZY.out.c3
      obtain ⟨f0, f1, f2⟩ := HZY.out.f3
      have q := HZY.out.s3 (.slice (some ⟨g', 0, none⟩) (ts.length + 1) cap') (.int .i64 0) (.int .i64 0)
      have hrow9 := ownsRow_setCell_below (ownsRow_setCell_below (ownsRow_setCell_below HRY.out (a := ⟨w.heap.size, 0, none⟩) (by show w.heap.size < _; omega) (.slice (some ⟨g', 0, none⟩) (ts.length + 1) cap')) (a := ⟨w.heap.size, 1, none⟩) (by show w.heap.size < _; omega) (.int .i64 0)) (a := ⟨w.heap.size, 2, none⟩) (by show w.heap.size < _; omega) (.int .i64 0)
      obtain ⟨A9, c9, he9, hc9, hn9, hA9⟩ := tok_forms hrow9
      have HA9 := Lib.hid (ArrF.mono hA9 (show w.heap.size ≤ w.heap.size + 1 + 1 by omega))
      have HB9 := Lib.hid (below_s3 HBY.out (Nat.le_refl _) (.slice (some ⟨g', 0, none⟩) (ts.length + 1) cap') (.int .i64 0) (.int .i64 0))
      have HE9 := Lib.hid he9
      have HQ9 := Lib.hid q
      clear hrow9 hA9 hoy he9 q
      go_wp2_with fail
      obtain ⟨s0, s1, s2⟩ := HQ9.out.c3
      rw [HQ.out]
      have hlen9 : (ts ++ [endT s.size]).length = ts.length + 1 := by simp
      have he9 := HE9.out
      rw [hlen9] at he9 hc9
      exact bodyPost_ret (v := .agg #[(.slice (some ⟨g', 0, none⟩) (ts.length + 1) cap'), .int .i64 0, .int .i64 0]) (by simp [results, Tryd.results15, go_sem, s0, s1, s2]) rfl ⟨A9, c9, by rw [he9, hlen9]; rfl, by rw [hlen9]; exact hc9, hn9, HA9.out, HB9.out⟩

end Lx
end Go.Proofs.YtiebhlmjpnhepaaDoor
