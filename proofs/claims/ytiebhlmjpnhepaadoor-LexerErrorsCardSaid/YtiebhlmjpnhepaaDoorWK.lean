/- LexerErrors. -/
import Derived.Test.YtiebhlmjpnhepaaDoorWF
namespace Go.Proofs.YtiebhlmjpnhepaaDoor
open Go.RowKit Sl Fr
namespace Lx
set_option linter.unusedVariables false
set_option linter.unusedSimpArgs false

theorem field_2 (A : Option Addr) (k c : Nat) (r q : Int) (w : World) : (Instr.field 29 (.agg #[.slice A k c, .int .i64 r, .int .i64 q]) 2).run Tryd.prog w = .ok (.int .i64 q) w := by kernel_rfl
attribute [local go_sem] field_2
def LongAt (r : Value) : Prop := ∃ q : ByteArray, r = .string q ∧ q.size ≤ 9000
def longOf (v : Value) : Nat := match v with | .string q => q.size | _ => 0
theorem lexR_e (l : By) : (lexR l).2.2 = 0 ↔ l.length ≤ 8000 ∧ WF l := by
  by_cases h : 8000 < l.length
  · rw [lexR_big h]; simp; omega
  · cases h2 : (lex 0 l).2 with
    | none =>
      rw [lexR_ok (by omega) h2]
      exact ⟨fun _ => ⟨by omega, h2⟩, fun _ => rfl⟩
    | some e =>
      rw [lexR_bad (by omega) h2]
      refine ⟨fun h3 => by simp at h3, fun h3 => ?_⟩
      have := h3.2
      unfold WF at this
      rw [h2] at this
      cases this
/-- What the law asks of a malformed file. -/
theorem errors_facts {t s : By} (ht : t.length ≤ 600) (hs : s.length ≤ 300) {e : Nat} (h : (lex 0 t).2 = some e) : lexR t = ([], e, 5) ∧ e < t.length ∧ (lexR (t.take e)).2.2 = 0 ∧ lexR (t ++ 32 :: s) = ([], e, 5) := by
  obtain ⟨_, h1, h2⟩ := lex_before t 0 e h
  rw [Nat.sub_zero] at h2
  refine ⟨lexR_bad (by omega) h, by omega, (lexR_e _).2 ⟨by rw [List.length_take]; omega, h2⟩, lexR_bad ?_ (lex_more (.inl rfl) s t 0 e h)⟩
  simp
  omega

set_option maxRecDepth 100000 in
set_option maxHeartbeats 4000000 in
theorem errors_walk (A : Option Addr) (l : List Nat) (c : Nat) (s : ByteArray) (w : World) (hA : BytA w A l) (hl : l.length ≤ 9223372036854775807) (hs : s.size ≤ 9223372036854775807) (hv : Vars w) :
    Calls Tryd.prog 8 #[.slice A l.length c, .string s] w fun e w' => e = .returned (.bool true) ∧ Below w.heap.size w w' := by
  have HE := Lib.hid (examples_any w hv)
  have HM := Lib.hid (fun W (hb : Below w.heap.size w W) => made_any A l c W (hA.keep hb) hl)
  have HX := Lib.hid (fun (s : ByteArray) (hs : s.size ≤ 281474976710656) W (hb : Below w.heap.size w W) => lexed_any s W hs (hv.keep hb))
  clear hA hl hv
  by_cases h3 : 300 < s.size
  · go_enter Tryd.func8, Tryd.ntmps8
    go_wp2_with fail
    refine HE.out.mono ?_
    rintro e W1 ⟨rfl, b1⟩
    have B1 := Lib.hid b1
    clear b1 HE HM HX
    go_wp2_with fail
    go_ret
    exact ⟨rfl, B1.out⟩
  have hs3 : s.size ≤ 300 := by omega
  go_enter Tryd.func8, Tryd.ntmps8
  go_wp2_with fail
  refine HE.out.mono ?_
  rintro e W1 ⟨rfl, b1⟩
  have B1 := Lib.hid b1
  clear b1 HE
  go_wp2_with fail
  refine (HM.out _ B1.out).mono ?_
  rintro e W2 ⟨t, rfl, ht, _, b2⟩
  have B2 := Lib.hid (B1.out.trans (b2.mono B1.out.size))
  clear b2 HM B1
  go_wp2_with fail
  cases hx : (lex 0 (bys t)).2 with
  | none =>
    have hr : lexR (bys t) = ((lex 0 (bys t)).1 ++ [endT (bys t).length], 0, 0) := lexR_ok (by rw [bys_len]; omega) hx
    have HL := HX.out t (by omega) W2 B2.out
    rw [hr] at HL
    clear hx hr
    generalize (lex 0 (bys t)).1 ++ [endT (bys t).length] = ts at *
    refine HL.mono ?_
    rintro e W3 ⟨A1, c1, rfl, _, _, _, b3⟩
    have bA := (Below.refl _ W3).alloc (Nat.le_refl _) (.cells #[.slice A1 ts.length c1, .int .i64 0, .int .i64 0] 29)
    have B3 := B2.out.trans (b3.mono B2.out.size)
    have B4 := Lib.hid (B3.trans (bA.mono B3.size))
    clear HL b3 bA B3 HX
    go_wp2_with fail
    go_ret
    exact ⟨rfl, B4.out⟩
  | some e =>
    obtain ⟨f1, f2, f3, f4⟩ := errors_facts (t := bys t) (s := bys s) (by rw [bys_len]; omega) (by rw [bys_len]; omega) hx
    rw [bys_len] at f2
    have HL := HX.out t (by omega) W2 B2.out
    rw [f1] at HL
    have L2 : Hid (∀ W, Below w.heap.size w W → Calls Tryd.prog 13 #[.string (t.extract 0 e)] W (GiveS (lexR ((bys t).take e)) W)) := Lib.hid (fun W hb => by
      have := HX.out (t.extract 0 e) (by rw [ByteArray.size_extract]; omega) W hb
      rwa [bys_take] at this)
    have L3 : Hid (∀ W, Below w.heap.size w W → Calls Tryd.prog 13 #[.string (t ++ ⟨#[32]⟩ ++ s)] W (GiveS ([], e, 5) W)) := Lib.hid (fun W hb => by
      have := HX.out (t ++ ⟨#[32]⟩ ++ s) (by simp only [ByteArray.size_append, byte_size]; simp; omega) W hb
      have e2 : bys (t ++ ⟨#[32]⟩ ++ s) = bys t ++ 32 :: bys s := by rw [bys_add, bys_add]; simp [bys]
      rwa [e2, f4] at this)
    have L4 : Hid (∀ (q : ByteArray) W, 8000 < q.size → q.size ≤ 9000 → Below w.heap.size w W → Calls Tryd.prog 13 #[.string q] W (GiveS ([], 0, 2) W)) := Lib.hid (fun q W h1 h2 hb => by
      have := HX.out q (by omega) W hb
      rwa [lexR_big (by rw [bys_len]; exact h1)] at this)
    obtain ⟨ts, a2, e2, hr2⟩ : ∃ ts a2 e2, lexR ((bys t).take e) = (ts, a2, e2) := ⟨_, _, _, rfl⟩
    rw [hr2] at f3 L2
    have f3 : e2 = 0 := f3
    subst f3
    clear f1 f4 hx hr2 HX
    refine HL.mono ?_
    rintro _ W3 ⟨A1, c1, rfl, _, _, _, b3⟩
    obtain ⟨m0, bA⟩ := start1 W3 #[.slice A1 0 c1, .int .i64 (e : Int), .int .i64 5] 29
    have B3 := B2.out.trans (b3.mono B2.out.size)
    have B4 := Lib.hid (B3.trans (bA.mono B3.size))
    clear HL b3 bA B3 B2
    have e5 : ((5 : Nat) : Int) = 5 := rfl
    simp only [List.length_nil]
    rw [e5]
    clear e5
    have c1e : (0 : Int) ≤ (e : Int) := by omega
    have c2e : (e : Int) ≤ (t.size : Int) := by omega
    go_upto_region 6 with fail
    generalize W3.alloc (.cells #[.slice A1 0 c1, .int .i64 (e : Int), .int .i64 5] 29) = X at *
    generalize W3.heap.size = xb at *
    have HMX := Lib.hid m0
    obtain ⟨d0, d1, d2⟩ := m0.c3
    have mlt := m0.lt
    clear m0
    go_wp2_with fail
    refine (L2.out _ B4.out).mono ?_
    rintro _ W5 ⟨A5, c5, rfl, _, _, _, b5⟩
    have M5 := Lib.hid (HMX.out.keep b5)
    have B5 := Lib.hid (B4.out.trans (b5.mono B4.out.size))
    clear b5 HMX B4 L2 d0 d1 d2
    have e0 : ((0 : Nat) : Int) = 0 := rfl
    simp only [e0]
    clear e0
    go_wp2_with fail
    refine (L3.out _ B5.out).mono ?_
    rintro _ W6 ⟨A6, c6, rfl, _, _, _, b6⟩
    have m6 := M5.out.keep b6
    obtain ⟨m7, bA⟩ := start1 W6 #[.slice A6 0 c6, .int .i64 (e : Int), .int .i64 5] 29
    have m8 := m6.keep bA
    have B6 := B5.out.trans (b6.mono B5.out.size)
    have B7 := Lib.hid (B6.trans (bA.mono B6.size))
    clear L3 b6 M5 B5 m6 bA B6
    have e5 : ((5 : Nat) : Int) = 5 := rfl
    simp only [List.length_nil]
    rw [e5]
    clear e5
    go_upto_region 11 with fail
    generalize W6.alloc (.cells #[.slice A6 0 c6, .int .i64 (e : Int), .int .i64 5] 29) = Y at *
    generalize W6.heap.size = yb at *
    obtain ⟨d0, d1, d2⟩ := m7.c3
    obtain ⟨g0, g1, g2⟩ := m8.c3
    clear m7 m8
    go_wp2_with fail
    go_loop [9] LongAt (fun r => 9001 - longOf r)
    case atStart => exact ⟨⟨#[]⟩, rfl, by decide⟩
    case round =>
      obtain ⟨q, rfl, hq⟩ := hrel
      by_cases h8 : q.size ≤ 8000
      · go_wp2_with fail
        go_round
        case rel => exact ⟨_, rfl, by simp only [ByteArray.size_append, byte_size]; simp; omega⟩
        case measure => simp only [longOf, ByteArray.size_append, byte_size]; simp; omega
      · have h9 : 8000 < q.size := by omega
        go_wp2_with fail
        refine (L4.out q Y h9 hq B7.out).mono ?_
        rintro _ W8 ⟨A8, c8, rfl, _, _, _, b8⟩
        have B8 := Lib.hid (B7.out.trans (b8.mono B7.out.size))
        clear b8 L4 B7
        have e2 : ((2 : Nat) : Int) = 2 := rfl
        simp only [List.length_nil]
        rw [e2]
        clear e2
        go_wp2_with fail
        go_ret
        exact ⟨rfl, B8.out⟩

end Lx
end Go.Proofs.YtiebhlmjpnhepaaDoor
