/- What Parse returns. -/
import Derived.Test.YtajpklacaaegcaaGreatDoorP2
namespace Go.Proofs.YtajpklacaaegcaaGreatDoor
open Go.RowKit Go.Shelf Go.Sort
namespace Fr
set_option linter.unusedVariables false

/-- The two numbers that Parse reads, and whether their text is the text. -/
def lowL (l : List UInt8) : List UInt8 := if (cutL l).2.2 then (cutL l).2.1 else [49]
def parn (l : List UInt8) : Int := atoiV (cutL l).1
def pard (l : List UInt8) : Int := atoiV (lowL l)
def parOk (l : List UInt8) : Bool := validB (parn l) (pard l) && decide (textL (parn l) (pard l) = l)
def pN (l : List UInt8) : Int := if parOk l then parn l else 0
def pD (l : List UInt8) : Int := if parOk l then pard l else 0
def pE (l : List UInt8) : Int := if parOk l then 0 else 5

theorem cutL_size (l : List UInt8) : (cutL l).1.length ≤ l.length ∧ (cutL l).2.1.length ≤ l.length := by
  unfold cutL Lib.cut
  split
  · simp; omega
  · simp

theorem text_any (n d : Int) (w : World) (hn : I64 n) (hd : I64 d) (hv : Vars w) :
    Calls Tryz.prog 24 #[.agg #[.int .i64 n, .int .i64 d]] w fun o w' => o = .returned (.string ⟨(textL n d).toArray⟩) ∧ Below w.heap.size w w' := by
  by_cases h : d = 1
  · subst h; exact text_one n w hn hv
  · exact text_two n d w hn hd h hv

/-- .. behind the two numbers. -/
structure Pars (w W : World) (n d : Int) : Prop where
  r : Box2 W w.heap.size (.int .i64 0) (.int .i64 0)
  vars : Vars W
  below : Below w.heap.size w W
theorem Pars.keep {w W W' : World} {n d : Int} (h : Pars w W n d) (hb : Below W.heap.size W W') : Pars w W' n d := ⟨h.r.keep hb, h.vars.keep hb, h.below.trans (hb.mono h.below.size)⟩

set_option maxHeartbeats 1000000 in
theorem parse_any (l : List UInt8) (w : World) (hl : l.length ≤ 281474976710656) (hv : Vars w) :
    Calls Tryz.prog 53 #[.string ⟨l.toArray⟩] w fun o w' => o = .returned (.tuple #[.agg #[.int .i64 (pN l), .int .i64 (pD l)], .int .i64 (pE l)]) ∧ Below w.heap.size w w' := by
  have hz := cutL_size l
  have HC : Hid (∀ W : World, Calls Tryz.prog 67 #[.string ⟨l.toArray⟩, .string ⟨#[47]⟩] W fun o w' => o = .returned (.tuple #[.string ⟨(cutL l).1.toArray⟩, .string ⟨(cutL l).2.1.toArray⟩, .bool (cutL l).2.2]) ∧ Below W.heap.size W w') := Lib.hid (fun W => by
    have := cut_any ⟨l.toArray⟩ W (by show l.toArray.size ≤ _; simpa using hl)
    exact this)
  have hlow : (lowL l).length ≤ 281474976710656 := by
    unfold lowL
    split
    · omega
    · simp
  have HA1 : Hid (∀ W : World, Vars W → Calls Tryz.prog 68 #[.string ⟨(cutL l).1.toArray⟩] W (RetN (parn l) W)) := Lib.hid (fun W hW => by
    have := atoi_any ⟨(cutL l).1.toArray⟩ W (by show (cutL l).1.toArray.size ≤ _; simpa using Nat.le_trans hz.1 hl) hW
    exact this)
  have HA2 : Hid (∀ W : World, Vars W → Calls Tryz.prog 68 #[.string ⟨(lowL l).toArray⟩] W (RetN (pard l) W)) := Lib.hid (fun W hW => by
    have := atoi_any ⟨(lowL l).toArray⟩ W (by show (lowL l).toArray.size ≤ _; simpa using hlow) hW
    exact this)
  have hLow : Hid (lowL l = if (cutL l).2.2 then (cutL l).2.1 else [49]) := Lib.hid rfl
  have i1 : I64 (parn l) := atoiV_i64 _
  have i2 : I64 (pard l) := atoiV_i64 _
  have HV : Hid (∀ W : World, _) := Lib.hid (fun W => valid_any (parn l) (pard l) W i1 i2)
  have HT := Lib.hid (fun W hW => text_any (parn l) (pard l) W i1 i2 hW)
  have HO : Hid (parOk l = (validB (parn l) (pard l) && decide (textL (parn l) (pard l) = l))) := Lib.hid rfl
  have HR : Hid (pN l = (if parOk l then parn l else 0) ∧ pD l = (if parOk l then pard l else 0) ∧ pE l = (if parOk l then 0 else 5)) := Lib.hid ⟨rfl, rfl, rfl⟩
  have P0 : Pars w (w.alloc (.cells #[.int .i64 0, .int .i64 0] 25)) 0 0 := ⟨Box2.new _ _ _ _, hv.keep ((Below.refl _ w).alloc (Nat.le_refl _) _), (Below.refl _ w).alloc (Nat.le_refl _) _⟩
  generalize parn l = n at *
  generalize pard l = d at *
  generalize textL n d = T at *
  generalize lowL l = L at *
  generalize pN l = rn at *
  generalize pD l = rd at *
  generalize pE l = re at *
  generalize parOk l = ok at *
  generalize (cutL l).1 = t at *
  generalize (cutL l).2.1 = b at *
  generalize (cutL l).2.2 = f at *
  generalize validB n d = v at *
  clear hl hv hz hlow i1 i2
  cases f with
  | true =>
    simp only [if_true] at hLow
    have hLe := hLow.out
    subst hLe
    clear hLow
    go_enter Tryz.func53, Tryz.ntmps53
    go_wp2_with fail
    refine (HC.out _).mono ?_
    rintro o w1 ⟨rfl, hb⟩
    have P1 := P0.keep hb
    clear P0 hb HC
    go_wp2_with fail
    refine (HA1.out _ P1.vars).mono ?_
    rintro o w2 ⟨ev, rfl, hb⟩
    have P2 := P1.keep hb
    clear P1 hb HA1
    go_wp2_with fail
    refine (HA2.out _ P2.vars).mono ?_
    rintro o w3 ⟨ev2, rfl, hb⟩
    have P3 := P2.keep hb
    clear P2 hb HA2
    go_wp2_with fail
    have m3 := Box2.new w3 (.int .i64 n) (.int .i64 d) 25
    have P4 := P3.keep ((Below.refl _ w3).alloc (Nat.le_refl _) (.cells #[.int .i64 n, .int .i64 d] 25))
    refine (HV.out _).mono ?_
    rintro o w4 ⟨rfl, hb⟩
    have P5 := P4.keep hb
    have m5 := m3.keep hb
    clear P3 P4 m3 hb HV
    have c0 := m5.c0
    have c1 := m5.c1
    have r0 := P5.r.c0
    have r1 := P5.r.c1
    have f0 := P5.r.f0
    have f1 := P5.r.f1
    cases v with
    | false =>
      have hok : ok = false := HO.out
      subst hok
      simp only [Bool.false_eq_true, if_false] at HR
      go_wp2_with fail
      have q := P5.r.set (.int .i64 0) (.int .i64 0)
      have s0 := q.c0
      have s1 := q.c1
      refine bodyPost_ret (v := .tuple #[.agg #[.int .i64 0, .int .i64 0], .int .i64 5]) (by simp [results, Tryz.results53, go_sem, s0, s1]) rfl ⟨by rw [HR.out.1, HR.out.2.1, HR.out.2.2], below_set2 P5.below (Nat.le_refl _) _ _⟩
    | true =>
      go_wp2_with fail
      refine (HT.out _ P5.vars).mono ?_
      rintro o w6 ⟨rfl, hb⟩
      have P6 := P5.keep hb
      have m6 := m5.keep hb
      clear P5 m5 hb HT c0 c1 r0 r1 f0 f1
      have c0 := m6.c0
      have c1 := m6.c1
      have r0 := P6.r.c0
      have r1 := P6.r.c1
      have f0 := P6.r.f0
      have f1 := P6.r.f1
      by_cases hT : T = l
      · have hok : ok = true := by rw [HO.out]; simp [hT]
        subst hok
        simp only [if_true] at HR
        subst hT
        clear HO
        go_wp2_with fail
        have q := P6.r.set (.int .i64 n) (.int .i64 d)
        have s0 := q.c0
        have s1 := q.c1
        refine bodyPost_ret (v := .tuple #[.agg #[.int .i64 n, .int .i64 d], .int .i64 0]) (by simp [results, Tryz.results53, go_sem, s0, s1]) rfl ⟨by rw [HR.out.1, HR.out.2.1, HR.out.2.2], below_set2 P6.below (Nat.le_refl _) _ _⟩
      · have hok : ok = false := by rw [HO.out]; simp [hT]
        subst hok
        simp only [Bool.false_eq_true, if_false] at HR
        have hne : (T == l) = false := by simpa using hT
        clear HO
        go_wp2_with fail
        have q := P6.r.set (.int .i64 0) (.int .i64 0)
        have s0 := q.c0
        have s1 := q.c1
        refine bodyPost_ret (v := .tuple #[.agg #[.int .i64 0, .int .i64 0], .int .i64 5]) (by simp [results, Tryz.results53, go_sem, s0, s1]) rfl ⟨by rw [HR.out.1, HR.out.2.1, HR.out.2.2], below_set2 P6.below (Nat.le_refl _) _ _⟩
  | false =>
    simp only [Bool.false_eq_true, if_false] at hLow
    have hLe := hLow.out
    subst hLe
    clear hLow
    go_enter Tryz.func53, Tryz.ntmps53
    go_wp2_with fail
    refine (HC.out _).mono ?_
    rintro o w1 ⟨rfl, hb⟩
    have P1 := P0.keep hb
    clear P0 hb HC
    go_wp2_with fail
    refine (HA1.out _ P1.vars).mono ?_
    rintro o w2 ⟨ev, rfl, hb⟩
    have P2 := P1.keep hb
    clear P1 hb HA1
    go_wp2_with fail
    refine (HA2.out _ P2.vars).mono ?_
    rintro o w3 ⟨ev2, rfl, hb⟩
    have P3 := P2.keep hb
    clear P2 hb HA2
    go_wp2_with fail
    have m3 := Box2.new w3 (.int .i64 n) (.int .i64 d) 25
    have P4 := P3.keep ((Below.refl _ w3).alloc (Nat.le_refl _) (.cells #[.int .i64 n, .int .i64 d] 25))
    refine (HV.out _).mono ?_
    rintro o w4 ⟨rfl, hb⟩
    have P5 := P4.keep hb
    have m5 := m3.keep hb
    clear P3 P4 m3 hb HV
    have c0 := m5.c0
    have c1 := m5.c1
    have r0 := P5.r.c0
    have r1 := P5.r.c1
    have f0 := P5.r.f0
    have f1 := P5.r.f1
    cases v with
    | false =>
      have hok : ok = false := HO.out
      subst hok
      simp only [Bool.false_eq_true, if_false] at HR
      go_wp2_with fail
      have q := P5.r.set (.int .i64 0) (.int .i64 0)
      have s0 := q.c0
      have s1 := q.c1
      refine bodyPost_ret (v := .tuple #[.agg #[.int .i64 0, .int .i64 0], .int .i64 5]) (by simp [results, Tryz.results53, go_sem, s0, s1]) rfl ⟨by rw [HR.out.1, HR.out.2.1, HR.out.2.2], below_set2 P5.below (Nat.le_refl _) _ _⟩
    | true =>
      go_wp2_with fail
      refine (HT.out _ P5.vars).mono ?_
      rintro o w6 ⟨rfl, hb⟩
      have P6 := P5.keep hb
      have m6 := m5.keep hb
      clear P5 m5 hb HT c0 c1 r0 r1 f0 f1
      have c0 := m6.c0
      have c1 := m6.c1
      have r0 := P6.r.c0
      have r1 := P6.r.c1
      have f0 := P6.r.f0
      have f1 := P6.r.f1
      by_cases hT : T = l
      · have hok : ok = true := by rw [HO.out]; simp [hT]
        subst hok
        simp only [if_true] at HR
        subst hT
        clear HO
        go_wp2_with fail
        have q := P6.r.set (.int .i64 n) (.int .i64 d)
        have s0 := q.c0
        have s1 := q.c1
        refine bodyPost_ret (v := .tuple #[.agg #[.int .i64 n, .int .i64 d], .int .i64 0]) (by simp [results, Tryz.results53, go_sem, s0, s1]) rfl ⟨by rw [HR.out.1, HR.out.2.1, HR.out.2.2], below_set2 P6.below (Nat.le_refl _) _ _⟩
      · have hok : ok = false := by rw [HO.out]; simp [hT]
        subst hok
        simp only [Bool.false_eq_true, if_false] at HR
        have hne : (T == l) = false := by simpa using hT
        clear HO
        go_wp2_with fail
        have q := P6.r.set (.int .i64 0) (.int .i64 0)
        have s0 := q.c0
        have s1 := q.c1
        refine bodyPost_ret (v := .tuple #[.agg #[.int .i64 0, .int .i64 0], .int .i64 5]) (by simp [results, Tryz.results53, go_sem, s0, s1]) rfl ⟨by rw [HR.out.1, HR.out.2.1, HR.out.2.2], below_set2 P6.below (Nat.le_refl _) _ _⟩

end Fr
end Go.Proofs.YtajpklacaaegcaaGreatDoor
