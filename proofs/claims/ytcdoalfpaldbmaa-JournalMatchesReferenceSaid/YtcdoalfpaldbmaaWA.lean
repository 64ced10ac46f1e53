/- Package journal's Whole, Put and Read. -/
import Derived.Test.YtcdoalfpaldbmaaW9
namespace Go.Proofs.Ytcdoalfpaldbmaa
open Go.RowKit Sl Fr Dg
namespace Jn
set_option linter.unusedVariables false

theorem field_c (A : Option Addr) (k c : Nat) (x : Int) (w : World) : (Instr.field 62 (.agg #[.slice A k c, .int .u64 x]) 0).run Try.prog w = .ok (.slice A k c) w := by kernel_rfl
attribute [local go_sem] field_c

set_option maxHeartbeats 2000000 in
theorem whole_any (A : Option Addr) (bs rest : List Int) (rs : List (List Int)) (c : Nat) (w : World) (hA : Byt w A bs) (hn : A = none → bs = [] ∧ c = 0) (hb8 : B8 bs) (hl : bs.length ≤ 100000) (hc : bs.length ≤ c) (hp : Parses 0 bs rs rest) :
    Calls Try.prog 18 #[.slice A bs.length c] w (GiveB w (jour 0 rs)) := by
  have hbh := behind_any A bs rest rs c w hA hc hb8 hl hp
  have hle : bs.length = (jour 0 rs).length + rest.length := by rw [hp.eq, List.length_append]
  have hcut : ∀ W, Below w.heap.size w W → Calls Try.prog 20 #[.slice A bs.length c, .int .i64 ((bs.length : Int) - (rest.length : Int))] W (GiveB W (jour 0 rs)) := fun W hW => by
    have := cut_any A bs c ((bs.length : Int) - (rest.length : Int)) W (hA.keep hW) hn (by omega) hc (by unfold I64; omega)
    have e : bs.take ((bs.length : Int) - (rest.length : Int)).toNat = jour 0 rs := by
      rw [show ((bs.length : Int) - (rest.length : Int)).toNat = (jour 0 rs).length by omega, hp.eq, List.take_left]
    rwa [e] at this
  have HC := Lib.hid hcut
  have hlr : rest.length ≤ 100000 := by omega
  clear hcut hA hp hle
  go_enter Try.func18, Try.ntmps18
  go_wp2_with (first
    | (go_at_call 30; go_loud (refine hbh.mono ?_; rintro e w1 ⟨A1, c1, rfl, hc1, hb1⟩))
    | (go_at_call 20; go_loud (refine (HC.out _ hb1).mono ?_; rintro e w2 ⟨A2, c2, rfl, h1, h2, h3, h4⟩)))
  go_ret
  exact ⟨A2, c2, rfl, h1, h2, h3.mono hb1.size, hb1.trans (h4.mono hb1.size)⟩

def putF (bs rest : List Int) (rs : List (List Int)) (r : List Int) : List Int × Int :=
  if 256 < r.length then ([], 1) else if rest ≠ [] then ([], 60) else if 65536 < bs.length + 8 * (r.length + 3) then ([], 2) else (bs ++ enc (sealK 0 rs) r, 0)
def GivePut (w : World) (p : List Int × Int) (e : Ending) (w' : World) : Prop :=
  ∃ A c, e = .returned (.tuple #[.slice A p.1.length c, .int .i64 p.2]) ∧ p.1.length ≤ c ∧ (A = none → p.1 = [] ∧ c = 0) ∧ ArrF w' w.heap.size A (u8s p.1) ∧ Below w.heap.size w w'
theorem givePut_none {w w' : World} {x : Int} (hb : Below w.heap.size w w') : GivePut w ([], x) (.returned (.tuple #[.slice none 0 0, .int .i64 x])) w' := ⟨none, 0, rfl, by simp, fun _ => ⟨rfl, rfl⟩, fun h => absurd rfl h, hb⟩

set_option maxRecDepth 20000 in
set_option maxHeartbeats 2000000 in
theorem put_any (A B : Option Addr) (bs rest r : List Int) (rs : List (List Int)) (c d : Nat) (w : World) (hA : Byt w A bs) (hn : A = none → bs = [] ∧ c = 0) (hb8 : B8 bs) (hl : bs.length ≤ 100000) (hc : bs.length ≤ c) (hp : Parses 0 bs rs rest)
    (hB : Arr w B (i64s r)) (hr : ∀ x ∈ r, I64 x) (hrl : r.length ≤ 100000) :
    Calls Try.prog 27 #[.slice A bs.length c, .slice B r.length d] w (GivePut w (putF bs rest rs r)) := by
  have hbh := behind_any A bs rest rs c w hA hc hb8 hl hp
  have hlr : rest.length ≤ 100000 := by
    have : bs.length = (jour 0 rs).length + rest.length := by rw [hp.eq, List.length_append]
    omega
  have hkey : Dg.R (sealK 0 rs) := sealK_R 0 rs ⟨by decide, by decide⟩
  obtain ⟨p, hpf⟩ : ∃ p, p = putF bs rest rs r := ⟨_, rfl⟩
  rw [← hpf]
  unfold putF at hpf
  generalize sealK 0 rs = key at *
  have hAp := fun (W : World) (hW : Below w.heap.size w W) => appendRecord_any w.heap.size (.slice A bs.length bs.length) bs r B d key W
    (.inr ⟨A, rfl, ArrB.keep (Sl.Arr.low hA (Nat.le_refl _)) hW, fun e => (hn e).1⟩) (ArrB.keep (Sl.Arr.low hB (Nat.le_refl _)) hW)
  have HAP := Lib.hid hAp
  have HN := Lib.hid hn
  have HR := Lib.hid hr
  clear hAp hA hB hp hn hr
  have hall : (bs ++ enc key r).length = bs.length + 8 * (r.length + 3) := by rw [List.length_append, enc_length]
  go_enter Try.func27, Try.ntmps27
  by_cases h1 : 256 < r.length
  · rw [if_pos h1] at hpf
    subst hpf
    clear hall hbh
    go_wp2
    go_ret2
    exact givePut_none (Below.refl _ _)
  rw [if_neg h1] at hpf
  have HPF := Lib.hid hpf
  have HALL := Lib.hid hall
  clear hpf hall
  go_upto_region 4 with (go_at_call 30; refine hbh.mono ?_; rintro e w1 ⟨A1, c1, rfl, hc1, hb1⟩)
  have hbx := BoxL.new w1 #[.slice A1 rest.length c1, .int .u64 key] 62
  have hbA := (Below.refl _ w1).alloc (Nat.le_refl _) (.cells #[.slice A1 rest.length c1, .int .u64 key] 62)
  have hbX := hb1.trans (hbA.mono hb1.size)
  clear hbh hb1 hbA
  generalize w1.alloc (.cells #[.slice A1 rest.length c1, .int .u64 key] 62) = X at *
  generalize w1.heap.size = N at *
  have hc0 := hbx.get (i := 0) rfl
  by_cases h2 : rest ≠ []
  · have hpos : 0 < rest.length := List.length_pos_iff.2 h2
    have HP := Lib.hid (HPF.out.trans (if_pos h2))
    clear h2 HPF HALL
    go_wp2
    go_ret2
    rw [HP.out]
    exact givePut_none hbX
  have HP := Lib.hid (HPF.out.trans (if_neg h2))
  obtain rfl : rest = [] := Classical.not_not.1 h2
  clear h2 HPF
  have hz : ([] : List Int).length = 0 := rfl
  rw [hz] at hc1 hlr hbx hc0
  clear hz hlr
  by_cases h3 : 65536 < bs.length + 8 * (r.length + 3)
  · have HQ := Lib.hid (HP.out.trans (if_pos h3))
    have h3' : (65536 : Int) < (bs.length : Int) + 8 * ((r.length : Int) + 3) := by omega
    clear HP HALL h3
    go_wp2_with (go_at_call 38; refine (encodedBytes_any r.length X (by omega) (by omega)).mono ?_; rintro e w2 ⟨rfl, rfl⟩)
    go_ret2
    rw [HQ.out]
    exact givePut_none hbX
  have HQ := Lib.hid (HP.out.trans (if_neg h3))
  have h3' : ¬ (65536 : Int) < (bs.length : Int) + 8 * ((r.length : Int) + 3) := by omega
  have hdec : decide ((65536 : Int) < (bs.length : Int) + 8 * ((r.length : Int) + 3)) = false := decide_eq_false h3'
  clear HP h3 h3'
  go_upto_region 8 with (go_at_call 38; refine (encodedBytes_any r.length X (by omega) (by omega)).mono ?_; rintro e w2 ⟨rfl, rfl⟩)
  have hk1 : ∀ p : Later X, p.val.cell? ⟨N, 1, none⟩ = some (.int .u64 key) := fun p => (hbx.keep p.below).get (i := 1) rfl
  refine wp_region_later_tail 9 (by kernel_rfl) (by kernel_rfl) ?_
  simp only [List.take_succ_cons, List.take_zero, List.drop_succ_cons, List.drop_zero]
  repeat (go_big_quiet_step (fail))
  refine wpQuiet_nil ?_
  intro _ hw'
  obtain ⟨z, hw''⟩ := hw'
  subst hw''
  have hbz := hbX.trans (z.below.mono hbX.size)
  go_wp2_with (go_at_call 39; refine (HAP.out z.val hbz ⟨by omega, HR.out⟩ hl hbz.size).mono ?_; rintro e w5 ⟨v5, rfl, ho5, hb5⟩)
  go_ret2
  rw [HQ.out]
  obtain ⟨A5, c5, hv5, h5, h6, h7⟩ := own_form ho5
  subst hv5
  exact ⟨A5, c5, rfl, h5, h6, h7, hbz.trans hb5⟩

def GiveRd (w : World) (rs : List (List Int)) (rest : List Int) (e : Ending) (w' : World) : Prop :=
  ∃ (v : Value) (xs : List Rec) (A : Option Addr) (c : Nat), e = .returned (.tuple #[v, .slice A rest.length c, .int .i64 (if rest = [] then 0 else 60)]) ∧ xs.map Prod.snd = rs ∧ w'.ownsRow w.heap.size 29 1 v xs.length (xs.map Prod.fst) ∧ (∀ x ∈ xs, RowY w.heap.size w' x) ∧
    rest.length ≤ c ∧ (A = none → rest = [] ∧ c = 0) ∧ ArrF w' w.heap.size A (u8s rest) ∧ Below w.heap.size w w'

theorem parses_len {key : Int} {bs rest : List Int} {rs : List (List Int)} (h : Parses key bs rs rest) : rs.length ≤ bs.length ∧ rest.length ≤ bs.length := by
  rw [h.eq, List.length_append]
  refine ⟨?_, by omega⟩
  have : ∀ (rs : List (List Int)) (key : Int), rs.length ≤ (jour key rs).length := by
    intro rs
    induction rs with
    | nil => intro key; simp
    | cons r l ih => intro key; have := ih (tagI key r); rw [jour, List.length_append, enc_length, List.length_cons]; omega
  have := this rs key
  omega

set_option maxRecDepth 20000 in
set_option maxHeartbeats 2000000 in
theorem read_any (A : Option Addr) (bs rest : List Int) (rs : List (List Int)) (c : Nat) (w : World) (hA : Byt w A bs) (hb8 : B8 bs) (hl : bs.length ≤ 100000) (hc : bs.length ≤ c) (hp : Parses 0 bs rs rest) :
    Calls Try.prog 25 #[.slice A bs.length c] w (GiveRd w rs rest) := by
  obtain ⟨hrl, hrt⟩ := parses_len hp
  have hb0 := (Below.refl _ w).alloc (Nat.le_refl _) (.cells #[.slice A bs.length c, .int .u64 0] 62)
  have hCb := BoxL.new w #[.slice A bs.length c, .int .u64 0] 62
  have hAX : ArrX (w.alloc (.cells #[.slice A bs.length c, .int .u64 0] 62)) (some w.heap.size) A (u8s bs) := (Arr.apart hA (fun g e => by cases e; exact Nat.le_refl _)).keep hb0
  have hlow : ∀ b o q, A = some ⟨b, o, q⟩ → bs ≠ [] → b < w.heap.size := fun b o q e hne => by
    obtain ⟨b', o', e', hlt, _⟩ := hA (by intro h; exact hne (by simpa [u8s] using h))
    rw [e] at e'
    simp only [Option.some.injEq, Addr.mk.injEq] at e'
    omega
  have hsz : (w.alloc (.cells #[.slice A bs.length c, .int .u64 0] 62)).heap.size = w.heap.size + 1 := World.size_alloc _ _
  have HP := Lib.hid hp
  have HLOW := Lib.hid hlow
  clear hA hp hlow
  go_enter Try.func25, Try.ntmps25
  go_upto_region 2 with fail
  generalize w.alloc (.cells #[.slice A bs.length c, .int .u64 0] 62) = X at *
  have hbx2 := (Below.refl _ X).alloc (Nat.le_refl _) (.cells #[.pointer (some ⟨w.heap.size, 0, none⟩)] 77)
  have hs2 : (X.alloc (.cells #[.pointer (some ⟨w.heap.size, 0, none⟩)] 77)).heap.size = X.heap.size + 1 := World.size_alloc _ _
  have hcur : Cur (X.heap.size + 1) (X.alloc (.cells #[.pointer (some ⟨w.heap.size, 0, none⟩)] 77)) w.heap.size bs 0 := ⟨⟨A, c, hCb.keep hbx2, hAX.keep hbx2, hc, fun b o q e hne => by have := HLOW.out b o q e hne; omega⟩, hb8, hl⟩
  have hbp := Boxed.new X 77 (.pointer (some ⟨w.heap.size, 0, none⟩))
  have hco := collect_in Fence.wide (Lib.hid rfl) trivial trivial trivial trivial rfl 5 (Nat.le_refl _) w.heap.size X.heap.size (X.heap.size + 1) bs rest 0 rs _ hcur hbp (by omega) (by omega) (by omega) (by omega) (Lib.hid HP.out) (by omega)
  have hco := callsIn_wide.1 hco
  rw [hsz] at hco
  have HCO := Lib.hid hco
  have HB2 := Lib.hid (hb0.trans (hbx2.mono hb0.size))
  clear hco hcur hbp hbx2 hCb hAX hb0
  go_wp2_with (go_at_call 35; refine (records_any _ _).mono ?_; rintro e w1 ⟨rfl, rfl⟩)
  go_at_call 34
  refine HCO.out.mono ?_
  rintro e w2 ⟨v2, xs, rfl, hxs, hown, hrows, hcu, hst⟩
  have hbw2 : Below w.heap.size w w2 := HB2.out.trans (hst.below (by omega) (by omega))
  have hrows' : ∀ x ∈ xs, RowY w.heap.size w2 x := fun x hx => by
    obtain ⟨A', c', g1, g2, g3⟩ := hrows x hx
    exact ⟨A', c', g1, g2, g3.mono (by omega)⟩
  have hown' := World.ownsRow.mono hown (show w.heap.size ≤ _ by omega)
  obtain ⟨⟨A9, c9, g1, g2, g3, g4⟩, g5, g6⟩ := hcu
  have k0 := g1.get (i := 0) rfl
  have HG2 := Lib.hid g2
  have HO := Lib.hid hown'
  have HR := Lib.hid hrows'
  clear HB2 hst hown hrows hown' hrows' g1 g2 HCO HP HLOW
  by_cases hz : rest = []
  · subst hz
    have hz : ([] : List Int).length = 0 := rfl
    rw [hz] at k0
    clear hz
    go_wp2
    go_ret3
    exact ⟨v2, xs, none, 0, rfl, hxs, HO.out, HR.out, by simp, fun _ => ⟨rfl, rfl⟩, fun h => absurd rfl h, hbw2⟩
  · have hpos : 0 < rest.length := List.length_pos_iff.2 hz
    obtain ⟨b9, o9, e9, _⟩ := HG2.out (by intro e; apply hz; simpa [u8s] using e)
    subst e9
    have hcl := clone_any (some ⟨b9, o9, none⟩) rest c9 w2 (ArrX.arr HG2.out) (fun e => by cases e) (by omega)
    have HCL := Lib.hid hcl
    clear hcl
    go_wp2_with (go_at_call 31; refine HCL.out.mono ?_; rintro e w3 ⟨A3, c3, rfl, h3, h4, h5, h6⟩)
    go_ret3
    refine ⟨v2, xs, A3, c3, by rw [if_neg hz]; rfl, hxs, row_keep HO.out h6, fun x hx => ?_, h3, h4, h5.mono hbw2.size, hbw2.trans (h6.mono hbw2.size)⟩
    obtain ⟨A', c', q1, q2, q3⟩ := HR.out x hx
    exact ⟨A', c', q1, q2, q3.keep h6⟩
end Jn
end Go.Proofs.Ytcdoalfpaldbmaa
