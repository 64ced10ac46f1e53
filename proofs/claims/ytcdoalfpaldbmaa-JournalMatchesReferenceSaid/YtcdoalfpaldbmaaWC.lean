/- The law's read and put; lists that are small; the journal of a list of records, with the lengths of its parts. -/
import Derived.Test.YtcdoalfpaldbmaaWB
import Derived.Test.YtcdoalfpaldbmaaL4
namespace Go.Proofs.Ytcdoalfpaldbmaa
open Go.RowKit Sl Fr Dg
namespace Jn
set_option linter.unusedVariables false

/-- .. the cells lie in blocks from base on. -/
def LLF (w : World) (base : Nat) (A : Option Addr) (rs : List (List Int)) : Prop :=
  rs ≠ [] → ∃ b o, A = some ⟨b, o, none⟩ ∧ base ≤ b ∧ b < w.heap.size ∧ ∀ j r, rs[j]? = some r → ∃ A' c, w.cell? ⟨b, o + j, none⟩ = some (.slice A' r.length c) ∧ r.length ≤ c ∧ ArrF w base A' (i64s r)
theorem LLF.ll {w : World} {base : Nat} {A : Option Addr} {rs : List (List Int)} (h : LLF w base A rs) : LL w A rs := fun hne => by
  obtain ⟨b, o, e, _, hlt, hc⟩ := h hne
  refine ⟨b, o, e, hlt, fun j r hr => ?_⟩
  obtain ⟨A', c, h1, h2, h3⟩ := hc j r hr
  exact ⟨A', c, h1, h2, h3.arr⟩
theorem LLF.keep {w w' : World} {base : Nat} {A : Option Addr} {rs : List (List Int)} (h : LLF w base A rs) (hb : Below w.heap.size w w') : LLF w' base A rs := fun hne => by
  obtain ⟨b, o, e, hB, hlt, hc⟩ := h hne
  refine ⟨b, o, e, hB, Nat.lt_of_lt_of_le hlt hb.size, fun j r hr => ?_⟩
  obtain ⟨A', c, h1, h2, h3⟩ := hc j r hr
  exact ⟨A', c, (hb.cell (p := ⟨b, o + j, none⟩) hlt).trans h1, h2, h3.keep hb⟩
theorem LLF.mono {w : World} {base base' : Nat} {A : Option Addr} {rs : List (List Int)} (h : LLF w base A rs) (hb : base' ≤ base) : LLF w base' A rs := fun hne => by
  obtain ⟨b, o, e, hB, hlt, hc⟩ := h hne
  refine ⟨b, o, e, Nat.le_trans hb hB, hlt, fun j r hr => ?_⟩
  obtain ⟨A', c, h1, h2, h3⟩ := hc j r hr
  exact ⟨A', c, h1, h2, h3.mono hb⟩
theorem LLF.set {w : World} {base : Nat} {A : Option Addr} {rs : List (List Int)} (h : LLF w base A rs) {p : Addr} (hp : p.block < base) (u : Value) : LLF (w.setCell p u) base A rs := fun hne => by
  obtain ⟨b, o, e, hB, hlt, hc⟩ := h hne
  refine ⟨b, o, e, hB, by simpa using hlt, fun j r hr => ?_⟩
  obtain ⟨A', c, h1, h2, h3⟩ := hc j r hr
  exact ⟨A', c, (World.cell?_setCell_far w p ⟨b, o + j, none⟩ u (by simp; omega)).trans h1, h2, h3.set hp u⟩
theorem llf_of {w' : World} {base : Nat} {v : Value} {xs : List Rec} (h1 : w'.ownsRow base 29 1 v xs.length (xs.map Prod.fst)) (h2 : ∀ x ∈ xs, RowY base w' x) : ∃ A c, v = .slice A (xs.map Prod.snd).length c ∧ (xs.map Prod.snd).length ≤ c ∧ LLF w' base A (xs.map Prod.snd) := by
  obtain ⟨A, c, rfl, g2, g3, g4, _⟩ := row_forms h1
  refine ⟨A, c, by rw [List.length_map], by rw [List.length_map]; exact g2, fun hne => ?_⟩
  obtain ⟨b, o, e, hB, hlt, hc⟩ := g4 (by simpa using hne)
  refine ⟨b, o, e, hB, hlt, fun j r hr => ?_⟩
  rw [List.getElem?_map, Option.map_eq_some_iff] at hr
  obtain ⟨x, hx, rfl⟩ := hr
  obtain ⟨A', c', q1, q2, q3⟩ := h2 x (List.mem_of_getElem? hx)
  exact ⟨A', c', by rw [← q1]; exact hc j _ (by rw [List.getElem?_map, hx]; rfl), q2, q3⟩

def errR (rest : List Int) : Int := if rest = [] then 0 else 60
/-- What the law's read gives. -/
def GiveLR (w : World) (rs : List (List Int)) (rest : List Int) (e : Ending) (w' : World) : Prop :=
  ∃ A c B d, e = .returned (.agg #[.slice A rs.length c, .slice B rest.length d, .int .i64 (errR rest), .int .i64 0, .int .u64 0]) ∧ rs.length ≤ c ∧ rest.length ≤ d ∧ (B = none → rest = [] ∧ d = 0) ∧ LLF w' w.heap.size A rs ∧ ArrF w' w.heap.size B (u8s rest) ∧ Below w.heap.size w w'

theorem read_form {w w' : World} {rs : List (List Int)} {rest : List Int} {e : Ending} (h : GiveRd w rs rest e w') :
    ∃ A c B d, e = .returned (.tuple #[.slice A rs.length c, .slice B rest.length d, .int .i64 (errR rest)]) ∧ rs.length ≤ c ∧ rest.length ≤ d ∧ (B = none → rest = [] ∧ d = 0) ∧ LLF w' w.heap.size A rs ∧ ArrF w' w.heap.size B (u8s rest) ∧ Below w.heap.size w w' := by
  obtain ⟨v, xs, B, d, rfl, rfl, h1, h2, h3, h4, h5, h6⟩ := h
  obtain ⟨A, c, rfl, g2, g3⟩ := llf_of h1 h2
  exact ⟨A, c, B, d, rfl, g2, h3, h4, g3, h5, h6⟩
/-- A call's contract at a world that has another name. -/
theorem at_world {w w' : World} {f : FuncId} {args : Array Value} {R : Ending → World → Prop} (h : Calls Try.prog f args w R) (e : w = w') : Calls Try.prog f args w' R := e ▸ h

set_option maxRecDepth 100000 in
set_option maxHeartbeats 2000000 in
theorem readL_any (A : Option Addr) (bs rest : List Int) (rs : List (List Int)) (c : Nat) (w : World) (hA : Byt w A bs) (hb8 : B8 bs) (hl : bs.length ≤ 100000) (hc : bs.length ≤ c) (hp : Parses 0 bs rs rest) :
    Calls Try.prog 12 #[.slice A bs.length c] w (GiveLR w rs rest) := by
  have hst := start1 w #[.slice none 0 0, .slice none 0 0, .int .i64 0, .int .i64 0, .int .u64 0] 34
  have hsz : (w.alloc (.cells #[.slice none 0 0, .slice none 0 0, .int .i64 0, .int .i64 0, .int .u64 0] 34)).heap.size = w.heap.size + 1 := World.size_alloc _ _
  go_enter Try.func12, Try.ntmps12
  go_upto_region 1 with fail
  generalize w.alloc (.cells #[.slice none 0 0, .slice none 0 0, .int .i64 0, .int .i64 0, .int .u64 0] 34) = X at *
  obtain ⟨hbx, hbX⟩ := hst
  have hrd := read_any A bs rest rs c X (hA.keep hbX) hb8 hl hc hp
  have HBX := Lib.hid hbx
  clear hA hp hbx
  go_upto_region 2 with (go_at_call 25; refine hrd.mono ?_; rintro e w1 hg; obtain ⟨A1, c1, B1, d1, rfl, g1, g2, g3, g4, g5, hb1⟩ := read_form hg)
  have hx := HBX.out.keep hb1
  obtain ⟨f0, f1, f2, f3, f4⟩ := hx.f5
  obtain ⟨k0, k1, k2, k3, k4⟩ := hx.c5
  have hs := Lib.hid (hx.s5 (.slice A1 rs.length c1) (.slice B1 rest.length d1) (.int .i64 (errR rest)) (.int .i64 0) (.int .u64 0))
  have G4 := Lib.hid (((((g4.set (p := ⟨w.heap.size, 0, none⟩) (by simp; omega) (.slice A1 rs.length c1)).set (p := ⟨w.heap.size, 1, none⟩) (by simp; omega) (.slice B1 rest.length d1)).set (p := ⟨w.heap.size, 2, none⟩) (by simp; omega) (.int .i64 (errR rest))).set (p := ⟨w.heap.size, 3, none⟩) (by simp; omega) (.int .i64 0)).set (p := ⟨w.heap.size, 4, none⟩) (by simp; omega) (.int .u64 0))
  have G5 := Lib.hid (((((ArrF.set g5 (p := ⟨w.heap.size, 0, none⟩) (by simp; omega) (.slice A1 rs.length c1)).set (p := ⟨w.heap.size, 1, none⟩) (by simp; omega) (.slice B1 rest.length d1)).set (p := ⟨w.heap.size, 2, none⟩) (by simp; omega) (.int .i64 (errR rest))).set (p := ⟨w.heap.size, 3, none⟩) (by simp; omega) (.int .i64 0)).set (p := ⟨w.heap.size, 4, none⟩) (by simp; omega) (.int .u64 0))
  have HB := Lib.hid ((((((hbX.trans (hb1.mono hbX.size)).setCell (p := ⟨w.heap.size, 0, none⟩) (Nat.le_refl _) (.slice A1 rs.length c1)).setCell (p := ⟨w.heap.size, 1, none⟩) (Nat.le_refl _) (.slice B1 rest.length d1)).setCell (p := ⟨w.heap.size, 2, none⟩) (Nat.le_refl _) (.int .i64 (errR rest))).setCell (p := ⟨w.heap.size, 3, none⟩) (Nat.le_refl _) (.int .i64 0)).setCell (p := ⟨w.heap.size, 4, none⟩) (Nat.le_refl _) (.int .u64 0))
  clear g4 g5 hx hrd
  go_wp2
  generalize ((((((w1.setCell ⟨w.heap.size, 0, none⟩ (.slice A1 rs.length c1)).setCell ⟨w.heap.size, 1, none⟩ (.slice B1 rest.length d1)).setCell ⟨w.heap.size, 2, none⟩ (.int .i64 (errR rest))).setCell ⟨w.heap.size, 3, none⟩ (.int .i64 0)).setCell ⟨w.heap.size, 4, none⟩ (.int .u64 0))) = Y at *
  obtain ⟨s0, s1, s2, s3, s4⟩ := hs.out.c5
  refine bodyPost_ret (v := .agg #[.slice A1 rs.length c1, .slice B1 rest.length d1, .int .i64 (errR rest), .int .i64 0, .int .u64 0]) (by simp [results, Try.results12, go_sem, s0, s1, s2, s3, s4]) rfl ?_
  exact ⟨A1, c1, B1, d1, rfl, g1, g2, g3, G4.out.mono (by omega), G5.out.mono (by omega), HB.out⟩

/-- What the law's put gives. -/
def GiveLP (w : World) (p : List Int × Int) (e : Ending) (w' : World) : Prop :=
  ∃ A c, e = .returned (.agg #[.slice A p.1.length c, .int .i64 p.2]) ∧ p.1.length ≤ c ∧ (A = none → p.1 = [] ∧ c = 0) ∧ ArrF w' w.heap.size A (u8s p.1) ∧ Below w.heap.size w w'

set_option maxRecDepth 100000 in
set_option maxHeartbeats 2000000 in
theorem putL_any (A B : Option Addr) (bs rest r : List Int) (rs : List (List Int)) (c d : Nat) (w : World) (hA : Byt w A bs) (hn : A = none → bs = [] ∧ c = 0) (hb8 : B8 bs) (hl : bs.length ≤ 100000) (hc : bs.length ≤ c) (hp : Parses 0 bs rs rest)
    (hB : Arr w B (i64s r)) (hr : ∀ x ∈ r, I64 x) (hrl : r.length ≤ 100000) :
    Calls Try.prog 14 #[.slice A bs.length c, .slice B r.length d] w (GiveLP w (putF bs rest rs r)) := by
  have hst := start1 w #[.slice none 0 0, .int .i64 0] 37
  have hsz : (w.alloc (.cells #[.slice none 0 0, .int .i64 0] 37)).heap.size = w.heap.size + 1 := World.size_alloc _ _
  go_enter Try.func14, Try.ntmps14
  go_upto_region 1 with fail
  generalize w.alloc (.cells #[.slice none 0 0, .int .i64 0] 37) = X at *
  obtain ⟨hbx, hbX⟩ := hst
  have hrd := put_any A B bs rest r rs c d X (hA.keep hbX) hn hb8 hl hc hp (hB.keep hbX) hr hrl
  generalize putF bs rest rs r = p at *
  have HBX := Lib.hid hbx
  clear hA hp hbx hB hr hn
  go_upto_region 2 with (go_at_call 27; refine hrd.mono ?_; rintro e w1 ⟨A1, c1, rfl, g1, g2, g4, hb1⟩)
  have hx := HBX.out.keep hb1
  obtain ⟨f0, f1⟩ := hx.f2
  obtain ⟨k0, k1⟩ := hx.c2
  have hs := Lib.hid (hx.s2 (.slice A1 p.1.length c1) (.int .i64 p.2))
  have G4 := Lib.hid ((ArrF.set g4 (p := ⟨w.heap.size, 0, none⟩) (by simp; omega) (.slice A1 p.1.length c1)).set (p := ⟨w.heap.size, 1, none⟩) (by simp; omega) (.int .i64 p.2))
  have HB := Lib.hid (((hbX.trans (hb1.mono hbX.size)).setCell (p := ⟨w.heap.size, 0, none⟩) (Nat.le_refl _) (.slice A1 p.1.length c1)).setCell (p := ⟨w.heap.size, 1, none⟩) (Nat.le_refl _) (.int .i64 p.2))
  clear g4 hx hrd
  go_wp2
  generalize (w1.setCell ⟨w.heap.size, 0, none⟩ (.slice A1 p.1.length c1)).setCell ⟨w.heap.size, 1, none⟩ (.int .i64 p.2) = Y at *
  obtain ⟨s0, s1⟩ := hs.out.c2
  refine bodyPost_ret (v := .agg #[.slice A1 p.1.length c1, .int .i64 p.2]) (by simp [results, Try.results14, go_sem, s0, s1]) rfl ?_
  exact ⟨A1, c1, rfl, g1, g2, G4.out.mono (by omega), HB.out⟩

/-- Lists that the law takes. -/
def smallB (rs : List (List Int)) : Bool := rs.all (fun r => decide (r.length ≤ 12)) && decide (rs.length ≤ 12)
theorem ret_bool2 {a b : Bool} (h : a = b) : Ending.returned (.bool a) = .returned (.bool b) := by rw [h]

set_option maxHeartbeats 2000000 in
theorem small_any (A : Option Addr) (rs : List (List Int)) (c : Nat) (w : World) (hA : LL w A rs) (hl : rs.length ≤ 9223372036854775807) :
    Calls Try.prog 10 #[.slice A rs.length c] w fun e w' => e = .returned (.bool (smallB rs)) ∧ w = w' := by
  obtain ⟨b, o, hb⟩ := hA.open_
  have HA := Lib.hid hb
  clear hb hA
  go_enter Try.func10, Try.ntmps10
  go_wp2
  go_loop [3] (fun i => ∃ k : Nat, k ≤ rs.length ∧ i = .int .i64 k ∧ ∀ r ∈ rs.take k, r.length ≤ 12) (fun i => rs.length - (intOf i).toNat)
  case atStart => exact ⟨0, Nat.zero_le _, rfl, by simp⟩
  case round =>
    obtain ⟨k, hk, rfl, hs⟩ := hrel
    have HS := Lib.hid hs
    clear hs
    by_cases hlt : k < rs.length
    · obtain ⟨r, hr⟩ := get_ex hlt
      obtain ⟨rfl, hbs, hc⟩ := HA.out (by intro h; subst h; simp at hlt)
      obtain ⟨A2, c2, h1, h2, h3⟩ := hc k r hr
      have HR := Lib.hid hr
      clear hc h3 hr HA
      by_cases h12 : 12 < r.length
      · have HN : Hid (smallB rs = false) := Lib.hid (by
          unfold smallB
          have : rs.all (fun r => decide (r.length ≤ 12)) = false := by
            rw [List.all_eq_false]
            exact ⟨r, List.mem_of_getElem? HR.out, by simp; omega⟩
          rw [this]; rfl)
        go_wp2
        go_ret
        exact ⟨ret_bool HN.out.symm, rfl⟩
      · go_wp2
        go_round
        case rel => exact ⟨k + 1, by omega, by go_num, fun x hx => by
          rw [take_snoc HR.out, List.mem_append] at hx
          rcases hx with hx | hx
          · exact HS.out x hx
          · rw [List.mem_singleton] at hx; subst hx; omega⟩
        case measure => simp [intOf]; omega
    · obtain rfl : k = rs.length := by omega
      have HN : Hid (smallB rs = decide (rs.length ≤ 12)) := Lib.hid (by
        unfold smallB
        have : rs.all (fun r => decide (r.length ≤ 12)) = true := by
          rw [List.all_eq_true]
          intro x hx
          exact decide_eq_true (HS.out x (by rw [List.take_length]; exact hx))
        rw [this, Bool.true_and])
      clear HS HA
      go_wp2
      go_ret
      refine ⟨ret_bool ?_, rfl⟩
      rw [HN.out]
      exact decide_eq_decide.2 (by omega)
end Jn
end Go.Proofs.Ytcdoalfpaldbmaa
