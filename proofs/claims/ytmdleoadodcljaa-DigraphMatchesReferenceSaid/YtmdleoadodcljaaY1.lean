/- The reference's Valid and free. -/
import Derived.Test.YtmdleoadodcljaaGO
namespace Go.Proofs.Ytmdleoadodcljaa
open Go.RowKit Sl Fr
namespace Gp
set_option linter.unusedVariables false

set_option maxHeartbeats 2000000 in
theorem rvalid_any (n : Int) (A : Option Addr) (es : List (Int × Int)) (c : Nat) (w : World) (hA : ArrP w A es) :
    Calls Try.prog 7 #[.int .i64 n, .slice A es.length c] w fun e w' => e = .returned (.bool (validB n es)) ∧ w' = w := by
  by_cases h0 : n < 0
  · go_enter Try.func7, Try.ntmps7
    go_wp2
    go_ret
    exact ⟨by simp [validB]; omega, rfl⟩
  by_cases h1 : 200 < n
  · go_enter Try.func7, Try.ntmps7
    go_wp2
    go_ret
    exact ⟨by simp [validB]; omega, rfl⟩
  by_cases h2 : 2000 < es.length
  · go_enter Try.func7, Try.ntmps7
    go_wp2
    go_ret
    exact ⟨by simp [validB]; omega, rfl⟩
  obtain ⟨b, o, hb⟩ := ArrP.open hA
  have HB := Lib.hid hb
  clear hb hA
  have HV : Hid (validB n es = es.all (inB n)) := Lib.hid (by simp [validB]; omega)
  go_enter Try.func7, Try.ntmps7
  go_wp2
  go_loop [5] (fun i => ∃ k : Nat, k ≤ es.length ∧ i = .int .i64 k ∧ (es.take k).all (inB n) = true) (fun i => es.length - (intOf i).toNat)
  case atStart => exact ⟨0, Nat.zero_le _, rfl, by simp⟩
  case round =>
    obtain ⟨k, hk, rfl, hall⟩ := hrel
    have HG := Lib.hid hall
    clear hall
    by_cases hlt : k < es.length
    · obtain ⟨⟨u, v⟩, huv⟩ := get_ex hlt
      obtain ⟨rfl, hbs, hc⟩ := HB.out (by intro h; subst h; simp at hlt)
      obtain ⟨hu, hv⟩ := hc k u v huv
      have HE := Lib.hid huv
      have bad : inB n (u, v) = false → validB n es = false := fun h => by rw [HV.out]; exact all_no HE.out h
      have HBAD := Lib.hid bad
      clear hc huv HB bad
      by_cases hu0 : u < 0
      · go_wp2
        go_ret
        exact ⟨ret_bool (HBAD.out (by simp [inB]; omega)).symm, rfl⟩
      by_cases hun : n ≤ u
      · go_wp2
        go_ret
        exact ⟨ret_bool (HBAD.out (by simp [inB]; omega)).symm, rfl⟩
      by_cases hv0 : v < 0
      · go_wp2
        go_ret
        exact ⟨ret_bool (HBAD.out (by simp [inB]; omega)).symm, rfl⟩
      by_cases hvn : n ≤ v
      · go_wp2
        go_ret
        exact ⟨ret_bool (HBAD.out (by simp [inB]; omega)).symm, rfl⟩
      go_wp2
      go_round
      case rel => exact ⟨k + 1, by omega, by go_num, by rw [take_snoc HE.out, List.all_append, HG.out]; simp [inB]; omega⟩
      case measure => simp [intOf]; omega
    · go_wp2
      go_ret
      refine ⟨?_, rfl⟩
      have := HG.out
      rw [show k = es.length by omega, List.take_length] at this
      exact ret_bool (by rw [HV.out, this])

/-- All predecessors are in the list. -/
def okB (es : Dgr.Edges) (acc : List Nat) (v : Nat) : Bool := es.all fun e => e.2 != v || acc.contains e.1
theorem okB_no {es : Dgr.Edges} {acc : List Nat} {v j p : Nat} (h : es[j]? = some (p, v)) (hp : acc.contains p = false) : okB es acc v = false := by
  rw [okB, List.all_eq_false]
  exact ⟨_, List.mem_of_getElem? h, by simpa using hp⟩

set_option maxHeartbeats 2000000 in
theorem rfree_any (n M : Nat) (A : Option Addr) (es : Dgr.Edges) (acc : List Nat) (c v : Nat) (w : World) (hA : EdgesA w A es) (ok : Dgr.Ok n es) (hM : CellsV w M n (bF fun x => acc.contains x)) (hn : n ≤ 200) (hl : es.length ≤ 2000) (hv : v < n) :
    Calls Try.prog 26 #[.slice A es.length c, .slice (some ⟨M, 0, none⟩) n n, .int .i64 v] w fun e w' => e = .returned (.bool (okB es acc v)) ∧ w' = w := by
  obtain ⟨b, o, hb⟩ := hA.open
  have HB := Lib.hid hb
  have HO := Lib.hid ok
  have HM := Lib.hid hM
  clear hb hA ok hM
  go_enter Try.func26, Try.ntmps26
  go_wp2
  go_loop [7] (fun i => ∃ k : Nat, k ≤ es.length ∧ i = .int .i64 k ∧ ((es.take k).all fun e => e.2 != v || acc.contains e.1) = true) (fun i => es.length - (intOf i).toNat)
  case atStart => exact ⟨0, Nat.zero_le _, rfl, by simp⟩
  case round =>
    obtain ⟨k, hk, rfl, hall⟩ := hrel
    have HG := Lib.hid hall
    clear hall
    have hk1 : (0 : Int) ≤ (k : Int) := Int.natCast_nonneg _
    by_cases hlt : k < es.length
    · obtain ⟨⟨p, q⟩, hpq⟩ := get_ex hlt
      obtain ⟨rfl, hbs, hc⟩ := HB.out (by intro h; subst h; simp at hlt)
      obtain ⟨hp, hq⟩ := hc k p q hpq
      have hpn : p < n := (HO.out _ (List.mem_of_getElem? hpq)).1
      have hcm : w.cell? ⟨M, p, none⟩ = some (.bool (acc.contains p)) := HM.out.cell p hpn
      have hp1 : (0 : Int) ≤ (p : Int) := Int.natCast_nonneg _
      have hp2 : (p : Int) < (n : Int) := by omega
      have HE := Lib.hid hpq
      clear hc hpq HB
      by_cases hqv : q = v
      · subst hqv
        have hqd : ((q : Int) == (q : Int)) = true := by rw [beq_iff_eq]
        cases hac : acc.contains p with
        | true =>
          rw [hac] at hcm
          have HAC := Lib.hid hac
          clear hac
          go_wp2
          go_round
          case rel => exact ⟨k + 1, by omega, by go_num, by rw [take_snoc HE.out, List.all_append, HG.out]; simp only [List.all_cons, List.all_nil, HAC.out]; simp⟩
          case measure => simp [intOf]; omega
        | false =>
          rw [hac] at hcm
          have HN := Lib.hid (okB_no HE.out hac)
          clear hac
          go_wp2
          go_ret
          exact ⟨ret_bool HN.out.symm, rfl⟩
      · have hqd : ((q : Int) == (v : Int)) = false := by rw [beq_eq_false_iff_ne]; omega
        go_wp2
        go_round
        case rel => exact ⟨k + 1, by omega, by go_num, by rw [take_snoc HE.out, List.all_append, HG.out]; simp [hqv]⟩
        case measure => simp [intOf]; omega
    · go_wp2
      go_ret
      refine ⟨?_, rfl⟩
      have := HG.out
      rw [show k = es.length by omega, List.take_length] at this
      exact ret_bool this.symm
end Gp
end Go.Proofs.Ytmdleoadodcljaa
