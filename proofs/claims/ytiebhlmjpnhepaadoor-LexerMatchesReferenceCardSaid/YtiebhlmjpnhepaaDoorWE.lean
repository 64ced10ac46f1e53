/- Made. -/
import Derived.Test.YtiebhlmjpnhepaaDoorWD
namespace Go.Proofs.YtiebhlmjpnhepaaDoor
open Go.RowKit Sl Fr
namespace Lx
set_option linter.unusedVariables false
set_option linter.unusedSimpArgs false

def MadeAt (L : Nat) (r i : Value) : Prop := ∃ (k : Nat) (q : ByteArray), i = .int .i64 (k : Int) ∧ r = .string q ∧ k ≤ L ∧ k ≤ 60 ∧ q.size ≤ 10 * k
set_option maxRecDepth 100000 in
set_option maxHeartbeats 4000000 in
theorem made_any (A : Option Addr) (l : List Nat) (c : Nat) (w : World) (hA : BytA w A l) (hl : l.length ≤ 9223372036854775807) :
    Calls Tryd.prog 11 #[.slice A l.length c] w (GiveR (fun _ => True) w) := by
  obtain ⟨b, o, hb⟩ := hA.open
  have HA := Lib.hid hb
  clear hb hA
  go_enter Tryd.func11, Tryd.ntmps11
  go_wp2_with fail
  refine (pieces_any w).mono ?_
  rintro e W ⟨rfl, hlt, hp, hB⟩
  have HP := Lib.hid hp
  have HB := Lib.hid hB
  clear hp hB
  go_wp2_with fail
  go_loop [4, 5] (MadeAt l.length) (fun _ i => 60 - (intOf i).toNat)
  case atStart => exact ⟨0, ⟨#[]⟩, rfl, rfl, by omega, by omega, by decide⟩
  case round =>
    obtain ⟨k, q, rfl, rfl, hk, hk6, hq⟩ := hrel
    by_cases h1 : k < l.length
    · by_cases h2 : k < 60
      · obtain ⟨n, hn⟩ := get_ex h1
        obtain ⟨rfl, hbs, hc⟩ := HA.out (by intro h; subst h; simp at h1)
        obtain ⟨hcc, hn256⟩ := hc k n hn
        have c0 := (HB.out.cell (p := ⟨b, o + k, none⟩) hbs).trans hcc
        clear hc hcc hn HA
        obtain ⟨d, hd⟩ : ∃ d : Nat, d = n % 3 := ⟨_, rfl⟩
        have hd3 : (n : Int) % 3 = (d : Int) := by omega
        have hdt : ((n : Int)).tmod 3 = (d : Int) := by rw [Int.tmod_eq_emod_of_nonneg (by omega)]; exact hd3
        have hdl : d < 3 := by omega
        clear hd
        by_cases h3 : 240 ≤ (n : Int)
        · obtain ⟨m, hm⟩ : ∃ m : Nat, m = n % 10 := ⟨_, rfl⟩
          obtain ⟨m0, hm0⟩ : ∃ m : Nat, m = n % 40 := ⟨_, rfl⟩
          have hrem : (n : Int) % 10 = (m : Int) := by omega
          have hmt : ((n : Int)).tmod 10 = (m : Int) := by rw [Int.tmod_eq_emod_of_nonneg (by omega)]; exact hrem
          have hrem0 : (n : Int) % 40 = (m0 : Int) := by omega
          have hmt0 : ((n : Int)).tmod 40 = (m0 : Int) := by rw [Int.tmod_eq_emod_of_nonneg (by omega)]; exact hrem0
          have hm10 : m < 10 := by omega
          obtain ⟨z, hz⟩ : ∃ z : Nat, z = 40 + m := ⟨_, rfl⟩
          have hzi : (40 : Int) + (m : Int) = (z : Int) := by omega
          have hz50 : z < 50 := by omega
          obtain ⟨p, hpp⟩ : ∃ p, pcs[z]? = some p := get_ex (by rw [pcs_len]; omega)
          have c1 := HP.out z p hpp
          have hp9 := pcs_le p (List.mem_of_getElem? hpp)
          have hsz : (⟨p.toArray⟩ : ByteArray).size ≤ 9 := by rw [byte_size]; simpa using hp9
          generalize (⟨p.toArray⟩ : ByteArray) = ps at *
          clear hpp hm hm0 hz
          by_cases h4 : 0 < d
          · go_wp2_with fail
            go_round
            case rel => exact ⟨k + 1, q ++ ps ++ ⟨#[32]⟩, by go_num, rfl, by omega, by omega, by simp only [ByteArray.size_append, byte_size]; simp; omega⟩
            case measure => simp [intOf]; omega
          · obtain rfl : d = 0 := by omega
            go_wp2_with fail
            go_round
            case rel => exact ⟨k + 1, q ++ ps, by go_num, rfl, by omega, by omega, by simp only [ByteArray.size_append]; omega⟩
            case measure => simp [intOf]; omega
        · obtain ⟨m, hm⟩ : ∃ m : Nat, m = n % 40 := ⟨_, rfl⟩
          have hm40 : m < 40 := by omega
          have hrem : (n : Int) % 40 = (m : Int) := by omega
          have hmt : ((n : Int)).tmod 40 = (m : Int) := by rw [Int.tmod_eq_emod_of_nonneg (by omega)]; exact hrem
          obtain ⟨p, hpp⟩ : ∃ p, pcs[m]? = some p := get_ex (by rw [pcs_len]; omega)
          have c1 := HP.out m p hpp
          have hp9 := pcs_le p (List.mem_of_getElem? hpp)
          have hsz : (⟨p.toArray⟩ : ByteArray).size ≤ 9 := by rw [byte_size]; simpa using hp9
          generalize (⟨p.toArray⟩ : ByteArray) = ps at *
          clear hpp hm
          by_cases h4 : 0 < d
          · go_wp2_with fail
            go_round
            case rel => exact ⟨k + 1, q ++ ps ++ ⟨#[32]⟩, by go_num, rfl, by omega, by omega, by simp only [ByteArray.size_append, byte_size]; simp; omega⟩
            case measure => simp [intOf]; omega
          · obtain rfl : d = 0 := by omega
            go_wp2_with fail
            go_round
            case rel => exact ⟨k + 1, q ++ ps, by go_num, rfl, by omega, by omega, by simp only [ByteArray.size_append]; omega⟩
            case measure => simp [intOf]; omega
      · go_wp2_with fail
        go_ret
        exact ⟨q, rfl, by omega, trivial, HB.out⟩
    · go_wp2_with fail
      go_ret
      exact ⟨q, rfl, by omega, trivial, HB.out⟩

end Lx
end Go.Proofs.YtiebhlmjpnhepaaDoor
