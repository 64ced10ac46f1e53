/- The files that the law makes: pieces, Made, Clean. -/
import Derived.Test.YtiebhlmjpnhepaaDoorWC
import Derived.Test.YtiebhlmjpnhepaaDoorM5
import Derived.Laws.Concat
import Derived.Laws.IdiomStrings
namespace Go.Proofs.YtiebhlmjpnhepaaDoor
open Go.RowKit Sl Fr
namespace Lx
set_option linter.unusedVariables false
set_option linter.unusedSimpArgs false

/-- Bytes as they come in. -/
def BytA (w : World) (A : Option Addr) (l : List Nat) : Prop := Arr w A (l.map fun (n : Nat) => Value.int .u8 (n : Int)) ∧ ∀ n ∈ l, n < 256
theorem BytA.keep {w w' : World} {A : Option Addr} {l : List Nat} (h : BytA w A l) (hb : Below w.heap.size w w') : BytA w' A l := ⟨Arr.keep h.1 hb, h.2⟩
theorem BytA.open {w : World} {A : Option Addr} {l : List Nat} (h : BytA w A l) : ∃ b o, l ≠ [] → A = some ⟨b, o, none⟩ ∧ b < w.heap.size ∧ ∀ (j n : Nat), l[j]? = some n → w.cell? ⟨b, o + j, none⟩ = some (.int .u8 (n : Int)) ∧ n < 256 := by
  by_cases hl : l = []
  · exact ⟨0, 0, fun h' => absurd hl h'⟩
  · obtain ⟨b, o, e, hlt, hc⟩ := h.1 (by simpa using hl)
    exact ⟨b, o, fun _ => ⟨e, hlt, fun j n hn => ⟨hc j _ (by rw [List.getElem?_map, hn]; rfl), h.2 n (List.mem_of_getElem? hn)⟩⟩⟩

def GiveB (w : World) (e : Ending) (w' : World) : Prop := e = .returned (.slice (some ⟨w.heap.size, 0, none⟩) 50 50) ∧ w.heap.size < w'.heap.size ∧ (∀ j p, pcs[j]? = some p → w'.cell? ⟨w.heap.size, j, none⟩ = some (.string ⟨p.toArray⟩)) ∧ Below w.heap.size w w'
set_option maxRecDepth 100000 in
theorem pieces_any (w : World) : Calls Tryd.prog 25 #[] w (GiveB w) := by
  obtain ⟨m, B⟩ := start1 w (pcs.map strV).toArray 9
  have hm : ∀ j p, pcs[j]? = some p → (w.alloc (.cells (pcs.map strV).toArray 9)).cell? ⟨w.heap.size, j, none⟩ = some (.string ⟨p.toArray⟩) := fun j p hp => (m.cells j _ (by rw [← Array.getElem?_toList]; show (pcs.map strV)[j]? = _; rw [List.getElem?_map, hp]; rfl)).1
  have HM := Lib.hid hm
  have HB := Lib.hid B
  have HL := Lib.hid m.lt
  clear m B hm
  go_enter Tryd.func25, Tryd.ntmps25
  go_wp2_with fail
  go_ret
  exact ⟨rfl, HL.out, HM.out, HB.out⟩

/-- Some short string is given back. -/
def GiveR (P : By → Prop) (w : World) (e : Ending) (w' : World) : Prop := ∃ r : ByteArray, e = .returned (.string r) ∧ r.size ≤ 600 ∧ P (bys r) ∧ Below w.heap.size w w'
theorem bys_add (a b : ByteArray) : bys (a ++ b) = bys a ++ bys b := by simp [bys]
theorem byte_size (a : Array UInt8) : (⟨a⟩ : ByteArray).size = a.size := rfl

set_option maxRecDepth 100000 in
set_option maxHeartbeats 4000000 in
theorem clean_any (A : Option Addr) (l : List Nat) (c : Nat) (w : World) (hA : BytA w A l) (hl : l.length ≤ 9223372036854775807) :
    Calls Tryd.prog 12 #[.slice A l.length c] w (GiveR Good w) := by
  obtain ⟨b, o, hb⟩ := hA.open
  have HA := Lib.hid hb
  clear hb hA
  go_enter Tryd.func12, Tryd.ntmps12
  go_wp2_with fail
  refine (pieces_any w).mono ?_
  rintro e W ⟨rfl, hlt, hp, hB⟩
  have HP := Lib.hid hp
  have HB := Lib.hid hB
  clear hp hB
  go_wp2_with fail
  go_loop [4, 5] (fun r i => ∃ (k : Nat) (q : ByteArray), i = .int .i64 (k : Int) ∧ r = .string q ∧ k ≤ l.length ∧ k ≤ 60 ∧ q.size ≤ 10 * k ∧ Good (bys q)) (fun _ i => 60 - (intOf i).toNat)
  case atStart => exact ⟨0, ⟨#[]⟩, rfl, rfl, by omega, by omega, by decide, Good.nil⟩
  case round =>
    obtain ⟨k, q, rfl, rfl, hk, hk6, hq, hg⟩ := hrel
    have HG := Lib.hid hg
    clear hg
    by_cases h1 : k < l.length
    · by_cases h2 : k < 60
      · obtain ⟨n, hn⟩ := get_ex h1
        obtain ⟨rfl, hbs, hc⟩ := HA.out (by intro h; subst h; simp at h1)
        obtain ⟨hcc, hn256⟩ := hc k n hn
        have c0 := (HB.out.cell (p := ⟨b, o + k, none⟩) hbs).trans hcc
        obtain ⟨m, hm⟩ : ∃ m : Nat, m = n % 40 := ⟨_, rfl⟩
        have hm40 : m < 40 := by omega
        have hrem : (n : Int) % 40 = (m : Int) := by omega
        have hmt : ((n : Int)).tmod 40 = (m : Int) := by rw [Int.tmod_eq_emod_of_nonneg (by omega)]; exact hrem
        obtain ⟨p, hpp⟩ : ∃ p, pcs[m]? = some p := get_ex (by rw [pcs_len]; omega)
        have c1 := HP.out m p hpp
        have hp9 := pcs_le p (List.mem_of_getElem? hpp)
        have hp4 : p ∈ pcs.take 40 := by
          have : (pcs.take 40)[m]? = some p := by rw [List.getElem?_take, if_pos hm40]; exact hpp
          exact List.mem_of_getElem? this
        have hsz : (⟨p.toArray⟩ : ByteArray).size ≤ 9 := by rw [byte_size]; simpa using hp9
        have HP4 := Lib.hid hp4
        have hbp : bys ⟨p.toArray⟩ = p := by simp [bys]
        have HBP := Lib.hid hbp
        generalize (⟨p.toArray⟩ : ByteArray) = ps at *
        clear hc hcc hn hpp hp4 hbp HA
        clear hm
        by_cases h3 : 200 ≤ (n : Int)
        · go_wp2_with fail
          go_round
          case rel => exact ⟨k + 1, q ++ ps ++ ⟨#[10]⟩, by go_num, rfl, by omega, by omega, by simp only [ByteArray.size_append, byte_size]; simp; omega, by
            rw [bys_add, bys_add, HBP.out, List.append_assoc]
            exact HG.out.app (good_piece HP4.out (.inr rfl))⟩
          case measure => simp [intOf]; omega
        · go_wp2_with fail
          go_round
          case rel => exact ⟨k + 1, q ++ ps ++ ⟨#[32]⟩, by go_num, rfl, by omega, by omega, by simp only [ByteArray.size_append, byte_size]; simp; omega, by
            rw [bys_add, bys_add, HBP.out, List.append_assoc]
            exact HG.out.app (good_piece HP4.out (.inl rfl))⟩
          case measure => simp [intOf]; omega
      · go_wp2_with fail
        go_ret
        exact ⟨q, rfl, by omega, HG.out, HB.out⟩
    · go_wp2_with fail
      go_ret
      exact ⟨q, rfl, by omega, HG.out, HB.out⟩

end Lx
end Go.Proofs.YtiebhlmjpnhepaaDoor
