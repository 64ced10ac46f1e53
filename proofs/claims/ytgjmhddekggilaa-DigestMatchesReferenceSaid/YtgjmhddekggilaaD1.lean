/- What Root returns. -/
import Derived.Test.YtgjmhddekggilaaC2
import Derived.Test.YtgjmhddekggilaaM3
namespace Go.Proofs.Ytgjmhddekggilaa
open Go.RowKit
namespace Dg

def lenOf : Value → Nat
  | .slice _ n _ => n
  | _ => 0

/-- A slice of the digests l lies in v. -/
def Lies (w : World) (v : Value) (l : List Int) : Prop := ∃ A c, v = .slice A l.length c ∧ l.length ≤ c ∧ Arr w A (l.map (Value.int .u64))

/-- What holds at each round's head. -/
def RootAt (zs : List Int) (w : World) (v : Value) (wr : World) : Prop := ∃ l, Lies wr v l ∧ l ≠ [] ∧ l.length ≤ zs.length ∧ rootT l = rootT zs ∧ Below w.heap.size w wr

theorem Lies.one {w : World} {v : Value} {l : List Int} (h : Lies w v l) (h0 : l ≠ []) (h1 : ¬ 1 < l.length) : ∃ x b o c, l = [x] ∧ v = .slice (some ⟨b, o, none⟩) 1 c ∧ w.cell? ⟨b, o, none⟩ = some (.int .u64 x) := by
  obtain ⟨A, c, rfl, _, hA⟩ := h
  match l, h0, h1, hA with
  | [x], _, _, hA =>
    obtain ⟨b, o, rfl, _, hc⟩ := hA.at_ (by simp)
    exact ⟨x, b, o, c, rfl, rfl, hc 0 (by simp)⟩
  | _ :: _ :: _, _, h1, _ => simp at h1

set_option maxHeartbeats 400000 in
theorem root_some (A : Option Addr) (zs : List Int) (cap : Nat) (w : World) (hne : 0 < zs.length) (hlen : zs.length ≤ 17592186044416) (hcap : zs.length ≤ cap) (hA : Arr w A (zs.map (Value.int .u64))) :
    Calls Try.prog 19 #[.slice A zs.length cap] w fun e w' => e = .returned (.int .u64 (rootT zs)) ∧ Below w.heap.size w w' := by
  have h0 : RootAt zs w (.slice A zs.length cap) w := ⟨zs, ⟨A, cap, rfl, hcap, hA⟩, by intro h; subst h; simp at hne, Nat.le_refl _, rfl, Below.refl _ _⟩
  clear hA
  have hc0 : ((zs.length : Int) == 0) = false := beq_eq_false_iff_ne.2 (by omega)
  go_enter Try.func19, Try.ntmps19
  go_wp2
  go_loopw [3] (fun v wr => RootAt zs w v wr) (fun v _ => lenOf v)
  case atStart => exact h0
  case round =>
    obtain ⟨l, hl, hl0, hle, hr, hb⟩ := hrel
    have HR := Lib.hid hr
    clear hr h0
    by_cases hlt : 1 < l.length
    · obtain ⟨A1, c1, rfl, hc1, hA1⟩ := hl
      go_wp2_with (go_at_call 31; refine (next_any _ _ _ _ (by omega) hc1 hA1).mono ?_; rintro e w1 ⟨A2, c2, rfl, hc2, hF2, hb2⟩)
      go_roundw
      case rel => exact ⟨levelI l, ⟨A2, c2, rfl, hc2, hF2.arr⟩, by intro h; have := levelI_length l; rw [h] at this; simp at this; omega, by rw [levelI_length]; omega, by rw [← rootT_step l hlt]; exact HR.out, hb.trans (hb2.mono hb.size)⟩
      case measure => simp only [lenOf, levelI_length]; omega
    · obtain ⟨x, b, o, c, rfl, rfl, hc⟩ := hl.one hl0 hlt
      clear hl
      go_wp2
      go_ret
      exact ⟨ret_int (by rw [← HR.out, rootT_one _ (by simp)]; rfl), hb⟩

theorem root_nil (A : Option Addr) (cap : Nat) (w : World) :
    Calls Try.prog 19 #[.slice A 0 cap] w fun e w' => e = .returned (.int .u64 (wordsI [])) ∧ Below w.heap.size w w' := by
  go_enter Try.func19, Try.ntmps19
  go_wp2_with (go_at_call 11; refine (words_any none [] 0 _ (by simp) (Arr.nil _ _)).mono ?_; rintro e w1 ⟨rfl, hb1⟩)
  go_ret
  exact ⟨rfl, hb1⟩

theorem root_any (A : Option Addr) (zs : List Int) (cap : Nat) (w : World) (hlen : zs.length ≤ 17592186044416) (hcap : zs.length ≤ cap) (hA : Arr w A (zs.map (Value.int .u64))) :
    Calls Try.prog 19 #[.slice A zs.length cap] w fun e w' => e = .returned (.int .u64 (rootI zs)) ∧ Below w.heap.size w w' := by
  unfold rootI
  by_cases h : zs = []
  · rw [if_pos h]
    subst h
    exact root_nil A cap w
  · rw [if_neg h]
    exact root_some A zs cap w (List.length_pos_iff.2 h) hlen hcap hA

end Dg
end Go.Proofs.Ytgjmhddekggilaa
