/- The law's examples. -/
import Derived.Test.YtggeepimihhpjaaGreatDoorUA
namespace Go.Proofs.YtggeepimihhpjaaGreatDoor
open Go.RowKit Go.Shelf Go.Lib Sl Fr Lx
namespace Sy
set_option linter.unusedVariables false
set_option linter.unusedSimpArgs false

theorem fr_box {W : World} {b : Nat} {cs : Array Value} (h : BoxL W b cs) : FR W (fun b => b < W.heap.size) (some ⟨b, 0, none⟩) cs.toList := fun hne => ⟨b, 0, rfl, h.lt, h.lt, fun j u hj => by
  rw [Nat.zero_add]
  exact (h.cells j u (by simpa using hj)).1⟩
def i1 : ItemT := { item0 with kind := 1, name := [97], width := ⟨3, []⟩ }
theorem lit1 (w : World) : FileM (((w.alloc (.cells #[.int .i64 1, .string ⟨#[97]⟩, .int .i64 3, .string ⟨#[]⟩, .int .i64 0, .string ⟨#[]⟩, .int .i64 0, .string ⟨#[]⟩, .int .i64 0, .string ⟨#[]⟩, .int .i64 0, .string ⟨#[]⟩, .int .i64 0, .string ⟨#[]⟩, .slice none 0 0, .int .i64 0, .string ⟨#[]⟩, .int .i64 0, .string ⟨#[]⟩, .int .i64 0, .string ⟨#[]⟩, .slice none 0 0, .int .i64 0, .string ⟨#[]⟩, .int .i64 0, .string ⟨#[]⟩, .int .i64 0, .string ⟨#[]⟩, .slice none 0 0, .int .i64 0, .string ⟨#[]⟩, .int .i64 0, .string ⟨#[]⟩, .slice none 0 0, .slice none 0 0] 69)).alloc (.cells #[.string ⟨#[109]⟩, .string ⟨#[99]⟩, .slice none 0 0, .slice (some ⟨w.heap.size, 0, none⟩) 1 1] 46)).alloc (.cells #[.slice (some ⟨w.heap.size + 1, 0, none⟩) 1 1] 27)) f1 (some ⟨w.heap.size + 1, 0, none⟩) 1 ∧ BoxL (((w.alloc (.cells #[.int .i64 1, .string ⟨#[97]⟩, .int .i64 3, .string ⟨#[]⟩, .int .i64 0, .string ⟨#[]⟩, .int .i64 0, .string ⟨#[]⟩, .int .i64 0, .string ⟨#[]⟩, .int .i64 0, .string ⟨#[]⟩, .int .i64 0, .string ⟨#[]⟩, .slice none 0 0, .int .i64 0, .string ⟨#[]⟩, .int .i64 0, .string ⟨#[]⟩, .int .i64 0, .string ⟨#[]⟩, .slice none 0 0, .int .i64 0, .string ⟨#[]⟩, .int .i64 0, .string ⟨#[]⟩, .int .i64 0, .string ⟨#[]⟩, .slice none 0 0, .int .i64 0, .string ⟨#[]⟩, .int .i64 0, .string ⟨#[]⟩, .slice none 0 0, .slice none 0 0] 69)).alloc (.cells #[.string ⟨#[109]⟩, .string ⟨#[99]⟩, .slice none 0 0, .slice (some ⟨w.heap.size, 0, none⟩) 1 1] 46)).alloc (.cells #[.slice (some ⟨w.heap.size + 1, 0, none⟩) 1 1] 27)) (w.heap.size + 2) #[.slice (some ⟨w.heap.size + 1, 0, none⟩) 1 1] ∧ Below w.heap.size w (((w.alloc (.cells #[.int .i64 1, .string ⟨#[97]⟩, .int .i64 3, .string ⟨#[]⟩, .int .i64 0, .string ⟨#[]⟩, .int .i64 0, .string ⟨#[]⟩, .int .i64 0, .string ⟨#[]⟩, .int .i64 0, .string ⟨#[]⟩, .int .i64 0, .string ⟨#[]⟩, .slice none 0 0, .int .i64 0, .string ⟨#[]⟩, .int .i64 0, .string ⟨#[]⟩, .int .i64 0, .string ⟨#[]⟩, .slice none 0 0, .int .i64 0, .string ⟨#[]⟩, .int .i64 0, .string ⟨#[]⟩, .int .i64 0, .string ⟨#[]⟩, .slice none 0 0, .int .i64 0, .string ⟨#[]⟩, .int .i64 0, .string ⟨#[]⟩, .slice none 0 0, .slice none 0 0] 69)).alloc (.cells #[.string ⟨#[109]⟩, .string ⟨#[99]⟩, .slice none 0 0, .slice (some ⟨w.heap.size, 0, none⟩) 1 1] 46)).alloc (.cells #[.slice (some ⟨w.heap.size + 1, 0, none⟩) 1 1] 27)) := by
  have hb : Below w.heap.size w (((w.alloc (.cells #[.int .i64 1, .string ⟨#[97]⟩, .int .i64 3, .string ⟨#[]⟩, .int .i64 0, .string ⟨#[]⟩, .int .i64 0, .string ⟨#[]⟩, .int .i64 0, .string ⟨#[]⟩, .int .i64 0, .string ⟨#[]⟩, .int .i64 0, .string ⟨#[]⟩, .slice none 0 0, .int .i64 0, .string ⟨#[]⟩, .int .i64 0, .string ⟨#[]⟩, .int .i64 0, .string ⟨#[]⟩, .slice none 0 0, .int .i64 0, .string ⟨#[]⟩, .int .i64 0, .string ⟨#[]⟩, .int .i64 0, .string ⟨#[]⟩, .slice none 0 0, .int .i64 0, .string ⟨#[]⟩, .int .i64 0, .string ⟨#[]⟩, .slice none 0 0, .slice none 0 0] 69)).alloc (.cells #[.string ⟨#[109]⟩, .string ⟨#[99]⟩, .slice none 0 0, .slice (some ⟨w.heap.size, 0, none⟩) 1 1] 46)).alloc (.cells #[.slice (some ⟨w.heap.size + 1, 0, none⟩) 1 1] 27)) := (((Below.refl _ w).alloc (Nat.le_refl _) _).alloc (by simp) _).alloc (by simp; omega) _
  have q0 := ((BoxL.new w #[.int .i64 1, .string ⟨#[97]⟩, .int .i64 3, .string ⟨#[]⟩, .int .i64 0, .string ⟨#[]⟩, .int .i64 0, .string ⟨#[]⟩, .int .i64 0, .string ⟨#[]⟩, .int .i64 0, .string ⟨#[]⟩, .int .i64 0, .string ⟨#[]⟩, .slice none 0 0, .int .i64 0, .string ⟨#[]⟩, .int .i64 0, .string ⟨#[]⟩, .int .i64 0, .string ⟨#[]⟩, .slice none 0 0, .int .i64 0, .string ⟨#[]⟩, .int .i64 0, .string ⟨#[]⟩, .int .i64 0, .string ⟨#[]⟩, .slice none 0 0, .int .i64 0, .string ⟨#[]⟩, .int .i64 0, .string ⟨#[]⟩, .slice none 0 0, .slice none 0 0] 69).keep ((Below.refl _ _).alloc (Nat.le_refl _) (.cells #[.string ⟨#[109]⟩, .string ⟨#[99]⟩, .slice none 0 0, .slice (some ⟨w.heap.size, 0, none⟩) 1 1] 46))).keep ((Below.refl _ _).alloc (Nat.le_refl _) (.cells #[.slice (some ⟨w.heap.size + 1, 0, none⟩) 1 1] 27))
  have q1 := (BoxL.new (w.alloc (.cells #[.int .i64 1, .string ⟨#[97]⟩, .int .i64 3, .string ⟨#[]⟩, .int .i64 0, .string ⟨#[]⟩, .int .i64 0, .string ⟨#[]⟩, .int .i64 0, .string ⟨#[]⟩, .int .i64 0, .string ⟨#[]⟩, .int .i64 0, .string ⟨#[]⟩, .slice none 0 0, .int .i64 0, .string ⟨#[]⟩, .int .i64 0, .string ⟨#[]⟩, .int .i64 0, .string ⟨#[]⟩, .slice none 0 0, .int .i64 0, .string ⟨#[]⟩, .int .i64 0, .string ⟨#[]⟩, .int .i64 0, .string ⟨#[]⟩, .slice none 0 0, .int .i64 0, .string ⟨#[]⟩, .int .i64 0, .string ⟨#[]⟩, .slice none 0 0, .slice none 0 0] 69)) #[.string ⟨#[109]⟩, .string ⟨#[99]⟩, .slice none 0 0, .slice (some ⟨w.heap.size, 0, none⟩) 1 1] 46).keep ((Below.refl _ _).alloc (Nat.le_refl _) (.cells #[.slice (some ⟨w.heap.size + 1, 0, none⟩) 1 1] 27))
  have q2 := BoxL.new ((w.alloc (.cells #[.int .i64 1, .string ⟨#[97]⟩, .int .i64 3, .string ⟨#[]⟩, .int .i64 0, .string ⟨#[]⟩, .int .i64 0, .string ⟨#[]⟩, .int .i64 0, .string ⟨#[]⟩, .int .i64 0, .string ⟨#[]⟩, .int .i64 0, .string ⟨#[]⟩, .slice none 0 0, .int .i64 0, .string ⟨#[]⟩, .int .i64 0, .string ⟨#[]⟩, .int .i64 0, .string ⟨#[]⟩, .slice none 0 0, .int .i64 0, .string ⟨#[]⟩, .int .i64 0, .string ⟨#[]⟩, .int .i64 0, .string ⟨#[]⟩, .slice none 0 0, .int .i64 0, .string ⟨#[]⟩, .int .i64 0, .string ⟨#[]⟩, .slice none 0 0, .slice none 0 0] 69)).alloc (.cells #[.string ⟨#[109]⟩, .string ⟨#[99]⟩, .slice none 0 0, .slice (some ⟨w.heap.size, 0, none⟩) 1 1] 46)) #[.slice (some ⟨w.heap.size + 1, 0, none⟩) 1 1] 27
  rw [World.size_alloc] at q1
  rw [World.size_alloc, World.size_alloc] at q2
  generalize (((w.alloc (.cells #[.int .i64 1, .string ⟨#[97]⟩, .int .i64 3, .string ⟨#[]⟩, .int .i64 0, .string ⟨#[]⟩, .int .i64 0, .string ⟨#[]⟩, .int .i64 0, .string ⟨#[]⟩, .int .i64 0, .string ⟨#[]⟩, .int .i64 0, .string ⟨#[]⟩, .slice none 0 0, .int .i64 0, .string ⟨#[]⟩, .int .i64 0, .string ⟨#[]⟩, .int .i64 0, .string ⟨#[]⟩, .slice none 0 0, .int .i64 0, .string ⟨#[]⟩, .int .i64 0, .string ⟨#[]⟩, .int .i64 0, .string ⟨#[]⟩, .slice none 0 0, .int .i64 0, .string ⟨#[]⟩, .int .i64 0, .string ⟨#[]⟩, .slice none 0 0, .slice none 0 0] 69)).alloc (.cells #[.string ⟨#[109]⟩, .string ⟨#[99]⟩, .slice none 0 0, .slice (some ⟨w.heap.size, 0, none⟩) 1 1] 46)).alloc (.cells #[.slice (some ⟨w.heap.size + 1, 0, none⟩) 1 1] 27)) = W at *
  refine ⟨⟨Nat.le_refl _, _, rfl, ⟨#[.string ⟨#[109]⟩, .string ⟨#[99]⟩, .slice none 0 0, .slice (some ⟨w.heap.size, 0, none⟩) 1 1], [], rfl, ⟨none, 0, some ⟨w.heap.size, 0, none⟩, 1, rfl, Nat.le_refl _, fun h => absurd rfl h, Nat.le_refl _, #[.int .i64 1, .string ⟨#[97]⟩, .int .i64 3, .string ⟨#[]⟩, .int .i64 0, .string ⟨#[]⟩, .int .i64 0, .string ⟨#[]⟩, .int .i64 0, .string ⟨#[]⟩, .int .i64 0, .string ⟨#[]⟩, .int .i64 0, .string ⟨#[]⟩, .slice none 0 0, .int .i64 0, .string ⟨#[]⟩, .int .i64 0, .string ⟨#[]⟩, .int .i64 0, .string ⟨#[]⟩, .slice none 0 0, .int .i64 0, .string ⟨#[]⟩, .int .i64 0, .string ⟨#[]⟩, .int .i64 0, .string ⟨#[]⟩, .slice none 0 0, .int .i64 0, .string ⟨#[]⟩, .int .i64 0, .string ⟨#[]⟩, .slice none 0 0, .slice none 0 0].toList, rfl, ⟨#[.int .i64 1, .string ⟨#[97]⟩, .int .i64 3, .string ⟨#[]⟩, .int .i64 0, .string ⟨#[]⟩, .int .i64 0, .string ⟨#[]⟩, .int .i64 0, .string ⟨#[]⟩, .int .i64 0, .string ⟨#[]⟩, .int .i64 0, .string ⟨#[]⟩, .slice none 0 0, .int .i64 0, .string ⟨#[]⟩, .int .i64 0, .string ⟨#[]⟩, .int .i64 0, .string ⟨#[]⟩, .slice none 0 0, .int .i64 0, .string ⟨#[]⟩, .int .i64 0, .string ⟨#[]⟩, .int .i64 0, .string ⟨#[]⟩, .slice none 0 0, .int .i64 0, .string ⟨#[]⟩, .int .i64 0, .string ⟨#[]⟩, .slice none 0 0, .slice none 0 0], [], rfl, ⟨none, 0, none, 0, none, 0, none, 0, none, 0, rfl, ER.zero, ER.zero, ER.zero, Nat.le_refl _, fun h => absurd rfl h, Nat.le_refl _, fun h => absurd rfl h⟩, rfl⟩, fr_box q0⟩, rfl⟩, fr_box q1⟩, q2, hb⟩
def f0 : FileT := [⟨[109], [], [], []⟩]
theorem f0_small : OkF f0 ∧ SmF f0 := by
  unfold f0 OkF SmF OkM SmM
  refine ⟨⟨by simp, fun m hm => ?_⟩, by simp, fun m hm => ?_⟩ <;> (rw [List.mem_singleton] at hm; subst hm; simp)
theorem nil_small : SmF [] := ⟨Nat.zero_le _, fun m hm => by cases hm⟩
theorem lit0 (W : World) : FileM (W.alloc (.cells #[.string ⟨#[109]⟩, .string ⟨#[]⟩, .slice none 0 0, .slice none 0 0] 46)) f0 (some ⟨W.heap.size, 0, none⟩) 1 := by
  have q := BoxL.new W #[.string ⟨#[109]⟩, .string ⟨#[]⟩, .slice none 0 0, .slice none 0 0] 46
  exact ⟨Nat.le_refl _, _, rfl, ⟨#[.string ⟨#[109]⟩, .string ⟨#[]⟩, .slice none 0 0, .slice none 0 0], [], rfl, ⟨none, 0, none, 0, rfl, Nat.le_refl _, fun h => absurd rfl h, Nat.le_refl _, [], rfl, rfl, fun h => absurd rfl h⟩, rfl⟩, fr_box q⟩

set_option maxRecDepth 100000 in
set_option maxHeartbeats 8000000 in
theorem examples_any (w : World) (hv : VG w) : Calls Tryz.prog 9 #[] w fun e w' => e = .returned (.bool true) ∧ Below w.heap.size w w' := by
  obtain ⟨hF, hB, hb⟩ := lit1 w
  go_enter Tryz.func9, Tryz.ntmps9
  go_upto_region 3 with fail
  generalize (((w.alloc (.cells #[.int .i64 1, .string ⟨#[97]⟩, .int .i64 3, .string ⟨#[]⟩, .int .i64 0, .string ⟨#[]⟩, .int .i64 0, .string ⟨#[]⟩, .int .i64 0, .string ⟨#[]⟩, .int .i64 0, .string ⟨#[]⟩, .int .i64 0, .string ⟨#[]⟩, .slice none 0 0, .int .i64 0, .string ⟨#[]⟩, .int .i64 0, .string ⟨#[]⟩, .int .i64 0, .string ⟨#[]⟩, .slice none 0 0, .int .i64 0, .string ⟨#[]⟩, .int .i64 0, .string ⟨#[]⟩, .int .i64 0, .string ⟨#[]⟩, .slice none 0 0, .int .i64 0, .string ⟨#[]⟩, .int .i64 0, .string ⟨#[]⟩, .slice none 0 0, .slice none 0 0] 69)).alloc (.cells #[.string ⟨#[109]⟩, .string ⟨#[99]⟩, .slice none 0 0, .slice (some ⟨w.heap.size, 0, none⟩) 1 1] 46)).alloc (.cells #[.slice (some ⟨w.heap.size + 1, 0, none⟩) 1 1] 27)) = X at *
  have hvX := hv.keep hb
  have hsX := hB.lt
  have z0 : ∀ wz, Below X.heap.size X wz → wz.cell? ⟨w.heap.size + 2, 0, none⟩ = some (.slice (some ⟨w.heap.size + 1, 0, none⟩) 1 1) := fun wz hz => (hB.keep hz).c1
  have HB := Lib.hid hb
  have P1 := fun wz (hz : Below X.heap.size X wz) => parsed_is (s := ⟨#[109, 111, 100, 117, 108, 101, 32, 109, 40, 41, 32, 64, 32, 99, 32, 123, 32, 105, 110, 32, 97, 32, 58, 32, 51, 32, 59, 32, 125]⟩) (by decide) (hvX.keep hz) parse_x1
  have P2 := fun wz (hz : Below X.heap.size X wz) => parsed_is (s := ⟨#[109, 111, 100, 117, 108, 101, 32, 105, 102]⟩) (by decide) (hvX.keep hz) parse_x2
  have P3 := fun wz (hz : Below X.heap.size X wz) => parsed_is (s := ⟨#[]⟩) (by decide) (hvX.keep hz) parse_x3
  have P4 := fun wz (hz : Below X.heap.size X wz) => parsed_is (s := ⟨#[109, 111, 100, 117, 108, 101, 32, 109, 40, 41, 32, 64, 32, 99, 32, 123]⟩) (by decide) (hvX.keep hz) parse_x4
  have PR := fun wz (hz : Below X.heap.size X wz) => printed_is f1_small.1 f1_small.2 (hF.keep hz) (hvX.keep hz) print_f1
  have HF := fun wz (hz : Below X.heap.size X wz) => hF.keep hz
  have HV := Lib.hid hvX
  clear hb hB hF hvX hv
  refine wp_region_flow 29 [pdB f1 0 0, .det (.agg #[.slice ((some ⟨w.heap.size + 1, 0, none⟩)) 1 1]), .det (.agg #[.slice ((some ⟨w.heap.size + 1, 0, none⟩)) 1 1, .int .i64 0, .int .i64 0]), .det (.bool true), .det (.bool false), .det (.bool false), .det (.agg #[.slice ((some ⟨w.heap.size + 1, 0, none⟩)) 1 1]), .det (.agg #[.string ⟨#[109, 111, 100, 117, 108, 101, 32, 109, 40, 41, 32, 64, 32, 99, 32, 123, 10, 32, 32, 105, 110, 32, 97, 58, 32, 51, 59, 10, 125, 10]⟩, .int .i64 0]), .det (.string ⟨#[109, 111, 100, 117, 108, 101, 32, 109, 40, 41, 32, 64, 32, 99, 32, 123, 10, 32, 32, 105, 110, 32, 97, 58, 32, 51, 59, 10, 125, 10]⟩), .det (.agg #[.string ⟨#[109, 111, 100, 117, 108, 101, 32, 109, 40, 41, 32, 64, 32, 99, 32, 123, 10, 32, 32, 105, 110, 32, 97, 58, 32, 51, 59, 10, 125, 10]⟩, .int .i64 0]), .det (.bool false), .det (.bool false), .det (.bool false), pdB ([] : FileT) 7 90, .det (.agg #[.slice none 0 0, .int .i64 7, .int .i64 90]), .det (.bool true), .det (.bool false), .det (.bool false), .det (.bool false), pdB ([] : FileT) 0 0, .det (.agg #[.slice none 0 0, .int .i64 0, .int .i64 0]), .det (.bool true), .det (.bool false), .det (.bool false), .det (.bool false), pdB ([] : FileT) 16 90, .det (.agg #[.slice none 0 0, .int .i64 16, .int .i64 90]), .det (.bool true), .det (.bool false)] (by kernel_rfl) (by kernel_rfl) rfl ?_
  simp only [List.take_succ_cons, List.take_zero, List.drop_succ_cons, List.drop_zero]
  refine flowL_make (⟨_, none, 0, rfl⟩) (fun wz hz hd => stepF_walk (by rfl) (fun K hK => ?_)) (fun v hv => ?_)
  · go_wp2_with fail
    go_at_call 16
    refine (P1 wz hz).mono ?_
    rintro e w9 ⟨A9, c9, rfl, hf9, hb⟩
    exact hK.out _ _ ⟨A9, c9, rfl⟩ (fun B c e => by cases e; exact hf9) hb
  obtain ⟨A9, c9, rfl⟩ := hv
  simp only [Act.put, List.setIfInBounds_toArray, List.set_cons_zero, List.set_cons_succ]
  refine flowL_det (fun wz hz hd => stepF_reads (by rfl) ?_) ?_
  · have q := z0 wz hz; go_simp; try rfl
  simp only [Act.put, List.setIfInBounds_toArray, List.set_cons_zero, List.set_cons_succ]
  refine flowL_det (fun wz hz hd => stepF_reads (by rfl) ?_) ?_
  · go_simp; try rfl
  simp only [Act.put, List.setIfInBounds_toArray, List.set_cons_zero, List.set_cons_succ]
  refine flowL_det (fun wz hz hd => stepF_walk (by rfl) (fun K hK => ?_)) ?_
  · obtain ⟨p, hp⟩ := dep_of hd 0 (by decide +kernel)
    go_wp2_with fail
    go_at_call 15
    refine (same_yes f1 f1_small.2 0 0 wz A9 _ c9 _ ((hp.post A9 c9 rfl).keep hp.since) (HF wz hz)).mono ?_
    rintro e w9 ⟨rfl, hb⟩
    exact hK.out _ _ rfl trivial hb
  simp only [Act.put, List.setIfInBounds_toArray, List.set_cons_zero, List.set_cons_succ]
  refine flowL_det (fun wz hz hd => stepF_reads (by rfl) ?_) ?_
  · go_simp; try rfl
  simp only [Act.put, List.setIfInBounds_toArray, List.set_cons_zero, List.set_cons_succ]
  refine flowL_det (fun wz hz hd => stepF_reads (by rfl) ?_) ?_
  · go_simp; try rfl
  simp only [Act.put, List.setIfInBounds_toArray, List.set_cons_zero, List.set_cons_succ]
  refine flowL_det (fun wz hz hd => stepF_reads (by rfl) ?_) ?_
  · have q := z0 wz hz; go_simp; try rfl
  simp only [Act.put, List.setIfInBounds_toArray, List.set_cons_zero, List.set_cons_succ]
  refine flowL_det (fun wz hz hd => stepF_walk (by rfl) (fun K hK => ?_)) ?_
  · go_wp2_with fail
    go_at_call 18
    refine (PR wz hz).mono ?_
    rintro e w9 ⟨rfl, hb⟩
    exact hK.out _ _ rfl trivial hb
  simp only [Act.put, List.setIfInBounds_toArray, List.set_cons_zero, List.set_cons_succ]
  refine flowL_det (fun wz hz hd => stepF_reads (by rfl) ?_) ?_
  · go_simp; try rfl
  simp only [Act.put, List.setIfInBounds_toArray, List.set_cons_zero, List.set_cons_succ]
  refine flowL_det (fun wz hz hd => stepF_reads (by rfl) ?_) ?_
  · go_simp; try rfl
  simp only [Act.put, List.setIfInBounds_toArray, List.set_cons_zero, List.set_cons_succ]
  refine flowL_det (fun wz hz hd => stepF_reads (by rfl) ?_) ?_
  · go_simp; try rfl
  simp only [Act.put, List.setIfInBounds_toArray, List.set_cons_zero, List.set_cons_succ]
  refine flowL_det (fun wz hz hd => stepF_reads (by rfl) ?_) ?_
  · go_simp; try rfl
  simp only [Act.put, List.setIfInBounds_toArray, List.set_cons_zero, List.set_cons_succ]
  refine flowL_det (fun wz hz hd => stepF_reads (by rfl) ?_) ?_
  · go_simp; try rfl
  simp only [Act.put, List.setIfInBounds_toArray, List.set_cons_zero, List.set_cons_succ]
  refine flowL_make (⟨_, none, 0, rfl⟩) (fun wz hz hd => stepF_walk (by rfl) (fun K hK => ?_)) (fun v hv => ?_)
  · go_wp2_with fail
    go_at_call 16
    refine (P2 wz hz).mono ?_
    rintro e w9 ⟨A9, c9, rfl, hf9, hb⟩
    exact hK.out _ _ ⟨A9, c9, rfl⟩ (fun B c e => by cases e; exact hf9) hb
  obtain ⟨A22, c22, rfl⟩ := hv
  simp only [Act.put, List.setIfInBounds_toArray, List.set_cons_zero, List.set_cons_succ]
  refine flowL_det (fun wz hz hd => stepF_reads (by rfl) ?_) ?_
  · go_simp; try rfl
  simp only [Act.put, List.setIfInBounds_toArray, List.set_cons_zero, List.set_cons_succ]
  refine flowL_det (fun wz hz hd => stepF_walk (by rfl) (fun K hK => ?_)) ?_
  · obtain ⟨p, hp⟩ := dep_of hd 13 (by decide +kernel)
    go_wp2_with fail
    go_at_call 15
    refine (same_yes [] nil_small 7 90 wz A22 _ c22 _ ((hp.post A22 c22 rfl).keep hp.since) (FileM.nil _ _ _)).mono ?_
    rintro e w9 ⟨rfl, hb⟩
    exact hK.out _ _ rfl trivial hb
  simp only [Act.put, List.setIfInBounds_toArray, List.set_cons_zero, List.set_cons_succ]
  refine flowL_det (fun wz hz hd => stepF_reads (by rfl) ?_) ?_
  · go_simp; try rfl
  simp only [Act.put, List.setIfInBounds_toArray, List.set_cons_zero, List.set_cons_succ]
  refine flowL_det (fun wz hz hd => stepF_reads (by rfl) ?_) ?_
  · go_simp; try rfl
  simp only [Act.put, List.setIfInBounds_toArray, List.set_cons_zero, List.set_cons_succ]
  refine flowL_det (fun wz hz hd => stepF_reads (by rfl) ?_) ?_
  · go_simp; try rfl
  simp only [Act.put, List.setIfInBounds_toArray, List.set_cons_zero, List.set_cons_succ]
  refine flowL_make (⟨_, none, 0, rfl⟩) (fun wz hz hd => stepF_walk (by rfl) (fun K hK => ?_)) (fun v hv => ?_)
  · go_wp2_with fail
    go_at_call 16
    refine (P3 wz hz).mono ?_
    rintro e w9 ⟨A9, c9, rfl, hf9, hb⟩
    exact hK.out _ _ ⟨A9, c9, rfl⟩ (fun B c e => by cases e; exact hf9) hb
  obtain ⟨A28, c28, rfl⟩ := hv
  simp only [Act.put, List.setIfInBounds_toArray, List.set_cons_zero, List.set_cons_succ]
  refine flowL_det (fun wz hz hd => stepF_reads (by rfl) ?_) ?_
  · go_simp; try rfl
  simp only [Act.put, List.setIfInBounds_toArray, List.set_cons_zero, List.set_cons_succ]
  refine flowL_det (fun wz hz hd => stepF_walk (by rfl) (fun K hK => ?_)) ?_
  · obtain ⟨p, hp⟩ := dep_of hd 19 (by decide +kernel)
    go_wp2_with fail
    go_at_call 15
    refine (same_yes [] nil_small 0 0 wz A28 _ c28 _ ((hp.post A28 c28 rfl).keep hp.since) (FileM.nil _ _ _)).mono ?_
    rintro e w9 ⟨rfl, hb⟩
    exact hK.out _ _ rfl trivial hb
  simp only [Act.put, List.setIfInBounds_toArray, List.set_cons_zero, List.set_cons_succ]
  refine flowL_det (fun wz hz hd => stepF_reads (by rfl) ?_) ?_
  · go_simp; try rfl
  simp only [Act.put, List.setIfInBounds_toArray, List.set_cons_zero, List.set_cons_succ]
  refine flowL_det (fun wz hz hd => stepF_reads (by rfl) ?_) ?_
  · go_simp; try rfl
  simp only [Act.put, List.setIfInBounds_toArray, List.set_cons_zero, List.set_cons_succ]
  refine flowL_det (fun wz hz hd => stepF_reads (by rfl) ?_) ?_
  · go_simp; try rfl
  simp only [Act.put, List.setIfInBounds_toArray, List.set_cons_zero, List.set_cons_succ]
  refine flowL_make (⟨_, none, 0, rfl⟩) (fun wz hz hd => stepF_walk (by rfl) (fun K hK => ?_)) (fun v hv => ?_)
  · go_wp2_with fail
    go_at_call 16
    refine (P4 wz hz).mono ?_
    rintro e w9 ⟨A9, c9, rfl, hf9, hb⟩
    exact hK.out _ _ ⟨A9, c9, rfl⟩ (fun B c e => by cases e; exact hf9) hb
  obtain ⟨A34, c34, rfl⟩ := hv
  simp only [Act.put, List.setIfInBounds_toArray, List.set_cons_zero, List.set_cons_succ]
  refine flowL_det (fun wz hz hd => stepF_reads (by rfl) ?_) ?_
  · go_simp; try rfl
  simp only [Act.put, List.setIfInBounds_toArray, List.set_cons_zero, List.set_cons_succ]
  refine flowL_det (fun wz hz hd => stepF_walk (by rfl) (fun K hK => ?_)) ?_
  · obtain ⟨p, hp⟩ := dep_of hd 25 (by decide +kernel)
    go_wp2_with fail
    go_at_call 15
    refine (same_yes [] nil_small 16 90 wz A34 _ c34 _ ((hp.post A34 c34 rfl).keep hp.since) (FileM.nil _ _ _)).mono ?_
    rintro e w9 ⟨rfl, hb⟩
    exact hK.out _ _ rfl trivial hb
  simp only [Act.put, List.setIfInBounds_toArray, List.set_cons_zero, List.set_cons_succ]
  refine flowL_det (fun wz hz hd => stepF_reads (by rfl) ?_) ?_
  · go_simp; try rfl
  simp only [Act.put, List.setIfInBounds_toArray, List.set_cons_zero, List.set_cons_succ]
  intro W3 ps hb3 hK hap
  clear hK hap P1 P2 P3 P4 PR HF z0
  have HV3 := Lib.hid (HV.out.keep hb3)
  have HB3 := Lib.hid (HB.out.trans (hb3.mono HB.out.size))
  clear hb3 HV HB hsX
  have hb4 := (Below.refl W3.heap.size W3).alloc (Nat.le_refl _) (.cells #[.string ⟨#[109]⟩, .string ⟨#[]⟩, .slice none 0 0, .slice none 0 0] 46)
  have HF4 := Lib.hid (lit0 W3)
  have HV4 := Lib.hid (HV3.out.keep hb4)
  have HB4 := Lib.hid (HB3.out.trans (hb4.mono HB3.out.size))
  clear hb4
  go_wp2_with (first
    | (go_at_call 15; refine (same_yes [] nil_small 27 90 _ _ _ _ _ hf6 (FileM.nil _ _ _)).mono ?_; rintro e w7 ⟨rfl, hb7⟩)
    | (go_at_call 16; refine (parsed_is (s := ⟨#[109, 111, 100, 117, 108, 101, 32, 109, 40, 41, 32, 64, 32, 99, 32, 123, 32, 105, 110, 32, 97, 58, 32, 119, 32, 45, 32, 48, 59, 32, 125]⟩) (by decide) HV5.out parse_x5).mono ?_; rintro e w6 ⟨A6, c6, rfl, hf6, hb6⟩)
    | (go_at_call 18; refine (printed_is f0_small.1 f0_small.2 HF4.out HV4.out print_f0).mono ?_; rintro e w5 ⟨rfl, hb5⟩; have HV5 := Lib.hid (HV4.out.keep hb5)))
  go_ret
  have b5 := HB4.out.trans (hb5.mono HB4.out.size)
  have b6 := b5.trans (hb6.mono b5.size)
  exact ⟨rfl, b6.trans (hb7.mono b6.size)⟩
end Sy
end Go.Proofs.YtggeepimihhpjaaGreatDoor
