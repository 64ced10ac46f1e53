/- module. -/
import Derived.Test.YtggeepimihhpjaaGreatDoorPT
namespace Go.Proofs.YtggeepimihhpjaaGreatDoor
open Go.RowKit Go.Shelf Sl Fr Lx
namespace Sy
set_option linter.unusedVariables false
set_option linter.unusedSimpArgs false

def MR (w : World) (S : Nat → Prop) (m : ModT) (cs : Array Value) : Prop := ∃ Ap cp Ai ci, cs = #[.string ⟨m.name.toArray⟩, .string ⟨m.clock.toArray⟩, .slice Ap m.params.length cp, .slice Ai m.items.length ci] ∧ m.params.length ≤ cp ∧ FR w S Ap (strsC m.params) ∧ m.items.length ≤ ci ∧ ∃ vs, vs.length = m.items.length * 35 ∧ IL w S m.items vs ∧ FR w S Ai vs
def ModV (w : World) : ModT → World → Value → Prop := fun m w' v => ∃ cs, v = .agg cs ∧ MR w' (Fresh w) m cs
def mstep (acc : List ItemT) : PM (List ItemT) := do let i ← itemP; expect s_semi; pure (acc ++ [i])
theorem mstep_keeps (acc : List ItemT) : Keeps (mstep acc) 1 := Keeps.itemStep acc
theorem modP_eq (l : List Tk) : moduleP l = (do
  expect w_module
  let n ← nameP
  let ps ← listP nameP
  expect s_ats
  let c ← nameP
  expect s_lbrc
  let is ← loopP s_rbrc mstep []
  pure ⟨n, c, ps, is⟩ : PM ModT) l := rfl
def MoAt (n pb a1 a2 base base2 : Nat) (x1 x5 : By) (ps : List By) (v4 : Value) (l0 : List Tk) (w W : World) : Prop := ∃ (lk : List Tk) (acc : List ItemT) (v : Value), PX n pb lk W ∧ BoxO W a1 #[.string ⟨x1.toArray⟩, .string ⟨x5.toArray⟩, v4, v] 46 ∧ BoxL W a2 #[.pointer (some ⟨pb, 0, none⟩)] ∧ BoxO W (a2 + 1) #[.string ⟨#[]⟩, .string ⟨#[]⟩, .slice none 0 0, .slice none 0 0] 46 ∧ W.ownsRow base 9 1 v4 ps.length (strsC ps) ∧ AI W base2 a1 v acc ∧ base2 ≤ W.heap.size ∧ w.grownBy W (some pb) ∧ acc.length + lk.length ≤ 10000 ∧
  moduleP l0 = (loopP s_rbrc mstep acc >>= fun is => (pure ⟨x1, x5, ps, is⟩ : PM ModT)) lk
theorem bind_of {α β : Type} {m m' : PM α} {f : α → PM β} {l l' : List Tk} (h : m l = m' l') : (m >>= f) l = (m' >>= f) l' := by
  show PM.bind m f l = PM.bind m' f l'
  unfold PM.bind
  rw [h]

set_option maxRecDepth 100000 in
set_option maxHeartbeats 4000000 in
theorem module_any (n pb : Nat) (l : List Tk) (w : World) (h : PX n pb l w) :
    Calls Tryz.prog 96 #[.pointer (some ⟨pb, 0, none⟩)] w (Gives n pb l moduleP (ModV w) w) := by
  have hmf : ∀ (fn : Fn) (first cap : Array Value) (w : World), (Instr.makeFunc fn first cap).run Tryz.prog w = .ok (.func fn first cap) w := fun _ _ _ _ => rfl
  have hlt0 := h.lt
  have hrm := h.room
  obtain ⟨m2, mR, bA⟩ := start2O w #[.pointer (some ⟨pb, 0, none⟩)] 112 #[.string ⟨#[]⟩, .string ⟨#[]⟩, .slice none 0 0, .slice none 0 0] 46
  have hX := h.below bA
  have hgX : w.grownBy _ (some pb) := gb bA
  go_enter Tryz.func96, Tryz.ntmps96
  go_upto_region 1 with fail
  generalize (w.alloc (.cells #[.pointer (some ⟨pb, 0, none⟩)] 112)).alloc (.cells #[.string ⟨#[]⟩, .string ⟨#[]⟩, .slice none 0 0, .slice none 0 0] 46) = X at *
  obtain ⟨a2, ha2⟩ : ∃ b, b = w.heap.size := ⟨_, rfl⟩
  rw [← ha2] at m2 mR ⊢
  have hw2 : w.heap.size ≤ a2 := Nat.le_of_eq ha2.symm
  have HX := Lib.hid hX
  have HG := Lib.hid hgX
  have H2 := Lib.hid m2
  have HR := Lib.hid mR
  have n2 : some a2 ≠ some pb := fun e => by injection e; omega
  have nR : some (a2 + 1) ≠ some pb := fun e => by injection e; omega
  have HM := Lib.hid (modP_eq l)
  clear h bA hX hgX m2 mR ha2
  cases hm0 : expect w_module l with
  | no a =>
    have HMM := Lib.hid (HM.out.trans (bind_no hm0))
    have HC := Lib.hid (fun W (hW : PX n pb l W) => rd_no (expect_any n pb l ⟨#[109, 111, 100, 117, 108, 101]⟩ W hW.ps (by decide)) hm0)
    clear hm0
    have c2 := H2.out.c1
    go_wp2_with (go_at_call 138; with_reducible refine (HC.out _ HX.out).mono ?_; rintro e w1 ⟨rfl, hg1⟩)
    exact ⟨rfl, Gives.of_no HMM.out (HG.out.trans hg1)⟩
  | ok u0 l0 =>
  have HM0 := Lib.hid (HM.out.trans (bind_ok hm0))
  have HC0 := Lib.hid (fun W (hW : PX n pb l W) => rd_is (g := fun _ : Unit => Value.tuple #[]) (expect_any n pb l ⟨#[109, 111, 100, 117, 108, 101]⟩ W hW.ps (by decide)) hW hm0)
  clear hm0 HM
  have c2 := H2.out.c1
  go_upto_region 2 with (go_at_call 138; with_reducible refine (HC0.out _ HX.out).mono ?_; rintro e w0 ⟨rfl, hx0, hg0⟩)
  have HX0 := Lib.hid hx0
  have HG0 := Lib.hid (HG.out.trans hg0)
  have H20 := Lib.hid (H2.out.grown hg0 n2)
  have HR0 := Lib.hid (HR.out.grown hg0 nR)
  clear hx0 hg0 c2 HX HG H2 HR HC0
  cases hm1 : nameP l0 with
  | no a =>
    have HMM := Lib.hid (HM0.out.trans (bind_no hm1))
    have HC1 := Lib.hid (fun W (hW : PX n pb l0 W) => rd_no (name_any n pb l0 W hW.ps) hm1)
    clear hm1
    have c2 := H20.out.c1
    go_wp2_with (go_at_call 133; with_reducible refine (HC1.out _ HX0.out).mono ?_; rintro e w1 ⟨rfl, hg1⟩)
    exact ⟨rfl, Gives.of_no HMM.out (HG0.out.trans hg1)⟩
  | ok x1 l1 =>
  have HM1 := Lib.hid (HM0.out.trans (bind_ok hm1))
  have HC1 := Lib.hid (fun W (hW : PX n pb l0 W) => rd_is (g := fun x : By => .string ⟨x.toArray⟩) (name_any n pb l0 W hW.ps) hW hm1)
  clear hm1 HM0
  have c2 := H20.out.c1
  go_upto_region 3 with (go_at_call 133; with_reducible refine (HC1.out _ HX0.out).mono ?_; rintro e w1 ⟨rfl, hx1, hg1⟩)
  have hltR := HR0.out.lt
  have hs1 := hg1.size
  obtain ⟨mL, hbY⟩ := startO w1 #[.string ⟨x1.toArray⟩, .string ⟨#[]⟩, .slice none 0 0, .slice none 0 0] 46
  have m2 := (H20.out.grown hg1 n2).keep hbY
  have mR := (HR0.out.grown hg1 nR).keep hbY
  have hxY := hx1.below hbY
  have hgY := (HG0.out.trans hg1).trans (gb hbY)
  obtain ⟨a1, ha1⟩ : ∃ b, b = w1.heap.size := ⟨_, rfl⟩
  rw [← ha1] at mL hs1 ⊢
  generalize w1.alloc (.cells #[.string ⟨x1.toArray⟩, .string ⟨#[]⟩, .slice none 0 0, .slice none 0 0] 46) = Y at *
  have hsY := mL.lt
  have e12 : a1 ≠ a2 := by omega
  have e1p : a1 ≠ pb := by omega
  have e1R : a1 ≠ a2 + 1 := by omega
  have e1n : n ≤ a1 := by omega
  have e1w : w.heap.size ≤ a1 := by omega
  have n1 : some a1 ≠ some pb := fun e => e1p (by injection e)
  have HS1 : Hid (LS w n pb a1 a2 Y.heap.size) := Lib.hid ⟨hsY, m2.lt, hxY.lt, e1p, (fun e => n2 (by rw [e])), e12, e1n, by omega, e1w⟩
  obtain ⟨base, hbase⟩ : ∃ b, b = Y.heap.size := ⟨_, rfl⟩
  rw [← hbase] at HS1 hsY
  have hR1 : a2 + 1 < base := by rw [hbase]; exact mR.lt
  have HX1 := Lib.hid hxY
  have HG1 := Lib.hid hgY
  have HK1 : Hid (XK pb a1 base (fun W => BoxO W (a2 + 1) #[.string ⟨#[]⟩, .string ⟨#[]⟩, .slice none 0 0, .slice none 0 0] 46)) := Lib.hid (fun W W' row h hg hr => h.grown hg (fun e => by rcases hr _ e.symm with e | e | e; exact nR (by rw [e]); exact e1R e.symm; omega))
  have HJ1 : Hid (LJ pb a1 a2 base 2 #[.string ⟨x1.toArray⟩, .string ⟨#[]⟩, .slice none 0 0, .slice none 0 0] 46 9 1 (fun W => BoxO W (a2 + 1) #[.string ⟨#[]⟩, .string ⟨#[]⟩, .slice none 0 0, .slice none 0 0] 46) ([] : List By).length (strsC []) Y) := Lib.hid ⟨.slice none 0 0, mL, m2, World.ownsRow_nil _ _ _ _, Nat.le_of_eq hbase, mR⟩
  have c2 := m2.c1
  have HLI := Lib.hid (list_module nameP Keeps.name n pb a1 a2 w (fun acc => LJ pb a1 a2 base 2 #[.string ⟨x1.toArray⟩, .string ⟨#[]⟩, .slice none 0 0, .slice none 0 0] 46 9 1 (fun W => BoxO W (a2 + 1) #[.string ⟨#[]⟩, .string ⟨#[]⟩, .slice none 0 0, .slice none 0 0] 46) acc.length (strsC acc)) (fun acc W W' h _ hg => h.grown HS1.out HK1.out hg) (fun l acc W hx hj hg hb => cl_module n pb a1 a2 base _ (by show 2 < 4; omega) w _ HK1.out HS1.out l acc W hx hj hg hb) l1 Y HX1.out HJ1.out HG1.out)
  clear mL m2 mR hxY hgY hx1 hg1 hbY ha1 hs1 HC1 hltR H20 HR0 HX0 HG0 hbase
  cases hm4 : listP nameP l1 with
  | no a =>
    have HMM := Lib.hid (HM1.out.trans (bind_no hm4))
    have HC4 := Lib.hid (HLI.out.mono fun e w' q => q.no hm4)
    clear hm4 HLI
    go_wp2_with (go_at_call 139; refine HC4.out.mono ?_; rintro e w4 ⟨rfl, hg4⟩)
    exact ⟨rfl, Gives.of_no HMM.out hg4⟩
  | ok ps l4 =>
  have HM4 := Lib.hid (HM1.out.trans (bind_ok hm4))
  have HC4 := Lib.hid (HLI.out.mono fun e w' q => q.ok hm4)
  clear hm4 HM1 HLI
  go_upto_region 4 with (go_at_call 139; refine HC4.out.mono ?_; rintro e w4 ⟨rfl, ⟨v4, mL4, m24, r4, hb4, mR4⟩, hx4, hg4⟩)
  have hv4p : v4.ownBlock ≠ some pb := fun e => by have h1 := (r4.lt _ e).1; have h2 := HS1.out.h3; omega
  have hv41 : v4.ownBlock ≠ some a1 := fun e => by have h1 := (r4.lt _ e).1; omega
  have HL4 : Hid (BoxO w4 a1 #[.string ⟨x1.toArray⟩, .string ⟨#[]⟩, v4, .slice none 0 0] 46) := Lib.hid mL4
  have H24 := Lib.hid m24
  have HR4 := Lib.hid mR4
  have HX4 := Lib.hid hx4
  have HG4 := Lib.hid hg4
  have HW4 := Lib.hid r4
  clear mL4 m24 r4 mR4 hx4 hg4 HC4 HJ1 HK1 c2
  cases hm5 : expect s_ats l4 with
  | no a =>
    have HMM := Lib.hid (HM4.out.trans (bind_no hm5))
    have HC5 := Lib.hid (fun W (hW : PX n pb l4 W) => rd_no (expect_any n pb l4 ⟨#[64]⟩ W hW.ps (by decide)) hm5)
    clear hm5
    have c2 := H24.out.c1
    go_wp2_with (go_at_call 138; with_reducible refine (HC5.out _ HX4.out).mono ?_; rintro e w5 ⟨rfl, hg5⟩)
    exact ⟨rfl, Gives.of_no HMM.out (HG4.out.trans hg5)⟩
  | ok u5 l5 =>
  have HM5 := Lib.hid (HM4.out.trans (bind_ok hm5))
  have HC5 := Lib.hid (fun W (hW : PX n pb l4 W) => rd_is (g := fun _ : Unit => Value.tuple #[]) (expect_any n pb l4 ⟨#[64]⟩ W hW.ps (by decide)) hW hm5)
  clear hm5 HM4
  have c2 := H24.out.c1
  go_upto_region 5 with (go_at_call 138; with_reducible refine (HC5.out _ HX4.out).mono ?_; rintro e w5 ⟨rfl, hx5, hg5⟩)
  have HX5 := Lib.hid hx5
  have HG5 := Lib.hid (HG4.out.trans hg5)
  have H25 := Lib.hid (H24.out.grown hg5 n2)
  have HR5 := Lib.hid (HR4.out.grown hg5 nR)
  have HL5 := Lib.hid (HL4.out.grown hg5 n1)
  have HW5 := Lib.hid (HW4.out.kept hg5 (.inr hv4p))
  have hb5 : base ≤ w5.heap.size := Nat.le_trans hb4 hg5.size
  clear hx5 hg5 c2 HX4 HG4 H24 HR4 HL4 HW4 HC5 hb4
  cases hm6 : nameP l5 with
  | no a =>
    have HMM := Lib.hid (HM5.out.trans (bind_no hm6))
    have HC6 := Lib.hid (fun W (hW : PX n pb l5 W) => rd_no (name_any n pb l5 W hW.ps) hm6)
    clear hm6
    have c2 := H25.out.c1
    go_wp2_with (go_at_call 133; with_reducible refine (HC6.out _ HX5.out).mono ?_; rintro e w6 ⟨rfl, hg6⟩)
    exact ⟨rfl, Gives.of_no HMM.out (HG5.out.trans hg6)⟩
  | ok x5 l6 =>
  have HM6 := Lib.hid (HM5.out.trans (bind_ok hm6))
  have HC6 := Lib.hid (fun W (hW : PX n pb l5 W) => rd_is (g := fun x : By => .string ⟨x.toArray⟩) (name_any n pb l5 W hW.ps) hW hm6)
  clear hm6 HM5
  have c2 := H25.out.c1
  go_upto_region 6 with (go_at_call 133; with_reducible refine (HC6.out _ HX5.out).mono ?_; rintro e w6 ⟨rfl, hx6, hg6⟩; have c32 := (HL5.out.grown hg6 n1).cell (i := 1) rfl; have f32 := (HL5.out.grown hg6 n1).frozen 1)
  have gS := grown_set w6 a1 1 (.string ⟨x5.toArray⟩)
  have mL : BoxO (w6.setCell ⟨a1, 1, none⟩ (.string ⟨x5.toArray⟩)) a1 #[.string ⟨x1.toArray⟩, .string ⟨x5.toArray⟩, v4, .slice none 0 0] 46 := (HL5.out.grown hg6 n1).put 1 (.string ⟨x5.toArray⟩)
  have m2 := (H25.out.grown hg6 n2).grown gS (fun e => e12 (by injection e with e; exact e.symm))
  have mR := (HR5.out.grown hg6 nR).grown gS (fun e => e1R (by injection e with e; exact e.symm))
  have hw4 := (HW5.out.kept hg6 (.inr hv4p)).kept gS (.inr hv41)
  have hxY := hx6.grown gS (fun g e => by injection e; omega)
  have hgY := grown_row (HG5.out.trans hg6) gS (fun g e => by injection e; omega)
  have hbY : base ≤ (w6.setCell ⟨a1, 1, none⟩ (.string ⟨x5.toArray⟩)).heap.size := by have := hg6.size; simp; omega
  generalize w6.setCell ⟨a1, 1, none⟩ (.string ⟨x5.toArray⟩) = Y6 at *
  have HX6 := Lib.hid hxY
  have HG6 := Lib.hid hgY
  have H26 := Lib.hid m2
  have HR6 := Lib.hid mR
  have HL6 := Lib.hid mL
  have HW6 := Lib.hid hw4
  clear gS mL m2 mR hw4 hxY hgY hx6 hg6 c32 f32 H25 HR5 HL5 HX5 HG5 HW5 HC6 c2
  cases hm7 : expect s_lbrc l6 with
  | no a =>
    have HMM := Lib.hid (HM6.out.trans (bind_no hm7))
    have HC7 := Lib.hid (fun W (hW : PX n pb l6 W) => rd_no (expect_any n pb l6 ⟨#[123]⟩ W hW.ps (by decide)) hm7)
    clear hm7
    have c2 := H26.out.c1
    go_wp2_with (go_at_call 138; with_reducible refine (HC7.out _ HX6.out).mono ?_; rintro e w7 ⟨rfl, hg7⟩)
    exact ⟨rfl, Gives.of_no HMM.out (HG6.out.trans hg7)⟩
  | ok u7 l7 =>
  have HM7 := Lib.hid (HM6.out.trans (bind_ok hm7))
  have HC7 := Lib.hid (fun W (hW : PX n pb l6 W) => rd_is (g := fun _ : Unit => Value.tuple #[]) (expect_any n pb l6 ⟨#[123]⟩ W hW.ps (by decide)) hW hm7)
  clear hm7 HM6
  have c2 := H26.out.c1
  go_wp2_with (go_at_call 138; with_reducible refine (HC7.out _ HX6.out).mono ?_; rintro e w7 ⟨rfl, hx7, hg7⟩)
  obtain ⟨base2, hbase2⟩ : ∃ b, b = w7.heap.size := ⟨_, rfl⟩
  have hR2 := (HR6.out.grown hg7 nR).lt
  have h12 := (HL6.out.grown hg7 n1).lt
  have h22 := (H26.out.grown hg7 n2).lt
  have hp2 := hx7.lt
  have hv42 : ∀ g, v4.ownBlock = some g → g < base2 := fun g e => by rw [hbase2]; exact ((HW6.out.kept hg7 (.inr hv4p)).lt g e).2
  have hbb : base ≤ base2 := by have := hg7.size; omega
  rw [← hbase2] at hR2 h12 h22 hp2
  have HS : Hid (MoAt n pb a1 a2 base base2 x1 x5 ps v4 l w w7) := Lib.hid ⟨l7, [], .slice none 0 0, hx7, HL6.out.grown hg7 n1, H26.out.grown hg7 n2, HR6.out.grown hg7 nR, HW6.out.kept hg7 (.inr hv4p), AI.nil _ _ _, Nat.le_of_eq hbase2, HG6.out.trans hg7, by have := hx7.le; simp; omega, HM7.out⟩
  clear hx7 hg7 HX6 HG6 H26 HR6 HL6 HW6 HC7 HM7 c2 hbase2
  go_loopw [21] (fun _ W => MoAt n pb a1 a2 base base2 x1 x5 ps v4 l w W) (fun _ W => leftN W pb)
  case atStart => exact HS.out
  case round =>
    obtain ⟨lk, acc, v, hxk, hlk, htk, hrk, hok, hik, hbk, hgk, hbd, hmk⟩ := hrel
    have HBD := Lib.hid hbd
    have HLE := Lib.hid hxk.left
    have HLT := Lib.hid hxk.ps.lt
    have HSTEP := Lib.hid (loopP_step mstep_keeps hxk.ps.lt (a := acc) (stop := s_rbrc))
    have HMK := Lib.hid hmk
    have HXK := Lib.hid hxk
    have HLK := Lib.hid hlk
    have HTK := Lib.hid htk
    have HRK := Lib.hid hrk
    have HOK := Lib.hid hok
    have HIK := Lib.hid hik
    have HGK := Lib.hid hgk
    have c2 := htk.c1
    clear hxk hlk htk hrk hok hik hgk hbd hmk HS
    by_cases he4 : (nextT lk).text = s_rbrc
    · have HM4 := Lib.hid (HMK.out.trans (bind_ok (HSTEP.out.trans (if_pos he4))))
      have HC4 := Lib.hid (fun W (hW : PX n pb lk W) => accept_yes (z := ⟨#[125]⟩) hW (by decide) he4)
      clear HSTEP HMK he4
      go_upto_region 10 with (go_at_call 145; with_reducible refine (HC4.out _ HXK.out).mono ?_; rintro e w8 ⟨rfl, hx8, hg8⟩)
      have l8 := HLK.out.grown hg8 n1
      have t8 := HTK.out.grown hg8 n2
      have r8 := HRK.out.grown hg8 nR
      have o8 := HOK.out.kept hg8 (.inr hv4p)
      have i8 := HIK.out.grown hg8 hp2
      have g8 := HGK.out.trans hg8
      have b8 : base2 ≤ w8.heap.size := Nat.le_trans hbk hg8.size
      obtain ⟨A4, c4, e4, hc4, hf4⟩ := row_form o8
      obtain ⟨vs7, r7, _, hil⟩ := i8
      obtain ⟨A7, c7, e7, hc7, hf7⟩ := row_form r7
      have hln7 := r7.1
      subst e4 e7
      clear c2
      go_wp2_with (first
        | (refine wpList_load_row l8 rfl _ rfl rfl _ Tryz.underlying46 rfl (by kernel_rfl) ?_)
        | (refine wpList_store_row r8 rfl _ _ rfl #[.string ⟨x1.toArray⟩, .string ⟨x5.toArray⟩, .slice A4 ps.length c4, .slice A7 acc.length c7] rfl rfl (by kernel_rfl) rfl (by kernel_rfl) ?_))
      have gF := grown_setRow w8 (a2 + 1) #[.string ⟨x1.toArray⟩, .string ⟨x5.toArray⟩, .slice A4 ps.length c4, .slice A7 acc.length c7]
      exact bodyPost_ret_by (v := .agg #[.string ⟨x1.toArray⟩, .string ⟨x5.toArray⟩, .slice A4 ps.length c4, .slice A7 acc.length c7]) (results_cell_row rfl _ _ (a2 + 1) _ #[.string ⟨x1.toArray⟩, .string ⟨x5.toArray⟩, .slice A4 ps.length c4, .slice A7 acc.length c7] (0, 0) _ rfl (r8.set #[.string ⟨x1.toArray⟩, .string ⟨x5.toArray⟩, .slice A4 ps.length c4, .slice A7 acc.length c7]).h Tryz.underlying46 rfl (by kernel_rfl)) rfl
        (give_row #[.string ⟨x1.toArray⟩, .string ⟨x5.toArray⟩, .slice A4 ps.length c4, .slice A7 acc.length c7] (HM4.out.trans (pure_eq _ _)) ⟨_, rfl, A4, c4, A7, c7, rfl, hc4, (hf4.grown gF (fun g e h => by injection e; omega)).mono (fun b h => by show w.heap.size ≤ b; omega), hc7, vs7, hln7, (hil.grown gF (fun g e h => by injection e; have := h.1; omega)).mono (fun b h => by show w.heap.size ≤ b; have := h.1; omega), (hf7.grown gF (fun g e h => by injection e; omega)).mono (fun b h => by show w.heap.size ≤ b; omega)⟩ hx8 (by omega) g8 (by omega))
    · have HM4 := Lib.hid (HSTEP.out.trans (if_neg he4))
      have HC4 := Lib.hid (fun W (hW : PX n pb lk W) => accept_no (z := ⟨#[125]⟩) hW (by decide) he4)
      clear HSTEP he4
      go_upto_region 8 with (go_at_call 145; with_reducible refine (HC4.out _ HXK.out).mono ?_; rintro e w8 ⟨rfl, hx8, hg8⟩)
      have l8 := HLK.out.grown hg8 n1
      have t8 := HTK.out.grown hg8 n2
      have r8 := HRK.out.grown hg8 nR
      have o8 := HOK.out.kept hg8 (.inr hv4p)
      have i8 := HIK.out.grown hg8 hp2
      have g8 := HGK.out.trans hg8
      have b8 : base2 ≤ w8.heap.size := Nat.le_trans hbk hg8.size
      clear HXK HLK HTK HRK HOK HIK HGK HC4 hg8 c2
      cases hm5 : itemP lk with
      | no a =>
        have HMM := Lib.hid (HMK.out.trans (bind_no (HM4.out.trans (by rw [show mstep acc lk = .no a from bind_no hm5]))))
        have HC5 := Lib.hid (fun W (hW : PX n pb lk W) => rd_no (item_any n pb lk W hW) hm5)
        clear hm5
        have hD : Below w8.heap.size w8 w8.drew := (Below.refl _ w8).drew
        have hxD := hx8.below hD
        have lD := l8.keep hD
        have tD := t8.keep hD
        have rD := r8.keep hD
        have oD := row_keep o8 hD
        have aD := i8.kept (grown_below hD) (fun g e => by cases e)
        have gD := g8.trans (gb hD)
        have bD : base2 ≤ w8.drew.heap.size := b8
        have c1 : w8.drew.cell? ⟨a1, 3, none⟩ = some v := lD.cell rfl
        have c2 := tD.c1
        refine wp_region_till (fun w' => w'.cell? ⟨a1, 3, none⟩ = some v ∧ w'.cell? ⟨a2, 0, none⟩ = some (.pointer (some ⟨pb, 0, none⟩))) 7 (by kernel_rfl) ⟨c1, c2⟩ (fun hHeld => ?_)
        clear hD c1 c2 hx8 l8 t8 r8 o8 i8 g8 b8
        generalize w8.drew = D at *
        refine anyTill.reads (i := 0) rfl (by kernel_rfl) (by kernel_rfl) (by kernel_rfl) (by kernel_rfl) (fun _ _ _ h => h) (by rfl) (v := ?_) ?_ (by assumption) ?_
        rotate_left
        · intro wz hz; (try dsimp only at hz); go_split_ands; go_simp; try with_reducible rfl
        simp only [Act.put, List.setIfInBounds_toArray, List.set_cons_zero, List.set_cons_succ]
        refine anyTill.reads (i := 1) rfl (by kernel_rfl) (by kernel_rfl) (by kernel_rfl) (by kernel_rfl) (fun _ _ _ h => h) (by rfl) (v := ?_) ?_ (by assumption) ?_
        rotate_left
        · intro wz hz; (try dsimp only at hz); go_split_ands; go_simp; try with_reducible rfl
        simp only [Act.put, List.setIfInBounds_toArray, List.set_cons_zero, List.set_cons_succ]
        refine anyTill.reads (i := 2) rfl (by kernel_rfl) (by kernel_rfl) (by kernel_rfl) (by kernel_rfl) (fun _ _ _ h => h) (by rfl) (v := ?_) ?_ (by assumption) ?_
        rotate_left
        · intro wz hz; (try dsimp only at hz); go_split_ands; go_simp; try with_reducible rfl
        simp only [Act.put, List.setIfInBounds_toArray, List.set_cons_zero, List.set_cons_succ]
        refine anyTill.alone (i := 3) rfl (by kernel_rfl) (by rfl) (fun K hK => ?_)
        go_wp2_with fail
        go_at_call 146
        refine (HC5.out _ hxD).mono ?_
        rintro e w9 ⟨rfl, hg9⟩
        exact ⟨rfl, Gives.of_no HMM.out (gD.trans hg9)⟩
      | ok x9 l9 =>
        have HC5 := Lib.hid (fun W (hW : PX n pb lk W) => rd_ok (item_any n pb lk W hW) hW hm5)
        have hD : Below w8.heap.size w8 w8.drew := (Below.refl _ w8).drew
        have hxD := hx8.below hD
        have lD := l8.keep hD
        have tD := t8.keep hD
        have rD := r8.keep hD
        have oD := row_keep o8 hD
        have aD := i8.kept (grown_below hD) (fun g e => by cases e)
        have gD := g8.trans (gb hD)
        have bD : base2 ≤ w8.drew.heap.size := b8
        have c1 : w8.drew.cell? ⟨a1, 3, none⟩ = some v := lD.cell rfl
        have c2 := tD.c1
        refine wp_region_till (fun w' => w'.cell? ⟨a1, 3, none⟩ = some v ∧ w'.cell? ⟨a2, 0, none⟩ = some (.pointer (some ⟨pb, 0, none⟩))) 7 (by kernel_rfl) ⟨c1, c2⟩ (fun hHeld => ?_)
        clear hD c1 c2 hx8 l8 t8 r8 o8 i8 g8 b8
        generalize w8.drew = D at *
        refine anyTill.reads (i := 0) rfl (by kernel_rfl) (by kernel_rfl) (by kernel_rfl) (by kernel_rfl) (fun _ _ _ h => h) (by rfl) (v := ?_) ?_ (by assumption) ?_
        rotate_left
        · intro wz hz; (try dsimp only at hz); go_split_ands; go_simp; try with_reducible rfl
        simp only [Act.put, List.setIfInBounds_toArray, List.set_cons_zero, List.set_cons_succ]
        refine anyTill.reads (i := 1) rfl (by kernel_rfl) (by kernel_rfl) (by kernel_rfl) (by kernel_rfl) (fun _ _ _ h => h) (by rfl) (v := ?_) ?_ (by assumption) ?_
        rotate_left
        · intro wz hz; (try dsimp only at hz); go_split_ands; go_simp; try with_reducible rfl
        simp only [Act.put, List.setIfInBounds_toArray, List.set_cons_zero, List.set_cons_succ]
        refine anyTill.reads (i := 2) rfl (by kernel_rfl) (by kernel_rfl) (by kernel_rfl) (by kernel_rfl) (fun _ _ _ h => h) (by rfl) (v := ?_) ?_ (by assumption) ?_
        rotate_left
        · intro wz hz; (try dsimp only at hz); go_split_ands; go_simp; try with_reducible rfl
        simp only [Act.put, List.setIfInBounds_toArray, List.set_cons_zero, List.set_cons_succ]
        refine anyTill.alone (i := 3) rfl (by kernel_rfl) (by rfl) (fun K hK => ?_)
        go_wp2_with fail
        go_at_call 146
        refine (HC5.out _ hxD).mono ?_
        rintro e w9 ⟨_, rfl, ⟨_, rfl, Aa, ca, Ab, cb, Ac, cc, An, cn, Ap, cp, rfl, hir⟩, hx9, hg9⟩
        have l9 := lD.grown hg9 n1
        have t9 := tD.grown hg9 n2
        have hi : IR w9 (Fresh D) x9 (iC x9 Aa ca Ab cb Ac cc An cn Ap cp) := ⟨Aa, ca, Ab, cb, Ac, cc, An, cn, Ap, cp, rfl, hir⟩
        refine hK.out _ _ (fun _ => ?_) (fun hHeld0 => ?_)
        · exact ⟨l9.cell rfl, t9.c1⟩
        have hHeld := hHeld0 (by decide)
        clear hHeld0
        clear hK K
        try simp only [Act.put, List.setIfInBounds_toArray, List.set_cons_zero, List.set_cons_succ]
        refine anyTill.alone (i := 4) rfl (by kernel_rfl) (by rfl) (fun K hK => ?_)
        refine wp_buildI rfl (by rfl) ?_
        have gA := World.grownBy_alloc w9 (.cells (iC x9 Aa ca Ab cb Ac cc An cn Ap cp) 69) none
        have l10 := l9.grown gA (fun e => by cases e)
        have t10 := t9.grown gA (fun e => by cases e)
        refine hK.out _ _ (fun _ => ?_) (fun hHeld0 => ?_)
        · exact ⟨l10.cell rfl, t10.c1⟩
        have hHeld := hHeld0 (by decide)
        clear hHeld0
        clear hK K
        try simp only [Act.put, List.setIfInBounds_toArray, List.set_cons_zero, List.set_cons_succ]
        refine anyTill.alone (i := 5) rfl (by kernel_rfl) (by rfl) (fun K hK => ?_)
        refine wp_append_ai _ _ (by rfl) (by rfl) (by rfl) aD lD.lt bD hg9 hp2 hi (by have := HBD.out; omega) ?_
        intro g9 cap9 wx mx hq
        obtain ⟨rr, hgx, hrr⟩ := hq
        have l11 := l10.grown hgx (fun e => (hrr _ e.symm).2 rfl)
        have t11 := t10.grown hgx (fun e => by have := (hrr _ e.symm).1; omega)
        refine hK.out _ _ (fun _ => ?_) (fun hHeld0 => ?_)
        · exact ⟨l11.cell rfl, t11.c1⟩
        have hHeld := hHeld0 (by decide)
        clear hHeld0
        clear hK K
        try simp only [Act.put, List.setIfInBounds_toArray, List.set_cons_zero, List.set_cons_succ]
        refine anyTill.alone (i := 6) rfl (by kernel_rfl) (by rfl) (fun K hK => ?_)
        go_simp
        refine hK.out _ _ (fun _ => ?_) (fun hHeld0 => ?_)
        · exact ⟨l11.cell rfl, t11.c1⟩
        have hHeld := hHeld0 (by decide)
        clear hHeld0
        clear hK K
        try simp only [Act.put, List.setIfInBounds_toArray, List.set_cons_zero, List.set_cons_succ]
        have c1 : wx.cell? ⟨a1, 3, none⟩ = some v := l11.cell rfl
        have f1 := l11.frozen 3
        refine anyTill.alone (i := 7) rfl (by kernel_rfl) (by rfl) (fun K hK => ?_)
        go_simp
        refine hK.out _ _ (fun h => absurd h (by decide)) (fun hHeld => ?_)
        clear hK K
        try simp only [Act.put, List.setIfInBounds_toArray, List.set_cons_zero, List.set_cons_succ]
        refine anyTill.done (by kernel_rfl) ?_ _
        clear hHeld c1 f1
        have gS := grown_set wx a1 3 (.slice (some ⟨g9, 0, none⟩) (acc.length + 1) cap9)
        have L12 : Hid (BoxO (wx.setCell ⟨a1, 3, none⟩ (.slice (some ⟨g9, 0, none⟩) (acc.length + 1) cap9)) a1 #[.string ⟨x1.toArray⟩, .string ⟨x5.toArray⟩, v4, (.slice (some ⟨g9, 0, none⟩) (acc.length + 1) cap9)] 46) := Lib.hid (l11.put 3 (.slice (some ⟨g9, 0, none⟩) (acc.length + 1) cap9))
        have T12 := Lib.hid (t11.grown gS (fun e => e12 (by injection e with e; exact e.symm)))
        have R12 := Lib.hid ((((rD.grown hg9 nR).grown gA (fun e => by cases e)).grown hgx (fun e => by have := (hrr _ e.symm).1; omega)).grown gS (fun e => e1R (by injection e with e; exact e.symm)))
        have O12 := Lib.hid ((((oD.kept hg9 (.inr hv4p)).alloc (.cells (iC x9 Aa ca Ab cb Ac cc An cn Ap cp) 69)).kept hgx (by cases hq : v4.ownBlock with | none => exact .inl rfl | some g => exact .inr fun e => by have h1 := hv42 g hq; have h2 := (hrr g e.symm).1; omega)).kept gS (.inr hv41))
        have A12 := Lib.hid (mx.set 3 (.slice (some ⟨g9, 0, none⟩) (acc.length + 1) cap9))
        have B12 : base2 ≤ (wx.setCell ⟨a1, 3, none⟩ (.slice (some ⟨g9, 0, none⟩) (acc.length + 1) cap9)).heap.size := by have h1 := hg9.size; have h2 := hgx.size; simp at *; omega
        have X12 := Lib.hid (((hx9.alloc (.cells (iC x9 Aa ca Ab cb Ac cc An cn Ap cp) 69)).grown hgx (fun g e => by have := (hrr g e).1; omega)).grown gS (fun g e => by injection e; omega))
        have G12 := Lib.hid (grown_row (grown_row ((gD.trans hg9).trans (World.grownBy_alloc w9 (.cells (iC x9 Aa ca Ab cb Ac cc An cn Ap cp) 69) _)) hgx (fun g e => by have := (hrr g e).1; omega)) gS (fun g e => by injection e; omega))
        clear gS gA hxD lD tD rD oD aD gD bD hir hx9 hg9 hi l9 t9 l10 t10 mx hgx hrr l11 t11
        generalize (wx.setCell ⟨a1, 3, none⟩ (.slice (some ⟨g9, 0, none⟩) (acc.length + 1) cap9)) = Y at *
        have c2 := T12.out.c1
        cases hm6 : expect s_semi l9 with
        | no a =>
          have HMM := Lib.hid (HMK.out.trans (bind_no (HM4.out.trans (by rw [show mstep acc lk = .no a from (bind_ok hm5).trans (bind_no hm6)]))))
          have HC6 := Lib.hid (fun W (hW : PX n pb l9 W) => rd_no (expect_any n pb l9 ⟨#[59]⟩ W hW.ps (by decide)) hm6)
          clear hm5 hm6
          go_wp2_with (go_at_call 138; with_reducible refine (HC6.out _ X12.out).mono ?_; rintro e w13 ⟨rfl, hg13⟩)
          exact ⟨rfl, Gives.of_no HMM.out (G12.out.trans hg13)⟩
        | ok u13 l13 =>
          have hst : mstep acc lk = .ok (acc ++ [x9]) l13 := (bind_ok hm5).trans (bind_ok hm6)
          have HMM := Lib.hid (HMK.out.trans (bind_of (HM4.out.trans (by rw [hst]))))
          have HLEN := Lib.hid ((mstep_keeps acc).out lk _ l13 HLT.out hst).2.1
          have HC6 := Lib.hid (fun W (hW : PX n pb l9 W) => rd_is (g := fun _ : Unit => Value.tuple #[]) (expect_any n pb l9 ⟨#[59]⟩ W hW.ps (by decide)) hW hm6)
          clear hm5 hm6 hst
          go_wp2_with (go_at_call 138; with_reducible refine (HC6.out _ X12.out).mono ?_; rintro e w13 ⟨rfl, hx13, hg13⟩)
          have HRE : Hid (MoAt n pb a1 a2 base base2 x1 x5 ps v4 l w w13) := Lib.hid ⟨l13, acc ++ [x9], (.slice (some ⟨g9, 0, none⟩) (acc.length + 1) cap9), hx13, L12.out.grown hg13 n1, T12.out.grown hg13 n2, R12.out.grown hg13 nR, O12.out.kept hg13 (.inr hv4p), A12.out.grown hg13 hp2, Nat.le_trans B12 hg13.size, G12.out.trans hg13, by have h1 := HBD.out; have h2 := HLEN.out; rw [List.length_append]; simp; omega, HMM.out⟩
          have HL13 := Lib.hid hx13.left
          go_roundw
          case rel => exact HRE.out
          case measure => have h1 := HLE.out; have h2 := HL13.out; have h3 := HLEN.out; omega

end Sy
end Go.Proofs.YtggeepimihhpjaaGreatDoor
