/- The reference's PutIn. -/
import Derived.Test.YtcdoalfpaldbmaaV5
namespace Go.Proofs.Ytcdoalfpaldbmaa
open Go.RowKit Sl Fr Dg
namespace Jn
set_option linter.unusedVariables false

theorem BoxL.low {w w' : World} {n b : Nat} {zs : Array Value} (h : BoxL w b zs) (hb : Below n w w') (hn : b < n) : BoxL w' b zs :=
  ⟨Nat.lt_of_lt_of_le h.lt hb.size, fun i v hv => ⟨(hb.cell (p := ⟨b, i, none⟩) hn).trans (h.cells i v hv).1, (hb.frozen (p := ⟨b, i, none⟩) hn).trans (h.cells i v hv).2⟩⟩
def emptyS (n : Nat) : FSpec := ⟨fun v => ∃ b, v = .slice (some ⟨b, 0, none⟩) 0 0, fun _ v wm => Own n wm v []⟩
def ownS (n : Nat) (l : List Int) : FSpec := ⟨fun v => ∃ A c, v = .slice A l.length c, fun _ v wm => Own n wm v l⟩
def freshS (k : Nat) (R : Option Addr → World → Prop) : FSpec := ⟨fun v => ∃ A c, v = .slice A k c ∧ (A = none → False), fun _ v wm => ∀ A c, v = .slice A k c → R A wm⟩

/-- What PutIn gives: its bytes, if there is no error, are the call's own. -/
def GiveLO (w : World) (p : List Int × Int) (e : Ending) (w' : World) : Prop :=
  ∃ A c, e = .returned (.agg #[.slice A p.1.length c, .int .i64 p.2]) ∧ p.1.length ≤ c ∧ (A = none → p.1 = [] ∧ c = 0) ∧ ArrF w' w.heap.size A (u8s p.1) ∧ (p.2 = 0 → Own w.heap.size w' (.slice A p.1.length c) p.1) ∧ Below w.heap.size w w'
set_option maxRecDepth 20000 in
set_option maxHeartbeats 4000000 in
theorem rputin_own (A B : Option Addr) (bs rest r : List Int) (rs : List (List Int)) (c d : Nat) (w : World) (hA : Byt w A bs) (hn : A = none → bs = [] ∧ c = 0) (hb8 : B8 bs) (hl : bs.length ≤ 100000) (hc : bs.length ≤ c) (hp : Parses 0 bs rs rest)
    (hB : Arr w B (i64s r)) (hr : ∀ x ∈ r, I64 x) (hrl : r.length ≤ 100000) :
    Calls Try.prog 15 #[.slice A bs.length c, .slice B r.length d] w (GiveLO w (putF bs rest rs r)) := by
  have hst := start1 w #[.slice none 0 0, .int .i64 0] 37
  have hsz : (w.alloc (.cells #[.slice none 0 0, .int .i64 0] 37)).heap.size = w.heap.size + 1 := World.size_alloc _ _
  go_enter Try.func15, Try.ntmps15
  go_upto_region 1 with fail
  generalize w.alloc (.cells #[.slice none 0 0, .int .i64 0] 37) = X at *
  obtain ⟨hbx, hbX⟩ := hst
  have HSZ := Lib.hid hsz
  clear hsz
  have hrd := rreadin_any A bs rest rs c X (hA.keep hbX) hb8 hl hc hn hp
  have HA := Lib.hid (hA.keep hbX)
  have HB := Lib.hid (hB.keep hbX)
  have HN := Lib.hid hn
  have HR := Lib.hid hr
  clear hA hB hn hr hb8
  by_cases h1 : 256 < r.length
  · have HPF := Lib.hid (show putF bs rest rs r = ([], 1) by unfold putF; rw [if_pos h1])
    clear hrd hp
    obtain ⟨f0, f1⟩ := hbx.f2
    obtain ⟨k0, k1⟩ := hbx.c2
    have hs := Lib.hid (hbx.s2 (.slice none 0 0) (.int .i64 1))
    have HBB := Lib.hid (below_s2 hbX (Nat.le_refl _) (.slice none 0 0) (.int .i64 1))
    go_wp2
    generalize (X.setCell ⟨w.heap.size, 0, none⟩ (.slice none 0 0)).setCell ⟨w.heap.size, 1, none⟩ (.int .i64 1) = Z at *
    obtain ⟨s0, s1⟩ := hs.out.c2
    refine bodyPost_ret (v := .agg #[.slice none 0 0, .int .i64 1]) (by simp [results, Try.results15, go_sem, s0, s1]) rfl ?_
    rw [HPF.out]
    exact ⟨none, 0, rfl, by simp, (fun _ => ⟨rfl, rfl⟩), (fun h => absurd rfl h), (fun h => absurd h (by decide)), HBB.out⟩
  have hr0 : rest = [] ∧ errR rest = 0 ∨ rest ≠ [] ∧ errR rest = 60 := by
    by_cases h : rest = []
    · exact .inl ⟨h, by subst h; rfl⟩
    · exact .inr ⟨h, if_neg h⟩
  have HR0 := Lib.hid hr0
  have hkey : Dg.R (sealK 0 rs) := sealK_R 0 rs ⟨by decide, by decide⟩
  have HPT : Hid (putF bs rest rs r = if rest ≠ [] then ([], 60) else if 65536 < bs.length + 8 * (r.length + 3) then ([], 2) else (bs ++ enc (sealK 0 rs) r, 0)) := Lib.hid (by unfold putF; rw [if_neg h1])
  unfold GiveRI at hrd
  generalize sealK 0 rs = key at *
  generalize hE : (jour 0 rs).length = E at *
  generalize errR rest = er at *
  clear hr0 hE hkey hp
  go_upto_region 4 with (go_at_call 13; refine hrd.mono ?_; rintro e w1 ⟨A', c', rfl, _, _, hb1⟩)
  have hst2 := start1 w1 #[.slice A' rs.length c', .slice (subA A E c) rest.length (c - E), .int .i64 er, .int .i64 (E : Int), .int .u64 key] 34
  have hbxV := (hbx.keep hb1).keep hst2.2
  have hXV := hb1.trans (hst2.2.mono hb1.size)
  have hbV := hbX.trans (hXV.mono hbX.size)
  have hMb := hst2.1
  clear hrd hst2 hbx
  generalize w1.alloc (.cells #[.slice A' rs.length c', .slice (subA A E c) rest.length (c - E), .int .i64 er, .int .i64 (E : Int), .int .u64 key] 34) = V at *
  generalize w1.heap.size = M at *
  obtain ⟨mc0, mc1, mc2, mc3, mc4⟩ := hMb.c5
  rcases HR0.out with ⟨hre, rfl⟩ | ⟨hre, rfl⟩
  case inr =>
    have HPF := Lib.hid (HPT.out.trans (if_pos hre))
    clear hre HR0 HPT
    obtain ⟨f0, f1⟩ := hbxV.f2
    obtain ⟨k0, k1⟩ := hbxV.c2
    have hs := Lib.hid (hbxV.s2 (.slice none 0 0) (.int .i64 60))
    have HBB := Lib.hid (below_s2 hbV (Nat.le_refl _) (.slice none 0 0) (.int .i64 60))
    go_wp2
    generalize (V.setCell ⟨w.heap.size, 0, none⟩ (.slice none 0 0)).setCell ⟨w.heap.size, 1, none⟩ (.int .i64 60) = Z at *
    obtain ⟨s0, s1⟩ := hs.out.c2
    refine bodyPost_ret (v := .agg #[.slice none 0 0, .int .i64 60]) (by simp [results, Try.results15, go_sem, s0, s1]) rfl ?_
    rw [HPF.out]
    exact ⟨none, 0, rfl, by simp, (fun _ => ⟨rfl, rfl⟩), (fun h => absurd rfl h), (fun h => absurd h (by decide)), HBB.out⟩
  have HPU := Lib.hid (HPT.out.trans (if_neg (by simpa using hre)))
  clear HPT hre HR0
  by_cases h3 : 65536 < bs.length + 8 * (r.length + 3)
  · have HPF := Lib.hid (HPU.out.trans (if_pos h3))
    have h3' : (65536 : Int) < (bs.length : Int) + 24 + 8 * (r.length : Int) := by omega
    clear h3 HPU
    obtain ⟨f0, f1⟩ := hbxV.f2
    obtain ⟨k0, k1⟩ := hbxV.c2
    have hs := Lib.hid (hbxV.s2 (.slice none 0 0) (.int .i64 2))
    have HBB := Lib.hid (below_s2 hbV (Nat.le_refl _) (.slice none 0 0) (.int .i64 2))
    go_wp2
    generalize (V.setCell ⟨w.heap.size, 0, none⟩ (.slice none 0 0)).setCell ⟨w.heap.size, 1, none⟩ (.int .i64 2) = Z at *
    obtain ⟨s0, s1⟩ := hs.out.c2
    refine bodyPost_ret (v := .agg #[.slice none 0 0, .int .i64 2]) (by simp [results, Try.results15, go_sem, s0, s1]) rfl ?_
    rw [HPF.out]
    exact ⟨none, 0, rfl, by simp, (fun _ => ⟨rfl, rfl⟩), (fun h => absurd rfl h), (fun h => absurd h (by decide)), HBB.out⟩
  have HPF := Lib.hid (HPU.out.trans (if_neg h3))
  have h3' : ¬ (65536 : Int) < (bs.length : Int) + 24 + 8 * (r.length : Int) := by omega
  clear HPU
  go_upto_region 8 with fail
  clear mc0 mc1 mc2 mc3 mc4 h3'
  have hMc : ∀ wz, Below V.heap.size V wz → wz.cell? ⟨M, 4, none⟩ = some (.int .u64 key) := fun wz hz => (hMb.keep hz).get (i := 4) rfl
  have FE := fun (wz : World) (hz : Below V.heap.size V wz) => rencoded_any key B r d wz ((HB.out.keep hXV).keep hz) ⟨by omega, HR.out⟩
  have FA := fun (wz : World) (hz : Below V.heap.size V wz) => (HA.out.keep hXV).keep hz
  have hen : (enc key r).length = 8 * (r.length + 3) := enc_length key r
  have HEN := Lib.hid hen
  have hne : enc key r ≠ [] := by intro e; rw [e] at hen; simp at hen
  have HNE := Lib.hid hne
  clear hen hne
  generalize enc key r = en at *
  refine wp_region_flow 7 [emptyS V.heap.size, .det (.slice A bs.length c), ownS V.heap.size bs, .det (.pointer (some ⟨M, 4, none⟩)), .det (.int .u64 key), .det (.slice B r.length d), freshS en.length (fun A wm => Arr wm A (u8s en))] (by kernel_rfl) (by kernel_rfl) rfl ?_
  simp only [List.take_succ_cons, List.take_zero, List.drop_succ_cons, List.drop_zero]
  refine flowL_make (⟨_, 0, rfl⟩) (fun wz hz hd => stepF_walk (by rfl) (fun K hK => ?_)) (fun v hv => ?_)
  · go_simp
    exact hK.out _ _ ⟨_, rfl⟩ (own_empty wz V.heap.size hz.size) ((Below.refl _ _).alloc (Nat.le_refl _) _)
  obtain ⟨b0, rfl⟩ := hv
  simp only [Act.put, List.setIfInBounds_toArray, List.set_cons_zero, List.set_cons_succ]
  refine flowL_det (fun wz hz hd => stepF_reads (by rfl) ?_) ?_
  · go_simp; try rfl
  simp only [Act.put, List.setIfInBounds_toArray, List.set_cons_zero, List.set_cons_succ]
  refine flowL_make (⟨_, none, 0, rfl⟩) (fun wz hz hd => stepF_walk (by rfl) (fun K hK => ?_)) (fun v hv => ?_)
  · obtain ⟨p, hp⟩ := dep_of hd 0 (by decide +kernel)
    refine op_append0 wz _ _ rfl V.heap.size b0 rfl (row_keep hp.post hp.since) A bs c rfl HN.out (FA wz hz) (by omega) hz.size ?_
    intro v9 w9 ho9 hb9
    obtain ⟨A9, c9, e9, _, _, _⟩ := own_form ho9
    subst e9
    exact hK.out _ _ ⟨A9, c9, rfl⟩ ho9 hb9
  obtain ⟨A9, c9, rfl⟩ := hv
  simp only [Act.put, List.setIfInBounds_toArray, List.set_cons_zero, List.set_cons_succ]
  refine flowL_det (fun wz hz hd => stepF_reads (by rfl) ?_) ?_
  · go_simp; try rfl
  simp only [Act.put, List.setIfInBounds_toArray, List.set_cons_zero, List.set_cons_succ]
  refine flowL_det (fun wz hz hd => stepF_reads (by rfl) ?_) ?_
  · have q := hMc wz hz; go_simp; try rfl
  simp only [Act.put, List.setIfInBounds_toArray, List.set_cons_zero, List.set_cons_succ]
  refine flowL_det (fun wz hz hd => stepF_reads (by rfl) ?_) ?_
  · go_simp; try rfl
  simp only [Act.put, List.setIfInBounds_toArray, List.set_cons_zero, List.set_cons_succ]
  refine flowL_make (⟨_, some ⟨0, 0, none⟩, 0, rfl, fun e => by cases e⟩) (fun wz hz hd => stepF_walk (by rfl) (fun K hK => ?_)) (fun v hv => ?_)
  · go_wp2_with fail
    go_at_call 28
    refine (FE wz hz).mono ?_
    rintro e w9 ⟨A8, c8, rfl, _, g2, g3, hb⟩
    exact hK.out _ _ ⟨A8, c8, rfl, fun e => HNE.out (g2 e).1⟩ (fun B c e => by cases e; exact g3.arr) hb
  obtain ⟨A8, c8, rfl, hA8⟩ := hv
  simp only [Act.put, List.setIfInBounds_toArray, List.set_cons_zero, List.set_cons_succ]
  intro w4 ps hb4 hF hap
  have d2 : Did (ownS V.heap.size bs) (ps 2) _ w4 := (hF 2 (by decide)).1
  have d6 : Did (freshS en.length (fun A wm => Arr wm A (u8s en))) (ps 6) _ w4 := (hF 6 (by decide)).1
  have ho4 := row_keep d2.post d2.since
  have ha4 := Arr.keep (d6.post A8 c8 rfl) d6.since
  have hx4 := hbxV.keep hb4
  have hw4 := hbV.trans (hb4.mono hbV.size)
  have hVw : w.heap.size < V.heap.size := by have := HSZ.out; have := hXV.size; omega
  have HO4 := Lib.hid ho4
  have HA4 := Lib.hid ha4
  have HB4 := Lib.hid hb4
  clear hF hap d2 d6 ho4 ha4
  go_wp2_with (at_builtin; go_loud (refine wpList_bytes w4 rfl _ _ rfl V.heap.size (.slice (A9) bs.length c9) bs rfl HO4.out A8 en c8 rfl (fun e => (hA8 e).elim) HA4.out (by have := HEN.out; omega) HB4.out.size ?_; intro v5 w5 ho5 hb5; obtain ⟨A5, c5, e5, g1, g2, g3⟩ := own_form ho5; subst e5; have hx5 := BoxL.low hx4 hb5 hVw; obtain ⟨k0, k1⟩ := hx5.c2; obtain ⟨f0, f1⟩ := hx5.f2; go_frame))
  have hs := Lib.hid (hx5.s2 (.slice A5 (bs.length + en.length) c5) (.int .i64 0))
  have HBB := Lib.hid (below_s2 (hw4.trans (hb5.mono (by omega))) (Nat.le_refl _) (.slice A5 (bs.length + en.length) c5) (.int .i64 0))
  have G4 := Lib.hid ((ArrF.set g3 (p := ⟨w.heap.size, 0, none⟩) hVw (.slice A5 (bs.length + en.length) c5)).set (p := ⟨w.heap.size, 1, none⟩) hVw (.int .i64 0))
  have hla : (bs ++ en).length = bs.length + en.length := List.length_append
  rw [hla] at ho5
  have HOW := Lib.hid (row_put (row_put ho5 (p := ⟨w.heap.size, 0, none⟩) hVw (.slice A5 (bs.length + en.length) c5)) (p := ⟨w.heap.size, 1, none⟩) hVw (.int .i64 0))
  have HG1 := Lib.hid g1
  have HG2 := Lib.hid g2
  clear g3 hx5 k0 k1 f0 f1 g1 g2 ho5 hla
  generalize (w5.setCell ⟨w.heap.size, 0, none⟩ (.slice A5 (bs.length + en.length) c5)).setCell ⟨w.heap.size, 1, none⟩ (.int .i64 0) = Z at *
  obtain ⟨s0, s1⟩ := hs.out.c2
  refine bodyPost_ret (v := .agg #[.slice A5 (bs.length + en.length) c5, .int .i64 0]) (by simp [results, Try.results15, go_sem, s0, s1]) rfl ?_
  rw [HPF.out]
  exact ⟨A5, c5, by rw [List.length_append], HG1.out, HG2.out, G4.out.mono (by omega), (fun _ => by show Own _ _ (.slice A5 (bs ++ en).length c5) (bs ++ en); rw [List.length_append]; exact World.ownsRow.mono HOW.out (by omega)), HBB.out⟩
theorem rputin_any (A B : Option Addr) (bs rest r : List Int) (rs : List (List Int)) (c d : Nat) (w : World) (hA : Byt w A bs) (hn : A = none → bs = [] ∧ c = 0) (hb8 : B8 bs) (hl : bs.length ≤ 100000) (hc : bs.length ≤ c) (hp : Parses 0 bs rs rest)
    (hB : Arr w B (i64s r)) (hr : ∀ x ∈ r, I64 x) (hrl : r.length ≤ 100000) :
    Calls Try.prog 15 #[.slice A bs.length c, .slice B r.length d] w (GiveLP w (putF bs rest rs r)) :=
  (rputin_own A B bs rest r rs c d w hA hn hb8 hl hc hp hB hr hrl).mono fun e w' ⟨A', c', h1, h2, h3, h4, _, h5⟩ => ⟨A', c', h1, h2, h3, h4, h5⟩
end Jn
end Go.Proofs.Ytcdoalfpaldbmaa
